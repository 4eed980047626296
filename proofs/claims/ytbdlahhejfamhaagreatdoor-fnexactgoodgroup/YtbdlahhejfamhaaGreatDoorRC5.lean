/- Lists of matchers: szMatcherS, toMatcherS, eqMatcherS. -/
import Derived.Test.YtbdlahhejfamhaaGreatDoorRA1
import Derived.Test.YtbdlahhejfamhaaGreatDoorRPaj
namespace Go.Proofs.YtbdlahhejfamhaaGreatDoor.Pat
open Go.RowKit

abbrev Mt := ByteArray × Int × ByteArray
def m0 : Mt := (ByteArray.empty, 0, ByteArray.empty)
def HasM (w : World) (a : Option Addr) (ms : List Mt) : Prop :=
  ms = [] ∨ ∃ b off, a = some ⟨b, off, none⟩ ∧ b < w.heap.size ∧ ∀ i, i < ms.length → w.cell? ⟨b, off + i * 3, none⟩ = some (.string (ms.getD i m0).1) ∧ w.cell? ⟨b, off + i * 3 + 1, none⟩ = some (.int .i64 (ms.getD i m0).2.1) ∧ w.cell? ⟨b, off + i * 3 + 2, none⟩ = some (.string (ms.getD i m0).2.2)
theorem HasM.below {w w' : World} {a : Option Addr} {ms : List Mt} (h : HasM w a ms) (hb : Below w.heap.size w w') : HasM w' a ms := by
  rcases h with h | ⟨b, off, h1, h2, h3⟩
  · exact .inl h
  · exact .inr ⟨b, off, h1, Nat.lt_of_lt_of_le h2 hb.size, fun i hi => ⟨(hb.cell (by exact h2)).trans (h3 i hi).1, (hb.cell (by exact h2)).trans (h3 i hi).2.1, (hb.cell (by exact h2)).trans (h3 i hi).2.2⟩⟩
def FitM (ms : List Mt) : Prop := ∀ i, (ms.getD i m0).1.size ≤ maxLen ∧ (ms.getD i m0).2.2.size ≤ maxLen ∧ -9223372036854775808 ≤ (ms.getD i m0).2.1 ∧ (ms.getD i m0).2.1 ≤ 9223372036854775807

theorem f100 (s t : ByteArray) (o x : Int) (w : World) (hs : s.size ≤ maxLen) (ht : t.size ≤ maxLen) (hx0 : 0 ≤ x) (hx1 : x ≤ 1048576) :
    Calls Tryz.prog 100 #[.agg #[.string s, .int .i64 o, .string t], .int .i64 x] w fun e w' => ∃ y : Int, e = .returned (.int .i64 y) ∧ -1 ≤ y ∧ y ≤ 1048576 ∧ Below w.heap.size w w' := by
  unfold maxLen at hs ht
  have HB := hid ((Below.refl w.heap.size w).alloc (Nat.le_refl _) (.cells #[.string s, .int .i64 o, .string t] 161))
  by_cases h1 : x < s.size
  · go_enter Tryz.func100, Tryz.ntmps100
    go_wp2
    go_ret
    exact ⟨-1, rfl, by omega, by omega, HB.out⟩
  · by_cases h2 : x < s.size + t.size
    · go_enter Tryz.func100, Tryz.ntmps100
      go_wp2
      go_ret
      exact ⟨-1, rfl, by omega, by omega, HB.out⟩
    · go_enter Tryz.func100, Tryz.ntmps100
      go_wp2
      go_ret
      exact ⟨_, rfl, by omega, by omega, HB.out⟩

set_option maxHeartbeats 1000000 in
theorem f59 (a : Option Addr) (n c : Nat) (ms : List Mt) (w : World) (hn : ms.length = n) (hr : HasM w a ms) (hf : FitM ms) (hmax : n ≤ maxLen) :
    Calls Tryz.prog 59 #[.slice a n c, .int .i64 1048576] w fun e w' => ∃ y : Int, e = .returned (.int .i64 y) ∧ (0 ≤ y → n ≤ 1048576) ∧ -1 ≤ y ∧ y ≤ 1048576 ∧ Below w.heap.size w w' := by
  unfold maxLen at hmax
  by_cases hbig : n ≤ 1048576
  · have HN := hid hn
    clear hn
    go_enter Tryz.func59, Tryz.ntmps59
    go_wp2
    go_loopw [1, 5] (fun sx i wr => ∃ (k : Nat) (x : Int), k ≤ n ∧ i = .int .i64 k ∧ sx = .int .i64 x ∧ 0 ≤ x ∧ x ≤ 1048576 ∧ Below w.heap.size w wr) (fun _ i _ => n - (intOf i).toNat)
    case atStart => exact ⟨0, _, Nat.zero_le _, rfl, rfl, by omega, by omega, Below.refl _ _⟩
    case round =>
      obtain ⟨k, x, hk, rfl, rfl, hx0, hx1, hb⟩ := hrel
      have HB := hid hb
      by_cases hlt : k < n
      · rcases hr with h | ⟨b, off, rfl, h2, h3⟩
        · exfalso; rw [h] at HN; have := HN.out; simp at this; omega
        obtain ⟨c0, c1, c2⟩ := h3 k (by rw [HN.out]; exact hlt)
        obtain ⟨g0, g1, -, -⟩ := hf k
        have d0 := (hb.cell (p := ⟨b, off + k * 3, none⟩) h2).trans c0
        have d1 := (hb.cell (p := ⟨b, off + k * 3 + 1, none⟩) h2).trans c1
        have d2 := (hb.cell (p := ⟨b, off + k * 3 + 2, none⟩) h2).trans c2
        clear h3 c0 c1 c2 hb
        generalize (ms.getD k m0).1 = s at *
        generalize (ms.getD k m0).2.1 = o at *
        generalize (ms.getD k m0).2.2 = t at *
        go_wp2_with fail
        refine (f100 s t o x _ g0 g1 hx0 hx1).mono ?_
        rintro e w2 ⟨y, rfl, y0, y1, hb2⟩
        have HB2 := hid (HB.out.trans (hb2.mono HB.out.size))
        clear hb2 d0 d1 d2
        by_cases hy : y < 0
        · go_wp2
          go_ret
          exact ⟨-1, rfl, fun h => absurd h (by omega), by omega, by omega, HB2.out⟩
        · go_wp2
          go_roundw
          case rel => exact ⟨k + 1, y, by omega, by go_num, rfl, by omega, y1, HB2.out⟩
          case measure => simp [intOf]; omega
      · go_wp2
        go_ret
        exact ⟨x, rfl, fun _ => hbig, by omega, hx1, HB.out⟩
  · go_enter Tryz.func59, Tryz.ntmps59
    go_wp2
    go_ret
    exact ⟨-1, rfl, by omega, by omega, by omega, Below.refl _ _⟩

set_option maxHeartbeats 1000000 in
theorem f102 (s t : ByteArray) (o : Int) (w : World) : Calls Tryz.prog 102 #[.agg #[.string s, .int .i64 o, .string t]] w fun e w' => e = .returned (.agg #[.string s, .int .i64 o, .string t]) ∧ Below w.heap.size w w' := by
  go_enter Tryz.func102, Tryz.ntmps102
  go_wp2
  refine bodyPost_ret (v := .agg #[.string s, .int .i64 o, .string t]) (by simp [results, Tryz.results102, go_sem]) rfl ⟨rfl, ?_⟩
  exact (((Below.refl w.heap.size w).alloc (Nat.le_refl _) _).alloc (by simp) _).alloc (by simp; omega) _

def flatM (L : List Mt) : List Value := L.flatMap fun p => [.string p.1, .int .i64 p.2.1, .string p.2.2]
theorem flatM_cons (p : Mt) (L : List Mt) : flatM (p :: L) = .string p.1 :: .int .i64 p.2.1 :: .string p.2.2 :: flatM L := rfl
theorem flatM_len (L : List Mt) : (flatM L).length = L.length * 3 := by
  induction L with
  | nil => rfl
  | cons p L ih => rw [flatM_cons]; simp [ih]; omega
theorem flatM_get : ∀ (L : List Mt) (i : Nat), i < L.length → (flatM L)[i * 3]? = some (.string (L.getD i m0).1) ∧ (flatM L)[i * 3 + 1]? = some (.int .i64 (L.getD i m0).2.1) ∧ (flatM L)[i * 3 + 2]? = some (.string (L.getD i m0).2.2) := by
  intro L
  induction L with
  | nil => intro i h; simp at h
  | cons p L ih =>
    intro i h
    cases i with
    | zero => exact ⟨rfl, rfl, rfl⟩
    | succ i =>
      have := ih i (by simpa using h)
      rw [flatM_cons, show (i + 1) * 3 = i * 3 + 1 + 1 + 1 from by omega, show i * 3 + 1 + 1 + 1 + 1 = (i * 3 + 1) + 1 + 1 + 1 from rfl, show i * 3 + 1 + 1 + 1 + 2 = (i * 3 + 2) + 1 + 1 + 1 from rfl]
      simpa using this
theorem flatM_set : ∀ (L : List Mt) (i : Nat) (s t : ByteArray) (o : Int), i < L.length → (((flatM L).set (i * 3) (.string s)).set (i * 3 + 1) (.int .i64 o)).set (i * 3 + 2) (.string t) = flatM (L.set i (s, o, t)) := by
  intro L
  induction L with
  | nil => intro i s t o h; simp at h
  | cons p L ih =>
    intro i s t o h
    cases i with
    | zero => rfl
    | succ i =>
      have := ih i s t o (by simpa using h)
      rw [List.set_cons_succ, flatM_cons, flatM_cons, ← this, show (i + 1) * 3 = i * 3 + 1 + 1 + 1 from by omega, show i * 3 + 1 + 1 + 1 + 1 = (i * 3 + 1) + 1 + 1 + 1 from rfl, show i * 3 + 1 + 1 + 1 + 2 = (i * 3 + 2) + 1 + 1 + 1 from rfl]
      rfl
theorem made_three (n : Nat) : (madeCells #[.string ByteArray.empty, .int .i64 0, .string ByteArray.empty] (n * 3)).toList = flatM (List.replicate n m0) := by
  apply List.ext_getElem?
  intro j
  by_cases hj : j < n * 3
  · obtain ⟨g0, g1, g2⟩ := flatM_get (List.replicate n m0) (j / 3) (by simp; omega)
    have h2 : (List.replicate n m0).getD (j / 3) m0 = m0 := by
      rw [List.getD_eq_getElem?_getD, List.getElem?_replicate]; split <;> rfl
    rw [h2] at g0 g1 g2
    have e1 : ∀ (r : Nat) (x : Value), j % 3 = r → [Value.string ByteArray.empty, .int .i64 0, .string ByteArray.empty][r]?.getD default = x → (madeCells #[.string ByteArray.empty, .int .i64 0, .string ByteArray.empty] (n * 3)).toList[j]? = some x := by
      intro r x hr hx
      unfold madeCells
      simp [hj]
      rw [hr]; exact hx
    rcases (show j % 3 = 0 ∨ j % 3 = 1 ∨ j % 3 = 2 by omega) with h | h | h
    · rw [e1 0 _ h rfl, show j = j / 3 * 3 from by omega]; exact g0.symm
    · rw [e1 1 _ h rfl, show j = j / 3 * 3 + 1 from by omega]; exact g1.symm
    · rw [e1 2 _ h rfl, show j = j / 3 * 3 + 2 from by omega]; exact g2.symm
  · rw [List.getElem?_eq_none (by simp [size_madeCells]; omega), List.getElem?_eq_none (by rw [flatM_len]; simp; omega)]
theorem HasM.own {w : World} {base g n c : Nat} {ms : List Mt} (h : w.ownsRow base 138 3 (.slice (some ⟨g, 0, none⟩) n c) n (flatM ms)) : HasM w (some ⟨g, 0, none⟩) ms := by
  have hl := h.1
  rw [flatM_len] at hl
  refine .inr ⟨g, 0, rfl, (h.lt g rfl).2, fun i hi => ?_⟩
  obtain ⟨h0, h1, h2⟩ := flatM_get ms i hi
  rw [Nat.zero_add]
  exact ⟨(h.cellAt (i * 3) (by omega)).trans h0, (h.cellAt (i * 3 + 1) (by omega)).trans h1, (h.cellAt (i * 3 + 2) (by omega)).trans h2⟩
theorem info69 : (Tryz.prog.info? 138).map (fun i => (i.zero, i.size, i.bytes)) = some (some (.agg #[.string ByteArray.empty, .int .i64 0, .string ByteArray.empty]), 3, 40) := by kernel_rfl
theorem stepM_set (ms : List Mt) (n k : Nat) (hn : ms.length = n) (hk : k < n) : (ms.take k ++ List.replicate (n - k) m0).set k (ms.getD k m0) = ms.take (k + 1) ++ List.replicate (n - (k + 1)) m0 := by
  have hl : (ms.take k).length = k := by simp; omega
  rw [List.set_append_right _ _ (by omega), hl, Nat.sub_self, show n - k = (n - (k + 1)) + 1 from by omega, List.replicate_succ, List.set_cons_zero, List.take_succ_eq_append_getElem (by omega), List.append_assoc]
  congr 2
  simp [hn, hk]
theorem stepM_len (ms : List Mt) (n k : Nat) (hn : ms.length = n) (hk : k ≤ n) : (ms.take k ++ List.replicate (n - k) m0).length = n := by simp; omega

set_option maxHeartbeats 1000000 in
theorem f64 (a : Option Addr) (n c : Nat) (ms : List Mt) (w : World) (hn : ms.length = n) (hb : n ≤ 1048576) (hr : HasM w a ms) :
    Calls Tryz.prog 64 #[.slice a n c] w fun e w' => e = .returned (.slice (some ⟨w.heap.size, 0, none⟩) n n) ∧
      w'.ownsRow w.heap.size 138 3 (.slice (some ⟨w.heap.size, 0, none⟩) n n) n (flatM ms) ∧ Below w.heap.size w w' := by
  obtain ⟨i0, hi, hz0, hz1, hz2⟩ := info_parts info69
  have HN : Hid (ms.length = n) := hn
  clear hn
  go_enter Tryz.func64, Tryz.ntmps64
  go_wp2_with (at_make; refine wpList_make_full _ rfl _ _ 53 rfl w.heap.size 138 i0 (.agg #[.string ByteArray.empty, .int .i64 0, .string ByteArray.empty]) 3 Tryz.underlying53 hi hz0 hz1 _ _ _ _ n rfl rfl rfl rfl ?b2 ?b3 (Nat.le_refl _) ?_)
  case b2 => rw [hz2]; omega
  case b3 => unfold maxLen; omega
  intro w0 hown0 hgrow0
  have hown1 : Hid (w0.ownsRow w.heap.size 138 3 (.slice (some ⟨w.heap.size, 0, none⟩) n n) n (flatM (List.replicate n m0))) := by
    rw [← made_three]; exact hown0
  have hb0 := hid ((Below.refl w.heap.size w).grown hgrow0 (Nat.le_refl _) (fun k h => by cases h))
  clear hown0 hgrow0
  go_wp2
  go_loopw [4] (fun i wr => ∃ k : Nat, k ≤ n ∧ i = .int .i64 k ∧ wr.ownsRow w.heap.size 138 3 (.slice (some ⟨w.heap.size, 0, none⟩) n n) n (flatM (ms.take k ++ List.replicate (n - k) m0)) ∧ Below w.heap.size w wr)
    (fun i _ => n - (intOf i).toNat)
  case atStart => exact ⟨0, Nat.zero_le _, rfl, by simpa using hown1.out, hb0.out⟩
  case round =>
    obtain ⟨k, hk, rfl, hown, hnx⟩ := hrel
    by_cases hlt : k < n
    · rcases hr with hr | ⟨b, off, rfl, hbl, hc⟩
      · exact absurd HN.out (by rw [hr]; simp; omega)
      · obtain ⟨c0, c1, c2⟩ := hc k (by rw [HN.out]; exact hlt)
        have d0 := (hnx.cell (p := ⟨b, off + k * 3, none⟩) hbl).trans c0
        have d1 := (hnx.cell (p := ⟨b, off + k * 3 + 1, none⟩) hbl).trans c1
        have d2 := (hnx.cell (p := ⟨b, off + k * 3 + 2, none⟩) hbl).trans c2
        have HO := hid hown
        have HX := hid hnx
        have HST := hid (stepM_set ms n k HN.out hlt)
        have HSL := hid (stepM_len ms n k HN.out hk)
        clear hc c0 c1 c2 hown hnx hown1 hb0
        generalize hp : ms.getD k m0 = p at *
        obtain ⟨s, o, t⟩ := p
        clear hp
        go_wp2_with fail
        refine (f102 s t o _).mono ?_
        rintro e w2 ⟨rfl, hb2⟩
        have HO2 := hid (own_below HO.out hb2)
        have HX2 := hid (HX.out.trans (hb2.mono HX.out.size))
        have f0 := HO2.out.frozenAt (k * 3)
        have f1 := HO2.out.frozenAt (k * 3 + 1)
        have f2 := HO2.out.frozenAt (k * 3 + 2)
        obtain ⟨y0, y1, y2⟩ := flatM_get _ k (by rw [HSL.out]; exact hlt)
        have e0' := (HO2.out.cellAt (k * 3) (by omega)).trans y0
        have e1' := (HO2.out.cellAt (k * 3 + 1) (by omega)).trans y1
        have e2' := (HO2.out.cellAt (k * 3 + 2) (by omega)).trans y2
        have HS2 := hid ((((HO2.out.stored (k * 3) (.string s)).1.stored (k * 3 + 1) (.int .i64 o)).1.stored (k * 3 + 2) (.string t)).1)
        clear hb2 y0 y1 y2
        go_wp2
        go_roundw
        case rel =>
          refine ⟨k + 1, by omega, by go_num, ?_, ((HX2.out.setCell (Nat.le_refl _) _).setCell (Nat.le_refl _) _).setCell (Nat.le_refl _) _⟩
          have := HS2.out
          rw [flatM_set _ k s t o (by rw [HSL.out]; exact hlt), HST.out] at this
          exact this
        case measure => simp [intOf]; omega
    · go_wp2
      go_ret
      have : k = n := by omega
      subst this
      refine ⟨rfl, ?_, hnx⟩
      have e := HN.out
      simpa [← e] using hown

theorem f108 (s t : ByteArray) (o : Int) (w : World) : Calls Tryz.prog 108 #[.agg #[.string s, .int .i64 o, .string t], .agg #[.string s, .int .i64 o, .string t]] w fun e w' => e = .returned (.bool true) ∧ Below w.heap.size w w' := by
  have hb := hid (((Below.refl w.heap.size w).alloc (Nat.le_refl _) (.cells #[.string s, .int .i64 o, .string t] 138)).alloc (by simp) (.cells #[.string s, .int .i64 o, .string t] 138))
  go_enter Tryz.func108, Tryz.ntmps108
  go_wp2
  go_ret
  exact ⟨rfl, hb.out⟩

theorem below_undrew {B : Nat} {a w : World} (h : Below B a.drew w) : Below B a w := ⟨h.os, h.tape, h.output, h.size, h.block⟩
set_option maxHeartbeats 2000000 in
theorem f72 (a a' : Option Addr) (n c c' : Nat) (ms : List Mt) (w : World) (hn : ms.length = n) (hb : n ≤ 1048576) (hr : HasM w a ms) (hr' : HasM w a' ms) :
    Calls Tryz.prog 72 #[.slice a n c, .slice a' n c'] w fun e w' => e = .returned (.bool true) ∧ Below w.heap.size w w' := by
  have HN := hid hn
  clear hn
  go_enter Tryz.func72, Tryz.ntmps72
  go_wp2
  go_loopw [5] (fun i wr => ∃ k : Nat, k ≤ n ∧ i = .int .i64 k ∧ Below w.heap.size w wr) (fun i _ => n - (intOf i).toNat)
  case atStart => exact ⟨0, Nat.zero_le _, rfl, Below.refl _ _⟩
  case round =>
    obtain ⟨k, hk, rfl, hnx⟩ := hrel
    have HX := hid hnx
    by_cases hlt : k < n
    · rcases hr with hr | ⟨b, off, rfl, hbl, hc⟩
      · exact absurd HN.out (by rw [hr]; simp; omega)
      rcases hr' with hr | ⟨b', off', rfl, hbl', hc'⟩
      · exact absurd HN.out (by rw [hr]; simp; omega)
      obtain ⟨c0, c1, c2⟩ := hc k (by rw [HN.out]; exact hlt)
      obtain ⟨c0', c1', c2'⟩ := hc' k (by rw [HN.out]; exact hlt)
      have d0 := (hnx.cell (p := ⟨b, off + k * 3, none⟩) hbl).trans c0
      have d1 := (hnx.cell (p := ⟨b, off + k * 3 + 1, none⟩) hbl).trans c1
      have d2 := (hnx.cell (p := ⟨b, off + k * 3 + 2, none⟩) hbl).trans c2
      have d0' := (hnx.cell (p := ⟨b', off' + k * 3, none⟩) hbl').trans c0'
      have d1' := (hnx.cell (p := ⟨b', off' + k * 3 + 1, none⟩) hbl').trans c1'
      have d2' := (hnx.cell (p := ⟨b', off' + k * 3 + 2, none⟩) hbl').trans c2'
      have i1 : (k : Int) < (n : Int) := by omega
      clear hc c0 c1 c2 hc' c0' c1' c2' hnx
      generalize ms.getD k m0 = p at *
      obtain ⟨s, o, t⟩ := p
      go_wp2_with fail
      go_region_with (go_at_call 108; refine (f108 s t o _).mono ?_; rintro e w2 ⟨rfl, hb2⟩)
      all_goals
        have HX2 := hid (HX.out.trans ((below_undrew hb2).mono HX.out.size))
        clear hb2
        go_wp2
        go_roundw
        case rel => exact ⟨k + 1, by omega, by go_num, HX2.out⟩
        case measure => simp [intOf]; omega
    · go_wp2
      go_ret
      exact ⟨rfl, HX.out⟩
end Go.Proofs.YtbdlahhejfamhaaGreatDoor.Pat
/- What both GoodMatchers come to. -/
namespace Go.Proofs.YtbdlahhejfamhaaGreatDoor.Pat
open Go.RowKit

def okM (m : Mt) : Bool := nameL m.1.data.toList && decide (1 ≤ m.2.1 ∧ m.2.1 ≤ 4) && decide (m.2.2.size ≤ 100) && printL m.2.2.data.toList && (decide (m.2.1 < 3) || patB m.2.2)
def GoodMP (ms : List Mt) : Prop := ms.length ≤ 10 ∧ ∀ i, i < ms.length → okM (ms.getD i m0) = true
instance (ms : List Mt) : Decidable (GoodMP ms) := by unfold GoodMP; infer_instance
def goodM (ms : List Mt) : Bool := decide (GoodMP ms)
theorem gm_no {ms : List Mt} {k : Nat} (hk : k < ms.length) (h : okM (ms.getD k m0) = false) : goodM ms = false := decide_eq_false fun g => by have := g.2 k hk; rw [h] at this; cases this
theorem gm_yes {ms : List Mt} {k : Nat} (hk : ms.length ≤ k) (h : ∀ i, i < k → okM (ms.getD i m0) = true) (h10 : ms.length ≤ 10) : goodM ms = true := decide_eq_true ⟨h10, fun i hi => h i (by omega)⟩
theorem gm_long {ms : List Mt} (h : 10 < ms.length) : goodM ms = false := decide_eq_false fun g => by have := g.1; omega

set_option maxHeartbeats 4000000 in
theorem f176 (s t : ByteArray) (o : Int) (w : World) (hs : s.size ≤ maxLen) (ht : t.size ≤ maxLen) :
    Calls Tryz.prog 176 #[.agg #[.string s, .int .i64 o, .string t]] w fun e w' => e = .returned (.bool (okM (s, o, t))) ∧ Below w.heap.size w w' := by
  have ht' := ht
  unfold maxLen at ht'
  have HB := hid ((Below.refl w.heap.size w).alloc (Nat.le_refl _) (.cells #[.string s, .int .i64 o, .string t] 138))
  have hsz := (heap_alloc_new w (.cells #[.string s, .int .i64 o, .string t] 138))
  clear hsz
  by_cases h1 : nameL s.data.toList = true
  · by_cases h2 : t.size ≤ 100
    · by_cases h3 : printL t.data.toList = true
      · by_cases o1 : o = 1
        · subst o1
          have HK : Hid (okM (s, 1, t) = true) := by unfold Hid okM; simp [h1, h2, h3]
          go_enter Tryz.func176, Tryz.ntmps176
          go_wp2_with (first | (go_at_call 95; refine (f95 s _ hs).mono ?_; rintro e w' ⟨rfl, hw'⟩; subst hw') | (go_at_call 142; refine (f142 t _ ht).mono ?_; rintro e w' ⟨rfl, hw'⟩; subst hw'))
          go_ret
          exact ⟨ret_bool HK.out.symm, HB.out⟩
        · have o1' : (o == 1) = false := by simp [o1]
          by_cases o2 : o = 2
          · subst o2
            have HK : Hid (okM (s, 2, t) = true) := by unfold Hid okM; simp [h1, h2, h3]
            go_enter Tryz.func176, Tryz.ntmps176
            go_wp2_with (first | (go_at_call 95; refine (f95 s _ hs).mono ?_; rintro e w' ⟨rfl, hw'⟩; subst hw') | (go_at_call 142; refine (f142 t _ ht).mono ?_; rintro e w' ⟨rfl, hw'⟩; subst hw'))
            go_ret
            exact ⟨ret_bool HK.out.symm, HB.out⟩
          · have o2' : (o == 2) = false := by simp [o2]
            by_cases o3 : o = 3
            · subst o3
              have HK : Hid (okM (s, 3, t) = patB t) := by unfold Hid okM; simp [h1, h2, h3]
              go_enter Tryz.func176, Tryz.ntmps176
              go_wp2_with (first | (go_at_call 95; refine (f95 s _ hs).mono ?_; rintro e w' ⟨rfl, hw'⟩; subst hw') | (go_at_call 142; refine (f142 t _ ht).mono ?_; rintro e w' ⟨rfl, hw'⟩; subst hw') | (go_at_call 182; refine (f182 t _ ht).mono ?_; rintro e w2 ⟨rfl, hb2⟩))
              go_ret
              exact ⟨ret_bool HK.out.symm, HB.out.trans (hb2.mono (by simp))⟩
            · have o3' : (o == 3) = false := by simp [o3]
              by_cases o4 : o = 4
              · subst o4
                have HK : Hid (okM (s, 4, t) = patB t) := by unfold Hid okM; simp [h1, h2, h3]
                go_enter Tryz.func176, Tryz.ntmps176
                go_wp2_with (first | (go_at_call 95; refine (f95 s _ hs).mono ?_; rintro e w' ⟨rfl, hw'⟩; subst hw') | (go_at_call 142; refine (f142 t _ ht).mono ?_; rintro e w' ⟨rfl, hw'⟩; subst hw') | (go_at_call 182; refine (f182 t _ ht).mono ?_; rintro e w2 ⟨rfl, hb2⟩))
                go_ret
                exact ⟨ret_bool HK.out.symm, HB.out.trans (hb2.mono (by simp))⟩
              · have o4' : (o == 4) = false := by simp [o4]
                have HK : Hid (okM (s, o, t) = false) := by
                  unfold Hid okM
                  have : decide (1 ≤ o ∧ o ≤ 4) = false := decide_eq_false (by omega)
                  simp only [this]; simp
                clear o1 o2 o3 o4
                go_enter Tryz.func176, Tryz.ntmps176
                go_wp2_with (first | (go_at_call 95; refine (f95 s _ hs).mono ?_; rintro e w' ⟨rfl, hw'⟩; subst hw') | (go_at_call 142; refine (f142 t _ ht).mono ?_; rintro e w' ⟨rfl, hw'⟩; subst hw'))
                go_ret
                exact ⟨ret_bool HK.out.symm, HB.out⟩
      · have h3' : printL t.data.toList = false := by simpa using h3
        have HK : Hid (okM (s, o, t) = false) := by unfold Hid okM; simp [h3']
        clear h3
        go_enter Tryz.func176, Tryz.ntmps176
        go_wp2_with (first | (go_at_call 95; refine (f95 s _ hs).mono ?_; rintro e w' ⟨rfl, hw'⟩; subst hw') | (go_at_call 142; refine (f142 t _ ht).mono ?_; rintro e w' ⟨rfl, hw'⟩; subst hw'))
        go_ret
        exact ⟨ret_bool HK.out.symm, HB.out⟩
    · have HK : Hid (okM (s, o, t) = false) := by
        unfold Hid okM
        have : decide (t.size ≤ 100) = false := decide_eq_false h2
        simp only [this]; simp
      go_enter Tryz.func176, Tryz.ntmps176
      go_wp2_with (first | (go_at_call 95; refine (f95 s _ hs).mono ?_; rintro e w' ⟨rfl, hw'⟩; subst hw') | (go_at_call 142; refine (f142 t _ ht).mono ?_; rintro e w' ⟨rfl, hw'⟩; subst hw'))
      go_ret
      exact ⟨ret_bool HK.out.symm, HB.out⟩
  · have h1' : nameL s.data.toList = false := by simpa using h1
    have HK : Hid (okM (s, o, t) = false) := by unfold Hid okM; simp [h1']
    clear h1
    go_enter Tryz.func176, Tryz.ntmps176
    go_wp2_with (first | (go_at_call 95; refine (f95 s _ hs).mono ?_; rintro e w' ⟨rfl, hw'⟩; subst hw') | (go_at_call 142; refine (f142 t _ ht).mono ?_; rintro e w' ⟨rfl, hw'⟩; subst hw'))
    go_ret
    exact ⟨ret_bool HK.out.symm, HB.out⟩

set_option maxHeartbeats 4000000 in
theorem f164 (a : Option Addr) (n c : Nat) (ms : List Mt) (w : World) (hn : ms.length = n) (hmax : n ≤ maxLen) (hr : HasM w a ms) (hf : FitM ms) :
    Calls Tryz.prog 164 #[.slice a n c] w fun e w' => e = .returned (.bool (goodM ms)) ∧ Below w.heap.size w w' := by
  unfold maxLen at hmax
  have HN := hid hn
  clear hn
  by_cases h10 : n ≤ 10
  · go_enter Tryz.func164, Tryz.ntmps164
    go_wp2
    go_loopw [10] (fun i wr => ∃ k : Nat, k ≤ n ∧ i = .int .i64 k ∧ Hid (∀ i, i < k → okM (ms.getD i m0) = true) ∧ Below w.heap.size w wr) (fun i _ => n - (intOf i).toNat)
    case atStart => exact ⟨0, Nat.zero_le _, rfl, fun i hi => by omega, Below.refl _ _⟩
    case round =>
      obtain ⟨k, hk, rfl, hu, hnx⟩ := hrel
      have HX := hid hnx
      by_cases hlt : k < n
      · rcases hr with hr | ⟨b, off, rfl, hbl, hc⟩
        · exact absurd HN.out (by rw [hr]; simp; omega)
        obtain ⟨c0, c1, c2⟩ := hc k (by rw [HN.out]; exact hlt)
        have d0 := (hnx.cell (p := ⟨b, off + k * 3, none⟩) hbl).trans c0
        have d1 := (hnx.cell (p := ⟨b, off + k * 3 + 1, none⟩) hbl).trans c1
        have d2 := (hnx.cell (p := ⟨b, off + k * 3 + 2, none⟩) hbl).trans c2
        obtain ⟨g0, g1, g2, g3⟩ := hf k
        have HNo := hid (gm_no (ms := ms) (k := k) (by rw [HN.out]; exact hlt))
        have HUs : Hid (okM (ms.getD k m0) = true → ∀ i, i < k + 1 → okM (ms.getD i m0) = true) := by
          intro h i hi
          by_cases e : i = k
          · subst e; exact h
          · exact hu.out i (by omega)
        have lb : b < wr.heap.size := Nat.lt_of_lt_of_le hbl hnx.size
        have hsz := hnx.size
        clear hc c0 c1 c2 hnx
        generalize ms.getD k m0 = p at *
        obtain ⟨s, o, t⟩ := p
        have HX1 := hid (HX.out.alloc HX.out.size (.cells #[.string s, .int .i64 o, .string t] 138))
        by_cases hok : okM (s, o, t) = true
        · go_wp2_with (go_at_call 176; refine (f176 s t o _ g0 g1).mono ?_; rintro e w2 ⟨rfl, hb2⟩)
          have HX2 := hid (HX1.out.trans (hb2.mono (by simp; omega)))
          clear hb2
          go_roundw
          case rel => exact ⟨k + 1, by omega, by go_num, HUs.out hok, HX2.out⟩
          case measure => simp [intOf]; omega
        · have hok' : okM (s, o, t) = false := by simpa using hok
          go_wp2_with (go_at_call 176; refine (f176 s t o _ g0 g1).mono ?_; rintro e w2 ⟨rfl, hb2⟩)
          have HX2 := hid (HX1.out.trans (hb2.mono (by simp; omega)))
          clear hb2
          go_ret
          exact ⟨ret_bool (HNo.out hok').symm, HX2.out⟩
      · go_wp2
        go_ret
        exact ⟨ret_bool (gm_yes (k := k) (by rw [HN.out]; omega) hu.out (by rw [HN.out]; exact h10)).symm, HX.out⟩
  · go_enter Tryz.func164, Tryz.ntmps164
    go_wp2
    go_ret
    exact ⟨ret_bool (gm_long (by rw [HN.out]; omega)).symm, Below.refl _ _⟩

set_option maxHeartbeats 4000000 in
theorem f136 (a : Option Addr) (n c : Nat) (ms : List Mt) (w : World) (hn : ms.length = n) (hmax : n ≤ maxLen) (hr : HasM w a ms) (hf : FitM ms) :
    Calls Tryz.prog 136 #[.slice a n c] w fun e w' => e = .returned (.bool (goodM ms)) ∧ Below w.heap.size w w' := by
  unfold maxLen at hmax
  have HN := hid hn
  clear hn
  by_cases h10 : n ≤ 10
  · go_enter Tryz.func136, Tryz.ntmps136
    go_wp2
    go_loopw [10] (fun i wr => ∃ k : Nat, k ≤ n ∧ i = .int .i64 k ∧ Hid (∀ i, i < k → okM (ms.getD i m0) = true) ∧ Below w.heap.size w wr) (fun i _ => n - (intOf i).toNat)
    case atStart => exact ⟨0, Nat.zero_le _, rfl, fun i hi => by omega, Below.refl _ _⟩
    case round =>
      obtain ⟨k, hk, rfl, hu, hnx⟩ := hrel
      have HX := hid hnx
      by_cases hlt : k < n
      · rcases hr with hr | ⟨b, off, rfl, hbl, hc⟩
        · exact absurd HN.out (by rw [hr]; simp; omega)
        obtain ⟨c0, c1, c2⟩ := hc k (by rw [HN.out]; exact hlt)
        have d0 := (hnx.cell (p := ⟨b, off + k * 3, none⟩) hbl).trans c0
        have d1 := (hnx.cell (p := ⟨b, off + k * 3 + 1, none⟩) hbl).trans c1
        have d2 := (hnx.cell (p := ⟨b, off + k * 3 + 2, none⟩) hbl).trans c2
        obtain ⟨g0, g1, g2, g3⟩ := hf k
        have HNo := hid (gm_no (ms := ms) (k := k) (by rw [HN.out]; exact hlt))
        have HUs : Hid (okM (ms.getD k m0) = true → ∀ i, i < k + 1 → okM (ms.getD i m0) = true) := by
          intro h i hi
          by_cases e : i = k
          · subst e; exact h
          · exact hu.out i (by omega)
        have lb : b < wr.heap.size := Nat.lt_of_lt_of_le hbl hnx.size
        have hsz := hnx.size
        clear hc c0 c1 c2 hnx
        generalize ms.getD k m0 = p at *
        obtain ⟨s, o, t⟩ := p
        have HX1 := hid (HX.out.alloc HX.out.size (.cells #[.string s, .int .i64 o, .string t] 138))
        have g1' := g1
        simp only at g1' g2 g3
        unfold maxLen at g1'
        by_cases h1 : nameL s.data.toList = true
        · by_cases o1 : o < 1
          · have HK : Hid (okM (s, o, t) = false) := by
              unfold Hid okM
              have : decide (1 ≤ o ∧ o ≤ 4) = false := decide_eq_false (by omega)
              simp only [this]; simp
            go_wp2_with (first | (go_at_call 90; refine (f90 s _ g0).mono ?_; rintro e w' ⟨rfl, hw'⟩; subst hw') | (go_at_call 134; refine (f134 t _ g1).mono ?_; rintro e w' ⟨rfl, hw'⟩; subst hw'))
            go_ret
            exact ⟨ret_bool (HNo.out HK.out).symm, HX1.out⟩
          · by_cases o4 : 4 < o
            · have HK : Hid (okM (s, o, t) = false) := by
                unfold Hid okM
                have : decide (1 ≤ o ∧ o ≤ 4) = false := decide_eq_false (by omega)
                simp only [this]; simp
              go_wp2_with (first | (go_at_call 90; refine (f90 s _ g0).mono ?_; rintro e w' ⟨rfl, hw'⟩; subst hw') | (go_at_call 134; refine (f134 t _ g1).mono ?_; rintro e w' ⟨rfl, hw'⟩; subst hw'))
              go_ret
              exact ⟨ret_bool (HNo.out HK.out).symm, HX1.out⟩
            · by_cases h2 : 100 < t.size
              · have HK : Hid (okM (s, o, t) = false) := by
                  unfold Hid okM
                  have : decide (t.size ≤ 100) = false := decide_eq_false (by omega)
                  simp only [this]; simp
                go_wp2_with (first | (go_at_call 90; refine (f90 s _ g0).mono ?_; rintro e w' ⟨rfl, hw'⟩; subst hw') | (go_at_call 134; refine (f134 t _ g1).mono ?_; rintro e w' ⟨rfl, hw'⟩; subst hw'))
                go_ret
                exact ⟨ret_bool (HNo.out HK.out).symm, HX1.out⟩
              · by_cases h3 : printL t.data.toList = true
                · by_cases o3 : o < 3
                  · have HK : Hid (okM (s, o, t) = true) := by
                      unfold Hid okM
                      have q1 : decide (1 ≤ o ∧ o ≤ 4) = true := decide_eq_true (by omega)
                      have q2 : decide (t.size ≤ 100) = true := decide_eq_true (by omega)
                      have q3 : decide (o < 3) = true := decide_eq_true o3
                      simp only [h1, h3, q1, q2, q3]; rfl
                    go_wp2_with (first | (go_at_call 90; refine (f90 s _ g0).mono ?_; rintro e w' ⟨rfl, hw'⟩; subst hw') | (go_at_call 134; refine (f134 t _ g1).mono ?_; rintro e w' ⟨rfl, hw'⟩; subst hw'))
                    go_roundw
                    case rel => exact ⟨k + 1, by omega, by go_num, HUs.out HK.out, HX1.out⟩
                    case measure => simp [intOf]; omega
                  · have HKP : Hid (okM (s, o, t) = patB t) := by
                      unfold Hid okM
                      have q1 : decide (1 ≤ o ∧ o ≤ 4) = true := decide_eq_true (by omega)
                      have q2 : decide (t.size ≤ 100) = true := decide_eq_true (by omega)
                      have q3 : decide (o < 3) = false := decide_eq_false o3
                      simp only [h1, h3, q1, q2, q3]; simp
                    by_cases hp : patB t = true
                    · go_wp2_with (first | (go_at_call 90; refine (f90 s _ g0).mono ?_; rintro e w' ⟨rfl, hw'⟩; subst hw') | (go_at_call 134; refine (f134 t _ g1).mono ?_; rintro e w' ⟨rfl, hw'⟩; subst hw') | (go_at_call 161; refine (f161 t _ g1).mono ?_; rintro e w2 ⟨rfl, hb2⟩))
                      have HX2 := hid (HX1.out.trans (hb2.mono (by simp; omega)))
                      clear hb2
                      go_roundw
                      case rel => exact ⟨k + 1, by omega, by go_num, HUs.out (by rw [HKP.out]; exact hp), HX2.out⟩
                      case measure => simp [intOf]; omega
                    · have hp' : patB t = false := by simpa using hp
                      go_wp2_with (first | (go_at_call 90; refine (f90 s _ g0).mono ?_; rintro e w' ⟨rfl, hw'⟩; subst hw') | (go_at_call 134; refine (f134 t _ g1).mono ?_; rintro e w' ⟨rfl, hw'⟩; subst hw') | (go_at_call 161; refine (f161 t _ g1).mono ?_; rintro e w2 ⟨rfl, hb2⟩))
                      have HX2 := hid (HX1.out.trans (hb2.mono (by simp; omega)))
                      clear hb2
                      go_ret
                      exact ⟨ret_bool (HNo.out (by rw [HKP.out]; exact hp')).symm, HX2.out⟩
                · have h3' : printL t.data.toList = false := by simpa using h3
                  clear h3
                  have HK : Hid (okM (s, o, t) = false) := by
                    unfold Hid okM
                    simp [h3']
                  go_wp2_with (first | (go_at_call 90; refine (f90 s _ g0).mono ?_; rintro e w' ⟨rfl, hw'⟩; subst hw') | (go_at_call 134; refine (f134 t _ g1).mono ?_; rintro e w' ⟨rfl, hw'⟩; subst hw'))
                  go_ret
                  exact ⟨ret_bool (HNo.out HK.out).symm, HX1.out⟩
        · have h1' : nameL s.data.toList = false := by simpa using h1
          clear h1
          have HK : Hid (okM (s, o, t) = false) := by
            unfold Hid okM
            simp [h1']
          go_wp2_with (first | (go_at_call 90; refine (f90 s _ g0).mono ?_; rintro e w' ⟨rfl, hw'⟩; subst hw') | (go_at_call 134; refine (f134 t _ g1).mono ?_; rintro e w' ⟨rfl, hw'⟩; subst hw'))
          go_ret
          exact ⟨ret_bool (HNo.out HK.out).symm, HX1.out⟩
      · go_wp2
        go_ret
        exact ⟨ret_bool (gm_yes (k := k) (by rw [HN.out]; omega) hu.out (by rw [HN.out]; exact h10)).symm, HX.out⟩
  · go_enter Tryz.func136, Tryz.ntmps136
    go_wp2
    go_ret
    exact ⟨ret_bool (gm_long (by rw [HN.out]; omega)).symm, Below.refl _ _⟩

end Go.Proofs.YtbdlahhejfamhaaGreatDoor.Pat
