/- Lists of matchers: szMatcherS, toMatcherS, eqMatcherS. -/
import Derived.Test.YtpobpanmkdjkjaaMna
import Derived.Test.YtpobpanmkdjkjaaPaj
namespace Go.Proofs.Ytpobpanmkdjkjaa.Pat
open Go.RowKit

abbrev Mt := ByteArray × Int × ByteArray
def m0 : Mt := (ByteArray.empty, 0, ByteArray.empty)
def HasM (w : World) (a : Option Addr) (ms : List Mt) : Prop :=
  ms = [] ∨ ∃ b off, a = some ⟨b, off, none⟩ ∧ b < w.heap.size ∧ ∀ i, i < ms.length → w.cell? ⟨b, off + i * 3, none⟩ = some (.string (ms.getD i m0).1) ∧ w.cell? ⟨b, off + i * 3 + 1, none⟩ = some (.int .i64 (ms.getD i m0).2.1) ∧ w.cell? ⟨b, off + i * 3 + 2, none⟩ = some (.string (ms.getD i m0).2.2)
theorem HasM.below {w w' : World} {a : Option Addr} {ms : List Mt} (h : HasM w a ms) (hb : Below w.heap.size w w') : HasM w' a ms := by
  rcases h with h | ⟨b, off, h1, h2, h3⟩
  · exact .inl h
  · exact .inr ⟨b, off, h1, Nat.lt_of_lt_of_le h2 hb.size, fun i hi => ⟨(hb.cell (by exact h2)).trans (h3 i hi).1, (hb.cell (by exact h2)).trans (h3 i hi).2.1, (hb.cell (by exact h2)).trans (h3 i hi).2.2⟩⟩
def FitM (ms : List Mt) : Prop := ∀ i, (ms.getD i m0).1.size ≤ maxLen ∧ (ms.getD i m0).2.2.size ≤ maxLen ∧ -9223372036854775808 ≤ (ms.getD i m0).2.1 ∧ (ms.getD i m0).2.1 ≤ 9223372036854775807

theorem f35 (s t : ByteArray) (o x : Int) (w : World) (hs : s.size ≤ maxLen) (ht : t.size ≤ maxLen) (hx0 : 0 ≤ x) (hx1 : x ≤ 1048576) :
    Calls Try.prog 35 #[.agg #[.string s, .int .i64 o, .string t], .int .i64 x] w fun e w' => ∃ y : Int, e = .returned (.int .i64 y) ∧ -1 ≤ y ∧ y ≤ 1048576 ∧ Below w.heap.size w w' := by
  unfold maxLen at hs ht
  have HB := hid ((Below.refl w.heap.size w).alloc (Nat.le_refl _) (.cells #[.string s, .int .i64 o, .string t] 64))
  by_cases h1 : x < s.size
  · go_enter Try.func35, Try.ntmps35
    go_wp2
    go_ret
    exact ⟨-1, rfl, by omega, by omega, HB.out⟩
  · by_cases h2 : x < s.size + t.size
    · go_enter Try.func35, Try.ntmps35
      go_wp2
      go_ret
      exact ⟨-1, rfl, by omega, by omega, HB.out⟩
    · go_enter Try.func35, Try.ntmps35
      go_wp2
      go_ret
      exact ⟨_, rfl, by omega, by omega, HB.out⟩

set_option maxHeartbeats 1000000 in
theorem f16 (a : Option Addr) (n c : Nat) (ms : List Mt) (w : World) (hn : ms.length = n) (hr : HasM w a ms) (hf : FitM ms) (hmax : n ≤ maxLen) :
    Calls Try.prog 16 #[.slice a n c, .int .i64 1048576] w fun e w' => ∃ y : Int, e = .returned (.int .i64 y) ∧ (0 ≤ y → n ≤ 1048576) ∧ -1 ≤ y ∧ y ≤ 1048576 ∧ Below w.heap.size w w' := by
  unfold maxLen at hmax
  by_cases hbig : n ≤ 1048576
  · have HN := hid hn
    clear hn
    go_enter Try.func16, Try.ntmps16
    go_wp2
    go_loopw [1, 5] (fun sx i wr => ∃ (k : Nat) (x : Int), k ≤ n ∧ i = .int .i64 k ∧ sx = .int .i64 x ∧ 0 ≤ x ∧ x ≤ 1048576 ∧ Below w.heap.size w wr) (fun _ i _ => n - (intOf i).toNat)
    case atStart => exact ⟨0, _, Nat.zero_le _, rfl, rfl, by omega, by omega, Below.refl _ _⟩
    case round =>
      obtain ⟨k, x, hk, rfl, rfl, hx0, hx1, hb⟩ := hrel
      have HB := hid hb
      by_cases hlt : k < n
      · rcases hr with h | ⟨b, off, rfl, h2, h3⟩
        · exfalso; rw [h] at HN; have := HN.out; simp at this; omega
        obtain ⟨c0, c1, c2⟩ := h3 k (by rw [HN.out]; exact hlt)
        obtain ⟨g0, g1, -, -⟩ := hf k
        have d0 := (hb.cell (p := ⟨b, off + k * 3, none⟩) h2).trans c0
        have d1 := (hb.cell (p := ⟨b, off + k * 3 + 1, none⟩) h2).trans c1
        have d2 := (hb.cell (p := ⟨b, off + k * 3 + 2, none⟩) h2).trans c2
        clear h3 c0 c1 c2 hb
        generalize (ms.getD k m0).1 = s at *
        generalize (ms.getD k m0).2.1 = o at *
        generalize (ms.getD k m0).2.2 = t at *
        go_wp2_with fail
        refine (f35 s t o x _ g0 g1 hx0 hx1).mono ?_
        rintro e w2 ⟨y, rfl, y0, y1, hb2⟩
        have HB2 := hid (HB.out.trans (hb2.mono HB.out.size))
        clear hb2 d0 d1 d2
        by_cases hy : y < 0
        · go_wp2
          go_ret
          exact ⟨-1, rfl, fun h => absurd h (by omega), by omega, by omega, HB2.out⟩
        · go_wp2
          go_roundw
          case rel => exact ⟨k + 1, y, by omega, by go_num, rfl, by omega, y1, HB2.out⟩
          case measure => simp [intOf]; omega
      · go_wp2
        go_ret
        exact ⟨x, rfl, fun _ => hbig, by omega, hx1, HB.out⟩
  · go_enter Try.func16, Try.ntmps16
    go_wp2
    go_ret
    exact ⟨-1, rfl, by omega, by omega, by omega, Below.refl _ _⟩

set_option maxHeartbeats 1000000 in
theorem f40 (s t : ByteArray) (o : Int) (w : World) : Calls Try.prog 40 #[.agg #[.string s, .int .i64 o, .string t]] w fun e w' => e = .returned (.agg #[.string s, .int .i64 o, .string t]) ∧ Below w.heap.size w w' := by
  go_enter Try.func40, Try.ntmps40
  go_wp2
  refine bodyPost_ret (v := .agg #[.string s, .int .i64 o, .string t]) (by simp [results, Try.results40, go_sem]) rfl ⟨rfl, ?_⟩
  exact (((Below.refl w.heap.size w).alloc (Nat.le_refl _) _).alloc (by simp) _).alloc (by simp; omega) _

def flatM (L : List Mt) : List Value := L.flatMap fun p => [.string p.1, .int .i64 p.2.1, .string p.2.2]
theorem flatM_cons (p : Mt) (L : List Mt) : flatM (p :: L) = .string p.1 :: .int .i64 p.2.1 :: .string p.2.2 :: flatM L := rfl
theorem flatM_len (L : List Mt) : (flatM L).length = L.length * 3 := by
  induction L with
  | nil => rfl
  | cons p L ih => rw [flatM_cons]; simp [ih]; omega
theorem flatM_get : ∀ (L : List Mt) (i : Nat), i < L.length → (flatM L)[i * 3]? = some (.string (L.getD i m0).1) ∧ (flatM L)[i * 3 + 1]? = some (.int .i64 (L.getD i m0).2.1) ∧ (flatM L)[i * 3 + 2]? = some (.string (L.getD i m0).2.2) := by
  intro L
  induction L with
  | nil => intro i h; simp at h
  | cons p L ih =>
    intro i h
    cases i with
    | zero => exact ⟨rfl, rfl, rfl⟩
    | succ i =>
      have := ih i (by simpa using h)
      rw [flatM_cons, show (i + 1) * 3 = i * 3 + 1 + 1 + 1 from by omega, show i * 3 + 1 + 1 + 1 + 1 = (i * 3 + 1) + 1 + 1 + 1 from rfl, show i * 3 + 1 + 1 + 1 + 2 = (i * 3 + 2) + 1 + 1 + 1 from rfl]
      simpa using this
theorem flatM_set : ∀ (L : List Mt) (i : Nat) (s t : ByteArray) (o : Int), i < L.length → (((flatM L).set (i * 3) (.string s)).set (i * 3 + 1) (.int .i64 o)).set (i * 3 + 2) (.string t) = flatM (L.set i (s, o, t)) := by
  intro L
  induction L with
  | nil => intro i s t o h; simp at h
  | cons p L ih =>
    intro i s t o h
    cases i with
    | zero => rfl
    | succ i =>
      have := ih i s t o (by simpa using h)
      rw [List.set_cons_succ, flatM_cons, flatM_cons, ← this, show (i + 1) * 3 = i * 3 + 1 + 1 + 1 from by omega, show i * 3 + 1 + 1 + 1 + 1 = (i * 3 + 1) + 1 + 1 + 1 from rfl, show i * 3 + 1 + 1 + 1 + 2 = (i * 3 + 2) + 1 + 1 + 1 from rfl]
      rfl
theorem made_three (n : Nat) : (madeCells #[.string ByteArray.empty, .int .i64 0, .string ByteArray.empty] (n * 3)).toList = flatM (List.replicate n m0) := by
  apply List.ext_getElem?
  intro j
  by_cases hj : j < n * 3
  · obtain ⟨g0, g1, g2⟩ := flatM_get (List.replicate n m0) (j / 3) (by simp; omega)
    have h2 : (List.replicate n m0).getD (j / 3) m0 = m0 := by
      rw [List.getD_eq_getElem?_getD, List.getElem?_replicate]; split <;> rfl
    rw [h2] at g0 g1 g2
    have e1 : ∀ (r : Nat) (x : Value), j % 3 = r → [Value.string ByteArray.empty, .int .i64 0, .string ByteArray.empty][r]?.getD default = x → (madeCells #[.string ByteArray.empty, .int .i64 0, .string ByteArray.empty] (n * 3)).toList[j]? = some x := by
      intro r x hr hx
      unfold madeCells
      simp [hj]
      rw [hr]; exact hx
    rcases (show j % 3 = 0 ∨ j % 3 = 1 ∨ j % 3 = 2 by omega) with h | h | h
    · rw [e1 0 _ h rfl, show j = j / 3 * 3 from by omega]; exact g0.symm
    · rw [e1 1 _ h rfl, show j = j / 3 * 3 + 1 from by omega]; exact g1.symm
    · rw [e1 2 _ h rfl, show j = j / 3 * 3 + 2 from by omega]; exact g2.symm
  · rw [List.getElem?_eq_none (by simp [size_madeCells]; omega), List.getElem?_eq_none (by rw [flatM_len]; simp; omega)]
theorem HasM.own {w : World} {base g n c : Nat} {ms : List Mt} (h : w.ownsRow base 70 3 (.slice (some ⟨g, 0, none⟩) n c) n (flatM ms)) : HasM w (some ⟨g, 0, none⟩) ms := by
  have hl := h.1
  rw [flatM_len] at hl
  refine .inr ⟨g, 0, rfl, (h.lt g rfl).2, fun i hi => ?_⟩
  obtain ⟨h0, h1, h2⟩ := flatM_get ms i hi
  rw [Nat.zero_add]
  exact ⟨(h.cellAt (i * 3) (by omega)).trans h0, (h.cellAt (i * 3 + 1) (by omega)).trans h1, (h.cellAt (i * 3 + 2) (by omega)).trans h2⟩
theorem info69 : (Try.prog.info? 70).map (fun i => (i.zero, i.size, i.bytes)) = some (some (.agg #[.string ByteArray.empty, .int .i64 0, .string ByteArray.empty]), 3, 40) := by kernel_rfl
theorem stepM_set (ms : List Mt) (n k : Nat) (hn : ms.length = n) (hk : k < n) : (ms.take k ++ List.replicate (n - k) m0).set k (ms.getD k m0) = ms.take (k + 1) ++ List.replicate (n - (k + 1)) m0 := by
  have hl : (ms.take k).length = k := by simp; omega
  rw [List.set_append_right _ _ (by omega), hl, Nat.sub_self, show n - k = (n - (k + 1)) + 1 from by omega, List.replicate_succ, List.set_cons_zero, List.take_succ_eq_append_getElem (by omega), List.append_assoc]
  congr 2
  simp [hn, hk]
theorem stepM_len (ms : List Mt) (n k : Nat) (hn : ms.length = n) (hk : k ≤ n) : (ms.take k ++ List.replicate (n - k) m0).length = n := by simp; omega

set_option maxHeartbeats 1000000 in
theorem f19 (a : Option Addr) (n c : Nat) (ms : List Mt) (w : World) (hn : ms.length = n) (hb : n ≤ 1048576) (hr : HasM w a ms) :
    Calls Try.prog 19 #[.slice a n c] w fun e w' => e = .returned (.slice (some ⟨w.heap.size, 0, none⟩) n n) ∧
      w'.ownsRow w.heap.size 70 3 (.slice (some ⟨w.heap.size, 0, none⟩) n n) n (flatM ms) ∧ Below w.heap.size w w' := by
  obtain ⟨i0, hi, hz0, hz1, hz2⟩ := info_parts info69
  have HN : Hid (ms.length = n) := hn
  clear hn
  go_enter Try.func19, Try.ntmps19
  go_wp2_with (at_make; refine wpList_make_full _ rfl _ _ 38 rfl w.heap.size 70 i0 (.agg #[.string ByteArray.empty, .int .i64 0, .string ByteArray.empty]) 3 Try.underlying38 hi hz0 hz1 _ _ _ _ n rfl rfl rfl rfl ?b2 ?b3 (Nat.le_refl _) ?_)
  case b2 => rw [hz2]; omega
  case b3 => unfold maxLen; omega
  intro w0 hown0 hgrow0
  have hown1 : Hid (w0.ownsRow w.heap.size 70 3 (.slice (some ⟨w.heap.size, 0, none⟩) n n) n (flatM (List.replicate n m0))) := by
    rw [← made_three]; exact hown0
  have hb0 := hid ((Below.refl w.heap.size w).grown hgrow0 (Nat.le_refl _) (fun k h => by cases h))
  clear hown0 hgrow0
  go_wp2
  go_loopw [4] (fun i wr => ∃ k : Nat, k ≤ n ∧ i = .int .i64 k ∧ wr.ownsRow w.heap.size 70 3 (.slice (some ⟨w.heap.size, 0, none⟩) n n) n (flatM (ms.take k ++ List.replicate (n - k) m0)) ∧ Below w.heap.size w wr)
    (fun i _ => n - (intOf i).toNat)
  case atStart => exact ⟨0, Nat.zero_le _, rfl, by simpa using hown1.out, hb0.out⟩
  case round =>
    obtain ⟨k, hk, rfl, hown, hnx⟩ := hrel
    by_cases hlt : k < n
    · rcases hr with hr | ⟨b, off, rfl, hbl, hc⟩
      · exact absurd HN.out (by rw [hr]; simp; omega)
      · obtain ⟨c0, c1, c2⟩ := hc k (by rw [HN.out]; exact hlt)
        have d0 := (hnx.cell (p := ⟨b, off + k * 3, none⟩) hbl).trans c0
        have d1 := (hnx.cell (p := ⟨b, off + k * 3 + 1, none⟩) hbl).trans c1
        have d2 := (hnx.cell (p := ⟨b, off + k * 3 + 2, none⟩) hbl).trans c2
        have HO := hid hown
        have HX := hid hnx
        have HST := hid (stepM_set ms n k HN.out hlt)
        have HSL := hid (stepM_len ms n k HN.out hk)
        clear hc c0 c1 c2 hown hnx hown1 hb0
        generalize hp : ms.getD k m0 = p at *
        obtain ⟨s, o, t⟩ := p
        clear hp
        go_wp2_with fail
        refine (f40 s t o _).mono ?_
        rintro e w2 ⟨rfl, hb2⟩
        have HO2 := hid (own_below HO.out hb2)
        have HX2 := hid (HX.out.trans (hb2.mono HX.out.size))
        have f0 := HO2.out.frozenAt (k * 3)
        have f1 := HO2.out.frozenAt (k * 3 + 1)
        have f2 := HO2.out.frozenAt (k * 3 + 2)
        obtain ⟨y0, y1, y2⟩ := flatM_get _ k (by rw [HSL.out]; exact hlt)
        have e0' := (HO2.out.cellAt (k * 3) (by omega)).trans y0
        have e1' := (HO2.out.cellAt (k * 3 + 1) (by omega)).trans y1
        have e2' := (HO2.out.cellAt (k * 3 + 2) (by omega)).trans y2
        have HS2 := hid ((((HO2.out.stored (k * 3) (.string s)).1.stored (k * 3 + 1) (.int .i64 o)).1.stored (k * 3 + 2) (.string t)).1)
        clear hb2 y0 y1 y2
        go_wp2
        go_roundw
        case rel =>
          refine ⟨k + 1, by omega, by go_num, ?_, ((HX2.out.setCell (Nat.le_refl _) _).setCell (Nat.le_refl _) _).setCell (Nat.le_refl _) _⟩
          have := HS2.out
          rw [flatM_set _ k s t o (by rw [HSL.out]; exact hlt), HST.out] at this
          exact this
        case measure => simp [intOf]; omega
    · go_wp2
      go_ret
      have : k = n := by omega
      subst this
      refine ⟨rfl, ?_, hnx⟩
      have e := HN.out
      simpa [← e] using hown

theorem f45 (s t : ByteArray) (o : Int) (w : World) : Calls Try.prog 45 #[.agg #[.string s, .int .i64 o, .string t], .agg #[.string s, .int .i64 o, .string t]] w fun e w' => e = .returned (.bool true) ∧ Below w.heap.size w w' := by
  have hb := hid (((Below.refl w.heap.size w).alloc (Nat.le_refl _) (.cells #[.string s, .int .i64 o, .string t] 70)).alloc (by simp) (.cells #[.string s, .int .i64 o, .string t] 70))
  go_enter Try.func45, Try.ntmps45
  go_wp2
  go_ret
  exact ⟨rfl, hb.out⟩

theorem below_undrew {B : Nat} {a w : World} (h : Below B a.drew w) : Below B a w := ⟨h.os, h.tape, h.output, h.size, h.block⟩
set_option maxHeartbeats 2000000 in
theorem f22 (a a' : Option Addr) (n c c' : Nat) (ms : List Mt) (w : World) (hn : ms.length = n) (hb : n ≤ 1048576) (hr : HasM w a ms) (hr' : HasM w a' ms) :
    Calls Try.prog 22 #[.slice a n c, .slice a' n c'] w fun e w' => e = .returned (.bool true) ∧ Below w.heap.size w w' := by
  have HN := hid hn
  clear hn
  go_enter Try.func22, Try.ntmps22
  go_wp2
  go_loopw [5] (fun i wr => ∃ k : Nat, k ≤ n ∧ i = .int .i64 k ∧ Below w.heap.size w wr) (fun i _ => n - (intOf i).toNat)
  case atStart => exact ⟨0, Nat.zero_le _, rfl, Below.refl _ _⟩
  case round =>
    obtain ⟨k, hk, rfl, hnx⟩ := hrel
    have HX := hid hnx
    by_cases hlt : k < n
    · rcases hr with hr | ⟨b, off, rfl, hbl, hc⟩
      · exact absurd HN.out (by rw [hr]; simp; omega)
      rcases hr' with hr | ⟨b', off', rfl, hbl', hc'⟩
      · exact absurd HN.out (by rw [hr]; simp; omega)
      obtain ⟨c0, c1, c2⟩ := hc k (by rw [HN.out]; exact hlt)
      obtain ⟨c0', c1', c2'⟩ := hc' k (by rw [HN.out]; exact hlt)
      have d0 := (hnx.cell (p := ⟨b, off + k * 3, none⟩) hbl).trans c0
      have d1 := (hnx.cell (p := ⟨b, off + k * 3 + 1, none⟩) hbl).trans c1
      have d2 := (hnx.cell (p := ⟨b, off + k * 3 + 2, none⟩) hbl).trans c2
      have d0' := (hnx.cell (p := ⟨b', off' + k * 3, none⟩) hbl').trans c0'
      have d1' := (hnx.cell (p := ⟨b', off' + k * 3 + 1, none⟩) hbl').trans c1'
      have d2' := (hnx.cell (p := ⟨b', off' + k * 3 + 2, none⟩) hbl').trans c2'
      have i1 : (k : Int) < (n : Int) := by omega
      clear hc c0 c1 c2 hc' c0' c1' c2' hnx
      generalize ms.getD k m0 = p at *
      obtain ⟨s, o, t⟩ := p
      go_wp2_with fail
      go_region_with (go_at_call 45; refine (f45 s t o _).mono ?_; rintro e w2 ⟨rfl, hb2⟩)
      all_goals
        have HX2 := hid (HX.out.trans ((below_undrew hb2).mono HX.out.size))
        clear hb2
        go_wp2
        go_roundw
        case rel => exact ⟨k + 1, by omega, by go_num, HX2.out⟩
        case measure => simp [intOf]; omega
    · go_wp2
      go_ret
      exact ⟨rfl, HX.out⟩
end Go.Proofs.Ytpobpanmkdjkjaa.Pat
