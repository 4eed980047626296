/- Lists of labels: what szLabelS, toLabelS and eqLabelS come to. -/
import Derived.Test.YtbdlahhejfamhaaGreatDoorRA4
import Derived.Deep.SlicePairs
import Derived.WalkKit
import Derived.ProofKit
import Derived.OpenShut
import Derived.ShutString
import Derived.ChangeOld
import Derived.Below
import Derived.Handy
import Derived.WalkSmall
import Derived.Deep.RegionHeld3
namespace Go.Proofs.YtbdlahhejfamhaaGreatDoor.Lab
open Go.RowKit Go.Proofs.YtbdlahhejfamhaaGreatDoor.Str

abbrev Lb := ByteArray × ByteArray
def e0 : Lb := (ByteArray.empty, ByteArray.empty)

def HasL (w : World) (a : Option Addr) (ls : List Lb) : Prop :=
  ls = [] ∨ ∃ b off, a = some ⟨b, off, none⟩ ∧ b < w.heap.size ∧ ∀ i, i < ls.length → w.cell? ⟨b, off + i * 2, none⟩ = some (.string (ls.getD i e0).1) ∧ w.cell? ⟨b, off + i * 2 + 1, none⟩ = some (.string (ls.getD i e0).2)

theorem HasL.below {w w' : World} {a : Option Addr} {ls : List Lb} (h : HasL w a ls) (hb : Below w.heap.size w w') : HasL w' a ls := by
  rcases h with h | ⟨b, off, h1, h2, h3⟩
  · exact .inl h
  · exact .inr ⟨b, off, h1, Nat.lt_of_lt_of_le h2 hb.size, fun i hi => ⟨(hb.cell (by exact h2)).trans (h3 i hi).1, (hb.cell (by exact h2)).trans (h3 i hi).2⟩⟩
def Fit (ls : List Lb) : Prop := ∀ i, (ls.getD i e0).1.size ≤ maxLen ∧ (ls.getD i e0).2.size ≤ maxLen

set_option maxHeartbeats 1000000 in
theorem f153 (s t : ByteArray) (w : World) : Calls Tryz.prog 153 #[.agg #[.string s, .string t]] w fun e w' => e = .returned (.agg #[.string s, .string t]) ∧ Below w.heap.size w w' := by
  go_enter Tryz.func153, Tryz.ntmps153
  go_wp2
  refine bodyPost_ret (v := .agg #[.string s, .string t]) (by simp [results, Tryz.results153, go_sem]) rfl ⟨rfl, ?_⟩
  exact (((Below.refl w.heap.size w).alloc (Nat.le_refl _) _).alloc (by simp) _).alloc (by simp; omega) _

def flat (L : List Lb) : List Value := L.flatMap fun p => [.string p.1, .string p.2]
theorem flat_cons (p : Lb) (L : List Lb) : flat (p :: L) = .string p.1 :: .string p.2 :: flat L := rfl
theorem flat_len (L : List Lb) : (flat L).length = L.length * 2 := by
  induction L with
  | nil => rfl
  | cons p L ih => rw [flat_cons]; simp [ih]; omega
theorem flat_get : ∀ (L : List Lb) (i : Nat), i < L.length → (flat L)[i * 2]? = some (.string (L.getD i e0).1) ∧ (flat L)[i * 2 + 1]? = some (.string (L.getD i e0).2) := by
  intro L
  induction L with
  | nil => intro i h; simp at h
  | cons p L ih =>
    intro i h
    cases i with
    | zero => exact ⟨rfl, rfl⟩
    | succ i =>
      have := ih i (by simpa using h)
      rw [flat_cons, show (i + 1) * 2 = i * 2 + 1 + 1 from by omega, show i * 2 + 1 + 1 + 1 = (i * 2 + 1) + 1 + 1 from rfl]
      simpa using this
theorem flat_set : ∀ (L : List Lb) (i : Nat) (s t : ByteArray), i < L.length → ((flat L).set (i * 2) (.string s)).set (i * 2 + 1) (.string t) = flat (L.set i (s, t)) := by
  intro L
  induction L with
  | nil => intro i s t h; simp at h
  | cons p L ih =>
    intro i s t h
    cases i with
    | zero => rfl
    | succ i =>
      have := ih i s t (by simpa using h)
      rw [List.set_cons_succ, flat_cons, flat_cons, ← this, show (i + 1) * 2 = i * 2 + 1 + 1 from by omega, show i * 2 + 1 + 1 + 1 = (i * 2 + 1) + 1 + 1 from rfl]
      rfl
theorem made_two (n : Nat) : (madeCells #[.string ByteArray.empty, .string ByteArray.empty] (n * 2)).toList = flat (List.replicate n e0) := by
  apply List.ext_getElem?
  intro j
  by_cases hj : j < n * 2
  · have e1 : (madeCells #[.string ByteArray.empty, .string ByteArray.empty] (n * 2)).toList[j]? = some (.string ByteArray.empty) := by
      have h2 : j % 2 = 0 ∨ j % 2 = 1 := by omega
      unfold madeCells
      simp [hj]
      rcases h2 with h | h <;> rw [h] <;> rfl
    rw [e1]
    obtain ⟨g0, g1⟩ := flat_get (List.replicate n e0) (j / 2) (by simp; omega)
    have h2 : (List.replicate n e0).getD (j / 2) e0 = e0 := by
      rw [List.getD_eq_getElem?_getD, List.getElem?_replicate]; split <;> rfl
    rw [h2] at g0 g1
    rcases (show j = j / 2 * 2 ∨ j = j / 2 * 2 + 1 by omega) with h | h
    · rw [h]; exact g0.symm
    · rw [h]; exact g1.symm
  · rw [List.getElem?_eq_none (by simp [size_madeCells]; omega), List.getElem?_eq_none (by rw [flat_len]; simp; omega)]

theorem own_below {w w' : World} {base e size n : Nat} {v : Value} {xs : List Value} (h : w.ownsRow base e size v n xs) (hb : Below w.heap.size w w') : w'.ownsRow base e size v n xs :=
  h.kept (row := none) ⟨hb.os, hb.tape, hb.output, hb.size, fun k hk _ => hb.block k hk⟩ (by cases hv : v.ownBlock <;> simp)
theorem HasL.own {w : World} {base g n c : Nat} {ls : List Lb} (h : w.ownsRow base 180 2 (.slice (some ⟨g, 0, none⟩) n c) n (flat ls)) : HasL w (some ⟨g, 0, none⟩) ls := by
  have hl := h.1
  rw [flat_len] at hl
  refine .inr ⟨g, 0, rfl, (h.lt g rfl).2, fun i hi => ?_⟩
  obtain ⟨h0, h1⟩ := flat_get ls i hi
  rw [Nat.zero_add]
  exact ⟨(h.cellAt (i * 2) (by omega)).trans h0, (h.cellAt (i * 2 + 1) (by omega)).trans h1⟩

theorem info50 : (Tryz.prog.info? 180).map (fun i => (i.zero, i.size, i.bytes)) = some (some (.agg #[.string ByteArray.empty, .string ByteArray.empty]), 2, 32) := by kernel_rfl

theorem step_set (ls : List Lb) (n k : Nat) (hn : ls.length = n) (hk : k < n) : (ls.take k ++ List.replicate (n - k) e0).set k (ls.getD k e0) = ls.take (k + 1) ++ List.replicate (n - (k + 1)) e0 := by
  have hl : (ls.take k).length = k := by simp; omega
  rw [List.set_append_right _ _ (by omega), hl, Nat.sub_self, show n - k = (n - (k + 1)) + 1 from by omega, List.replicate_succ, List.set_cons_zero, List.take_succ_eq_append_getElem (by omega), List.append_assoc]
  congr 2
  simp [hn, hk]
theorem step_len (ls : List Lb) (n k : Nat) (hn : ls.length = n) (hk : k ≤ n) : (ls.take k ++ List.replicate (n - k) e0).length = n := by simp; omega

set_option maxHeartbeats 1000000 in
theorem f123 (a : Option Addr) (n c : Nat) (ls : List Lb) (w : World) (hn : ls.length = n) (hb : n ≤ 1048576) (hr : HasL w a ls) :
    Calls Tryz.prog 123 #[.slice a n c] w fun e w' => e = .returned (.slice (some ⟨w.heap.size, 0, none⟩) n n) ∧
      w'.ownsRow w.heap.size 180 2 (.slice (some ⟨w.heap.size, 0, none⟩) n n) n (flat ls) ∧ Below w.heap.size w w' := by
  obtain ⟨i0, hi, hz0, hz1, hz2⟩ := info_parts info50
  have HN : Hid (ls.length = n) := hn
  clear hn
  go_enter Tryz.func123, Tryz.ntmps123
  go_wp2_with (at_make; refine wpList_make_full _ rfl _ _ 92 rfl w.heap.size 180 i0 (.agg #[.string ByteArray.empty, .string ByteArray.empty]) 2 Tryz.underlying92 hi hz0 hz1 _ _ _ _ n rfl rfl rfl rfl ?b2 ?b3 (Nat.le_refl _) ?_)
  case b2 => rw [hz2]; omega
  case b3 => unfold maxLen; omega
  intro w0 hown0 hgrow0
  have hown1 : Hid (w0.ownsRow w.heap.size 180 2 (.slice (some ⟨w.heap.size, 0, none⟩) n n) n (flat (List.replicate n e0))) := by
    rw [← made_two]; exact hown0
  have hb0 := hid ((Below.refl w.heap.size w).grown hgrow0 (Nat.le_refl _) (fun k h => by cases h))
  clear hown0 hgrow0
  go_wp2
  go_loopw [4] (fun i wr => ∃ k : Nat, k ≤ n ∧ i = .int .i64 k ∧ wr.ownsRow w.heap.size 180 2 (.slice (some ⟨w.heap.size, 0, none⟩) n n) n (flat (ls.take k ++ List.replicate (n - k) e0)) ∧ Below w.heap.size w wr)
    (fun i _ => n - (intOf i).toNat)
  case atStart => exact ⟨0, Nat.zero_le _, rfl, by simpa using hown1.out, hb0.out⟩
  case round =>
    obtain ⟨k, hk, rfl, hown, hnx⟩ := hrel
    by_cases hlt : k < n
    · rcases hr with hr | ⟨b, off, rfl, hbl, hc⟩
      · exact absurd HN.out (by rw [hr]; simp; omega)
      · obtain ⟨c0, c1⟩ := hc k (by rw [HN.out]; exact hlt)
        have d0 := (hnx.cell (p := ⟨b, off + k * 2, none⟩) hbl).trans c0
        have d1 := (hnx.cell (p := ⟨b, off + k * 2 + 1, none⟩) hbl).trans c1
        have HO := hid hown
        have HX := hid hnx
        have HST := hid (step_set ls n k HN.out hlt)
        have HSL := hid (step_len ls n k HN.out hk)
        clear hc c0 c1 hown hnx hown1 hb0
        generalize hp : ls.getD k e0 = p at *
        obtain ⟨s, t⟩ := p
        clear hp
        go_wp2_with fail
        refine (f153 s t _).mono ?_
        rintro e w2 ⟨rfl, hb2⟩
        have HO2 := hid (own_below HO.out hb2)
        have HX2 := hid (HX.out.trans (hb2.mono HX.out.size))
        have f0 := HO2.out.frozenAt (k * 2)
        have f1 := HO2.out.frozenAt (k * 2 + 1)
        have e0' := HO2.out.cellAt (k * 2) (by omega)
        have e1' := HO2.out.cellAt (k * 2 + 1) (by omega)
        obtain ⟨y0, y1⟩ := flat_get _ k (by rw [HSL.out]; exact hlt)
        rw [y0] at e0'
        rw [y1] at e1'
        have HS2 := hid (((HO2.out.stored (k * 2) (.string s)).1.stored (k * 2 + 1) (.string t)).1)
        clear hb2 y0 y1
        go_wp2
        go_roundw
        case rel =>
          refine ⟨k + 1, by omega, by go_num, ?_, (HX2.out.setCell (Nat.le_refl _) _).setCell (Nat.le_refl _) _⟩
          have := HS2.out
          rw [flat_set _ k s t (by rw [HSL.out]; exact hlt), HST.out] at this
          exact this
        case measure => simp [intOf]; omega
    · go_wp2
      go_ret
      have : k = n := by omega
      subst this
      refine ⟨rfl, ?_, hnx⟩
      have e := HN.out
      simpa [← e] using hown

theorem f158 (s t : ByteArray) (w : World) : Calls Tryz.prog 158 #[.agg #[.string s, .string t], .agg #[.string s, .string t]] w fun e w' => e = .returned (.bool true) ∧ Below w.heap.size w w' := by
  have hb := hid (((Below.refl w.heap.size w).alloc (Nat.le_refl _) (.cells #[.string s, .string t] 180)).alloc (by simp) (.cells #[.string s, .string t] 180))
  go_enter Tryz.func158, Tryz.ntmps158
  go_wp2
  go_ret
  exact ⟨rfl, hb.out⟩
end Go.Proofs.YtbdlahhejfamhaaGreatDoor.Lab
/- What eqLabelS and both GoodLabels come to. -/
namespace Go.Proofs.YtbdlahhejfamhaaGreatDoor.Lab
open Go.RowKit Go.Proofs.YtbdlahhejfamhaaGreatDoor.Str

theorem below_drewN {B : Nat} {a w : World} (h : Below B a w) (q : Nat) : Below B a (w.drewN q) := ⟨h.os, h.tape, h.output, h.size, h.block⟩
theorem below_undrew {B : Nat} {a w : World} (h : Below B a.drew w) : Below B a w := ⟨h.os, h.tape, h.output, h.size, h.block⟩
set_option maxHeartbeats 1000000 in
theorem f131 (a a' : Option Addr) (n c c' : Nat) (ls : List Lb) (w : World) (hn : ls.length = n) (hb : n ≤ 1048576) (hr : HasL w a ls) (hr' : HasL w a' ls) :
    Calls Tryz.prog 131 #[.slice a n c, .slice a' n c'] w fun e w' => e = .returned (.bool true) ∧ Below w.heap.size w w' := by
  have HN := hid hn
  clear hn
  go_enter Tryz.func131, Tryz.ntmps131
  go_wp2
  go_loopw [5] (fun i wr => ∃ k : Nat, k ≤ n ∧ i = .int .i64 k ∧ Below w.heap.size w wr) (fun i _ => n - (intOf i).toNat)
  case atStart => exact ⟨0, Nat.zero_le _, rfl, Below.refl _ _⟩
  case round =>
    obtain ⟨k, hk, rfl, hnx⟩ := hrel
    have HX := hid hnx
    by_cases hlt : k < n
    · rcases hr with hr | ⟨b, off, rfl, hbl, hc⟩
      · exact absurd HN.out (by rw [hr]; simp; omega)
      rcases hr' with hr | ⟨b', off', rfl, hbl', hc'⟩
      · exact absurd HN.out (by rw [hr]; simp; omega)
      obtain ⟨c0, c1⟩ := hc k (by rw [HN.out]; exact hlt)
      obtain ⟨c0', c1'⟩ := hc' k (by rw [HN.out]; exact hlt)
      have d0 := (hnx.cell (p := ⟨b, off + k * 2, none⟩) hbl).trans c0
      have d1 := (hnx.cell (p := ⟨b, off + k * 2 + 1, none⟩) hbl).trans c1
      have d0' := (hnx.cell (p := ⟨b', off' + k * 2, none⟩) hbl').trans c0'
      have d1' := (hnx.cell (p := ⟨b', off' + k * 2 + 1, none⟩) hbl').trans c1'
      have i1 : (k : Int) < (n : Int) := by omega
      clear hc c0 c1 hc' c0' c1' hnx
      generalize ls.getD k e0 = p at *
      obtain ⟨s, t⟩ := p
      go_wp2_with fail
      go_region_with (go_at_call 158; refine (f158 s t _).mono ?_; rintro e w2 ⟨rfl, hb2⟩)
      all_goals
        have HX2 := hid (HX.out.trans ((below_undrew hb2).mono HX.out.size))
        clear hb2
        go_wp2
        go_roundw
        case rel => exact ⟨k + 1, by omega, by go_num, HX2.out⟩
        case measure => simp [intOf]; omega
    · go_wp2
      go_ret
      exact ⟨rfl, HX.out⟩

def cmpN (p q : Lb) : Int := Lib.compareBytes p.1.data.toList q.1.data.toList
def okL (p : Lb) : Bool := nameL p.1.data.toList && valueL p.2.data.toList
def GoodP (ls : List Lb) : Prop := ls.length ≤ 20 ∧ ∀ i, i < ls.length → okL (ls.getD i e0) = true ∧ (0 < i → cmpN (ls.getD (i - 1) e0) (ls.getD i e0) < 0)
instance (ls : List Lb) : Decidable (GoodP ls) := by unfold GoodP; infer_instance
def goodL (ls : List Lb) : Bool := decide (GoodP ls)
def Upto (ls : List Lb) (k : Nat) : Prop := ∀ i, i < k → okL (ls.getD i e0) = true ∧ (0 < i → cmpN (ls.getD (i - 1) e0) (ls.getD i e0) < 0)

theorem Upto.succ {ls : List Lb} {k : Nat} (h : Upto ls k) (h1 : okL (ls.getD k e0) = true) (h2 : 0 < k → cmpN (ls.getD (k - 1) e0) (ls.getD k e0) < 0) : Upto ls (k + 1) := by
  intro i hi
  by_cases e : i = k
  · subst e; exact ⟨h1, h2⟩
  · exact h i (by omega)
theorem good_no {ls : List Lb} {k : Nat} (hk : k < ls.length) (h : ¬ (okL (ls.getD k e0) = true ∧ (0 < k → cmpN (ls.getD (k - 1) e0) (ls.getD k e0) < 0))) : goodL ls = false :=
  decide_eq_false fun g => h (g.2 k hk)
theorem good_yes {ls : List Lb} {k : Nat} (hk : ls.length ≤ k) (h : Upto ls k) (h20 : ls.length ≤ 20) : goodL ls = true :=
  decide_eq_true ⟨h20, fun i hi => h i (by omega)⟩
theorem good_long {ls : List Lb} (h : 20 < ls.length) : goodL ls = false := decide_eq_false fun g => by have := g.1; omega

set_option maxHeartbeats 2000000 in
theorem f91 (a : Option Addr) (n c : Nat) (ls : List Lb) (w : World) (hn : ls.length = n) (hmax : n ≤ maxLen) (hr : HasL w a ls) (hf : Fit ls) :
    Calls Tryz.prog 91 #[.slice a n c] w fun e w' => e = .returned (.bool (goodL ls)) ∧ Below w.heap.size w w' := by
  unfold maxLen at hmax
  have HN := hid hn
  clear hn
  by_cases h20 : n ≤ 20
  · go_enter Tryz.func91, Tryz.ntmps91
    go_wp2
    go_loopw [10] (fun i wr => ∃ k : Nat, k ≤ n ∧ i = .int .i64 k ∧ Hid (Upto ls k) ∧ Below w.heap.size w wr) (fun i _ => n - (intOf i).toNat)
    case atStart => exact ⟨0, Nat.zero_le _, rfl, fun i hi => by omega, Below.refl _ _⟩
    case round =>
      obtain ⟨k, hk, rfl, hu, hnx⟩ := hrel
      have HX := hid hnx
      by_cases hlt : k < n
      · rcases hr with hr | ⟨b, off, rfl, hbl, hc⟩
        · exact absurd HN.out (by rw [hr]; simp; omega)
        obtain ⟨c0, c1⟩ := hc k (by rw [HN.out]; exact hlt)
        have d0 := (hnx.cell (p := ⟨b, off + k * 2, none⟩) hbl).trans c0
        have d1 := (hnx.cell (p := ⟨b, off + k * 2 + 1, none⟩) hbl).trans c1
        obtain ⟨g0, g1⟩ := hf k
        have HNo := hid (good_no (ls := ls) (k := k) (by rw [HN.out]; exact hlt))
        have HUs := hid (hu.out.succ (k := k))
        have lb : b < wr.heap.size := Nat.lt_of_lt_of_le hbl hnx.size
        by_cases h1 : nameL (ls.getD k e0).1.data.toList = true
        · by_cases h2 : valueL (ls.getD k e0).2.data.toList = true
          · have HOK : Hid (okL (ls.getD k e0) = true) := by unfold Hid okL; rw [h1, h2]; rfl
            cases k with
            | zero =>
              clear hc c0 c1 hnx
              simp only [Nat.zero_mul, Nat.add_zero] at d0 d1
              generalize (ls.getD 0 e0).1 = s at *
              generalize (ls.getD 0 e0).2 = t at *
              go_wp2
              go_quiet (first | (go_at_call 90; exact Calls.quiet_of_same (f90 s _ g0)) | (go_at_call 120; exact Calls.quiet_of_same (f120 t _ g1)))
              go_wp2
              go_roundw
              case rel => exact ⟨1, by omega, by go_num, HUs.out HOK.out (fun h => by omega), below_drewN (HX.out.alloc HX.out.size _) _⟩
              case measure => simp [intOf]; omega
            | succ j =>
              obtain ⟨p0, p1⟩ := hc j (by rw [HN.out]; omega)
              have q0 := (hnx.cell (p := ⟨b, off + j * 2, none⟩) hbl).trans p0
              have gp := (hf j).1
              clear hc c0 c1 hnx p0 p1
              have HC : Hid (cmpN (ls.getD (j + 1 - 1) e0) (ls.getD (j + 1) e0) = Lib.compareBytes (ls.getD j e0).1.data.toList (ls.getD (j + 1) e0).1.data.toList) := rfl
              generalize (ls.getD (j + 1) e0).1 = s at *
              generalize (ls.getD (j + 1) e0).2 = t at *
              generalize (ls.getD j e0).1 = r at *
              have i1 : (j : Int) < (n : Int) := by omega
              by_cases h3 : 0 ≤ Lib.compareBytes r.data.toList s.data.toList
              · go_wp2
                go_quiet (first | (go_at_call 90; exact Calls.quiet_of_same (f90 s _ g0)) | (go_at_call 120; exact Calls.quiet_of_same (f120 t _ g1)) | (go_at_call 121; exact Calls.quiet_of (f121 r s _ gp)))
                go_wp2
                go_ret
                exact ⟨ret_bool (HNo.out (fun h => by have := h.2 (by omega); rw [HC.out] at this; omega)).symm, below_drewN (HX.out.alloc HX.out.size _) _⟩
              · go_wp2
                go_quiet (first | (go_at_call 90; exact Calls.quiet_of_same (f90 s _ g0)) | (go_at_call 120; exact Calls.quiet_of_same (f120 t _ g1)) | (go_at_call 121; exact Calls.quiet_of (f121 r s _ gp)))
                go_wp2
                go_roundw
                case rel => exact ⟨j + 1 + 1, by omega, by go_num, HUs.out HOK.out (fun _ => by rw [HC.out]; omega), below_drewN (HX.out.alloc HX.out.size _) _⟩
                case measure => simp [intOf]; omega
          · have h2' : valueL (ls.getD k e0).2.data.toList = false := by simpa using h2
            have HF : Hid (¬ (okL (ls.getD k e0) = true ∧ (0 < k → cmpN (ls.getD (k - 1) e0) (ls.getD k e0) < 0))) := by
              intro h; have := h.1; unfold okL at this; rw [h2'] at this; simp at this
            clear hc c0 c1 hnx h2
            generalize (ls.getD k e0).1 = s at *
            generalize (ls.getD k e0).2 = t at *
            go_wp2
            go_quiet (first | (go_at_call 90; exact Calls.quiet_of_same (f90 s _ g0)) | (go_at_call 120; exact Calls.quiet_of_same (f120 t _ g1)))
            go_wp2
            go_ret
            exact ⟨ret_bool (HNo.out HF.out).symm, below_drewN (HX.out.alloc HX.out.size _) _⟩
        · have h1' : nameL (ls.getD k e0).1.data.toList = false := by simpa using h1
          have HF : Hid (¬ (okL (ls.getD k e0) = true ∧ (0 < k → cmpN (ls.getD (k - 1) e0) (ls.getD k e0) < 0))) := by
            intro h; have := h.1; unfold okL at this; rw [h1'] at this; simp at this
          clear hc c0 c1 hnx h1
          generalize (ls.getD k e0).1 = s at *
          generalize (ls.getD k e0).2 = t at *
          go_wp2
          go_quiet (first | (go_at_call 90; exact Calls.quiet_of_same (f90 s _ g0)) | (go_at_call 120; exact Calls.quiet_of_same (f120 t _ g1)))
          go_wp2
          go_ret
          exact ⟨ret_bool (HNo.out HF.out).symm, below_drewN (HX.out.alloc HX.out.size _) _⟩
      · go_wp2
        go_ret
        exact ⟨ret_bool (good_yes (k := k) (by rw [HN.out]; omega) hu.out (by rw [HN.out]; exact h20)).symm, HX.out⟩
  · go_enter Tryz.func91, Tryz.ntmps91
    go_wp2
    go_ret
    exact ⟨ret_bool (good_long (by rw [HN.out]; omega)).symm, Below.refl _ _⟩
end Go.Proofs.YtbdlahhejfamhaaGreatDoor.Lab
/- Arguments that came in: lists of labels, lists of texts. -/
namespace Go.Proofs.YtbdlahhejfamhaaGreatDoor.Lbo
open Go.Proofs.YtbdlahhejfamhaaGreatDoor.Lab Go.ChangeShapes Go.WideShapes Go.ChangeAt Go.RowKit

theorem add_none (b off j : Nat) : (⟨b, off, none⟩ : Addr).add j = ⟨b, off + j, none⟩ := by
  by_cases h : j = 0
  · subst h; simp [Addr.add]
  · simp [Addr.add, h]
theorem fit_nil : Fit [] := fun i => by simp [e0, maxLen]

theorem open_labels {H : Type} {enc : TypeId × Value → H} {W : World} {a0 : Option Addr} {len0 cap0 : Nat} {d : DataW H} {p : List MemPlace} (h : DataW.Trod enc Tryz.prog W 0 (fun _ => true) true 153 (.slice a0 len0 cap0) d p) :
    ∃ ls : List Lb, ls.length = len0 ∧ len0 ≤ maxLen ∧ HasL W a0 ls ∧ Fit ls := by
  obtain ⟨fuel, hf⟩ := h
  rcases Deep.open_slice_pairs Tryz.underlying153 Tryz.underlying201 (by kernel_rfl) rfl rfl (by kernel_rfl) (by kernel_rfl) hf with ⟨hcs, _⟩ | ⟨a, len, cap, m, n, V0, V1, D0, D1, P0, P1, hcs, _, hl, hm, hmm, _, hx⟩
  · simp [Value.cells] at hcs
    obtain ⟨rfl, rfl, rfl⟩ := hcs
    exact ⟨[], rfl, Nat.zero_le _, .inl rfl, fit_nil⟩
  · simp [Value.cells] at hcs
    obtain ⟨rfl, rfl, rfl⟩ := hcs
    simp only [if_true] at hmm
    have key : ∀ i, i < len0 → ∃ q : Lb, W.cell? (a.add (i * 2)) = some (.string q.1) ∧ W.cell? (a.add (i * 2 + 1)) = some (.string q.2) ∧ q.1.size ≤ maxLen ∧ q.2.size ≤ maxLen := by
      intro i hi
      obtain ⟨h1, h2, h3, h4⟩ := hx i (by omega)
      obtain ⟨s, hs, _, hs1⟩ := DataW.trod_string Tryz.underlying9 h3
      obtain ⟨t, ht, _, ht1⟩ := DataW.trod_string Tryz.underlying9 h4
      simp only [List.cons.injEq, and_true] at hs ht
      exact ⟨(s, t), by rw [h1, hs], by rw [h2, ht], hs1, ht1⟩
    obtain ⟨q, hq⟩ := Deep.choose_lt (α := Lb) key
    have hg : ∀ i, i < len0 → ((List.range len0).map q).getD i e0 = q i := fun i hi => by simp [hi]
    refine ⟨(List.range len0).map q, by simp, by omega, ?_, ?_⟩
    · by_cases h0 : len0 = 0
      · subst h0; exact .inl rfl
      · obtain ⟨b, off, spot⟩ := a
        have h1 := (hq 0 (by omega)).1
        have hs : spot = none := by simpa [Addr.add] using World.cell?_spot h1
        subst hs
        refine .inr ⟨b, off, rfl, World.block_lt_of_cell? W _ h1, fun i hi => ?_⟩
        have hi' : i < len0 := by simpa using hi
        obtain ⟨g1, g2, _, _⟩ := hq i hi'
        rw [add_none] at g1 g2
        rw [hg i hi']
        exact ⟨g1, g2⟩
    · intro i
      by_cases hi : i < len0
      · rw [hg i hi]; exact (hq i hi).2.2
      · rw [List.getD_eq_getElem?_getD, List.getElem?_eq_none (by simp; omega)]; simp [e0, maxLen]
end Go.Proofs.YtbdlahhejfamhaaGreatDoor.Lbo
/- What the program's GoodLabels comes to. -/
namespace Go.Proofs.YtbdlahhejfamhaaGreatDoor.Lab
open Go.RowKit Go.Proofs.YtbdlahhejfamhaaGreatDoor.Str

theorem f128 (p q : Lb) (w : World) : Calls Tryz.prog 128 #[.agg #[.string p.1, .string p.2], .agg #[.string q.1, .string q.2]] w fun e w' => e = .returned (.int .i64 (cmpN p q)) ∧ Below w.heap.size w w' := by
  have hb := hid (((Below.refl w.heap.size w).alloc (Nat.le_refl _) (.cells #[.string p.1, .string p.2] 180)).alloc (by simp) (.cells #[.string q.1, .string q.2] 180))
  go_enter Tryz.func128, Tryz.ntmps128
  go_wp2_with (go_at_call 155; refine (f155 _ _ _).mono ?_; rintro e w' ⟨rfl, rfl⟩)
  go_ret
  exact ⟨rfl, hb.out⟩

def RiseP (ls : List Lb) : Prop := ∀ i, i < ls.length → 0 < i → cmpN (ls.getD (i - 1) e0) (ls.getD i e0) < 0
instance (ls : List Lb) : Decidable (RiseP ls) := by unfold RiseP; infer_instance
def riseL (ls : List Lb) : Bool := decide (RiseP ls)

set_option maxHeartbeats 1000000 in
theorem f127 (a : Option Addr) (n c : Nat) (ls : List Lb) (w : World) (hn : ls.length = n) (hb : n ≤ 1048576) (hr : HasL w a ls) :
    Calls Tryz.prog 127 #[.slice a n c, .func (.func 128) #[] #[]] w fun e w' => e = .returned (.bool (riseL ls)) ∧ Below w.heap.size w w' := by
  have HN := hid hn
  clear hn
  go_enter Tryz.func127, Tryz.ntmps127
  go_wp2
  go_loopw [5] (fun i wr => ∃ k : Nat, (k ≤ n ∨ k = 0) ∧ i = .int .i64 ((k : Int) + 1) ∧ Hid (∀ i, i ≤ k → 0 < i → cmpN (ls.getD (i - 1) e0) (ls.getD i e0) < 0) ∧ Below w.heap.size w wr) (fun i _ => n + 1 - (intOf i).toNat)
  case atStart => exact ⟨0, .inr rfl, by go_num, fun i hi h => by omega, Below.refl _ _⟩
  case round =>
    obtain ⟨k, hk, rfl, hu, hnx⟩ := hrel
    have HX := hid hnx
    by_cases hlt : k + 1 < n
    · rcases hr with hr | ⟨b, off, rfl, hbl, hc⟩
      · exact absurd HN.out (by rw [hr]; simp; omega)
      obtain ⟨c0, c1⟩ := hc k (by rw [HN.out]; omega)
      obtain ⟨c2, c3⟩ := hc (k + 1) (by rw [HN.out]; exact hlt)
      have d0 := (hnx.cell (p := ⟨b, off + k * 2, none⟩) hbl).trans c0
      have d1 := (hnx.cell (p := ⟨b, off + k * 2 + 1, none⟩) hbl).trans c1
      have d2 := (hnx.cell (p := ⟨b, off + (k + 1) * 2, none⟩) hbl).trans c2
      have d3 := (hnx.cell (p := ⟨b, off + (k + 1) * 2 + 1, none⟩) hbl).trans c3
      have i1 : (k : Int) < (n : Int) := by omega
      have i2 : (k : Int) + 1 < (n : Int) := by omega
      have hw1 : IntKind.i64.wrap (k : Int) = (k : Int) := by rw [IntKind.wrap_i64]; omega
      have HNo : Hid (¬ cmpN (ls.getD k e0) (ls.getD (k + 1) e0) < 0 → riseL ls = false) := fun h => decide_eq_false fun g => h (g (k + 1) (by rw [HN.out]; exact hlt) (by omega))
      have HUs : Hid (cmpN (ls.getD k e0) (ls.getD (k + 1) e0) < 0 → ∀ i, i ≤ k + 1 → 0 < i → cmpN (ls.getD (i - 1) e0) (ls.getD i e0) < 0) := by
        intro h i hi h0
        by_cases e : i = k + 1
        · subst e; exact h
        · exact hu.out i (by omega) h0
      clear hc c0 c1 c2 c3 hnx
      generalize ls.getD k e0 = p at *
      generalize ls.getD (k + 1) e0 = q at *
      by_cases h3 : 0 ≤ cmpN p q
      · go_wp2_with fail
        go_region_with (go_at_call 128; refine (f128 p q _).mono ?_; rintro e w2 ⟨rfl, hb2⟩)
        all_goals
          have HX2 := hid (HX.out.trans ((below_undrew hb2).mono HX.out.size))
          clear hb2
          go_wp2
          go_ret
          exact ⟨ret_bool (HNo.out (by omega)).symm, HX2.out⟩
      · go_wp2_with fail
        go_region_with (go_at_call 128; refine (f128 p q _).mono ?_; rintro e w2 ⟨rfl, hb2⟩)
        all_goals
          have HX2 := hid (HX.out.trans ((below_undrew hb2).mono HX.out.size))
          clear hb2
          go_wp2
          go_roundw
          case rel => exact ⟨k + 1, .inl (by omega), by go_num, HUs.out (by omega), HX2.out⟩
          case measure => simp [intOf]; omega
    · go_wp2
      go_ret
      exact ⟨ret_bool (by symm; refine decide_eq_true fun i hi h0 => hu.out i (by have := HN.out; omega) h0), HX.out⟩

theorem good_split (ls : List Lb) (h20 : ls.length ≤ 20) (h : ∀ i, i < ls.length → okL (ls.getD i e0) = true) : goodL ls = riseL ls := by
  unfold goodL riseL
  rw [decide_eq_decide]
  exact ⟨fun g i hi h0 => (g.2 i hi).2 h0, fun g => ⟨h20, fun i hi => ⟨h i hi, g i hi⟩⟩⟩

set_option maxHeartbeats 2000000 in
theorem f96 (a : Option Addr) (n c : Nat) (ls : List Lb) (w : World) (hn : ls.length = n) (hmax : n ≤ maxLen) (hr : HasL w a ls) (hf : Fit ls) :
    Calls Tryz.prog 96 #[.slice a n c] w fun e w' => e = .returned (.bool (goodL ls)) ∧ Below w.heap.size w w' := by
  unfold maxLen at hmax
  have HN := hid hn
  clear hn
  by_cases h20 : n ≤ 20
  · go_enter Tryz.func96, Tryz.ntmps96
    go_wp2
    go_loopw [10] (fun i wr => ∃ k : Nat, k ≤ n ∧ i = .int .i64 k ∧ Hid (∀ i, i < k → okL (ls.getD i e0) = true) ∧ Below w.heap.size w wr) (fun i _ => n - (intOf i).toNat)
    case atStart => exact ⟨0, Nat.zero_le _, rfl, fun i hi => by omega, Below.refl _ _⟩
    case round =>
      obtain ⟨k, hk, rfl, hu, hnx⟩ := hrel
      have HX := hid hnx
      by_cases hlt : k < n
      · rcases hr with hr | ⟨b, off, rfl, hbl, hc⟩
        · exact absurd HN.out (by rw [hr]; simp; omega)
        obtain ⟨c0, c1⟩ := hc k (by rw [HN.out]; exact hlt)
        have d0 := (hnx.cell (p := ⟨b, off + k * 2, none⟩) hbl).trans c0
        have d1 := (hnx.cell (p := ⟨b, off + k * 2 + 1, none⟩) hbl).trans c1
        obtain ⟨g0, g1⟩ := hf k
        have HNo := hid (good_no (ls := ls) (k := k) (by rw [HN.out]; exact hlt))
        have HUs : Hid (okL (ls.getD k e0) = true → ∀ i, i < k + 1 → okL (ls.getD i e0) = true) := by
          intro h i hi
          by_cases e : i = k
          · subst e; exact h
          · exact hu.out i (by omega)
        have lb : b < wr.heap.size := Nat.lt_of_lt_of_le hbl hnx.size
        clear hc c0 c1 hnx
        by_cases h1 : nameL (ls.getD k e0).1.data.toList = true
        · by_cases h2 : valueL (ls.getD k e0).2.data.toList = true
          · have HOK : Hid (okL (ls.getD k e0) = true) := by unfold Hid okL; rw [h1, h2]; rfl
            generalize (ls.getD k e0).1 = s at *
            generalize (ls.getD k e0).2 = t at *
            go_wp2_with (first | (go_at_call 95; refine (f95 s _ g0).mono ?_; rintro e w' ⟨rfl, rfl⟩) | (go_at_call 126; refine (f126 t _ g1).mono ?_; rintro e w' ⟨rfl, rfl⟩))
            go_roundw
            case rel => exact ⟨k + 1, by omega, by go_num, HUs.out HOK.out, HX.out.alloc HX.out.size _⟩
            case measure => simp [intOf]; omega
          · have h2' : valueL (ls.getD k e0).2.data.toList = false := by simpa using h2
            have HF : Hid (¬ (okL (ls.getD k e0) = true ∧ (0 < k → cmpN (ls.getD (k - 1) e0) (ls.getD k e0) < 0))) := by
              intro h; have := h.1; unfold okL at this; rw [h2'] at this; simp at this
            clear h2
            generalize (ls.getD k e0).1 = s at *
            generalize (ls.getD k e0).2 = t at *
            go_wp2_with (first | (go_at_call 95; refine (f95 s _ g0).mono ?_; rintro e w' ⟨rfl, rfl⟩) | (go_at_call 126; refine (f126 t _ g1).mono ?_; rintro e w' ⟨rfl, rfl⟩))
            go_ret
            exact ⟨ret_bool (HNo.out HF.out).symm, HX.out.alloc HX.out.size _⟩
        · have h1' : nameL (ls.getD k e0).1.data.toList = false := by simpa using h1
          have HF : Hid (¬ (okL (ls.getD k e0) = true ∧ (0 < k → cmpN (ls.getD (k - 1) e0) (ls.getD k e0) < 0))) := by
            intro h; have := h.1; unfold okL at this; rw [h1'] at this; simp at this
          clear h1
          generalize (ls.getD k e0).1 = s at *
          generalize (ls.getD k e0).2 = t at *
          go_wp2_with (first | (go_at_call 95; refine (f95 s _ g0).mono ?_; rintro e w' ⟨rfl, rfl⟩) | (go_at_call 126; refine (f126 t _ g1).mono ?_; rintro e w' ⟨rfl, rfl⟩))
          go_ret
          exact ⟨ret_bool (HNo.out HF.out).symm, HX.out.alloc HX.out.size _⟩
      · have HS : Hid (goodL ls = riseL ls) := good_split ls (by rw [HN.out]; exact h20) (fun i hi => hu.out i (by have := HN.out; omega))
        go_wp2_with (go_at_call 127; refine (f127 _ n c ls _ HN.out (by omega) (hr.below hnx)).mono ?_; rintro e w2 ⟨rfl, hb2⟩)
        go_ret
        exact ⟨ret_bool HS.out.symm, HX.out.trans (hb2.mono HX.out.size)⟩
  · go_enter Tryz.func96, Tryz.ntmps96
    go_wp2
    go_ret
    exact ⟨ret_bool (good_long (by rw [HN.out]; omega)).symm, Below.refl _ _⟩
end Go.Proofs.YtbdlahhejfamhaaGreatDoor.Lab
/- The order of texts: total, and what rises rises throughout. -/
namespace Go.Proofs.YtbdlahhejfamhaaGreatDoor.Lab
open Go.RowKit Go.Proofs.YtbdlahhejfamhaaGreatDoor.Str Go.Lib

theorem cb_cons (x y : UInt8) (a b : List UInt8) : compareBytes (x :: a) (y :: b) = if x.toNat < y.toNat then -1 else if y.toNat < x.toNat then 1 else compareBytes a b := by
  conv => lhs; unfold compareBytes
  simp only [UInt8.lt_iff_toNat_lt]
theorem cb_zero : ∀ (a b : List UInt8), compareBytes a b = 0 → a = b := by
  intro a
  induction a with
  | nil => intro b h; cases b with
    | nil => rfl
    | cons y b => simp [compareBytes] at h
  | cons x a ih =>
    intro b h
    cases b with
    | nil => simp [compareBytes] at h
    | cons y b =>
      rw [cb_cons] at h
      split at h
      · omega
      · split at h
        · omega
        · rw [ih b h, UInt8.toNat_inj.1 (show x.toNat = y.toNat by omega)]
theorem cb_self (a : List UInt8) : compareBytes a a = 0 := by
  induction a with
  | nil => rfl
  | cons x a ih => rw [cb_cons, if_neg (by omega), if_neg (by omega), ih]
theorem cb_trans : ∀ (a b c : List UInt8), compareBytes a b < 0 → compareBytes b c < 0 → compareBytes a c < 0 := by
  intro a
  induction a with
  | nil =>
    intro b c h1 h2
    cases c with
    | nil =>
      cases b with
      | nil => simp [compareBytes] at h1
      | cons y b => simp [compareBytes] at h2
    | cons z c => simp [compareBytes]
  | cons x a ih =>
    intro b c h1 h2
    cases b with
    | nil => simp [compareBytes] at h1
    | cons y b =>
      cases c with
      | nil => simp [compareBytes] at h2
      | cons z c =>
        rw [cb_cons] at h1 h2 ⊢
        by_cases e1 : x.toNat < z.toNat
        · rw [if_pos e1]; omega
        · rw [if_neg e1]
          by_cases f1 : x.toNat < y.toNat
          · rw [if_neg (by omega), if_pos (by omega)] at h2
            omega
          · rw [if_neg f1] at h1
            by_cases f2 : y.toNat < x.toNat
            · rw [if_pos f2] at h1; omega
            · rw [if_neg f2] at h1
              by_cases g1 : y.toNat < z.toNat
              · omega
              · rw [if_neg g1] at h2
                by_cases g2 : z.toNat < y.toNat
                · rw [if_pos g2] at h2; omega
                · rw [if_neg g2] at h2
                  rw [if_neg (by omega)]
                  exact ih b c h1 h2

theorem cmpN_trans {p q r : Lb} (h1 : cmpN p q < 0) (h2 : cmpN q r < 0) : cmpN p r < 0 := cb_trans _ _ _ h1 h2
theorem cmpN_zero {p q : Lb} (h : cmpN p q = 0) : p.1 = q.1 := by
  have := cb_zero _ _ h
  have e : p.1.data = q.1.data := Array.toList_inj.1 this
  cases hp : p.1; cases hq : q.1; rw [hp, hq] at e; simpa using e
theorem cmpN_eq {p q : Lb} (h : p.1 = q.1) : cmpN p q = 0 := by unfold cmpN; rw [h]; exact cb_self _

theorem rise_all {ls : List Lb} (h : GoodP ls) : ∀ (d i : Nat), i + d + 1 < ls.length → cmpN (ls.getD i e0) (ls.getD (i + d + 1) e0) < 0 := by
  intro d
  induction d with
  | zero => intro i hi; exact (h.2 (i + 1) hi).2 (by omega)
  | succ d ih =>
    intro i hi
    exact cmpN_trans (ih i (by omega)) ((h.2 (i + (d + 1) + 1) hi).2 (by omega))
theorem rise_lt {ls : List Lb} (h : GoodP ls) {i j : Nat} (hij : i < j) (hj : j < ls.length) : cmpN (ls.getD i e0) (ls.getD j e0) < 0 := by
  have := rise_all h (j - i - 1) i (by omega)
  rwa [show i + (j - i - 1) + 1 = j from by omega] at this
end Go.Proofs.YtbdlahhejfamhaaGreatDoor.Lab
/- Lists of labels compared, in the model and in the program. -/
namespace Go.Proofs.YtbdlahhejfamhaaGreatDoor.Lab
open Go.RowKit Go.Proofs.YtbdlahhejfamhaaGreatDoor.Str

end Go.Proofs.YtbdlahhejfamhaaGreatDoor.Lab
/- What l2Cmp, compareLabel, compareLists and both CompareLabels come to. -/
namespace Go.Proofs.YtbdlahhejfamhaaGreatDoor.Lab
open Go.RowKit Go.Proofs.YtbdlahhejfamhaaGreatDoor.Str

theorem HasL.drewN {w : World} {a : Option Addr} {ls : List Lb} (h : HasL w a ls) (q : Nat) : HasL (w.drewN q) a ls := h

end Go.Proofs.YtbdlahhejfamhaaGreatDoor.Lab
/- What compareLabel, compareLists and both CompareLabels come to. -/
namespace Go.Proofs.YtbdlahhejfamhaaGreatDoor.Lab
open Go.RowKit Go.Proofs.YtbdlahhejfamhaaGreatDoor.Str

theorem two0 {w : World} {b : Nat} {u v : Value} {t : TypeId} (h : w.heap[b]? = some (.cells #[u, v] t (0, 0))) : w.cell? ⟨b, 0, none⟩ = some u := by simp [World.cell?, h]
theorem two1 {w : World} {b : Nat} {u v : Value} {t : TypeId} (h : w.heap[b]? = some (.cells #[u, v] t (0, 0))) : w.cell? ⟨b, 1, none⟩ = some v := by simp [World.cell?, h]
theorem lt_block {w : World} {k : Nat} {o : Obj} (h : w.heap[k]? = some o) : k < w.heap.size := (Array.getElem?_eq_some_iff.1 h).1
theorem box_below {w w' : World} {k : Nat} {o : Obj} (h : w.heap[k]? = some o) (hb : Below w.heap.size w w') : w'.heap[k]? = some o := (hb.block k (lt_block h)).trans h
end Go.Proofs.YtbdlahhejfamhaaGreatDoor.Lab
/- Where a name stands in good labels: the binary search. -/
namespace Go.Proofs.YtbdlahhejfamhaaGreatDoor.Lab
open Go.RowKit Go.Proofs.YtbdlahhejfamhaaGreatDoor.Str

theorem ret_tup {i : Int} {a b : Bool} (h : a = b) : Ending.returned (.tuple #[.int .i64 i, .bool a]) = .returned (.tuple #[.int .i64 i, .bool b]) := by rw [h]
structure Place (ls : List Lb) (x : Lb) (lo : Nat) : Prop where
  le : lo ≤ ls.length
  less : ∀ i, i < lo → cmpN (ls.getD i e0) x < 0
  geq : lo < ls.length → 0 ≤ cmpN (ls.getD lo e0) x

abbrev TT (w : World) (b off lo : Nat) (p x : Lb) (w' : World) : Prop :=
  w'.cell? ⟨b, off + lo * 2, none⟩ = some (.string p.1) ∧ w'.cell? ⟨b, off + lo * 2 + 1, none⟩ = some (.string p.2) ∧ w'.cell? ⟨w.heap.size, 0, none⟩ = some (.string x.1) ∧ w'.cell? ⟨w.heap.size, 1, none⟩ = some (.string x.2) ∧ Below w.heap.size w w' ∧ b < w'.heap.size
theorem TT.below {w W W' : World} {b off lo : Nat} {p x : Lb} (h : TT w b off lo p x W) (hb : Below W.heap.size W W') : TT w b off lo p x W' := by
  obtain ⟨h1, h2, h3, h4, h5, h6⟩ := h
  have l := World.block_lt_of_cell? W _ h3
  exact ⟨(hb.cell (p := ⟨b, off + lo * 2, none⟩) h6).trans h1, (hb.cell (p := ⟨b, off + lo * 2 + 1, none⟩) h6).trans h2, (hb.cell (p := ⟨w.heap.size, 0, none⟩) l).trans h3, (hb.cell (p := ⟨w.heap.size, 1, none⟩) l).trans h4, h5.trans (hb.mono h5.size), Nat.lt_of_lt_of_le h6 hb.size⟩
theorem TT.drew {w W : World} {b off lo : Nat} {p x : Lb} (h : TT w b off lo p x W) : TT w b off lo p x W.drew := ⟨h.1, h.2.1, h.2.2.1, h.2.2.2.1, h.2.2.2.2.1.drew, h.2.2.2.2.2⟩

set_option maxHeartbeats 2000000 in
theorem f156 (a : Option Addr) (n c : Nat) (ls : List Lb) (x : Lb) (w : World) (hn : ls.length = n) (hg : GoodP ls) (hr : HasL w a ls) :
    Calls Tryz.prog 156 #[.slice a n c, .agg #[.string x.1, .string x.2], .func (.func 128) #[] #[]] w fun e w' => ∃ lo : Nat, Place ls x lo ∧ e = .returned (.tuple #[.int .i64 lo, .bool (decide (lo < n ∧ cmpN (ls.getD lo e0) x = 0))]) ∧ Below w.heap.size w w' := by
  have HN := hid hn
  have h20 : n ≤ 20 := by have := hg.1; omega
  have HG := hid hg
  have HX0 := hid ((Below.refl w.heap.size w).alloc (Nat.le_refl _) (.cells #[.string x.1, .string x.2] 180))
  have HB0 := hid (heap_alloc_new w (.cells #[.string x.1, .string x.2] 180))
  clear hn hg
  go_enter Tryz.func156, Tryz.ntmps156
  go_wp2
  go_loopw [9, 10] (fun si sj wr => ∃ (lo hi : Nat), lo ≤ hi ∧ hi ≤ n ∧ si = .int .i64 lo ∧ sj = .int .i64 hi ∧ Hid (∀ i, i < lo → cmpN (ls.getD i e0) x < 0) ∧ Hid (hi < n → 0 ≤ cmpN (ls.getD hi e0) x) ∧ wr.heap[w.heap.size]? = some (.cells #[.string x.1, .string x.2] 180 (0, 0)) ∧ Below w.heap.size w wr) (fun si sj _ => (intOf sj).toNat - (intOf si).toNat)
  case atStart => exact ⟨0, n, Nat.zero_le _, Nat.le_refl _, rfl, rfl, fun i hi => by omega, fun h => by omega, HB0.out, HX0.out⟩
  case round =>
    obtain ⟨lo, hi, hlh, hhn, rfl, rfl, hlow, hhigh, hbx, hnx⟩ := hrel
    have HX := hid hnx
    have HBX := hid hbx
    have x0 := two0 hbx
    have x1 := two1 hbx
    have lx := lt_block hbx
    by_cases hlt : lo < hi
    · obtain ⟨h, hh⟩ : ∃ h, h = (lo + hi) / 2 := ⟨_, rfl⟩
      have hh1 : lo ≤ h := by omega
      have hh2 : h < hi := by omega
      have hh3 : ((lo : Int) + (hi : Int)) / 2 = (h : Int) := by omega
      have HHI := hid hh3
      clear hh hh3
      rcases hr with hr | ⟨b, off, rfl, hbl, hc⟩
      · exact absurd HN.out (by rw [hr]; simp; omega)
      obtain ⟨c0, c1⟩ := hc h (by rw [HN.out]; omega)
      have d0 := (hnx.cell (p := ⟨b, off + h * 2, none⟩) hbl).trans c0
      have d1 := (hnx.cell (p := ⟨b, off + h * 2 + 1, none⟩) hbl).trans c1
      have i1 : (h : Int) < (n : Int) := by omega
      have HLow : Hid (cmpN (ls.getD h e0) x < 0 → ∀ i, i < h + 1 → cmpN (ls.getD i e0) x < 0) := by
        intro hx i hi
        by_cases e : i = h
        · subst e; exact hx
        · exact cmpN_trans (rise_lt HG.out (show i < h by omega) (by rw [HN.out]; omega)) hx
      have HHigh : Hid (¬ cmpN (ls.getD h e0) x < 0 → h < n → 0 ≤ cmpN (ls.getD h e0) x) := fun h1 _ => by omega
      clear hc c0 c1 hnx hbx
      generalize hp : ls.getD h e0 = p at *
      by_cases h3 : cmpN p x < 0
      · go_wp2_with fail
        rw [HHI.out]
        go_region_with (go_at_call 128; refine (f128 p x _).mono ?_; rintro e w2 ⟨rfl, hb2⟩)
        all_goals
          have HX2 := hid (HX.out.trans ((below_undrew hb2).mono HX.out.size))
          have HBX2 := hid (box_below HBX.out (below_undrew hb2))
          clear hb2
          go_wp2
          go_roundw
          case rel => exact ⟨h + 1, hi, by omega, hhn, by go_num, rfl, HLow.out h3, hhigh, HBX2.out, HX2.out⟩
          case measure => simp [intOf]; omega
      · go_wp2_with fail
        rw [HHI.out]
        go_region_with (go_at_call 128; refine (f128 p x _).mono ?_; rintro e w2 ⟨rfl, hb2⟩)
        all_goals
          have HX2 := hid (HX.out.trans ((below_undrew hb2).mono HX.out.size))
          have HBX2 := hid (box_below HBX.out (below_undrew hb2))
          clear hb2
          go_wp2
          go_roundw
          case rel => exact ⟨lo, h, hh1, by omega, rfl, by go_num, hlow, by unfold Hid; rw [hp]; exact HHigh.out (by omega), HBX2.out, HX2.out⟩
          case measure => simp [intOf]; omega
    · obtain rfl : lo = hi := by omega
      have HP : Hid (Place ls x lo) := ⟨by rw [HN.out]; exact hhn, hlow.out, fun h => hhigh.out (by rw [HN.out] at h; exact h)⟩
      by_cases hln : lo < n
      · rcases hr with hr | ⟨b, off, rfl, hbl, hc⟩
        · exact absurd HN.out (by rw [hr]; simp; omega)
        obtain ⟨c0, c1⟩ := hc lo (by rw [HN.out]; omega)
        have d0 := (hnx.cell (p := ⟨b, off + lo * 2, none⟩) hbl).trans c0
        have d1 := (hnx.cell (p := ⟨b, off + lo * 2 + 1, none⟩) hbl).trans c1
        have i1 : (lo : Int) < (n : Int) := by omega
        clear hc c0 c1 hnx hbx
        have HD : Hid (decide (lo < n ∧ cmpN (ls.getD lo e0) x = 0) = (cmpN (ls.getD lo e0) x == 0)) := by
          unfold Hid; rw [Bool.eq_iff_iff]; simp [hln]
        generalize hp : ls.getD lo e0 = p at *
        have HS : Hid (TT w b off lo p x wr) := ⟨d0, d1, x0, x1, HX.out, Nat.lt_of_lt_of_le hbl HX.out.size⟩
        clear d0 d1 x0 x1 hlow hhigh
        go_wp2_with fail
        go_region_held3 (fun w' => TT w b off lo p x w') (first | exact HS.out.drew | assumption) (first | (go_at_call 128; refine (f128 p x _).mono ?_; rintro e w2 ⟨rfl, hb2⟩; have hs2 := TT.below (by assumption) hb2; clear hb2))
        go_wp2
        go_ret2
        exact ⟨lo, HP.out, ret_tup (by rw [hp, HD.out]), hs2.2.2.2.2.1⟩
      · have HD : Hid (decide (lo < n ∧ cmpN (ls.getD lo e0) x = 0) = false) := by
          unfold Hid; rw [decide_eq_false_iff_not]; intro h; exact hln h.1
        have i1 : ¬ (lo : Int) < (n : Int) := by omega
        clear hnx hbx
        go_wp2_with fail
        go_quiet (fail)
        go_wp2
        go_ret2
        exact ⟨lo, HP.out, ret_tup HD.out.symm, below_drewN HX.out _⟩

theorem f129 (a : Option Addr) (n c : Nat) (ls : List Lb) (x : ByteArray) (w : World) (hn : ls.length = n) (hg : GoodP ls) (hr : HasL w a ls) :
    Calls Tryz.prog 129 #[.slice a n c, .string x] w fun e w' => ∃ lo : Nat, Place ls (x, ByteArray.empty) lo ∧ e = .returned (.tuple #[.int .i64 lo, .bool (decide (lo < n ∧ cmpN (ls.getD lo e0) (x, ByteArray.empty) = 0))]) ∧ Below w.heap.size w w' := by
  have HN := hid hn
  have HG := hid hg
  clear hn hg
  go_enter Tryz.func129, Tryz.ntmps129
  go_wp2_with fail
  refine (f156 a n c ls (x, ByteArray.empty) _ HN.out HG.out hr).mono ?_
  rintro e w1 ⟨lo, hp, rfl, hb⟩
  have HP := hid hp
  generalize hd : decide (lo < n ∧ cmpN (ls.getD lo e0) (x, ByteArray.empty) = 0) = d
  clear hp
  go_wp2
  go_ret2
  exact ⟨lo, HP.out, ret_tup hd.symm, hb⟩
end Go.Proofs.YtbdlahhejfamhaaGreatDoor.Lab
/- The walk of FnExactCompareLabels. -/
namespace Go.Proofs.YtbdlahhejfamhaaGreatDoor.Lab
open Go.RowKit Go.Proofs.YtbdlahhejfamhaaGreatDoor.Str

end Go.Proofs.YtbdlahhejfamhaaGreatDoor.Lab
/- The value under a name: both ValueOf. -/
namespace Go.Proofs.YtbdlahhejfamhaaGreatDoor.Lab
open Go.RowKit Go.Proofs.YtbdlahhejfamhaaGreatDoor.Str

theorem str_eq {a b : ByteArray} (h : a = b) : (a.toList == b.toList) = true := by rw [h]; simp
theorem str_ne {a b : ByteArray} (h : a ≠ b) : (a.toList == b.toList) = false := by
  rw [beq_eq_false_iff_ne]
  intro e
  rw [ByteArray.toList_eq, ByteArray.toList_eq] at e
  exact h (WideShapes.bytes_inj e)
def OfV (ls : List Lb) (x v : ByteArray) : Prop :=
  (∃ k, k < ls.length ∧ (ls.getD k e0).1 = x ∧ (ls.getD k e0).2 = v ∧ ∀ i, i < k → (ls.getD i e0).1 ≠ x) ∨ ((∀ k, k < ls.length → (ls.getD k e0).1 ≠ x) ∧ v = ByteArray.empty)
theorem OfV.uniq {ls : List Lb} {x v v' : ByteArray} (h : OfV ls x v) (h' : OfV ls x v') : v = v' := by
  rcases h with ⟨k, hk, h1, h2, h3⟩ | ⟨h1, h2⟩
  · rcases h' with ⟨k', hk', h1', h2', h3'⟩ | ⟨h1', _⟩
    · have e : k = k' := by
        rcases Nat.lt_trichotomy k k' with h | h | h
        · exact absurd h1 (h3' k h)
        · exact h
        · exact absurd h1' (h3 k' h)
      subst e
      rw [← h2, ← h2']
    · exact absurd h1 (h1' k hk)
  · rcases h' with ⟨k', hk', h1', _⟩ | ⟨_, h2'⟩
    · exact absurd h1' (h1 k' hk')
    · rw [h2, h2']
theorem Place.found {ls : List Lb} {x : ByteArray} {lo : Nat} (h : Place ls (x, ByteArray.empty) lo) (hl : lo < ls.length) (hc : cmpN (ls.getD lo e0) (x, ByteArray.empty) = 0) : OfV ls x (ls.getD lo e0).2 :=
  .inl ⟨lo, hl, cmpN_zero hc, rfl, fun i hi e => by have := h.less i hi; rw [cmpN_eq (q := (x, ByteArray.empty)) e] at this; omega⟩
theorem Place.missed {ls : List Lb} {x : ByteArray} {lo : Nat} (h : Place ls (x, ByteArray.empty) lo) (hg : GoodP ls) (hc : ¬ (lo < ls.length ∧ cmpN (ls.getD lo e0) (x, ByteArray.empty) = 0)) : ∀ k, k < ls.length → (ls.getD k e0).1 ≠ x := by
  intro k hk e
  have ek := cmpN_eq (p := ls.getD k e0) (q := (x, ByteArray.empty)) e
  by_cases h1 : k < lo
  · have := h.less k h1; omega
  · by_cases h2 : k = lo
    · subst h2; exact hc ⟨hk, ek⟩
    · have h3 := rise_lt hg (show lo < k by omega) hk
      have h4 := h.geq (by omega)
      have h5 : cmpN (ls.getD lo e0) (x, ByteArray.empty) = cmpN (ls.getD lo e0) (ls.getD k e0) := by unfold cmpN; rw [← e]
      omega

theorem f97 (a : Option Addr) (n c : Nat) (ls : List Lb) (x : ByteArray) (w : World) (hn : ls.length = n) (hg : GoodP ls) (hr : HasL w a ls) :
    Calls Tryz.prog 97 #[.slice a n c, .string x] w fun e w' => ∃ v, OfV ls x v ∧ e = .returned (.string v) ∧ Below w.heap.size w w' := by
  have HN := hid hn
  have HG := hid hg
  clear hn hg
  go_enter Tryz.func97, Tryz.ntmps97
  go_wp2_with fail
  refine (f129 a n c ls x _ HN.out HG.out hr).mono ?_
  rintro e w1 ⟨lo, hp, rfl, hb⟩
  have HP := hid hp
  by_cases hd : lo < n ∧ cmpN (ls.getD lo e0) (x, ByteArray.empty) = 0
  · have HV : Hid (OfV ls x (ls.getD lo e0).2) := HP.out.found (by rw [HN.out]; exact hd.1) hd.2
    have hlt := hd.1
    rw [decide_eq_true hd]
    rcases hr with hr | ⟨b, off, rfl, hbl, hc⟩
    · exact absurd HN.out (by rw [hr]; simp; omega)
    obtain ⟨c0, c1⟩ := hc lo (by rw [HN.out]; exact hlt)
    have d1 := (hb.cell (p := ⟨b, off + lo * 2 + 1, none⟩) hbl).trans c1
    clear hc c0 c1 hp hd
    generalize (ls.getD lo e0).2 = v at *
    go_wp2
    go_ret
    exact ⟨v, HV.out, rfl, hb⟩
  · rw [decide_eq_false hd]
    have HV := hid (HP.out.missed HG.out (by rw [HN.out]; exact hd))
    clear hp hd
    go_wp2
    go_ret
    exact ⟨_, .inr ⟨HV.out, rfl⟩, rfl, hb⟩

set_option maxHeartbeats 1000000 in
theorem f92 (a : Option Addr) (n c : Nat) (ls : List Lb) (x : ByteArray) (w : World) (hn : ls.length = n) (h20 : n ≤ 20) (hr : HasL w a ls) :
    Calls Tryz.prog 92 #[.slice a n c, .string x] w fun e w' => ∃ v, OfV ls x v ∧ e = .returned (.string v) ∧ Below w.heap.size w w' := by
  have HN := hid hn
  clear hn
  go_enter Tryz.func92, Tryz.ntmps92
  go_wp2
  go_loopw [9] (fun i wr => ∃ k : Nat, k ≤ n ∧ i = .int .i64 k ∧ Hid (∀ i, i < k → (ls.getD i e0).1 ≠ x) ∧ Below w.heap.size w wr) (fun i _ => n - (intOf i).toNat)
  case atStart => exact ⟨0, Nat.zero_le _, rfl, fun i hi => by omega, Below.refl _ _⟩
  case round =>
    obtain ⟨k, hk, rfl, hu, hnx⟩ := hrel
    have HX := hid hnx
    by_cases hlt : k < n
    · rcases hr with hr | ⟨b, off, rfl, hbl, hc⟩
      · exact absurd HN.out (by rw [hr]; simp; omega)
      obtain ⟨c0, c1⟩ := hc k (by rw [HN.out]; exact hlt)
      have d0 := (hnx.cell (p := ⟨b, off + k * 2, none⟩) hbl).trans c0
      have d1 := (hnx.cell (p := ⟨b, off + k * 2 + 1, none⟩) hbl).trans c1
      by_cases he : (ls.getD k e0).1 = x
      · have HV : Hid (OfV ls x (ls.getD k e0).2) := .inl ⟨k, by rw [HN.out]; exact hlt, he, rfl, hu.out⟩
        have he' : ((ls.getD k e0).1.toList == x.toList) = true := str_eq he
        clear hc c0 c1 hnx he
        generalize (ls.getD k e0).1 = s at *
        generalize (ls.getD k e0).2 = t at *
        go_wp2
        go_ret
        exact ⟨t, HV.out, rfl, HX.out.alloc HX.out.size _⟩
      · have HU : Hid (∀ i, i < k + 1 → (ls.getD i e0).1 ≠ x) := by
          intro i hi
          by_cases e : i = k
          · subst e; exact he
          · exact hu.out i (by omega)
        have he' : ((ls.getD k e0).1.toList == x.toList) = false := str_ne he
        clear hc c0 c1 hnx he
        generalize (ls.getD k e0).1 = s at *
        generalize (ls.getD k e0).2 = t at *
        go_wp2
        go_roundw
        case rel => exact ⟨k + 1, by omega, by go_num, HU.out, HX.out.alloc HX.out.size _⟩
        case measure => simp [intOf]; omega
    · go_wp2
      go_ret
      exact ⟨_, .inr ⟨fun i hi => hu.out i (by have := HN.out; omega), rfl⟩, rfl, HX.out⟩

end Go.Proofs.YtbdlahhejfamhaaGreatDoor.Lab
