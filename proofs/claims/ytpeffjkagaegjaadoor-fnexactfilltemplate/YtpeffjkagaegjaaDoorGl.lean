/- What eqLabelS and both GoodLabels come to. -/
import Derived.Test.YtpeffjkagaegjaaDoorLab
namespace Go.Proofs.YtpeffjkagaegjaaDoor.Lab
open Go.RowKit Go.Proofs.YtpeffjkagaegjaaDoor.Str

theorem below_drewN {B : Nat} {a w : World} (h : Below B a w) (q : Nat) : Below B a (w.drewN q) := ⟨h.os, h.tape, h.output, h.size, h.block⟩
theorem below_undrew {B : Nat} {a w : World} (h : Below B a.drew w) : Below B a w := ⟨h.os, h.tape, h.output, h.size, h.block⟩
theorem below_undrewN {B q : Nat} {a w : World} (h : Below B (a.drewN q) w) : Below B a w := ⟨h.os, h.tape, h.output, h.size, h.block⟩

set_option maxHeartbeats 1000000 in
theorem f8 (a a' : Option Addr) (n c c' : Nat) (ls : List Lb) (w : World) (hn : ls.length = n) (hb : n ≤ 1048576) (hr : HasL w a ls) (hr' : HasL w a' ls) :
    Calls Tryd.prog 8 #[.slice a n c, .slice a' n c'] w fun e w' => e = .returned (.bool true) ∧ Below w.heap.size w w' := by
  have HN := hid hn
  clear hn
  go_enter Tryd.func8, Tryd.ntmps8
  go_wp2
  go_loopw [5] (fun i wr => ∃ k : Nat, k ≤ n ∧ i = .int .i64 k ∧ Below w.heap.size w wr) (fun i _ => n - (intOf i).toNat)
  case atStart => exact ⟨0, Nat.zero_le _, rfl, Below.refl _ _⟩
  case round =>
    obtain ⟨k, hk, rfl, hnx⟩ := hrel
    have HX := hid hnx
    by_cases hlt : k < n
    · rcases hr with hr | ⟨b, off, rfl, hbl, hc⟩
      · exact absurd HN.out (by rw [hr]; simp; omega)
      rcases hr' with hr | ⟨b', off', rfl, hbl', hc'⟩
      · exact absurd HN.out (by rw [hr]; simp; omega)
      obtain ⟨c0, c1⟩ := hc k (by rw [HN.out]; exact hlt)
      obtain ⟨c0', c1'⟩ := hc' k (by rw [HN.out]; exact hlt)
      have d0 := (hnx.cell (p := ⟨b, off + k * 2, none⟩) hbl).trans c0
      have d1 := (hnx.cell (p := ⟨b, off + k * 2 + 1, none⟩) hbl).trans c1
      have d0' := (hnx.cell (p := ⟨b', off' + k * 2, none⟩) hbl').trans c0'
      have d1' := (hnx.cell (p := ⟨b', off' + k * 2 + 1, none⟩) hbl').trans c1'
      have i1 : (k : Int) < (n : Int) := by omega
      clear hc c0 c1 hc' c0' c1' hnx
      generalize ls.getD k e0 = p at *
      obtain ⟨s, t⟩ := p
      go_wp2_with fail
      go_region_with (go_at_call 17; refine (f17 s t _).mono ?_; rintro e w2 ⟨rfl, hb2⟩)
      all_goals
        have HX2 := hid (HX.out.trans ((below_undrew hb2).mono HX.out.size))
        clear hb2
        go_wp2
        go_roundw
        case rel => exact ⟨k + 1, by omega, by go_num, HX2.out⟩
        case measure => simp [intOf]; omega
    · go_wp2
      go_ret
      exact ⟨rfl, HX.out⟩

def cmpN (p q : Lb) : Int := Lib.compareBytes p.1.data.toList q.1.data.toList
def okL (p : Lb) : Bool := nameL p.1.data.toList && valueL p.2.data.toList
def GoodP (ls : List Lb) : Prop := ls.length ≤ 20 ∧ ∀ i, i < ls.length → okL (ls.getD i e0) = true ∧ (0 < i → cmpN (ls.getD (i - 1) e0) (ls.getD i e0) < 0)
instance (ls : List Lb) : Decidable (GoodP ls) := by unfold GoodP; infer_instance
def goodL (ls : List Lb) : Bool := decide (GoodP ls)
/-- The first k are as they should be. -/
def Upto (ls : List Lb) (k : Nat) : Prop := ∀ i, i < k → okL (ls.getD i e0) = true ∧ (0 < i → cmpN (ls.getD (i - 1) e0) (ls.getD i e0) < 0)

theorem Upto.succ {ls : List Lb} {k : Nat} (h : Upto ls k) (h1 : okL (ls.getD k e0) = true) (h2 : 0 < k → cmpN (ls.getD (k - 1) e0) (ls.getD k e0) < 0) : Upto ls (k + 1) := by
  intro i hi
  by_cases e : i = k
  · subst e; exact ⟨h1, h2⟩
  · exact h i (by omega)
theorem good_no {ls : List Lb} {k : Nat} (hk : k < ls.length) (h : ¬ (okL (ls.getD k e0) = true ∧ (0 < k → cmpN (ls.getD (k - 1) e0) (ls.getD k e0) < 0))) : goodL ls = false :=
  decide_eq_false fun g => h (g.2 k hk)
theorem good_yes {ls : List Lb} {k : Nat} (hk : ls.length ≤ k) (h : Upto ls k) (h20 : ls.length ≤ 20) : goodL ls = true :=
  decide_eq_true ⟨h20, fun i hi => h i (by omega)⟩
theorem good_long {ls : List Lb} (h : 20 < ls.length) : goodL ls = false := decide_eq_false fun g => by have := g.1; omega

set_option maxHeartbeats 2000000 in
theorem f11 (a : Option Addr) (n c : Nat) (ls : List Lb) (w : World) (hn : ls.length = n) (hmax : n ≤ maxLen) (hr : HasL w a ls) (hf : Fit ls) :
    Calls Tryd.prog 11 #[.slice a n c] w fun e w' => e = .returned (.bool (goodL ls)) ∧ Below w.heap.size w w' := by
  unfold maxLen at hmax
  have HN := hid hn
  clear hn
  by_cases h20 : n ≤ 20
  · go_enter Tryd.func11, Tryd.ntmps11
    go_wp2
    go_loopw [10] (fun i wr => ∃ k : Nat, k ≤ n ∧ i = .int .i64 k ∧ Hid (Upto ls k) ∧ Below w.heap.size w wr) (fun i _ => n - (intOf i).toNat)
    case atStart => exact ⟨0, Nat.zero_le _, rfl, fun i hi => by omega, Below.refl _ _⟩
    case round =>
      obtain ⟨k, hk, rfl, hu, hnx⟩ := hrel
      have HX := hid hnx
      by_cases hlt : k < n
      · rcases hr with hr | ⟨b, off, rfl, hbl, hc⟩
        · exact absurd HN.out (by rw [hr]; simp; omega)
        obtain ⟨c0, c1⟩ := hc k (by rw [HN.out]; exact hlt)
        have d0 := (hnx.cell (p := ⟨b, off + k * 2, none⟩) hbl).trans c0
        have d1 := (hnx.cell (p := ⟨b, off + k * 2 + 1, none⟩) hbl).trans c1
        obtain ⟨g0, g1⟩ := hf k
        have HNo := hid (good_no (ls := ls) (k := k) (by rw [HN.out]; exact hlt))
        have HUs := hid (hu.out.succ (k := k))
        have lb : b < wr.heap.size := Nat.lt_of_lt_of_le hbl hnx.size
        by_cases h1 : nameL (ls.getD k e0).1.data.toList = true
        · by_cases h2 : valueL (ls.getD k e0).2.data.toList = true
          · have HOK : Hid (okL (ls.getD k e0) = true) := by unfold Hid okL; rw [h1, h2]; rfl
            cases k with
            | zero =>
              clear hc c0 c1 hnx
              simp only [Nat.zero_mul, Nat.add_zero] at d0 d1
              generalize (ls.getD 0 e0).1 = s at *
              generalize (ls.getD 0 e0).2 = t at *
              go_wp2
              go_quiet (first | (go_at_call 19; exact Calls.quiet_of_same (f19 s _ g0)) | (go_at_call 20; exact Calls.quiet_of_same (f20 t _ g1)))
              go_wp2
              go_roundw
              case rel => exact ⟨1, by omega, by go_num, HUs.out HOK.out (fun h => by omega), below_drewN (HX.out.alloc HX.out.size _) _⟩
              case measure => simp [intOf]; omega
            | succ j =>
              obtain ⟨p0, p1⟩ := hc j (by rw [HN.out]; omega)
              have q0 := (hnx.cell (p := ⟨b, off + j * 2, none⟩) hbl).trans p0
              have gp := (hf j).1
              clear hc c0 c1 hnx p0 p1
              have HC : Hid (cmpN (ls.getD (j + 1 - 1) e0) (ls.getD (j + 1) e0) = Lib.compareBytes (ls.getD j e0).1.data.toList (ls.getD (j + 1) e0).1.data.toList) := rfl
              generalize (ls.getD (j + 1) e0).1 = s at *
              generalize (ls.getD (j + 1) e0).2 = t at *
              generalize (ls.getD j e0).1 = r at *
              have i1 : (j : Int) < (n : Int) := by omega
              by_cases h3 : 0 ≤ Lib.compareBytes r.data.toList s.data.toList
              · go_wp2
                go_quiet (first | (go_at_call 19; exact Calls.quiet_of_same (f19 s _ g0)) | (go_at_call 20; exact Calls.quiet_of_same (f20 t _ g1)) | (go_at_call 21; exact Calls.quiet_of (f21 r s _ gp)))
                go_wp2
                go_ret
                exact ⟨ret_bool (HNo.out (fun h => by have := h.2 (by omega); rw [HC.out] at this; omega)).symm, below_drewN (HX.out.alloc HX.out.size _) _⟩
              · go_wp2
                go_quiet (first | (go_at_call 19; exact Calls.quiet_of_same (f19 s _ g0)) | (go_at_call 20; exact Calls.quiet_of_same (f20 t _ g1)) | (go_at_call 21; exact Calls.quiet_of (f21 r s _ gp)))
                go_wp2
                go_roundw
                case rel => exact ⟨j + 1 + 1, by omega, by go_num, HUs.out HOK.out (fun _ => by rw [HC.out]; omega), below_drewN (HX.out.alloc HX.out.size _) _⟩
                case measure => simp [intOf]; omega
          · have h2' : valueL (ls.getD k e0).2.data.toList = false := by simpa using h2
            have HF : Hid (¬ (okL (ls.getD k e0) = true ∧ (0 < k → cmpN (ls.getD (k - 1) e0) (ls.getD k e0) < 0))) := by
              intro h; have := h.1; unfold okL at this; rw [h2'] at this; simp at this
            clear hc c0 c1 hnx h2
            generalize (ls.getD k e0).1 = s at *
            generalize (ls.getD k e0).2 = t at *
            go_wp2
            go_quiet (first | (go_at_call 19; exact Calls.quiet_of_same (f19 s _ g0)) | (go_at_call 20; exact Calls.quiet_of_same (f20 t _ g1)))
            go_wp2
            go_ret
            exact ⟨ret_bool (HNo.out HF.out).symm, below_drewN (HX.out.alloc HX.out.size _) _⟩
        · have h1' : nameL (ls.getD k e0).1.data.toList = false := by simpa using h1
          have HF : Hid (¬ (okL (ls.getD k e0) = true ∧ (0 < k → cmpN (ls.getD (k - 1) e0) (ls.getD k e0) < 0))) := by
            intro h; have := h.1; unfold okL at this; rw [h1'] at this; simp at this
          clear hc c0 c1 hnx h1
          generalize (ls.getD k e0).1 = s at *
          generalize (ls.getD k e0).2 = t at *
          go_wp2
          go_quiet (first | (go_at_call 19; exact Calls.quiet_of_same (f19 s _ g0)) | (go_at_call 20; exact Calls.quiet_of_same (f20 t _ g1)))
          go_wp2
          go_ret
          exact ⟨ret_bool (HNo.out HF.out).symm, below_drewN (HX.out.alloc HX.out.size _) _⟩
      · go_wp2
        go_ret
        exact ⟨ret_bool (good_yes (k := k) (by rw [HN.out]; omega) hu.out (by rw [HN.out]; exact h20)).symm, HX.out⟩
  · go_enter Tryd.func11, Tryd.ntmps11
    go_wp2
    go_ret
    exact ⟨ret_bool (good_long (by rw [HN.out]; omega)).symm, Below.refl _ _⟩
end Go.Proofs.YtpeffjkagaegjaaDoor.Lab
