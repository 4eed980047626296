/- What the program's GoodLabels comes to. -/
import Derived.Test.YtpeffjkagaegjaaDoorGl
namespace Go.Proofs.YtpeffjkagaegjaaDoor.Lab
open Go.RowKit Go.Proofs.YtpeffjkagaegjaaDoor.Str

theorem f29 (p q : Lb) (w : World) : Calls Tryd.prog 29 #[.agg #[.string p.1, .string p.2], .agg #[.string q.1, .string q.2]] w fun e w' => e = .returned (.int .i64 (cmpN p q)) ∧ Below w.heap.size w w' := by
  have hb := hid (((Below.refl w.heap.size w).alloc (Nat.le_refl _) (.cells #[.string p.1, .string p.2] 34)).alloc (by simp) (.cells #[.string q.1, .string q.2] 34))
  go_enter Tryd.func29, Tryd.ntmps29
  go_wp2_with (go_at_call 42; refine (f42 _ _ _).mono ?_; rintro e w' ⟨rfl, rfl⟩)
  go_ret
  exact ⟨rfl, hb.out⟩

/-- They rise. -/
def RiseP (ls : List Lb) : Prop := ∀ i, i < ls.length → 0 < i → cmpN (ls.getD (i - 1) e0) (ls.getD i e0) < 0
instance (ls : List Lb) : Decidable (RiseP ls) := by unfold RiseP; infer_instance
def riseL (ls : List Lb) : Bool := decide (RiseP ls)

set_option maxHeartbeats 1000000 in
theorem f28 (a : Option Addr) (n c : Nat) (ls : List Lb) (w : World) (hn : ls.length = n) (hb : n ≤ 1048576) (hr : HasL w a ls) :
    Calls Tryd.prog 28 #[.slice a n c, .func (.func 29) #[] #[]] w fun e w' => e = .returned (.bool (riseL ls)) ∧ Below w.heap.size w w' := by
  have HN := hid hn
  clear hn
  go_enter Tryd.func28, Tryd.ntmps28
  go_wp2
  go_loopw [5] (fun i wr => ∃ k : Nat, (k ≤ n ∨ k = 0) ∧ i = .int .i64 ((k : Int) + 1) ∧ Hid (∀ i, i ≤ k → 0 < i → cmpN (ls.getD (i - 1) e0) (ls.getD i e0) < 0) ∧ Below w.heap.size w wr) (fun i _ => n + 1 - (intOf i).toNat)
  case atStart => exact ⟨0, .inr rfl, by go_num, fun i hi h => by omega, Below.refl _ _⟩
  case round =>
    obtain ⟨k, hk, rfl, hu, hnx⟩ := hrel
    have HX := hid hnx
    by_cases hlt : k + 1 < n
    · rcases hr with hr | ⟨b, off, rfl, hbl, hc⟩
      · exact absurd HN.out (by rw [hr]; simp; omega)
      obtain ⟨c0, c1⟩ := hc k (by rw [HN.out]; omega)
      obtain ⟨c2, c3⟩ := hc (k + 1) (by rw [HN.out]; exact hlt)
      have d0 := (hnx.cell (p := ⟨b, off + k * 2, none⟩) hbl).trans c0
      have d1 := (hnx.cell (p := ⟨b, off + k * 2 + 1, none⟩) hbl).trans c1
      have d2 := (hnx.cell (p := ⟨b, off + (k + 1) * 2, none⟩) hbl).trans c2
      have d3 := (hnx.cell (p := ⟨b, off + (k + 1) * 2 + 1, none⟩) hbl).trans c3
      have i1 : (k : Int) < (n : Int) := by omega
      have i2 : (k : Int) + 1 < (n : Int) := by omega
      have hw1 : IntKind.i64.wrap (k : Int) = (k : Int) := by rw [IntKind.wrap_i64]; omega
      have HNo : Hid (¬ cmpN (ls.getD k e0) (ls.getD (k + 1) e0) < 0 → riseL ls = false) := fun h => decide_eq_false fun g => h (g (k + 1) (by rw [HN.out]; exact hlt) (by omega))
      have HUs : Hid (cmpN (ls.getD k e0) (ls.getD (k + 1) e0) < 0 → ∀ i, i ≤ k + 1 → 0 < i → cmpN (ls.getD (i - 1) e0) (ls.getD i e0) < 0) := by
        intro h i hi h0
        by_cases e : i = k + 1
        · subst e; exact h
        · exact hu.out i (by omega) h0
      clear hc c0 c1 c2 c3 hnx
      generalize ls.getD k e0 = p at *
      generalize ls.getD (k + 1) e0 = q at *
      by_cases h3 : 0 ≤ cmpN p q
      · go_wp2_with fail
        go_region_with (go_at_call 29; refine (f29 p q _).mono ?_; rintro e w2 ⟨rfl, hb2⟩)
        all_goals
          have HX2 := hid (HX.out.trans ((below_undrew hb2).mono HX.out.size))
          clear hb2
          go_wp2
          go_ret
          exact ⟨ret_bool (HNo.out (by omega)).symm, HX2.out⟩
      · go_wp2_with fail
        go_region_with (go_at_call 29; refine (f29 p q _).mono ?_; rintro e w2 ⟨rfl, hb2⟩)
        all_goals
          have HX2 := hid (HX.out.trans ((below_undrew hb2).mono HX.out.size))
          clear hb2
          go_wp2
          go_roundw
          case rel => exact ⟨k + 1, .inl (by omega), by go_num, HUs.out (by omega), HX2.out⟩
          case measure => simp [intOf]; omega
    · go_wp2
      go_ret
      exact ⟨ret_bool (by symm; refine decide_eq_true fun i hi h0 => hu.out i (by have := HN.out; omega) h0), HX.out⟩

theorem good_split (ls : List Lb) (h20 : ls.length ≤ 20) (h : ∀ i, i < ls.length → okL (ls.getD i e0) = true) : goodL ls = riseL ls := by
  unfold goodL riseL
  rw [decide_eq_decide]
  exact ⟨fun g i hi h0 => (g.2 i hi).2 h0, fun g => ⟨h20, fun i hi => ⟨h i hi, g i hi⟩⟩⟩

set_option maxHeartbeats 2000000 in
theorem f15 (a : Option Addr) (n c : Nat) (ls : List Lb) (w : World) (hn : ls.length = n) (hmax : n ≤ maxLen) (hr : HasL w a ls) (hf : Fit ls) :
    Calls Tryd.prog 15 #[.slice a n c] w fun e w' => e = .returned (.bool (goodL ls)) ∧ Below w.heap.size w w' := by
  unfold maxLen at hmax
  have HN := hid hn
  clear hn
  by_cases h20 : n ≤ 20
  · go_enter Tryd.func15, Tryd.ntmps15
    go_wp2
    go_loopw [10] (fun i wr => ∃ k : Nat, k ≤ n ∧ i = .int .i64 k ∧ Hid (∀ i, i < k → okL (ls.getD i e0) = true) ∧ Below w.heap.size w wr) (fun i _ => n - (intOf i).toNat)
    case atStart => exact ⟨0, Nat.zero_le _, rfl, fun i hi => by omega, Below.refl _ _⟩
    case round =>
      obtain ⟨k, hk, rfl, hu, hnx⟩ := hrel
      have HX := hid hnx
      by_cases hlt : k < n
      · rcases hr with hr | ⟨b, off, rfl, hbl, hc⟩
        · exact absurd HN.out (by rw [hr]; simp; omega)
        obtain ⟨c0, c1⟩ := hc k (by rw [HN.out]; exact hlt)
        have d0 := (hnx.cell (p := ⟨b, off + k * 2, none⟩) hbl).trans c0
        have d1 := (hnx.cell (p := ⟨b, off + k * 2 + 1, none⟩) hbl).trans c1
        obtain ⟨g0, g1⟩ := hf k
        have HNo := hid (good_no (ls := ls) (k := k) (by rw [HN.out]; exact hlt))
        have HUs : Hid (okL (ls.getD k e0) = true → ∀ i, i < k + 1 → okL (ls.getD i e0) = true) := by
          intro h i hi
          by_cases e : i = k
          · subst e; exact h
          · exact hu.out i (by omega)
        have lb : b < wr.heap.size := Nat.lt_of_lt_of_le hbl hnx.size
        clear hc c0 c1 hnx
        by_cases h1 : nameL (ls.getD k e0).1.data.toList = true
        · by_cases h2 : valueL (ls.getD k e0).2.data.toList = true
          · have HOK : Hid (okL (ls.getD k e0) = true) := by unfold Hid okL; rw [h1, h2]; rfl
            generalize (ls.getD k e0).1 = s at *
            generalize (ls.getD k e0).2 = t at *
            go_wp2_with (first | (go_at_call 26; refine (f26 s _ g0).mono ?_; rintro e w' ⟨rfl, rfl⟩) | (go_at_call 27; refine (f27 t _ g1).mono ?_; rintro e w' ⟨rfl, rfl⟩))
            go_roundw
            case rel => exact ⟨k + 1, by omega, by go_num, HUs.out HOK.out, HX.out.alloc HX.out.size _⟩
            case measure => simp [intOf]; omega
          · have h2' : valueL (ls.getD k e0).2.data.toList = false := by simpa using h2
            have HF : Hid (¬ (okL (ls.getD k e0) = true ∧ (0 < k → cmpN (ls.getD (k - 1) e0) (ls.getD k e0) < 0))) := by
              intro h; have := h.1; unfold okL at this; rw [h2'] at this; simp at this
            clear h2
            generalize (ls.getD k e0).1 = s at *
            generalize (ls.getD k e0).2 = t at *
            go_wp2_with (first | (go_at_call 26; refine (f26 s _ g0).mono ?_; rintro e w' ⟨rfl, rfl⟩) | (go_at_call 27; refine (f27 t _ g1).mono ?_; rintro e w' ⟨rfl, rfl⟩))
            go_ret
            exact ⟨ret_bool (HNo.out HF.out).symm, HX.out.alloc HX.out.size _⟩
        · have h1' : nameL (ls.getD k e0).1.data.toList = false := by simpa using h1
          have HF : Hid (¬ (okL (ls.getD k e0) = true ∧ (0 < k → cmpN (ls.getD (k - 1) e0) (ls.getD k e0) < 0))) := by
            intro h; have := h.1; unfold okL at this; rw [h1'] at this; simp at this
          clear h1
          generalize (ls.getD k e0).1 = s at *
          generalize (ls.getD k e0).2 = t at *
          go_wp2_with (first | (go_at_call 26; refine (f26 s _ g0).mono ?_; rintro e w' ⟨rfl, rfl⟩) | (go_at_call 27; refine (f27 t _ g1).mono ?_; rintro e w' ⟨rfl, rfl⟩))
          go_ret
          exact ⟨ret_bool (HNo.out HF.out).symm, HX.out.alloc HX.out.size _⟩
      · have HS : Hid (goodL ls = riseL ls) := good_split ls (by rw [HN.out]; exact h20) (fun i hi => hu.out i (by have := HN.out; omega))
        go_wp2_with (go_at_call 28; refine (f28 _ n c ls _ HN.out (by omega) (hr.below hnx)).mono ?_; rintro e w2 ⟨rfl, hb2⟩)
        go_ret
        exact ⟨ret_bool HS.out.symm, HX.out.trans (hb2.mono HX.out.size)⟩
  · go_enter Tryd.func15, Tryd.ntmps15
    go_wp2
    go_ret
    exact ⟨ret_bool (good_long (by rw [HN.out]; omega)).symm, Below.refl _ _⟩
end Go.Proofs.YtpeffjkagaegjaaDoor.Lab
