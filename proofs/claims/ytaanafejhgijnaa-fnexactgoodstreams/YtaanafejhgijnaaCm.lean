/- What l2Cmp, compareLabel, compareLists and both CompareLabels come to. -/
import Derived.Test.YtaanafejhgijnaaCl
namespace Go.Proofs.Ytaanafejhgijnaa.Lab
open Go.RowKit Go.Proofs.Ytaanafejhgijnaa.Str

theorem HasL.drewN {w : World} {a : Option Addr} {ls : List Lb} (h : HasL w a ls) (q : Nat) : HasL (w.drewN q) a ls := h

set_option maxHeartbeats 2000000 in
theorem f11 (a a' : Option Addr) (n n' c c' : Nat) (la lb : List Lb) (w : World) (hn : la.length = n) (hn' : lb.length = n') (hb : n ≤ 1048576) (_hb' : n' ≤ 1048576) (hr : HasL w a la) (hr' : HasL w a' lb) (hf : Fit la) :
    Calls Try.prog 11 #[.slice a n c, .slice a' n' c'] w fun e w' => e = .returned (.int .i64 (cmpList la lb)) ∧ ∃ q, w' = w.drewN q := by
  have HN := hid hn
  have HN' := hid hn'
  clear hn hn'
  go_enter Try.func11, Try.ntmps11
  go_wp2
  go_loopw [5] (fun i wr => ∃ (k q : Nat), k ≤ n ∧ k ≤ n' ∧ i = .int .i64 k ∧ Hid (∀ i, i < k → cmpL (la.getD i e0) (lb.getD i e0) = 0) ∧ Hid (wr = w.drewN q)) (fun i _ => n - (intOf i).toNat)
  case atStart => exact ⟨0, 0, Nat.zero_le _, Nat.zero_le _, rfl, fun i hi => by omega, rfl⟩
  case round =>
    obtain ⟨k, q, hk, hk', rfl, hu, hw⟩ := hrel
    by_cases h1 : k < n
    · by_cases h2 : k < n'
      · rcases hr with hr | ⟨b, off, rfl, hbl, hc⟩
        · exact absurd HN.out (by rw [hr]; simp; omega)
        rcases hr' with hr | ⟨b', off', rfl, hbl', hc'⟩
        · exact absurd HN'.out (by rw [hr]; simp; omega)
        obtain ⟨c0, c1⟩ := hc k (by rw [HN.out]; exact h1)
        obtain ⟨c0', c1'⟩ := hc' k (by rw [HN'.out]; exact h2)
        obtain ⟨g0, g1⟩ := hf k
        have i1 : (k : Int) < (n : Int) := by omega
        have i2 : (k : Int) < (n' : Int) := by omega
        have HAt := hid (lst_at k la lb (by rw [HN.out]; exact h1) (by rw [HN'.out]; exact h2) hu.out)
        have HUs : Hid (cmpL (la.getD k e0) (lb.getD k e0) = 0 → ∀ i, i < k + 1 → cmpL (la.getD i e0) (lb.getD i e0) = 0) := by
          intro h i hi
          by_cases e : i = k
          · subst e; exact h
          · exact hu.out i (by omega)
        have d0 : wr.cell? ⟨b, off + k * 2, none⟩ = some (.string (la.getD k e0).1) := by rw [hw.out]; exact c0
        have d1 : wr.cell? ⟨b, off + k * 2 + 1, none⟩ = some (.string (la.getD k e0).2) := by rw [hw.out]; exact c1
        have d0' : wr.cell? ⟨b', off' + k * 2, none⟩ = some (.string (lb.getD k e0).1) := by rw [hw.out]; exact c0'
        have d1' : wr.cell? ⟨b', off' + k * 2 + 1, none⟩ = some (.string (lb.getD k e0).2) := by rw [hw.out]; exact c1'
        clear hc hc' c0 c1 c0' c1'
        generalize la.getD k e0 = p at *
        generalize lb.getD k e0 = r at *
        by_cases z1 : cmpN p r = 0
        · by_cases z2 : cmpV p r = 0
          · have HZ : Hid (cmpL p r = 0) := by unfold Hid cmpL orC; rw [if_pos z1]; exact z2
            have y1 : (Lib.compareBytes p.1.data.toList r.1.data.toList != 0) = false := by simpa [cmpN] using z1
            have y2 : (Lib.compareBytes p.2.data.toList r.2.data.toList != 0) = false := by simpa [cmpV] using z2
            clear z1 z2
            go_wp2
            go_quiet ((go_at_call 24; exact Calls.quiet_of (f24 p.1 r.1 _ g0)))
            go_wp2
            obtain ⟨w2, hw2⟩ : ∃ w2, w2 = wr.drewN nq := ⟨_, rfl⟩
            rw [← hw2]
            have d2 : w2.cell? ⟨b, off + k * 2 + 1, none⟩ = some (.string p.2) := by rw [hw2]; exact d1
            have d2' : w2.cell? ⟨b', off' + k * 2 + 1, none⟩ = some (.string r.2) := by rw [hw2]; exact d1'
            have HW2 : Hid (∃ q, w2 = w.drewN q) := ⟨_, by rw [hw2, hw.out, World.drewN_drewN]⟩
            clear hw2
            go_quiet ((go_at_call 24; exact Calls.quiet_of (f24 p.2 r.2 _ g1)))
            go_wp2
            go_roundw
            case rel =>
              obtain ⟨q2, hq2⟩ := HW2.out
              exact ⟨k + 1, _, by omega, by omega, by go_num, HUs.out HZ.out, by unfold Hid; rw [hq2, World.drewN_drewN]⟩
            case measure => simp [intOf]; omega
          · have HZ : Hid (cmpL p r = cmpV p r) := by unfold Hid cmpL orC; rw [if_pos z1]
            have HZ2 := hid z2
            have y1 : (Lib.compareBytes p.1.data.toList r.1.data.toList != 0) = false := by simpa [cmpN] using z1
            have y2 : (Lib.compareBytes p.2.data.toList r.2.data.toList != 0) = true := by simpa [cmpV] using z2
            clear z1 z2
            go_wp2
            go_quiet ((go_at_call 24; exact Calls.quiet_of (f24 p.1 r.1 _ g0)))
            go_wp2
            obtain ⟨w2, hw2⟩ : ∃ w2, w2 = wr.drewN nq := ⟨_, rfl⟩
            rw [← hw2]
            have d2 : w2.cell? ⟨b, off + k * 2 + 1, none⟩ = some (.string p.2) := by rw [hw2]; exact d1
            have d2' : w2.cell? ⟨b', off' + k * 2 + 1, none⟩ = some (.string r.2) := by rw [hw2]; exact d1'
            have HW2 : Hid (∃ q, w2 = w.drewN q) := ⟨_, by rw [hw2, hw.out, World.drewN_drewN]⟩
            clear hw2
            go_quiet ((go_at_call 24; exact Calls.quiet_of (f24 p.2 r.2 _ g1)))
            go_wp2
            go_ret
            obtain ⟨q2, hq2⟩ := HW2.out
            exact ⟨ret_int (by rw [HAt.out (by rw [HZ.out]; exact HZ2.out), HZ.out]; rfl), _, by rw [hq2, World.drewN_drewN]⟩
        · have HZ : Hid (cmpL p r = cmpN p r) := by unfold Hid cmpL orC; rw [if_neg z1]
          have HZ2 := hid z1
          have y1 : (Lib.compareBytes p.1.data.toList r.1.data.toList != 0) = true := by simpa [cmpN] using z1
          clear z1
          go_wp2
          go_quiet ((go_at_call 24; exact Calls.quiet_of (f24 p.1 r.1 _ g0)))
          go_wp2
          go_ret
          exact ⟨ret_int (by rw [HAt.out (by rw [HZ.out]; exact HZ2.out), HZ.out]; rfl), _, by rw [hw.out, World.drewN_drewN]⟩
      · have HE : Hid (cmpList la lb = numC n n') := by
          have := lst_end k la lb hu.out (by rw [HN.out]; exact hk) (by rw [HN'.out]; exact hk') (.inr (by rw [HN'.out]; omega))
          rw [HN.out, HN'.out] at this; exact this
        go_wp2_with (go_at_call 25; refine (f25 _ _ _).mono ?_; rintro e w' ⟨rfl, rfl⟩)
        go_ret
        exact ⟨ret_int HE.out.symm, _, hw.out⟩
    · have HE : Hid (cmpList la lb = numC n n') := by
        have := lst_end k la lb hu.out (by rw [HN.out]; exact hk) (by rw [HN'.out]; exact hk') (.inl (by rw [HN.out]; omega))
        rw [HN.out, HN'.out] at this; exact this
      go_wp2_with (go_at_call 25; refine (f25 _ _ _).mono ?_; rintro e w' ⟨rfl, rfl⟩)
      go_ret
      exact ⟨ret_int HE.out.symm, _, hw.out⟩
end Go.Proofs.Ytaanafejhgijnaa.Lab
