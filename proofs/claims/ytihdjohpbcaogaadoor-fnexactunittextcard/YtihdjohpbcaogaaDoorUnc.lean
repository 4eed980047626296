/- The model's scaled numbers. -/
import Derived.Test.YtihdjohpbcaogaaDoorUnb
namespace Go.Proofs.YtihdjohpbcaogaaDoor.Unt
open Go.RowKit

theorem neg_nat {v : Int} (h : v < 0) (h0 : -9223372036854775807 ≤ v) : ∃ z : Nat, v = -(z : Int) ∧ z = v.natAbs ∧ 0 < z ∧ z ≤ 9223372036854775807 := ⟨v.natAbs, by omega, rfl, by omega, by omega⟩
set_option maxRecDepth 100000 in
set_option maxHeartbeats 4000000 in
theorem f7 (v : Int) (b g : Nat) (nm : Nat → List UInt8) (w : World) (hv0 : -9223372036854775807 ≤ v) (hv1 : v ≤ 9223372036854775807) (hb : Bas b) (hg : g < w.heap.size) (hnm : ∀ k, k ≤ 5 → w.cell? ⟨g, k, none⟩ = some (.string (mkS (nm k)))) (hnl : ∀ k, (nm k).length ≤ 10) :
    Calls Tryd.prog 7 #[.int .i64 v, .int .i64 b, .slice (some ⟨g, 0, none⟩) 6 6] w fun e w' => e = .returned (.string (mkS (sg v ++ scl v.natAbs b nm))) ∧ Below w.heap.size w w' := by
  have HB := hid hb
  have HNm := hid hnm
  have hb0 : 1000 ≤ b ∧ b ≤ 1024 := by rcases hb with h | h <;> omega
  obtain ⟨hb0, hb1⟩ := hb0
  clear hb hnm
  have hsg := sg_len v
  go_enter Tryd.func7, Tryd.ntmps7
  go_upto_if 11 with fail
  go_cut [0, 7] from 10 to 56 (fun s0 s7 wx => s0 = .int .i64 (v.natAbs : Int) ∧ s7 = .string (mkS (sg v)) ∧ Hid (wx = w))
  case first =>
    by_cases k0 : v < 0
    · have HS : Hid (sg v = [45]) := if_pos k0
      have HZ : Hid ((v.natAbs : Int) = -v) := by unfold Hid; omega
      go_wp2
      go_meet
      exact ⟨by rw [HZ.out], by rw [HS.out], rfl⟩
    · have HS : Hid (sg v = []) := if_neg k0
      have HZ : Hid ((v.natAbs : Int) = v) := by unfold Hid; omega
      go_wp2
      go_meet
      exact ⟨by rw [HZ.out], by rw [HS.out], rfl⟩
  case rest =>
  obtain ⟨rfl, rfl, HW⟩ := hcut
  have hw := HW.out
  subst hw
  have hz : v.natAbs ≤ 9223372036854775807 := by omega
  generalize hzv : v.natAbs = z at *
  have HZV := hid hzv
  clear hzv
  by_cases hlt : z < b
  · have HS := hid (scl_low (nm := nm) hlt)
    have hl := itoa_len (z : Int) (by omega) (by omega)
    go_wp2_with fail
    refine (f6 z _ (by omega) (by omega)).mono ?_
    rintro e w1 ⟨rfl, hb1⟩
    have HB1 := hid hb1
    clear hb1
    generalize Lib.itoa (z : Int) = X at *
    have a1 := add_run (sg v) X (by omega)
    go_wp2
    go_ret
    exact ⟨ret_str (by rw [HZV.out, HS.out]), HB1.out⟩
  have HLT := hid hlt
  go_wp2
  go_loopw [8, 9] (fun s9 s10 wr => ∃ (k U : Nat), k ≤ 5 ∧ s9 = .int .i64 U ∧ s10 = .int .i64 k ∧ Hid (U = pw b k) ∧ Hid (∀ j, j < k → b ≤ z / pw b j) ∧ Hid (wr = wc)) (fun _ s10 _ => 6 - (intOf s10).toNat)
  case atStart => exact ⟨0, b, by omega, rfl, rfl, by unfold Hid pw; simp, fun j hj => by omega, rfl⟩
  case round =>
    obtain ⟨k, U, hk, rfl, rfl, HU, HJ, HW⟩ := hrel
    have hw := HW.out
    subst hw
    have hU := pw_lim HB.out hk
    rw [← HU.out] at hU
    obtain ⟨hU0, hU1⟩ := hU
    have hU2 : (U : Int) ≠ 0 := by omega
    have t1 : Int.tmod (z : Int) (U : Int) = ((z % U : Nat) : Int) := rfl
    have t2 : Int.tdiv (z : Int) (U : Int) = ((z / U : Nat) : Int) := rfl
    have hq : z / U ≤ z := Nat.div_le_self _ _
    have hlast := pw_last HB.out hz
    by_cases hge : b ≤ z / U
    · have hk5 : k < 5 := by
        apply Classical.byContradiction
        intro h
        have e : k = 5 := by omega
        rw [HU.out, e] at hge
        omega
      have hU3 := pw_lim HB.out (show k + 1 ≤ 5 by omega)
      rw [pw_succ, ← HU.out] at hU3
      have HU' : Hid (U * b = pw b (k + 1)) := by unfold Hid; rw [pw_succ, ← HU.out]
      have HJ' : Hid (∀ j, j < k + 1 → b ≤ z / pw b j) := by
        intro j hj
        by_cases e : j = k
        · rw [e, ← HU.out]; exact hge
        · exact HJ.out j (by omega)
      have hge' : ((z / U : Nat) : Int) ≥ (b : Int) := by omega
      obtain ⟨hU3, hU4⟩ := hU3
      have m1 : (U : Int) * (b : Int) = ((U * b : Nat) : Int) := by rw [Int.natCast_mul]
      have k6 : (k : Int) + 1 < 6 := by omega
      clear hlast
      generalize U * b = V at *
      generalize z / U = Q at *
      go_wp2
      go_roundw
      case rel => exact ⟨k + 1, V, by omega, by go_num, by go_num, HU', HJ', hid (by trivial)⟩
      case measure => simp [intOf]; omega
    · have hge' : ¬ ((z / U : Nat) : Int) ≥ (b : Int) := by omega
      have HS : Hid (scl z b nm = scT z b k (nm k)) := scl_at HLT.out HJ.out (by rw [← HU.out]; omega) hk
      have HT : Hid (scT z b k (nm k) = Lib.itoa ((z / U : Nat) : Int) ++ [46] ++ Lib.itoa ((10 * (z % U) / U : Nat) : Int) ++ nm k) := by unfold Hid scT; rw [HU.out]
      have ht := tn_le (z := z) (U := U) (by omega)
      have HC2 := fun (x : World) => hid (f12 z U x hz hU0 hU1)
      clear hlast
      generalize 10 * (z % U) / U = T at *
      generalize z / U = Q at *
      generalize z % U = R at *
      have HC1 := fun (x : World) => hid (f6 (Q : Int) x (by omega) (by omega))
      have HC3 := fun (x : World) => hid (f6 (T : Int) x (by omega) (by omega))
      have l1 := itoa_len (Q : Int) (by omega) (by omega)
      have l2 := itoa_len (T : Int) (by omega) (by omega)
      have l3 := hnl k
      generalize Lib.itoa (Q : Int) = I1 at *
      generalize Lib.itoa (T : Int) = I2 at *
      obtain ⟨X1, h1⟩ : ∃ X, X = sg v ++ I1 := ⟨_, rfl⟩
      obtain ⟨X2, h2⟩ : ∃ X, X = X1 ++ [46] := ⟨_, rfl⟩
      obtain ⟨X3, h3⟩ : ∃ X, X = X2 ++ I2 := ⟨_, rfl⟩
      obtain ⟨X4, h4⟩ : ∃ X, X = X3 ++ nm k := ⟨_, rfl⟩
      have q1 : X1.length ≤ 22 := by rw [h1]; simp; omega
      have q2 : X2.length ≤ 23 := by rw [h2]; simp; omega
      have q3 : X3.length ≤ 44 := by rw [h3]; simp; omega
      have a1 : mkS (sg v) ++ mkS I1 = mkS X1 := by rw [h1]; exact mkS_app _ _
      have a2 : mkS X1 ++ ({ data := #[46] } : ByteArray) = mkS X2 := by rw [h2]; exact mkS_app _ _
      have a3 : mkS X2 ++ mkS I2 = mkS X3 := by rw [h3]; exact mkS_app _ _
      have a4 : mkS X3 ++ mkS (nm k) = mkS X4 := by rw [h4]; exact mkS_app _ _
      have b1 : ¬ 9223372036854775807 < (sg v).length + I1.length := by omega
      have b2 : ¬ 9223372036854775807 < X1.length + 1 := by omega
      have b3 : ¬ 9223372036854775807 < X2.length + I2.length := by omega
      have b4 : ¬ 9223372036854775807 < X3.length + (nm k).length := by omega
      have HZ : Hid (X4 = sg v ++ (I1 ++ [46] ++ I2 ++ nm k)) := by unfold Hid; rw [h4, h3, h2, h1]; simp
      clear h1 h2 h3 h4
      have u9 : ¬ U = 0 := by omega
      have wQ : IntKind.i64.wrap (Q : Int) = (Q : Int) := by rw [IntKind.wrap_i64]; omega
      have k6 : (k : Int) < 6 := by omega
      have k7 : k < 6 := by omega
      by_cases k8 : (k : Int) + 1 < 6
      · go_wp2_with fail
        have hb0' : Below wr.heap.size wr wr.drew := (Below.refl _ _).drew
        have hS0 : wr.drew.cell? ⟨g, k, none⟩ = some (.string (mkS (nm k))) := HNm.out k hk
        have HDr := hid hb0'
        refine wp_region_held_drew (S := fun x => x.cell? ⟨g, k, none⟩ = some (.string (mkS (nm k)))) rfl hS0 (fun hHeld => ?_)
        refine wpAnyH_take (i := 0) (oi := { dst := some 39, op := _, type := _, pos := _, after := _, guard := _ }) (v := .string (mkS (sg v))) rfl (by kernel_rfl) (by kernel_rfl) (by kernel_rfl) (fun _ _ _ h => h) (Or.inl ⟨by rfl, fun w hSw => by (try dsimp only at hSw); (try go_split_ands); go_simp⟩) (by first | trivial | assumption) ?_
        try simp only [Act.put, List.setIfInBounds_toArray, List.set_cons_zero, List.set_cons_succ]
        refine wpAnyH_take (i := 1) (oi := { dst := some 40, op := _, type := _, pos := _, after := _, guard := _ }) (v := .int .i64 (z : Int)) rfl (by kernel_rfl) (by kernel_rfl) (by kernel_rfl) (fun _ _ _ h => h) (Or.inl ⟨by rfl, fun w hSw => by (try dsimp only at hSw); (try go_split_ands); go_simp⟩) (by first | trivial | assumption) ?_
        try simp only [Act.put, List.setIfInBounds_toArray, List.set_cons_zero, List.set_cons_succ]
        refine wpAnyH_take (i := 2) (oi := { dst := some 41, op := _, type := _, pos := _, after := _, guard := _ }) (v := .int .i64 (U : Int)) rfl (by kernel_rfl) (by kernel_rfl) (by kernel_rfl) (fun _ _ _ h => h) (Or.inl ⟨by rfl, fun w hSw => by (try dsimp only at hSw); (try go_split_ands); go_simp⟩) (by first | trivial | assumption) ?_
        try simp only [Act.put, List.setIfInBounds_toArray, List.set_cons_zero, List.set_cons_succ]
        refine wpAnyH_take (i := 3) (oi := { dst := some 42, op := _, type := _, pos := _, after := _, guard := _ }) (v := .int .i64 (Q : Int)) rfl (by kernel_rfl) (by kernel_rfl) (by kernel_rfl) (fun _ _ _ h => h) (Or.inl ⟨by rfl, fun w hSw => by (try dsimp only at hSw); (try go_split_ands); go_simp⟩) (by first | trivial | assumption) ?_
        try simp only [Act.put, List.setIfInBounds_toArray, List.set_cons_zero, List.set_cons_succ]
        refine wpAnyH_take (i := 7) (oi := { dst := some 46, op := _, type := _, pos := _, after := _, guard := _ }) (v := .int .i64 (z : Int)) rfl (by kernel_rfl) (by kernel_rfl) (by kernel_rfl) (fun _ _ _ h => h) (Or.inl ⟨by rfl, fun w hSw => by (try dsimp only at hSw); (try go_split_ands); go_simp⟩) (by first | trivial | assumption) ?_
        try simp only [Act.put, List.setIfInBounds_toArray, List.set_cons_zero, List.set_cons_succ]
        refine wpAnyH_take (i := 8) (oi := { dst := some 47, op := _, type := _, pos := _, after := _, guard := _ }) (v := .int .i64 (U : Int)) rfl (by kernel_rfl) (by kernel_rfl) (by kernel_rfl) (fun _ _ _ h => h) (Or.inl ⟨by rfl, fun w hSw => by (try dsimp only at hSw); (try go_split_ands); go_simp⟩) (by first | trivial | assumption) ?_
        try simp only [Act.put, List.setIfInBounds_toArray, List.set_cons_zero, List.set_cons_succ]
        refine wpAnyH_take (i := 12) (oi := { dst := some 51, op := _, type := _, pos := _, after := _, guard := _ }) (v := .slice (some ⟨g, 0, none⟩) 6 6) rfl (by kernel_rfl) (by kernel_rfl) (by kernel_rfl) (fun _ _ _ h => h) (Or.inl ⟨by rfl, fun w hSw => by (try dsimp only at hSw); (try go_split_ands); go_simp⟩) (by first | trivial | assumption) ?_
        try simp only [Act.put, List.setIfInBounds_toArray, List.set_cons_zero, List.set_cons_succ]
        refine wpAnyH_take (i := 13) (oi := { dst := some 52, op := _, type := _, pos := _, after := _, guard := _ }) (v := .int .i64 (k : Int)) rfl (by kernel_rfl) (by kernel_rfl) (by kernel_rfl) (fun _ _ _ h => h) (Or.inl ⟨by rfl, fun w hSw => by (try dsimp only at hSw); (try go_split_ands); go_simp⟩) (by first | trivial | assumption) ?_
        try simp only [Act.put, List.setIfInBounds_toArray, List.set_cons_zero, List.set_cons_succ]
        refine wpAnyH_take (i := 14) (oi := { dst := some 53, op := _, type := _, pos := _, after := _, guard := _ }) (v := .pointer (some ⟨g, k, none⟩)) rfl (by kernel_rfl) (by kernel_rfl) (by kernel_rfl) (fun _ _ _ h => h) (Or.inl ⟨by rfl, fun w hSw => by (try dsimp only at hSw); (try go_split_ands); go_simp⟩) (by first | trivial | assumption) ?_
        try simp only [Act.put, List.setIfInBounds_toArray, List.set_cons_zero, List.set_cons_succ]
        refine wpAnyH_take (i := 15) (oi := { dst := some 54, op := _, type := _, pos := _, after := _, guard := _ }) (v := .string (mkS (nm k))) rfl (by kernel_rfl) (by kernel_rfl) (by kernel_rfl) (fun _ _ _ h => h) (Or.inl ⟨by rfl, fun w hSw => by (try dsimp only at hSw); (try go_split_ands); go_simp⟩) (by first | trivial | assumption) ?_
        try simp only [Act.put, List.setIfInBounds_toArray, List.set_cons_zero, List.set_cons_succ]
        refine wpAnyH_ready (rs := [4]) (by kernel_rfl) (by simp) (AllReadyH.cons (o := { dst := some 43, op := _, type := _, pos := _, after := _, guard := _ }) rfl ?_ AllReadyH.nil)
        intro K1 hK1
        go_simp
        go_wp2_with (go_at_call 6; refine (HC1 _).out.mono ?_; rintro e w2 ⟨rfl, hb2⟩)
        have HB2 := hid (HDr.out.trans (hb2.mono HDr.out.size))
        have hS2 : w2.cell? ⟨g, k, none⟩ = some (.string (mkS (nm k))) := (hb2.cell (p := ⟨g, k, none⟩) (by exact hg)).trans hS0
        have hg2 : g < w2.heap.size := Nat.lt_of_lt_of_le hg hb2.size
        clear hb2
        refine hK1.out _ _ hS2 (fun _ => ?_)
        clear hK1 K1
        try simp only [Act.put, List.setIfInBounds_toArray, List.set_cons_zero, List.set_cons_succ]
        refine wpAnyH_take (i := 5) (oi := { dst := some 44, op := _, type := _, pos := _, after := _, guard := _ }) (v := .string (mkS X1)) rfl (by kernel_rfl) (by kernel_rfl) (by kernel_rfl) (fun _ _ _ h => h) (Or.inl ⟨by rfl, fun w hSw => by (try dsimp only at hSw); (try go_split_ands); go_simp⟩) (by first | trivial | assumption) ?_
        try simp only [Act.put, List.setIfInBounds_toArray, List.set_cons_zero, List.set_cons_succ]
        refine wpAnyH_take (i := 6) (oi := { dst := some 45, op := _, type := _, pos := _, after := _, guard := _ }) (v := .string (mkS X2)) rfl (by kernel_rfl) (by kernel_rfl) (by kernel_rfl) (fun _ _ _ h => h) (Or.inl ⟨by rfl, fun w hSw => by (try dsimp only at hSw); (try go_split_ands); go_simp⟩) (by first | trivial | assumption) ?_
        try simp only [Act.put, List.setIfInBounds_toArray, List.set_cons_zero, List.set_cons_succ]
        refine wpAnyH_ready (rs := [9]) (by kernel_rfl) (by simp) (AllReadyH.cons (o := { dst := some 48, op := _, type := _, pos := _, after := _, guard := _ }) rfl ?_ AllReadyH.nil)
        intro K2 hK2
        go_simp
        go_wp2_with (go_at_call 12; refine (HC2 _).out.mono ?_; rintro e w3 ⟨rfl, hw3⟩)
        subst w3
        refine hK2.out _ _ hS2 (fun _ => ?_)
        clear hK2 K2
        try simp only [Act.put, List.setIfInBounds_toArray, List.set_cons_zero, List.set_cons_succ]
        refine wpAnyH_ready (rs := [10]) (by kernel_rfl) (by simp) (AllReadyH.cons (o := { dst := some 49, op := _, type := _, pos := _, after := _, guard := _ }) rfl ?_ AllReadyH.nil)
        intro K3 hK3
        go_simp
        go_wp2_with (go_at_call 6; refine (HC3 _).out.mono ?_; rintro e w4 ⟨rfl, hb4⟩)
        have HB4 := hid (HB2.out.trans (hb4.mono HB2.out.size))
        have hS4 : w4.cell? ⟨g, k, none⟩ = some (.string (mkS (nm k))) := (hb4.cell (p := ⟨g, k, none⟩) (by exact hg2)).trans hS2
        clear hb4
        refine hK3.out _ _ hS4 (fun _ => ?_)
        clear hK3 K3
        try simp only [Act.put, List.setIfInBounds_toArray, List.set_cons_zero, List.set_cons_succ]
        refine wpAnyH_take (i := 11) (oi := { dst := some 50, op := _, type := _, pos := _, after := _, guard := _ }) (v := .string (mkS X3)) rfl (by kernel_rfl) (by kernel_rfl) (by kernel_rfl) (fun _ _ _ h => h) (Or.inl ⟨by rfl, fun w hSw => by (try dsimp only at hSw); (try go_split_ands); go_simp⟩) (by first | trivial | assumption) ?_
        try simp only [Act.put, List.setIfInBounds_toArray, List.set_cons_zero, List.set_cons_succ]
        refine wpAnyH_take (i := 16) (oi := { dst := some 55, op := _, type := _, pos := _, after := _, guard := _ }) (v := .string (mkS X4)) rfl (by kernel_rfl) (by kernel_rfl) (by kernel_rfl) (fun _ _ _ h => h) (Or.inl ⟨by rfl, fun w hSw => by (try dsimp only at hSw); (try go_split_ands); go_simp⟩) (by first | trivial | assumption) ?_
        try simp only [Act.put, List.setIfInBounds_toArray, List.set_cons_zero, List.set_cons_succ]
        refine wpAnyH_take (i := 17) (oi := { dst := some 6, op := _, type := _, pos := _, after := _, guard := _ }) (v := .string (mkS X4)) rfl (by kernel_rfl) (by kernel_rfl) (by kernel_rfl) (fun _ _ _ h => h) (Or.inl ⟨by rfl, fun w hSw => by (try dsimp only at hSw); (try go_split_ands); go_simp⟩) (by first | trivial | assumption) ?_
        try simp only [Act.put, List.setIfInBounds_toArray, List.set_cons_zero, List.set_cons_succ]
        refine wpAnyH_done (by kernel_rfl) ?_ _
        go_wp2
        go_ret
        exact ⟨ret_str (by rw [HZV.out, HS.out, HT.out, HZ.out]), HB4.out⟩
      · go_wp2_with fail
        have hb0' : Below wr.heap.size wr wr.drew := (Below.refl _ _).drew
        have hS0 : wr.drew.cell? ⟨g, k, none⟩ = some (.string (mkS (nm k))) := HNm.out k hk
        have HDr := hid hb0'
        refine wp_region_held_drew (S := fun x => x.cell? ⟨g, k, none⟩ = some (.string (mkS (nm k)))) rfl hS0 (fun hHeld => ?_)
        refine wpAnyH_take (i := 0) (oi := { dst := some 39, op := _, type := _, pos := _, after := _, guard := _ }) (v := .string (mkS (sg v))) rfl (by kernel_rfl) (by kernel_rfl) (by kernel_rfl) (fun _ _ _ h => h) (Or.inl ⟨by rfl, fun w hSw => by (try dsimp only at hSw); (try go_split_ands); go_simp⟩) (by first | trivial | assumption) ?_
        try simp only [Act.put, List.setIfInBounds_toArray, List.set_cons_zero, List.set_cons_succ]
        refine wpAnyH_take (i := 1) (oi := { dst := some 40, op := _, type := _, pos := _, after := _, guard := _ }) (v := .int .i64 (z : Int)) rfl (by kernel_rfl) (by kernel_rfl) (by kernel_rfl) (fun _ _ _ h => h) (Or.inl ⟨by rfl, fun w hSw => by (try dsimp only at hSw); (try go_split_ands); go_simp⟩) (by first | trivial | assumption) ?_
        try simp only [Act.put, List.setIfInBounds_toArray, List.set_cons_zero, List.set_cons_succ]
        refine wpAnyH_take (i := 2) (oi := { dst := some 41, op := _, type := _, pos := _, after := _, guard := _ }) (v := .int .i64 (U : Int)) rfl (by kernel_rfl) (by kernel_rfl) (by kernel_rfl) (fun _ _ _ h => h) (Or.inl ⟨by rfl, fun w hSw => by (try dsimp only at hSw); (try go_split_ands); go_simp⟩) (by first | trivial | assumption) ?_
        try simp only [Act.put, List.setIfInBounds_toArray, List.set_cons_zero, List.set_cons_succ]
        refine wpAnyH_take (i := 3) (oi := { dst := some 42, op := _, type := _, pos := _, after := _, guard := _ }) (v := .int .i64 (Q : Int)) rfl (by kernel_rfl) (by kernel_rfl) (by kernel_rfl) (fun _ _ _ h => h) (Or.inl ⟨by rfl, fun w hSw => by (try dsimp only at hSw); (try go_split_ands); go_simp⟩) (by first | trivial | assumption) ?_
        try simp only [Act.put, List.setIfInBounds_toArray, List.set_cons_zero, List.set_cons_succ]
        refine wpAnyH_take (i := 7) (oi := { dst := some 46, op := _, type := _, pos := _, after := _, guard := _ }) (v := .int .i64 (z : Int)) rfl (by kernel_rfl) (by kernel_rfl) (by kernel_rfl) (fun _ _ _ h => h) (Or.inl ⟨by rfl, fun w hSw => by (try dsimp only at hSw); (try go_split_ands); go_simp⟩) (by first | trivial | assumption) ?_
        try simp only [Act.put, List.setIfInBounds_toArray, List.set_cons_zero, List.set_cons_succ]
        refine wpAnyH_take (i := 8) (oi := { dst := some 47, op := _, type := _, pos := _, after := _, guard := _ }) (v := .int .i64 (U : Int)) rfl (by kernel_rfl) (by kernel_rfl) (by kernel_rfl) (fun _ _ _ h => h) (Or.inl ⟨by rfl, fun w hSw => by (try dsimp only at hSw); (try go_split_ands); go_simp⟩) (by first | trivial | assumption) ?_
        try simp only [Act.put, List.setIfInBounds_toArray, List.set_cons_zero, List.set_cons_succ]
        refine wpAnyH_take (i := 12) (oi := { dst := some 51, op := _, type := _, pos := _, after := _, guard := _ }) (v := .slice (some ⟨g, 0, none⟩) 6 6) rfl (by kernel_rfl) (by kernel_rfl) (by kernel_rfl) (fun _ _ _ h => h) (Or.inl ⟨by rfl, fun w hSw => by (try dsimp only at hSw); (try go_split_ands); go_simp⟩) (by first | trivial | assumption) ?_
        try simp only [Act.put, List.setIfInBounds_toArray, List.set_cons_zero, List.set_cons_succ]
        refine wpAnyH_take (i := 13) (oi := { dst := some 52, op := _, type := _, pos := _, after := _, guard := _ }) (v := .int .i64 (k : Int)) rfl (by kernel_rfl) (by kernel_rfl) (by kernel_rfl) (fun _ _ _ h => h) (Or.inl ⟨by rfl, fun w hSw => by (try dsimp only at hSw); (try go_split_ands); go_simp⟩) (by first | trivial | assumption) ?_
        try simp only [Act.put, List.setIfInBounds_toArray, List.set_cons_zero, List.set_cons_succ]
        refine wpAnyH_take (i := 14) (oi := { dst := some 53, op := _, type := _, pos := _, after := _, guard := _ }) (v := .pointer (some ⟨g, k, none⟩)) rfl (by kernel_rfl) (by kernel_rfl) (by kernel_rfl) (fun _ _ _ h => h) (Or.inl ⟨by rfl, fun w hSw => by (try dsimp only at hSw); (try go_split_ands); go_simp⟩) (by first | trivial | assumption) ?_
        try simp only [Act.put, List.setIfInBounds_toArray, List.set_cons_zero, List.set_cons_succ]
        refine wpAnyH_take (i := 15) (oi := { dst := some 54, op := _, type := _, pos := _, after := _, guard := _ }) (v := .string (mkS (nm k))) rfl (by kernel_rfl) (by kernel_rfl) (by kernel_rfl) (fun _ _ _ h => h) (Or.inl ⟨by rfl, fun w hSw => by (try dsimp only at hSw); (try go_split_ands); go_simp⟩) (by first | trivial | assumption) ?_
        try simp only [Act.put, List.setIfInBounds_toArray, List.set_cons_zero, List.set_cons_succ]
        refine wpAnyH_ready (rs := [4]) (by kernel_rfl) (by simp) (AllReadyH.cons (o := { dst := some 43, op := _, type := _, pos := _, after := _, guard := _ }) rfl ?_ AllReadyH.nil)
        intro K1 hK1
        go_simp
        go_wp2_with (go_at_call 6; refine (HC1 _).out.mono ?_; rintro e w2 ⟨rfl, hb2⟩)
        have HB2 := hid (HDr.out.trans (hb2.mono HDr.out.size))
        have hS2 : w2.cell? ⟨g, k, none⟩ = some (.string (mkS (nm k))) := (hb2.cell (p := ⟨g, k, none⟩) (by exact hg)).trans hS0
        have hg2 : g < w2.heap.size := Nat.lt_of_lt_of_le hg hb2.size
        clear hb2
        refine hK1.out _ _ hS2 (fun _ => ?_)
        clear hK1 K1
        try simp only [Act.put, List.setIfInBounds_toArray, List.set_cons_zero, List.set_cons_succ]
        refine wpAnyH_take (i := 5) (oi := { dst := some 44, op := _, type := _, pos := _, after := _, guard := _ }) (v := .string (mkS X1)) rfl (by kernel_rfl) (by kernel_rfl) (by kernel_rfl) (fun _ _ _ h => h) (Or.inl ⟨by rfl, fun w hSw => by (try dsimp only at hSw); (try go_split_ands); go_simp⟩) (by first | trivial | assumption) ?_
        try simp only [Act.put, List.setIfInBounds_toArray, List.set_cons_zero, List.set_cons_succ]
        refine wpAnyH_take (i := 6) (oi := { dst := some 45, op := _, type := _, pos := _, after := _, guard := _ }) (v := .string (mkS X2)) rfl (by kernel_rfl) (by kernel_rfl) (by kernel_rfl) (fun _ _ _ h => h) (Or.inl ⟨by rfl, fun w hSw => by (try dsimp only at hSw); (try go_split_ands); go_simp⟩) (by first | trivial | assumption) ?_
        try simp only [Act.put, List.setIfInBounds_toArray, List.set_cons_zero, List.set_cons_succ]
        refine wpAnyH_ready (rs := [9]) (by kernel_rfl) (by simp) (AllReadyH.cons (o := { dst := some 48, op := _, type := _, pos := _, after := _, guard := _ }) rfl ?_ AllReadyH.nil)
        intro K2 hK2
        go_simp
        go_wp2_with (go_at_call 12; refine (HC2 _).out.mono ?_; rintro e w3 ⟨rfl, hw3⟩)
        subst w3
        refine hK2.out _ _ hS2 (fun _ => ?_)
        clear hK2 K2
        try simp only [Act.put, List.setIfInBounds_toArray, List.set_cons_zero, List.set_cons_succ]
        refine wpAnyH_ready (rs := [10]) (by kernel_rfl) (by simp) (AllReadyH.cons (o := { dst := some 49, op := _, type := _, pos := _, after := _, guard := _ }) rfl ?_ AllReadyH.nil)
        intro K3 hK3
        go_simp
        go_wp2_with (go_at_call 6; refine (HC3 _).out.mono ?_; rintro e w4 ⟨rfl, hb4⟩)
        have HB4 := hid (HB2.out.trans (hb4.mono HB2.out.size))
        have hS4 : w4.cell? ⟨g, k, none⟩ = some (.string (mkS (nm k))) := (hb4.cell (p := ⟨g, k, none⟩) (by exact hg2)).trans hS2
        clear hb4
        refine hK3.out _ _ hS4 (fun _ => ?_)
        clear hK3 K3
        try simp only [Act.put, List.setIfInBounds_toArray, List.set_cons_zero, List.set_cons_succ]
        refine wpAnyH_take (i := 11) (oi := { dst := some 50, op := _, type := _, pos := _, after := _, guard := _ }) (v := .string (mkS X3)) rfl (by kernel_rfl) (by kernel_rfl) (by kernel_rfl) (fun _ _ _ h => h) (Or.inl ⟨by rfl, fun w hSw => by (try dsimp only at hSw); (try go_split_ands); go_simp⟩) (by first | trivial | assumption) ?_
        try simp only [Act.put, List.setIfInBounds_toArray, List.set_cons_zero, List.set_cons_succ]
        refine wpAnyH_take (i := 16) (oi := { dst := some 55, op := _, type := _, pos := _, after := _, guard := _ }) (v := .string (mkS X4)) rfl (by kernel_rfl) (by kernel_rfl) (by kernel_rfl) (fun _ _ _ h => h) (Or.inl ⟨by rfl, fun w hSw => by (try dsimp only at hSw); (try go_split_ands); go_simp⟩) (by first | trivial | assumption) ?_
        try simp only [Act.put, List.setIfInBounds_toArray, List.set_cons_zero, List.set_cons_succ]
        refine wpAnyH_take (i := 17) (oi := { dst := some 6, op := _, type := _, pos := _, after := _, guard := _ }) (v := .string (mkS X4)) rfl (by kernel_rfl) (by kernel_rfl) (by kernel_rfl) (fun _ _ _ h => h) (Or.inl ⟨by rfl, fun w hSw => by (try dsimp only at hSw); (try go_split_ands); go_simp⟩) (by first | trivial | assumption) ?_
        try simp only [Act.put, List.setIfInBounds_toArray, List.set_cons_zero, List.set_cons_succ]
        refine wpAnyH_done (by kernel_rfl) ?_ _
        go_wp2
        go_ret
        exact ⟨ret_str (by rw [HZV.out, HS.out, HT.out, HZ.out]), HB4.out⟩
end Go.Proofs.YtihdjohpbcaogaaDoor.Unt
