/- Values with their units: what is told, as lists of bytes; scaled numbers of both sides. -/
import Derived.Test.YtihdjohpbcaogaaDoorUna
import Derived.Deep.RegionHeld3
import Derived.Deep.CutRange
namespace Go.Proofs.YtihdjohpbcaogaaDoor.Unt
open Go.RowKit

/-- A step's size. -/
def pw (b k : Nat) : Nat := b ^ (k + 1)
/-- So many steps up. -/
def kf (z b : Nat) : Nat := if z / pw b 0 < b then 0 else if z / pw b 1 < b then 1 else if z / pw b 2 < b then 2 else if z / pw b 3 < b then 3 else if z / pw b 4 < b then 4 else 5
theorem kf_of {z b k : Nat} (h : ∀ j, j < k → b ≤ z / pw b j) (h2 : z / pw b k < b) (hk : k ≤ 5) : kf z b = k := by
  unfold kf
  have n0 : 0 < k → ¬ z / pw b 0 < b := fun x => by have := h 0 x; omega
  have n1 : 1 < k → ¬ z / pw b 1 < b := fun x => by have := h 1 x; omega
  have n2 : 2 < k → ¬ z / pw b 2 < b := fun x => by have := h 2 x; omega
  have n3 : 3 < k → ¬ z / pw b 3 < b := fun x => by have := h 3 x; omega
  have n4 : 4 < k → ¬ z / pw b 4 < b := fun x => by have := h 4 x; omega
  have c : k = 0 ∨ k = 1 ∨ k = 2 ∨ k = 3 ∨ k = 4 ∨ k = 5 := by omega
  rcases c with rfl | rfl | rfl | rfl | rfl | rfl
  · rw [if_pos h2]
  · rw [if_neg (n0 (by omega)), if_pos h2]
  · rw [if_neg (n0 (by omega)), if_neg (n1 (by omega)), if_pos h2]
  · rw [if_neg (n0 (by omega)), if_neg (n1 (by omega)), if_neg (n2 (by omega)), if_pos h2]
  · rw [if_neg (n0 (by omega)), if_neg (n1 (by omega)), if_neg (n2 (by omega)), if_neg (n3 (by omega)), if_pos h2]
  · rw [if_neg (n0 (by omega)), if_neg (n1 (by omega)), if_neg (n2 (by omega)), if_neg (n3 (by omega)), if_neg (n4 (by omega))]
/-- A base. -/
def Bas (b : Nat) : Prop := b = 1000 ∨ b = 1024
theorem pw_lim {b k : Nat} (h : Bas b) (hk : k ≤ 5) : 1000 ≤ pw b k ∧ pw b k ≤ 1152921504606846976 := by
  have c : k = 0 ∨ k = 1 ∨ k = 2 ∨ k = 3 ∨ k = 4 ∨ k = 5 := by omega
  rcases h with rfl | rfl <;> rcases c with rfl | rfl | rfl | rfl | rfl | rfl <;> simp [pw]
theorem pw_last {b z : Nat} (h : Bas b) (hz : z ≤ 9223372036854775807) : z / pw b 5 < b := by
  rcases h with rfl | rfl
  · have : pw 1000 5 = 1000000000000000000 := rfl
    rw [this]; omega
  · have : pw 1024 5 = 1152921504606846976 := rfl
    rw [this]; omega
theorem pw_succ (b k : Nat) : pw b (k + 1) = pw b k * b := by unfold pw; rw [Nat.pow_succ]
/-- A scaled number. -/
def scT (z b k : Nat) (nm : List UInt8) : List UInt8 := Lib.itoa ((z / pw b k : Nat) : Int) ++ [46] ++ Lib.itoa ((10 * (z % pw b k) / pw b k : Nat) : Int) ++ nm
def scl (z b : Nat) (nm : Nat → List UInt8) : List UInt8 := if z < b then Lib.itoa (z : Int) else scT z b (kf z b) (nm (kf z b))
theorem scl_low {z b : Nat} {nm : Nat → List UInt8} (h : z < b) : scl z b nm = Lib.itoa (z : Int) := if_pos h
theorem scl_at {z b k : Nat} {nm : Nat → List UInt8} (hb : ¬ z < b) (h : ∀ j, j < k → b ≤ z / pw b j) (h2 : z / pw b k < b) (hk : k ≤ 5) : scl z b nm = scT z b k (nm k) := by
  unfold scl; rw [if_neg hb, kf_of h h2 hk]
def sg (v : Int) : List UInt8 := if v < 0 then [45] else []
theorem sg_len (v : Int) : (sg v).length ≤ 1 := by unfold sg; split <;> simp

theorem f11 (x y : Int) (w : World) (hx0 : -9223372036854775808 ≤ x) (hx1 : x ≤ 9223372036854775807) (hy0 : -9223372036854775808 ≤ y) (hy1 : y ≤ 9223372036854775807) (hp : Pow w) :
    Calls Tryd.prog 11 #[.int .i64 x, .int .i64 y] w fun e w' => e = .returned (.string (mkS (Lib.itoa x ++ [46] ++ Lib.itoa y))) ∧ Below w.heap.size w w' := by
  have l1 := itoa_len x hx0 hx1
  have l2 := itoa_len y hy0 hy1
  have HP := hid hp
  clear hp
  go_enter Tryd.func11, Tryd.ntmps11
  go_wp2_with fail
  refine (f8 x _ hx0 hx1 HP.out).mono ?_
  rintro e w1 ⟨rfl, hb1⟩
  have HB1 := hid hb1
  clear hb1
  have a1 := add_run (Lib.itoa x) [46] (by simp; omega)
  go_wp2_with fail
  refine (f8 y _ hy0 hy1 (HP.out.below HB1.out)).mono ?_
  rintro e w2 ⟨rfl, hb2⟩
  have HB2 := hid (HB1.out.trans (hb2.mono HB1.out.size))
  clear hb2
  have a2 := add_run (Lib.itoa x ++ [46]) (Lib.itoa y) (by simp; omega)
  go_wp2
  go_ret
  exact ⟨ret_str (by simp), HB2.out⟩

theorem ret_int {a b : Int} (h : a = b) : Ending.returned (.int .i64 a) = .returned (.int .i64 b) := by rw [h]
theorem wrap_id {x : Int} (h0 : -9223372036854775808 ≤ x) (h1 : x ≤ 9223372036854775807) : wrap64 x = x := by unfold wrap64; omega
theorem f12 (z U : Nat) (w : World) (_hz : z ≤ 9223372036854775807) (hU0 : 1000 ≤ U) (hU1 : U ≤ 1152921504606846976) :
    Calls Tryd.prog 12 #[.int .i64 z, .int .i64 U] w fun e w' => e = .returned (.int .i64 ((10 * (z % U) / U : Nat) : Int)) ∧ w' = w := by
  have t1 : Int.tmod (z : Int) (U : Int) = ((z % U : Nat) : Int) := rfl
  have hm : z % U < U := Nat.mod_lt _ (by omega)
  have hU2 : (U : Int) ≠ 0 := by omega
  generalize z % U = m at *
  have q1 : (10 * m / U : Nat) ≤ 10 := by
    have : 10 * m ≤ 10 * U := by omega
    exact Nat.le_trans (Nat.div_le_div_right this) (by rw [Nat.mul_div_cancel _ (by omega)]; exact Nat.le_refl _)
  go_enter Tryd.func12, Tryd.ntmps12
  go_wp2
  go_ret
  exact ⟨ret_int (by
    have e : (10 * (m : Int) / (U : Int)) = ((10 * m / U : Nat) : Int) := by rw [Int.natCast_ediv]; simp
    rw [e]
    generalize 10 * m / U = T at *
    rw [wrap_id (by omega) (by omega)]), rfl⟩

theorem tn_le {z U : Nat} (hU0 : 0 < U) : 10 * (z % U) / U ≤ 10 := by
  have hm : z % U < U := Nat.mod_lt _ hU0
  have : 10 * (z % U) ≤ 10 * U := by omega
  exact Nat.le_trans (Nat.div_le_div_right this) (by rw [Nat.mul_div_cancel _ hU0]; exact Nat.le_refl _)

set_option maxRecDepth 100000 in
set_option maxHeartbeats 4000000 in
/-- The program's scaled numbers: the signs are six. -/
theorem f9 (z b : Nat) (sn bh : List UInt8) (nm : Nat → List UInt8) (w : World) (hz : z ≤ 9223372036854775807) (hb : Bas b) (hs : sn.length = 6) (hh : bh.length ≤ 10) (hnm : ∀ k, k ≤ 5 → (sn.drop k).take 1 ++ bh = nm k) (hp : Pow w) :
    Calls Tryd.prog 9 #[.int .i64 z, .int .i64 b, .string (mkS sn), .string (mkS bh)] w fun e w' => e = .returned (.string (mkS (scl z b nm))) ∧ Below w.heap.size w w' := by
  have HP := hid hp
  have HB := hid hb
  have HNM := hid hnm
  have hb0 : 1000 ≤ b ∧ b ≤ 1024 := by rcases hb with h | h <;> omega
  obtain ⟨hb0, hb1⟩ := hb0
  clear hp hb hnm
  by_cases hlt : z < b
  · have HS := hid (scl_low (nm := nm) hlt)
    go_enter Tryd.func9, Tryd.ntmps9
    go_wp2_with fail
    refine (f8 z _ (by omega) (by omega) HP.out).mono ?_
    rintro e w1 ⟨rfl, hb1⟩
    have HB1 := hid hb1
    clear hb1
    go_wp2
    go_ret
    exact ⟨ret_str HS.out.symm, HB1.out⟩
  have HLT := hid hlt
  go_enter Tryd.func9, Tryd.ntmps9
  go_wp2
  go_loopw [9, 10] (fun s9 s10 wr => ∃ (k U : Nat), k ≤ 5 ∧ s9 = .int .i64 U ∧ s10 = .int .i64 k ∧ Hid (U = pw b k) ∧ Hid (∀ j, j < k → b ≤ z / pw b j) ∧ Hid (wr = w)) (fun _ s10 _ => 6 - (intOf s10).toNat)
  case atStart => exact ⟨0, b, by omega, rfl, rfl, by unfold Hid pw; simp, fun j hj => by omega, rfl⟩
  case round =>
    obtain ⟨k, U, hk, rfl, rfl, HU, HJ, HW⟩ := hrel
    have hw := HW.out
    subst hw
    have hU := pw_lim HB.out hk
    rw [← HU.out] at hU
    obtain ⟨hU0, hU1⟩ := hU
    have hU2 : (U : Int) ≠ 0 := by omega
    have t1 : Int.tmod (z : Int) (U : Int) = ((z % U : Nat) : Int) := rfl
    have t2 : Int.tdiv (z : Int) (U : Int) = ((z / U : Nat) : Int) := rfl
    have hq : z / U ≤ z := Nat.div_le_self _ _
    by_cases hge : b ≤ z / U
    · have hk5 : k < 5 := by
        apply Classical.byContradiction
        intro h
        have e : k = 5 := by omega
        have := pw_last HB.out hz
        rw [HU.out, e] at hge
        omega
      have hU3 := pw_lim HB.out (show k + 1 ≤ 5 by omega)
      rw [pw_succ, ← HU.out] at hU3
      have HU' : Hid (U * b = pw b (k + 1)) := by unfold Hid; rw [pw_succ, ← HU.out]
      have HJ' : Hid (∀ j, j < k + 1 → b ≤ z / pw b j) := by
        intro j hj
        by_cases e : j = k
        · rw [e, ← HU.out]; exact hge
        · exact HJ.out j (by omega)
      have hge' : ((z / U : Nat) : Int) ≥ (b : Int) := by omega
      obtain ⟨hU3, hU4⟩ := hU3
      have m1 : (U : Int) * (b : Int) = ((U * b : Nat) : Int) := by rw [Int.natCast_mul]
      generalize U * b = V at *
      generalize z / U = Q at *
      go_wp2
      go_roundw
      case rel => exact ⟨k + 1, V, by omega, by go_num, by go_num, HU', HJ', hid (by trivial)⟩
      case measure => simp [intOf]; omega
    · have hge' : ¬ ((z / U : Nat) : Int) ≥ (b : Int) := by omega
      have HS : Hid (scl z b nm = scT z b k (nm k)) := scl_at HLT.out HJ.out (by rw [← HU.out]; omega) hk
      have HT : Hid (scT z b k (nm k) = Lib.itoa ((z / U : Nat) : Int) ++ [46] ++ Lib.itoa ((10 * (z % U) / U : Nat) : Int) ++ nm k) := by unfold Hid scT; rw [HU.out]
      have ht := tn_le (z := z) (U := U) (by omega)
      have hm : z % U < U := Nat.mod_lt _ (by omega)
      have e10 : (10 * ((z % U : Nat) : Int) / (U : Int)) = ((10 * (z % U) / U : Nat) : Int) := by rw [Int.natCast_ediv]; simp
      have e11 : ((z % U : Nat) : Int) * 10 = 10 * ((z % U : Nat) : Int) := by omega
      generalize 10 * (z % U) / U = T at *
      generalize z / U = Q at *
      generalize z % U = R at *
      have HC := fun (x : World) (h : Below wr.heap.size wr x) => hid (f11 (Q : Int) (T : Int) x (by omega) (by omega) (by omega) (by omega) (HP.out.below h))
      have l1 := itoa_len (Q : Int) (by omega) (by omega)
      have l2 := itoa_len (T : Int) (by omega) (by omega)
      have HN2 := hid (HNM.out k hk)
      obtain ⟨c, hc⟩ : ∃ c, (sn.drop k).take 1 = c := ⟨_, rfl⟩
      have hcl : c.length ≤ 1 := by rw [← hc]; simp; omega
      rw [hc] at HN2
      have hsl : (mkS sn).extract k (k + 1) = mkS c := by
        apply ByteArray.ext
        rw [← hc]
        simp
      clear hc
      obtain ⟨X, hX⟩ : ∃ X, X = Lib.itoa (Q : Int) ++ [46] ++ Lib.itoa (T : Int) := ⟨_, rfl⟩
      have hXl : X.length ≤ 43 := by rw [hX]; simp; omega
      rw [← hX] at HT
      simp only [← hX] at HC
      clear hX
      obtain ⟨Y, hY⟩ : ∃ Y, Y = X ++ c := ⟨_, rfl⟩
      have hYl : Y.length ≤ 44 := by rw [hY]; simp; omega
      obtain ⟨Z, hZ⟩ : ∃ Z, Z = Y ++ bh := ⟨_, rfl⟩
      have a1 : mkS X ++ mkS c = mkS Y := by rw [hY]; exact mkS_app _ _
      have a2 : mkS Y ++ mkS bh = mkS Z := by rw [hZ]; exact mkS_app _ _
      have b1 : ¬ 9223372036854775807 < X.length + c.length := by omega
      have b2 : ¬ 9223372036854775807 < Y.length + bh.length := by omega
      have HZ : Hid (Z = X ++ (c ++ bh)) := by unfold Hid; rw [hZ, hY, List.append_assoc]
      clear hY hZ
      have sl : ∀ w, (Instr.slice 9 (.string (mkS sn)) (some (.int .i64 (k : Int))) (some (.int .i64 ((k : Int) + 1))) none).run Tryd.prog w = .ok (.string (mkS c)) w := fun w => by
        have := run_slice_string (P := Tryd.prog) w 9 (mkS sn) .i64 .i64 (k : Int) ((k : Int) + 1) Tryd.underlying9 (by omega) (by omega) (by rw [mkS_size, hs]; omega)
        rw [this]
        simp only [Int.toNat_natCast, show ((k : Int) + 1).toNat = k + 1 by omega]
        rw [hsl]
      have k1 : (k : Int) + 1 ≤ 6 := by omega
      have hs6 : (mkS sn).size = 6 := by rw [mkS_size]; exact hs
      go_wp2_with fail
      have hb0' : Below wr.heap.size wr wr.drew := (Below.refl _ _).drew
      have u9 : ¬ U = 0 := by omega
      have wQ : IntKind.i64.wrap (Q : Int) = (Q : Int) := by rw [IntKind.wrap_i64]; omega
      have wT : IntKind.i64.wrap (T : Int) = (T : Int) := by rw [IntKind.wrap_i64]; omega
      have wk : IntKind.i64.wrap ((k : Int) + 1) = (k : Int) + 1 := by rw [IntKind.wrap_i64]; omega
      have wk2 : ((k : Int) + 1).toNat = k + 1 := by omega
      refine wp_region_held_drew (S := fun _ => True) rfl trivial (fun hHeld => ?_)
      refine wpAnyH_take (i := 0) (oi := { dst := some 36, op := _, type := _, pos := _, after := _, guard := _ }) (v := .int .i64 (z : Int)) rfl (by kernel_rfl) (by kernel_rfl) (by kernel_rfl) (fun _ _ _ h => h) (Or.inl ⟨by rfl, fun w hSw => by (try dsimp only at hSw); (try go_split_ands); go_simp⟩) (by first | trivial | assumption) ?_
      try simp only [Act.put, List.setIfInBounds_toArray, List.set_cons_zero, List.set_cons_succ]
      refine wpAnyH_take (i := 1) (oi := { dst := some 37, op := _, type := _, pos := _, after := _, guard := _ }) (v := .int .i64 (U : Int)) rfl (by kernel_rfl) (by kernel_rfl) (by kernel_rfl) (fun _ _ _ h => h) (Or.inl ⟨by rfl, fun w hSw => by (try dsimp only at hSw); (try go_split_ands); go_simp⟩) (by first | trivial | assumption) ?_
      try simp only [Act.put, List.setIfInBounds_toArray, List.set_cons_zero, List.set_cons_succ]
      refine wpAnyH_take (i := 2) (oi := { dst := some 38, op := _, type := _, pos := _, after := _, guard := _ }) (v := .int .i64 (Q : Int)) rfl (by kernel_rfl) (by kernel_rfl) (by kernel_rfl) (fun _ _ _ h => h) (Or.inl ⟨by rfl, fun w hSw => by (try dsimp only at hSw); (try go_split_ands); go_simp⟩) (by first | trivial | assumption) ?_
      try simp only [Act.put, List.setIfInBounds_toArray, List.set_cons_zero, List.set_cons_succ]
      refine wpAnyH_take (i := 3) (oi := { dst := some 39, op := _, type := _, pos := _, after := _, guard := _ }) (v := .int .u64 (T : Int)) rfl (by kernel_rfl) (by kernel_rfl) (by kernel_rfl) (fun _ _ _ h => h) (Or.inl ⟨by rfl, fun w hSw => by (try dsimp only at hSw); (try go_split_ands); go_simp⟩) (by first | trivial | assumption) ?_
      try simp only [Act.put, List.setIfInBounds_toArray, List.set_cons_zero, List.set_cons_succ]
      refine wpAnyH_take (i := 4) (oi := { dst := some 40, op := _, type := _, pos := _, after := _, guard := _ }) (v := .int .i64 (T : Int)) rfl (by kernel_rfl) (by kernel_rfl) (by kernel_rfl) (fun _ _ _ h => h) (Or.inl ⟨by rfl, fun w hSw => by (try dsimp only at hSw); (try go_split_ands); go_simp⟩) (by first | trivial | assumption) ?_
      try simp only [Act.put, List.setIfInBounds_toArray, List.set_cons_zero, List.set_cons_succ]
      refine wpAnyH_take (i := 6) (oi := { dst := some 42, op := _, type := _, pos := _, after := _, guard := _ }) (v := .string (mkS sn)) rfl (by kernel_rfl) (by kernel_rfl) (by kernel_rfl) (fun _ _ _ h => h) (Or.inl ⟨by rfl, fun w hSw => by (try dsimp only at hSw); (try go_split_ands); go_simp⟩) (by first | trivial | assumption) ?_
      try simp only [Act.put, List.setIfInBounds_toArray, List.set_cons_zero, List.set_cons_succ]
      refine wpAnyH_take (i := 7) (oi := { dst := some 43, op := _, type := _, pos := _, after := _, guard := _ }) (v := .int .i64 (k : Int)) rfl (by kernel_rfl) (by kernel_rfl) (by kernel_rfl) (fun _ _ _ h => h) (Or.inl ⟨by rfl, fun w hSw => by (try dsimp only at hSw); (try go_split_ands); go_simp⟩) (by first | trivial | assumption) ?_
      try simp only [Act.put, List.setIfInBounds_toArray, List.set_cons_zero, List.set_cons_succ]
      refine wpAnyH_take (i := 8) (oi := { dst := some 44, op := _, type := _, pos := _, after := _, guard := _ }) (v := .int .i64 (k : Int)) rfl (by kernel_rfl) (by kernel_rfl) (by kernel_rfl) (fun _ _ _ h => h) (Or.inl ⟨by rfl, fun w hSw => by (try dsimp only at hSw); (try go_split_ands); go_simp⟩) (by first | trivial | assumption) ?_
      try simp only [Act.put, List.setIfInBounds_toArray, List.set_cons_zero, List.set_cons_succ]
      refine wpAnyH_take (i := 9) (oi := { dst := some 45, op := _, type := _, pos := _, after := _, guard := _ }) (v := .int .i64 ((k : Int) + 1)) rfl (by kernel_rfl) (by kernel_rfl) (by kernel_rfl) (fun _ _ _ h => h) (Or.inl ⟨by rfl, fun w hSw => by (try dsimp only at hSw); (try go_split_ands); go_simp⟩) (by first | trivial | assumption) ?_
      try simp only [Act.put, List.setIfInBounds_toArray, List.set_cons_zero, List.set_cons_succ]
      refine wpAnyH_take (i := 10) (oi := { dst := some 46, op := _, type := _, pos := _, after := _, guard := _ }) (v := .string (mkS c)) rfl (by kernel_rfl) (by kernel_rfl) (by kernel_rfl) (fun _ _ _ h => h) (Or.inl ⟨by rfl, fun w hSw => by (try dsimp only at hSw); (try go_split_ands); go_simp⟩) (by first | trivial | assumption) ?_
      try simp only [Act.put, List.setIfInBounds_toArray, List.set_cons_zero, List.set_cons_succ]
      refine wpAnyH_take (i := 12) (oi := { dst := some 48, op := _, type := _, pos := _, after := _, guard := _ }) (v := .string (mkS bh)) rfl (by kernel_rfl) (by kernel_rfl) (by kernel_rfl) (fun _ _ _ h => h) (Or.inl ⟨by rfl, fun w hSw => by (try dsimp only at hSw); (try go_split_ands); go_simp⟩) (by first | trivial | assumption) ?_
      try simp only [Act.put, List.setIfInBounds_toArray, List.set_cons_zero, List.set_cons_succ]
      refine wpAnyH_ready (rs := [5]) (by kernel_rfl) (by simp) (AllReadyH.cons (o := { dst := some 41, op := _, type := _, pos := _, after := _, guard := _ }) rfl ?_ AllReadyH.nil)
      intro K1 hK1
      go_simp
      go_wp2_with (go_at_call 11; refine (HC _ hb0').out.mono ?_; rintro e w2 ⟨rfl, hb2⟩)
      have HB2 := hid (hb0'.trans (hb2.mono hb0'.size))
      clear hb2
      refine hK1.out _ _ trivial (fun _ => ?_)
      clear hK1 K1
      try simp only [Act.put, List.setIfInBounds_toArray, List.set_cons_zero, List.set_cons_succ]
      refine wpAnyH_take (i := 11) (oi := { dst := some 47, op := _, type := _, pos := _, after := _, guard := _ }) (v := .string (mkS Y)) rfl (by kernel_rfl) (by kernel_rfl) (by kernel_rfl) (fun _ _ _ h => h) (Or.inl ⟨by rfl, fun w hSw => by (try dsimp only at hSw); (try go_split_ands); go_simp⟩) (by first | trivial | assumption) ?_
      try simp only [Act.put, List.setIfInBounds_toArray, List.set_cons_zero, List.set_cons_succ]
      refine wpAnyH_take (i := 13) (oi := { dst := some 49, op := _, type := _, pos := _, after := _, guard := _ }) (v := .string (mkS Z)) rfl (by kernel_rfl) (by kernel_rfl) (by kernel_rfl) (fun _ _ _ h => h) (Or.inl ⟨by rfl, fun w hSw => by (try dsimp only at hSw); (try go_split_ands); go_simp⟩) (by first | trivial | assumption) ?_
      try simp only [Act.put, List.setIfInBounds_toArray, List.set_cons_zero, List.set_cons_succ]
      refine wpAnyH_take (i := 14) (oi := { dst := some 8, op := _, type := _, pos := _, after := _, guard := _ }) (v := .string (mkS Z)) rfl (by kernel_rfl) (by kernel_rfl) (by kernel_rfl) (fun _ _ _ h => h) (Or.inl ⟨by rfl, fun w hSw => by (try dsimp only at hSw); (try go_split_ands); go_simp⟩) (by first | trivial | assumption) ?_
      try simp only [Act.put, List.setIfInBounds_toArray, List.set_cons_zero, List.set_cons_succ]
      refine wpAnyH_done (by kernel_rfl) ?_ _
      go_wp2
      go_ret
      exact ⟨ret_str (by rw [HS.out, HT.out, ← HN2.out, HZ.out]), HB2.out⟩
end Go.Proofs.YtihdjohpbcaogaaDoor.Unt
