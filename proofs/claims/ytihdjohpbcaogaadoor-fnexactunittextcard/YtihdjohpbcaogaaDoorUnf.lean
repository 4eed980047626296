/- Values with their units: the model's UnitText; the walk of FnExactUnitText. -/
import Derived.Test.YtihdjohpbcaogaaDoorUne
namespace Go.Proofs.YtihdjohpbcaogaaDoor.Unt
open Go.RowKit

/-- The four parts of a time lie there. -/
structure Pa (w : World) (Bp z : Nat) : Prop where
  lt : Bp < w.heap.size
  cell : ∀ k, k < 4 → w.cell? ⟨Bp, k, none⟩ = some (.int .i64 (prt z k : Int))
theorem Pa.below {w w' : World} {Bp z : Nat} (h : Pa w Bp z) (hb : Below w.heap.size w w') : Pa w' Bp z := ⟨Nat.lt_of_lt_of_le h.lt hb.size, fun k hk => (hb.cell (by exact h.lt)).trans (h.cell k hk)⟩
theorem Pa.alloc {w : World} {Bp z : Nat} (h : Pa w Bp z) (o : Obj) : Pa (w.alloc o) Bp z := h.below ((Below.refl _ w).alloc (Nat.le_refl _) o)
theorem names_at (w : World) : ∀ k, k < 4 → (w.alloc (.cells #[.string ⟨#[100]⟩, .string ⟨#[104]⟩, .string ⟨#[109]⟩, .string ⟨#[115]⟩] 9)).cell? ⟨w.heap.size, k, none⟩ = some (.string (mkS (sg4 k))) := by
  intro k hk
  have h := heap_alloc_new w (.cells #[.string ⟨#[100]⟩, .string ⟨#[104]⟩, .string ⟨#[109]⟩, .string ⟨#[115]⟩] 9)
  have c : k = 0 ∨ k = 1 ∨ k = 2 ∨ k = 3 := by omega
  rcases c with rfl | rfl | rfl | rfl <;> (unfold World.cell?; simp only [h]; rfl)
theorem parts_at (w : World) (z : Nat) : Pa (w.alloc (.cells #[.int .i64 (prt z 0 : Int), .int .i64 (prt z 1 : Int), .int .i64 (prt z 2 : Int), .int .i64 (prt z 3 : Int)] 3)) w.heap.size z := by
  refine ⟨by simp, fun k hk => ?_⟩
  have h := heap_alloc_new w (.cells #[.int .i64 (prt z 0 : Int), .int .i64 (prt z 1 : Int), .int .i64 (prt z 2 : Int), .int .i64 (prt z 3 : Int)] 3)
  have c : k = 0 ∨ k = 1 ∨ k = 2 ∨ k = 3 := by omega
  rcases c with rfl | rfl | rfl | rfl <;> (unfold World.cell?; simp only [h]; rfl)
theorem six_at (w : World) (nm : Nat → List UInt8) : ∀ k, k ≤ 5 → (w.alloc (.cells #[.string (mkS (nm 0)), .string (mkS (nm 1)), .string (mkS (nm 2)), .string (mkS (nm 3)), .string (mkS (nm 4)), .string (mkS (nm 5))] 9)).cell? ⟨w.heap.size, k, none⟩ = some (.string (mkS (nm k))) := by
  intro k hk
  have h := heap_alloc_new w (.cells #[.string (mkS (nm 0)), .string (mkS (nm 1)), .string (mkS (nm 2)), .string (mkS (nm 3)), .string (mkS (nm 4)), .string (mkS (nm 5))] 9)
  have c : k = 0 ∨ k = 1 ∨ k = 2 ∨ k = 3 ∨ k = 4 ∨ k = 5 := by omega
  rcases c with rfl | rfl | rfl | rfl | rfl | rfl <;> (unfold World.cell?; simp only [h]; rfl)
/-- The first part that there is. -/
theorem secG {z k : Nat} (h : ∀ j, j < k → prt z j = 0) (hk : prt z k ≠ 0) (h3 : k < 4) : sec z = one4 z k ++ (if k < 3 then nxt4 z (k + 1) else []) := by
  have c : k = 0 ∨ k = 1 ∨ k = 2 ∨ k = 3 := by omega
  rcases c with rfl | rfl | rfl | rfl
  · exact sec0 hk
  · exact sec1 (h 0 (by omega)) hk
  · exact sec2 (h 0 (by omega)) (h 1 (by omega)) hk
  · rw [sec3 (h 0 (by omega)) (h 1 (by omega)) (h 2 (by omega)) hk]; simp
theorem drewB {w w' : World} {B : Nat} (h : Below B w w') : Below B w w'.drew := ⟨h.os, h.tape, h.output, h.size, h.block⟩

set_option maxRecDepth 100000 in
set_option maxHeartbeats 8000000 in
theorem f4 (v u : Int) (w : World) (hv0 : -9223372036854775808 ≤ v) (hv1 : v ≤ 9223372036854775807) :
    Calls Tryd.prog 4 #[.int .i64 v, .int .i64 u] w fun e w' => e = .returned (.string (mkS (unitL v u))) ∧ Below w.heap.size w w' := by
  by_cases hm : v = -9223372036854775808
  · subst hm
    have HL : Hid (unitL (-9223372036854775808) u = []) := if_pos rfl
    go_enter Tryd.func4, Tryd.ntmps4
    go_wp2
    go_ret
    exact ⟨ret_str HL.out.symm, Below.refl _ _⟩
  have hmb : (v == -9223372036854775808) = false := by simpa using hm
  have HM := hid hm
  have hv0' : -9223372036854775807 ≤ v := by omega
  have hsg := sg_len v
  have HZ0 : Hid (v = 0 ∨ v.natAbs ≠ 0) := by unfold Hid; omega
  clear hm
  go_enter Tryd.func4, Tryd.ntmps4
  go_upto_if 15 with fail
  go_cut [5, 6] from 14 to 103 (fun s5 s6 wx => s6 = .int .i64 (v.natAbs : Int) ∧ s5 = .string (mkS (sg v)) ∧ Hid (wx = w))
  case first =>
    by_cases k0 : v < 0
    · have HS : Hid (sg v = [45]) := if_pos k0
      have HZ : Hid ((v.natAbs : Int) = -v) := by unfold Hid; omega
      go_wp2
      go_meet
      exact ⟨by rw [HZ.out], by rw [HS.out], rfl⟩
    · have HS : Hid (sg v = []) := if_neg k0
      have HZ : Hid ((v.natAbs : Int) = v) := by unfold Hid; omega
      go_wp2
      go_meet
      exact ⟨by rw [HZ.out], by rw [HS.out], rfl⟩
  case rest =>
  obtain ⟨rfl, rfl, HW⟩ := hcut
  have hw := HW.out.symm
  subst hw
  have hz : v.natAbs ≤ 9223372036854775807 := by omega
  have HL : Hid (unitL v u = if u = 1 then Lib.itoa v else if u = 2 then sg v ++ scl v.natAbs 1024 nmB else if u = 3 then sg v ++ sec v.natAbs else if u = 4 then sg v ++ shrT v.natAbs ++ [37] else if u = 5 then sg v ++ scl v.natAbs 1000 nmS else []) := if_neg HM.out
  have HSc := fun (b : Nat) (g : Nat) (nm : Nat → List UInt8) (x : World) (hb : Bas b) (hg : g < x.heap.size) (h1 : ∀ k, k ≤ 5 → x.cell? ⟨g, k, none⟩ = some (.string (mkS (nm k)))) (h2 : ∀ k, (nm k).length ≤ 10) => hid (f7 v b g nm x hv0' hv1 hb hg h1 h2)
  have HSg : Hid (v.natAbs = 0 → sg v = []) := by
    intro h
    exact if_neg (by omega)
  generalize v.natAbs = z at *
  by_cases u1 : u = 1
  · subst u1
    go_wp2_with fail
    refine (f6 v _ (by omega) (by omega)).mono ?_
    rintro e w1 ⟨rfl, hb1⟩
    have HB1 := hid hb1
    clear hb1
    go_wp2
    go_ret
    exact ⟨ret_str (by rw [HL.out, if_pos trivial]), HB1.out⟩
  have v1 : (u == 1) = false := by simpa using u1
  by_cases u4 : u = 4
  · subst u4
    have t1 : Int.tdiv (z : Int) 10 = ((z / 10 : Nat) : Int) := rfl
    have t2 : Int.tmod (z : Int) 10 = ((z % 10 : Nat) : Int) := rfl
    have HSh : Hid (shrT z = Lib.itoa ((z / 10 : Nat) : Int) ++ [46] ++ Lib.itoa ((z % 10 : Nat) : Int)) := rfl
    have HC1 := fun x => hid (f6 ((z / 10 : Nat) : Int) x (by omega) (by omega))
    have HC2 := fun x => hid (f6 ((z % 10 : Nat) : Int) x (by omega) (by omega))
    have l1 := itoa_nat_len (z := z / 10) (by omega)
    have l2 := itoa_nat_len (z := z % 10) (by omega)
    have hA : z / 10 ≤ 9223372036854775807 := by omega
    have hB : z % 10 ≤ 9 := by omega
    generalize z / 10 = A at *
    generalize z % 10 = C at *
    generalize Lib.itoa (A : Int) = I1 at *
    generalize Lib.itoa (C : Int) = I2 at *
    go_wp2_with fail
    refine (HC1 _).out.mono ?_
    rintro e w1 ⟨rfl, hb1⟩
    have HB1 := hid hb1
    clear hb1
    have a1 := add_run (sg v) I1 (by omega)
    have a2 := add_run (sg v ++ I1) [46] (by simp; omega)
    go_wp2_with fail
    refine (HC2 _).out.mono ?_
    rintro e w2 ⟨rfl, hb2⟩
    have HB2 := hid (HB1.out.trans (hb2.mono HB1.out.size))
    clear hb2
    have a3 := add_run (sg v ++ I1 ++ [46]) I2 (by simp; omega)
    have a4 := add_run (sg v ++ I1 ++ [46] ++ I2) [37] (by simp; omega)
    go_wp2
    go_ret
    exact ⟨ret_str (by rw [HL.out, if_neg (by omega), if_neg (by omega), if_neg (by omega), if_pos trivial, HSh.out]; simp), HB2.out⟩
  have v4 : (u == 4) = false := by simpa using u4
  by_cases u5 : u = 5
  · subst u5
    have HB1 := hid ((Below.refl _ w).alloc (Nat.le_refl _) (.cells #[.string (mkS (nmS 0)), .string (mkS (nmS 1)), .string (mkS (nmS 2)), .string (mkS (nmS 3)), .string (mkS (nmS 4)), .string (mkS (nmS 5))] 9))
    have HC := hid (HSc 1000 w.heap.size nmS (w.alloc (.cells #[.string (mkS (nmS 0)), .string (mkS (nmS 1)), .string (mkS (nmS 2)), .string (mkS (nmS 3)), .string (mkS (nmS 4)), .string (mkS (nmS 5))] 9)) (.inl rfl) (by simp) (six_at w nmS) nmS_len)
    go_wp2_with fail
    refine HC.out.out.mono ?_
    rintro e w2 ⟨rfl, hb2⟩
    have HB2 := hid (HB1.out.trans (hb2.mono HB1.out.size))
    clear hb2
    go_wp2
    go_ret
    exact ⟨ret_str (by rw [HL.out, if_neg (by omega), if_neg (by omega), if_neg (by omega), if_neg (by omega), if_pos trivial]), HB2.out⟩
  have v5 : (u == 5) = false := by simpa using u5
  by_cases u2 : u = 2
  · subst u2
    have HB1 := hid ((Below.refl _ w).alloc (Nat.le_refl _) (.cells #[.string (mkS (nmB 0)), .string (mkS (nmB 1)), .string (mkS (nmB 2)), .string (mkS (nmB 3)), .string (mkS (nmB 4)), .string (mkS (nmB 5))] 9))
    have HC := hid (HSc 1024 w.heap.size nmB (w.alloc (.cells #[.string (mkS (nmB 0)), .string (mkS (nmB 1)), .string (mkS (nmB 2)), .string (mkS (nmB 3)), .string (mkS (nmB 4)), .string (mkS (nmB 5))] 9)) (.inr rfl) (by simp) (six_at w nmB) nmB_len)
    go_wp2_with fail
    refine HC.out.out.mono ?_
    rintro e w2 ⟨rfl, hb2⟩
    have HB2 := hid (HB1.out.trans (hb2.mono HB1.out.size))
    clear hb2
    go_wp2
    go_ret
    exact ⟨ret_str (by rw [HL.out, if_neg (by omega), if_pos trivial]), HB2.out⟩
  have v2 : (u == 2) = false := by simpa using u2
  by_cases u3 : u = 3
  · subst u3
    clear HSc
    have t0 : Int.tdiv (z : Int) 86400 = ((prt z 0 : Nat) : Int) := rfl
    have t1 : Int.tmod (Int.tdiv (z : Int) 3600) 24 = ((prt z 1 : Nat) : Int) := rfl
    have t2 : Int.tmod (Int.tdiv (z : Int) 60) 60 = ((prt z 2 : Nat) : Int) := rfl
    have t3 : Int.tmod (z : Int) 60 = ((prt z 3 : Nat) : Int) := rfl
    have HPa0 := hid (parts_at w z)
    have HBa0 := hid ((Below.refl _ w).alloc (Nat.le_refl _) (.cells #[.int .i64 (prt z 0 : Int), .int .i64 (prt z 1 : Int), .int .i64 (prt z 2 : Int), .int .i64 (prt z 3 : Int)] 3))
    have p0 := prt_le z 0
    have p1 := prt_le z 1
    have p2 := prt_le z 2
    have p3 := prt_le z 3
    go_wp2
    obtain ⟨Bp, hBp⟩ : ∃ B, B = w.heap.size := ⟨_, rfl⟩
    rw [← hBp] at HPa0 ⊢
    have HBp := hid hBp
    clear hBp
    go_loopw [61] (fun i wr => ∃ k : Nat, k ≤ 4 ∧ i = .int .i64 k ∧ Hid (∀ j, j < k → prt z j = 0) ∧ Hid (Below w.heap.size w wr) ∧ Hid (Pa wr Bp z)) (fun i _ => 4 - (intOf i).toNat)
    case atStart => exact ⟨0, by omega, rfl, fun j hj => by omega, HBa0, HPa0⟩
    case round =>
      obtain ⟨k, hk, rfl, HJ, HB, HPw⟩ := hrel
      clear p0 p1 p2 p3 HPa0 HBa0 t0 t1 t2 t3
      by_cases hk4 : k < 4
      rotate_left
      · obtain rfl : k = 4 := by omega
        have hz0 : z = 0 := by
          have e0 := HJ.out 0 (by omega)
          have e3 := HJ.out 3 (by omega)
          have e2 := HJ.out 2 (by omega)
          have e1 := HJ.out 1 (by omega)
          simp only [prt] at e0 e1 e2 e3
          omega
        have HS := hid (sec4 (HJ.out 0 (by omega)) (HJ.out 1 (by omega)) (HJ.out 2 (by omega)) (HJ.out 3 (by omega)))
        have HS0 := hid (HSg.out hz0)
        clear hz0
        go_wp2
        go_ret
        exact ⟨ret_str (by rw [HL.out, if_neg (by omega), if_neg (by omega), if_pos trivial, HS.out, HS0.out]; rfl), HB.out⟩
      have i1 : (k : Int) < 4 := by omega
      have cp := HPw.out.cell k hk4
      have hi4 : k < 4 := hk4
      have hPl : prt z k ≤ 9223372036854775807 := Nat.le_trans (prt_le z k) hz
      by_cases hpz : prt z k = 0
      · have HJ2 := hid (zero_more HJ.out hpz)
        have hpz' : ((prt z k : Nat) : Int) = 0 := by omega
        rw [hpz'] at cp
        clear hpz hpz'
        go_wp2
        go_roundw
        case rel => exact ⟨k + 1, by omega, by go_num, HJ2, HB, HPw⟩
        case measure => simp [intOf]; omega
      have HSe := hid (secG HJ.out hpz hk4)
      have HOn : Hid (one4 z k = Lib.itoa (prt z k : Int) ++ sg4 k) := rfl
      have hpb : ((prt z k : Int) == 0) = false := by simp; exact hpz
      clear hpz
      have hlP := Nat.le_trans (prt_le z k) hz
      have l2 : (sg4 k).length = 1 := by unfold sg4; split <;> rfl
      obtain ⟨P, hP⟩ : ∃ P, P = prt z k := ⟨_, rfl⟩
      have HPP := hid hP
      rw [← hP] at cp hpb hPl HOn hlP
      clear hP
      have HC := fun (x : World) => hid (f6 (P : Int) x (by omega) (by omega))
      have l1 := itoa_nat_len (z := P) hPl
      generalize Lib.itoa (P : Int) = I1 at *
      obtain ⟨X1, h1⟩ : ∃ X, X = sg v ++ I1 := ⟨_, rfl⟩
      obtain ⟨X2, h2⟩ : ∃ X, X = X1 ++ sg4 k := ⟨_, rfl⟩
      have q1 : X1.length ≤ 22 := by rw [h1]; simp; omega
      have q2 : X2.length ≤ 23 := by rw [h2]; simp; omega
      have a1 : mkS (sg v) ++ mkS I1 = mkS X1 := by rw [h1]; exact mkS_app _ _
      have a2 : mkS X1 ++ mkS (sg4 k) = mkS X2 := by rw [h2]; exact mkS_app _ _
      have b1 : ¬ 9223372036854775807 < (sg v).length + I1.length := by omega
      have b2 : ¬ 9223372036854775807 < X1.length + (sg4 k).length := by omega
      have b3 : ¬ 9223372036854775807 < X1.length + 1 := by omega
      have HX2 : Hid (X2 = sg v ++ one4 z k) := by unfold Hid; rw [h2, h1, HOn.out]; simp
      clear h1 h2
      go_upto_region 23 with fail
      go_cut [10] from 68 to 103 (fun s10 wx => s10 = .string (mkS X2) ∧ Hid (Below w.heap.size w wx) ∧ Hid (Pa wx Bp z))
      case first =>
        have HBd := hid (drewB HB.out)
        have HPd : Hid (Pa wr.drew Bp z) := ⟨HPw.out.lt, HPw.out.cell⟩
        clear cp
        go_wp2_with fail
        refine wp_region_held_drew (S := fun x => Pa x Bp z) rfl HPd.out (fun hHeld => ?_)
        generalize wr.drew = wd at *
        refine wpAnyH_take (i := 0) (oi := { dst := some 68, op := _, type := _, pos := _, after := _, guard := _ }) (v := .string (mkS (sg v))) rfl (by kernel_rfl) (by kernel_rfl) (by kernel_rfl) (fun _ _ _ h => h) (Or.inl ⟨by rfl, fun w hSw => by (try dsimp only at hSw); (try go_split_ands); go_simp⟩) (by first | trivial | assumption) ?_
        try simp only [Act.put, List.setIfInBounds_toArray, List.set_cons_zero, List.set_cons_succ]
        refine wpAnyH_take (i := 1) (oi := { dst := some 69, op := _, type := _, pos := _, after := _, guard := _ }) (v := .int .i64 (P : Int)) rfl (by kernel_rfl) (by kernel_rfl) (by kernel_rfl) (fun _ _ _ h => h) (Or.inl ⟨by rfl, fun w hSw => by (try dsimp only at hSw); (try go_split_ands); go_simp⟩) (by first | trivial | assumption) ?_
        try simp only [Act.put, List.setIfInBounds_toArray, List.set_cons_zero, List.set_cons_succ]
        refine wpAnyH_take (i := 5) (oi := { dst := some 73, op := _, type := _, pos := _, after := _, guard := _ }) (v := .int .i64 (k : Int)) rfl (by kernel_rfl) (by kernel_rfl) (by kernel_rfl) (fun _ _ _ h => h) (Or.inl ⟨by rfl, fun w hSw => by (try dsimp only at hSw); (try go_split_ands); go_simp⟩) (by first | trivial | assumption) ?_
        try simp only [Act.put, List.setIfInBounds_toArray, List.set_cons_zero, List.set_cons_succ]
        refine wpAnyH_ready (rs := [2, 4]) (by kernel_rfl) (by simp) (AllReadyH.cons (o := { dst := some 70, op := _, type := _, pos := _, after := _, guard := _ }) rfl ?_ (AllReadyH.cons (o := { dst := some 72, op := _, type := _, pos := _, after := _, guard := _ }) rfl ?_ AllReadyH.nil))
        · intro K1 hK1
          go_simp
          go_wp2_with (go_at_call 6; refine (HC wd).out.mono ?_; rintro e w2 ⟨rfl, hb2⟩)
          have HB2 := hid (HBd.out.trans (hb2.mono HBd.out.size))
          have HP2 := hid (HPd.out.below hb2)
          clear hb2
          refine hK1.out _ _ HP2.out (fun _ => ?_)
          clear hK1 K1
          try simp only [Act.put, List.setIfInBounds_toArray, List.set_cons_zero, List.set_cons_succ]
          refine wpAnyH_take (i := 3) (oi := { dst := some 71, op := _, type := _, pos := _, after := _, guard := _ }) (v := .string (mkS X1)) rfl (by kernel_rfl) (by kernel_rfl) (by kernel_rfl) (fun _ _ _ h => h) (Or.inl ⟨by rfl, fun w hSw => by (try dsimp only at hSw); (try go_split_ands); go_simp⟩) (by first | trivial | assumption) ?_
          try simp only [Act.put, List.setIfInBounds_toArray, List.set_cons_zero, List.set_cons_succ]
          refine wpAnyH_ready (rs := [4]) (by kernel_rfl) (by simp) (AllReadyH.cons (o := { dst := some 72, op := _, type := _, pos := _, after := _, guard := _ }) rfl ?_ AllReadyH.nil)
          intro K2 hK2
          go_simp
          refine hK2.out _ _ (HP2.out.alloc (.cells #[.string ⟨#[100]⟩, .string ⟨#[104]⟩, .string ⟨#[109]⟩, .string ⟨#[115]⟩] 9)) (fun _ => ?_)
          clear hK2 K2
          have HPz := hid (HP2.out.alloc (.cells #[.string ⟨#[100]⟩, .string ⟨#[104]⟩, .string ⟨#[109]⟩, .string ⟨#[115]⟩] 9))
          have HBz := hid (HB2.out.alloc HB2.out.size (.cells #[.string ⟨#[100]⟩, .string ⟨#[104]⟩, .string ⟨#[109]⟩, .string ⟨#[115]⟩] 9))
          have HNa := hid (names_at w2)
          generalize w2.alloc (.cells #[.string ⟨#[100]⟩, .string ⟨#[104]⟩, .string ⟨#[109]⟩, .string ⟨#[115]⟩] 9) = wz at *
          generalize w2.heap.size = B0 at *
          try simp only [Act.put, List.setIfInBounds_toArray, List.set_cons_zero, List.set_cons_succ]
          refine wpAnyH_take (i := 6) (oi := { dst := some 74, op := _, type := _, pos := _, after := _, guard := _ }) (v := .pointer (some ⟨B0, k, none⟩)) rfl (by kernel_rfl) (by kernel_rfl) (by kernel_rfl) (fun _ _ _ h => h) (Or.inl ⟨by rfl, fun w hSw => by (try dsimp only at hSw); (try go_split_ands); go_simp⟩) (by first | trivial | assumption) ?_
          try simp only [Act.put, List.setIfInBounds_toArray, List.set_cons_zero, List.set_cons_succ]
          have dn := HNa.out (k) hi4
          refine wpAnyH_ready (rs := [7]) (by kernel_rfl) (by simp) (AllReadyH.cons (o := { dst := some 75, op := _, type := _, pos := _, after := _, guard := _ }) rfl ?_ AllReadyH.nil)
          intro K3 hK3
          go_simp
          refine hK3.out _ _ HPz.out (fun _ => ?_)
          clear hK3 K3
          try simp only [Act.put, List.setIfInBounds_toArray, List.set_cons_zero, List.set_cons_succ]
          refine wpAnyH_take (i := 8) (oi := { dst := some 76, op := _, type := _, pos := _, after := _, guard := _ }) (v := .string (mkS X2)) rfl (by kernel_rfl) (by kernel_rfl) (by kernel_rfl) (fun _ _ _ h => h) (Or.inl ⟨by rfl, fun w hSw => by (try dsimp only at hSw); (try go_split_ands); go_simp⟩) (by first | trivial | assumption) ?_
          try simp only [Act.put, List.setIfInBounds_toArray, List.set_cons_zero, List.set_cons_succ]
          refine wpAnyH_take (i := 9) (oi := { dst := some 10, op := _, type := _, pos := _, after := _, guard := _ }) (v := .string (mkS X2)) rfl (by kernel_rfl) (by kernel_rfl) (by kernel_rfl) (fun _ _ _ h => h) (Or.inl ⟨by rfl, fun w hSw => by (try dsimp only at hSw); (try go_split_ands); go_simp⟩) (by first | trivial | assumption) ?_
          try simp only [Act.put, List.setIfInBounds_toArray, List.set_cons_zero, List.set_cons_succ]
          refine wpAnyH_done (by kernel_rfl) ?_ _
          go_wp2
          go_meet
          exact ⟨rfl, HBz, HPz⟩
        · intro K1 hK1
          go_simp
          refine hK1.out _ _ (HPd.out.alloc (.cells #[.string ⟨#[100]⟩, .string ⟨#[104]⟩, .string ⟨#[109]⟩, .string ⟨#[115]⟩] 9)) (fun _ => ?_)
          clear hK1 K1
          have HPa := hid (HPd.out.alloc (.cells #[.string ⟨#[100]⟩, .string ⟨#[104]⟩, .string ⟨#[109]⟩, .string ⟨#[115]⟩] 9))
          have HBa := hid (HBd.out.alloc HBd.out.size (.cells #[.string ⟨#[100]⟩, .string ⟨#[104]⟩, .string ⟨#[109]⟩, .string ⟨#[115]⟩] 9))
          have HNa := hid (names_at wd)
          have hlB : wd.heap.size < (wd.alloc (.cells #[.string ⟨#[100]⟩, .string ⟨#[104]⟩, .string ⟨#[109]⟩, .string ⟨#[115]⟩] 9)).heap.size := by simp
          generalize wd.alloc (.cells #[.string ⟨#[100]⟩, .string ⟨#[104]⟩, .string ⟨#[109]⟩, .string ⟨#[115]⟩] 9) = wa at *
          generalize wd.heap.size = B0 at *
          try simp only [Act.put, List.setIfInBounds_toArray, List.set_cons_zero, List.set_cons_succ]
          refine wpAnyH_take (i := 6) (oi := { dst := some 74, op := _, type := _, pos := _, after := _, guard := _ }) (v := .pointer (some ⟨B0, k, none⟩)) rfl (by kernel_rfl) (by kernel_rfl) (by kernel_rfl) (fun _ _ _ h => h) (Or.inl ⟨by rfl, fun w hSw => by (try dsimp only at hSw); (try go_split_ands); go_simp⟩) (by first | trivial | assumption) ?_
          try simp only [Act.put, List.setIfInBounds_toArray, List.set_cons_zero, List.set_cons_succ]
          have dn := HNa.out (k) hi4
          refine wpAnyH_ready (rs := [2, 7]) (by kernel_rfl) (by simp) (AllReadyH.cons (o := { dst := some 70, op := _, type := _, pos := _, after := _, guard := _ }) rfl ?_ (AllReadyH.cons (o := { dst := some 75, op := _, type := _, pos := _, after := _, guard := _ }) rfl ?_ AllReadyH.nil))
          · intro K2 hK2
            go_simp
            go_wp2_with (go_at_call 6; refine (HC wa).out.mono ?_; rintro e wz ⟨rfl, hbz⟩)
            have HBz := hid (HBa.out.trans (hbz.mono HBa.out.size))
            have HPz := hid (HPa.out.below hbz)
            have dz : wz.cell? ⟨B0, k, none⟩ = some (.string (mkS (sg4 (k)))) := (hbz.cell (p := ⟨B0, k, none⟩) (by exact hlB)).trans dn
            clear hbz
            refine hK2.out _ _ HPz.out (fun _ => ?_)
            clear hK2 K2
            try simp only [Act.put, List.setIfInBounds_toArray, List.set_cons_zero, List.set_cons_succ]
            refine wpAnyH_take (i := 3) (oi := { dst := some 71, op := _, type := _, pos := _, after := _, guard := _ }) (v := .string (mkS X1)) rfl (by kernel_rfl) (by kernel_rfl) (by kernel_rfl) (fun _ _ _ h => h) (Or.inl ⟨by rfl, fun w hSw => by (try dsimp only at hSw); (try go_split_ands); go_simp⟩) (by first | trivial | assumption) ?_
            try simp only [Act.put, List.setIfInBounds_toArray, List.set_cons_zero, List.set_cons_succ]
            refine wpAnyH_ready (rs := [7]) (by kernel_rfl) (by simp) (AllReadyH.cons (o := { dst := some 75, op := _, type := _, pos := _, after := _, guard := _ }) rfl ?_ AllReadyH.nil)
            intro K3 hK3
            go_simp
            refine hK3.out _ _ HPz.out (fun _ => ?_)
            clear hK3 K3
            try simp only [Act.put, List.setIfInBounds_toArray, List.set_cons_zero, List.set_cons_succ]
            refine wpAnyH_take (i := 8) (oi := { dst := some 76, op := _, type := _, pos := _, after := _, guard := _ }) (v := .string (mkS X2)) rfl (by kernel_rfl) (by kernel_rfl) (by kernel_rfl) (fun _ _ _ h => h) (Or.inl ⟨by rfl, fun w hSw => by (try dsimp only at hSw); (try go_split_ands); go_simp⟩) (by first | trivial | assumption) ?_
            try simp only [Act.put, List.setIfInBounds_toArray, List.set_cons_zero, List.set_cons_succ]
            refine wpAnyH_take (i := 9) (oi := { dst := some 10, op := _, type := _, pos := _, after := _, guard := _ }) (v := .string (mkS X2)) rfl (by kernel_rfl) (by kernel_rfl) (by kernel_rfl) (fun _ _ _ h => h) (Or.inl ⟨by rfl, fun w hSw => by (try dsimp only at hSw); (try go_split_ands); go_simp⟩) (by first | trivial | assumption) ?_
            try simp only [Act.put, List.setIfInBounds_toArray, List.set_cons_zero, List.set_cons_succ]
            refine wpAnyH_done (by kernel_rfl) ?_ _
            go_wp2
            go_meet
            exact ⟨rfl, HBz, HPz⟩
          · intro K2 hK2
            go_simp
            refine hK2.out _ _ HPa.out (fun _ => ?_)
            clear hK2 K2
            try simp only [Act.put, List.setIfInBounds_toArray, List.set_cons_zero, List.set_cons_succ]
            refine wpAnyH_ready (rs := [2]) (by kernel_rfl) (by simp) (AllReadyH.cons (o := { dst := some 70, op := _, type := _, pos := _, after := _, guard := _ }) rfl ?_ AllReadyH.nil)
            intro K3 hK3
            go_simp
            go_wp2_with (go_at_call 6; refine (HC wa).out.mono ?_; rintro e wz ⟨rfl, hbz⟩)
            have HBz := hid (HBa.out.trans (hbz.mono HBa.out.size))
            have HPz := hid (HPa.out.below hbz)
            clear hbz
            refine hK3.out _ _ HPz.out (fun _ => ?_)
            clear hK3 K3
            try simp only [Act.put, List.setIfInBounds_toArray, List.set_cons_zero, List.set_cons_succ]
            refine wpAnyH_take (i := 3) (oi := { dst := some 71, op := _, type := _, pos := _, after := _, guard := _ }) (v := .string (mkS X1)) rfl (by kernel_rfl) (by kernel_rfl) (by kernel_rfl) (fun _ _ _ h => h) (Or.inl ⟨by rfl, fun w hSw => by (try dsimp only at hSw); (try go_split_ands); go_simp⟩) (by first | trivial | assumption) ?_
            try simp only [Act.put, List.setIfInBounds_toArray, List.set_cons_zero, List.set_cons_succ]
            refine wpAnyH_take (i := 8) (oi := { dst := some 76, op := _, type := _, pos := _, after := _, guard := _ }) (v := .string (mkS X2)) rfl (by kernel_rfl) (by kernel_rfl) (by kernel_rfl) (fun _ _ _ h => h) (Or.inl ⟨by rfl, fun w hSw => by (try dsimp only at hSw); (try go_split_ands); go_simp⟩) (by first | trivial | assumption) ?_
            try simp only [Act.put, List.setIfInBounds_toArray, List.set_cons_zero, List.set_cons_succ]
            refine wpAnyH_take (i := 9) (oi := { dst := some 10, op := _, type := _, pos := _, after := _, guard := _ }) (v := .string (mkS X2)) rfl (by kernel_rfl) (by kernel_rfl) (by kernel_rfl) (fun _ _ _ h => h) (Or.inl ⟨by rfl, fun w hSw => by (try dsimp only at hSw); (try go_split_ands); go_simp⟩) (by first | trivial | assumption) ?_
            try simp only [Act.put, List.setIfInBounds_toArray, List.set_cons_zero, List.set_cons_succ]
            refine wpAnyH_done (by kernel_rfl) ?_ _
            go_wp2
            go_meet
            exact ⟨rfl, HBz, HPz⟩
      case rest =>
        obtain ⟨rfl, HBc, HPc⟩ := hcut
        clear HB HPw cp hi4
        by_cases hk3 : k < 3
        rotate_left
        · have i3 : ¬ (k : Int) < 3 := by omega
          have HS2 : Hid (unitL v 3 = X2) := by unfold Hid; rw [HL.out, if_neg (by omega), if_neg (by omega), if_pos trivial, HSe.out, if_neg hk3, List.append_nil, HX2.out]
          clear hk3
          go_wp2
          go_ret
          exact ⟨ret_str HS2.out.symm, HBc.out⟩
        have i3 : (k : Int) < 3 := by omega
        have i4 : (k : Int) + 1 < 4 := by omega
        have i5 : IntKind.i64.wrap ((k : Int) + 1) = (k : Int) + 1 := by rw [IntKind.wrap_i64]; omega
        have i6 : ((k : Int) + 1).toNat = k + 1 := by omega
        have i7 : (0 : Int) ≤ (k : Int) + 1 := by omega
        have hi4 : k + 1 < 4 := by omega
        have cq := HPc.out.cell (k + 1) hi4
        have hQl : prt z (k + 1) ≤ 9223372036854775807 := Nat.le_trans (prt_le z (k + 1)) hz
        by_cases hqz : prt z (k + 1) = 0
        · have HN0 : Hid (nxt4 z (k + 1) = []) := if_pos hqz
          have HS2 : Hid (unitL v 3 = X2) := by unfold Hid; rw [HL.out, if_neg (by omega), if_neg (by omega), if_pos trivial, HSe.out, if_pos hk3, HN0.out, List.append_nil, HX2.out]
          have hq0 : ((prt z (k + 1) : Nat) : Int) = 0 := by omega
          rw [hq0] at cq
          clear hqz hq0 hk3
          go_wp2
          go_ret
          exact ⟨ret_str HS2.out.symm, HBc.out⟩
        · have HN1 : Hid (nxt4 z (k + 1) = one4 z (k + 1)) := if_neg hqz
          have HO1 : Hid (one4 z (k + 1) = Lib.itoa (prt z (k + 1) : Int) ++ sg4 (k + 1)) := rfl
          have hqb : ((prt z (k + 1) : Int) != 0) = true := by simp; exact hqz
          have l4 : (sg4 (k + 1)).length = 1 := by unfold sg4; split <;> rfl
          obtain ⟨P2, hP2⟩ : ∃ P, P = prt z (k + 1) := ⟨_, rfl⟩
          have HP2 := hid hP2
          rw [← hP2] at cq hqb hQl HO1
          clear hP2 hqz
          have HC2 := fun (x : World) => hid (f6 (P2 : Int) x (by omega) (by omega))
          have l5 := itoa_nat_len (z := P2) hQl
          generalize Lib.itoa (P2 : Int) = I2 at *
          obtain ⟨Y1, h1⟩ : ∃ X, X = I2 ++ sg4 (k + 1) := ⟨_, rfl⟩
          obtain ⟨Y2, h2⟩ : ∃ X, X = X2 ++ Y1 := ⟨_, rfl⟩
          have q3 : Y1.length ≤ 22 := by rw [h1]; simp; omega
          have a3 : mkS I2 ++ mkS (sg4 (k + 1)) = mkS Y1 := by rw [h1]; exact mkS_app _ _
          have a4 : mkS X2 ++ mkS Y1 = mkS Y2 := by rw [h2]; exact mkS_app _ _
          have b4 : ¬ 9223372036854775807 < I2.length + (sg4 (k + 1)).length := by omega
          have b5 : ¬ 9223372036854775807 < X2.length + Y1.length := by omega
          have b6 : I2.length ≤ 9223372036854775806 := by omega
          have HS2 : Hid (unitL v 3 = Y2) := by unfold Hid; rw [HL.out, if_neg (by omega), if_neg (by omega), if_pos trivial, HSe.out, if_pos hk3, HN1.out, h2, HX2.out, h1, HO1.out]; simp
          clear h1 h2 hk3
          have HBd := hid (drewB HBc.out)
          have HPd : Hid (Pa wc.drew Bp z) := ⟨HPc.out.lt, HPc.out.cell⟩
          have HCell : Hid (∀ x, Pa x Bp z → x.cell? ⟨Bp, k + 1, none⟩ = some (.int .i64 (P2 : Int))) := fun x hx => by rw [HP2.out]; exact hx.cell (k + 1) hi4
          go_wp2_with fail
          refine wp_region_held_drew (S := fun x => Pa x Bp z) rfl HPd.out (fun hHeld => ?_)
          generalize wc.drew = wd at *
          refine wpAnyH_take (i := 0) (oi := { dst := some 87, op := _, type := _, pos := _, after := _, guard := _ }) (v := .string (mkS X2)) rfl (by kernel_rfl) (by kernel_rfl) (by kernel_rfl) (fun _ _ _ h => h) (Or.inl ⟨by rfl, fun w hSw => by (try dsimp only at hSw); (try go_split_ands); go_simp⟩) (by first | trivial | assumption) ?_
          try simp only [Act.put, List.setIfInBounds_toArray, List.set_cons_zero, List.set_cons_succ]
          refine wpAnyH_take (i := 1) (oi := { dst := some 88, op := _, type := _, pos := _, after := _, guard := _ }) (v := .slice (some ⟨Bp, 0, none⟩) 4 4) rfl (by kernel_rfl) (by kernel_rfl) (by kernel_rfl) (fun _ _ _ h => h) (Or.inl ⟨by rfl, fun w hSw => by (try dsimp only at hSw); (try go_split_ands); go_simp⟩) (by first | trivial | assumption) ?_
          try simp only [Act.put, List.setIfInBounds_toArray, List.set_cons_zero, List.set_cons_succ]
          refine wpAnyH_take (i := 2) (oi := { dst := some 89, op := _, type := _, pos := _, after := _, guard := _ }) (v := .int .i64 (k : Int)) rfl (by kernel_rfl) (by kernel_rfl) (by kernel_rfl) (fun _ _ _ h => h) (Or.inl ⟨by rfl, fun w hSw => by (try dsimp only at hSw); (try go_split_ands); go_simp⟩) (by first | trivial | assumption) ?_
          try simp only [Act.put, List.setIfInBounds_toArray, List.set_cons_zero, List.set_cons_succ]
          refine wpAnyH_take (i := 3) (oi := { dst := some 90, op := _, type := _, pos := _, after := _, guard := _ }) (v := .int .i64 ((k : Int) + 1)) rfl (by kernel_rfl) (by kernel_rfl) (by kernel_rfl) (fun _ _ _ h => h) (Or.inl ⟨by rfl, fun w hSw => by (try dsimp only at hSw); (try go_split_ands); go_simp⟩) (by first | trivial | assumption) ?_
          try simp only [Act.put, List.setIfInBounds_toArray, List.set_cons_zero, List.set_cons_succ]
          refine wpAnyH_take (i := 4) (oi := { dst := some 91, op := _, type := _, pos := _, after := _, guard := _ }) (v := .pointer (some ⟨Bp, k + 1, none⟩)) rfl (by kernel_rfl) (by kernel_rfl) (by kernel_rfl) (fun _ _ _ h => h) (Or.inl ⟨by rfl, fun w hSw => by (try dsimp only at hSw); (try go_split_ands); go_simp⟩) (by first | trivial | assumption) ?_
          try simp only [Act.put, List.setIfInBounds_toArray, List.set_cons_zero, List.set_cons_succ]
          refine wpAnyH_take (i := 5) (oi := { dst := some 92, op := _, type := _, pos := _, after := _, guard := _ }) (v := .int .i64 (P2 : Int)) rfl (by kernel_rfl) (by kernel_rfl) (by kernel_rfl) (fun _ _ _ h => h) (Or.inl ⟨by rfl, fun w hSw => by (try dsimp only at hSw); (try go_split_ands); have hq := HCell.out _ hSw; go_simp⟩) (by first | trivial | assumption) ?_
          try simp only [Act.put, List.setIfInBounds_toArray, List.set_cons_zero, List.set_cons_succ]
          refine wpAnyH_take (i := 8) (oi := { dst := some 95, op := _, type := _, pos := _, after := _, guard := _ }) (v := .int .i64 (k : Int)) rfl (by kernel_rfl) (by kernel_rfl) (by kernel_rfl) (fun _ _ _ h => h) (Or.inl ⟨by rfl, fun w hSw => by (try dsimp only at hSw); (try go_split_ands); go_simp⟩) (by first | trivial | assumption) ?_
          try simp only [Act.put, List.setIfInBounds_toArray, List.set_cons_zero, List.set_cons_succ]
          refine wpAnyH_take (i := 9) (oi := { dst := some 96, op := _, type := _, pos := _, after := _, guard := _ }) (v := .int .i64 ((k : Int) + 1)) rfl (by kernel_rfl) (by kernel_rfl) (by kernel_rfl) (fun _ _ _ h => h) (Or.inl ⟨by rfl, fun w hSw => by (try dsimp only at hSw); (try go_split_ands); go_simp⟩) (by first | trivial | assumption) ?_
          try simp only [Act.put, List.setIfInBounds_toArray, List.set_cons_zero, List.set_cons_succ]
          refine wpAnyH_ready (rs := [6, 7]) (by kernel_rfl) (by simp) (AllReadyH.cons (o := { dst := some 93, op := _, type := _, pos := _, after := _, guard := _ }) rfl ?_ (AllReadyH.cons (o := { dst := some 94, op := _, type := _, pos := _, after := _, guard := _ }) rfl ?_ AllReadyH.nil))
          · intro K1 hK1
            go_simp
            go_wp2_with (go_at_call 6; refine (HC2 wd).out.mono ?_; rintro e w2 ⟨rfl, hb2⟩)
            have HB2 := hid (HBd.out.trans (hb2.mono HBd.out.size))
            have HP2 := hid (HPd.out.below hb2)
            clear hb2
            refine hK1.out _ _ HP2.out (fun _ => ?_)
            clear hK1 K1
            try simp only [Act.put, List.setIfInBounds_toArray, List.set_cons_zero, List.set_cons_succ]
            refine wpAnyH_ready (rs := [7]) (by kernel_rfl) (by simp) (AllReadyH.cons (o := { dst := some 94, op := _, type := _, pos := _, after := _, guard := _ }) rfl ?_ AllReadyH.nil)
            intro K2 hK2
            go_simp
            refine hK2.out _ _ (HP2.out.alloc (.cells #[.string ⟨#[100]⟩, .string ⟨#[104]⟩, .string ⟨#[109]⟩, .string ⟨#[115]⟩] 9)) (fun _ => ?_)
            clear hK2 K2
            have HPz := hid (HP2.out.alloc (.cells #[.string ⟨#[100]⟩, .string ⟨#[104]⟩, .string ⟨#[109]⟩, .string ⟨#[115]⟩] 9))
            have HBz := hid (HB2.out.alloc HB2.out.size (.cells #[.string ⟨#[100]⟩, .string ⟨#[104]⟩, .string ⟨#[109]⟩, .string ⟨#[115]⟩] 9))
            have HNa := hid (names_at w2)
            generalize w2.alloc (.cells #[.string ⟨#[100]⟩, .string ⟨#[104]⟩, .string ⟨#[109]⟩, .string ⟨#[115]⟩] 9) = wz at *
            generalize w2.heap.size = B0 at *
            try simp only [Act.put, List.setIfInBounds_toArray, List.set_cons_zero, List.set_cons_succ]
            refine wpAnyH_take (i := 10) (oi := { dst := some 97, op := _, type := _, pos := _, after := _, guard := _ }) (v := .pointer (some ⟨B0, k + 1, none⟩)) rfl (by kernel_rfl) (by kernel_rfl) (by kernel_rfl) (fun _ _ _ h => h) (Or.inl ⟨by rfl, fun w hSw => by (try dsimp only at hSw); (try go_split_ands); go_simp⟩) (by first | trivial | assumption) ?_
            try simp only [Act.put, List.setIfInBounds_toArray, List.set_cons_zero, List.set_cons_succ]
            have dn := HNa.out (k + 1) hi4
            refine wpAnyH_ready (rs := [11]) (by kernel_rfl) (by simp) (AllReadyH.cons (o := { dst := some 98, op := _, type := _, pos := _, after := _, guard := _ }) rfl ?_ AllReadyH.nil)
            intro K3 hK3
            go_simp
            refine hK3.out _ _ HPz.out (fun _ => ?_)
            clear hK3 K3
            try simp only [Act.put, List.setIfInBounds_toArray, List.set_cons_zero, List.set_cons_succ]
            refine wpAnyH_take (i := 12) (oi := { dst := some 99, op := _, type := _, pos := _, after := _, guard := _ }) (v := .string (mkS Y1)) rfl (by kernel_rfl) (by kernel_rfl) (by kernel_rfl) (fun _ _ _ h => h) (Or.inl ⟨by rfl, fun w hSw => by (try dsimp only at hSw); (try go_split_ands); go_simp⟩) (by first | trivial | assumption) ?_
            try simp only [Act.put, List.setIfInBounds_toArray, List.set_cons_zero, List.set_cons_succ]
            refine wpAnyH_take (i := 13) (oi := { dst := some 100, op := _, type := _, pos := _, after := _, guard := _ }) (v := .string (mkS Y2)) rfl (by kernel_rfl) (by kernel_rfl) (by kernel_rfl) (fun _ _ _ h => h) (Or.inl ⟨by rfl, fun w hSw => by (try dsimp only at hSw); (try go_split_ands); go_simp⟩) (by first | trivial | assumption) ?_
            try simp only [Act.put, List.setIfInBounds_toArray, List.set_cons_zero, List.set_cons_succ]
            refine wpAnyH_take (i := 14) (oi := { dst := some 10, op := _, type := _, pos := _, after := _, guard := _ }) (v := .string (mkS Y2)) rfl (by kernel_rfl) (by kernel_rfl) (by kernel_rfl) (fun _ _ _ h => h) (Or.inl ⟨by rfl, fun w hSw => by (try dsimp only at hSw); (try go_split_ands); go_simp⟩) (by first | trivial | assumption) ?_
            try simp only [Act.put, List.setIfInBounds_toArray, List.set_cons_zero, List.set_cons_succ]
            refine wpAnyH_done (by kernel_rfl) ?_ _
            go_wp2
            go_ret
            exact ⟨ret_str HS2.out.symm, HBz.out⟩
          · intro K1 hK1
            go_simp
            refine hK1.out _ _ (HPd.out.alloc (.cells #[.string ⟨#[100]⟩, .string ⟨#[104]⟩, .string ⟨#[109]⟩, .string ⟨#[115]⟩] 9)) (fun _ => ?_)
            clear hK1 K1
            have HPa := hid (HPd.out.alloc (.cells #[.string ⟨#[100]⟩, .string ⟨#[104]⟩, .string ⟨#[109]⟩, .string ⟨#[115]⟩] 9))
            have HBa := hid (HBd.out.alloc HBd.out.size (.cells #[.string ⟨#[100]⟩, .string ⟨#[104]⟩, .string ⟨#[109]⟩, .string ⟨#[115]⟩] 9))
            have HNa := hid (names_at wd)
            have hlB : wd.heap.size < (wd.alloc (.cells #[.string ⟨#[100]⟩, .string ⟨#[104]⟩, .string ⟨#[109]⟩, .string ⟨#[115]⟩] 9)).heap.size := by simp
            generalize wd.alloc (.cells #[.string ⟨#[100]⟩, .string ⟨#[104]⟩, .string ⟨#[109]⟩, .string ⟨#[115]⟩] 9) = wa at *
            generalize wd.heap.size = B0 at *
            try simp only [Act.put, List.setIfInBounds_toArray, List.set_cons_zero, List.set_cons_succ]
            refine wpAnyH_take (i := 10) (oi := { dst := some 97, op := _, type := _, pos := _, after := _, guard := _ }) (v := .pointer (some ⟨B0, k + 1, none⟩)) rfl (by kernel_rfl) (by kernel_rfl) (by kernel_rfl) (fun _ _ _ h => h) (Or.inl ⟨by rfl, fun w hSw => by (try dsimp only at hSw); (try go_split_ands); go_simp⟩) (by first | trivial | assumption) ?_
            try simp only [Act.put, List.setIfInBounds_toArray, List.set_cons_zero, List.set_cons_succ]
            have dn := HNa.out (k + 1) hi4
            refine wpAnyH_ready (rs := [6, 11]) (by kernel_rfl) (by simp) (AllReadyH.cons (o := { dst := some 93, op := _, type := _, pos := _, after := _, guard := _ }) rfl ?_ (AllReadyH.cons (o := { dst := some 98, op := _, type := _, pos := _, after := _, guard := _ }) rfl ?_ AllReadyH.nil))
            · intro K2 hK2
              go_simp
              go_wp2_with (go_at_call 6; refine (HC2 wa).out.mono ?_; rintro e wz ⟨rfl, hbz⟩)
              have HBz := hid (HBa.out.trans (hbz.mono HBa.out.size))
              have HPz := hid (HPa.out.below hbz)
              have dz : wz.cell? ⟨B0, k + 1, none⟩ = some (.string (mkS (sg4 (k + 1)))) := (hbz.cell (p := ⟨B0, k + 1, none⟩) (by exact hlB)).trans dn
              clear hbz
              refine hK2.out _ _ HPz.out (fun _ => ?_)
              clear hK2 K2
              try simp only [Act.put, List.setIfInBounds_toArray, List.set_cons_zero, List.set_cons_succ]
              refine wpAnyH_ready (rs := [11]) (by kernel_rfl) (by simp) (AllReadyH.cons (o := { dst := some 98, op := _, type := _, pos := _, after := _, guard := _ }) rfl ?_ AllReadyH.nil)
              intro K3 hK3
              go_simp
              refine hK3.out _ _ HPz.out (fun _ => ?_)
              clear hK3 K3
              try simp only [Act.put, List.setIfInBounds_toArray, List.set_cons_zero, List.set_cons_succ]
              refine wpAnyH_take (i := 12) (oi := { dst := some 99, op := _, type := _, pos := _, after := _, guard := _ }) (v := .string (mkS Y1)) rfl (by kernel_rfl) (by kernel_rfl) (by kernel_rfl) (fun _ _ _ h => h) (Or.inl ⟨by rfl, fun w hSw => by (try dsimp only at hSw); (try go_split_ands); go_simp⟩) (by first | trivial | assumption) ?_
              try simp only [Act.put, List.setIfInBounds_toArray, List.set_cons_zero, List.set_cons_succ]
              refine wpAnyH_take (i := 13) (oi := { dst := some 100, op := _, type := _, pos := _, after := _, guard := _ }) (v := .string (mkS Y2)) rfl (by kernel_rfl) (by kernel_rfl) (by kernel_rfl) (fun _ _ _ h => h) (Or.inl ⟨by rfl, fun w hSw => by (try dsimp only at hSw); (try go_split_ands); go_simp⟩) (by first | trivial | assumption) ?_
              try simp only [Act.put, List.setIfInBounds_toArray, List.set_cons_zero, List.set_cons_succ]
              refine wpAnyH_take (i := 14) (oi := { dst := some 10, op := _, type := _, pos := _, after := _, guard := _ }) (v := .string (mkS Y2)) rfl (by kernel_rfl) (by kernel_rfl) (by kernel_rfl) (fun _ _ _ h => h) (Or.inl ⟨by rfl, fun w hSw => by (try dsimp only at hSw); (try go_split_ands); go_simp⟩) (by first | trivial | assumption) ?_
              try simp only [Act.put, List.setIfInBounds_toArray, List.set_cons_zero, List.set_cons_succ]
              refine wpAnyH_done (by kernel_rfl) ?_ _
              go_wp2
              go_ret
              exact ⟨ret_str HS2.out.symm, HBz.out⟩
            · intro K2 hK2
              go_simp
              refine hK2.out _ _ HPa.out (fun _ => ?_)
              clear hK2 K2
              try simp only [Act.put, List.setIfInBounds_toArray, List.set_cons_zero, List.set_cons_succ]
              refine wpAnyH_ready (rs := [6]) (by kernel_rfl) (by simp) (AllReadyH.cons (o := { dst := some 93, op := _, type := _, pos := _, after := _, guard := _ }) rfl ?_ AllReadyH.nil)
              intro K3 hK3
              go_simp
              go_wp2_with (go_at_call 6; refine (HC2 wa).out.mono ?_; rintro e wz ⟨rfl, hbz⟩)
              have HBz := hid (HBa.out.trans (hbz.mono HBa.out.size))
              have HPz := hid (HPa.out.below hbz)
              clear hbz
              refine hK3.out _ _ HPz.out (fun _ => ?_)
              clear hK3 K3
              try simp only [Act.put, List.setIfInBounds_toArray, List.set_cons_zero, List.set_cons_succ]
              refine wpAnyH_take (i := 12) (oi := { dst := some 99, op := _, type := _, pos := _, after := _, guard := _ }) (v := .string (mkS Y1)) rfl (by kernel_rfl) (by kernel_rfl) (by kernel_rfl) (fun _ _ _ h => h) (Or.inl ⟨by rfl, fun w hSw => by (try dsimp only at hSw); (try go_split_ands); go_simp⟩) (by first | trivial | assumption) ?_
              try simp only [Act.put, List.setIfInBounds_toArray, List.set_cons_zero, List.set_cons_succ]
              refine wpAnyH_take (i := 13) (oi := { dst := some 100, op := _, type := _, pos := _, after := _, guard := _ }) (v := .string (mkS Y2)) rfl (by kernel_rfl) (by kernel_rfl) (by kernel_rfl) (fun _ _ _ h => h) (Or.inl ⟨by rfl, fun w hSw => by (try dsimp only at hSw); (try go_split_ands); go_simp⟩) (by first | trivial | assumption) ?_
              try simp only [Act.put, List.setIfInBounds_toArray, List.set_cons_zero, List.set_cons_succ]
              refine wpAnyH_take (i := 14) (oi := { dst := some 10, op := _, type := _, pos := _, after := _, guard := _ }) (v := .string (mkS Y2)) rfl (by kernel_rfl) (by kernel_rfl) (by kernel_rfl) (fun _ _ _ h => h) (Or.inl ⟨by rfl, fun w hSw => by (try dsimp only at hSw); (try go_split_ands); go_simp⟩) (by first | trivial | assumption) ?_
              try simp only [Act.put, List.setIfInBounds_toArray, List.set_cons_zero, List.set_cons_succ]
              refine wpAnyH_done (by kernel_rfl) ?_ _
              go_wp2
              go_ret
              exact ⟨ret_str HS2.out.symm, HBz.out⟩
  have v3 : (u == 3) = false := by simpa using u3
  go_wp2
  go_ret
  exact ⟨ret_str (by rw [HL.out, if_neg u1, if_neg u2, if_neg u3, if_neg u4, if_neg u5]), Below.refl _ _⟩

set_option maxHeartbeats 1000000 in
theorem walkUnit (v u : Int) (w : World) (hv0 : -9223372036854775808 ≤ v) (hv1 : v ≤ 9223372036854775807) (hp : Pow w) (ht : Tun w) :
    Calls Tryd.prog 3 #[.int .i64 v, .int .i64 u] w fun e w' => e = .returned (.bool true) ∧ Below w.heap.size w w' := by
  have HC1 := fun x => hid (f4 v u x hv0 hv1)
  have HC2 := fun x h1 h2 => hid (f5 v u x hv0 hv1 h1 h2)
  have HP := hid hp
  have HT := hid ht
  clear hp ht
  generalize unitL v u = X at *
  go_enter Tryd.func3, Tryd.ntmps3
  go_wp2_with fail
  refine (HC1 _).out.mono ?_
  rintro e w1 ⟨rfl, hb1⟩
  have HB1 := hid hb1
  clear hb1
  go_wp2_with fail
  refine (HC2 _ (HP.out.below HB1.out) (HT.out.below HB1.out)).out.mono ?_
  rintro e w2 ⟨rfl, hb2⟩
  have HB2 := hid (HB1.out.trans (hb2.mono HB1.out.size))
  clear hb2
  have g : (X == X) = true := by simp
  have g2 : (X != X) = false := by simp
  have g3 : ((mkS X).toList == (mkS X).toList) = true := by simp
  go_wp2
  go_ret
  exact ⟨rfl, HB2.out⟩
end Go.Proofs.YtihdjohpbcaogaaDoor.Unt
