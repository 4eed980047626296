/- The walk of FnDates. -/
import Derived.Test.YtlmcpicmbmbkgaaDoorUfe
import Derived.Test.YtlmcpicmbmbkgaaDoorClg
import Derived.Deep.RegionHeld3
import Derived.Laws.StructEq
namespace Go.Proofs.YtlmcpicmbmbkgaaDoor.Cal
open Go.RowKit

theorem neqDate (y m d l k n : Int) (w : World) : (binOp .neq 26 (dv y m d l k n) (dv y m d l k n)).run Tryd.prog w = .ok (.bool false) w := by
  rw [run_neq_struct, show (10000 : Nat) = 9999 + 1 from rfl, run_equalIn_agg w 9999 26 _ _ (by kernel_rfl) (by kernel_rfl)]
  have hu := Tryd.underlying26
  have h3 := Tryd.underlying3
  simp only [Program.fieldsOf, hu]
  simp [go_sem, h3, Op.eqFields, part]
abbrev SX (w : World) (X : Nat) (y m d l k n : Int) (x : World) : Prop := x.cell? ⟨X, 0, none⟩ = some (.int .i64 y) ∧ x.cell? ⟨X, 1, none⟩ = some (.int .i64 m) ∧ x.cell? ⟨X, 2, none⟩ = some (.int .i64 d) ∧ x.cell? ⟨X, 3, none⟩ = some (.int .i64 l) ∧ x.cell? ⟨X, 4, none⟩ = some (.int .i64 k) ∧ x.cell? ⟨X, 5, none⟩ = some (.int .i64 n) ∧ Six x X y m d l k n ∧ Below w.heap.size w x
theorem SX.of {w x : World} {X : Nat} {y m d l k n : Int} (h : Six x X y m d l k n) (hb : Below w.heap.size w x) : SX w X y m d l k n x := by
  obtain ⟨a, b, c, e, f, g⟩ := h.cells
  exact ⟨a, b, c, e, f, g, h, hb⟩
theorem SX.mv {w x x' : World} {X : Nat} {y m d l k n : Int} (h : SX w X y m d l k n x) (hb : Below x.heap.size x x') : SX w X y m d l k n x' := SX.of (h.2.2.2.2.2.2.1.below hb) (h.2.2.2.2.2.2.2.trans (hb.mono h.2.2.2.2.2.2.2.size))
theorem field0 (y m d l k n : Int) (w : World) : (Instr.field 26 (dv y m d l k n) 0).run Tryd.prog w = .ok (.int .i64 y) w := by kernel_rfl

set_option maxHeartbeats 16000000 in
set_option maxRecDepth 100000 in
theorem walkDates (a : Option Addr) (n c : Nat) (w : World) (hd : Cur.Bya w a n) (hM : Mon w) (hR : Rgl w) :
    Calls Tryd.prog 3 #[.slice a n c] w fun e w' => e = .returned (.bool true) ∧ Below w.heap.size w w' := by
  have HM := hid hM
  have HR := hid hR
  have HD := hid hd
  clear hM hR hd
  by_cases g : (n : Int) > 1048576
  · go_enter Tryd.func3, Tryd.ntmps3
    go_wp2
    go_ret
    exact ⟨rfl, Below.refl _ _⟩
  go_enter Tryd.func3, Tryd.ntmps3
  go_wp2_with fail
  refine (Cur.f6 n c a _ (by omega) HD.out).mono ?_
  rintro e w1 ⟨t, z, rfl, hb⟩
  have HB1 := hid hb
  clear hb HD g
  go_wp2_with fail
  refine (f7 t z _ (HM.out.below HB1.out)).mono ?_
  rintro e w2 ⟨v, b, rfl, HV, HB⟩
  have HB2 := hid (HB1.out.trans (HB.out.mono HB1.out.size))
  obtain ⟨y, m, d, l, k, q, rfl⟩ := HV.out.six
  have HN := hid (Six.new w2 y m d l k q)
  have HB3 := hid (HB2.out.alloc HB2.out.size (dc y m d l k q))
  obtain ⟨W, hW⟩ : ∃ W, W = w2.alloc (dc y m d l k q) := ⟨_, rfl⟩
  rw [← hW] at HN HB3
  have HW := hid hW
  clear hW HB HB1 HB2
  go_upto_region 5 with fail
  rw [← HW.out]
  clear HW
  generalize w2.heap.size = X at *
  have HX := hid (SX.of HN.out HB3.out)
  have HS := fun x => hid (f8 t z x)
  have HQ := neqDate y m d l k q
  have HF0 := field0 y m d l k q
  clear HN HB3
  go_region_held3 (fun x => SX w X y m d l k q x) (first | exact HX.out.mv (Below.refl _ _).drew | assumption) (first | (go_at_call 8; refine (HS _).out.mono ?_; rintro e w3 ⟨v3, b3, rfl, HV3, HB3⟩; have hs3 := SX.mv (by assumption) HB3.out; obtain ⟨rfl, rfl⟩ := HV3.out.one HV.out; clear HB3 HV3))
  have HX3 := hid hs3
  clear hs3 HX HQ
  go_wp2_with fail
  refine (HS _).out.mono ?_
  rintro e w4 ⟨v4, b4, rfl, HV4, HB4⟩
  have HX4 := hid (SX.mv HX3.out HB4.out)
  obtain ⟨rfl, rfl⟩ := HV4.out.one HV.out
  clear HB4 HV4 HX3 HS
  by_cases hh : Has t z
  rotate_left
  · have hy : y = 0 := by
      rcases HV.out with ⟨_, h, _⟩ | ⟨h, _⟩
      · simp only [Value.agg.injEq] at h
        have := congrArg (fun (x : Array Value) => x[0]?) h
        simpa using this
      · exact absurd h hh
    have HBX := hid HX4.out.2.2.2.2.2.2.2
    have hy' : (y == 0) = true := by simpa using hy
    clear hh hy
    go_wp2
    go_ret
    exact ⟨rfl, HBX.out⟩
  obtain ⟨y', m', d', heq, hdt⟩ : ∃ y' m' d', dv y m d l k q = dv y' m' d' (ml y' m') ((4 + (t + z * 60) / 86400) % 7) ((t + z * 60) % 86400 / 60) ∧ Dt ((t + z * 60) / 86400) y' m' d' := by
    rcases HV.out with ⟨hn, _⟩ | ⟨_, _, h⟩
    · exact absurd hh hn
    · exact h
  simp only [Value.agg.injEq, Array.mk.injEq, List.cons.injEq, Value.int.injEq, true_and, and_true] at heq
  obtain ⟨rfl, rfl, rfl, hl, hk, hq⟩ := heq
  have HH := hid hh
  obtain ⟨a0, a1, c0, c1, cs⟩ := hh
  have hlow := yr_low hdt.yr
  have hD : (t + z * 60) / 86400 ≤ 12000000 := by omega
  have hy4 : y ≤ 40000 := by omega
  have HNum := hid (hdt.num hy4)
  have ny : (y == 0) = false := by rw [beq_eq_false_iff_ne]; have := hdt.y0; omega
  have r1 : Int.tdiv (t + 60 * z) 86400 = (t + z * 60) / 86400 := by rw [show t + 60 * z = t + z * 60 by omega]; exact Int.tdiv_eq_ediv_of_nonneg cs
  have r2 : Int.tmod (t + 60 * z) 86400 = (t + z * 60) % 86400 := by rw [show t + 60 * z = t + z * 60 by omega]; exact Int.tmod_eq_emod_of_nonneg cs
  have r3 : Int.tdiv ((t + z * 60) % 86400) 60 = (t + z * 60) % 86400 / 60 := Int.tdiv_eq_ediv_of_nonneg (by omega)
  have d1 : ¬ d < 1 := by have := hdt.d0; omega
  have d2 : ¬ d > l := by have := hdt.d1; omega
  have HNc := fun x a b => hid (f9 y m d x a b)
  simp only [HNum.out] at HNc
  have hq0 : (q != (t + z * 60) % 86400 / 60) = false := by rw [hq]; simp
  have hD0 : (((t + z * 60) / 86400 : Int) != (t + z * 60) / 86400) = false := by simp
  have HK := hid hk
  have HQ2 := hid hq
  clear hl hk hq hdt HNum hlow HV
  obtain ⟨x0, x1, x2, x3, x4, x5, hsix, hbel⟩ := HX4.out
  have HSix := hid hsix
  have HBel := hid hbel
  clear hsix hbel HX4
  go_wp2_with fail
  refine (HNc _ (HM.out.below HBel.out) (HR.out.below HBel.out)).out.mono ?_
  rintro e w5 ⟨rfl, hb5⟩
  have HSix5 := hid (HSix.out.below hb5.out)
  have HBel5 := hid (HBel.out.trans (hb5.out.mono HBel.out.size))
  clear hb5 HSix HBel x0 x1 x2 x3 x4 x5 HNc
  obtain ⟨x0, x1, x2, x3, x4, x5⟩ := HSix5.out.cells
  by_cases g9 : t + 86400 > 1000000000000
  · go_wp2
    go_ret
    exact ⟨rfl, HBel5.out⟩
  have HC := fun x a => hid (f7 (t + 86400) z x a)
  go_wp2_with fail
  refine (HC _ (HM.out.below HBel5.out)).out.mono ?_
  rintro e w6 ⟨v6, b6, rfl, HV6, hb6⟩
  have HSix6 := hid (HSix5.out.below hb6.out)
  have HBel6 := hid (HBel5.out.trans (hb6.out.mono HBel5.out.size))
  clear hb6 HSix5 HBel5 x0 x1 x2 x3 x4 x5 HC
  obtain ⟨y6, m6, d6, rfl, hd6⟩ : ∃ y' m' d', v6 = dv y' m' d' (ml y' m') ((4 + (t + 86400 + z * 60) / 86400) % 7) ((t + 86400 + z * 60) % 86400 / 60) ∧ Dt ((t + 86400 + z * 60) / 86400) y' m' d' := by
    rcases HV6.out with ⟨hn, _⟩ | ⟨_, _, h⟩
    · exact absurd (show Has (t + 86400) z from ⟨by omega, by omega, c0, c1, by omega⟩) hn
    · exact h
  have HE1 : Hid ((4 + (t + 86400 + z * 60) / 86400) % 7 = (k + 1) % 7) := by
    unfold Hid
    rw [HK.out]
    omega
  have HE2 : Hid ((t + 86400 + z * 60) % 86400 / 60 = q) := by unfold Hid; rw [HQ2.out]; omega
  have kb0 : 0 ≤ k := by rw [HK.out]; omega
  have kb1 : k ≤ 6 := by rw [HK.out]; omega
  clear HV6 hd6
  generalize (4 + (t + 86400 + z * 60) / 86400) % 7 = K6 at *
  generalize (t + 86400 + z * 60) % 86400 / 60 = Q6 at *
  generalize ml y6 m6 = L6 at *
  have HN6 := hid (Six.new w6 y6 m6 d6 L6 K6 Q6)
  have HSix7 := hid (HSix6.out.below ((Below.refl _ _).alloc (Nat.le_refl _) (dc y6 m6 d6 L6 K6 Q6)))
  have HBel7 := hid (HBel6.out.alloc HBel6.out.size (dc y6 m6 d6 L6 K6 Q6))
  obtain ⟨W7, hW7⟩ : ∃ W, W = w6.alloc (dc y6 m6 d6 L6 K6 Q6) := ⟨_, rfl⟩
  rw [← hW7] at HN6 HSix7 HBel7
  have HW7 := hid hW7
  clear hW7
  go_upto_region 15 with fail
  rw [← HW7.out]
  clear HW7 HSix6 HBel6
  generalize w6.heap.size = X6 at *
  obtain ⟨x0, x1, x2, x3, x4, x5⟩ := HSix7.out.cells
  obtain ⟨y0', y1', y2', y3', y4', y5'⟩ := HN6.out.cells
  have r7 : Int.tmod (k + 1) 7 = (k + 1) % 7 := Int.tmod_eq_emod_of_nonneg (by omega)
  have e1 : (K6 == (k + 1) % 7) = true := by rw [HE1.out]; simp
  have e2 : (Q6 == q) = true := by rw [HE2.out]; simp
  clear HE1 HE2 HK HQ2
  go_wp2
  go_ret
  exact ⟨by first | rfl | simp [e1, e2], HBel7.out⟩
end Go.Proofs.YtlmcpicmbmbkgaaDoor.Cal
