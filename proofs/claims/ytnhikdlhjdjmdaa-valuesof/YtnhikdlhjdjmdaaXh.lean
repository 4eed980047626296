/- The walk of FnExactGoodSeries. -/
import Derived.Test.YtnhikdlhjdjmdaaXc
import Derived.Test.YtnhikdlhjdjmdaaXf
import Derived.Test.YtnhikdlhjdjmdaaXg
namespace Go.Proofs.Ytnhikdlhjdjmdaa.Srs
open Go.RowKit
open Go.Proofs.Ytnhikdlhjdjmdaa.Lab (Lb HasL)
open Go.Proofs.Ytnhikdlhjdjmdaa.Smp (Sm HasS)

theorem SameTo.same {n : Nat} {qs d : List Q} (h : SameTo n qs d) : Same n qs d := fun i hi => (h i hi).1
theorem Same.trans {n : Nat} {qs d d' : List Q} (h1 : SameTo n qs d) (h2 : SameTo n qs d') : Same n d d' := fun i hi => (h2 i hi).1.trans (h1 i hi).1.symm
theorem getD_out {qs : List Q} {i : Nat} (h : ¬ i < qs.length) : qs.getD i q0 = q0 := by
  rw [List.getD_eq_getElem?_getD, List.getElem?_eq_none (by omega)]; rfl
theorem FitQ.same {n : Nat} {qs d : List Q} (h : FitQ qs) (h1 : d.length = n) (hs : Same n qs d) : FitQ d := by
  intro i
  by_cases hi : i < n
  · have e := hs i hi
    simp only [pl, Prod.mk.injEq] at e
    have := h i
    unfold Fq at this ⊢
    rw [e.1, e.2]; exact this
  · rw [getD_out (by omega)]; exact fit_q0
theorem SmlQ.same {n : Nat} {qs d : List Q} (h : SmlQ qs) (h0 : qs.length = n) (h1 : d.length = n) (hs : Same n qs d) : SmlQ d := by
  intro i hi
  have e := hs i (by omega)
  simp only [pl, Prod.mk.injEq] at e
  have := h i (by omega)
  rw [e.1, e.2]; exact this
set_option maxHeartbeats 2000000 in
theorem walkGood (a : Option Addr) (n c : Nat) (qs : List Q) (w : World) (hn : qs.length = n) (hmax : n ≤ maxLen) (hr : HasQ w a qs) (hf : FitQ qs) :
    Calls Try.prog 4 #[.slice a n c] w fun e w' => e = .returned (.bool true) ∧ Below w.heap.size w w' := by
  have HN := hid hn
  have HR := hid hr
  have HF := hid hf
  have HM := hid hmax
  clear hn hr hf hmax
  go_enter Try.func4, Try.ntmps4
  go_wp2_with fail
  refine (f16 a n c 1048576 qs _ (by omega) (by omega) HN.out HR.out HF.out HM.out).mono ?_
  rintro e w1 ⟨y, rfl, y0, y1, hy, hb1⟩
  have HB1 := hid hb1
  have HR1 := hid (HR.out.below hb1)
  clear hb1 HR
  by_cases hy0 : y < 0
  · go_wp2
    go_ret
    exact ⟨rfl, HB1.out⟩
  have hy' := hy (by omega)
  have HZ : Hid (SmlQ qs) := sml_tot (by rw [HN.out]; omega)
  have hb : n ≤ 1048576 := by omega
  clear hy hy'
  go_wp2_with fail
  refine (f18 a n c qs _ HN.out hb HR1.out HZ.out).mono ?_
  rintro e w2 ⟨d2, rfl, hs2, ho2, hb2⟩
  have HB2 := hid (HB1.out.trans (hb2.mono HB1.out.size))
  have HR2 := hid (HR1.out.below hb2)
  have HF2 := hid (HF.out.same ho2.kin.len hs2.same)
  have HZ2 := hid (HZ.out.same HN.out ho2.kin.len hs2.same)
  have HE2 := hid (gdQ_congr HN.out ho2.kin.len hs2.same)
  have HO2 := hid ho2
  clear hb2 ho2 hs2 HR1
  go_wp2_with fail
  refine (f17 _ n n d2 _ HO2.out.kin.len HM.out HO2.out.has HF2.out HZ2.out).mono ?_
  rw [HE2.out]
  rintro e w3 ⟨rfl, hb3⟩
  have HB3 := hid (HB2.out.trans (hb3.mono HB2.out.size))
  have HR3 := hid (HR2.out.below hb3)
  clear hb3 HO2 HR2 HF2 HZ2 HE2
  go_wp2_with fail
  refine (f18 a n c qs _ HN.out hb HR3.out HZ.out).mono ?_
  rintro e w4 ⟨d4, rfl, hs4, ho4, hb4⟩
  have HB4 := hid (HB3.out.trans (hb4.mono HB3.out.size))
  have HR4 := hid (HR3.out.below hb4)
  have HF4 := hid (HF.out.same ho4.kin.len hs4.same)
  have HZ4 := hid (HZ.out.same HN.out ho4.kin.len hs4.same)
  have HE4 := hid (gdQ_congr HN.out ho4.kin.len hs4.same)
  have HS4 := hid hs4
  have HO4 := hid ho4
  clear hb4 ho4 hs4 HR3
  go_wp2_with fail
  refine (f19 _ n n d4 _ HO4.out.kin.len HM.out HO4.out.has HF4.out HZ4.out).mono ?_
  rw [HE4.out]
  rintro e w5 ⟨rfl, hb5⟩
  have HB5 := hid (HB4.out.trans (hb5.mono HB4.out.size))
  have HR5 := hid (HR4.out.below hb5)
  have HO5 := hid (HO4.out.below hb5)
  clear hb5 HO4 HR4 HE4 HF4
  generalize gdQ qs = g
  go_wp2_with fail
  refine (f18 a n c qs _ HN.out hb HR5.out HZ.out).mono ?_
  rintro e w6 ⟨d6, rfl, hs6, ho6, hb6⟩
  have HB6 := hid (HB5.out.trans (hb6.mono HB5.out.size))
  have HO6 := hid (HO5.out.below hb6)
  have HP6 := hid ho6
  have HS6 := hid (Same.trans HS4.out hs6)
  clear hb6 ho6 hs6 HR5 HO5 HS4
  go_wp2_with fail
  refine (f20 _ _ n n n d4 d6 _ HO6.out.kin.len HP6.out.kin.len hb HO6.out.has HP6.out.has HS6.out HZ4.out).mono ?_
  rintro e w7 ⟨rfl, hb7⟩
  have HB7 := hid (HB6.out.trans (hb7.mono HB6.out.size))
  clear hb7 HO6 HP6
  go_wp2
  go_ret
  exact ⟨rfl, HB7.out⟩
end Go.Proofs.Ytnhikdlhjdjmdaa.Srs
