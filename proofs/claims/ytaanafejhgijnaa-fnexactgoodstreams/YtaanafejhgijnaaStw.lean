/- The walk of FnExactGoodStreams. -/
import Derived.Test.YtaanafejhgijnaaStc
namespace Go.Proofs.Ytaanafejhgijnaa.Stm
open Go.RowKit
open Go.Proofs.Ytaanafejhgijnaa.Rwc

set_option maxHeartbeats 4000000 in
theorem walkGood (a : Option Addr) (n c : Nat) (ts : List T) (w : World) (hn : ts.length = n) (hmax : n ≤ maxLen) (hr : Has w a ts) (hf : Fit ts) :
    Calls Try.prog 3 #[.slice a n c] w fun e w' => e = .returned (.bool true) ∧ Below w.heap.size w w' := by
  have HN := hid hn
  have HR := hid hr
  have HF := hid hf
  have HM := hid hmax
  clear hn hr hf hmax
  go_enter Try.func3, Try.ntmps3
  go_wp2_with fail
  refine (f4 a n c 1048576 ts _ (by omega) (by omega) HN.out HR.out HF.out HM.out).mono ?_
  rintro e w1 ⟨y, rfl, y0, y1, hy, hb⟩
  have HB1 := hid hb
  have HR1 := hid (HR.out.below hb)
  clear hb HR
  by_cases g0 : y < 0
  · go_wp2
    go_ret
    exact ⟨rfl, HB1.out⟩
  have h1 := hy (by omega)
  have hle : n ≤ 1048576 := by omega
  have HZ : Hid (Sml ts) := sml_tot (by rw [HN.out]; omega)
  clear h1 hy
  go_wp2_with fail
  refine (f6 a n c ts _ HN.out hle HR1.out HZ.out).mono ?_
  rintro e w2 ⟨d2, rfl, hs2, ho2, hb⟩
  have HB2 := hid (HB1.out.trans (hb.mono HB1.out.size))
  have HR2 := hid (HR1.out.below hb)
  have HL2 := hid ho2.len
  have HS2 := hid hs2
  have HH2 := hid ho2.has
  clear hb ho2 hs2 HB1 HR1
  generalize w1.heap.size = X1 at *
  go_wp2_with fail
  refine (f5 _ n n d2 _ HL2.out hle HH2.out (HS2.out.fit HL2.out HF.out) (HS2.out.sml HN.out HL2.out HZ.out)).mono ?_
  rw [goodW_same HS2.out HN.out HL2.out]
  rintro e w3 ⟨rfl, hb⟩
  have HB3 := hid (HB2.out.trans (hb.mono HB2.out.size))
  have HR3 := hid (HR2.out.below hb)
  clear hb HB2 HR2 HL2 HS2 HH2
  obtain ⟨R, hR⟩ : ∃ R, R = goodW ts := ⟨_, rfl⟩
  have HRR := hid hR
  rw [← hR]
  clear hR
  go_wp2_with fail
  refine (f6 a n c ts _ HN.out hle HR3.out HZ.out).mono ?_
  rintro e w4 ⟨d4, rfl, hs4, ho4, hb⟩
  have HB4 := hid (HB3.out.trans (hb.mono HB3.out.size))
  have HR4 := hid (HR3.out.below hb)
  have HL4 := hid ho4.len
  have HS4 := hid hs4
  have HH4 := hid ho4.has
  clear hb ho4 hs4 HB3 HR3
  generalize w3.heap.size = X3 at *
  go_wp2_with fail
  refine (f7 _ n n d4 _ HL4.out hle HH4.out (HS4.out.fit HL4.out HF.out) (HS4.out.sml HN.out HL4.out HZ.out)).mono ?_
  rw [goodW_same HS4.out HN.out HL4.out, ← HRR.out]
  rintro e w5 ⟨rfl, hb⟩
  have HB5 := hid (HB4.out.trans (hb.mono HB4.out.size))
  have HR5 := hid (HR4.out.below hb)
  have HH5 := hid (HH4.out.below hb)
  clear hb HB4 HR4 HH4 HRR
  have gR : (R != R) = false := by simp
  go_wp2_with fail
  refine (f6 a n c ts _ HN.out hle HR5.out HZ.out).mono ?_
  rintro e w6 ⟨d6, rfl, hs6, ho6, hb⟩
  have HB6 := hid (HB5.out.trans (hb.mono HB5.out.size))
  have HH6 := hid (HH5.out.below hb)
  have HL6 := hid ho6.len
  have HS6 := hid hs6
  have HO6 := hid ho6.has
  clear hb ho6 hs6 HB5 HH5
  generalize w5.heap.size = X5 at *
  go_wp2_with fail
  refine (f8 _ _ n n n d4 d6 _ HL4.out HL6.out hle HH6.out HO6.out (HS4.out.trans' HS6.out) (HS4.out.sml HN.out HL4.out HZ.out)).mono ?_
  rintro e w7 ⟨rfl, hb⟩
  have HB7 := hid (HB6.out.trans (hb.mono HB6.out.size))
  clear hb
  go_wp2
  go_ret
  exact ⟨rfl, HB7.out⟩
end Go.Proofs.Ytaanafejhgijnaa.Stm
