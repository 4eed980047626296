/- The walk of FnExactSplitSpans. -/
import Derived.Test.YtkkmaombeifdnaaSpb
namespace Go.Proofs.Ytkkmaombeifdnaa.Spn
open Go.RowKit

set_option maxHeartbeats 4000000 in
theorem walkSplitSpans (f t s e : Int) (w : World) :
    Calls Try.prog 3 #[.int .i64 f, .int .i64 t, .int .i64 s, .int .i64 e] w fun r w' => r = .returned (.bool true) ∧ Below w.heap.size w w' := by
  have hsl := spl_len f t s e
  go_enter Try.func3, Try.ntmps3
  go_wp2_with fail
  refine (f4 f t s e _).mono ?_
  rintro r1 w3 ⟨v0, rfl, ho3, hb3⟩
  generalize hsel : spl f t s e = sel at *
  have HS := hid hsel
  clear hsel
  have HB3 := hid hb3
  have V3 := hid ho3
  have BV : Hid (∀ k, v0.ownBlock = some k → k < w3.heap.size) := fun k hk => (V3.out.lt k hk).2
  clear hb3 ho3
  go_wp2_with fail
  refine (f5 f t s e _).mono ?_
  rintro r1 w5 ⟨g0, rfl, ho5, hb5⟩
  rw [HS.out] at ho5
  have HB5 := hid (HB3.out.trans (hb5.mono HB3.out.size))
  have V5 := hid (V3.out.below hb5)
  have G5 := hid ho5
  have BG : Hid (∀ k, g0.ownBlock = some k → w3.heap.size ≤ k) := fun k hk => (G5.out.lt k hk).1
  clear hb5 ho5 V3
  go_wp2_with fail
  refine (eqO (by omega) G5.out V5.out).mono ?_
  rintro r1 w10 ⟨rfl, hb10⟩
  have HB10 := hid (HB5.out.trans (hb10.mono HB5.out.size))
  have V10 := hid (V5.out.below hb10)
  have G10 := hid (G5.out.below hb10)
  clear hb10 V5 G5
  go_wp2_with fail
  refine (markO 1 (by omega) G10.out).mono ?_
  rintro r1 w11 ⟨rfl, ho11, hg11⟩
  have HB11 := hid (HB10.out.grown hg11 HB10.out.size (fun k hk => Nat.le_trans HB3.out.size (BG.out k hk)))
  have V11 := hid (V10.out.kept hg11 (fun k hk e => by have h1 := BG.out _ e; have h2 := BV.out _ hk; omega))
  have G11 := hid ho11
  clear ho11 hg11 V10 G10
  go_wp2_with fail
  refine (heldO 1 (by omega) G11.out).mono ?_
  rintro r1 w12 ⟨rfl, rfl⟩
  go_wp2_with fail
  refine (f5 f t s e _).mono ?_
  rintro r1 w14 ⟨h0, rfl, ho14, hb14⟩
  rw [HS.out] at ho14
  have HB14 := hid (HB11.out.trans (hb14.mono HB11.out.size))
  have V14 := hid (V11.out.below hb14)
  have G14 := hid (G11.out.below hb14)
  have H14 := hid ho14
  clear hb14 ho14 V11 G11
  go_wp2_with fail
  refine (eqO (by omega) H14.out V14.out).mono ?_
  rintro r1 w15 ⟨rfl, hb15⟩
  have HB15 := hid (HB14.out.trans (hb15.mono HB14.out.size))
  have G15 := hid (G14.out.below hb15)
  clear hb15 H14 V14 G14
  go_wp2_with fail
  refine (heldO 1 (by omega) G15.out).mono ?_
  rintro r1 w16 ⟨rfl, rfl⟩
  go_wp2
  go_ret
  exact ⟨rfl, HB15.out⟩
end Go.Proofs.Ytkkmaombeifdnaa.Spn
