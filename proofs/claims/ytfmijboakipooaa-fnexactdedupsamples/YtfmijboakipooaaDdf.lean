/- The walk of FnExactDedupSamples. -/
import Derived.Test.YtfmijboakipooaaDde
namespace Go.Proofs.Ytfmijboakipooaa.Smp
open Go.RowKit

set_option maxHeartbeats 4000000 in
theorem walkDedup (a b : Option Addr) (c d : Nat) (xs ys : List Sm) (gap : Int) (w : World) (hmax : xs.length ≤ maxLen) (hmay : ys.length ≤ maxLen) (hr : HasS w a xs) (hs : HasS w b ys) :
    Calls Try.prog 5 #[.slice a xs.length c, .slice b ys.length d, .int .i64 gap] w fun e w' => e = .returned (.bool true) ∧ Below w.heap.size w w' := by
  have HM := hid hmax
  have HMY := hid hmay
  have HR := hid hr
  have HT := hid hs
  clear hmax hmay hr hs
  by_cases hbig : xs.length ≤ 1048576
  · have hif : (if (1048576 : Int) < (xs.length : Int) then (-1 : Int) else 1048576 - (xs.length : Int)) = 1048576 - (xs.length : Int) := if_neg (by omega)
    by_cases hbig2 : xs.length + ys.length ≤ 1048576
    · have hif2 : (if (1048576 : Int) - (xs.length : Int) < (ys.length : Int) then (-1 : Int) else 1048576 - (xs.length : Int) - (ys.length : Int)) = 1048576 - (xs.length : Int) - (ys.length : Int) := if_neg (by omega)
      have hby : ys.length ≤ 1048576 := by omega
      have hsl := dedA_len xs ys gap
      go_enter Try.func5, Try.ntmps5
      go_wp2_with fail
      refine (f16 a xs.length c 1048576 _ HM.out (by omega) (by omega)).mono ?_
      rw [hif]
      rintro e w1 ⟨rfl, rfl⟩
      clear hif
      go_wp2_with fail
      refine (f16 b ys.length d (1048576 - (xs.length : Int)) _ HMY.out (by omega) (by omega)).mono ?_
      rw [hif2]
      rintro e w1 ⟨rfl, rfl⟩
      clear hif2
      -- the model
      go_wp2_with fail
      refine (f18 a c xs _ hbig HR.out).mono ?_
      rintro e w2 ⟨rfl, ho2, hb2⟩
      have HB2 := hid hb2
      have A2 := hid (Own.to ho2).has.2
      clear hb2 ho2
      go_wp2_with fail
      refine (f18 b d ys _ hby (HT.out.below HB2.out)).mono ?_
      rintro e w2' ⟨rfl, ho2, hb2⟩
      have HB2' := hid (HB2.out.trans (hb2.mono HB2.out.size))
      have A2' := hid (A2.out.below hb2)
      have C2 := hid (Own.to ho2).has.2
      clear hb2 ho2 A2
      go_wp2_with fail
      refine (f17 _ _ _ _ xs ys gap _ hbig hby A2'.out C2.out).mono ?_
      rintro e w3 ⟨v0, rfl, ho3, hb3⟩
      generalize hsel : dedA xs ys gap = sel at *
      have HS := hid hsel
      clear hsel
      have HB3 := hid (HB2'.out.trans (hb3.mono HB2'.out.size))
      have V3 := hid ho3
      have BV : Hid (∀ k, v0.ownBlock = some k → k < w3.heap.size) := fun k hk => (V3.out.lt k hk).2
      clear hb3 ho3 A2' C2
      -- the program
      go_wp2_with fail
      refine (f18 a c xs _ hbig (HR.out.below HB3.out)).mono ?_
      rintro e w4 ⟨rfl, ho4, hb4⟩
      have HB4 := hid (HB3.out.trans (hb4.mono HB3.out.size))
      have V4 := hid (V3.out.below hb4)
      have X4 := hid (Own.to ho4)
      have l34 : w3.heap.size < w4.heap.size := (ho4.lt _ rfl).2
      clear hb4 ho4 V3
      go_wp2_with fail
      refine (f18 b d ys _ hby (HT.out.below HB4.out)).mono ?_
      rintro e w4' ⟨rfl, ho4, hb4⟩
      have HB4' := hid (HB4.out.trans (hb4.mono HB4.out.size))
      have V4' := hid (V4.out.below hb4)
      have X4' := hid (X4.out.below hb4)
      have Y4 := hid (Own.to ho4)
      have l44 : w4.heap.size < w4'.heap.size := (ho4.lt _ rfl).2
      clear hb4 ho4 V4 X4
      go_wp2_with fail
      refine (f13 _ _ _ _ xs ys gap _ hbig hby X4'.out.has.2 Y4.out.has.2 (Nat.le_refl _) (Nat.le_refl _) (by intro h; cases h) (by intro h; cases h)).mono ?_
      rintro e w5 ⟨g0, rfl, ho5, hb5⟩
      rw [HS.out] at ho5
      have HB5 := hid (HB4'.out.trans (hb5.mono HB4'.out.size))
      have V5 := hid (V4'.out.below hb5)
      have X5 := hid (X4'.out.below hb5)
      have Y5 := hid (Y4.out.below hb5)
      have G5 := hid ho5
      have BG : Hid (∀ k, g0.ownBlock = some k → w4'.heap.size ≤ k) := fun k hk => (G5.out.lt k hk).1
      clear hb5 ho5 V4' X4' Y4
      go_wp2_with fail
      refine (eqO (by omega) G5.out V5.out).mono ?_
      rintro e w6 ⟨rfl, hb6⟩
      have HB6 := hid (HB5.out.trans (hb6.mono HB5.out.size))
      have V6 := hid (V5.out.below hb6)
      have X6 := hid (X5.out.below hb6)
      have Y6 := hid (Y5.out.below hb6)
      have G6 := hid (G5.out.below hb6)
      clear hb6 V5 X5 Y5 G5
      -- the arguments stay
      go_wp2_with fail
      refine (f18 a c xs _ hbig (HR.out.below HB6.out)).mono ?_
      rintro e w7 ⟨rfl, ho7, hb7⟩
      have HB7 := hid (HB6.out.trans (hb7.mono HB6.out.size))
      have V7 := hid (V6.out.below hb7)
      have X7 := hid (X6.out.below hb7)
      have Y7 := hid (Y6.out.below hb7)
      have G7 := hid (G6.out.below hb7)
      have T7 := hid (Own.to ho7)
      clear hb7 ho7 V6 X6 Y6 G6
      go_wp2_with fail
      refine (eqO hbig X7.out T7.out).mono ?_
      rintro e w8 ⟨rfl, hb8⟩
      have HB8 := hid (HB7.out.trans (hb8.mono HB7.out.size))
      have V8 := hid (V7.out.below hb8)
      have X8 := hid (X7.out.below hb8)
      have Y8 := hid (Y7.out.below hb8)
      have G8 := hid (G7.out.below hb8)
      clear hb8 V7 X7 Y7 G7 T7
      go_wp2_with fail
      refine (f18 b d ys _ hby (HT.out.below HB8.out)).mono ?_
      rintro e w7 ⟨rfl, ho7, hb7⟩
      have HB7 := hid (HB8.out.trans (hb7.mono HB8.out.size))
      have V7 := hid (V8.out.below hb7)
      have X7 := hid (X8.out.below hb7)
      have Y7 := hid (Y8.out.below hb7)
      have G7 := hid (G8.out.below hb7)
      have T7 := hid (Own.to ho7)
      clear hb7 ho7 V8 X8 Y8 G8 HB8
      go_wp2_with fail
      refine (eqO hby Y7.out T7.out).mono ?_
      rintro e w8 ⟨rfl, hb8⟩
      have HB8 := hid (HB7.out.trans (hb8.mono HB7.out.size))
      have V8 := hid (V7.out.below hb8)
      have X8 := hid (X7.out.below hb8)
      have Y8 := hid (Y7.out.below hb8)
      have G8 := hid (G7.out.below hb8)
      clear hb8 V7 X7 Y7 G7 T7
      -- marks in the arguments
      go_wp2_with fail
      refine (markO 1 (by omega) X8.out).mono ?_
      rintro e w9 ⟨rfl, _, hg9⟩
      have hg9' : w8.grownBy w9 (some w3.heap.size) := hg9
      have HB9 := hid (below_grown HB8.out hg9' HB8.out.size HB3.out.size)
      have V9 := hid (V8.out.kept hg9' (fun k hk e => by cases e; have := BV.out _ hk; omega))
      have Y9 := hid (Y8.out.kept hg9' (fun k hk e => by cases e; simp [Value.ownBlock] at hk; omega))
      have G9 := hid (G8.out.kept hg9' (fun k hk e => by cases e; have := BG.out _ hk; omega))
      clear hg9 hg9' V8 X8 Y8 G8
      go_wp2_with fail
      refine (markO (1 + 2 * xs.length) (by omega) Y9.out).mono ?_
      rintro e w9' ⟨rfl, _, hg9⟩
      have hg9' : w9.grownBy w9' (some w4.heap.size) := hg9
      have HB9' := hid (below_grown HB9.out hg9' HB9.out.size HB4.out.size)
      have V9' := hid (V9.out.kept hg9' (fun k hk e => by cases e; have := BV.out _ hk; omega))
      have G9' := hid (G9.out.kept hg9' (fun k hk e => by cases e; have := BG.out _ hk; omega))
      clear hg9 hg9' V9 Y9 G9
      go_wp2_with fail
      refine (eqO (by omega) G9'.out V9'.out).mono ?_
      rintro e w10 ⟨rfl, hb10⟩
      have HB10 := hid (HB9'.out.trans (hb10.mono HB9'.out.size))
      have V10 := hid (V9'.out.below hb10)
      have G10 := hid (G9'.out.below hb10)
      clear hb10 V9' G9'
      -- marks in the answer
      go_wp2_with fail
      refine (markO 1 (by omega) G10.out).mono ?_
      rintro e w11 ⟨rfl, ho11, hg11⟩
      have HB11 := hid (HB10.out.grown hg11 HB10.out.size (fun k hk => Nat.le_trans HB4'.out.size (BG.out k hk)))
      have V11 := hid (V10.out.kept hg11 (fun k hk e => by have h1 := BG.out _ e; have h2 := BV.out _ hk; omega))
      have G11 := hid ho11
      clear ho11 hg11 V10 G10
      go_wp2_with fail
      refine (heldO 1 (by omega) G11.out).mono ?_
      rintro e w12 ⟨rfl, rfl⟩
      -- once more
      go_wp2_with fail
      refine (f18 a c xs _ hbig (HR.out.below HB11.out)).mono ?_
      rintro e w13 ⟨rfl, ho13, hb13⟩
      have HB13 := hid (HB11.out.trans (hb13.mono HB11.out.size))
      have V13 := hid (V11.out.below hb13)
      have G13 := hid (G11.out.below hb13)
      have T13 := hid (Own.to ho13).has.2
      clear hb13 ho13 V11 G11
      go_wp2_with fail
      refine (f18 b d ys _ hby (HT.out.below HB13.out)).mono ?_
      rintro e w13' ⟨rfl, ho13, hb13⟩
      have HB13' := hid (HB13.out.trans (hb13.mono HB13.out.size))
      have V13' := hid (V13.out.below hb13)
      have G13' := hid (G13.out.below hb13)
      have T13' := hid (T13.out.below hb13)
      have U13 := hid (Own.to ho13).has.2
      clear hb13 ho13 V13 G13 T13
      go_wp2_with fail
      refine (f13 _ _ _ _ xs ys gap _ hbig hby T13'.out U13.out (Nat.le_refl _) (Nat.le_refl _) (by intro h; cases h) (by intro h; cases h)).mono ?_
      rintro e w14 ⟨h0, rfl, ho14, hb14⟩
      rw [HS.out] at ho14
      have HB14 := hid (HB13'.out.trans (hb14.mono HB13'.out.size))
      have V14 := hid (V13'.out.below hb14)
      have G14 := hid (G13'.out.below hb14)
      have H14 := hid ho14
      clear hb14 ho14 V13' G13'
      go_wp2_with fail
      refine (eqO (by omega) H14.out V14.out).mono ?_
      rintro e w15 ⟨rfl, hb15⟩
      have HB15 := hid (HB14.out.trans (hb15.mono HB14.out.size))
      have G15 := hid (G14.out.below hb15)
      clear hb15 H14 V14 G14
      go_wp2_with fail
      refine (heldO 1 (by omega) G15.out).mono ?_
      rintro e w16 ⟨rfl, rfl⟩
      go_wp2
      go_ret
      exact ⟨rfl, HB15.out⟩
    · have hif2 : (if (1048576 : Int) - (xs.length : Int) < (ys.length : Int) then (-1 : Int) else 1048576 - (xs.length : Int) - (ys.length : Int)) = -1 := if_pos (by omega)
      go_enter Try.func5, Try.ntmps5
      go_wp2_with fail
      refine (f16 a xs.length c 1048576 _ HM.out (by omega) (by omega)).mono ?_
      rw [hif]
      rintro e w1 ⟨rfl, rfl⟩
      go_wp2_with fail
      refine (f16 b ys.length d (1048576 - (xs.length : Int)) _ HMY.out (by omega) (by omega)).mono ?_
      rw [hif2]
      rintro e w1 ⟨rfl, rfl⟩
      go_wp2
      go_ret
      exact ⟨rfl, Below.refl _ _⟩
  · have hif : (if (1048576 : Int) < (xs.length : Int) then (-1 : Int) else 1048576 - (xs.length : Int)) = -1 := if_pos (by omega)
    go_enter Try.func5, Try.ntmps5
    go_wp2_with fail
    refine (f16 a xs.length c 1048576 _ HM.out (by omega) (by omega)).mono ?_
    rw [hif]
    rintro e w1 ⟨rfl, rfl⟩
    go_wp2
    go_ret
    exact ⟨rfl, Below.refl _ _⟩
end Go.Proofs.Ytfmijboakipooaa.Smp
