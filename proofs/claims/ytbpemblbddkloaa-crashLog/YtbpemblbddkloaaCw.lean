/- The walk of FnExactCrashLog. -/
import Derived.Test.YtbpemblbddkloaaCk
namespace Go.Proofs.Ytbpemblbddkloaa.Byt
open Go.RowKit

set_option maxHeartbeats 4000000 in
theorem walkCrash (a : Option Addr) (c : Nat) (ls : List Int) (x : Int) (w : World) (hr : Has w a ls) :
    Calls Try.prog 3 #[.slice a ls.length c, .int .i64 x] w fun e w' => e = .returned (.bool true) ∧ Below w.heap.size w w' := by
  have HR := hid hr
  clear hr
  by_cases hbig : ls.length ≤ 1048576
  · have hb' : ls.length ≤ 140737488351232 := by omega
    have hsl := Nat.le_trans (crash_len ls x) hbig
    obtain ⟨n, hn⟩ : ∃ n, n = ls.length := ⟨_, rfl⟩
    have HN : Hid (ls.length = n) := hn.symm
    rw [← hn] at hbig hb' ⊢
    clear hn
    generalize hsel : crash ls x = sel at *
    have HS := hid hsel
    clear hsel
    have hM : ∀ b c w, n ≤ c → Has w (some ⟨b, 0, none⟩) ls → Calls Try.prog 4 #[.slice (some ⟨b, 0, none⟩) n c, .int .i64 x] w fun e w' => ∃ v, e = .returned v ∧ Own w' w.heap.size v sel ∧ Below w.heap.size w w' := by
      intro b c w h1 h2
      have := f4 b c ls x w (by rw [HN.out]; exact hbig) (by rw [HN.out]; exact h1) h2
      rw [HN.out, HS.out] at this
      exact this
    have hP : ∀ b c w, n ≤ c → Has w (some ⟨b, 0, none⟩) ls → Calls Try.prog 6 #[.slice (some ⟨b, 0, none⟩) n c, .int .i64 x] w fun e w' => ∃ v, e = .returned v ∧ Own w' w.heap.size v sel ∧ Below w.heap.size w w' := by
      intro b c w h1 h2
      have := f6 b c ls x w (by rw [HN.out]; exact hbig) (by rw [HN.out]; exact h1) h2
      rw [HN.out, HS.out] at this
      exact this
    have HM := hid hM
    have HP := hid hP
    clear hM hP
    have hq : (((1 : Int) + (sel.length : Int)) != (1 : Int) + (sel.length : Int)) = false := by simp
    go_enter Try.func3, Try.ntmps3
    -- the model
    go_wp2_with fail
    refine (f5 a n c ls _ HN.out hb' HR.out).mono ?_
    rintro e w2 ⟨rfl, ho2, hb2⟩
    have HB2 := hid hb2
    have A2 := hid (Has.own ho2)
    clear hb2 ho2
    go_wp2_with fail
    refine (HM.out _ _ _ (Nat.le_refl _) A2.out).mono ?_
    rintro e w3 ⟨v0, rfl, ho3, hb3⟩
    have HB3 := hid (HB2.out.trans (hb3.mono HB2.out.size))
    have V3 := hid ho3
    have BV : Hid (∀ k, v0.ownBlock = some k → k < w3.heap.size) := fun k hk => (V3.out.lt k hk).2
    clear hb3 ho3 A2
    -- the program
    go_wp2_with fail
    refine (f5 a n c ls _ HN.out hb' (HR.out.below HB3.out)).mono ?_
    rintro e w4 ⟨rfl, ho4, hb4⟩
    have HB4 := hid (HB3.out.trans (hb4.mono HB3.out.size))
    have V4 := hid (V3.out.below hb4)
    have X4 := hid (Own.to HN.out ho4)
    clear hb4 ho4 V3
    go_wp2_with fail
    refine (HP.out _ _ _ (Nat.le_refl _) X4.out.has.2).mono ?_
    rintro e w5 ⟨g0, rfl, ho5, hb5⟩
    have HB5 := hid (HB4.out.trans (hb5.mono HB4.out.size))
    have V5 := hid (V4.out.below hb5)
    have X5 := hid (X4.out.below hb5)
    have G5 := hid ho5
    have BG : Hid (∀ k, g0.ownBlock = some k → w4.heap.size ≤ k) := fun k hk => (G5.out.lt k hk).1
    have l34 : Hid (w3.heap.size < w4.heap.size) := (X4.out.lt _ rfl).2
    clear hb5 ho5 V4 X4
    go_wp2_with fail
    refine (eqO hsl G5.out V5.out).mono ?_
    rintro e w6 ⟨rfl, q6, hq6⟩
    have hb6 : Below w5.heap.size w5 w6 := by rw [hq6]; exact below_drewN (Below.refl _ _) _
    have HB6 := hid (HB5.out.trans (hb6.mono HB5.out.size))
    have V6 := hid (V5.out.below hb6)
    have X6 := hid (X5.out.below hb6)
    have G6 := hid (G5.out.below hb6)
    clear hb6 V5 X5 G5 hq6
    -- the argument stays
    go_wp2_with fail
    refine (f5 a n c ls _ HN.out hb' (HR.out.below HB6.out)).mono ?_
    rintro e w7 ⟨rfl, ho7, hb7⟩
    have HB7 := hid (HB6.out.trans (hb7.mono HB6.out.size))
    have V7 := hid (V6.out.below hb7)
    have X7 := hid (X6.out.below hb7)
    have G7 := hid (G6.out.below hb7)
    have T7 := hid (Own.to HN.out ho7)
    clear hb7 ho7 V6 X6 G6
    go_wp2_with fail
    refine (eqO (by rw [HN.out]; exact hbig) X7.out T7.out).mono ?_
    rintro e w8 ⟨rfl, q8, hq8⟩
    have hb8 : Below w7.heap.size w7 w8 := by rw [hq8]; exact below_drewN (Below.refl _ _) _
    have HB8 := hid (HB7.out.trans (hb8.mono HB7.out.size))
    have V8 := hid (V7.out.below hb8)
    have X8 := hid (X7.out.below hb8)
    have G8 := hid (G7.out.below hb8)
    clear hb8 V7 X7 G7 T7 hq8
    -- marks in the argument
    go_wp2_with fail
    refine (markO 1 (by decide) (by decide) (by rw [HN.out]; exact hbig) X8.out).mono ?_
    rw [HN.out]
    rintro e w9 ⟨rfl, _, hg9⟩
    have hg9' : w8.grownBy w9 (some w3.heap.size) := hg9
    have HB9 := hid (below_grown HB8.out hg9' HB8.out.size HB3.out.size)
    have V9 := hid (V8.out.kept hg9' (fun k hk e => by cases e; have := BV.out _ hk; omega))
    have G9 := hid (G8.out.kept hg9' (fun k hk e => by cases e; have := BG.out _ hk; have := l34.out; omega))
    clear hg9 hg9' V8 X8 G8
    go_wp2_with fail
    refine (eqO hsl G9.out V9.out).mono ?_
    rintro e w10 ⟨rfl, q10, hq10⟩
    have hb10 : Below w9.heap.size w9 w10 := by rw [hq10]; exact below_drewN (Below.refl _ _) _
    have HB10 := hid (HB9.out.trans (hb10.mono HB9.out.size))
    have V10 := hid (V9.out.below hb10)
    have G10 := hid (G9.out.below hb10)
    clear hb10 V9 G9 hq10
    -- marks in the answer
    go_wp2_with fail
    refine (markO 1 (by decide) (by decide) hsl G10.out).mono ?_
    rintro e w11 ⟨rfl, ho11, hg11⟩
    have HB11 := hid (HB10.out.grown hg11 HB10.out.size (fun k hk => Nat.le_trans HB4.out.size (BG.out k hk)))
    have V11 := hid (V10.out.kept hg11 (fun k hk e => by have h1 := BG.out _ e; have h2 := BV.out _ hk; have := l34.out; omega))
    have G11 := hid ho11
    clear ho11 hg11 V10 G10
    go_wp2_with fail
    refine (heldO 1 (by decide) (by decide) hsl G11.out).mono ?_
    rintro e w12 ⟨rfl, q12, hq12⟩
    have hb12 : Below w11.heap.size w11 w12 := by rw [hq12]; exact below_drewN (Below.refl _ _) _
    have HB12 := hid (HB11.out.trans (hb12.mono HB11.out.size))
    have V12 := hid (V11.out.below hb12)
    have G12 := hid (G11.out.below hb12)
    clear hb12 hq12 V11 G11
    -- once more
    go_wp2_with fail
    refine (f5 a n c ls _ HN.out hb' (HR.out.below HB12.out)).mono ?_
    rintro e w13 ⟨rfl, ho13, hb13⟩
    have HB13 := hid (HB12.out.trans (hb13.mono HB12.out.size))
    have V13 := hid (V12.out.below hb13)
    have G13 := hid (G12.out.below hb13)
    have T13 := hid (Has.own ho13)
    clear hb13 ho13 V12 G12
    go_wp2_with fail
    refine (HP.out _ _ _ (Nat.le_refl _) T13.out).mono ?_
    rintro e w14 ⟨h0, rfl, ho14, hb14⟩
    have HB14 := hid (HB13.out.trans (hb14.mono HB13.out.size))
    have V14 := hid (V13.out.below hb14)
    have G14 := hid (G13.out.below hb14)
    have H14 := hid ho14
    clear hb14 ho14 V13 G13
    go_wp2_with fail
    refine (eqO hsl H14.out V14.out).mono ?_
    rintro e w15 ⟨rfl, q15, hq15⟩
    have hb15 : Below w14.heap.size w14 w15 := by rw [hq15]; exact below_drewN (Below.refl _ _) _
    have HB15 := hid (HB14.out.trans (hb15.mono HB14.out.size))
    have G15 := hid (G14.out.below hb15)
    clear hb15 H14 V14 G14 hq15
    go_wp2_with fail
    refine (heldO 1 (by decide) (by decide) hsl G15.out).mono ?_
    rintro e w16 ⟨rfl, q16, rfl⟩
    go_wp2
    go_ret
    exact ⟨rfl, below_drewN HB15.out _⟩
  · generalize ls.length = n at *
    go_enter Try.func3, Try.ntmps3
    go_wp2
    go_ret
    exact ⟨rfl, Below.refl _ _⟩
end Go.Proofs.Ytbpemblbddkloaa.Byt
