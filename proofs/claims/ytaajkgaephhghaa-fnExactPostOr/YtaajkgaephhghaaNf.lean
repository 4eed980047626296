/- The walks of FnExactPostAnd, FnExactPostOr, FnExactPostMinus. -/
import Derived.Test.YtaajkgaephhghaaNe
namespace Go.Proofs.Ytaajkgaephhghaa.Ino
open Go.RowKit

set_option maxHeartbeats 4000000 in
theorem walkPostAnd (a a' : Option Addr) (c c' : Nat) (s o : List Int) (w : World) (hr : Has w a s) (hr' : Has w a' o) :
    Calls Try.prog 3 #[.slice a s.length c, .slice a' o.length c'] w fun e w' => e = .returned (.bool true) ∧ Below w.heap.size w w' := by
  have HR := hid hr
  have HR' := hid hr'
  clear hr hr'
  by_cases hbig : s.length ≤ 1048576
  rotate_left
  · generalize s.length = n at *
    generalize o.length = n' at *
    go_enter Try.func3, Try.ntmps3
    go_wp2
    go_ret
    exact ⟨rfl, Below.refl _ _⟩
  by_cases hbig' : o.length ≤ 1048576
  rotate_left
  · generalize s.length = n at *
    generalize o.length = n' at *
    go_enter Try.func3, Try.ntmps3
    go_wp2
    go_ret
    exact ⟨rfl, Below.refl _ _⟩
  have hsl : (put kAnd s o).length ≤ 1048576 := Nat.le_trans (put_len kAnd s o) (by decide)
  obtain ⟨n, hn⟩ : ∃ n, n = s.length := ⟨_, rfl⟩
  have HN : Hid (s.length = n) := hn.symm
  rw [← hn] at hbig ⊢
  clear hn
  obtain ⟨n', hn⟩ : ∃ n, n = o.length := ⟨_, rfl⟩
  have HN' : Hid (o.length = n') := hn.symm
  rw [← hn] at hbig' ⊢
  clear hn
  generalize hsel : put kAnd s o = sel at *
  have HS := hid hsel
  clear hsel
  have HM : Hid (∀ b c b' c' w, Has w b s → Has w b' o → Calls Try.prog 6 #[.slice b n c, .slice b' n' c'] w fun e w' => ∃ v, e = .returned v ∧ Own w' w.heap.size v sel ∧ Below w.heap.size w w') := by
    intro b c b' c' w h1 h2
    have := f6 b b' c c' s o w (by rw [HN.out]; exact hbig) (by rw [HN'.out]; exact hbig') h1 h2
    rw [HN.out, HN'.out, HS.out] at this
    exact this
  have HP : Hid (∀ b c b' c' w, n ≤ c → n' ≤ c' → Has w b s → Has w b' o → Calls Try.prog 8 #[.slice b n c, .slice b' n' c'] w fun e w' => ∃ v, e = .returned v ∧ Own w' w.heap.size v sel ∧ Below w.heap.size w w') := by
    intro b c b' c' w h1 h2 h3 h4
    have := f8 b b' c c' s o w (by rw [HN.out]; exact hbig) (by rw [HN'.out]; exact hbig') (by rw [HN.out]; exact h1) (by rw [HN'.out]; exact h2) h3 h4
    rw [HN.out, HN'.out, HS.out] at this
    exact this
  have hq : (((1 : Int) + (sel.length : Int)) != (1 : Int) + (sel.length : Int)) = false := by simp
  go_enter Try.func3, Try.ntmps3
  -- the model
  go_wp2_with fail
  refine (f7 a n c s _ HN.out hbig HR.out).mono ?_
  rintro e w1 ⟨rfl, ho1, hb1⟩
  have HB1 := hid hb1
  have A1 := hid (Has.own ho1)
  clear hb1 ho1
  go_wp2_with fail
  refine (f7 a' n' c' o _ HN'.out hbig' (HR'.out.below HB1.out)).mono ?_
  rintro e w2 ⟨rfl, ho2, hb2⟩
  have HB2 := hid (HB1.out.trans (hb2.mono HB1.out.size))
  have A2 := hid (A1.out.below hb2)
  have B2 := hid (Has.own ho2)
  clear hb2 ho2 A1
  go_wp2_with fail
  refine (HM.out _ _ _ _ _ A2.out B2.out).mono ?_
  rintro e w3 ⟨v0, rfl, ho3, hb3⟩
  have HB3 := hid (HB2.out.trans (hb3.mono HB2.out.size))
  have V3 := hid ho3
  have BV : Hid (∀ k, v0.ownBlock = some k → k < w3.heap.size) := fun k hk => (V3.out.lt k hk).2
  clear hb3 ho3 A2 B2
  -- the program
  go_wp2_with fail
  refine (f7 a n c s _ HN.out hbig (HR.out.below HB3.out)).mono ?_
  rintro e w4 ⟨rfl, ho4, hb4⟩
  have HB4 := hid (HB3.out.trans (hb4.mono HB3.out.size))
  have V4 := hid (V3.out.below hb4)
  have X4 := hid (Own.to HN.out ho4)
  have l34 : Hid (w3.heap.size < w4.heap.size) := (X4.out.lt _ rfl).2
  clear hb4 ho4 V3
  go_wp2_with fail
  refine (f7 a' n' c' o _ HN'.out hbig' (HR'.out.below HB4.out)).mono ?_
  rintro e w5 ⟨rfl, ho5, hb5⟩
  have HB5 := hid (HB4.out.trans (hb5.mono HB4.out.size))
  have V5 := hid (V4.out.below hb5)
  have X5 := hid (X4.out.below hb5)
  have Y5 := hid (Own.to HN'.out ho5)
  have l45 : Hid (w4.heap.size < w5.heap.size) := (Y5.out.lt _ rfl).2
  clear hb5 ho5 V4 X4
  go_wp2_with fail
  refine (HP.out _ _ _ _ _ (Nat.le_refl _) (Nat.le_refl _) X5.out.has.2 Y5.out.has.2).mono ?_
  rintro e w6 ⟨g0, rfl, ho6, hb6⟩
  have HB6 := hid (HB5.out.trans (hb6.mono HB5.out.size))
  have V6 := hid (V5.out.below hb6)
  have X6 := hid (X5.out.below hb6)
  have Y6 := hid (Y5.out.below hb6)
  have G6 := hid ho6
  have BG : Hid (∀ k, g0.ownBlock = some k → w5.heap.size ≤ k) := fun k hk => (G6.out.lt k hk).1
  clear hb6 ho6 V5 X5 Y5
  go_wp2_with fail
  refine (eqO hsl G6.out V6.out).mono ?_
  rintro e w7 ⟨rfl, q7, hq7⟩
  have hb7 : Below w6.heap.size w6 w7 := by rw [hq7]; exact below_drewN (Below.refl _ _) _
  have HB7 := hid (HB6.out.trans (hb7.mono HB6.out.size))
  have V7 := hid (V6.out.below hb7)
  have X7 := hid (X6.out.below hb7)
  have Y7 := hid (Y6.out.below hb7)
  have G7 := hid (G6.out.below hb7)
  clear hb7 V6 X6 Y6 G6 hq7
  -- the arguments stay
  go_wp2_with fail
  refine (f7 a n c s _ HN.out hbig (HR.out.below HB7.out)).mono ?_
  rintro e w8 ⟨rfl, ho8, hb8⟩
  have HB8 := hid (HB7.out.trans (hb8.mono HB7.out.size))
  have V8 := hid (V7.out.below hb8)
  have X8 := hid (X7.out.below hb8)
  have Y8 := hid (Y7.out.below hb8)
  have G8 := hid (G7.out.below hb8)
  have T8 := hid (Own.to HN.out ho8)
  clear hb8 ho8 V7 X7 Y7 G7
  go_wp2_with fail
  refine (eqO (by rw [HN.out]; exact hbig) X8.out T8.out).mono ?_
  rintro e w9 ⟨rfl, q9, hq9⟩
  have hb9 : Below w8.heap.size w8 w9 := by rw [hq9]; exact below_drewN (Below.refl _ _) _
  have HB9 := hid (HB8.out.trans (hb9.mono HB8.out.size))
  have V9 := hid (V8.out.below hb9)
  have X9 := hid (X8.out.below hb9)
  have Y9 := hid (Y8.out.below hb9)
  have G9 := hid (G8.out.below hb9)
  clear hb9 V8 X8 Y8 G8 T8 hq9
  go_wp2_with fail
  refine (f7 a' n' c' o _ HN'.out hbig' (HR'.out.below HB9.out)).mono ?_
  rintro e w10 ⟨rfl, ho10, hb10⟩
  have HB10 := hid (HB9.out.trans (hb10.mono HB9.out.size))
  have V10 := hid (V9.out.below hb10)
  have X10 := hid (X9.out.below hb10)
  have Y10 := hid (Y9.out.below hb10)
  have G10 := hid (G9.out.below hb10)
  have T10 := hid (Own.to HN'.out ho10)
  clear hb10 ho10 V9 X9 Y9 G9
  go_wp2_with fail
  refine (eqO (by rw [HN'.out]; exact hbig') Y10.out T10.out).mono ?_
  rintro e w11 ⟨rfl, q11, hq11⟩
  have hb11 : Below w10.heap.size w10 w11 := by rw [hq11]; exact below_drewN (Below.refl _ _) _
  have HB11 := hid (HB10.out.trans (hb11.mono HB10.out.size))
  have V11 := hid (V10.out.below hb11)
  have X11 := hid (X10.out.below hb11)
  have Y11 := hid (Y10.out.below hb11)
  have G11 := hid (G10.out.below hb11)
  clear hb11 V10 X10 Y10 G10 T10 hq11
  -- marks in the arguments
  go_wp2_with fail
  refine (markO 1 (by decide) (by decide) (by rw [HN.out]; exact hbig) X11.out).mono ?_
  rw [HN.out]
  rintro e w12 ⟨rfl, _, hg12⟩
  have hg12' : w11.grownBy w12 (some w3.heap.size) := hg12
  have HB12 := hid (below_grown HB11.out hg12' HB11.out.size HB3.out.size)
  have V12 := hid (V11.out.kept hg12' (fun k hk e => by cases e; have := BV.out _ hk; omega))
  have Y12 := hid (Y11.out.kept hg12' (fun k hk e => by simp only [Value.ownBlock, Option.some.injEq] at hk; cases e; have := l34.out; omega))
  have G12 := hid (G11.out.kept hg12' (fun k hk e => by cases e; have := BG.out _ hk; have := l34.out; have := l45.out; omega))
  clear hg12 hg12' V11 X11 Y11 G11
  go_wp2_with fail
  refine (markO (1 + (n : Int)) (by omega) (by omega) (by rw [HN'.out]; exact hbig') Y12.out).mono ?_
  rw [HN'.out]
  rintro e w13 ⟨rfl, _, hg13⟩
  have hg13' : w12.grownBy w13 (some w4.heap.size) := hg13
  have HB13 := hid (below_grown HB12.out hg13' HB12.out.size HB4.out.size)
  have V13 := hid (V12.out.kept hg13' (fun k hk e => by cases e; have := BV.out _ hk; have := l34.out; omega))
  have G13 := hid (G12.out.kept hg13' (fun k hk e => by cases e; have := BG.out _ hk; have := l45.out; omega))
  clear hg13 hg13' V12 Y12 G12
  go_wp2_with fail
  refine (eqO hsl G13.out V13.out).mono ?_
  rintro e w14 ⟨rfl, q14, hq14⟩
  have hb14 : Below w13.heap.size w13 w14 := by rw [hq14]; exact below_drewN (Below.refl _ _) _
  have HB14 := hid (HB13.out.trans (hb14.mono HB13.out.size))
  have V14 := hid (V13.out.below hb14)
  have G14 := hid (G13.out.below hb14)
  clear hb14 V13 G13 hq14
  -- marks in the answer
  go_wp2_with fail
  refine (markO 1 (by decide) (by decide) hsl G14.out).mono ?_
  rintro e w15 ⟨rfl, ho15, hg15⟩
  have HB15 := hid (HB14.out.grown hg15 HB14.out.size (fun k hk => Nat.le_trans HB5.out.size (BG.out k hk)))
  have V15 := hid (V14.out.kept hg15 (fun k hk e => by have h1 := BG.out _ e; have h2 := BV.out _ hk; have := l34.out; have := l45.out; omega))
  have G15 := hid ho15
  clear ho15 hg15 V14 G14
  go_wp2_with fail
  refine (heldO 1 (by decide) (by decide) hsl G15.out).mono ?_
  rintro e w16 ⟨rfl, q16, hq16⟩
  have hb16 : Below w15.heap.size w15 w16 := by rw [hq16]; exact below_drewN (Below.refl _ _) _
  have HB16 := hid (HB15.out.trans (hb16.mono HB15.out.size))
  have V16 := hid (V15.out.below hb16)
  have G16 := hid (G15.out.below hb16)
  clear hb16 hq16 V15 G15
  -- once more
  go_wp2_with fail
  refine (f7 a n c s _ HN.out hbig (HR.out.below HB16.out)).mono ?_
  rintro e w17 ⟨rfl, ho17, hb17⟩
  have HB17 := hid (HB16.out.trans (hb17.mono HB16.out.size))
  have V17 := hid (V16.out.below hb17)
  have G17 := hid (G16.out.below hb17)
  have A17 := hid (Has.own ho17)
  clear hb17 ho17 V16 G16
  go_wp2_with fail
  refine (f7 a' n' c' o _ HN'.out hbig' (HR'.out.below HB17.out)).mono ?_
  rintro e w18 ⟨rfl, ho18, hb18⟩
  have HB18 := hid (HB17.out.trans (hb18.mono HB17.out.size))
  have V18 := hid (V17.out.below hb18)
  have G18 := hid (G17.out.below hb18)
  have A18 := hid (A17.out.below hb18)
  have B18 := hid (Has.own ho18)
  clear hb18 ho18 V17 G17 A17
  go_wp2_with fail
  refine (HP.out _ _ _ _ _ (Nat.le_refl _) (Nat.le_refl _) A18.out B18.out).mono ?_
  rintro e w19 ⟨h0, rfl, ho19, hb19⟩
  have HB19 := hid (HB18.out.trans (hb19.mono HB18.out.size))
  have V19 := hid (V18.out.below hb19)
  have G19 := hid (G18.out.below hb19)
  have H19 := hid ho19
  clear hb19 ho19 V18 G18
  go_wp2_with fail
  refine (eqO hsl H19.out V19.out).mono ?_
  rintro e w20 ⟨rfl, q20, hq20⟩
  have hb20 : Below w19.heap.size w19 w20 := by rw [hq20]; exact below_drewN (Below.refl _ _) _
  have HB20 := hid (HB19.out.trans (hb20.mono HB19.out.size))
  have G20 := hid (G19.out.below hb20)
  clear hb20 H19 V19 G19 hq20
  go_wp2_with fail
  refine (heldO 1 (by decide) (by decide) hsl G20.out).mono ?_
  rintro e w21 ⟨rfl, q21, rfl⟩
  go_wp2
  go_ret
  exact ⟨rfl, below_drewN HB20.out _⟩

set_option maxHeartbeats 4000000 in
theorem walkPostOr (a a' : Option Addr) (c c' : Nat) (s o : List Int) (w : World) (hr : Has w a s) (hr' : Has w a' o) :
    Calls Try.prog 4 #[.slice a s.length c, .slice a' o.length c'] w fun e w' => e = .returned (.bool true) ∧ Below w.heap.size w w' := by
  have HR := hid hr
  have HR' := hid hr'
  clear hr hr'
  by_cases hbig : s.length ≤ 1048576
  rotate_left
  · generalize s.length = n at *
    generalize o.length = n' at *
    go_enter Try.func4, Try.ntmps4
    go_wp2
    go_ret
    exact ⟨rfl, Below.refl _ _⟩
  by_cases hbig' : o.length ≤ 1048576
  rotate_left
  · generalize s.length = n at *
    generalize o.length = n' at *
    go_enter Try.func4, Try.ntmps4
    go_wp2
    go_ret
    exact ⟨rfl, Below.refl _ _⟩
  have hsl : (put kOr s o).length ≤ 1048576 := Nat.le_trans (put_len kOr s o) (by decide)
  obtain ⟨n, hn⟩ : ∃ n, n = s.length := ⟨_, rfl⟩
  have HN : Hid (s.length = n) := hn.symm
  rw [← hn] at hbig ⊢
  clear hn
  obtain ⟨n', hn⟩ : ∃ n, n = o.length := ⟨_, rfl⟩
  have HN' : Hid (o.length = n') := hn.symm
  rw [← hn] at hbig' ⊢
  clear hn
  generalize hsel : put kOr s o = sel at *
  have HS := hid hsel
  clear hsel
  have HM : Hid (∀ b c b' c' w, Has w b s → Has w b' o → Calls Try.prog 12 #[.slice b n c, .slice b' n' c'] w fun e w' => ∃ v, e = .returned v ∧ Own w' w.heap.size v sel ∧ Below w.heap.size w w') := by
    intro b c b' c' w h1 h2
    have := f12 b b' c c' s o w (by rw [HN.out]; exact hbig) (by rw [HN'.out]; exact hbig') h1 h2
    rw [HN.out, HN'.out, HS.out] at this
    exact this
  have HP : Hid (∀ b c b' c' w, n ≤ c → n' ≤ c' → Has w b s → Has w b' o → Calls Try.prog 13 #[.slice b n c, .slice b' n' c'] w fun e w' => ∃ v, e = .returned v ∧ Own w' w.heap.size v sel ∧ Below w.heap.size w w') := by
    intro b c b' c' w h1 h2 h3 h4
    have := f13 b b' c c' s o w (by rw [HN.out]; exact hbig) (by rw [HN'.out]; exact hbig') (by rw [HN.out]; exact h1) (by rw [HN'.out]; exact h2) h3 h4
    rw [HN.out, HN'.out, HS.out] at this
    exact this
  have hq : (((1 : Int) + (sel.length : Int)) != (1 : Int) + (sel.length : Int)) = false := by simp
  go_enter Try.func4, Try.ntmps4
  -- the model
  go_wp2_with fail
  refine (f7 a n c s _ HN.out hbig HR.out).mono ?_
  rintro e w1 ⟨rfl, ho1, hb1⟩
  have HB1 := hid hb1
  have A1 := hid (Has.own ho1)
  clear hb1 ho1
  go_wp2_with fail
  refine (f7 a' n' c' o _ HN'.out hbig' (HR'.out.below HB1.out)).mono ?_
  rintro e w2 ⟨rfl, ho2, hb2⟩
  have HB2 := hid (HB1.out.trans (hb2.mono HB1.out.size))
  have A2 := hid (A1.out.below hb2)
  have B2 := hid (Has.own ho2)
  clear hb2 ho2 A1
  go_wp2_with fail
  refine (HM.out _ _ _ _ _ A2.out B2.out).mono ?_
  rintro e w3 ⟨v0, rfl, ho3, hb3⟩
  have HB3 := hid (HB2.out.trans (hb3.mono HB2.out.size))
  have V3 := hid ho3
  have BV : Hid (∀ k, v0.ownBlock = some k → k < w3.heap.size) := fun k hk => (V3.out.lt k hk).2
  clear hb3 ho3 A2 B2
  -- the program
  go_wp2_with fail
  refine (f7 a n c s _ HN.out hbig (HR.out.below HB3.out)).mono ?_
  rintro e w4 ⟨rfl, ho4, hb4⟩
  have HB4 := hid (HB3.out.trans (hb4.mono HB3.out.size))
  have V4 := hid (V3.out.below hb4)
  have X4 := hid (Own.to HN.out ho4)
  have l34 : Hid (w3.heap.size < w4.heap.size) := (X4.out.lt _ rfl).2
  clear hb4 ho4 V3
  go_wp2_with fail
  refine (f7 a' n' c' o _ HN'.out hbig' (HR'.out.below HB4.out)).mono ?_
  rintro e w5 ⟨rfl, ho5, hb5⟩
  have HB5 := hid (HB4.out.trans (hb5.mono HB4.out.size))
  have V5 := hid (V4.out.below hb5)
  have X5 := hid (X4.out.below hb5)
  have Y5 := hid (Own.to HN'.out ho5)
  have l45 : Hid (w4.heap.size < w5.heap.size) := (Y5.out.lt _ rfl).2
  clear hb5 ho5 V4 X4
  go_wp2_with fail
  refine (HP.out _ _ _ _ _ (Nat.le_refl _) (Nat.le_refl _) X5.out.has.2 Y5.out.has.2).mono ?_
  rintro e w6 ⟨g0, rfl, ho6, hb6⟩
  have HB6 := hid (HB5.out.trans (hb6.mono HB5.out.size))
  have V6 := hid (V5.out.below hb6)
  have X6 := hid (X5.out.below hb6)
  have Y6 := hid (Y5.out.below hb6)
  have G6 := hid ho6
  have BG : Hid (∀ k, g0.ownBlock = some k → w5.heap.size ≤ k) := fun k hk => (G6.out.lt k hk).1
  clear hb6 ho6 V5 X5 Y5
  go_wp2_with fail
  refine (eqO hsl G6.out V6.out).mono ?_
  rintro e w7 ⟨rfl, q7, hq7⟩
  have hb7 : Below w6.heap.size w6 w7 := by rw [hq7]; exact below_drewN (Below.refl _ _) _
  have HB7 := hid (HB6.out.trans (hb7.mono HB6.out.size))
  have V7 := hid (V6.out.below hb7)
  have X7 := hid (X6.out.below hb7)
  have Y7 := hid (Y6.out.below hb7)
  have G7 := hid (G6.out.below hb7)
  clear hb7 V6 X6 Y6 G6 hq7
  -- the arguments stay
  go_wp2_with fail
  refine (f7 a n c s _ HN.out hbig (HR.out.below HB7.out)).mono ?_
  rintro e w8 ⟨rfl, ho8, hb8⟩
  have HB8 := hid (HB7.out.trans (hb8.mono HB7.out.size))
  have V8 := hid (V7.out.below hb8)
  have X8 := hid (X7.out.below hb8)
  have Y8 := hid (Y7.out.below hb8)
  have G8 := hid (G7.out.below hb8)
  have T8 := hid (Own.to HN.out ho8)
  clear hb8 ho8 V7 X7 Y7 G7
  go_wp2_with fail
  refine (eqO (by rw [HN.out]; exact hbig) X8.out T8.out).mono ?_
  rintro e w9 ⟨rfl, q9, hq9⟩
  have hb9 : Below w8.heap.size w8 w9 := by rw [hq9]; exact below_drewN (Below.refl _ _) _
  have HB9 := hid (HB8.out.trans (hb9.mono HB8.out.size))
  have V9 := hid (V8.out.below hb9)
  have X9 := hid (X8.out.below hb9)
  have Y9 := hid (Y8.out.below hb9)
  have G9 := hid (G8.out.below hb9)
  clear hb9 V8 X8 Y8 G8 T8 hq9
  go_wp2_with fail
  refine (f7 a' n' c' o _ HN'.out hbig' (HR'.out.below HB9.out)).mono ?_
  rintro e w10 ⟨rfl, ho10, hb10⟩
  have HB10 := hid (HB9.out.trans (hb10.mono HB9.out.size))
  have V10 := hid (V9.out.below hb10)
  have X10 := hid (X9.out.below hb10)
  have Y10 := hid (Y9.out.below hb10)
  have G10 := hid (G9.out.below hb10)
  have T10 := hid (Own.to HN'.out ho10)
  clear hb10 ho10 V9 X9 Y9 G9
  go_wp2_with fail
  refine (eqO (by rw [HN'.out]; exact hbig') Y10.out T10.out).mono ?_
  rintro e w11 ⟨rfl, q11, hq11⟩
  have hb11 : Below w10.heap.size w10 w11 := by rw [hq11]; exact below_drewN (Below.refl _ _) _
  have HB11 := hid (HB10.out.trans (hb11.mono HB10.out.size))
  have V11 := hid (V10.out.below hb11)
  have X11 := hid (X10.out.below hb11)
  have Y11 := hid (Y10.out.below hb11)
  have G11 := hid (G10.out.below hb11)
  clear hb11 V10 X10 Y10 G10 T10 hq11
  -- marks in the arguments
  go_wp2_with fail
  refine (markO 1 (by decide) (by decide) (by rw [HN.out]; exact hbig) X11.out).mono ?_
  rw [HN.out]
  rintro e w12 ⟨rfl, _, hg12⟩
  have hg12' : w11.grownBy w12 (some w3.heap.size) := hg12
  have HB12 := hid (below_grown HB11.out hg12' HB11.out.size HB3.out.size)
  have V12 := hid (V11.out.kept hg12' (fun k hk e => by cases e; have := BV.out _ hk; omega))
  have Y12 := hid (Y11.out.kept hg12' (fun k hk e => by simp only [Value.ownBlock, Option.some.injEq] at hk; cases e; have := l34.out; omega))
  have G12 := hid (G11.out.kept hg12' (fun k hk e => by cases e; have := BG.out _ hk; have := l34.out; have := l45.out; omega))
  clear hg12 hg12' V11 X11 Y11 G11
  go_wp2_with fail
  refine (markO (1 + (n : Int)) (by omega) (by omega) (by rw [HN'.out]; exact hbig') Y12.out).mono ?_
  rw [HN'.out]
  rintro e w13 ⟨rfl, _, hg13⟩
  have hg13' : w12.grownBy w13 (some w4.heap.size) := hg13
  have HB13 := hid (below_grown HB12.out hg13' HB12.out.size HB4.out.size)
  have V13 := hid (V12.out.kept hg13' (fun k hk e => by cases e; have := BV.out _ hk; have := l34.out; omega))
  have G13 := hid (G12.out.kept hg13' (fun k hk e => by cases e; have := BG.out _ hk; have := l45.out; omega))
  clear hg13 hg13' V12 Y12 G12
  go_wp2_with fail
  refine (eqO hsl G13.out V13.out).mono ?_
  rintro e w14 ⟨rfl, q14, hq14⟩
  have hb14 : Below w13.heap.size w13 w14 := by rw [hq14]; exact below_drewN (Below.refl _ _) _
  have HB14 := hid (HB13.out.trans (hb14.mono HB13.out.size))
  have V14 := hid (V13.out.below hb14)
  have G14 := hid (G13.out.below hb14)
  clear hb14 V13 G13 hq14
  -- marks in the answer
  go_wp2_with fail
  refine (markO 1 (by decide) (by decide) hsl G14.out).mono ?_
  rintro e w15 ⟨rfl, ho15, hg15⟩
  have HB15 := hid (HB14.out.grown hg15 HB14.out.size (fun k hk => Nat.le_trans HB5.out.size (BG.out k hk)))
  have V15 := hid (V14.out.kept hg15 (fun k hk e => by have h1 := BG.out _ e; have h2 := BV.out _ hk; have := l34.out; have := l45.out; omega))
  have G15 := hid ho15
  clear ho15 hg15 V14 G14
  go_wp2_with fail
  refine (heldO 1 (by decide) (by decide) hsl G15.out).mono ?_
  rintro e w16 ⟨rfl, q16, hq16⟩
  have hb16 : Below w15.heap.size w15 w16 := by rw [hq16]; exact below_drewN (Below.refl _ _) _
  have HB16 := hid (HB15.out.trans (hb16.mono HB15.out.size))
  have V16 := hid (V15.out.below hb16)
  have G16 := hid (G15.out.below hb16)
  clear hb16 hq16 V15 G15
  -- once more
  go_wp2_with fail
  refine (f7 a n c s _ HN.out hbig (HR.out.below HB16.out)).mono ?_
  rintro e w17 ⟨rfl, ho17, hb17⟩
  have HB17 := hid (HB16.out.trans (hb17.mono HB16.out.size))
  have V17 := hid (V16.out.below hb17)
  have G17 := hid (G16.out.below hb17)
  have A17 := hid (Has.own ho17)
  clear hb17 ho17 V16 G16
  go_wp2_with fail
  refine (f7 a' n' c' o _ HN'.out hbig' (HR'.out.below HB17.out)).mono ?_
  rintro e w18 ⟨rfl, ho18, hb18⟩
  have HB18 := hid (HB17.out.trans (hb18.mono HB17.out.size))
  have V18 := hid (V17.out.below hb18)
  have G18 := hid (G17.out.below hb18)
  have A18 := hid (A17.out.below hb18)
  have B18 := hid (Has.own ho18)
  clear hb18 ho18 V17 G17 A17
  go_wp2_with fail
  refine (HP.out _ _ _ _ _ (Nat.le_refl _) (Nat.le_refl _) A18.out B18.out).mono ?_
  rintro e w19 ⟨h0, rfl, ho19, hb19⟩
  have HB19 := hid (HB18.out.trans (hb19.mono HB18.out.size))
  have V19 := hid (V18.out.below hb19)
  have G19 := hid (G18.out.below hb19)
  have H19 := hid ho19
  clear hb19 ho19 V18 G18
  go_wp2_with fail
  refine (eqO hsl H19.out V19.out).mono ?_
  rintro e w20 ⟨rfl, q20, hq20⟩
  have hb20 : Below w19.heap.size w19 w20 := by rw [hq20]; exact below_drewN (Below.refl _ _) _
  have HB20 := hid (HB19.out.trans (hb20.mono HB19.out.size))
  have G20 := hid (G19.out.below hb20)
  clear hb20 H19 V19 G19 hq20
  go_wp2_with fail
  refine (heldO 1 (by decide) (by decide) hsl G20.out).mono ?_
  rintro e w21 ⟨rfl, q21, rfl⟩
  go_wp2
  go_ret
  exact ⟨rfl, below_drewN HB20.out _⟩

set_option maxHeartbeats 4000000 in
theorem walkPostMinus (a a' : Option Addr) (c c' : Nat) (s o : List Int) (w : World) (hr : Has w a s) (hr' : Has w a' o) :
    Calls Try.prog 5 #[.slice a s.length c, .slice a' o.length c'] w fun e w' => e = .returned (.bool true) ∧ Below w.heap.size w w' := by
  have HR := hid hr
  have HR' := hid hr'
  clear hr hr'
  by_cases hbig : s.length ≤ 1048576
  rotate_left
  · generalize s.length = n at *
    generalize o.length = n' at *
    go_enter Try.func5, Try.ntmps5
    go_wp2
    go_ret
    exact ⟨rfl, Below.refl _ _⟩
  by_cases hbig' : o.length ≤ 1048576
  rotate_left
  · generalize s.length = n at *
    generalize o.length = n' at *
    go_enter Try.func5, Try.ntmps5
    go_wp2
    go_ret
    exact ⟨rfl, Below.refl _ _⟩
  have hsl : (put kMinus s o).length ≤ 1048576 := Nat.le_trans (put_len kMinus s o) (by decide)
  obtain ⟨n, hn⟩ : ∃ n, n = s.length := ⟨_, rfl⟩
  have HN : Hid (s.length = n) := hn.symm
  rw [← hn] at hbig ⊢
  clear hn
  obtain ⟨n', hn⟩ : ∃ n, n = o.length := ⟨_, rfl⟩
  have HN' : Hid (o.length = n') := hn.symm
  rw [← hn] at hbig' ⊢
  clear hn
  generalize hsel : put kMinus s o = sel at *
  have HS := hid hsel
  clear hsel
  have HM : Hid (∀ b c b' c' w, Has w b s → Has w b' o → Calls Try.prog 14 #[.slice b n c, .slice b' n' c'] w fun e w' => ∃ v, e = .returned v ∧ Own w' w.heap.size v sel ∧ Below w.heap.size w w') := by
    intro b c b' c' w h1 h2
    have := f14 b b' c c' s o w (by rw [HN.out]; exact hbig) (by rw [HN'.out]; exact hbig') h1 h2
    rw [HN.out, HN'.out, HS.out] at this
    exact this
  have HP : Hid (∀ b c b' c' w, n ≤ c → n' ≤ c' → Has w b s → Has w b' o → Calls Try.prog 15 #[.slice b n c, .slice b' n' c'] w fun e w' => ∃ v, e = .returned v ∧ Own w' w.heap.size v sel ∧ Below w.heap.size w w') := by
    intro b c b' c' w h1 h2 h3 h4
    have := f15 b b' c c' s o w (by rw [HN.out]; exact hbig) (by rw [HN'.out]; exact hbig') (by rw [HN.out]; exact h1) (by rw [HN'.out]; exact h2) h3 h4
    rw [HN.out, HN'.out, HS.out] at this
    exact this
  have hq : (((1 : Int) + (sel.length : Int)) != (1 : Int) + (sel.length : Int)) = false := by simp
  go_enter Try.func5, Try.ntmps5
  -- the model
  go_wp2_with fail
  refine (f7 a n c s _ HN.out hbig HR.out).mono ?_
  rintro e w1 ⟨rfl, ho1, hb1⟩
  have HB1 := hid hb1
  have A1 := hid (Has.own ho1)
  clear hb1 ho1
  go_wp2_with fail
  refine (f7 a' n' c' o _ HN'.out hbig' (HR'.out.below HB1.out)).mono ?_
  rintro e w2 ⟨rfl, ho2, hb2⟩
  have HB2 := hid (HB1.out.trans (hb2.mono HB1.out.size))
  have A2 := hid (A1.out.below hb2)
  have B2 := hid (Has.own ho2)
  clear hb2 ho2 A1
  go_wp2_with fail
  refine (HM.out _ _ _ _ _ A2.out B2.out).mono ?_
  rintro e w3 ⟨v0, rfl, ho3, hb3⟩
  have HB3 := hid (HB2.out.trans (hb3.mono HB2.out.size))
  have V3 := hid ho3
  have BV : Hid (∀ k, v0.ownBlock = some k → k < w3.heap.size) := fun k hk => (V3.out.lt k hk).2
  clear hb3 ho3 A2 B2
  -- the program
  go_wp2_with fail
  refine (f7 a n c s _ HN.out hbig (HR.out.below HB3.out)).mono ?_
  rintro e w4 ⟨rfl, ho4, hb4⟩
  have HB4 := hid (HB3.out.trans (hb4.mono HB3.out.size))
  have V4 := hid (V3.out.below hb4)
  have X4 := hid (Own.to HN.out ho4)
  have l34 : Hid (w3.heap.size < w4.heap.size) := (X4.out.lt _ rfl).2
  clear hb4 ho4 V3
  go_wp2_with fail
  refine (f7 a' n' c' o _ HN'.out hbig' (HR'.out.below HB4.out)).mono ?_
  rintro e w5 ⟨rfl, ho5, hb5⟩
  have HB5 := hid (HB4.out.trans (hb5.mono HB4.out.size))
  have V5 := hid (V4.out.below hb5)
  have X5 := hid (X4.out.below hb5)
  have Y5 := hid (Own.to HN'.out ho5)
  have l45 : Hid (w4.heap.size < w5.heap.size) := (Y5.out.lt _ rfl).2
  clear hb5 ho5 V4 X4
  go_wp2_with fail
  refine (HP.out _ _ _ _ _ (Nat.le_refl _) (Nat.le_refl _) X5.out.has.2 Y5.out.has.2).mono ?_
  rintro e w6 ⟨g0, rfl, ho6, hb6⟩
  have HB6 := hid (HB5.out.trans (hb6.mono HB5.out.size))
  have V6 := hid (V5.out.below hb6)
  have X6 := hid (X5.out.below hb6)
  have Y6 := hid (Y5.out.below hb6)
  have G6 := hid ho6
  have BG : Hid (∀ k, g0.ownBlock = some k → w5.heap.size ≤ k) := fun k hk => (G6.out.lt k hk).1
  clear hb6 ho6 V5 X5 Y5
  go_wp2_with fail
  refine (eqO hsl G6.out V6.out).mono ?_
  rintro e w7 ⟨rfl, q7, hq7⟩
  have hb7 : Below w6.heap.size w6 w7 := by rw [hq7]; exact below_drewN (Below.refl _ _) _
  have HB7 := hid (HB6.out.trans (hb7.mono HB6.out.size))
  have V7 := hid (V6.out.below hb7)
  have X7 := hid (X6.out.below hb7)
  have Y7 := hid (Y6.out.below hb7)
  have G7 := hid (G6.out.below hb7)
  clear hb7 V6 X6 Y6 G6 hq7
  -- the arguments stay
  go_wp2_with fail
  refine (f7 a n c s _ HN.out hbig (HR.out.below HB7.out)).mono ?_
  rintro e w8 ⟨rfl, ho8, hb8⟩
  have HB8 := hid (HB7.out.trans (hb8.mono HB7.out.size))
  have V8 := hid (V7.out.below hb8)
  have X8 := hid (X7.out.below hb8)
  have Y8 := hid (Y7.out.below hb8)
  have G8 := hid (G7.out.below hb8)
  have T8 := hid (Own.to HN.out ho8)
  clear hb8 ho8 V7 X7 Y7 G7
  go_wp2_with fail
  refine (eqO (by rw [HN.out]; exact hbig) X8.out T8.out).mono ?_
  rintro e w9 ⟨rfl, q9, hq9⟩
  have hb9 : Below w8.heap.size w8 w9 := by rw [hq9]; exact below_drewN (Below.refl _ _) _
  have HB9 := hid (HB8.out.trans (hb9.mono HB8.out.size))
  have V9 := hid (V8.out.below hb9)
  have X9 := hid (X8.out.below hb9)
  have Y9 := hid (Y8.out.below hb9)
  have G9 := hid (G8.out.below hb9)
  clear hb9 V8 X8 Y8 G8 T8 hq9
  go_wp2_with fail
  refine (f7 a' n' c' o _ HN'.out hbig' (HR'.out.below HB9.out)).mono ?_
  rintro e w10 ⟨rfl, ho10, hb10⟩
  have HB10 := hid (HB9.out.trans (hb10.mono HB9.out.size))
  have V10 := hid (V9.out.below hb10)
  have X10 := hid (X9.out.below hb10)
  have Y10 := hid (Y9.out.below hb10)
  have G10 := hid (G9.out.below hb10)
  have T10 := hid (Own.to HN'.out ho10)
  clear hb10 ho10 V9 X9 Y9 G9
  go_wp2_with fail
  refine (eqO (by rw [HN'.out]; exact hbig') Y10.out T10.out).mono ?_
  rintro e w11 ⟨rfl, q11, hq11⟩
  have hb11 : Below w10.heap.size w10 w11 := by rw [hq11]; exact below_drewN (Below.refl _ _) _
  have HB11 := hid (HB10.out.trans (hb11.mono HB10.out.size))
  have V11 := hid (V10.out.below hb11)
  have X11 := hid (X10.out.below hb11)
  have Y11 := hid (Y10.out.below hb11)
  have G11 := hid (G10.out.below hb11)
  clear hb11 V10 X10 Y10 G10 T10 hq11
  -- marks in the arguments
  go_wp2_with fail
  refine (markO 1 (by decide) (by decide) (by rw [HN.out]; exact hbig) X11.out).mono ?_
  rw [HN.out]
  rintro e w12 ⟨rfl, _, hg12⟩
  have hg12' : w11.grownBy w12 (some w3.heap.size) := hg12
  have HB12 := hid (below_grown HB11.out hg12' HB11.out.size HB3.out.size)
  have V12 := hid (V11.out.kept hg12' (fun k hk e => by cases e; have := BV.out _ hk; omega))
  have Y12 := hid (Y11.out.kept hg12' (fun k hk e => by simp only [Value.ownBlock, Option.some.injEq] at hk; cases e; have := l34.out; omega))
  have G12 := hid (G11.out.kept hg12' (fun k hk e => by cases e; have := BG.out _ hk; have := l34.out; have := l45.out; omega))
  clear hg12 hg12' V11 X11 Y11 G11
  go_wp2_with fail
  refine (markO (1 + (n : Int)) (by omega) (by omega) (by rw [HN'.out]; exact hbig') Y12.out).mono ?_
  rw [HN'.out]
  rintro e w13 ⟨rfl, _, hg13⟩
  have hg13' : w12.grownBy w13 (some w4.heap.size) := hg13
  have HB13 := hid (below_grown HB12.out hg13' HB12.out.size HB4.out.size)
  have V13 := hid (V12.out.kept hg13' (fun k hk e => by cases e; have := BV.out _ hk; have := l34.out; omega))
  have G13 := hid (G12.out.kept hg13' (fun k hk e => by cases e; have := BG.out _ hk; have := l45.out; omega))
  clear hg13 hg13' V12 Y12 G12
  go_wp2_with fail
  refine (eqO hsl G13.out V13.out).mono ?_
  rintro e w14 ⟨rfl, q14, hq14⟩
  have hb14 : Below w13.heap.size w13 w14 := by rw [hq14]; exact below_drewN (Below.refl _ _) _
  have HB14 := hid (HB13.out.trans (hb14.mono HB13.out.size))
  have V14 := hid (V13.out.below hb14)
  have G14 := hid (G13.out.below hb14)
  clear hb14 V13 G13 hq14
  -- marks in the answer
  go_wp2_with fail
  refine (markO 1 (by decide) (by decide) hsl G14.out).mono ?_
  rintro e w15 ⟨rfl, ho15, hg15⟩
  have HB15 := hid (HB14.out.grown hg15 HB14.out.size (fun k hk => Nat.le_trans HB5.out.size (BG.out k hk)))
  have V15 := hid (V14.out.kept hg15 (fun k hk e => by have h1 := BG.out _ e; have h2 := BV.out _ hk; have := l34.out; have := l45.out; omega))
  have G15 := hid ho15
  clear ho15 hg15 V14 G14
  go_wp2_with fail
  refine (heldO 1 (by decide) (by decide) hsl G15.out).mono ?_
  rintro e w16 ⟨rfl, q16, hq16⟩
  have hb16 : Below w15.heap.size w15 w16 := by rw [hq16]; exact below_drewN (Below.refl _ _) _
  have HB16 := hid (HB15.out.trans (hb16.mono HB15.out.size))
  have V16 := hid (V15.out.below hb16)
  have G16 := hid (G15.out.below hb16)
  clear hb16 hq16 V15 G15
  -- once more
  go_wp2_with fail
  refine (f7 a n c s _ HN.out hbig (HR.out.below HB16.out)).mono ?_
  rintro e w17 ⟨rfl, ho17, hb17⟩
  have HB17 := hid (HB16.out.trans (hb17.mono HB16.out.size))
  have V17 := hid (V16.out.below hb17)
  have G17 := hid (G16.out.below hb17)
  have A17 := hid (Has.own ho17)
  clear hb17 ho17 V16 G16
  go_wp2_with fail
  refine (f7 a' n' c' o _ HN'.out hbig' (HR'.out.below HB17.out)).mono ?_
  rintro e w18 ⟨rfl, ho18, hb18⟩
  have HB18 := hid (HB17.out.trans (hb18.mono HB17.out.size))
  have V18 := hid (V17.out.below hb18)
  have G18 := hid (G17.out.below hb18)
  have A18 := hid (A17.out.below hb18)
  have B18 := hid (Has.own ho18)
  clear hb18 ho18 V17 G17 A17
  go_wp2_with fail
  refine (HP.out _ _ _ _ _ (Nat.le_refl _) (Nat.le_refl _) A18.out B18.out).mono ?_
  rintro e w19 ⟨h0, rfl, ho19, hb19⟩
  have HB19 := hid (HB18.out.trans (hb19.mono HB18.out.size))
  have V19 := hid (V18.out.below hb19)
  have G19 := hid (G18.out.below hb19)
  have H19 := hid ho19
  clear hb19 ho19 V18 G18
  go_wp2_with fail
  refine (eqO hsl H19.out V19.out).mono ?_
  rintro e w20 ⟨rfl, q20, hq20⟩
  have hb20 : Below w19.heap.size w19 w20 := by rw [hq20]; exact below_drewN (Below.refl _ _) _
  have HB20 := hid (HB19.out.trans (hb20.mono HB19.out.size))
  have G20 := hid (G19.out.below hb20)
  clear hb20 H19 V19 G19 hq20
  go_wp2_with fail
  refine (heldO 1 (by decide) (by decide) hsl G20.out).mono ?_
  rintro e w21 ⟨rfl, q21, rfl⟩
  go_wp2
  go_ret
  exact ⟨rfl, below_drewN HB20.out _⟩
end Go.Proofs.Ytaajkgaephhghaa.Ino
