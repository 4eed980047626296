/- The walks of FnExactKeepLabels and FnExactDropLabels. -/
import Derived.Test.YtncmpegfbbiicaaKdn
namespace Go.Proofs.Ytncmpegfbbiicaa.Lab
open Go.RowKit Go.Proofs.Ytncmpegfbbiicaa.Str

theorem own_cases {w : World} {base e size n c : Nat} {a : Option Addr} {xs : List Value} (h : w.ownsRow base e size (.slice a n c) n xs) : (a = none ∧ n = 0 ∧ c = 0) ∨ ∃ g, a = some ⟨g, 0, none⟩ := by
  rcases h.2 with ⟨h1, _⟩ | ⟨g, cap, cur, h1, _⟩
  · simp only [Value.slice.injEq] at h1; exact .inl ⟨h1.1, h1.2.1, h1.2.2⟩
  · simp only [Value.slice.injEq] at h1; exact .inr ⟨g, h1.1⟩
theorem own_len {w : World} {base n c : Nat} {a : Option Addr} {ls : List Lb} (h : w.ownsRow base 39 2 (.slice a n c) n (flat ls)) : ls.length = n := by
  have := h.1; rw [flat_len] at this; omega
theorem HasL.owno {w : World} {base n c : Nat} {a : Option Addr} {ls : List Lb} (h : w.ownsRow base 39 2 (.slice a n c) n (flat ls)) : HasL w a ls := by
  rcases own_cases h with ⟨rfl, rfl, rfl⟩ | ⟨g, rfl⟩
  · exact .inl (List.eq_nil_of_length_eq_zero (own_len h))
  · exact HasL.own h
theorem grown_refl (w : World) (r : Option Nat) : w.grownBy w r := ⟨rfl, rfl, rfl, Nat.le_refl _, fun _ _ _ => rfl⟩
theorem f13o (a : Option Addr) (n c base k : Nat) (ls : List Lb) (w : World) (hk : k + 2 * n ≤ 100000000) (hown : w.ownsRow base 39 2 (.slice a n c) n (flat ls)) :
    Calls Try.prog 13 #[.slice a n c, .int .i64 k] w fun e w' => e = .returned (.int .i64 ((k + 2 * n : Nat) : Int)) ∧ w'.ownsRow base 39 2 (.slice a n c) n (flat (markL k n)) ∧ w.grownBy w' (Value.slice a n c).ownBlock := by
  rcases own_cases hown with ⟨rfl, rfl, rfl⟩ | ⟨g, rfl⟩
  · refine (f13n k w).mono ?_
    rintro e w' ⟨rfl, rfl⟩
    exact ⟨rfl, World.ownsRow_nil _ _ _ _, grown_refl _ _⟩
  · exact f13 g n c base k ls w (own_len hown) hk hown
theorem f15o (a : Option Addr) (n c base k : Nat) (w : World) (hk : k + 2 * n ≤ 100000000) (hown : w.ownsRow base 39 2 (.slice a n c) n (flat (markL k n))) :
    Calls Try.prog 15 #[.slice a n c, .int .i64 k] w fun e w' => e = .returned (.int .i64 ((k + 2 * n : Nat) : Int)) ∧ Below w.heap.size w w' := by
  rcases own_cases hown with ⟨rfl, rfl, rfl⟩ | ⟨g, rfl⟩
  · refine (f15n k w).mono ?_
    rintro e w' ⟨rfl, rfl⟩
    exact ⟨rfl, Below.refl _ _⟩
  · exact f15 g n c k w hk (HasL.own hown)
theorem selR_len (ls : List Lb) (ss : List ByteArray) (b : Bool) : (selR ls ss b).length ≤ 20 := by
  unfold selR
  split
  · rename_i h
    have h1 := (good_iff h.1).1
    have h2 := List.length_filter_le (fun p : Lb => hasB ss p.1 == b) ls
    unfold selL
    omega
  · simp

set_option maxHeartbeats 4000000 in
theorem walk10 (a a1 : Option Addr) (n c n1 c1 : Nat) (ls : List Lb) (ss : List ByteArray) (w : World) (hn : ls.length = n) (hmax : n ≤ maxLen) (hr : HasL w a ls) (hf : Fit ls) (hn1 : ss.length = n1) (hmax1 : n1 ≤ maxLen) (hr1 : HasT w a1 ss) (hf1 : FitT ss) :
    Calls Try.prog 3 #[.slice a n c, .slice a1 n1 c1] w fun e w' => e = .returned (.bool true) ∧ Below w.heap.size w w' := by
  have HN := hid hn
  have HN1 := hid hn1
  have HR := hid hr
  have HT := hid hr1
  have hsl := selR_len ls ss true
  generalize hsel : selR ls ss true = sel at hsl
  have HSEL := hid hsel
  clear hn hn1 hr hr1 hsel
  go_enter Try.func3, Try.ntmps3
  go_wp2_with fail
  refine (f5g a n c 1048576 ls _ (by omega) (by omega) HN.out HR.out hf hmax).mono ?_
  rintro e w1 ⟨y, rfl, hy, y0, y1, hb1⟩
  have HB1 := hid hb1
  clear hb1
  by_cases h0 : y < 0
  · go_wp2
    go_ret
    exact ⟨rfl, HB1.out⟩
  have hbig := hy (by omega)
  clear hy
  go_wp2_with fail
  refine (f6 a1 n1 c1 y ss _ (by omega) (by omega) HN1.out (HT.out.below HB1.out) hf1 hmax1).mono ?_
  rintro e w2 ⟨z, rfl, hz, z0, z1, rfl⟩
  by_cases h1 : z < 0
  · go_wp2
    go_ret
    exact ⟨rfl, HB1.out⟩
  have hbig1 := hz (by omega)
  clear hz
  -- the model
  go_wp2_with fail
  refine (f8 a n c ls _ HN.out hbig (HR.out.below HB1.out)).mono ?_
  rintro e w3 ⟨rfl, ho3, hb3⟩
  have HB3 := hid (HB1.out.trans (hb3.mono HB1.out.size))
  have A3 := hid (HasL.own ho3)
  clear hb3 ho3
  go_wp2_with fail
  refine (f9 a1 n1 c1 ss _ HN1.out hbig1 (HT.out.below HB3.out)).mono ?_
  rintro e w4 ⟨rfl, ho4, hb4⟩
  have HB4 := hid (HB3.out.trans (hb4.mono HB3.out.size))
  have A4 := hid (A3.out.below hb4)
  have N4 := hid (HasT.own ho4)
  clear hb4 ho4 A3
  go_wp2_with fail
  refine (f7 _ _ n n n1 n1 ls ss _ HN.out hbig A4.out hf HN1.out hbig1 N4.out).mono ?_
  rintro e w5 ⟨aw, mw, cw, rfl, ho5, hb5⟩
  rw [HSEL.out] at ho5
  have HB5 := hid (HB4.out.trans (hb5.mono HB4.out.size))
  have W5 := hid ho5
  have hmw : sel.length = mw := own_len ho5
  have BW : Hid (∀ k, (Value.slice aw mw cw).ownBlock = some k → k < w5.heap.size) := fun k hk => (W5.out.lt k hk).2
  clear hb5 ho5 A4 N4
  -- the program
  go_wp2_with fail
  refine (f8 a n c ls _ HN.out hbig (HR.out.below HB5.out)).mono ?_
  rintro e w6 ⟨rfl, ho6, hb6⟩
  have HB6 := hid (HB5.out.trans (hb6.mono HB5.out.size))
  have W6 := hid (own_below W5.out hb6)
  have X6 := hid ho6
  have l56 : w5.heap.size < w6.heap.size := (ho6.lt _ rfl).2
  clear hb6 ho6 W5
  go_wp2_with fail
  refine (f9 a1 n1 c1 ss _ HN1.out hbig1 (HT.out.below HB6.out)).mono ?_
  rintro e w7 ⟨rfl, ho7, hb7⟩
  have HB7 := hid (HB6.out.trans (hb7.mono HB6.out.size))
  have W7 := hid (own_below W6.out hb7)
  have X7 := hid (own_below X6.out hb7)
  have Y7 := hid ho7
  have l67 : w6.heap.size < w7.heap.size := (ho7.lt _ rfl).2
  clear hb7 ho7 W6 X6
  go_wp2_with fail
  refine (f10 _ _ n n n1 n1 ls ss _ HN.out hbig (HasL.own X7.out) hf HN1.out hbig1 (HasT.own Y7.out)).mono ?_
  rintro e w8 ⟨ag, mg, cg, rfl, ho8, hb8⟩
  rw [HSEL.out] at ho8
  have HB8 := hid (HB7.out.trans (hb8.mono HB7.out.size))
  have W8 := hid (own_below W7.out hb8)
  have X8 := hid (own_below X7.out hb8)
  have Y8 := hid (own_below Y7.out hb8)
  have G8 := hid ho8
  obtain rfl : mw = mg := hmw.symm.trans (own_len ho8)
  have hmw20 : mw ≤ 20 := by omega
  have BG : Hid (∀ k, (Value.slice ag mw cg).ownBlock = some k → w7.heap.size ≤ k) := fun k hk => (G8.out.lt k hk).1
  clear hb8 ho8 W7 X7 Y7
  go_wp2_with fail
  refine (f11 _ _ mw cg cw sel _ hmw (by omega) (HasL.owno G8.out) (HasL.owno W8.out)).mono ?_
  rintro e w9 ⟨rfl, hb9⟩
  have HB9 := hid (HB8.out.trans (hb9.mono HB8.out.size))
  have W9 := hid (own_below W8.out hb9)
  have X9 := hid (own_below X8.out hb9)
  have Y9 := hid (own_below Y8.out hb9)
  have G9 := hid (own_below G8.out hb9)
  clear hb9 W8 X8 Y8 G8
  -- the arguments stay
  go_wp2_with fail
  refine (f8 a n c ls _ HN.out hbig (HR.out.below HB9.out)).mono ?_
  rintro e w10 ⟨rfl, ho10, hb10⟩
  have HB10 := hid (HB9.out.trans (hb10.mono HB9.out.size))
  have W10 := hid (own_below W9.out hb10)
  have X10 := hid (own_below X9.out hb10)
  have Y10 := hid (own_below Y9.out hb10)
  have G10 := hid (own_below G9.out hb10)
  have Z10 := hid (HasL.own ho10)
  clear hb10 ho10 W9 X9 Y9 G9
  go_wp2_with fail
  refine (f11 _ _ n n n ls _ HN.out hbig (HasL.own X10.out) Z10.out).mono ?_
  rintro e w11 ⟨rfl, hb11⟩
  have HB11 := hid (HB10.out.trans (hb11.mono HB10.out.size))
  have W11 := hid (own_below W10.out hb11)
  have X11 := hid (own_below X10.out hb11)
  have Y11 := hid (own_below Y10.out hb11)
  have G11 := hid (own_below G10.out hb11)
  clear hb11 W10 X10 Y10 G10 Z10
  go_wp2_with fail
  refine (f9 a1 n1 c1 ss _ HN1.out hbig1 (HT.out.below HB11.out)).mono ?_
  rintro e w12 ⟨rfl, ho12, hb12⟩
  have HB12 := hid (HB11.out.trans (hb12.mono HB11.out.size))
  have W12 := hid (own_below W11.out hb12)
  have X12 := hid (own_below X11.out hb12)
  have Y12 := hid (own_below Y11.out hb12)
  have G12 := hid (own_below G11.out hb12)
  have Z12 := hid (HasT.own ho12)
  clear hb12 ho12 W11 X11 Y11 G11
  go_wp2_with fail
  refine (f12 _ _ n1 n1 n1 ss _ HN1.out hbig1 (HasT.own Y12.out) Z12.out).mono ?_
  rintro e w13 ⟨rfl, hb13⟩
  have HB13 := hid (HB12.out.trans (hb13.mono HB12.out.size))
  have W13 := hid (own_below W12.out hb13)
  have X13 := hid (own_below X12.out hb13)
  have Y13 := hid (own_below Y12.out hb13)
  have G13 := hid (own_below G12.out hb13)
  clear hb13 W12 X12 Y12 G12 Z12
  -- marks in the arguments
  have OWG : Hid (∀ g, (∃ k, (Value.slice ag mw cg).ownBlock = some k ∧ g = k) → (Value.slice aw mw cw).ownBlock ≠ some g) := by
    rintro g ⟨k, h1, rfl⟩ h2
    have e1 := BG.out _ h1
    have e2 := BW.out _ h2
    omega
  go_wp2_with fail
  have h23 := f13 w5.heap.size n n w5.heap.size 1 ls w13 HN.out (by omega) X13.out
  obtain ⟨k1, hk1⟩ : ∃ k1, k1 = 1 + 2 * n := ⟨_, rfl⟩
  rw [← hk1] at h23
  refine h23.mono ?_
  clear h23
  rintro e w14 ⟨rfl, -, hg14⟩
  have HB14 := hid (below_grown HB13.out hg14 HB13.out.size HB5.out.size)
  have W14 := hid (W13.out.kept hg14 (.inr (fun e => by have := BW.out _ e; omega)))
  have Y14 := hid (Y13.out.kept hg14 (.inr (by simp [Value.ownBlock]; omega)))
  have G14 := hid (G13.out.kept hg14 (.inr (fun e => by have := BG.out _ e; omega)))
  have hk1b : k1 ≤ 3000000 := by omega
  clear hg14 W13 X13 Y13 G13 hk1
  go_wp2_with fail
  have h36 := f14 w6.heap.size n1 n1 w6.heap.size k1 ss w14 HN1.out (by omega) Y14.out
  obtain ⟨k2, hk2⟩ : ∃ k2, k2 = k1 + n1 := ⟨_, rfl⟩
  rw [← hk2] at h36
  refine h36.mono ?_
  clear h36 hk2
  rintro e w15 ⟨rfl, hg15⟩
  have HB15 := hid (below_grown HB14.out hg15 HB14.out.size HB6.out.size)
  have W15 := hid (W14.out.kept hg15 (.inr (fun e => by have := BW.out _ e; omega)))
  have G15 := hid (G14.out.kept hg15 (.inr (fun e => by have := BG.out _ e; omega)))
  clear hg15 W14 Y14 G14
  go_wp2_with fail
  refine (f11 _ _ mw cg cw sel _ hmw (by omega) (HasL.owno G15.out) (HasL.owno W15.out)).mono ?_
  rintro e w16 ⟨rfl, hb16⟩
  have HB16 := hid (HB15.out.trans (hb16.mono HB15.out.size))
  have W16 := hid (own_below W15.out hb16)
  have G16 := hid (own_below G15.out hb16)
  clear hb16 W15 G15
  -- marks in the answer
  go_wp2_with fail
  have h23 := f13o ag mw cg w7.heap.size 1 sel w16 (by omega) G16.out
  obtain ⟨k3, hk3⟩ : ∃ k3, k3 = 1 + 2 * mw := ⟨_, rfl⟩
  rw [← hk3] at h23
  have HK3 := hid hk3
  refine h23.mono ?_
  clear h23 hk3
  rintro e w17 ⟨rfl, ho17, hg17⟩
  have HB17 := hid (HB16.out.grown hg17 HB16.out.size (fun k hk => Nat.le_trans HB7.out.size (BG.out k hk)))
  have W17 := hid (W16.out.kept hg17 (by
    cases h1 : (Value.slice aw mw cw).ownBlock with
    | none => exact .inl rfl
    | some k =>
      refine .inr (fun e => ?_)
      exact OWG.out k ⟨k, e.symm, rfl⟩ h1))
  have G17 := hid ho17
  clear hg17 ho17 W16 G16
  go_wp2_with fail
  have h24 := f15o ag mw cg w7.heap.size 1 w17 (by omega) G17.out
  rw [← HK3.out] at h24
  refine h24.mono ?_
  clear h24
  rintro e w18 ⟨rfl, hb18⟩
  have HB18 := hid (HB17.out.trans (hb18.mono HB17.out.size))
  have W18 := hid (own_below W17.out hb18)
  have G18 := hid (own_below G17.out hb18)
  clear hb18 W17 G17
  -- once more
  go_wp2_with fail
  refine (f8 a n c ls _ HN.out hbig (HR.out.below HB18.out)).mono ?_
  rintro e w19 ⟨rfl, ho19, hb19⟩
  have HB19 := hid (HB18.out.trans (hb19.mono HB18.out.size))
  have W19 := hid (own_below W18.out hb19)
  have G19 := hid (own_below G18.out hb19)
  have X19 := hid (HasL.own ho19)
  clear hb19 ho19 W18 G18
  go_wp2_with fail
  refine (f9 a1 n1 c1 ss _ HN1.out hbig1 (HT.out.below HB19.out)).mono ?_
  rintro e w20 ⟨rfl, ho20, hb20⟩
  have HB20 := hid (HB19.out.trans (hb20.mono HB19.out.size))
  have W20 := hid (own_below W19.out hb20)
  have G20 := hid (own_below G19.out hb20)
  have X20 := hid (X19.out.below hb20)
  have Y20 := hid (HasT.own ho20)
  clear hb20 ho20 W19 G19 X19
  go_wp2_with fail
  refine (f10 _ _ n n n1 n1 ls ss _ HN.out hbig X20.out hf HN1.out hbig1 Y20.out).mono ?_
  rintro e w21 ⟨ah, mh, ch, rfl, ho21, hb21⟩
  rw [HSEL.out] at ho21
  obtain rfl : mw = mh := hmw.symm.trans (own_len ho21)
  have HB21 := hid (HB20.out.trans (hb21.mono HB20.out.size))
  have W21 := hid (own_below W20.out hb21)
  have G21 := hid (own_below G20.out hb21)
  have H21 := hid (HasL.owno ho21)
  clear hb21 ho21 W20 G20 X20 Y20
  go_wp2_with fail
  refine (f11 _ _ mw ch cw sel _ hmw (by omega) H21.out (HasL.owno W21.out)).mono ?_
  rintro e w22 ⟨rfl, hb22⟩
  have HB22 := hid (HB21.out.trans (hb22.mono HB21.out.size))
  have G22 := hid (own_below G21.out hb22)
  clear hb22 W21 G21 H21
  go_wp2_with fail
  have h24 := f15o ag mw cg w7.heap.size 1 w22 (by omega) G22.out
  rw [← HK3.out] at h24
  refine h24.mono ?_
  clear h24
  rintro e w23 ⟨rfl, hb23⟩
  have HB23 := hid (HB22.out.trans (hb23.mono HB22.out.size))
  clear hb23
  go_wp2
  go_ret
  exact ⟨rfl, HB23.out⟩

set_option maxHeartbeats 4000000 in
theorem walk11 (a a1 : Option Addr) (n c n1 c1 : Nat) (ls : List Lb) (ss : List ByteArray) (w : World) (hn : ls.length = n) (hmax : n ≤ maxLen) (hr : HasL w a ls) (hf : Fit ls) (hn1 : ss.length = n1) (hmax1 : n1 ≤ maxLen) (hr1 : HasT w a1 ss) (hf1 : FitT ss) :
    Calls Try.prog 4 #[.slice a n c, .slice a1 n1 c1] w fun e w' => e = .returned (.bool true) ∧ Below w.heap.size w w' := by
  have HN := hid hn
  have HN1 := hid hn1
  have HR := hid hr
  have HT := hid hr1
  have hsl := selR_len ls ss false
  generalize hsel : selR ls ss false = sel at hsl
  have HSEL := hid hsel
  clear hn hn1 hr hr1 hsel
  go_enter Try.func4, Try.ntmps4
  go_wp2_with fail
  refine (f5g a n c 1048576 ls _ (by omega) (by omega) HN.out HR.out hf hmax).mono ?_
  rintro e w1 ⟨y, rfl, hy, y0, y1, hb1⟩
  have HB1 := hid hb1
  clear hb1
  by_cases h0 : y < 0
  · go_wp2
    go_ret
    exact ⟨rfl, HB1.out⟩
  have hbig := hy (by omega)
  clear hy
  go_wp2_with fail
  refine (f6 a1 n1 c1 y ss _ (by omega) (by omega) HN1.out (HT.out.below HB1.out) hf1 hmax1).mono ?_
  rintro e w2 ⟨z, rfl, hz, z0, z1, rfl⟩
  by_cases h1 : z < 0
  · go_wp2
    go_ret
    exact ⟨rfl, HB1.out⟩
  have hbig1 := hz (by omega)
  clear hz
  -- the model
  go_wp2_with fail
  refine (f8 a n c ls _ HN.out hbig (HR.out.below HB1.out)).mono ?_
  rintro e w3 ⟨rfl, ho3, hb3⟩
  have HB3 := hid (HB1.out.trans (hb3.mono HB1.out.size))
  have A3 := hid (HasL.own ho3)
  clear hb3 ho3
  go_wp2_with fail
  refine (f9 a1 n1 c1 ss _ HN1.out hbig1 (HT.out.below HB3.out)).mono ?_
  rintro e w4 ⟨rfl, ho4, hb4⟩
  have HB4 := hid (HB3.out.trans (hb4.mono HB3.out.size))
  have A4 := hid (A3.out.below hb4)
  have N4 := hid (HasT.own ho4)
  clear hb4 ho4 A3
  go_wp2_with fail
  refine (f16 _ _ n n n1 n1 ls ss _ HN.out hbig A4.out hf HN1.out hbig1 N4.out).mono ?_
  rintro e w5 ⟨aw, mw, cw, rfl, ho5, hb5⟩
  rw [HSEL.out] at ho5
  have HB5 := hid (HB4.out.trans (hb5.mono HB4.out.size))
  have W5 := hid ho5
  have hmw : sel.length = mw := own_len ho5
  have BW : Hid (∀ k, (Value.slice aw mw cw).ownBlock = some k → k < w5.heap.size) := fun k hk => (W5.out.lt k hk).2
  clear hb5 ho5 A4 N4
  -- the program
  go_wp2_with fail
  refine (f8 a n c ls _ HN.out hbig (HR.out.below HB5.out)).mono ?_
  rintro e w6 ⟨rfl, ho6, hb6⟩
  have HB6 := hid (HB5.out.trans (hb6.mono HB5.out.size))
  have W6 := hid (own_below W5.out hb6)
  have X6 := hid ho6
  have l56 : w5.heap.size < w6.heap.size := (ho6.lt _ rfl).2
  clear hb6 ho6 W5
  go_wp2_with fail
  refine (f9 a1 n1 c1 ss _ HN1.out hbig1 (HT.out.below HB6.out)).mono ?_
  rintro e w7 ⟨rfl, ho7, hb7⟩
  have HB7 := hid (HB6.out.trans (hb7.mono HB6.out.size))
  have W7 := hid (own_below W6.out hb7)
  have X7 := hid (own_below X6.out hb7)
  have Y7 := hid ho7
  have l67 : w6.heap.size < w7.heap.size := (ho7.lt _ rfl).2
  clear hb7 ho7 W6 X6
  go_wp2_with fail
  refine (f17 _ _ n n n1 n1 ls ss _ HN.out hbig (HasL.own X7.out) hf HN1.out hbig1 (HasT.own Y7.out)).mono ?_
  rintro e w8 ⟨ag, mg, cg, rfl, ho8, hb8⟩
  rw [HSEL.out] at ho8
  have HB8 := hid (HB7.out.trans (hb8.mono HB7.out.size))
  have W8 := hid (own_below W7.out hb8)
  have X8 := hid (own_below X7.out hb8)
  have Y8 := hid (own_below Y7.out hb8)
  have G8 := hid ho8
  obtain rfl : mw = mg := hmw.symm.trans (own_len ho8)
  have hmw20 : mw ≤ 20 := by omega
  have BG : Hid (∀ k, (Value.slice ag mw cg).ownBlock = some k → w7.heap.size ≤ k) := fun k hk => (G8.out.lt k hk).1
  clear hb8 ho8 W7 X7 Y7
  go_wp2_with fail
  refine (f11 _ _ mw cg cw sel _ hmw (by omega) (HasL.owno G8.out) (HasL.owno W8.out)).mono ?_
  rintro e w9 ⟨rfl, hb9⟩
  have HB9 := hid (HB8.out.trans (hb9.mono HB8.out.size))
  have W9 := hid (own_below W8.out hb9)
  have X9 := hid (own_below X8.out hb9)
  have Y9 := hid (own_below Y8.out hb9)
  have G9 := hid (own_below G8.out hb9)
  clear hb9 W8 X8 Y8 G8
  -- the arguments stay
  go_wp2_with fail
  refine (f8 a n c ls _ HN.out hbig (HR.out.below HB9.out)).mono ?_
  rintro e w10 ⟨rfl, ho10, hb10⟩
  have HB10 := hid (HB9.out.trans (hb10.mono HB9.out.size))
  have W10 := hid (own_below W9.out hb10)
  have X10 := hid (own_below X9.out hb10)
  have Y10 := hid (own_below Y9.out hb10)
  have G10 := hid (own_below G9.out hb10)
  have Z10 := hid (HasL.own ho10)
  clear hb10 ho10 W9 X9 Y9 G9
  go_wp2_with fail
  refine (f11 _ _ n n n ls _ HN.out hbig (HasL.own X10.out) Z10.out).mono ?_
  rintro e w11 ⟨rfl, hb11⟩
  have HB11 := hid (HB10.out.trans (hb11.mono HB10.out.size))
  have W11 := hid (own_below W10.out hb11)
  have X11 := hid (own_below X10.out hb11)
  have Y11 := hid (own_below Y10.out hb11)
  have G11 := hid (own_below G10.out hb11)
  clear hb11 W10 X10 Y10 G10 Z10
  go_wp2_with fail
  refine (f9 a1 n1 c1 ss _ HN1.out hbig1 (HT.out.below HB11.out)).mono ?_
  rintro e w12 ⟨rfl, ho12, hb12⟩
  have HB12 := hid (HB11.out.trans (hb12.mono HB11.out.size))
  have W12 := hid (own_below W11.out hb12)
  have X12 := hid (own_below X11.out hb12)
  have Y12 := hid (own_below Y11.out hb12)
  have G12 := hid (own_below G11.out hb12)
  have Z12 := hid (HasT.own ho12)
  clear hb12 ho12 W11 X11 Y11 G11
  go_wp2_with fail
  refine (f12 _ _ n1 n1 n1 ss _ HN1.out hbig1 (HasT.own Y12.out) Z12.out).mono ?_
  rintro e w13 ⟨rfl, hb13⟩
  have HB13 := hid (HB12.out.trans (hb13.mono HB12.out.size))
  have W13 := hid (own_below W12.out hb13)
  have X13 := hid (own_below X12.out hb13)
  have Y13 := hid (own_below Y12.out hb13)
  have G13 := hid (own_below G12.out hb13)
  clear hb13 W12 X12 Y12 G12 Z12
  -- marks in the arguments
  have OWG : Hid (∀ g, (∃ k, (Value.slice ag mw cg).ownBlock = some k ∧ g = k) → (Value.slice aw mw cw).ownBlock ≠ some g) := by
    rintro g ⟨k, h1, rfl⟩ h2
    have e1 := BG.out _ h1
    have e2 := BW.out _ h2
    omega
  go_wp2_with fail
  have h23 := f13 w5.heap.size n n w5.heap.size 1 ls w13 HN.out (by omega) X13.out
  obtain ⟨k1, hk1⟩ : ∃ k1, k1 = 1 + 2 * n := ⟨_, rfl⟩
  rw [← hk1] at h23
  refine h23.mono ?_
  clear h23
  rintro e w14 ⟨rfl, -, hg14⟩
  have HB14 := hid (below_grown HB13.out hg14 HB13.out.size HB5.out.size)
  have W14 := hid (W13.out.kept hg14 (.inr (fun e => by have := BW.out _ e; omega)))
  have Y14 := hid (Y13.out.kept hg14 (.inr (by simp [Value.ownBlock]; omega)))
  have G14 := hid (G13.out.kept hg14 (.inr (fun e => by have := BG.out _ e; omega)))
  have hk1b : k1 ≤ 3000000 := by omega
  clear hg14 W13 X13 Y13 G13 hk1
  go_wp2_with fail
  have h36 := f14 w6.heap.size n1 n1 w6.heap.size k1 ss w14 HN1.out (by omega) Y14.out
  obtain ⟨k2, hk2⟩ : ∃ k2, k2 = k1 + n1 := ⟨_, rfl⟩
  rw [← hk2] at h36
  refine h36.mono ?_
  clear h36 hk2
  rintro e w15 ⟨rfl, hg15⟩
  have HB15 := hid (below_grown HB14.out hg15 HB14.out.size HB6.out.size)
  have W15 := hid (W14.out.kept hg15 (.inr (fun e => by have := BW.out _ e; omega)))
  have G15 := hid (G14.out.kept hg15 (.inr (fun e => by have := BG.out _ e; omega)))
  clear hg15 W14 Y14 G14
  go_wp2_with fail
  refine (f11 _ _ mw cg cw sel _ hmw (by omega) (HasL.owno G15.out) (HasL.owno W15.out)).mono ?_
  rintro e w16 ⟨rfl, hb16⟩
  have HB16 := hid (HB15.out.trans (hb16.mono HB15.out.size))
  have W16 := hid (own_below W15.out hb16)
  have G16 := hid (own_below G15.out hb16)
  clear hb16 W15 G15
  -- marks in the answer
  go_wp2_with fail
  have h23 := f13o ag mw cg w7.heap.size 1 sel w16 (by omega) G16.out
  obtain ⟨k3, hk3⟩ : ∃ k3, k3 = 1 + 2 * mw := ⟨_, rfl⟩
  rw [← hk3] at h23
  have HK3 := hid hk3
  refine h23.mono ?_
  clear h23 hk3
  rintro e w17 ⟨rfl, ho17, hg17⟩
  have HB17 := hid (HB16.out.grown hg17 HB16.out.size (fun k hk => Nat.le_trans HB7.out.size (BG.out k hk)))
  have W17 := hid (W16.out.kept hg17 (by
    cases h1 : (Value.slice aw mw cw).ownBlock with
    | none => exact .inl rfl
    | some k =>
      refine .inr (fun e => ?_)
      exact OWG.out k ⟨k, e.symm, rfl⟩ h1))
  have G17 := hid ho17
  clear hg17 ho17 W16 G16
  go_wp2_with fail
  have h24 := f15o ag mw cg w7.heap.size 1 w17 (by omega) G17.out
  rw [← HK3.out] at h24
  refine h24.mono ?_
  clear h24
  rintro e w18 ⟨rfl, hb18⟩
  have HB18 := hid (HB17.out.trans (hb18.mono HB17.out.size))
  have W18 := hid (own_below W17.out hb18)
  have G18 := hid (own_below G17.out hb18)
  clear hb18 W17 G17
  -- once more
  go_wp2_with fail
  refine (f8 a n c ls _ HN.out hbig (HR.out.below HB18.out)).mono ?_
  rintro e w19 ⟨rfl, ho19, hb19⟩
  have HB19 := hid (HB18.out.trans (hb19.mono HB18.out.size))
  have W19 := hid (own_below W18.out hb19)
  have G19 := hid (own_below G18.out hb19)
  have X19 := hid (HasL.own ho19)
  clear hb19 ho19 W18 G18
  go_wp2_with fail
  refine (f9 a1 n1 c1 ss _ HN1.out hbig1 (HT.out.below HB19.out)).mono ?_
  rintro e w20 ⟨rfl, ho20, hb20⟩
  have HB20 := hid (HB19.out.trans (hb20.mono HB19.out.size))
  have W20 := hid (own_below W19.out hb20)
  have G20 := hid (own_below G19.out hb20)
  have X20 := hid (X19.out.below hb20)
  have Y20 := hid (HasT.own ho20)
  clear hb20 ho20 W19 G19 X19
  go_wp2_with fail
  refine (f17 _ _ n n n1 n1 ls ss _ HN.out hbig X20.out hf HN1.out hbig1 Y20.out).mono ?_
  rintro e w21 ⟨ah, mh, ch, rfl, ho21, hb21⟩
  rw [HSEL.out] at ho21
  obtain rfl : mw = mh := hmw.symm.trans (own_len ho21)
  have HB21 := hid (HB20.out.trans (hb21.mono HB20.out.size))
  have W21 := hid (own_below W20.out hb21)
  have G21 := hid (own_below G20.out hb21)
  have H21 := hid (HasL.owno ho21)
  clear hb21 ho21 W20 G20 X20 Y20
  go_wp2_with fail
  refine (f11 _ _ mw ch cw sel _ hmw (by omega) H21.out (HasL.owno W21.out)).mono ?_
  rintro e w22 ⟨rfl, hb22⟩
  have HB22 := hid (HB21.out.trans (hb22.mono HB21.out.size))
  have G22 := hid (own_below G21.out hb22)
  clear hb22 W21 G21 H21
  go_wp2_with fail
  have h24 := f15o ag mw cg w7.heap.size 1 w22 (by omega) G22.out
  rw [← HK3.out] at h24
  refine h24.mono ?_
  clear h24
  rintro e w23 ⟨rfl, hb23⟩
  have HB23 := hid (HB22.out.trans (hb23.mono HB22.out.size))
  clear hb23
  go_wp2
  go_ret
  exact ⟨rfl, HB23.out⟩
end Go.Proofs.Ytncmpegfbbiicaa.Lab
