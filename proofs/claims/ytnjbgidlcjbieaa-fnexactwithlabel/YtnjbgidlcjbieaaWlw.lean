/- The walk of FnExactWithLabel. -/
import Derived.Test.YtnjbgidlcjbieaaWn
namespace Go.Proofs.Ytnjbgidlcjbieaa.Lab
open Go.RowKit Go.Proofs.Ytnjbgidlcjbieaa.Str

theorem withR_len (ls : List Lb) (x v : ByteArray) : (WithR ls x v).length ≤ 20 := by
  unfold WithR
  split
  · rename_i h; exact (good_iff h.2.2.2).1
  · simp

set_option maxHeartbeats 4000000 in
set_option maxRecDepth 100000 in
theorem walk9 (a : Option Addr) (n c : Nat) (ls : List Lb) (x v : ByteArray) (w : World) (hn : ls.length = n) (hmax : n ≤ maxLen) (hr : HasL w a ls) (hf : Fit ls) (hx : x.size ≤ maxLen) (hv : v.size ≤ maxLen) :
    Calls Try.prog 3 #[.slice a n c, .string x, .string v] w fun e w' => e = .returned (.bool true) ∧ Below w.heap.size w w' := by
  have hx' := hx
  have hv' := hv
  unfold maxLen at hx' hv'
  by_cases hbx : 1048576 < x.size
  · go_enter Try.func3, Try.ntmps3
    go_wp2
    go_ret
    exact ⟨rfl, Below.refl _ _⟩
  by_cases hbv : 1048576 < v.size
  · go_enter Try.func3, Try.ntmps3
    go_wp2
    go_ret
    exact ⟨rfl, Below.refl _ _⟩
  have HN := hid hn
  have HR := hid hr
  have hsl := withR_len ls x v
  generalize hsel : WithR ls x v = sel at hsl
  have HSEL := hid hsel
  clear hn hr hsel
  go_enter Try.func3, Try.ntmps3
  go_wp2_with fail
  refine (f4 a n c ls _ HN.out HR.out hf hmax).mono ?_
  rintro e w2 ⟨y, rfl, hy, y0, y1, hb1⟩
  have HB2 := hid hb1
  clear hb1
  by_cases h0 : y < 0
  · go_wp2
    go_ret
    exact ⟨rfl, HB2.out⟩
  have hbig := hy (by omega)
  clear hy
  -- the model
  go_wp2_with fail
  refine (f6 a n c ls _ HN.out hbig (HR.out.below HB2.out)).mono ?_
  rintro e w4 ⟨rfl, ho4, hb4⟩
  have HB4 := hid (HB2.out.trans (hb4.mono HB2.out.size))
  have A4 := hid (HasL.own ho4)
  clear hb4 ho4
  go_wp2_with fail
  refine (f5 _ n n ls x v _ HN.out hbig A4.out hf hx hv).mono ?_
  rintro e w5 ⟨aw, mw, cw, rfl, ho5, hb5⟩
  rw [HSEL.out] at ho5
  have HB5 := hid (HB4.out.trans (hb5.mono HB4.out.size))
  have W5 := hid ho5
  have hmw : sel.length = mw := own_len ho5
  have BW : Hid (∀ k, (Value.slice aw mw cw).ownBlock = some k → k < w5.heap.size) := fun k hk => (W5.out.lt k hk).2
  clear hb5 ho5 A4
  -- the program
  go_wp2_with fail
  refine (f6 a n c ls _ HN.out hbig (HR.out.below HB5.out)).mono ?_
  rintro e w7 ⟨rfl, ho7, hb7⟩
  have HB7 := hid (HB5.out.trans (hb7.mono HB5.out.size))
  have W7 := hid (own_below W5.out hb7)
  have X7 := hid ho7
  have l57 : w5.heap.size < w7.heap.size := (ho7.lt _ rfl).2
  clear hb7 ho7 W5
  go_wp2_with fail
  refine (f7 w5.heap.size n w5.heap.size ls x v _ HN.out hbig X7.out hf hx hv).mono ?_
  rintro e w8 ⟨ag, mg, cg, rfl, ho8, hb8⟩
  rw [HSEL.out] at ho8
  have HB8 := hid (HB7.out.trans (hb8.mono HB7.out.size))
  have W8 := hid (own_below W7.out hb8)
  have X8 := hid (own_below X7.out hb8)
  have G8 := hid ho8
  obtain rfl : mw = mg := hmw.symm.trans (own_len ho8)
  have hmw20 : mw ≤ 20 := by omega
  have BG : Hid (∀ k, (Value.slice ag mw cg).ownBlock = some k → w7.heap.size ≤ k) := fun k hk => (G8.out.lt k hk).1
  clear hb8 ho8 W7 X7
  go_wp2_with fail
  refine (f8 _ _ mw cg cw sel _ hmw (by omega) (HasL.owno G8.out) (HasL.owno W8.out)).mono ?_
  rintro e w9 ⟨rfl, hb9⟩
  have HB9 := hid (HB8.out.trans (hb9.mono HB8.out.size))
  have W9 := hid (own_below W8.out hb9)
  have X9 := hid (own_below X8.out hb9)
  have G9 := hid (own_below G8.out hb9)
  clear hb9 W8 X8 G8
  -- the argument stays
  go_wp2_with fail
  refine (f6 a n c ls _ HN.out hbig (HR.out.below HB9.out)).mono ?_
  rintro e w10 ⟨rfl, ho10, hb10⟩
  have HB10 := hid (HB9.out.trans (hb10.mono HB9.out.size))
  have W10 := hid (own_below W9.out hb10)
  have X10 := hid (own_below X9.out hb10)
  have G10 := hid (own_below G9.out hb10)
  have Z10 := hid (HasL.own ho10)
  clear hb10 ho10 W9 X9 G9
  go_wp2_with fail
  refine (f8 _ _ n n n ls _ HN.out hbig (HasL.own X10.out) Z10.out).mono ?_
  rintro e w13 ⟨rfl, hb13⟩
  have HB13 := hid (HB10.out.trans (hb13.mono HB10.out.size))
  have W13 := hid (own_below W10.out hb13)
  have X13 := hid (own_below X10.out hb13)
  have G13 := hid (own_below G10.out hb13)
  clear hb13 W10 X10 G10 Z10
  -- marks in the argument
  have OWG : Hid (∀ g, (∃ k, (Value.slice ag mw cg).ownBlock = some k ∧ g = k) → (Value.slice aw mw cw).ownBlock ≠ some g) := by
    rintro g ⟨k, h1, rfl⟩ h2
    have e1 := BG.out _ h1
    have e2 := BW.out _ h2
    omega
  go_wp2_with fail
  have h23 := f9 w5.heap.size n n w5.heap.size 1 ls w13 HN.out (by omega) X13.out
  obtain ⟨k1, hk1⟩ : ∃ k1, k1 = 1 + 2 * n := ⟨_, rfl⟩
  rw [← hk1] at h23
  refine h23.mono ?_
  clear h23 hk1
  rintro e w15 ⟨rfl, -, hg15⟩
  have HB15 := hid (below_grown HB13.out hg15 HB13.out.size HB5.out.size)
  have W15 := hid (W13.out.kept hg15 (.inr (fun e => by have := BW.out _ e; omega)))
  have G15 := hid (G13.out.kept hg15 (.inr (fun e => by have := BG.out _ e; omega)))
  clear hg15 W13 X13 G13
  go_wp2_with fail
  refine (f8 _ _ mw cg cw sel _ hmw (by omega) (HasL.owno G15.out) (HasL.owno W15.out)).mono ?_
  rintro e w16 ⟨rfl, hb16⟩
  have HB16 := hid (HB15.out.trans (hb16.mono HB15.out.size))
  have W16 := hid (own_below W15.out hb16)
  have G16 := hid (own_below G15.out hb16)
  clear hb16 W15 G15
  -- marks in the answer
  go_wp2_with fail
  have h23 := f9o ag mw cg w7.heap.size 1 sel w16 (by omega) G16.out
  obtain ⟨k3, hk3⟩ : ∃ k3, k3 = 1 + 2 * mw := ⟨_, rfl⟩
  rw [← hk3] at h23
  have HK3 := hid hk3
  refine h23.mono ?_
  clear h23 hk3
  rintro e w17 ⟨rfl, ho17, hg17⟩
  have HB17 := hid (HB16.out.grown hg17 HB16.out.size (fun k hk => Nat.le_trans HB7.out.size (BG.out k hk)))
  have W17 := hid (W16.out.kept hg17 (by
    cases h1 : (Value.slice aw mw cw).ownBlock with
    | none => exact .inl rfl
    | some k =>
      refine .inr (fun e => ?_)
      exact OWG.out k ⟨k, e.symm, rfl⟩ h1))
  have G17 := hid ho17
  clear hg17 ho17 W16 G16
  go_wp2_with fail
  have h24 := f10o ag mw cg w7.heap.size 1 w17 (by omega) G17.out
  rw [← HK3.out] at h24
  refine h24.mono ?_
  clear h24
  rintro e w18 ⟨rfl, hb18⟩
  have HB18 := hid (HB17.out.trans (hb18.mono HB17.out.size))
  have W18 := hid (own_below W17.out hb18)
  have G18 := hid (own_below G17.out hb18)
  clear hb18 W17 G17
  -- once more
  go_wp2_with fail
  refine (f6 a n c ls _ HN.out hbig (HR.out.below HB18.out)).mono ?_
  rintro e w20 ⟨rfl, ho20, hb20⟩
  have HB20 := hid (HB18.out.trans (hb20.mono HB18.out.size))
  have W20 := hid (own_below W18.out hb20)
  have G20 := hid (own_below G18.out hb20)
  have X20 := hid ho20
  clear hb20 ho20 W18 G18
  go_wp2_with fail
  refine (f7 w18.heap.size n w18.heap.size ls x v _ HN.out hbig X20.out hf hx hv).mono ?_
  rintro e w21 ⟨ah, mh, ch, rfl, ho21, hb21⟩
  rw [HSEL.out] at ho21
  obtain rfl : mw = mh := hmw.symm.trans (own_len ho21)
  have HB21 := hid (HB20.out.trans (hb21.mono HB20.out.size))
  have W21 := hid (own_below W20.out hb21)
  have G21 := hid (own_below G20.out hb21)
  have H21 := hid (HasL.owno ho21)
  clear hb21 ho21 W20 G20 X20
  go_wp2_with fail
  refine (f8 _ _ mw ch cw sel _ hmw (by omega) H21.out (HasL.owno W21.out)).mono ?_
  rintro e w22 ⟨rfl, hb22⟩
  have HB22 := hid (HB21.out.trans (hb22.mono HB21.out.size))
  have G22 := hid (own_below G21.out hb22)
  clear hb22 W21 G21 H21
  go_wp2_with fail
  have h24 := f10o ag mw cg w7.heap.size 1 w22 (by omega) G22.out
  rw [← HK3.out] at h24
  refine h24.mono ?_
  clear h24
  rintro e w23 ⟨rfl, hb23⟩
  have HB23 := hid (HB22.out.trans (hb23.mono HB22.out.size))
  clear hb23
  go_wp2
  go_ret
  exact ⟨rfl, HB23.out⟩
end Go.Proofs.Ytnjbgidlcjbieaa.Lab
