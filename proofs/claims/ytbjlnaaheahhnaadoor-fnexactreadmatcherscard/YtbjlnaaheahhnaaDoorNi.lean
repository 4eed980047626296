/- The model's ReadMatchers, and the walk of FnExactReadMatchers. -/
import Derived.Test.YtbjlnaaheahhnaaDoorNh
namespace Go.Proofs.YtbjlnaaheahhnaaDoor.Lab
open Go.RowKit Go.Proofs.YtbjlnaaheahhnaaDoor.Str

theorem readMF_lf (s : ByteArray) : readMF s = (lfM s 0).bind fun q => if q.2 = s.size then some q.1 else none := by
  unfold readMF lfM
  rw [brc_lstM]
  cases lstM s 0 with
  | none => rfl
  | some q =>
    obtain ⟨a, b⟩ := q
    by_cases h1 : b = s.size
    · by_cases h2 : Pat.goodM a = true
      · simp [Option.filter, h1, h2]
      · simp [Option.filter, h1, h2]
    · by_cases h2 : Pat.goodM a = true
      · simp [Option.filter, h1, h2]
      · simp [Option.filter, h1, h2]
theorem lfM_good {s : ByteArray} {t k : Nat} {ls : List Pat.Mt} (h : lfM s t = some (ls, k)) : Pat.goodM ls = true := by
  unfold lfM at h
  exact (Option.filter_eq_some_iff.1 h).2

set_option maxHeartbeats 1000000 in
theorem f10 (s : ByteArray) (w : World) (hs : s.size ≤ 1048576) : Calls Tryd.prog 10 #[.string s] w (RlRM s w) := by
  go_enter Tryd.func10, Tryd.ntmps10
  go_wp2_with fail
  refine (f22 s 0 _ hs (Nat.zero_le _)).mono ?_
  rintro e w1 ⟨hb1, h1⟩
  have HB := hid hb1
  clear hb1
  rcases h1 with ⟨hn, rfl⟩ | ⟨ls, k, a, c, hl, rfl, ho⟩
  · have HN : Hid (readMF s = none) := by unfold Hid; rw [readMF_lf, hn]; rfl
    have e1 : ((-1 : Int) != (s.size : Int)) = true := by rw [bne_iff_ne]; omega
    clear hn
    go_wp2
    go_ret2
    exact rlR_noneM HN.out HB.out
  · have HO := hid ho
    have HG := hid (lfM_good hl)
    by_cases hk : k = s.size
    · have HN : Hid (readMF s = some ls) := by unfold Hid; rw [readMF_lf, hl]; simp [hk]
      have e1 : ((k : Int) != (s.size : Int)) = false := by simp; omega
      clear hl ho hk
      go_wp2
      go_ret2
      exact rlR_someM HN.out HG.out HB.out (Nat.le_refl _) HO.out
    · have HN : Hid (readMF s = none) := by unfold Hid; rw [readMF_lf, hl]; simp [hk]
      have e1 : ((k : Int) != (s.size : Int)) = true := by simp; omega
      clear hl ho hk
      go_wp2
      go_ret2
      exact rlR_noneM HN.out HB.out
theorem sgn_own {w w' : World} {g : Option Nat} (h : Pat.Sgn w) (hg : w.grownBy w' g) (h0 : g ≠ some 0) : Pat.Sgn w' := by
  refine ⟨Nat.lt_of_lt_of_le h.1 hg.size, fun l hl => ?_⟩
  rw [← h.2 l hl]
  unfold World.cell?
  have := hg.block 0 h.1 (fun e => h0 e.symm)
  simp only [this]

set_option maxHeartbeats 4000000 in
theorem walk4 (s : ByteArray) (w : World) (hs : s.size ≤ maxLen) (hg0 : Pat.Sgn w) :
    Calls Tryd.prog 4 #[.string s] w fun e w' => e = .returned (.bool true) ∧ Below w.heap.size w w' := by
  unfold maxLen at hs
  by_cases hbs : 1048576 < s.size
  · go_enter Tryd.func4, Tryd.ntmps4
    go_wp2
    go_ret
    exact ⟨rfl, Below.refl _ _⟩
  have h4 := fun w => f10 s w (by omega)
  have h5 := fun w => f11 s w (by omega)
  unfold RlRM at h4 h5
  generalize (readMF s).isSome = b at h4 h5
  generalize (readMF s).getD [] = sel at h4 h5
  have H4 := hid h4
  have H5 := hid h5
  have HG0 := hid hg0
  have hbb : (b != b) = false := by cases b <;> rfl
  clear h4 h5 hg0
  go_enter Tryd.func4, Tryd.ntmps4
  go_wp2_with fail
  refine (H4.out _).mono ?_
  rintro e w1 ⟨aw, cw, rfl, ho1, hl1, hb1⟩
  have HB1 := hid hb1
  have W1 := hid ho1
  have HL := hid hl1
  have HG1 := hid (HG0.out.below hb1)
  have BW : Hid (∀ k, (Value.slice aw sel.length cw).ownBlock = some k → k < w1.heap.size) := fun k hk => (W1.out.lt k hk).2
  clear hb1 ho1
  go_wp2_with fail
  refine (H5.out _ HG1.out).mono ?_
  rintro e w2 ⟨ag, cg, rfl, ho2, hl2, hb2⟩
  have HB2 := hid (HB1.out.trans (hb2.mono HB1.out.size))
  have W2 := hid (own_below W1.out hb2)
  have G2 := hid ho2
  have HG2 := hid (HG1.out.below hb2)
  have BG : Hid (∀ k, (Value.slice ag sel.length cg).ownBlock = some k → w1.heap.size ≤ k) := fun k hk => (G2.out.lt k hk).1
  clear hb2 ho2 W1 hl2
  obtain ⟨n, hn⟩ : ∃ n, n = sel.length := ⟨_, rfl⟩
  have HN := hid hn.symm
  rw [← hn] at W2 G2 BW BG hl1 ⊢
  clear hn
  go_wp2_with fail
  refine (Pat.f9 _ _ n cg cw sel _ HN.out (by omega) (hasM_own G2.out) (hasM_own W2.out)).mono ?_
  rintro e w3 ⟨rfl, hb3⟩
  have HB3 := hid (HB2.out.trans (hb3.mono HB2.out.size))
  have W3 := hid (own_below W2.out hb3)
  have G3 := hid (own_below G2.out hb3)
  have HG3 := hid (HG2.out.below hb3)
  clear hb3 W2 G2
  have OWG : Hid (∀ g, (∃ k, (Value.slice ag n cg).ownBlock = some k ∧ g = k) → (Value.slice aw n cw).ownBlock ≠ some g) := by
    rintro g ⟨k, h1, rfl⟩ h2
    have e1 := BG.out _ h1
    have e2 := BW.out _ h2
    omega
  have O0 : Hid ((Value.slice ag n cg).ownBlock ≠ some 0) := fun e => by
    have e1 := BG.out _ e
    have e2 := HG1.out.1
    omega
  -- marks in the answer
  go_wp2_with fail
  have h7 := f12o ag n cg w1.heap.size 1 sel w3 HN.out (by omega) G3.out
  obtain ⟨k3, hk3⟩ : ∃ k3, k3 = 1 + 3 * n := ⟨_, rfl⟩
  rw [← hk3] at h7
  have HK3 := hid hk3
  have hk20 : k3 ≤ 31 := by omega
  refine h7.mono ?_
  clear h7 hk3
  rintro e w4 ⟨rfl, ho4, hg4⟩
  have HB4 := hid (HB3.out.grown hg4 HB3.out.size (fun k hk => Nat.le_trans HB1.out.size (BG.out k hk)))
  have HG4 := hid (sgn_own HG3.out hg4 O0.out)
  have W4 := hid (W3.out.kept hg4 (by
    cases h1 : (Value.slice aw n cw).ownBlock with
    | none => exact .inl rfl
    | some k =>
      refine .inr (fun e => ?_)
      exact OWG.out k ⟨k, e.symm, rfl⟩ h1))
  have G4 := hid ho4
  clear hg4 ho4 W3 G3
  go_wp2_with fail
  have h8 := f13o ag n cg w1.heap.size 1 w4 (by omega) G4.out
  rw [← HK3.out] at h8
  refine h8.mono ?_
  clear h8
  rintro e w5 ⟨rfl, hb5⟩
  have HB5 := hid (HB4.out.trans (hb5.mono HB4.out.size))
  have W5 := hid (own_below W4.out hb5)
  have G5 := hid (own_below G4.out hb5)
  have HG5 := hid (HG4.out.below hb5)
  clear hb5 W4 G4
  -- once more
  go_wp2_with fail
  refine (H5.out _ HG5.out).mono ?_
  rintro e w6 ⟨ah, ch, rfl, ho6, hl6, hb6⟩
  have HB6 := hid (HB5.out.trans (hb6.mono HB5.out.size))
  have W6 := hid (own_below W5.out hb6)
  have G6 := hid (own_below G5.out hb6)
  rw [HN.out] at ho6 ⊢
  have A6 := hid (hasM_own ho6)
  clear hb6 ho6 W5 G5 hl6
  go_wp2_with fail
  refine (Pat.f9 _ _ n ch cw sel _ HN.out (by omega) A6.out (hasM_own W6.out)).mono ?_
  rintro e w7 ⟨rfl, hb7⟩
  have HB7 := hid (HB6.out.trans (hb7.mono HB6.out.size))
  have G7 := hid (own_below G6.out hb7)
  clear hb7 W6 G6 A6
  go_wp2_with fail
  have h8 := f13o ag n cg w1.heap.size 1 w7 (by omega) G7.out
  rw [← HK3.out] at h8
  refine h8.mono ?_
  clear h8
  rintro e w8 ⟨rfl, hb8⟩
  have HB8 := hid (HB7.out.trans (hb8.mono HB7.out.size))
  clear hb8
  go_wp2
  go_ret
  exact ⟨rfl, HB8.out⟩
end Go.Proofs.YtbjlnaaheahhnaaDoor.Lab
