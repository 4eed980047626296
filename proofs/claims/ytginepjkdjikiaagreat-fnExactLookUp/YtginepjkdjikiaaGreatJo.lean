/- The walk of FnExactLookUp. -/
import Derived.Test.YtginepjkdjikiaaGreatJl
import Derived.Test.YtginepjkdjikiaaGreatJn
import Derived.Test.YtginepjkdjikiaaGreatGM
namespace Go.Proofs.YtginepjkdjikiaaGreat.Blk
open Go.RowKit
open Go.Proofs.YtginepjkdjikiaaGreat.Srs (hid lt_at kept Q HasQ q0 blk Fr own_fr own_grown own_below)
open Go.Proofs.YtginepjkdjikiaaGreat.Stn (T t0)
open Go.Proofs.YtginepjkdjikiaaGreat.Ino (Own eqO markO heldO below_drewN)
open Go.Proofs.YtginepjkdjikiaaGreat.Pat (Mt HasM goodM FitM flatM)

theorem SameB.lku {h h' : Bk} (s : SameB h h') (ms : List Mt) : lku h' ms = lku h ms := by
  unfold Blk.lku
  rw [s.gd, s.lq]
  split
  · refine flt_congr fun i hi => ?_
    unfold hits
    rw [s.lb hi]
  · rfl
/-- Two boxes cell by cell; what was there at w7 is as it was. -/
abbrev WT (w7 : World) (A B : Nat) (h h' : Bk) (x : World) : Prop :=
  x.cell? ⟨A, 0, none⟩ = some (.int .i64 h.F) ∧ x.cell? ⟨A, 1, none⟩ = some (.int .i64 h.T) ∧ x.cell? ⟨A, 2, none⟩ = some (.int .i64 h.L) ∧ x.cell? ⟨A, 3, none⟩ = some (.slice h.a h.qs.length h.c) ∧ x.cell? ⟨A, 4, none⟩ = some (.slice h.b h.ts.length h.d) ∧
  x.cell? ⟨B, 0, none⟩ = some (.int .i64 h'.F) ∧ x.cell? ⟨B, 1, none⟩ = some (.int .i64 h'.T) ∧ x.cell? ⟨B, 2, none⟩ = some (.int .i64 h'.L) ∧ x.cell? ⟨B, 3, none⟩ = some (.slice h'.a h'.qs.length h'.c) ∧ x.cell? ⟨B, 4, none⟩ = some (.slice h'.b h'.ts.length h'.d) ∧
  x.heap[A]? = some (.cells (clB h) 46) ∧ x.heap[B]? = some (.cells (clB h') 26) ∧ Below w7.heap.size w7 x
theorem WT.new {w7 : World} {A B : Nat} {h h' : Bk} {x : World} (h1 : x.heap[A]? = some (.cells (clB h) 46)) (h2 : x.heap[B]? = some (.cells (clB h') 26)) (hb : Below w7.heap.size w7 x) : WT w7 A B h h' x := by
  obtain ⟨b0, b1, b2, b3, b4⟩ := five h1
  obtain ⟨c0, c1, c2, c3, c4⟩ := five h2
  exact ⟨b0, b1, b2, b3, b4, c0, c1, c2, c3, c4, h1, h2, hb⟩
theorem WT.bel {w7 : World} {A B : Nat} {h h' : Bk} {x : World} (g : WT w7 A B h h' x) : Below w7.heap.size w7 x := g.2.2.2.2.2.2.2.2.2.2.2.2
theorem WT.below {w7 : World} {A B : Nat} {h h' : Bk} {x y : World} (g : WT w7 A B h h' x) (hb : Below x.heap.size x y) : WT w7 A B h h' y :=
  WT.new (kept g.2.2.2.2.2.2.2.2.2.2.1 hb) (kept g.2.2.2.2.2.2.2.2.2.2.2.1 hb) (g.bel.trans (hb.mono g.bel.size))

set_option maxHeartbeats 8000000 in
theorem walkLook (h : Bk) (am : Option Addr) (cm : Nat) (ms : List Mt) (w : World) (hr : HasB w h) (hf : FitB h) (hm : HasM w am ms) (hfm : FitM ms) (hmx : ms.length ≤ maxLen) :
    Calls Tryz.prog 4 #[agB h, .slice am ms.length cm] w fun e w' => e = .returned (.bool true) ∧ Below w.heap.size w w' := by
  have HR := hid hr
  have HF := hid hf
  have HM := hid hm
  have HFM := hid hfm
  have HMX := hid hmx
  have H0 : Hid (Wp w h (w.alloc (.cells (clB h) 46))) := ⟨heap_alloc_new w _, (Below.refl w.heap.size w).alloc (Nat.le_refl _) _⟩
  clear hr hf hm hfm hmx
  have hsl : (lku h ms).length ≤ 1048576 := Nat.le_trans (lku_len h ms) (by decide)
  have HPs : Hid (∀ h', SameB h h' → lku h' ms = lku h ms) := fun h' s => s.lku ms
  generalize lku h ms = sel at *
  obtain ⟨n, hn⟩ : ∃ n, n = ms.length := ⟨_, rfl⟩
  have HN : Hid (ms.length = n) := hn.symm
  rw [← hn]
  rw [← hn] at HMX
  clear hn
  have hq : (((1 : Int) + (sel.length : Int)) != (1 : Int) + (sel.length : Int)) = false := by simp
  have HSp : Hid (∀ h' am' cm' w', SameB h h' → SmlB h → HasB w' h' → HasM w' am' ms → Calls Tryz.prog 18 #[agB h', .slice am' n cm'] w' (Gives w' sel)) := by
    intro h' am' cm' w' s z hb hm
    have := f18 h' am' cm' ms w' hb (s.fit HF.out) (s.sml z) hm HFM.out (by rw [HN.out]; exact HMX.out)
    rw [HN.out, HPs.out h' s] at this
    exact this
  have HIm : Hid (∀ h' am' cm' w', SameB h h' → SmlB h → HasB w' h' → HasM w' am' ms → Calls Tryz.prog 8 #[agB h', .slice am' n cm'] w' (Gives w' sel)) := by
    intro h' am' cm' w' s z hb hm
    have := f8 h' am' cm' ms w' hb (s.fit HF.out) (s.sml z) hm HFM.out (by rw [HN.out]; exact HMX.out)
    rw [HN.out, HPs.out h' s] at this
    exact this
  clear HPs
  go_enter Tryz.func4, Tryz.ntmps4
  go_wp2_with fail
  refine (f16t h _ (HR.out.below H0.out.bel) HF.out).mono ?_
  rintro e w1 ⟨y, rfl, y0, y1, hy, hb1⟩
  have H1 := hid (H0.out.below hb1)
  clear hb1 H0
  by_cases g0 : y < 0
  · go_wp2
    go_ret
    exact ⟨rfl, H1.out.bel⟩
  have HTB := hid (hy (by omega))
  have HZ := hid (sml_tb HTB.out)
  clear hy
  go_wp2_with fail
  refine (Srs.f17t am n cm y ms _ (by omega) y1 HN.out (HM.out.below H1.out.bel) HFM.out HMX.out).mono ?_
  rintro e w1' ⟨z, rfl, z0, hz, hb1⟩
  have H1' := hid (H1.out.below hb1)
  clear hb1 H1
  by_cases g1 : z < 0
  · go_wp2
    go_ret
    exact ⟨rfl, H1'.out.bel⟩
  have hbn := hz (by omega)
  clear hz
  obtain ⟨b0, b1, b2, b3, b4⟩ := five H1'.out.one
  -- the model
  go_wp2_with fail
  refine (f19 h _ (HR.out.below H1'.out.bel) HZ.out).mono ?_
  rintro e w2 ⟨h2, g2, k2, S2, rfl, ho2, hk2, hb2⟩
  have H2 := hid (H1'.out.below hb2)
  have HS2 := hid ho2.same
  have HO2 := hid ho2.has
  clear hb2 ho2 hk2 H1' b0 b1 b2 b3 b4
  go_wp2_with fail
  refine (Pat.f20 am n cm ms _ HN.out hbn (HM.out.below H2.out.bel)).mono ?_
  rintro e w2' ⟨rfl, hm2, hb2⟩
  have H2' := hid (H2.out.below hb2)
  have HO2' := hid (HO2.out.below hb2)
  have HM2 := hid (Pat.HasM.own hm2)
  clear hb2 hm2 H2 HO2
  go_wp2_with fail
  refine (HSp.out h2 _ _ _ HS2.out HZ.out HO2'.out HM2.out).mono ?_
  rintro e w3 ⟨v0, rfl, ho3, hb3⟩
  have H3 := hid (H2'.out.below hb3)
  have V3 := hid ho3
  have BV : Hid (∀ k, v0.ownBlock = some k → k < w3.heap.size) := fun k hk => (V3.out.lt k hk).2
  have l03 : Hid (w.heap.size < w3.heap.size) := lt_at H3.out.one
  clear hb3 ho3 H2' HO2' HS2 HM2
  obtain ⟨b0, b1, b2, b3, b4⟩ := five H3.out.one
  -- the program
  go_wp2_with fail
  refine (f19 h _ (HR.out.below H3.out.bel) HZ.out).mono ?_
  rintro e w4 ⟨h4, g4, k4, S4, rfl, ho4, hk4, hb4⟩
  have hb := (Below.refl w4.heap.size w4).alloc (Nat.le_refl _) (.cells (clB h4) 26)
  have HO4 := hid (ho4.below hb)
  have HS4 := hid ho4.same
  have HY4 : Hid (∀ i, i < h.ts.length → blk (h4.ts.getD i t0).a < w4.heap.size) := fun i hi => (ho4.ot.kin.own i hi).lts
  have HK4 := hid hk4
  have HG4 : Hid (w3.heap.size ≤ g4) := ho4.lo
  have HM4 := hid ho4.mid
  have H4 := hid ((H3.out.below hb4).below hb)
  have V4 := hid ((V3.out.below hb4).below hb)
  have HBx := hid (heap_alloc_new w4 (.cells (clB h4) 26))
  have HSz : Hid ((w4.alloc (.cells (clB h4) 26)).heap.size = w4.heap.size + 1) := by unfold Hid; simp
  clear hb4 ho4 hk4 H3 V3 b0 b1 b2 b3 b4 hb
  obtain ⟨c0, c1, c2, c3, c4⟩ := five HBx.out
  go_wp2_with fail
  generalize w4.heap.size = Y at *
  refine (Pat.f20 am n cm ms _ HN.out hbn (HM.out.below H4.out.bel)).mono ?_
  rw [HSz.out]
  rintro e w5 ⟨rfl, hm5, hb5⟩
  have hb5' := hb5
  rw [← HSz.out] at hb5'
  have H5 := hid (H4.out.below hb5')
  have V5 := hid (V4.out.below hb5')
  have O5 := hid (HO4.out.below hb5')
  have X5 := hid (kept HBx.out hb5')
  have M5 := hid hm5
  have l5 : Hid (Y + 1 < w5.heap.size) := (M5.out.lt _ rfl).2
  clear hb5 hb5' hm5 H4 V4 HO4 HBx HSz c0 c1 c2 c3 c4
  obtain ⟨c0, c1, c2, c3, c4⟩ := five X5.out
  go_wp2_with fail
  refine (HIm.out h4 _ _ _ HS4.out HZ.out O5.out.has (Pat.HasM.own M5.out)).mono ?_
  rintro e w6 ⟨r0, rfl, ho6, hb6⟩
  have H6 := hid (H5.out.below hb6)
  have V6 := hid (V5.out.below hb6)
  have O6 := hid (O5.out.below hb6)
  have X6 := hid (kept X5.out hb6)
  have M6 := hid (own_below M5.out hb6)
  have G6 := hid ho6
  have BG : Hid (∀ k, r0.ownBlock = some k → Y + 1 < k) := fun k hk => by have := (G6.out.lt k hk).1; have := l5.out; omega
  have LY : Hid (Y ≤ w6.heap.size) := by have := hb6.size; have := l5.out; unfold Hid; omega
  clear hb6 ho6 H5 V5 O5 X5 M5 l5 c0 c1 c2 c3 c4
  go_wp2_with fail
  refine (eqO hsl G6.out V6.out).mono ?_
  rintro e w7 ⟨rfl, q7, hq7⟩
  have hb7 : Below w6.heap.size w6 w7 := by rw [hq7]; exact below_drewN (Below.refl _ _) _
  have H7 := hid (H6.out.below hb7)
  have V7 := hid (V6.out.below hb7)
  have O7 := hid (O6.out.below hb7)
  have X7 := hid (kept X6.out hb7)
  have M7 := hid (own_below M6.out hb7)
  have G7 := hid (G6.out.below hb7)
  have LY7 : Hid (Y ≤ w7.heap.size) := Nat.le_trans LY.out hb7.size
  clear hb7 H6 V6 O6 X6 M6 G6 hq7 LY
  -- the arguments stay
  have HW7 := hid (WT.new H7.out.one X7.out (below_drew w7) (x := w7.drew))
  have HRx : Hid (∀ x, Below w7.heap.size w7 x → HasB x h) := fun x hx => HR.out.below (H7.out.bel.trans (hx.mono H7.out.bel.size))
  have HXx : Hid (∀ x, Below w7.heap.size w7 x → HasB x h4) := fun x hx => O7.out.has.below hx
  go_wp2_with fail
  go_region_held3 (fun x => WT w7 w.heap.size Y h h4 x) (first | exact HW7.out | assumption) (first | (go_at_call 19; refine (f19 h _ (HRx.out _ (WT.bel (by assumption))) HZ.out).mono ?_; rintro e w8 ⟨h8, g8, k8, S8, rfl, ho8, _, hb8⟩; have hh8 := ho8.has; have hs8 := HS4.out.trans ho8.same; clear ho8; have hq8 := WT.below (by assumption) hb8; clear hb8) | (go_at_call 22; refine (f22 h4 h8 _ hs8.eF hs8.eT hs8.eL hs8.lq hs8.lt (HXx.out _ (WT.bel (by assumption))) hh8 hs8.sq hs8.st (HS4.out.sml HZ.out)).mono ?_; rintro e w9 ⟨rfl, hb9⟩; have hq9 := WT.below (by assumption) hb9; clear hb9))
  have hb9 := hq9.bel
  have H9 := hid (H7.out.below hb9)
  have V9 := hid (V7.out.below hb9)
  have O9 := hid (O7.out.below hb9)
  have X9 := hid (kept X7.out hb9)
  have M9 := hid (own_below M7.out hb9)
  have G9 := hid (G7.out.below hb9)
  have LY9 : Hid (Y ≤ w9.heap.size) := Nat.le_trans LY7.out hb9.size
  clear hb9 hq9 H7 V7 O7 X7 M7 G7 HW7 HRx HXx LY7
  go_wp2_with fail
  refine (Pat.f20 am n cm ms _ HN.out hbn (HM.out.below H9.out.bel)).mono ?_
  rintro e w9a ⟨rfl, hm9, hb9⟩
  have H9a := hid (H9.out.below hb9)
  have V9a := hid (V9.out.below hb9)
  have O9a := hid (O9.out.below hb9)
  have X9a := hid (kept X9.out hb9)
  have M9a := hid (own_below M9.out hb9)
  have G9a := hid (G9.out.below hb9)
  have T9a := hid (Pat.HasM.own hm9)
  have LYa : Hid (Y ≤ w9a.heap.size) := Nat.le_trans LY9.out hb9.size
  clear hb9 hm9 H9 V9 O9 X9 M9 G9 LY9
  go_wp2_with fail
  refine (Pat.f23 _ _ n _ _ ms _ HN.out hbn (Pat.HasM.own M9a.out) T9a.out).mono ?_
  rintro e w9b ⟨rfl, hb9⟩
  have H9b := hid (H9a.out.below hb9)
  have V9b := hid (V9a.out.below hb9)
  have O9b := hid (O9a.out.below hb9)
  have X9b := hid (kept X9a.out hb9)
  have M9b := hid (own_below M9a.out hb9)
  have G9b := hid (G9a.out.below hb9)
  have LYb : Hid (Y ≤ w9b.heap.size) := Nat.le_trans LYa.out hb9.size
  clear hb9 H9a V9a O9a X9a M9a G9a T9a LYa
  obtain ⟨c0, c1, c2, c3, c4⟩ := five X9b.out
  -- marks in the arguments
  go_wp2_with fail
  refine (f24 w3.heap.size g4 k4 S4 Y h h4 _ O9b.out HTB.out HK4.out LYb.out HY4.out).mono ?_
  rintro e w10 ⟨m, rfl, hm0, hf10⟩
  have H10 := hid (H9b.out.fr hf10 (by have := HG4.out; have := l03.out; omega))
  have V10 := hid (own_fri V9b.out hf10 (fun k hk => .inl (by have := BV.out k hk; have := HG4.out; omega)))
  have G10 := hid (own_fri G9b.out hf10 (fun k hk => .inr (by have := BG.out k hk; omega)))
  have M10 := hid (own_fr M9b.out hf10 (.inr (by omega)))
  clear hf10 H9b V9b G9b O9b X9b M9b LYb c0 c1 c2 c3 c4
  go_wp2_with fail
  refine (Srs.f25 (Y + 1) n _ m _ _ hbn (by omega) M10.out).mono ?_
  rintro e w10a ⟨rfl, hg10⟩
  have LYg : Hid (w3.heap.size ≤ Y) := by have := HG4.out; have := HK4.out; have := HM4.out; unfold Hid; omega
  have H10a := hid (H10.out.grown hg10 (fun k hk => by cases hk; have := LYg.out; have := l03.out; omega))
  have V10a := hid (V10.out.kept hg10 (fun k hk e => by cases e; have h2 := BV.out _ hk; have := LYg.out; omega))
  have G10a := hid (G10.out.kept hg10 (fun k hk e => by cases e; have h1 := BG.out _ hk; omega))
  clear hg10 H10 V10 G10 M10
  obtain ⟨M, hM⟩ : ∃ M, M = m + 3 * n := ⟨_, rfl⟩
  rw [← hM]
  clear hM
  have hm1 : ¬ (M : Int) < 0 := by omega
  go_wp2_with fail
  refine (eqO hsl G10a.out V10a.out).mono ?_
  rintro e w11 ⟨rfl, q11, hq11⟩
  have hb11 : Below w10a.heap.size w10a w11 := by rw [hq11]; exact below_drewN (Below.refl _ _) _
  have H11 := hid (H10a.out.below hb11)
  have V11 := hid (V10a.out.below hb11)
  have G11 := hid (G10a.out.below hb11)
  clear hb11 hq11 H10a V10a G10a
  -- marks in the answer
  go_wp2_with fail
  refine (markO 1 (by decide) (by decide) hsl G11.out).mono ?_
  rintro e w12 ⟨rfl, ho12, hg12⟩
  have H12 := hid (H11.out.grown hg12 (fun k hk => by have := BG.out k hk; have := LYg.out; have := l03.out; omega))
  have V12 := hid (V11.out.kept hg12 (fun k hk e => by have h1 := BG.out _ e; have h2 := BV.out _ hk; have := LYg.out; omega))
  have G12 := hid ho12
  clear ho12 hg12 H11 V11 G11
  go_wp2_with fail
  refine (heldO 1 (by decide) (by decide) hsl G12.out).mono ?_
  rintro e w13 ⟨rfl, q13, hq13⟩
  have hb13 : Below w12.heap.size w12 w13 := by rw [hq13]; exact below_drewN (Below.refl _ _) _
  have H13 := hid (H12.out.below hb13)
  have V13 := hid (V12.out.below hb13)
  have G13 := hid (G12.out.below hb13)
  clear hb13 hq13 H12 V12 G12
  obtain ⟨b0, b1, b2, b3, b4⟩ := five H13.out.one
  -- once more
  go_wp2_with fail
  refine (f19 h _ (HR.out.below H13.out.bel) HZ.out).mono ?_
  rintro e w14 ⟨h14, g14, k14, S14, rfl, ho14, hk14, hb14⟩
  have H14 := hid (H13.out.below hb14)
  have V14 := hid (V13.out.below hb14)
  have G14 := hid (G13.out.below hb14)
  have HS14 := hid ho14.same
  have HO14 := hid ho14.has
  clear hb14 ho14 hk14 H13 V13 G13 b0 b1 b2 b3 b4
  go_wp2_with fail
  refine (Pat.f20 am n cm ms _ HN.out hbn (HM.out.below H14.out.bel)).mono ?_
  rintro e w14a ⟨rfl, hm14, hb14⟩
  have H14a := hid (H14.out.below hb14)
  have V14a := hid (V14.out.below hb14)
  have G14a := hid (G14.out.below hb14)
  have HO14a := hid (HO14.out.below hb14)
  have M14 := hid (Pat.HasM.own hm14)
  clear hb14 hm14 H14 V14 G14 HO14
  go_wp2_with fail
  refine (HIm.out h14 _ _ _ HS14.out HZ.out HO14a.out M14.out).mono ?_
  rintro e w15 ⟨r1, rfl, ho15, hb15⟩
  have H15 := hid (H14a.out.below hb15)
  have V15 := hid (V14a.out.below hb15)
  have G15 := hid (G14a.out.below hb15)
  have R15 := hid ho15
  clear hb15 ho15 H14a V14a G14a HO14a HS14 M14
  go_wp2_with fail
  refine (eqO hsl R15.out V15.out).mono ?_
  rintro e w16 ⟨rfl, q16, hq16⟩
  have hb16 : Below w15.heap.size w15 w16 := by rw [hq16]; exact below_drewN (Below.refl _ _) _
  have H16 := hid (H15.out.below hb16)
  have G16 := hid (G15.out.below hb16)
  clear hb16 hq16 H15 V15 G15 R15
  go_wp2_with fail
  refine (heldO 1 (by decide) (by decide) hsl G16.out).mono ?_
  rintro e w17 ⟨rfl, q17, rfl⟩
  go_wp2
  go_ret
  exact ⟨rfl, below_drewN H16.out.bel _⟩
end Go.Proofs.YtginepjkdjikiaaGreat.Blk
