/- The walk of FnExactPostings. -/
import Derived.Test.YtginepjkdjikiaaJl
namespace Go.Proofs.Ytginepjkdjikiaa.Blk
open Go.RowKit
open Go.Proofs.Ytginepjkdjikiaa.Srs (hid lt_at kept Q HasQ q0 blk Fr)
open Go.Proofs.Ytginepjkdjikiaa.Stn (T t0)
open Go.Proofs.Ytginepjkdjikiaa.Ino (Own eqO markO heldO below_drewN)

theorem pst_same {R : ByteArray → Bool} {n : Nat} {qs d : List Q} {x : ByteArray} (h : Srs.Same n qs d) : ∀ k, k ≤ n → pst R d x k = pst R qs x k := by
  intro k
  induction k with
  | zero => intro _; rfl
  | succ k ih =>
    intro hk
    have e : lb d k = lb qs k := congrArg Prod.fst (h k (by omega))
    rw [pst, pst, ih (by omega), e]
theorem SameB.pos {h h' : Bk} (s : SameB h h') (x v : ByteArray) : pos h' x v = pos h x v := by
  unfold Blk.pos
  rw [s.gd, s.lq, pst_same s.sq _ (Nat.le_refl _)]
/-- Two boxes cell by cell; what was there at w7 is as it was. -/
abbrev WT (w7 : World) (A B : Nat) (h h' : Bk) (x : World) : Prop :=
  x.cell? ⟨A, 0, none⟩ = some (.int .i64 h.F) ∧ x.cell? ⟨A, 1, none⟩ = some (.int .i64 h.T) ∧ x.cell? ⟨A, 2, none⟩ = some (.int .i64 h.L) ∧ x.cell? ⟨A, 3, none⟩ = some (.slice h.a h.qs.length h.c) ∧ x.cell? ⟨A, 4, none⟩ = some (.slice h.b h.ts.length h.d) ∧
  x.cell? ⟨B, 0, none⟩ = some (.int .i64 h'.F) ∧ x.cell? ⟨B, 1, none⟩ = some (.int .i64 h'.T) ∧ x.cell? ⟨B, 2, none⟩ = some (.int .i64 h'.L) ∧ x.cell? ⟨B, 3, none⟩ = some (.slice h'.a h'.qs.length h'.c) ∧ x.cell? ⟨B, 4, none⟩ = some (.slice h'.b h'.ts.length h'.d) ∧
  x.heap[A]? = some (.cells (clB h) 25) ∧ x.heap[B]? = some (.cells (clB h') 31) ∧ Below w7.heap.size w7 x
theorem WT.new {w7 : World} {A B : Nat} {h h' : Bk} {x : World} (h1 : x.heap[A]? = some (.cells (clB h) 25)) (h2 : x.heap[B]? = some (.cells (clB h') 31)) (hb : Below w7.heap.size w7 x) : WT w7 A B h h' x := by
  obtain ⟨b0, b1, b2, b3, b4⟩ := five h1
  obtain ⟨c0, c1, c2, c3, c4⟩ := five h2
  exact ⟨b0, b1, b2, b3, b4, c0, c1, c2, c3, c4, h1, h2, hb⟩
theorem WT.bel {w7 : World} {A B : Nat} {h h' : Bk} {x : World} (g : WT w7 A B h h' x) : Below w7.heap.size w7 x := g.2.2.2.2.2.2.2.2.2.2.2.2
theorem WT.below {w7 : World} {A B : Nat} {h h' : Bk} {x y : World} (g : WT w7 A B h h' x) (hb : Below x.heap.size x y) : WT w7 A B h h' y :=
  WT.new (kept g.2.2.2.2.2.2.2.2.2.2.1 hb) (kept g.2.2.2.2.2.2.2.2.2.2.2.1 hb) (g.bel.trans (hb.mono g.bel.size))
set_option maxHeartbeats 8000000 in
theorem walkPost (h : Bk) (x v : ByteArray) (w : World) (hr : HasB w h) (hf : FitB h) (hx : x.size ≤ maxLen) (hv : v.size ≤ maxLen) :
    Calls Try.prog 4 #[agB h, .string x, .string v] w fun e w' => e = .returned (.bool true) ∧ Below w.heap.size w w' := by
  unfold maxLen at hx hv
  have HR := hid hr
  have HF := hid hf
  have H0 : Hid (Wp w h (w.alloc (.cells (clB h) 25))) := ⟨heap_alloc_new w _, (Below.refl w.heap.size w).alloc (Nat.le_refl _) _⟩
  clear hr hf
  by_cases hx1 : x.size ≤ 1048576
  rotate_left
  · have hx1' : (1048576 : Int) < (x.size : Int) := by omega
    go_enter Try.func4, Try.ntmps4
    go_wp2
    go_ret
    exact ⟨rfl, H0.out.bel⟩
  have hx1' : ¬ (1048576 : Int) < (x.size : Int) := by omega
  by_cases hv1 : v.size ≤ 1048576
  rotate_left
  · have hv1' : (1048576 : Int) < (v.size : Int) := by omega
    go_enter Try.func4, Try.ntmps4
    go_wp2
    go_ret
    exact ⟨rfl, H0.out.bel⟩
  have hv1' : ¬ (1048576 : Int) < (v.size : Int) := by omega
  have hsl : (pos h x v).length ≤ 1048576 := Nat.le_trans (pos_len h x v) (by decide)
  have HPs : Hid (∀ h', SameB h h' → pos h' x v = pos h x v) := fun h' s => s.pos x v
  generalize pos h x v = sel at *
  have hq : (((1 : Int) + (sel.length : Int)) != (1 : Int) + (sel.length : Int)) = false := by simp
  go_enter Try.func4, Try.ntmps4
  go_wp2_with fail
  refine (f5t h _ (HR.out.below H0.out.bel) HF.out).mono ?_
  rintro e w1 ⟨y, rfl, y0, hy, hb1⟩
  have H1 := hid (H0.out.below hb1)
  clear hb1 H0
  by_cases g0 : y < 0
  · go_wp2
    go_ret
    exact ⟨rfl, H1.out.bel⟩
  have HTB := hid (hy (by omega))
  have HZ := hid (sml_tb HTB.out)
  clear hy
  obtain ⟨b0, b1, b2, b3, b4⟩ := five H1.out.one
  -- the model
  go_wp2_with fail
  refine (f7 h _ (HR.out.below H1.out.bel) HZ.out).mono ?_
  rintro e w2 ⟨h2, g2, k2, S2, rfl, ho2, hk2, hb2⟩
  have H2 := hid (H1.out.below hb2)
  have HS2 := hid ho2.same
  have HO2 := hid ho2.has
  clear hb2 ho2 hk2 H1 b0 b1 b2 b3 b4
  go_wp2_with fail
  refine (f10 h2 x v _ HO2.out (HS2.out.fit HF.out) (HS2.out.sml HZ.out)).mono ?_
  rw [HPs.out h2 HS2.out]
  rintro e w3 ⟨v0, rfl, ho3, hb3⟩
  have H3 := hid (H2.out.below hb3)
  have V3 := hid ho3
  have BV : Hid (∀ k, v0.ownBlock = some k → k < w3.heap.size) := fun k hk => (V3.out.lt k hk).2
  have l03 : Hid (w.heap.size < w3.heap.size) := lt_at H3.out.one
  clear hb3 ho3 H2 HO2 HS2
  obtain ⟨b0, b1, b2, b3, b4⟩ := five H3.out.one
  -- the program
  go_wp2_with fail
  refine (f7 h _ (HR.out.below H3.out.bel) HZ.out).mono ?_
  rintro e w4 ⟨h4, g4, k4, S4, rfl, ho4, hk4, hb4⟩
  have hb := (Below.refl w4.heap.size w4).alloc (Nat.le_refl _) (.cells (clB h4) 31)
  have HO4 := hid (ho4.below hb)
  have HS4 := hid ho4.same
  have HY4 : Hid (∀ i, i < h.ts.length → blk (h4.ts.getD i t0).a < w4.heap.size) := fun i hi => (ho4.ot.kin.own i hi).lts
  have HK4 := hid hk4
  have HG4 : Hid (w3.heap.size ≤ g4) := ho4.lo
  have HM4 := hid ho4.mid
  have H4 := hid ((H3.out.below hb4).below hb)
  have V4 := hid ((V3.out.below hb4).below hb)
  have HBx := hid (heap_alloc_new w4 (.cells (clB h4) 31))
  have HSz : Hid ((w4.alloc (.cells (clB h4) 31)).heap.size = w4.heap.size + 1) := by unfold Hid; simp
  clear hb4 ho4 hk4 H3 V3 b0 b1 b2 b3 b4 hb
  obtain ⟨c0, c1, c2, c3, c4⟩ := five HBx.out
  go_wp2_with fail
  generalize w4.heap.size = Y at *
  refine (f11 h4 x v _ HO4.out.has (HS4.out.fit HF.out) (HS4.out.sml HZ.out)).mono ?_
  rw [HPs.out h4 HS4.out]
  rintro e w6 ⟨r0, rfl, ho6, hb6⟩
  have H6 := hid (H4.out.below hb6)
  have V6 := hid (V4.out.below hb6)
  have O6 := hid (HO4.out.below hb6)
  have X6 := hid (kept HBx.out hb6)
  have G6 := hid ho6
  have BG : Hid (∀ k, r0.ownBlock = some k → Y < k) := fun k hk => by have := (G6.out.lt k hk).1; have := HSz.out; omega
  have LY : Hid (Y ≤ w6.heap.size) := by have := hb6.size; have := HSz.out; unfold Hid; omega
  clear hb6 ho6 H4 V4 HO4 HBx HSz c0 c1 c2 c3 c4
  go_wp2_with fail
  refine (eqO hsl G6.out V6.out).mono ?_
  rintro e w7 ⟨rfl, q7, hq7⟩
  have hb7 : Below w6.heap.size w6 w7 := by rw [hq7]; exact below_drewN (Below.refl _ _) _
  have H7 := hid (H6.out.below hb7)
  have V7 := hid (V6.out.below hb7)
  have O7 := hid (O6.out.below hb7)
  have X7 := hid (kept X6.out hb7)
  have G7 := hid (G6.out.below hb7)
  have LY7 : Hid (Y ≤ w7.heap.size) := Nat.le_trans LY.out hb7.size
  clear hb7 H6 V6 O6 X6 G6 hq7 LY
  -- the argument stays
  have HW7 := hid (WT.new H7.out.one X7.out (below_drew w7) (x := w7.drew))
  have HRx : Hid (∀ x, Below w7.heap.size w7 x → HasB x h) := fun x hx => HR.out.below (H7.out.bel.trans (hx.mono H7.out.bel.size))
  have HXx : Hid (∀ x, Below w7.heap.size w7 x → HasB x h4) := fun x hx => O7.out.has.below hx
  go_wp2_with fail
  go_region_held3 (fun x => WT w7 w.heap.size Y h h4 x) (first | exact HW7.out | assumption) (first | (go_at_call 7; refine (f7 h _ (HRx.out _ (WT.bel (by assumption))) HZ.out).mono ?_; rintro e w8 ⟨h8, g8, k8, S8, rfl, ho8, _, hb8⟩; have hh8 := ho8.has; have hs8 := HS4.out.trans ho8.same; clear ho8; have hq8 := WT.below (by assumption) hb8; clear hb8) | (go_at_call 9; refine (f9 h4 h8 _ hs8.eF hs8.eT hs8.eL hs8.lq hs8.lt (HXx.out _ (WT.bel (by assumption))) hh8 hs8.sq hs8.st (HS4.out.sml HZ.out)).mono ?_; rintro e w9 ⟨rfl, hb9⟩; have hq9 := WT.below (by assumption) hb9; clear hb9))
  have hb9 := hq9.bel
  have H9 := hid (H7.out.below hb9)
  have V9 := hid (V7.out.below hb9)
  have O9 := hid (O7.out.below hb9)
  have X9 := hid (kept X7.out hb9)
  have G9 := hid (G7.out.below hb9)
  have LY9 : Hid (Y ≤ w9.heap.size) := Nat.le_trans LY7.out hb9.size
  clear hb9 hq9 H7 V7 O7 X7 G7 HW7 HRx HXx LY7
  obtain ⟨c0, c1, c2, c3, c4⟩ := five X9.out
  -- marks in the argument
  go_wp2_with fail
  refine (f13 w3.heap.size g4 k4 S4 Y h h4 _ O9.out HTB.out HK4.out LY9.out HY4.out).mono ?_
  rintro e w10 ⟨m, rfl, hf10⟩
  have H10 := hid (H9.out.fr hf10 (by have := HG4.out; have := l03.out; omega))
  have V10 := hid (own_fri V9.out hf10 (fun k hk => .inl (by have := BV.out k hk; have := HG4.out; omega)))
  have G10 := hid (own_fri G9.out hf10 (fun k hk => .inr (by have := BG.out k hk; omega)))
  have hm0 : ¬ (m : Int) < 0 := by omega
  clear hf10 H9 V9 G9 O9 X9 LY9 c0 c1 c2 c3 c4
  go_wp2_with fail
  refine (eqO hsl G10.out V10.out).mono ?_
  rintro e w11 ⟨rfl, q11, hq11⟩
  have hb11 : Below w10.heap.size w10 w11 := by rw [hq11]; exact below_drewN (Below.refl _ _) _
  have H11 := hid (H10.out.below hb11)
  have V11 := hid (V10.out.below hb11)
  have G11 := hid (G10.out.below hb11)
  clear hb11 hq11 H10 V10 G10
  -- marks in the answer
  go_wp2_with fail
  refine (markO 1 (by decide) (by decide) hsl G11.out).mono ?_
  rintro e w12 ⟨rfl, ho12, hg12⟩
  have LYg : Hid (w3.heap.size ≤ Y) := by have := HG4.out; have := HK4.out; have := HM4.out; unfold Hid; omega
  have H12 := hid (H11.out.grown hg12 (fun k hk => by have := BG.out k hk; have := LYg.out; have := l03.out; omega))
  have V12 := hid (V11.out.kept hg12 (fun k hk e => by have h1 := BG.out _ e; have h2 := BV.out _ hk; have := LYg.out; omega))
  have G12 := hid ho12
  clear ho12 hg12 H11 V11 G11
  go_wp2_with fail
  refine (heldO 1 (by decide) (by decide) hsl G12.out).mono ?_
  rintro e w13 ⟨rfl, q13, hq13⟩
  have hb13 : Below w12.heap.size w12 w13 := by rw [hq13]; exact below_drewN (Below.refl _ _) _
  have H13 := hid (H12.out.below hb13)
  have V13 := hid (V12.out.below hb13)
  have G13 := hid (G12.out.below hb13)
  clear hb13 hq13 H12 V12 G12
  obtain ⟨b0, b1, b2, b3, b4⟩ := five H13.out.one
  -- once more
  go_wp2_with fail
  refine (f7 h _ (HR.out.below H13.out.bel) HZ.out).mono ?_
  rintro e w14 ⟨h14, g14, k14, S14, rfl, ho14, hk14, hb14⟩
  have H14 := hid (H13.out.below hb14)
  have V14 := hid (V13.out.below hb14)
  have G14 := hid (G13.out.below hb14)
  have HS14 := hid ho14.same
  have HO14 := hid ho14.has
  clear hb14 ho14 hk14 H13 V13 G13 b0 b1 b2 b3 b4
  go_wp2_with fail
  refine (f11 h14 x v _ HO14.out (HS14.out.fit HF.out) (HS14.out.sml HZ.out)).mono ?_
  rw [HPs.out h14 HS14.out]
  rintro e w15 ⟨r1, rfl, ho15, hb15⟩
  have H15 := hid (H14.out.below hb15)
  have V15 := hid (V14.out.below hb15)
  have G15 := hid (G14.out.below hb15)
  have R15 := hid ho15
  clear hb15 ho15 H14 V14 G14 HO14 HS14
  go_wp2_with fail
  refine (eqO hsl R15.out V15.out).mono ?_
  rintro e w16 ⟨rfl, q16, hq16⟩
  have hb16 : Below w15.heap.size w15 w16 := by rw [hq16]; exact below_drewN (Below.refl _ _) _
  have H16 := hid (H15.out.below hb16)
  have G16 := hid (G15.out.below hb16)
  clear hb16 hq16 H15 V15 G15 R15
  go_wp2_with fail
  refine (heldO 1 (by decide) (by decide) hsl G16.out).mono ?_
  rintro e w17 ⟨rfl, q17, rfl⟩
  go_wp2
  go_ret
  exact ⟨rfl, below_drewN H16.out.bel _⟩
end Go.Proofs.Ytginepjkdjikiaa.Blk
