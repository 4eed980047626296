/- The walk of FnExactUnpackChunk. -/
import Derived.Test.YteblbcbfaomdmaaDoorUcE
import Derived.Test.YteblbcbfaomdmaaDoorMark
namespace Go.Proofs.YteblbcbfaomdmaaDoor.Chk
open Go.RowKit Go.Proofs.YteblbcbfaomdmaaDoor.Bts
open Go.Proofs.YteblbcbfaomdmaaDoor.Smp hiding hid ret_int below_drewN

set_option maxRecDepth 100000 in
set_option maxHeartbeats 8000000 in
theorem walkUnpack (a : Option Addr) (n c : Nat) (s : Int) (zs : List Int) (w : World) (hn : zs.length = n) (hlen : n ≤ 9223372036854775807) (h255 : ∀ j, 0 ≤ zs.getD j 0 ∧ zs.getD j 0 ≤ 255) (hr : Byt.Has w a zs) (hc : Cls w) (ht : Tab w) :
    Calls Tryd.prog 5 #[.agg #[.slice a n c, .int .i64 s]] w fun e w' => e = .returned (.bool true) ∧ Below w.heap.size w w' := by
  have hw2 : 2 ≤ w.heap.size := World.block_lt_of_cell? w _ (ht 0 (by decide))
  have HBA := hid ((Below.refl w.heap.size w).alloc (Nat.le_refl _) (.cells #[.slice a n c, .int .i64 s] 46))
  have HXA := hid (heap_alloc_new w (.cells #[.slice a n c, .int .i64 s] 46))
  have HR := hid hr
  have HC := hid hc
  have HT := hid ht
  have HN := hid hn
  clear hr hc ht
  by_cases hbig : n ≤ 1048576
  · have HK : Hid (Dk n zs) := ⟨hn, hbig, h255⟩
    have hif : (if n ≤ 1048576 then 1048576 - (n : Int) else -1) = 1048576 - (n : Int) := if_pos hbig
    have hll := unpB_len zs s
    obtain ⟨L, b, hLb⟩ : ∃ L b, unpB zs s = (L, b) := ⟨_, _, rfl⟩
    rw [hLb] at hll
    simp only at hll
    have HLB := hid hLb
    have hbb : (b != b) = false := by simp
    have HM := hid (fun (W : World) (g m : Nat) (hh : Byt.Has W (some ⟨g, 0, none⟩) zs) => f28 (some ⟨g, 0, none⟩) n m s zs W HK.out hh)
    have HP := hid (fun (W : World) (g m : Nat) (hh : Byt.Has W (some ⟨g, 0, none⟩) zs) (hb : Below w.heap.size w W) => f11a (some ⟨g, 0, none⟩) n m s zs W HK.out hh (HC.out.below hb) (HT.out.bel hb hw2) (Nat.le_trans hw2 hb.size))
    rw [hLb] at HM HP
    clear hn h255 hLb
    go_enter Tryd.func5, Tryd.ntmps5
    go_wp2_with fail
    refine (f27 a n c s _ hlen).mono ?_
    rw [hif]
    rintro e w1 ⟨rfl, hb1⟩
    have HX1 := hid (box_below HXA.out hb1)
    have HB1 := hid (HBA.out.trans (hb1.mono HBA.out.size))
    have x0 : w1.cell? ⟨w.heap.size, 0, none⟩ = some (.slice a n c) := cell_at HX1.out 0
    have x1 : w1.cell? ⟨w.heap.size, 1, none⟩ = some (.int .i64 s) := cell_at HX1.out 1
    clear hb1 hif
    -- the model
    go_wp2_with fail
    refine (f29 a n c s zs _ HN.out (by omega) (HR.out.below HB1.out)).mono ?_
    rintro e w2 ⟨g2, rfl, _, ho2, hb2⟩
    have HX2 := hid (box_below HX1.out hb2)
    have HB2 := hid (HB1.out.trans (hb2.mono HB1.out.size))
    have A2 := hid (Byt.Has.own ho2)
    clear hb2 ho2 x0 x1
    go_wp2_with fail
    refine (HM.out _ _ _ A2.out).mono ?_
    rintro e w3 ⟨v0, rfl, ho3, hb3⟩
    obtain ⟨va, vc, rfl⟩ := own_form ho3
    have HX3 := hid (box_below HX2.out hb3)
    have HB3 := hid (HB2.out.trans (hb3.mono HB2.out.size))
    have V3 := hid ho3
    have BV : Hid (∀ k, (Value.slice va L.length vc).ownBlock = some k → k < w3.heap.size) := fun k hk => (V3.out.lt k hk).2
    have x0 : w3.cell? ⟨w.heap.size, 0, none⟩ = some (.slice a n c) := cell_at HX3.out 0
    have x1 : w3.cell? ⟨w.heap.size, 1, none⟩ = some (.int .i64 s) := cell_at HX3.out 1
    clear hb3 A2 ho3
    -- the program
    go_wp2_with fail
    refine (f29 a n c s zs _ HN.out (by omega) (HR.out.below HB3.out)).mono ?_
    rintro e w4 ⟨g4, rfl, hg4, ho4, hb4⟩
    have hg4l : g4 < w4.heap.size := (ho4.lt g4 rfl).2
    have hal := (Below.refl w4.heap.size w4).alloc (Nat.le_refl _) (.cells #[.slice (some ⟨g4, 0, none⟩) n n, .int .i64 s] 26)
    have HX5 := hid (box_below (box_below HX3.out hb4) hal)
    have HB5 := hid ((HB3.out.trans (hb4.mono HB3.out.size)).trans (hal.mono (HB3.out.trans (hb4.mono HB3.out.size)).size))
    have HY5 := hid (heap_alloc_new w4 (.cells #[.slice (some ⟨g4, 0, none⟩) n n, .int .i64 s] 26))
    have A5 := hid (own_below ho4 hal)
    have V5 := hid ((V3.out.below hb4).below hal)
    clear hb4 ho4 x0 x1 hal V3
    go_wp2_with fail
    refine (HP.out _ _ _ (Byt.Has.own A5.out) HB5.out).mono ?_
    rintro e w6 ⟨g0, rfl, ho6, hb6⟩
    obtain ⟨ga, gc, rfl⟩ := own_form ho6
    have HX6 := hid (box_below HX5.out hb6)
    have HY6 := hid (box_below HY5.out hb6)
    have HB6 := hid (HB5.out.trans (hb6.mono HB5.out.size))
    have A6 := hid (own_below A5.out hb6)
    have V6 := hid (V5.out.below hb6)
    have G6 := hid ho6
    have BG : Hid (∀ k, (Value.slice ga L.length gc).ownBlock = some k → w4.heap.size < k) := fun k hk => by have := (G6.out.lt k hk).1; simp at this; omega
    clear hb6 A5 V5 ho6
    go_wp2_with fail
    refine (Smp.eqO (by omega) G6.out V6.out).mono ?_
    rintro e w7 ⟨rfl, hb7⟩
    have HX7 := hid (box_below HX6.out hb7)
    have HY7 := hid (box_below HY6.out hb7)
    have HB7 := hid (HB6.out.trans (hb7.mono HB6.out.size))
    have A7 := hid (own_below A6.out hb7)
    have V7 := hid (V6.out.below hb7)
    have G7 := hid (G6.out.below hb7)
    have HS := hid (s4b_of HX7.out HY7.out)
    clear hb7 A6 V6 G6
    -- the argument stays
    go_wp2_with fail
    go_region_held3 (fun w' => S4b w.heap.size w4.heap.size a n c s g4 w') (first | exact HS.out | assumption) (first | (go_at_call 29; refine (f29 a n c s zs (World.drew _) HN.out (by omega) ((HR.out.below HB7.out).below (Below.refl _ _).drew)).mono ?_; rintro e w8 ⟨g8, rfl, _, ho8, hb8⟩; have hs8 := s4b_of (box_below (w := World.drew _) HX7.out hb8) (box_below (w := World.drew _) HY7.out hb8)) | (go_at_call 22; refine (f22 _ _ n _ _ s zs _ HN.out (by omega) (((Byt.Has.own A7.out).below (Below.refl _ _).drew).below hb8) (Byt.Has.own ho8)).mono ?_; rintro e w9 ⟨rfl, hb9⟩; have hs9 := s4b_of (box_below (box_below (w := World.drew _) HX7.out hb8) hb9) (box_below (box_below (w := World.drew _) HY7.out hb8) hb9)))
    have hb79 := (Bts.below_drew hb8).trans (hb9.mono hb8.size)
    have HX9 := hid (box_below HX7.out hb79)
    have HY9 := hid (box_below HY7.out hb79)
    have HB9 := hid (HB7.out.trans (hb79.mono HB7.out.size))
    have A9 := hid (own_below A7.out hb79)
    have V9 := hid (V7.out.below hb79)
    have G9 := hid (G7.out.below hb79)
    have y0 : w9.cell? ⟨w4.heap.size, 0, none⟩ = some (.slice (some ⟨g4, 0, none⟩) n n) := cell_at HY9.out 0
    have y1 : w9.cell? ⟨w4.heap.size, 1, none⟩ = some (.int .i64 s) := cell_at HY9.out 1
    clear hb8 hb9 hs8 hs9 ho8 hb79 A7 V7 G7 HS HX7 HY7
    -- marks in the argument
    go_wp2_with fail
    refine (f25 (some ⟨g4, 0, none⟩) n n _ s zs _ hbig A9.out).mono ?_
    rintro e w10 ⟨rfl, _, hg10⟩
    have hg10' : w9.grownBy w10 (some g4) := hg10
    have hB4 : w.heap.size < w3.heap.size := (Array.getElem?_eq_some_iff.1 HX3.out).1
    have HX10 := hid (boxk HX9.out hg10' (by omega))
    have HB10 := hid (HB9.out.grown hg10' HB9.out.size (by intro k hk; cases hk; have := HB3.out.size; omega))
    have V10 := hid (V9.out.kept hg10' (fun k hk e => by cases e; have := BV.out _ hk; omega))
    have G10 := hid (G9.out.kept hg10' (fun k hk e => by cases e; have := BG.out _ hk; omega))
    clear hg10 hg10' V9 G9 A9 y0 y1 HX9 HY9
    go_wp2_with fail
    refine (Smp.eqO (by omega) G10.out V10.out).mono ?_
    rintro e w11 ⟨rfl, hb11⟩
    have HX11 := hid (box_below HX10.out hb11)
    have HB11 := hid (HB10.out.trans (hb11.mono HB10.out.size))
    have V11 := hid (V10.out.below hb11)
    have G11 := hid (G10.out.below hb11)
    clear hb11 V10 G10
    -- marks in the answer
    go_wp2_with fail
    refine (Smp.markO 1 (by omega) G11.out).mono ?_
    rintro e w12 ⟨rfl, ho12, hg12⟩
    have HB12 := hid (HB11.out.grown hg12 HB11.out.size (fun k hk => by have := BG.out k hk; have := HB3.out.size; omega))
    have V12 := hid (V11.out.kept hg12 (fun k hk e => by have h1 := BG.out _ e; have h2 := BV.out _ hk; omega))
    have HX12 : Hid (w12.heap[w.heap.size]? = some (.cells #[.slice a n c, .int .i64 s] 46 (0, 0))) := by
      unfold Hid
      rw [hg12.block w.heap.size (Array.getElem?_eq_some_iff.1 HX11.out).1 (fun e => by have := BG.out _ e.symm; omega)]; exact HX11.out
    have G12 := hid ho12
    clear ho12 hg12 V11 G11
    go_wp2_with fail
    refine (Smp.heldO 1 (by omega) G12.out).mono ?_
    rintro e w13 ⟨rfl, hw13⟩
    subst hw13
    have x0 : w13.cell? ⟨w.heap.size, 0, none⟩ = some (.slice a n c) := cell_at HX12.out 0
    have x1 : w13.cell? ⟨w.heap.size, 1, none⟩ = some (.int .i64 s) := cell_at HX12.out 1
    -- once more
    go_wp2_with fail
    refine (f29 a n c s zs _ HN.out (by omega) (HR.out.below HB12.out)).mono ?_
    rintro e w14 ⟨g14, rfl, _, ho14, hb14⟩
    have HB14 := hid (HB12.out.trans (hb14.mono HB12.out.size))
    have V14 := hid (V12.out.below hb14)
    have G14 := hid (G12.out.below hb14)
    have A14 := hid (Byt.Has.own ho14)
    clear hb14 ho14 V12 G12 x0 x1
    go_wp2_with fail
    refine (HP.out _ _ _ A14.out HB14.out).mono ?_
    rintro e w15 ⟨h0, rfl, ho15, hb15⟩
    obtain ⟨ha, hc', rfl⟩ := own_form ho15
    have HB15 := hid (HB14.out.trans (hb15.mono HB14.out.size))
    have V15 := hid (V14.out.below hb15)
    have G15 := hid (G14.out.below hb15)
    have H15 := hid ho15
    clear hb15 ho15 V14 G14
    go_wp2_with fail
    refine (Smp.eqO (by omega) H15.out V15.out).mono ?_
    rintro e w16 ⟨rfl, hb16⟩
    have HB16 := hid (HB15.out.trans (hb16.mono HB15.out.size))
    have G16 := hid (G15.out.below hb16)
    clear hb16 H15 V15 G15
    go_wp2_with fail
    refine (Smp.heldO 1 (by omega) G16.out).mono ?_
    rintro e w17 ⟨rfl, rfl⟩
    go_wp2
    go_ret
    exact ⟨rfl, HB16.out⟩
  · have hif : (if n ≤ 1048576 then 1048576 - (n : Int) else -1) = -1 := if_neg hbig
    clear hn h255
    go_enter Tryd.func5, Tryd.ntmps5
    go_wp2_with fail
    refine (f27 a n c s _ hlen).mono ?_
    rw [hif]
    rintro e w1 ⟨rfl, hb1⟩
    have HB1 := hid (HBA.out.trans (hb1.mono HBA.out.size))
    clear hb1
    go_wp2
    go_ret
    exact ⟨rfl, HB1.out⟩
end Go.Proofs.YteblbcbfaomdmaaDoor.Chk
