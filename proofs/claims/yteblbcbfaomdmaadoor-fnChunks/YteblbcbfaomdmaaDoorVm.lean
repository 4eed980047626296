/- The walk of FnExactPackChunk. -/
import Derived.Test.YteblbcbfaomdmaaDoorVl
import Derived.Test.YteblbcbfaomdmaaDoorTb
import Derived.Test.YteblbcbfaomdmaaDoorMark
import Derived.Laws.AppendOwn
namespace Go.Proofs.YteblbcbfaomdmaaDoor.Chk
open Go.RowKit Go.Proofs.YteblbcbfaomdmaaDoor.Bts Go.Proofs.YteblbcbfaomdmaaDoor.Byt
open Go.Proofs.YteblbcbfaomdmaaDoor.Smp hiding hid ret_int below_drewN

theorem packOf_len (ls : List Sm) : (packOf ls).1.length ≤ 10000 := by
  unfold packOf
  split
  · rename_i h
    obtain ⟨h1, _, h3⟩ := packK_ok ls ls.length h.2
    have := h1.len
    omega
  · simp
theorem row_has {w : World} {base n c : Nat} {a : Option Addr} {zs : List Int} (h : w.ownsRow base 5 1 (.slice a n c) n (zs.map (Value.int .u8))) : Has w a zs := by
  rcases h.2 with ⟨h1, h2⟩ | ⟨g, cap, cur, h1, _⟩
  · refine .inl (List.eq_nil_of_length_eq_zero ?_)
    have := h.1
    simp at this
    omega
  · cases h1
    exact Has.own h
theorem row_len {w : World} {base n c : Nat} {a : Option Addr} {zs : List Int} (h : w.ownsRow base 5 1 (.slice a n c) n (zs.map (Value.int .u8))) : zs.length = n := by have := h.1; simpa using this
theorem row_nil {w : World} {base n c : Nat} {a : Option Addr} {xs : List Value} (h : w.ownsRow base 5 1 (.slice a n c) n xs) : (a = none ∧ n = 0 ∧ c = 0) ∨ ∃ g, a = some ⟨g, 0, none⟩ := by
  rcases h.2 with ⟨h1, h2⟩ | ⟨g, cap, cur, h1, _⟩
  · cases h1; exact .inl ⟨rfl, rfl, rfl⟩
  · cases h1; exact .inr ⟨g, rfl⟩
theorem row_kept {w w' : World} {base e size n : Nat} {r : Option Nat} {v : Value} {xs : List Value} (h : w.ownsRow base e size v n xs) (hg : w.grownBy w' r) (hne : ∀ k, v.ownBlock = some k → r ≠ some k) : w'.ownsRow base e size v n xs :=
  World.ownsRow.kept h hg (by
    cases hv : v.ownBlock with
    | none => exact .inl rfl
    | some k => exact .inr (fun e => hne k hv e.symm))

theorem box_grown {w w' : World} {b : Nat} {o : Obj} {r : Option Nat} (h : w.heap[b]? = some o) (hg : w.grownBy w' r) (hne : r ≠ some b) : w'.heap[b]? = some o :=
  (hg.block b (lt_of_block h) (fun e => hne e.symm)).trans h

set_option maxHeartbeats 4000000 in
theorem walkPack (a : Option Addr) (c : Nat) (ls : List Sm) (w : World) (hmax : ls.length ≤ maxLen) (hr : HasS w a ls) (hc : Cls w) (ht : Tab w) :
    Calls Tryd.prog 4 #[.slice a ls.length c] w fun e w' => e = .returned (.bool true) ∧ Below w.heap.size w w' := by
  have hw2 : 2 ≤ w.heap.size := World.block_lt_of_cell? w _ (ht 0 (by decide))
  have HM := hid hmax
  have HR := hid hr
  have HC := hid hc
  have HT := hid ht
  clear hmax hr hc ht
  by_cases hbig : ls.length ≤ 1048576
  · have hif : (if (1048576 : Int) < (ls.length : Int) then (-1 : Int) else 1048576 - (ls.length : Int)) = 1048576 - (ls.length : Int) := if_neg (by omega)
    have hpl := packOf_len ls
    obtain ⟨p, hp⟩ : ∃ p, p = packOf ls := ⟨_, rfl⟩
    rw [← hp] at hpl
    have HP := hid hp
    clear hp
    go_enter Tryd.func4, Tryd.ntmps4
    go_wp2_with fail
    refine (f19 a ls.length c 1048576 _ HM.out (by omega) (by omega)).mono ?_
    rw [hif]
    rintro e w1 ⟨rfl, rfl⟩
    clear hif
    -- the model
    go_wp2_with fail
    refine (f21 a c ls _ hbig HR.out).mono ?_
    rintro e w2 ⟨rfl, ho2, hb2⟩
    have HB2 := hid hb2
    have A2 := hid (HasS.own ho2)
    clear hb2 ho2
    go_wp2_with fail
    refine (f20 _ _ ls _ hbig A2.out).mono ?_
    rintro e w3 ⟨v0, rfl, ho3, hb3⟩
    rw [← HP.out] at ho3
    obtain ⟨va, vn, vc, rfl, hv3⟩ := ho3
    have hvn := row_len hv3
    have H3 := hid (HB2.out.trans (hb3.mono HB2.out.size))
    have Q3 := hid hv3
    clear hb3 hv3 A2
    -- the program
    go_wp2_with fail
    obtain ⟨W3, hW3⟩ : ∃ W3, W3 = w3.alloc (.cells #[.slice va vn vc, .int .i64 (p.2 : Int)] 26) := ⟨_, rfl⟩
    rw [← hW3]
    obtain ⟨xv, hxv⟩ : ∃ xv, xv = w3.heap.size := ⟨_, rfl⟩
    rw [← hxv]
    have hal := (Below.refl w3.heap.size w3).alloc (Nat.le_refl _) (.cells #[.slice va vn vc, .int .i64 (p.2 : Int)] 26)
    have BV3 : Hid (W3.heap[xv]? = some (.cells #[.slice va vn vc, .int .i64 (p.2 : Int)] 26 (0, 0))) := by unfold Hid; rw [hW3, hxv]; exact heap_alloc_new _ _
    have HB3 : Hid (Below w1.heap.size w1 W3) := by rw [hW3]; exact H3.out.trans (hal.mono H3.out.size)
    have V3 : Hid (W3.ownsRow w2.heap.size 5 1 (.slice va vn vc) vn (p.1.map (Value.int .u8))) := by unfold Hid; rw [hW3]; exact own_below Q3.out hal
    have BV : Hid (∀ k, (Value.slice va vn vc).ownBlock = some k → k < W3.heap.size) := fun k hk => (V3.out.lt k hk).2
    have lxv : xv < W3.heap.size := lt_of_block BV3.out
    clear hal hW3 hxv H3 Q3
    refine (f21 a c ls _ hbig (HR.out.below HB3.out)).mono ?_
    rintro e w4 ⟨rfl, ho4, hb4⟩
    have HB4 := hid (HB3.out.trans (hb4.mono HB3.out.size))
    have V4 := hid (own_below V3.out hb4)
    have X4 := hid ho4
    have BV4 := hid (box_below BV3.out hb4)
    have l34 : W3.heap.size < w4.heap.size := (ho4.lt _ rfl).2
    clear hb4 ho4 V3 BV3
    go_wp2_with fail
    refine (f9 _ _ ls _ hbig (HasS.own X4.out) (HC.out.below HB4.out) (HT.out.below HB4.out) (Nat.le_trans hw2 HB4.out.size)).mono ?_
    rintro e w5' ⟨g0, rfl, ho5, hb5⟩
    rw [← HP.out] at ho5
    obtain ⟨ga, gn, gc, rfl, hg5⟩ := ho5
    have hgn := row_len hg5
    have H5 := hid (HB4.out.trans (hb5.mono HB4.out.size))
    have V5' := hid (own_below V4.out hb5)
    have X5' := hid (own_below X4.out hb5)
    have BV5' := hid (box_below BV4.out hb5)
    have l45 : w4.heap.size ≤ w5'.heap.size := hb5.size
    have Q5 := hid hg5
    obtain rfl : vn = gn := by omega
    clear hb5 hg5 V4 X4 BV4
    obtain ⟨w5, hw5⟩ : ∃ w5, w5 = w5'.alloc (.cells #[.slice ga vn gc, .int .i64 (p.2 : Int)] 26) := ⟨_, rfl⟩
    obtain ⟨xg, hxg⟩ : ∃ xg, xg = w5'.heap.size := ⟨_, rfl⟩
    have hal := (Below.refl w5'.heap.size w5').alloc (Nat.le_refl _) (.cells #[.slice ga vn gc, .int .i64 (p.2 : Int)] 26)
    have BG5 : Hid (w5.heap[xg]? = some (.cells #[.slice ga vn gc, .int .i64 (p.2 : Int)] 26 (0, 0))) := by unfold Hid; rw [hw5, hxg]; exact heap_alloc_new _ _
    have BV5 : Hid (w5.heap[xv]? = some (.cells #[.slice va vn vc, .int .i64 (p.2 : Int)] 26 (0, 0))) := by unfold Hid; rw [hw5]; exact box_below BV5'.out hal
    have HB5 : Hid (Below w1.heap.size w1 w5) := by unfold Hid; rw [hw5]; exact H5.out.trans (hal.mono H5.out.size)
    have V5 : Hid (w5.ownsRow w2.heap.size 5 1 (.slice va vn vc) vn (p.1.map (Value.int .u8))) := by unfold Hid; rw [hw5]; exact own_below V5'.out hal
    have X5 : Hid (w5.ownsRow W3.heap.size 36 2 (.slice (some ⟨W3.heap.size, 0, none⟩) ls.length ls.length) ls.length (flat ls)) := by unfold Hid; rw [hw5]; exact own_below X5'.out hal
    have G5 : Hid (w5.ownsRow w4.heap.size 5 1 (.slice ga vn gc) vn (p.1.map (Value.int .u8))) := by unfold Hid; rw [hw5]; exact own_below Q5.out hal
    have BG : Hid (∀ k, (Value.slice ga vn gc).ownBlock = some k → w4.heap.size ≤ k ∧ k < xg) := fun k hk => by rw [hxg]; exact Q5.out.lt k hk
    have lxg : w4.heap.size ≤ xg := by omega
    have HW5 := hid hw5
    have HXG := hid hxg
    clear hal hw5 hxg H5 Q5 V5' X5' BV5'
    have i0 := two0 BV5.out
    have i1 := two1 BV5.out
    have j0 := two0 BG5.out
    have j1 := two1 BG5.out
    rw [HW5.out] at i0 i1
    rw [HW5.out, HXG.out] at j0 j1
    go_wp2_with fail
    rw [← HW5.out, ← HXG.out]
    clear HW5 HXG i0 i1 j0 j1
    refine (f22 ga va vn gc vc (p.2 : Int) p.1 _ hgn (by omega) (row_has G5.out) (row_has V5.out)).mono ?_
    rintro e w6 ⟨rfl, hb6⟩
    have HB6 := hid (HB5.out.trans (hb6.mono HB5.out.size))
    have BV6 := hid (box_below BV5.out hb6)
    have BG6 := hid (box_below BG5.out hb6)
    have V6 := hid (own_below V5.out hb6)
    have X6 := hid (own_below X5.out hb6)
    have G6 := hid (own_below G5.out hb6)
    clear hb6 V5 X5 G5 BV5 BG5
    -- the arguments stay
    go_wp2_with fail
    refine (f21 a c ls _ hbig (HR.out.below HB6.out)).mono ?_
    rintro e w7 ⟨rfl, ho7, hb7⟩
    have HB7 := hid (HB6.out.trans (hb7.mono HB6.out.size))
    have BV7 := hid (box_below BV6.out hb7)
    have BG7 := hid (box_below BG6.out hb7)
    have V7 := hid (own_below V6.out hb7)
    have X7 := hid (own_below X6.out hb7)
    have G7 := hid (own_below G6.out hb7)
    have T7 := hid ho7
    clear hb7 ho7 V6 X6 G6 BV6 BG6
    go_wp2_with fail
    refine (f23 _ _ _ _ ls _ hbig (HasS.own X7.out) (HasS.own T7.out)).mono ?_
    rintro e w8 ⟨rfl, hb8⟩
    have HB8 := hid (HB7.out.trans (hb8.mono HB7.out.size))
    have BV8 := hid (box_below BV7.out hb8)
    have BG8 := hid (box_below BG7.out hb8)
    have V8 := hid (own_below V7.out hb8)
    have X8 := hid (own_below X7.out hb8)
    have G8 := hid (own_below G7.out hb8)
    clear hb8 V7 X7 G7 T7 BV7 BG7
    -- marks in the arguments
    go_wp2_with fail
    refine (f24 _ _ _ 1 ls _ (by omega) X8.out).mono ?_
    rintro e w9 ⟨rfl, _, hg9⟩
    have HB9 := hid (below_grown HB8.out hg9 HB8.out.size HB3.out.size)
    have BV9 := hid (box_grown BV8.out hg9 (by simp; omega))
    have BG9 := hid (box_grown BG8.out hg9 (by simp; omega))
    have V9 := hid (row_kept V8.out hg9 (fun k hk e => by cases e; have := BV.out _ hk; omega))
    have G9 := hid (row_kept G8.out hg9 (fun k hk e => by cases e; have := (BG.out _ hk).1; omega))
    clear hg9 V8 X8 G8 BV8 BG8
    have i0 := two0 BV9.out
    have i1 := two1 BV9.out
    have j0 := two0 BG9.out
    have j1 := two1 BG9.out
    go_wp2_with fail
    clear i0 i1 j0 j1
    refine (f22 ga va vn gc vc (p.2 : Int) p.1 _ hgn (by omega) (row_has G9.out) (row_has V9.out)).mono ?_
    rintro e w10 ⟨rfl, hb10⟩
    have HB10 := hid (HB9.out.trans (hb10.mono HB9.out.size))
    have BV10 := hid (box_below BV9.out hb10)
    have BG10 := hid (box_below BG9.out hb10)
    have V10 := hid (own_below V9.out hb10)
    have G10 := hid (own_below G9.out hb10)
    clear hb10 V9 G9 BV9 BG9
    -- marks in the answer
    have j0 := two0 BG10.out
    have j1 := two1 BG10.out
    go_wp2_with fail
    clear j0 j1
    refine (f25 ga vn gc _ (p.2 : Int) p.1 _ (by omega) G10.out).mono ?_
    rintro e w11 ⟨rfl, ho11, hg11⟩
    have HB11 := hid (HB10.out.grown hg11 HB10.out.size (fun k hk => Nat.le_trans HB4.out.size (BG.out k hk).1))
    have V11 := hid (row_kept V10.out hg11 (fun k hk e => by have h1 := (BG.out _ e).1; have h2 := BV.out _ hk; omega))
    have G11 := hid ho11
    have BV11 := hid (box_grown BV10.out hg11 (fun e => by have := (BG.out _ e).1; omega))
    have BG11 := hid (box_grown BG10.out hg11 (fun e => by have := (BG.out _ e).2; omega))
    clear ho11 hg11 V10 G10 BV10 BG10
    have j0 := two0 BG11.out
    have j1 := two1 BG11.out
    go_wp2_with fail
    clear j0 j1
    refine (f26 ga vn gc (p.2 : Int) _ (by omega) (row_nil G11.out) (row_has G11.out)).mono ?_
    rintro e w12 ⟨rfl, hb12⟩
    have HB12 := hid (HB11.out.trans (hb12.mono HB11.out.size))
    have BV12 := hid (box_below BV11.out hb12)
    have BG12 := hid (box_below BG11.out hb12)
    have V12 := hid (own_below V11.out hb12)
    have G12 := hid (own_below G11.out hb12)
    clear hb12 V11 G11 BV11 BG11
    -- once more
    go_wp2_with fail
    refine (f21 a c ls _ hbig (HR.out.below HB12.out)).mono ?_
    rintro e w13 ⟨rfl, ho13, hb13⟩
    have HB13 := hid (HB12.out.trans (hb13.mono HB12.out.size))
    have BV13 := hid (box_below BV12.out hb13)
    have BG13 := hid (box_below BG12.out hb13)
    have V13 := hid (own_below V12.out hb13)
    have G13 := hid (own_below G12.out hb13)
    have T13 := hid (HasS.own ho13)
    clear hb13 ho13 V12 G12 BV12 BG12
    go_wp2_with fail
    refine (f9 _ _ ls _ hbig T13.out (HC.out.below HB13.out) (HT.out.below HB13.out) (Nat.le_trans hw2 HB13.out.size)).mono ?_
    rintro e w14' ⟨h0, rfl, ho14, hb14⟩
    rw [← HP.out] at ho14
    obtain ⟨ha, hn, hcp, rfl, hh14⟩ := ho14
    have hhn := row_len hh14
    have H14 := hid (HB13.out.trans (hb14.mono HB13.out.size))
    have V14' := hid (own_below V13.out hb14)
    have G14' := hid (own_below G13.out hb14)
    have BV14' := hid (box_below BV13.out hb14)
    have BG14' := hid (box_below BG13.out hb14)
    have Q14 := hid hh14
    obtain rfl : vn = hn := by omega
    clear hb14 hh14 V13 G13 BV13 BG13
    obtain ⟨w14, hw14⟩ : ∃ w14, w14 = w14'.alloc (.cells #[.slice ha vn hcp, .int .i64 (p.2 : Int)] 26) := ⟨_, rfl⟩
    obtain ⟨xh, hxh⟩ : ∃ xh, xh = w14'.heap.size := ⟨_, rfl⟩
    have hal := (Below.refl w14'.heap.size w14').alloc (Nat.le_refl _) (.cells #[.slice ha vn hcp, .int .i64 (p.2 : Int)] 26)
    have BH14 : Hid (w14.heap[xh]? = some (.cells #[.slice ha vn hcp, .int .i64 (p.2 : Int)] 26 (0, 0))) := by unfold Hid; rw [hw14, hxh]; exact heap_alloc_new _ _
    have BV14 : Hid (w14.heap[xv]? = some (.cells #[.slice va vn vc, .int .i64 (p.2 : Int)] 26 (0, 0))) := by unfold Hid; rw [hw14]; exact box_below BV14'.out hal
    have BG14 : Hid (w14.heap[xg]? = some (.cells #[.slice ga vn gc, .int .i64 (p.2 : Int)] 26 (0, 0))) := by unfold Hid; rw [hw14]; exact box_below BG14'.out hal
    have HB14 : Hid (Below w1.heap.size w1 w14) := by unfold Hid; rw [hw14]; exact H14.out.trans (hal.mono H14.out.size)
    have V14 : Hid (w14.ownsRow w2.heap.size 5 1 (.slice va vn vc) vn (p.1.map (Value.int .u8))) := by unfold Hid; rw [hw14]; exact own_below V14'.out hal
    have G14 : Hid (w14.ownsRow w4.heap.size 5 1 (.slice ga vn gc) vn ((marks 1 vn).map (Value.int .u8))) := by unfold Hid; rw [hw14]; exact own_below G14'.out hal
    have R14 : Hid (w14.ownsRow w13.heap.size 5 1 (.slice ha vn hcp) vn (p.1.map (Value.int .u8))) := by unfold Hid; rw [hw14]; exact own_below Q14.out hal
    have HW14 := hid hw14
    have HXH := hid hxh
    clear hal hw14 hxh H14 Q14 V14' G14' BV14' BG14'
    have i0 := two0 BV14.out
    have i1 := two1 BV14.out
    have j0 := two0 BH14.out
    have j1 := two1 BH14.out
    rw [HW14.out] at i0 i1
    rw [HW14.out, HXH.out] at j0 j1
    go_wp2_with fail
    rw [← HW14.out, ← HXH.out]
    clear HW14 HXH i0 i1 j0 j1
    refine (f22 ha va vn hcp vc (p.2 : Int) p.1 _ hgn (by omega) (row_has R14.out) (row_has V14.out)).mono ?_
    rintro e w15 ⟨rfl, hb15⟩
    have HB15 := hid (HB14.out.trans (hb15.mono HB14.out.size))
    have BG15 := hid (box_below BG14.out hb15)
    have G15 := hid (own_below G14.out hb15)
    clear hb15 R14 V14 G14 BV14 BG14 BH14
    have j0 := two0 BG15.out
    have j1 := two1 BG15.out
    go_wp2_with fail
    clear j0 j1
    refine (f26 ga vn gc (p.2 : Int) _ (by omega) (row_nil G15.out) (row_has G15.out)).mono ?_
    rintro e w16 ⟨rfl, hb16⟩
    have HB16 := hid (HB15.out.trans (hb16.mono HB15.out.size))
    clear hb16
    go_wp2
    go_ret
    exact ⟨rfl, HB16.out⟩
  · have hif : (if (1048576 : Int) < (ls.length : Int) then (-1 : Int) else 1048576 - (ls.length : Int)) = -1 := if_pos (by omega)
    go_enter Tryd.func4, Tryd.ntmps4
    go_wp2_with fail
    refine (f19 a ls.length c 1048576 _ HM.out (by omega) (by omega)).mono ?_
    rw [hif]
    rintro e w1 ⟨rfl, rfl⟩
    go_wp2
    go_ret
    exact ⟨rfl, Below.refl _ _⟩
end Go.Proofs.YteblbcbfaomdmaaDoor.Chk
