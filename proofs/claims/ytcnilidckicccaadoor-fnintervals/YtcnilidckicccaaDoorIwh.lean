/- The walk of FnIntervals. -/
import Derived.Test.YtcnilidckicccaaDoorIwg
import Derived.Test.YtcnilidckicccaaDoorIwp
import Derived.Test.YtcnilidckicccaaDoorIvf
namespace Go.Proofs.YtcnilidckicccaaDoor.Rng
open Go.RowKit
open Go.Proofs.YtcnilidckicccaaDoor.Cal (dv dc ml Mon Rgl Dt DtR dn Six)

/-- The interval's box: the same cells, the same rows. -/
structure Wb (w : World) (i : Iv) (B : Nat) (x : World) : Prop where
  box : x.heap[B]? = some (.cells (clI i) 26)
  h6 : Ino.Has x i.a6 i.l6
  low : ∃ w1 : World, w1.heap.size = B ∧ HasS w1 i.a1 i.l1 ∧ HasS w1 i.a2 i.l2 ∧ HasS w1 i.a3 i.l3 ∧ HasS w1 i.a4 i.l4 ∧ HasS w1 i.a5 i.l5 ∧ Below B w1 x
  bel : Below w.heap.size w x
  le : w.heap.size ≤ B
theorem Wb.mv {w x y : World} {i : Iv} {B : Nat} (h : Wb w i B x) (hb : Below x.heap.size x y) : Wb w i B y := by
  obtain ⟨w1, e, h1, h2, h3, h4, h5, hl⟩ := h.low
  exact ⟨kept h.box hb, h.h6.below hb, ⟨w1, e, h1, h2, h3, h4, h5, hl.trans (hb.mono (by have := hl.size; omega))⟩, h.bel.trans (hb.mono h.bel.size), h.le⟩
theorem Wb.has {w x : World} {i : Iv} {B : Nat} (h : Wb w i B x) : Has x i := by
  obtain ⟨w1, rfl, h1, h2, h3, h4, h5, hl⟩ := h.low
  exact ⟨h1.below hl, h2.below hl, h3.below hl, h4.below hl, h5.below hl, h.h6⟩
theorem Wb.free {w x : World} {z : Int} {l1 l2 l3 l4 l5 : List Sm} {l6 : List Int} {a1 a2 a3 a4 a5 a6 : Option Addr} {c1 c2 c3 c4 c5 c6 B : Nat} (h : Wb w ⟨z, l1, l2, l3, l4, l5, l6, a1, c1, a2, c2, a3, c3, a4, c4, a5, c5, a6, c6⟩ B x) (p : Int) : ∀ y, y = (x.setCell ⟨B, 6, none⟩ (.slice (some ⟨x.heap.size, 0, none⟩) 1 1)).alloc (.cells #[.int .i64 p] 3) →
    Wb w ⟨z, l1, l2, l3, l4, l5, [p], a1, c1, a2, c2, a3, c3, a4, c4, a5, c5, some ⟨x.heap.size, 0, none⟩, 1⟩ B y := by
  rintro y rfl
  obtain ⟨w1, e, h1, h2, h3, h4, h5, hl⟩ := h.low
  have hg := Cur.set_grown x B 6 (.slice (some ⟨x.heap.size, 0, none⟩) 1 1)
  have hs : (x.setCell ⟨B, 6, none⟩ (.slice (some ⟨x.heap.size, 0, none⟩) 1 1)).heap.size = x.heap.size := by simp
  have hb0 : Below B x (x.setCell ⟨B, 6, none⟩ (.slice (some ⟨x.heap.size, 0, none⟩) 1 1)) := (Below.refl B x).grown hg (by have := hl.size; omega) (fun k e => by cases e; omega)
  have hb1 := (hb0.alloc (by have := hl.size; omega) (.cells #[.int .i64 p] 3))
  have hlt := Cal.lt_block h.box
  refine ⟨?_, .inr ⟨x.heap.size, 0, rfl, by simp, ?_⟩, ⟨w1, e, h1, h2, h3, h4, h5, hl.trans hb1⟩, h.bel.trans (hb1.mono h.le), h.le⟩
  · exact (Below.heap_alloc _ _ _ (by rw [hs]; exact hlt)).trans (Cur.set_box h.box)
  · intro k hk
    obtain rfl : k = 0 := by simp at hk; exact hk
    have h9 := Cal.cell_at (heap_alloc_new (x.setCell ⟨B, 6, none⟩ (.slice (some ⟨x.heap.size, 0, none⟩) 1 1)) (.cells #[.int .i64 p] 3)) 0
    rw [hs] at h9
    exact h9

set_option maxRecDepth 100000 in
set_option maxHeartbeats 16000000 in
theorem walkIntervals (a : Option Addr) (n c : Nat) (w : World) (hd : Cur.Bya w a n) (hM : Mon w) (hR : Rgl w) :
    Calls Tryd.prog 3 #[.slice a n c] w fun e w' => e = .returned (.bool true) ∧ Below w.heap.size w w' := by
  have HM := hid hM
  have HR := hid hR
  have HD := hid hd
  clear hM hR hd
  by_cases g : (n : Int) > 1048576
  · go_enter Tryd.func3, Tryd.ntmps3
    go_wp2
    go_ret
    exact ⟨rfl, Below.refl _ _⟩
  go_enter Tryd.func3, Tryd.ntmps3
  go_wp2_with fail
  refine (Cur.f6 n c a _ (by omega) HD.out).mono ?_
  rintro e w1 ⟨i, t, rfl, hi, hs, hb⟩
  obtain ⟨W, hW⟩ : ∃ W, W = w1.alloc (.cells (clI i) 26) := ⟨_, rfl⟩
  have HB : Hid (Wb w i w1.heap.size W) := by
    have h1 := (Below.refl w1.heap.size w1).alloc (Nat.le_refl _) (.cells (clI i) 26)
    rw [hW]
    exact ⟨heap_alloc_new w1 _, hi.h6.below h1, ⟨w1, rfl, hi.h1, hi.h2, hi.h3, hi.h4, hi.h5, h1⟩, hb.trans (h1.mono hb.size), hb.size⟩
  have HSm := hid hs
  have HW := hid hW
  clear hi hs hb hW HD g
  obtain ⟨z, l1, l2, l3, l4, l5, l6, a1, c1, a2, c2, a3, c3, a4, c4, a5, c5, a6, c6⟩ := i
  go_upto_region 4 with fail
  rw [← HW.out]
  clear HW
  generalize w1.heap.size = B at *
  obtain ⟨d0, d1, d2, d3, d4, d5, d6⟩ := cells7 HB.out.box
  obtain ⟨H, hH⟩ : ∃ H, H = hv ⟨z, l1, l2, l3, l4, l5, l6, a1, c1, a2, c2, a3, c3, a4, c4, a5, c5, a6, c6⟩ t := ⟨_, rfl⟩
  have HH := hid hH
  go_wp2_with fail
  refine (f7 ⟨z, l1, l2, l3, l4, l5, l6, a1, c1, a2, c2, a3, c3, a4, c4, a5, c5, a6, c6⟩ t _ HB.out.has HSm.out (HM.out.below HB.out.bel) (HR.out.below HB.out.bel)).mono ?_
  rintro e w2 ⟨rfl, hb⟩
  rw [← hH]
  have HB2 := hid (HB.out.mv hb)
  clear hb HB d0 d1 d2 d3 d4 d5 d6 hH
  obtain ⟨d0, d1, d2, d3, d4, d5, d6⟩ := cells7 HB2.out.box
  go_wp2_with fail
  refine (f8 ⟨z, l1, l2, l3, l4, l5, l6, a1, c1, a2, c2, a3, c3, a4, c4, a5, c5, a6, c6⟩ t _ HB2.out.has HSm.out).mono ?_
  rintro e w3 ⟨rfl, hb⟩
  rw [← HH.out]
  have HB3 := hid (HB2.out.mv hb)
  clear hb HB2 d0 d1 d2 d3 d4 d5 d6
  obtain ⟨d0, d1, d2, d3, d4, d5, d6⟩ := cells7 HB3.out.box
  go_wp2_with fail
  refine (f9 ⟨z, l1, l2, l3, l4, l5, l6, a1, c1, a2, c2, a3, c3, a4, c4, a5, c5, a6, c6⟩ _ HB3.out.has HSm.out).mono ?_
  rintro e w4 ⟨rfl, hb⟩
  have HB4 := hid (HB3.out.mv hb)
  clear hb HB3 d0 d1 d2 d3 d4 d5 d6
  by_cases hg : GoodI ⟨z, l1, l2, l3, l4, l5, l6, a1, c1, a2, c2, a3, c3, a4, c4, a5, c5, a6, c6⟩
  rotate_left
  · have hgi : gi ⟨z, l1, l2, l3, l4, l5, l6, a1, c1, a2, c2, a3, c3, a4, c4, a5, c5, a6, c6⟩ = false := by simp [gi, hg]
    have hf : H = false := HH.out.trans (hv_no hg)
    subst hf
    rw [hgi]
    clear hg hgi
    go_wp2
    go_ret
    exact ⟨rfl, HB4.out.bel⟩
  have hgi : gi ⟨z, l1, l2, l3, l4, l5, l6, a1, c1, a2, c2, a3, c3, a4, c4, a5, c5, a6, c6⟩ = true := by simp [gi, hg]
  rw [hgi]
  have HG := hid hg
  clear hg hgi
  by_cases ht : t < 0 ∨ t > 1000000000000
  · have hf : H = false := HH.out.trans (hv_none (fun h => by obtain ⟨x0, x1, _⟩ := h; omega))
    subst hf
    rcases ht with ht | ht
    · go_wp2
      go_ret
      exact ⟨rfl, HB4.out.bel⟩
    · have ht0 : ¬ t < 0 := by omega
      go_wp2
      go_ret
      exact ⟨rfl, HB4.out.bel⟩
  have ht0 : ¬ t < 0 := fun h => ht (.inl h)
  have ht1 : ¬ t > 1000000000000 := fun h => ht (.inr h)
  clear ht
  obtain ⟨d0, d1, d2, d3, d4, d5, d6⟩ := cells7 HB4.out.box
  go_wp2_with fail
  refine (Cal.f10 t z _).mono ?_
  rintro e w5 ⟨v, b, rfl, HV, HB⟩
  have HB5 := hid (HB4.out.mv HB.out)
  obtain ⟨y, m, d, l, k, qq, rfl⟩ := HV.out.six
  obtain ⟨W6, hW6⟩ : ∃ W, W = w5.alloc (dc y m d l k qq) := ⟨_, rfl⟩
  have HN : Hid (Six W6 w5.heap.size y m d l k qq) := by rw [hW6]; exact Six.new w5 y m d l k qq
  have HB6 : Hid (Wb w ⟨z, l1, l2, l3, l4, l5, l6, a1, c1, a2, c2, a3, c3, a4, c4, a5, c5, a6, c6⟩ B W6) := by rw [hW6]; exact HB5.out.mv ((Below.refl _ _).alloc (Nat.le_refl _) _)
  have HE : Hid (w.heap.size ≤ w5.heap.size) := HB5.out.bel.size
  have HW6 := hid hW6
  clear hW6 HB HB4 HB5 d0 d1 d2 d3 d4 d5 d6
  go_upto_region 10 with fail
  rw [← HW6.out]
  clear HW6
  generalize w5.heap.size = E at *
  by_cases hh : Cal.Has t z
  rotate_left
  · have hy : y = 0 := by
      rcases HV.out with ⟨_, h, _⟩ | ⟨h, _⟩
      · simp only [Value.agg.injEq] at h
        have := congrArg (fun (x : Array Value) => x[0]?) h
        simpa using this
      · exact absurd h hh
    have hf : H = false := HH.out.trans (hv_none hh)
    subst hf
    subst hy
    obtain ⟨s0, s1, s2, s3, s4, s5⟩ := HN.out.cells
    clear hh
    go_wp2
    go_ret
    exact ⟨rfl, HB6.out.bel⟩
  obtain ⟨y', m', d', heq, hdt⟩ : ∃ y' m' d', dv y m d l k qq = dv y' m' d' (ml y' m') ((4 + (t + z * 60) / 86400) % 7) ((t + z * 60) % 86400 / 60) ∧ Dt ((t + z * 60) / 86400) y' m' d' := by
    rcases HV.out with ⟨hn, _⟩ | ⟨_, _, h⟩
    · exact absurd hh hn
    · exact h
  simp only [Value.agg.injEq, Array.mk.injEq, List.cons.injEq, Value.int.injEq, true_and, and_true] at heq
  obtain ⟨rfl, rfl, rfl, hl, hk, hq⟩ := heq
  have ny : (y == 0) = false := by rw [beq_eq_false_iff_ne]; have := hdt.y0; omega
  have HDT := hid hdt
  have HHas := hid hh
  clear hl hk hq hdt hh HV
  obtain ⟨s0, s1, s2, s3, s4, s5⟩ := HN.out.cells
  obtain ⟨d0, d1, d2, d3, d4, d5, d6⟩ := cells7 HB6.out.box
  go_wp2_with fail
  refine (f7 (bare z) t _ (bare_has _ z) (bare_sml z) (HM.out.below HB6.out.bel) (HR.out.below HB6.out.bel)).mono ?_
  rintro e w7 ⟨rfl, hb⟩
  rw [hv_bare HG.out HHas.out HDT.out]
  have HB7 := hid (HB6.out.mv hb)
  have HN7 := hid (HN.out.below hb)
  clear hb HB6 HN s0 s1 s2 s3 s4 s5 d0 d1 d2 d3 d4 d5 d6
  obtain ⟨s0, s1, s2, s3, s4, s5⟩ := HN7.out.cells
  go_wp2_with fail
  refine (Cal.f11 y m d _).mono ?_
  rintro e w8 ⟨rfl, hb⟩
  have HB8 := hid (HB7.out.mv hb.out)
  clear hb HB7 HN7 s0 s1 s2 s3 s4 s5
  have hlt : B < w8.heap.size := Cal.lt_block HB8.out.box
  obtain ⟨W9, hW9⟩ : ∃ W, W = (w8.setCell ⟨B, 6, none⟩ (.slice (some ⟨w8.heap.size, 0, none⟩) 1 1)).alloc (.cells #[.int .i64 (dn y m d)] 3) := ⟨_, rfl⟩
  have HB9 := hid (HB8.out.free (dn y m d) W9 hW9)
  obtain ⟨d0, d1, d2, d3, d4, d5, d6⟩ := cells7 HB8.out.box
  obtain ⟨e0, e1, e2, e3, e4, e5, e6⟩ := froz7 HB8.out.box
  have HW9 := hid hW9
  clear hW9
  go_upto_region 15 with fail
  rw [← HW9.out]
  clear HW9 d0 d1 d2 d3 d4 d5 d6 e0 e1 e2 e3 e4 e5 e6 HB8 hlt
  generalize w8.heap.size = F at *
  obtain ⟨d0, d1, d2, d3, d4, d5, d6⟩ := cells7 HB9.out.box
  go_wp2_with fail
  refine (f7 ⟨z, l1, l2, l3, l4, l5, [dn y m d], a1, c1, a2, c2, a3, c3, a4, c4, a5, c5, some ⟨F, 0, none⟩, 1⟩ t _ HB9.out.has ⟨HSm.out.s1, HSm.out.s2, HSm.out.s3, HSm.out.s4, HSm.out.s5, by simp⟩ (HM.out.below HB9.out.bel) (HR.out.below HB9.out.bel)).mono ?_
  rintro e wa ⟨rfl, hb⟩
  rw [hv_free HDT.out (by simp)]
  have HBa := hid (HB9.out.mv hb)
  clear hb
  go_wp2
  go_ret
  exact ⟨rfl, HBa.out.bel⟩
end Go.Proofs.YtcnilidckicccaaDoor.Rng
