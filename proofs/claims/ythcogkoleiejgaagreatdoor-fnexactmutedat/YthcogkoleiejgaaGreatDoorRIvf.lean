/- Both GoodIntervals. -/
import Derived.Test.YthcogkoleiejgaaGreatDoorRIve
namespace Go.Proofs.YthcogkoleiejgaaGreatDoor.Rng
open Go.RowKit
open Go.Proofs.YthcogkoleiejgaaGreatDoor.Cal (Rgl rl)
open Go.Proofs.YthcogkoleiejgaaGreatDoor.Ino (riseI num)

open Classical in
/-- Whether the interval is good. -/
noncomputable def gi (i : Iv) : Bool := decide (GoodI i)
theorem gi_true {i : Iv} (h : GoodI i) : gi i = true := by simp [gi, h]
theorem gi_false {i : Iv} (h : ¬ GoodI i) : gi i = false := by simp [gi, h]
theorem gi_same {i j : Iv} (h : Same i j) : gi j = gi i := by
  by_cases g : GoodI i
  · rw [gi_true g, gi_true ((GoodI.same h).2 g)]
  · rw [gi_false g, gi_false (fun q => g ((GoodI.same h).1 q))]

set_option maxHeartbeats 1000000 in
theorem f106 (i : Iv) (w : World) :
    Calls Tryz.prog 106 #[agI i] w fun e w' => e = .returned (.agg #[.slice i.a1 i.l1.length i.c1, .slice i.a2 i.l2.length i.c2, .slice i.a3 i.l3.length i.c3, .slice i.a4 i.l4.length i.c4, .slice i.a5 i.l5.length i.c5]) ∧ Below w.heap.size w w' := by
  obtain ⟨z, l1, l2, l3, l4, l5, l6, a1, c1, a2, c2, a3, c3, a4, c4, a5, c5, a6, c6⟩ := i
  have HB := fun o p => hid (((Below.refl w.heap.size w).alloc (Nat.le_refl _) o).alloc (by simp) p)
  go_enter Tryz.func106, Tryz.ntmps106
  go_wp2
  go_returns
  exact ⟨rfl, (HB _ _).out⟩

/-- What the kinds up to one are asked. -/
def Upk (i : Iv) (j : Nat) : Prop := (0 < j → gks 0 0 1439 i.l1) ∧ (1 < j → gks 1 0 6 i.l2) ∧ (2 < j → gks 2 (-31) 31 i.l3) ∧ (3 < j → gks 3 1 12 i.l4) ∧ (4 < j → gks 4 1970 40000 i.l5)

set_option maxHeartbeats 8000000 in
theorem f69 (i : Iv) (w : World) (hr : Has w i) (hs : Sml i) (hR : Rgl w) :
    Calls Tryz.prog 69 #[agI i] w fun e w' => e = .returned (.bool (gi i)) ∧ Below w.heap.size w w' := by
  have HR := hid hR
  have HH := hid hr
  have HS := hid hs
  clear hR hr hs
  obtain ⟨z, l1, l2, l3, l4, l5, l6, a1, c1, a2, c2, a3, c3, a4, c4, a5, c5, a6, c6⟩ := i
  have HZ := fun x => hid (Cal.f105 z x)
  have HB0 := hid ((Below.refl w.heap.size w).alloc (Nat.le_refl _) (.cells (clI ⟨z, l1, l2, l3, l4, l5, l6, a1, c1, a2, c2, a3, c3, a4, c4, a5, c5, a6, c6⟩) 62))
  have HX0 := hid (heap_alloc_new w (.cells (clI ⟨z, l1, l2, l3, l4, l5, l6, a1, c1, a2, c2, a3, c3, a4, c4, a5, c5, a6, c6⟩) 62))
  by_cases gz : -1440 ≤ z ∧ z ≤ 1440
  · simp only [decide_eq_true gz] at HZ
    have HGZ := hid gz
    clear gz
    have HO := fun x => hid (f106 ⟨z, l1, l2, l3, l4, l5, l6, a1, c1, a2, c2, a3, c3, a4, c4, a5, c5, a6, c6⟩ x)
    have q0 : ∀ wx : World, Sem.run Tryz.prog (Instr.index 150 (Value.agg #[Value.slice a1 l1.length c1, Value.slice a2 l2.length c2, Value.slice a3 l3.length c3, Value.slice a4 l4.length c4, Value.slice a5 l5.length c5]) (Value.int .i64 0)) wx = .ok (Value.slice a1 l1.length c1) wx := fun wx => by kernel_rfl
    have q1 : ∀ wx : World, Sem.run Tryz.prog (Instr.index 150 (Value.agg #[Value.slice a1 l1.length c1, Value.slice a2 l2.length c2, Value.slice a3 l3.length c3, Value.slice a4 l4.length c4, Value.slice a5 l5.length c5]) (Value.int .i64 1)) wx = .ok (Value.slice a2 l2.length c2) wx := fun wx => by kernel_rfl
    have q2 : ∀ wx : World, Sem.run Tryz.prog (Instr.index 150 (Value.agg #[Value.slice a1 l1.length c1, Value.slice a2 l2.length c2, Value.slice a3 l3.length c3, Value.slice a4 l4.length c4, Value.slice a5 l5.length c5]) (Value.int .i64 2)) wx = .ok (Value.slice a3 l3.length c3) wx := fun wx => by kernel_rfl
    have q3 : ∀ wx : World, Sem.run Tryz.prog (Instr.index 150 (Value.agg #[Value.slice a1 l1.length c1, Value.slice a2 l2.length c2, Value.slice a3 l3.length c3, Value.slice a4 l4.length c4, Value.slice a5 l5.length c5]) (Value.int .i64 3)) wx = .ok (Value.slice a4 l4.length c4) wx := fun wx => by kernel_rfl
    have q4 : ∀ wx : World, Sem.run Tryz.prog (Instr.index 150 (Value.agg #[Value.slice a1 l1.length c1, Value.slice a2 l2.length c2, Value.slice a3 l3.length c3, Value.slice a4 l4.length c4, Value.slice a5 l5.length c5]) (Value.int .i64 4)) wx = .ok (Value.slice a5 l5.length c5) wx := fun wx => by kernel_rfl
    go_enter Tryz.func69, Tryz.ntmps69
    go_wp2_with fail
    refine (HZ _).out.mono ?_
    rintro e w1 ⟨rfl, hw⟩; subst w1
    go_wp2_with fail
    refine (HO _).out.mono ?_
    rintro e w1 ⟨rfl, hb⟩
    have HX1 := hid (kept HX0.out hb)
    have HB1 := hid (HB0.out.trans (hb.mono HB0.out.size))
    clear hb HB0 HX0 HO HZ
    simp only
    go_wp2
    go_loopw [11] (fun s wr => ∃ j : Nat, j ≤ 5 ∧ s = .int .i64 j ∧ Hid (Upk ⟨z, l1, l2, l3, l4, l5, l6, a1, c1, a2, c2, a3, c3, a4, c4, a5, c5, a6, c6⟩ j) ∧ Hid (Below w.heap.size w wr ∧ wr.heap[w.heap.size]? = some (.cells (clI ⟨z, l1, l2, l3, l4, l5, l6, a1, c1, a2, c2, a3, c3, a4, c4, a5, c5, a6, c6⟩) 62))) (fun s _ => 5 - (intOf s).toNat)
    case atStart => exact ⟨0, by omega, rfl, ⟨fun h => absurd h (by omega), fun h => absurd h (by omega), fun h => absurd h (by omega), fun h => absurd h (by omega), fun h => absurd h (by omega)⟩, HB1.out, HX1.out⟩
    case round =>
      obtain ⟨j, hj, rfl, HU, HW⟩ := hrel
      rcases (show j = 0 ∨ j = 1 ∨ j = 2 ∨ j = 3 ∨ j = 4 ∨ j = 5 by omega) with rfl | rfl | rfl | rfl | rfl | rfl
      · have HC : Hid (Calls Tryz.prog 107 #[.slice a1 l1.length c1, .int .i64 0] wr _) := hid (f107 a1 c1 l1 0 0 1439 wr HS.out.s1 (HH.out.h1.below HW.out.1) (by omega) rfl rfl (HR.out.below HW.out.1))
        by_cases hg : gks 0 0 1439 l1
        · rw [decide_eq_true hg] at HC
          have HN : Hid (Upk ⟨z, l1, l2, l3, l4, l5, l6, a1, c1, a2, c2, a3, c3, a4, c4, a5, c5, a6, c6⟩ 1) := ⟨(fun _ => hg), (fun h => absurd h (by omega)), (fun h => absurd h (by omega)), (fun h => absurd h (by omega)), (fun h => absurd h (by omega))⟩
          clear hg
          go_wp2_with fail
          refine HC.out.mono ?_
          rintro e w2 ⟨rfl, hb⟩
          have HW2 := hid (show Below w.heap.size w w2 ∧ w2.heap[w.heap.size]? = some (.cells (clI ⟨z, l1, l2, l3, l4, l5, l6, a1, c1, a2, c2, a3, c3, a4, c4, a5, c5, a6, c6⟩) 62) from ⟨HW.out.1.trans (hb.mono HW.out.1.size), kept HW.out.2 hb⟩)
          clear hb
          go_wp2
          go_roundw
          case rel => exact ⟨1, by omega, by go_num, HN, HW2⟩
          case measure => simp [intOf]
        · rw [decide_eq_false hg] at HC
          have HN := hid (gi_false (i := ⟨z, l1, l2, l3, l4, l5, l6, a1, c1, a2, c2, a3, c3, a4, c4, a5, c5, a6, c6⟩) (fun q => hg q.g1))
          clear hg
          go_wp2_with fail
          refine HC.out.mono ?_
          rintro e w2 ⟨rfl, hb⟩
          have HW2 := hid (HW.out.1.trans (hb.mono HW.out.1.size))
          clear hb
          go_wp2
          go_ret
          exact ⟨by rw [HN.out]; rfl, HW2.out⟩
      · have HC : Hid (Calls Tryz.prog 107 #[.slice a2 l2.length c2, .int .i64 1] wr _) := hid (f107 a2 c2 l2 1 0 6 wr HS.out.s2 (HH.out.h2.below HW.out.1) (by omega) rfl rfl (HR.out.below HW.out.1))
        by_cases hg : gks 1 0 6 l2
        · rw [decide_eq_true hg] at HC
          have HN : Hid (Upk ⟨z, l1, l2, l3, l4, l5, l6, a1, c1, a2, c2, a3, c3, a4, c4, a5, c5, a6, c6⟩ 2) := ⟨(fun _ => HU.out.1 (by omega)), (fun _ => hg), (fun h => absurd h (by omega)), (fun h => absurd h (by omega)), (fun h => absurd h (by omega))⟩
          clear hg
          go_wp2_with fail
          refine HC.out.mono ?_
          rintro e w2 ⟨rfl, hb⟩
          have HW2 := hid (show Below w.heap.size w w2 ∧ w2.heap[w.heap.size]? = some (.cells (clI ⟨z, l1, l2, l3, l4, l5, l6, a1, c1, a2, c2, a3, c3, a4, c4, a5, c5, a6, c6⟩) 62) from ⟨HW.out.1.trans (hb.mono HW.out.1.size), kept HW.out.2 hb⟩)
          clear hb
          go_wp2
          go_roundw
          case rel => exact ⟨2, by omega, by go_num, HN, HW2⟩
          case measure => simp [intOf]
        · rw [decide_eq_false hg] at HC
          have HN := hid (gi_false (i := ⟨z, l1, l2, l3, l4, l5, l6, a1, c1, a2, c2, a3, c3, a4, c4, a5, c5, a6, c6⟩) (fun q => hg q.g2))
          clear hg
          go_wp2_with fail
          refine HC.out.mono ?_
          rintro e w2 ⟨rfl, hb⟩
          have HW2 := hid (HW.out.1.trans (hb.mono HW.out.1.size))
          clear hb
          go_wp2
          go_ret
          exact ⟨by rw [HN.out]; rfl, HW2.out⟩
      · have HC : Hid (Calls Tryz.prog 107 #[.slice a3 l3.length c3, .int .i64 2] wr _) := hid (f107 a3 c3 l3 2 (-31) 31 wr HS.out.s3 (HH.out.h3.below HW.out.1) (by omega) rfl rfl (HR.out.below HW.out.1))
        by_cases hg : gks 2 (-31) 31 l3
        · rw [decide_eq_true hg] at HC
          have HN : Hid (Upk ⟨z, l1, l2, l3, l4, l5, l6, a1, c1, a2, c2, a3, c3, a4, c4, a5, c5, a6, c6⟩ 3) := ⟨(fun _ => HU.out.1 (by omega)), (fun _ => HU.out.2.1 (by omega)), (fun _ => hg), (fun h => absurd h (by omega)), (fun h => absurd h (by omega))⟩
          clear hg
          go_wp2_with fail
          refine HC.out.mono ?_
          rintro e w2 ⟨rfl, hb⟩
          have HW2 := hid (show Below w.heap.size w w2 ∧ w2.heap[w.heap.size]? = some (.cells (clI ⟨z, l1, l2, l3, l4, l5, l6, a1, c1, a2, c2, a3, c3, a4, c4, a5, c5, a6, c6⟩) 62) from ⟨HW.out.1.trans (hb.mono HW.out.1.size), kept HW.out.2 hb⟩)
          clear hb
          go_wp2
          go_roundw
          case rel => exact ⟨3, by omega, by go_num, HN, HW2⟩
          case measure => simp [intOf]
        · rw [decide_eq_false hg] at HC
          have HN := hid (gi_false (i := ⟨z, l1, l2, l3, l4, l5, l6, a1, c1, a2, c2, a3, c3, a4, c4, a5, c5, a6, c6⟩) (fun q => hg q.g3))
          clear hg
          go_wp2_with fail
          refine HC.out.mono ?_
          rintro e w2 ⟨rfl, hb⟩
          have HW2 := hid (HW.out.1.trans (hb.mono HW.out.1.size))
          clear hb
          go_wp2
          go_ret
          exact ⟨by rw [HN.out]; rfl, HW2.out⟩
      · have HC : Hid (Calls Tryz.prog 107 #[.slice a4 l4.length c4, .int .i64 3] wr _) := hid (f107 a4 c4 l4 3 1 12 wr HS.out.s4 (HH.out.h4.below HW.out.1) (by omega) rfl rfl (HR.out.below HW.out.1))
        by_cases hg : gks 3 1 12 l4
        · rw [decide_eq_true hg] at HC
          have HN : Hid (Upk ⟨z, l1, l2, l3, l4, l5, l6, a1, c1, a2, c2, a3, c3, a4, c4, a5, c5, a6, c6⟩ 4) := ⟨(fun _ => HU.out.1 (by omega)), (fun _ => HU.out.2.1 (by omega)), (fun _ => HU.out.2.2.1 (by omega)), (fun _ => hg), (fun h => absurd h (by omega))⟩
          clear hg
          go_wp2_with fail
          refine HC.out.mono ?_
          rintro e w2 ⟨rfl, hb⟩
          have HW2 := hid (show Below w.heap.size w w2 ∧ w2.heap[w.heap.size]? = some (.cells (clI ⟨z, l1, l2, l3, l4, l5, l6, a1, c1, a2, c2, a3, c3, a4, c4, a5, c5, a6, c6⟩) 62) from ⟨HW.out.1.trans (hb.mono HW.out.1.size), kept HW.out.2 hb⟩)
          clear hb
          go_wp2
          go_roundw
          case rel => exact ⟨4, by omega, by go_num, HN, HW2⟩
          case measure => simp [intOf]
        · rw [decide_eq_false hg] at HC
          have HN := hid (gi_false (i := ⟨z, l1, l2, l3, l4, l5, l6, a1, c1, a2, c2, a3, c3, a4, c4, a5, c5, a6, c6⟩) (fun q => hg q.g4))
          clear hg
          go_wp2_with fail
          refine HC.out.mono ?_
          rintro e w2 ⟨rfl, hb⟩
          have HW2 := hid (HW.out.1.trans (hb.mono HW.out.1.size))
          clear hb
          go_wp2
          go_ret
          exact ⟨by rw [HN.out]; rfl, HW2.out⟩
      · have HC : Hid (Calls Tryz.prog 107 #[.slice a5 l5.length c5, .int .i64 4] wr _) := hid (f107 a5 c5 l5 4 1970 40000 wr HS.out.s5 (HH.out.h5.below HW.out.1) (by omega) rfl rfl (HR.out.below HW.out.1))
        by_cases hg : gks 4 1970 40000 l5
        · rw [decide_eq_true hg] at HC
          have HN : Hid (Upk ⟨z, l1, l2, l3, l4, l5, l6, a1, c1, a2, c2, a3, c3, a4, c4, a5, c5, a6, c6⟩ 5) := ⟨(fun _ => HU.out.1 (by omega)), (fun _ => HU.out.2.1 (by omega)), (fun _ => HU.out.2.2.1 (by omega)), (fun _ => HU.out.2.2.2.1 (by omega)), (fun _ => hg)⟩
          clear hg
          go_wp2_with fail
          refine HC.out.mono ?_
          rintro e w2 ⟨rfl, hb⟩
          have HW2 := hid (show Below w.heap.size w w2 ∧ w2.heap[w.heap.size]? = some (.cells (clI ⟨z, l1, l2, l3, l4, l5, l6, a1, c1, a2, c2, a3, c3, a4, c4, a5, c5, a6, c6⟩) 62) from ⟨HW.out.1.trans (hb.mono HW.out.1.size), kept HW.out.2 hb⟩)
          clear hb
          go_wp2
          go_roundw
          case rel => exact ⟨5, by omega, by go_num, HN, HW2⟩
          case measure => simp [intOf]
        · rw [decide_eq_false hg] at HC
          have HN := hid (gi_false (i := ⟨z, l1, l2, l3, l4, l5, l6, a1, c1, a2, c2, a3, c3, a4, c4, a5, c5, a6, c6⟩) (fun q => hg q.g5))
          clear hg
          go_wp2_with fail
          refine HC.out.mono ?_
          rintro e w2 ⟨rfl, hb⟩
          have HW2 := hid (HW.out.1.trans (hb.mono HW.out.1.size))
          clear hb
          go_wp2
          go_ret
          exact ⟨by rw [HN.out]; rfl, HW2.out⟩
      · obtain ⟨x0, x1, x2, x3, x4, x5, x6⟩ := cells7 HW.out.2
        have HC := hid (f34 a6 c6 l6 wr HS.out.s6 (HH.out.h6.below HW.out.1))
        have HN : Hid (decide (fr l6) = gi ⟨z, l1, l2, l3, l4, l5, l6, a1, c1, a2, c2, a3, c3, a4, c4, a5, c5, a6, c6⟩) := by
          unfold Hid
          by_cases hg : fr l6
          · rw [decide_eq_true hg, gi_true ⟨HGZ.out.1, HGZ.out.2, HU.out.1 (by omega), HU.out.2.1 (by omega), HU.out.2.2.1 (by omega), HU.out.2.2.2.1 (by omega), HU.out.2.2.2.2 (by omega), hg⟩]
          · rw [decide_eq_false hg, gi_false (fun q => hg q.g6)]
        rw [HN.out] at HC
        clear HN
        go_wp2_with fail
        refine HC.out.mono ?_
        rintro e w2 ⟨rfl, hb⟩
        have HW2 := hid (HW.out.1.trans (hb.mono HW.out.1.size))
        clear hb
        go_wp2
        go_ret
        exact ⟨rfl, HW2.out⟩
  · simp only [decide_eq_false gz] at HZ
    rw [gi_false (fun q => gz ⟨q.z0, q.z1⟩)]
    clear gz
    go_enter Tryz.func69, Tryz.ntmps69
    go_wp2_with fail
    refine (HZ _).out.mono ?_
    rintro e w1 ⟨rfl, hw⟩; subst w1
    go_wp2
    go_ret
    exact ⟨rfl, HB0.out⟩

/-- The model's box and its lists. -/
structure Mo (w : World) (i : Iv) (x : World) : Prop where
  box : x.heap[w.heap.size]? = some (.cells (clI i) 62)
  bel : Below w.heap.size w x
theorem Mo.mv {w x y : World} {i : Iv} (h : Mo w i x) (hb : Below x.heap.size x y) : Mo w i y := ⟨kept h.box hb, h.bel.trans (hb.mono h.bel.size)⟩
theorem num_rise {l : List Int} (h : l.length ≤ 10) : num l = riseI l := by unfold num; rw [decide_eq_true (by omega : l.length ≤ 1000)]; rfl

set_option maxHeartbeats 8000000 in
set_option maxRecDepth 100000 in
theorem f25 (i : Iv) (w : World) (hr : Has w i) (hs : Sml i) :
    Calls Tryz.prog 25 #[agI i] w fun e w' => e = .returned (.bool (gi i)) ∧ Below w.heap.size w w' := by
  have HH := hid hr
  have HS := hid hs
  clear hr hs
  have HM : Hid (Mo w i (w.alloc (.cells (clI i) 62))) := ⟨heap_alloc_new w _, (Below.refl _ _).alloc (Nat.le_refl _) _⟩
  obtain ⟨z, l1, l2, l3, l4, l5, l6, a1, c1, a2, c2, a3, c3, a4, c4, a5, c5, a6, c6⟩ := i
  obtain ⟨W, hW⟩ : ∃ W, W = w.alloc (.cells (clI ⟨z, l1, l2, l3, l4, l5, l6, a1, c1, a2, c2, a3, c3, a4, c4, a5, c5, a6, c6⟩) 62) := ⟨_, rfl⟩
  rw [← hW] at HM
  have HW := hid hW
  clear hW
  have hs3 := HS.out.s3
  have hs6 := HS.out.s6
  obtain ⟨n3, hn3⟩ : ∃ n, n = l3.length := ⟨_, rfl⟩
  obtain ⟨n6, hn6⟩ : ∃ n, n = l6.length := ⟨_, rfl⟩
  have HN3 := hid hn3
  have HN6 := hid hn6
  simp only at hs3 hs6
  go_enter Tryz.func25, Tryz.ntmps25
  go_upto_region 1 with fail
  rw [← HW.out]
  clear HW
  obtain ⟨x0, x1, x2, x3, x4, x5, x6⟩ := cells7 HM.out.box
  simp only at x3 x6
  rw [← hn3] at x3 hs3
  rw [← hn6] at x6 hs6
  clear hn3 hn6
  go_wp2
  go_loopw [10] (fun s wr => ∃ j : Nat, j ≤ n3 ∧ s = .int .i64 j ∧ Hid (∀ m, m < j → dk (l3.getD m e0)) ∧ Hid (Mo w ⟨z, l1, l2, l3, l4, l5, l6, a1, c1, a2, c2, a3, c3, a4, c4, a5, c5, a6, c6⟩ wr)) (fun s _ => n3 - (intOf s).toNat)
  case atStart => exact ⟨0, Nat.zero_le _, rfl, fun i hi => absurd hi (by omega), HM⟩
  case round =>
    clear HM x0 x1 x2 x3 x4 x5 x6
    obtain ⟨j, hj, rfl, HA, HM⟩ := hrel
    by_cases hlt : j < n3
    · rcases HH.out.h3.below HM.out.bel with hr | ⟨b, off, hab, hbl, hc⟩
      · exact absurd HN3.out (by simp only at hr; rw [hr]; simp; omega)
      simp only at hab
      subst hab
      obtain ⟨d0, d1⟩ := hc j (by simp only; rw [← HN3.out]; exact hlt)
      simp only at d0 d1
      have i1 : (j : Int) < (n3 : Int) := by omega
      have HNo : Hid (¬ dk (l3.getD j e0) → gi ⟨z, l1, l2, l3, l4, l5, l6, a1, c1, a2, c2, (some ⟨b, off, none⟩), c3, a4, c4, a5, c5, a6, c6⟩ = false) := fun h => gi_false fun q => h (((gks_days _ _ _).1 q.g3).1 j (by simp only; rw [← HN3.out]; exact hlt))
      have HNx : Hid (dk (l3.getD j e0) → ∀ i, i < j + 1 → dk (l3.getD i e0)) := by
        intro h i hi
        by_cases e : i = j
        · subst e; exact h
        · exact HA.out i (by omega)
      clear hc
      generalize l3.getD j e0 = p at *
      obtain ⟨s, t⟩ := p
      have HM1 := hid (HM.out.mv ((Below.refl _ _).alloc (Nat.le_refl _) (.cells #[.int .i64 s, .int .i64 t] 109)))
      by_cases q1 : s = 0
      · have HX := hid (HNo.out (show ¬ dk (s, t) from fun h => h.1 q1))
        have e1 : (s == 0) = true := by simpa using q1
        clear q1
        go_wp2
        go_ret
        exact ⟨by rw [HX.out]; rfl, HM1.out.bel⟩
      have e1 : (s == 0) = false := by simpa using q1
      by_cases q2 : t = 0
      · have HX := hid (HNo.out (show ¬ dk (s, t) from fun h => h.2.1 q2))
        have e2 : (t == 0) = true := by simpa using q2
        clear q1 q2
        go_wp2
        go_ret
        exact ⟨by rw [HX.out]; rfl, HM1.out.bel⟩
      have e2 : (t == 0) = false := by simpa using q2
      by_cases q3 : s < 0 ↔ t < 0
      · have HX := hid (HNx.out (show dk (s, t) from ⟨q1, q2, q3⟩))
        clear q1 q2
        by_cases q4 : s < 0
        · have q5 : t < 0 := q3.1 q4
          clear q3
          go_wp2
          go_roundw
          case rel => exact ⟨j + 1, by omega, by go_num, HX, HM1⟩
          case measure => simp [intOf]; omega
        · have q5 : ¬ t < 0 := fun h => q4 (q3.2 h)
          clear q3
          go_wp2
          go_roundw
          case rel => exact ⟨j + 1, by omega, by go_num, HX, HM1⟩
          case measure => simp [intOf]; omega
      · have HX := hid (HNo.out (show ¬ dk (s, t) from fun h => q3 h.2.2))
        clear q1 q2
        by_cases q4 : s < 0
        · have q5 : ¬ t < 0 := fun h => q3 ⟨fun _ => h, fun _ => q4⟩
          clear q3
          go_wp2
          go_ret
          exact ⟨by rw [HX.out]; rfl, HM1.out.bel⟩
        · have q5 : t < 0 := by
            by_cases g : t < 0
            · exact g
            · exact absurd ⟨fun h => absurd h q4, fun h => absurd h g⟩ q3
          clear q3
          go_wp2
          go_ret
          exact ⟨by rw [HX.out]; rfl, HM1.out.bel⟩
    · have HDK : Hid (dks l3) := fun i hi => HA.out i (by have := HN3.out; omega)
      clear HA
      obtain ⟨x0, x1, x2, x3, x4, x5, x6⟩ := cells7 HM.out.box
      simp only at x0 x1 x2 x3 x4 x5 x6
      rw [← HN6.out] at x6
      have i1 : ¬ (j : Int) < (n3 : Int) := by omega
      have NO : Hid (¬ GoodI ⟨z, l1, l2, l3, l4, l5, l6, a1, c1, a2, c2, a3, c3, a4, c4, a5, c5, a6, c6⟩ → gi ⟨z, l1, l2, l3, l4, l5, l6, a1, c1, a2, c2, a3, c3, a4, c4, a5, c5, a6, c6⟩ = false) := fun h => gi_false h
      by_cases z1 : z < -1440
      · have HX := hid (NO.out (fun q => by have := q.z0; simp only at this; omega))
        go_wp2
        go_ret
        exact ⟨by rw [HX.out]; rfl, HM.out.bel⟩
      by_cases z2 : z > 1440
      · have HX := hid (NO.out (fun q => by have := q.z1; simp only at this; omega))
        go_wp2
        go_ret
        exact ⟨by rw [HX.out]; rfl, HM.out.bel⟩
      by_cases f1 : (n6 : Int) > 10
      · have HX := hid (NO.out (fun q => by have := q.g6.1; simp only at this; have := HN6.out; omega))
        go_wp2
        go_ret
        exact ⟨by rw [HX.out]; rfl, HM.out.bel⟩
      have HC := hid (Ino.f57 a6 n6 c6 l6 wr HN6.out.symm hs6 (HH.out.h6.below HM.out.bel))
      rw [num_rise (by have := HN6.out; omega)] at HC
      cases hrise : riseI l6
      · have HX := hid (NO.out (fun q => by have := q.g6.2.1; simp only at this; rw [hrise] at this; cases this))
        rw [hrise] at HC
        clear hrise
        go_wp2_with fail
        refine HC.out.mono ?_
        rintro e w2 ⟨rfl, hb⟩
        have HM2 := hid (HM.out.mv hb)
        clear hb
        go_wp2
        go_ret
        exact ⟨by rw [HX.out]; rfl, HM2.out.bel⟩
      rw [hrise] at HC
      have HRI := hid hrise
      clear hrise
      go_wp2_with fail
      refine HC.out.mono ?_
      rintro e w2 ⟨rfl, hb⟩
      have HM2 := hid (HM.out.mv hb)
      clear hb HM HC x0 x1 x2 x3 x4 x5 x6
      obtain ⟨x0, x1, x2, x3, x4, x5, x6⟩ := cells7 HM2.out.box
      simp only at x0 x1 x2 x3 x4 x5 x6
      rw [← HN6.out] at x6
      go_wp2
      go_loopw [55] (fun s wr => ∃ j : Nat, j ≤ n6 ∧ s = .int .i64 j ∧ Hid (∀ m, m < j → 0 ≤ l6.getD m 0 ∧ l6.getD m 0 ≤ 20000000) ∧ Hid (wr = w2)) (fun s _ => n6 - (intOf s).toNat)
      case atStart => exact ⟨0, Nat.zero_le _, rfl, fun i hi => absurd hi (by omega), rfl⟩
      case round =>
        obtain ⟨j', hj', rfl, HA, HW⟩ := hrel
        obtain rfl := HW.out.symm
        by_cases hlt' : j' < n6
        · rcases HH.out.h6.below HM2.out.bel with hr | ⟨b, off, hab, hbl, hc⟩
          · exact absurd HN6.out (by simp only at hr; rw [hr]; simp; omega)
          simp only at hab
          subst hab
          have d0 := hc j' (by simp only; rw [← HN6.out]; exact hlt')
          simp only at d0
          have i2 : (j' : Int) < (n6 : Int) := by omega
          have HNo : Hid (¬ (0 ≤ l6.getD j' 0 ∧ l6.getD j' 0 ≤ 20000000) → gi ⟨z, l1, l2, l3, l4, l5, l6, a1, c1, a2, c2, a3, c3, a4, c4, a5, c5, (some ⟨b, off, none⟩), c6⟩ = false) := fun h => gi_false fun q => h (q.g6.2.2 j' (by simp only; rw [← HN6.out]; exact hlt'))
          have HNx : Hid (0 ≤ l6.getD j' 0 ∧ l6.getD j' 0 ≤ 20000000 → ∀ i, i < j' + 1 → 0 ≤ l6.getD i 0 ∧ l6.getD i 0 ≤ 20000000) := by
            intro h i hi
            by_cases e : i = j'
            · subst e; exact h
            · exact HA.out i (by omega)
          clear hc
          generalize l6.getD j' 0 = p at *
          by_cases q1 : p < 0
          · have HX := hid (HNo.out (by omega))
            go_wp2
            go_ret
            exact ⟨by rw [HX.out]; rfl, HM2.out.bel⟩
          by_cases q2 : p > 20000000
          · have HX := hid (HNo.out (by omega))
            go_wp2
            go_ret
            exact ⟨by rw [HX.out]; rfl, HM2.out.bel⟩
          have HX := hid (HNx.out (by omega))
          go_wp2
          go_roundw
          case rel => exact ⟨j' + 1, by omega, by go_num, HX, trivial⟩
          case measure => simp [intOf]; omega
        · have HFR : Hid (fr l6) := ⟨by have := HN6.out; omega, HRI.out, fun i hi => HA.out i (by have := HN6.out; omega)⟩
          have i2 : ¬ (j' : Int) < (n6 : Int) := by omega
          clear HA HW
          have S1 := hid (f58 a1 c1 l1 0 1439 w2 HS.out.s1 (HH.out.h1.below HM2.out.bel))
          by_cases g1 : sks 0 1439 l1
          rotate_left
          · have HX := hid (NO.out (fun q => g1 ((gks_sks (by omega) _ _ _).1 q.g1)))
            rw [decide_eq_false g1] at S1
            clear g1
            go_wp2_with fail
            refine S1.out.mono ?_
            rintro e w3 ⟨rfl, hb⟩
            have HM3 := hid (HM2.out.mv hb)
            clear hb
            go_wp2
            go_ret
            exact ⟨by rw [HX.out]; rfl, HM3.out.bel⟩
          rw [decide_eq_true g1] at S1
          have G1 := hid ((gks_sks (k := 0) (by omega) _ _ _).2 g1)
          clear g1
          go_wp2_with fail
          refine S1.out.mono ?_
          rintro e w3 ⟨rfl, hb⟩
          have HM3 := hid (HM2.out.mv hb)
          clear hb S1 x0 x1 x2 x3 x4 x5 x6
          obtain ⟨x0, x1, x2, x3, x4, x5, x6⟩ := cells7 HM3.out.box
          simp only at x0 x1 x2 x3 x4 x5 x6
          have S2 := hid (f58 a2 c2 l2 0 6 w3 HS.out.s2 (HH.out.h2.below HM3.out.bel))
          by_cases g2 : sks 0 6 l2
          rotate_left
          · have HX := hid (NO.out (fun q => g2 ((gks_sks (by omega) _ _ _).1 q.g2)))
            rw [decide_eq_false g2] at S2
            clear g2
            go_wp2_with fail
            refine S2.out.mono ?_
            rintro e w4 ⟨rfl, hb⟩
            have HM4 := hid (HM3.out.mv hb)
            clear hb
            go_wp2
            go_ret
            exact ⟨by rw [HX.out]; rfl, HM4.out.bel⟩
          rw [decide_eq_true g2] at S2
          have G2 := hid ((gks_sks (k := 1) (by omega) _ _ _).2 g2)
          clear g2
          go_wp2_with fail
          refine S2.out.mono ?_
          rintro e w4 ⟨rfl, hb⟩
          have HM4 := hid (HM3.out.mv hb)
          clear hb S2 x0 x1 x2 x3 x4 x5 x6
          obtain ⟨x0, x1, x2, x3, x4, x5, x6⟩ := cells7 HM4.out.box
          simp only at x0 x1 x2 x3 x4 x5 x6
          have S3 := hid (f58 a3 c3 l3 (-31) 31 w4 HS.out.s3 (HH.out.h3.below HM4.out.bel))
          by_cases g3 : sks (-31) 31 l3
          rotate_left
          · have HX := hid (NO.out (fun q => g3 (((gks_days _ _ _).1 q.g3).2)))
            rw [decide_eq_false g3] at S3
            clear g3
            go_wp2_with fail
            refine S3.out.mono ?_
            rintro e w5 ⟨rfl, hb⟩
            have HM5 := hid (HM4.out.mv hb)
            clear hb
            go_wp2
            go_ret
            exact ⟨by rw [HX.out]; rfl, HM5.out.bel⟩
          rw [decide_eq_true g3] at S3
          have G3 := hid ((gks_days _ _ _).2 ⟨HDK.out, g3⟩)
          clear g3
          go_wp2_with fail
          refine S3.out.mono ?_
          rintro e w5 ⟨rfl, hb⟩
          have HM5 := hid (HM4.out.mv hb)
          clear hb S3 x0 x1 x2 x3 x4 x5 x6
          obtain ⟨x0, x1, x2, x3, x4, x5, x6⟩ := cells7 HM5.out.box
          simp only at x0 x1 x2 x3 x4 x5 x6
          have S4 := hid (f58 a4 c4 l4 1 12 w5 HS.out.s4 (HH.out.h4.below HM5.out.bel))
          by_cases g4 : sks 1 12 l4
          rotate_left
          · have HX := hid (NO.out (fun q => g4 ((gks_sks (by omega) _ _ _).1 q.g4)))
            rw [decide_eq_false g4] at S4
            clear g4
            go_wp2_with fail
            refine S4.out.mono ?_
            rintro e w6 ⟨rfl, hb⟩
            have HM6 := hid (HM5.out.mv hb)
            clear hb
            go_wp2
            go_ret
            exact ⟨by rw [HX.out]; rfl, HM6.out.bel⟩
          rw [decide_eq_true g4] at S4
          have G4 := hid ((gks_sks (k := 3) (by omega) _ _ _).2 g4)
          clear g4
          go_wp2_with fail
          refine S4.out.mono ?_
          rintro e w6 ⟨rfl, hb⟩
          have HM6 := hid (HM5.out.mv hb)
          clear hb S4 x0 x1 x2 x3 x4 x5 x6
          obtain ⟨x0, x1, x2, x3, x4, x5, x6⟩ := cells7 HM6.out.box
          simp only at x0 x1 x2 x3 x4 x5 x6
          have S5 := hid (f58 a5 c5 l5 1970 40000 w6 HS.out.s5 (HH.out.h5.below HM6.out.bel))
          by_cases g5 : sks 1970 40000 l5
          rotate_left
          · have HX := hid (NO.out (fun q => g5 ((gks_sks (by omega) _ _ _).1 q.g5)))
            rw [decide_eq_false g5] at S5
            clear g5
            go_wp2_with fail
            refine S5.out.mono ?_
            rintro e w7 ⟨rfl, hb⟩
            have HM7 := hid (HM6.out.mv hb)
            clear hb
            go_wp2
            go_ret
            exact ⟨by rw [HX.out]; rfl, HM7.out.bel⟩
          rw [decide_eq_true g5] at S5
          have G5 := hid ((gks_sks (k := 4) (by omega) _ _ _).2 g5)
          clear g5
          go_wp2_with fail
          refine S5.out.mono ?_
          rintro e w7 ⟨rfl, hb⟩
          have HM7 := hid (HM6.out.mv hb)
          clear hb S5 x0 x1 x2 x3 x4 x5 x6
          have HX := hid (gi_true (i := ⟨z, l1, l2, l3, l4, l5, l6, a1, c1, a2, c2, a3, c3, a4, c4, a5, c5, a6, c6⟩) ⟨by simp only; omega, by simp only; omega, G1.out, G2.out, G3.out, G4.out, G5.out, HFR.out⟩)
          go_wp2
          go_ret
          exact ⟨by rw [HX.out]; rfl, HM7.out.bel⟩
end Go.Proofs.YthcogkoleiejgaaGreatDoor.Rng
