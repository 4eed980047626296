/- foldWindows at one window: aggs put together. -/
import Derived.Test.YtpbnneelpdacdaaBb
namespace Go.Proofs.Ytpbnneelpdacdaa.Agl
open Go.RowKit Go.Shelf
attribute [local go_sem] Oper.semAt_some

set_option maxRecDepth 100000 in
set_option maxHeartbeats 8000000 in
theorem foldW {gf : Nat} {lb : Array Value} (win : Int → Int) (Br : Nat) (xs : List Ag) (w : World) (hl : xs.length ≤ 1048576) (hwin : ∀ t W, Below w.heap.size w W → Calls Try.prog 59 (#[.int .i64 t] ++ #[.pointer (some ⟨Br, 0, none⟩)]) W fun e W' => e = .returned (.int .i64 (win t)) ∧ W' = W)
    (eg : ∀ args w, (callFunc gf args).run Try.prog w = .ok (.enter gf args) w) (hseq : SeqStopsK Fence.wide 2 Try.prog gf lb (fun p : Ag => #[valA p]) (Below w.heap.size) (fun ys => ys = xs) (fun pre => pre <+: xs) xs.length w) :
    Calls Try.prog 31 #[.func (.func gf) #[] lb, (.func (.func 59) #[] #[.pointer (some ⟨Br, 0, none⟩)])] w fun e w' => ∃ v, e = .returned v ∧ w'.ownsRow w.heap.size 33 8 v (fw win xs).length (flat (fw win xs)) ∧ (v = .slice none 0 0 ↔ fw win xs = []) ∧ Below w.heap.size w w' := by
  obtain ⟨i0, hi, hz0, hz1, hz2⟩ := info_parts infoA
  have HW := hid hwin
  clear hwin
  refine (callsIn_wide (n := 3)).1 ?_
  refine callsIn_of_wp_marks Try.func31 rfl trivial ?_ rfl
  simp only [Try.ntmps31, List.size_toArray, List.length_cons, List.length_nil, Nat.reduceAdd, Nat.reduceSub, Array.replicate_succ, Array.replicate_zero, List.push_toArray, List.append_toArray, List.nil_append, List.cons_append]
  gi_wp2
  have bW := (Boxed.new w 54 (.func (.func 59) #[] #[.pointer (some ⟨Br, 0, none⟩)])).alloc (.cells #[.slice none 0 0] 28)
  have bO := Boxed.new (w.alloc (.cells #[.func (.func 59) #[] #[.pointer (some ⟨Br, 0, none⟩)]] 54)) 28 (.slice none 0 0)
  rw [World.size_alloc] at bO
  have hB0 : Below w.heap.size w ((w.alloc (.cells #[.func (.func 59) #[] #[.pointer (some ⟨Br, 0, none⟩)]] 54)).alloc (.cells #[.slice none 0 0] 28)) := ((Below.refl _ w).alloc (Nat.le_refl _) _).alloc (by simp) _
  have hsz : ((w.alloc (.cells #[.func (.func 59) #[] #[.pointer (some ⟨Br, 0, none⟩)]] 54)).alloc (.cells #[.slice none 0 0] 28)).heap.size = w.heap.size + 2 := by simp
  obtain ⟨W0, hW0⟩ : ∃ W0, (w.alloc (.cells #[.func (.func 59) #[] #[.pointer (some ⟨Br, 0, none⟩)]] 54)).alloc (.cells #[.slice none 0 0] 28) = W0 := ⟨_, rfl⟩
  rw [hW0] at bW bO hB0 hsz ⊢
  clear hW0
  refine wpIn_rangeFunc_ownH rfl (by omega) (gf := gf) (lb := lb) rfl trivial eg hseq belowK_t (belowK_b (by omega)) hB0 (fun _ => rfl)
    (fun pre W => (∃ v, Boxed W (w.heap.size + 1) 28 v ∧ W.ownsRow w.heap.size 33 8 v (fw win pre).length (flat (fw win pre)) ∧ (v = .slice none 0 0 ↔ fw win pre = [])) ∧ (Boxed W w.heap.size 54 (.func (.func 59) #[] #[.pointer (some ⟨Br, 0, none⟩)]) ∧ Below w.heap.size w W))
    (fun _ _ _ => False)
    (OwnFrom.and (Own.from (holdsRow_own w.heap.size (w.heap.size + 1) 28 33 8 (fun pre => (fw win pre).length) (fun pre => flat (fw win pre)) (fun pre v => v = .slice none 0 0 ↔ fw win pre = [])) _) (OwnFrom.and (Own.from (boxed_own _ _ _) _) (ownFrom_below (Nat.le_refl _) (by omega))))
    (fun _ _ _ _ _ hs _ _ => hs)
    ⟨⟨_, bO, World.ownsRow_nil _ _ _ _, by simp [fw]⟩, bW, hB0⟩
    (fun x a' W => ∃ Bx v0, W.heap[Bx]? = some (.cells (cells x).toArray 33 (0, 0)) ∧ Boxed W (w.heap.size + 1) 28 v0 ∧ v0.ownBlock ≠ some Bx ∧ w.heap.size + 1 < Bx ∧ a' = { tmps := #[.func (.func gf) #[] lb, .func (.func 59) #[] #[.pointer (some ⟨Br, 0, none⟩)], undef, .pointer (some ⟨w.heap.size, 0, none⟩), .slice none 0 0, .pointer (some ⟨w.heap.size + 1, 0, none⟩), .pointer (some ⟨Bx, 0, none⟩), undef, .func (.func gf) #[] lb, valA x, undef, undef, undef, undef, undef, undef, undef, undef, undef, undef, undef, undef, undef, undef, undef, undef, undef, undef, undef, undef, undef, undef, undef, undef, undef, undef, undef, undef, undef, undef, undef, undef, undef, undef], defers := [] })
    (fun x a' _ X Y row hs hg hr => by
      obtain ⟨Bx, v0, h1, h2, h3, h4, h5⟩ := hs
      exact ⟨Bx, v0, box_own h1 hg (fun r e => (hr r e).2), boxed_own (w.heap.size + 1) 28 (fun (_ : Unit) => v0) () X Y row h2 hg (fun r e => (hr r e).2), h3, h4, h5⟩)
    ?assign ?body ?done ?stop
  case assign =>
    rintro l pre x W K ⟨⟨v, hv, hrow, hnil⟩, bW1, hB1⟩ hK
    obtain ⟨x0, x1, x2, x3, x4, x5, x6, x7⟩ := x
    simp only [valA]
    gi_wp2
    exact hK _ _ ((KeepsOthers.alloc _ _).from _) ((Below.refl _ W).alloc hB1.size _) ⟨⟨v, hv.alloc _, hrow.alloc _, hnil⟩, bW1.alloc _, hB1.alloc hB1.size _⟩ ⟨W.heap.size, v, heap_new W _, hv.alloc _, fun e => by have := (hrow.lt _ e).2; omega, hv.lt, rfl⟩
  case body =>
    rintro l pre x a' W hl0 ⟨r, hr⟩ ⟨⟨v, hv, hrow, hnil⟩, bW1, hB1⟩ ⟨Bx, v0, hX, hv0, hne, hBx, rfl⟩ hlt
    obtain rfl : v = v0 := boxed_eq hv hv0
    obtain ⟨x0, x1, x2, x3, x4, x5, x6, x7⟩ := x
    simp only [cells] at hX
    have cW := bW1.cell
    have cX0 := cell_at hX 0
    have cX1 := cell_at hX 1
    have cX2 := cell_at hX 2
    have cX3 := cell_at hX 3
    have cX4 := cell_at hX 4
    have cX5 := cell_at hX 5
    have cX6 := cell_at hX 6
    have cX7 := cell_at hX 7
    have fX0 := froz_at hX 0
    have hv1 : Boxed (W.setCell ⟨Bx, 0, none⟩ (.int .i64 (win x0))) (w.heap.size + 1) 28 v := hv.kept (grown_at W Bx 0 _) (by simp; omega)
    have bW2 : Boxed (W.setCell ⟨Bx, 0, none⟩ (.int .i64 (win x0))) w.heap.size 54 (.func (.func 59) #[] #[.pointer (some ⟨Br, 0, none⟩)]) := bW1.kept (grown_at W Bx 0 _) (by simp; omega)
    have hrow1 : (W.setCell ⟨Bx, 0, none⟩ (.int .i64 (win x0))).ownsRow w.heap.size 33 8 v (fw win pre).length (flat (fw win pre)) := hrow.kept (grown_at W Bx 0 _) (.inr hne)
    have hX1 := set_cell (o := 0) (x := .int .i64 (win x0)) hX
    simp only [List.setIfInBounds_toArray, List.set_cons_zero] at hX1
    have hB2 : Below w.heap.size w (W.setCell ⟨Bx, 0, none⟩ (.int .i64 (win x0))) := hB1.setCell (p := ⟨Bx, 0, none⟩) (by simp; omega) _
    have hBW : Below w.heap.size W (W.setCell ⟨Bx, 0, none⟩ (.int .i64 (win x0))) := (Below.refl _ W).setCell (p := ⟨Bx, 0, none⟩) (by simp; omega) _
    have hKW : KeepsFrom W0.heap.size W (W.setCell ⟨Bx, 0, none⟩ (.int .i64 (win x0))) := (KeepsOthers.setCell _ _ _).from _
    have hc1 := hv1.cell
    have hsn := fw_snoc win pre ⟨x0, x1, x2, x3, x4, x5, x6, x7⟩
    have hlen := fw_len win pre
    have HV1 := hid hv1
    have HBW2 := hid bW2
    have HR1 := hid hrow1
    have HX1 := hid hX1
    have HB2 := hid hB2
    have HBW := hid hBW
    have HKW := hid hKW
    have HSn := hid hsn
    have HCW := hid (HW.out x0 W hB1)
    clear hv1 bW2 hrow1 hX1 hB2 hBW hKW hsn hrow hB1 hv hv0 bW1
    by_cases hp : fw win pre = []
    · obtain rfl := hnil.2 hp
      have HP := hid hp
      rw [hp] at HR1
      simp only [List.length_nil, flat_nil] at HR1
      have HSz := hid hsz
      have HI := hid (And.intro hi (And.intro hz0 (And.intro hz1 hz2)))
      clear hp hnil hsz hz0 hz1 hz2 hi
      gi_wp2_with (refine ⟨trivial, ?_⟩; gi_at_call 59; refine (CallsIn.inRound l (callsIn_wide.2 HCW.out)).mono ?_; rintro e W1 ⟨rfl, rfl⟩)
      generalize W1.setCell ⟨Bx, 0, none⟩ (.int .i64 (win x0)) = V at *
      have cD := (HV1.out.kept (drew_grown V) (by simp)).cell
      refine Rnd.region_in (S := fun x => x.cell? ⟨w.heap.size + 1, 0, none⟩ = some (.slice none 0 0)) rfl (by kernel_rfl) (fun ⟨_, _, h⟩ => h) cD (fun hHeld => ?_)
      refine wpAnyH_take (i := 0) (oi := { dst := some 18, op := _, type := _, pos := _, after := _, guard := _ }) (v := .int .i64 (-1)) rfl (by kernel_rfl) (by kernel_rfl) (by kernel_rfl) (fun _ _ _ h => h) (Or.inl ⟨by rfl, fun w hSw => by (try dsimp only at hSw); go_split_ands; go_simp⟩) (by assumption) ?_
      simp only [Act.put, List.setIfInBounds_toArray, List.set_cons_zero, List.set_cons_succ]
      refine wpAnyH_take (i := 1) (oi := { dst := some 19, op := _, type := _, pos := _, after := _, guard := _ }) (v := .bool false) rfl (by kernel_rfl) (by kernel_rfl) (by kernel_rfl) (fun _ _ _ h => h) (Or.inl ⟨by rfl, fun w hSw => by (try dsimp only at hSw); go_split_ands; go_simp⟩) (by assumption) ?_
      simp only [Act.put, List.setIfInBounds_toArray, List.set_cons_zero, List.set_cons_succ]
      refine wpAnyH_take (i := 2) (oi := { dst := some 20, op := _, type := _, pos := _, after := _, guard := _ }) (v := .bool false) rfl (by kernel_rfl) (by kernel_rfl) (by kernel_rfl) (fun _ _ _ h => h) (Or.inl ⟨by rfl, fun w hSw => by (try dsimp only at hSw); go_split_ands; go_simp⟩) (by assumption) ?_
      simp only [Act.put, List.setIfInBounds_toArray, List.set_cons_zero, List.set_cons_succ]
      refine wpAnyH_take (i := 3) (oi := { dst := some 21, op := _, type := _, pos := _, after := _, guard := _ }) (v := undef) rfl (by kernel_rfl) (by kernel_rfl) (by kernel_rfl) (fun _ _ _ h => h) (Or.inr ⟨by rfl, rfl⟩) (by assumption) ?_
      simp only [Act.put, List.setIfInBounds_toArray, List.set_cons_zero, List.set_cons_succ]
      refine wpAnyH_take (i := 4) (oi := { dst := some 22, op := _, type := _, pos := _, after := _, guard := _ }) (v := undef) rfl (by kernel_rfl) (by kernel_rfl) (by kernel_rfl) (fun _ _ _ h => h) (Or.inr ⟨by rfl, rfl⟩) (by assumption) ?_
      simp only [Act.put, List.setIfInBounds_toArray, List.set_cons_zero, List.set_cons_succ]
      refine wpAnyH_take (i := 5) (oi := { dst := some 23, op := _, type := _, pos := _, after := _, guard := _ }) (v := undef) rfl (by kernel_rfl) (by kernel_rfl) (by kernel_rfl) (fun _ _ _ h => h) (Or.inr ⟨by rfl, rfl⟩) (by assumption) ?_
      simp only [Act.put, List.setIfInBounds_toArray, List.set_cons_zero, List.set_cons_succ]
      refine wpAnyH_take (i := 6) (oi := { dst := some 24, op := _, type := _, pos := _, after := _, guard := _ }) (v := undef) rfl (by kernel_rfl) (by kernel_rfl) (by kernel_rfl) (fun _ _ _ h => h) (Or.inr ⟨by rfl, rfl⟩) (by assumption) ?_
      simp only [Act.put, List.setIfInBounds_toArray, List.set_cons_zero, List.set_cons_succ]
      refine wpAnyH_take (i := 7) (oi := { dst := some 25, op := _, type := _, pos := _, after := _, guard := _ }) (v := undef) rfl (by kernel_rfl) (by kernel_rfl) (by kernel_rfl) (fun _ _ _ h => h) (Or.inr ⟨by rfl, rfl⟩) (by assumption) ?_
      simp only [Act.put, List.setIfInBounds_toArray, List.set_cons_zero, List.set_cons_succ]
      refine wpAnyH_take (i := 8) (oi := { dst := some 26, op := _, type := _, pos := _, after := _, guard := _ }) (v := undef) rfl (by kernel_rfl) (by kernel_rfl) (by kernel_rfl) (fun _ _ _ h => h) (Or.inr ⟨by rfl, rfl⟩) (by assumption) ?_
      simp only [Act.put, List.setIfInBounds_toArray, List.set_cons_zero, List.set_cons_succ]
      refine wpAnyH_take (i := 9) (oi := { dst := some 27, op := _, type := _, pos := _, after := _, guard := _ }) (v := undef) rfl (by kernel_rfl) (by kernel_rfl) (by kernel_rfl) (fun _ _ _ h => h) (Or.inr ⟨by rfl, rfl⟩) (by assumption) ?_
      simp only [Act.put, List.setIfInBounds_toArray, List.set_cons_zero, List.set_cons_succ]
      refine wpAnyH_take (i := 10) (oi := { dst := some 28, op := _, type := _, pos := _, after := _, guard := _ }) (v := undef) rfl (by kernel_rfl) (by kernel_rfl) (by kernel_rfl) (fun _ _ _ h => h) (Or.inr ⟨by rfl, rfl⟩) (by assumption) ?_
      simp only [Act.put, List.setIfInBounds_toArray, List.set_cons_zero, List.set_cons_succ]
      refine wpAnyH_take (i := 11) (oi := { dst := some 29, op := _, type := _, pos := _, after := _, guard := _ }) (v := .bool false) rfl (by kernel_rfl) (by kernel_rfl) (by kernel_rfl) (fun _ _ _ h => h) (Or.inl ⟨by rfl, fun w hSw => by (try dsimp only at hSw); go_split_ands; go_simp⟩) (by assumption) ?_
      simp only [Act.put, List.setIfInBounds_toArray, List.set_cons_zero, List.set_cons_succ]
      refine wpAnyH_done (by kernel_rfl) ?_ _
      have HV2 := hid (HV1.out.kept (drew_grown V) (by simp))
      have HBW3 := hid (HBW2.out.kept (drew_grown V) (by simp))
      have HR2 := hid (HR1.out.kept (drew_grown V) (by cases hv : Value.ownBlock (.slice none 0 0) <;> simp))
      have HX2 := hid (box_own HX1.out (drew_grown V) (fun r e => by cases e))
      have HB3 := hid HB2.out.drew
      have HBW4 := hid HBW.out.drew
      have HKW2 := hid (HKW.out.trans (KeepsFrom.of_grownBy (drew_grown V) (fun j e => by cases e)))
      clear HV1 HBW2 HR1 HX1 HB2 HBW HKW
      generalize V.drew = V1 at *
      have hc2 := HV2.out.cell
      have e0 := cell_at HX2.out 0
      have e1 := cell_at HX2.out 1
      have e2 := cell_at HX2.out 2
      have e3 := cell_at HX2.out 3
      have e4 := cell_at HX2.out 4
      have e5 := cell_at HX2.out 5
      have e6 := cell_at HX2.out 6
      have e7 := cell_at HX2.out 7
      gi_wp2_with (gi_at_builtin; refine wpListIn_append_own _ rfl _ _ 28 rfl w.heap.size 33 i0 (.agg #[.int .i64 0, .int .i64 0, .int .i64 0, .int .i64 0, .int .i64 0, .int .i64 0, .int .i64 0, .int .i64 0]) 8 64 Try.underlying28 HI.out.1 HI.out.2.1 HI.out.2.2.1 HI.out.2.2.2 rfl (by decide) _ 0 _ rfl (HR2.out.alloc _) ⟨V1.heap.size, 0, none⟩ 1 1 [.int .i64 (win x0), .int .i64 x1, .int .i64 x2, .int .i64 x3, .int .i64 x4, .int .i64 x5, .int .i64 x6, .int .i64 x7] rfl rfl ?d1 ?d2 ?d3 ?d4 ?d5 ?_)
      case d1 => exact eight_new V1 (.int .i64 (win x0)) (.int .i64 x1) (.int .i64 x2) (.int .i64 x3) (.int .i64 x4) (.int .i64 x5) (.int .i64 x6) (.int .i64 x7) 33
      case d2 => first | exact ⟨rfl, rfl, rfl, rfl, rfl, rfl, rfl, rfl⟩ | (intro u hu; simp at hu; rcases hu with rfl | rfl | rfl | rfl | rfl | rfl | rfl | rfl <;> rfl)
      case d3 => unfold maxLen; omega
      case d4 => omega
      case d5 => have := HB3.out.size; simp; omega
      intro v' w1 hown' hgrow _
      obtain ⟨g', cap', rfl⟩ := ownsRow_succ hown'
      obtain ⟨hv3, hv4, hr2, hk2, hb2⟩ := HV2.out.appended (by decide) HR2.out HB3.out.size (by omega) hown' hgrow
      have HF := hid (box3 HBW3.out (by decide) HR2.out hgrow (show w.heap.size ≠ w.heap.size + 1 by omega) (u := .slice (some ⟨g', 0, none⟩) (0 + 1) cap'))
      have hc3 := hv3.cell
      have hf3 := hv3.frozen
      have HV4 := hid hv4
      have HR4 := hid hr2
      have HK4 := hid hk2
      have HB4 := hid hb2
      clear hown' hgrow hv3 hv4 hr2 hk2 hb2
      gi_wp2
      have HSt := hid (step_new (win := win) (L := fw win pre) (p := ⟨x0, x1, x2, x3, x4, x5, x6, x7⟩) (fun h => h.1 HP.out))
      refine ⟨HKW2.out.trans (HK4.out.from _), HBW4.out.trans HB4.out, ⟨⟨_, HV4.out, ?_, ?_⟩, HF.out, HB3.out.trans HB4.out⟩⟩
      · rw [HSn.out, HSt.out, HP.out]; exact HR4.out
      · rw [HSn.out, HSt.out]; simp
    · obtain ⟨m, hm⟩ : ∃ m, (fw win pre).length = m + 1 := ⟨(fw win pre).length - 1, by have := List.length_pos_iff.2 hp; omega⟩
      have HM := hid hm
      rw [hm] at HR1
      obtain ⟨g, cap, rfl⟩ := ownsRow_succ HR1.out
      have HP := hid hp
      have HSz := hid hsz
      have HI := hid (And.intro hi (And.intro hz0 (And.intro hz1 hz2)))
      have hm1 : m + 1 ≤ 1048576 := by omega
      clear hp hnil hsz hz0 hz1 hz2 hi hm
      gi_wp2_with (refine ⟨trivial, ?_⟩; gi_at_call 59; refine (CallsIn.inRound l (callsIn_wide.2 HCW.out)).mono ?_; rintro e W1 ⟨rfl, rfl⟩)
      generalize W1.setCell ⟨Bx, 0, none⟩ (.int .i64 (win x0)) = V at *
      have HV2 := hid (HV1.out.kept (drew_grown V) (by simp))
      have HBW3 := hid (HBW2.out.kept (drew_grown V) (by simp))
      have HR2 := hid (HR1.out.kept (drew_grown V) (by cases hv : Value.ownBlock (.slice (some ⟨g, 0, none⟩) (m + 1) cap) <;> simp))
      have HX2 := hid (box_own HX1.out (drew_grown V) (fun r e => by cases e))
      have HB3 := hid HB2.out.drew
      have HBW4 := hid HBW.out.drew
      have HKW2 := hid (HKW.out.trans (KeepsFrom.of_grownBy (drew_grown V) (fun j e => by cases e)))
      clear HV1 HBW2 HR1 HX1 HB2 HBW HKW
      obtain ⟨ym, hym⟩ : ∃ y, y = lst (fw win pre) := ⟨_, rfl⟩
      obtain ⟨y0, y1, y2, y3, y4, y5, y6, y7⟩ := flat_get (fw win pre) m (by rw [HM.out]; omega)
      rw [show (fw win pre).getD m a0 = ym by rw [hym]; unfold lst; rw [HM.out, Nat.add_sub_cancel]] at y0 y1 y2 y3 y4 y5 y6 y7
      have HY := hid hym
      clear hym
      have r0 := (HR2.out.cellAt (m * 8) (by omega)).trans y0
      have r1 := (HR2.out.cellAt (m * 8 + 1) (by omega)).trans y1
      have r2 := (HR2.out.cellAt (m * 8 + 2) (by omega)).trans y2
      have r3 := (HR2.out.cellAt (m * 8 + 3) (by omega)).trans y3
      have r4 := (HR2.out.cellAt (m * 8 + 4) (by omega)).trans y4
      have r5 := (HR2.out.cellAt (m * 8 + 5) (by omega)).trans y5
      have r6 := (HR2.out.cellAt (m * 8 + 6) (by omega)).trans y6
      have r7 := (HR2.out.cellAt (m * 8 + 7) (by omega)).trans y7
      have q0 := HR2.out.frozenAt (m * 8)
      have q1 := HR2.out.frozenAt (m * 8 + 1)
      have q2 := HR2.out.frozenAt (m * 8 + 2)
      have q3 := HR2.out.frozenAt (m * 8 + 3)
      have q4 := HR2.out.frozenAt (m * 8 + 4)
      have q5 := HR2.out.frozenAt (m * 8 + 5)
      have q6 := HR2.out.frozenAt (m * 8 + 6)
      have q7 := HR2.out.frozenAt (m * 8 + 7)
      clear y0 y1 y2 y3 y4 y5 y6 y7
      obtain ⟨p0, p1, p2, p3, p4, p5, p6, p7⟩ := ym
      simp only at r0 r1 r2 r3 r4 r5 r6 r7
      have hc2 := HV2.out.cell
      have e0 := cell_at HX2.out 0
      have e1 := cell_at HX2.out 1
      have e2 := cell_at HX2.out 2
      have e3 := cell_at HX2.out 3
      have e4 := cell_at HX2.out 4
      have e5 := cell_at HX2.out 5
      have e6 := cell_at HX2.out 6
      have e7 := cell_at HX2.out 7
      have i1 : ¬ ((m : Int) + 1 ≤ (m : Int)) := by omega
      refine Rnd.region_in (S := fun x => x.cell? ⟨w.heap.size + 1, 0, none⟩ = some (.slice (some ⟨g, 0, none⟩) (m + 1) cap) ∧ x.cell? ⟨g, m * 8, none⟩ = some (.int .i64 p0) ∧ x.cell? ⟨Bx, 0, none⟩ = some (.int .i64 (win x0))) rfl (by kernel_rfl) (fun ⟨_, _, h⟩ => h) ⟨hc2, r0, e0⟩ (fun hHeld => ?_)
      refine wpAnyH_take (i := 0) (oi := { dst := some 18, op := _, type := _, pos := _, after := _, guard := _ }) (v := .int .i64 (m : Int)) rfl (by kernel_rfl) (by kernel_rfl) (by kernel_rfl) (fun _ _ _ h => h) (Or.inl ⟨by rfl, fun w hSw => by (try dsimp only at hSw); go_split_ands; go_simp⟩) (by assumption) ?_
      simp only [Act.put, List.setIfInBounds_toArray, List.set_cons_zero, List.set_cons_succ]
      refine wpAnyH_take (i := 1) (oi := { dst := some 19, op := _, type := _, pos := _, after := _, guard := _ }) (v := .bool true) rfl (by kernel_rfl) (by kernel_rfl) (by kernel_rfl) (fun _ _ _ h => h) (Or.inl ⟨by rfl, fun w hSw => by (try dsimp only at hSw); go_split_ands; go_simp⟩) (by assumption) ?_
      simp only [Act.put, List.setIfInBounds_toArray, List.set_cons_zero, List.set_cons_succ]
      refine wpAnyH_take (i := 2) (oi := { dst := some 20, op := _, type := _, pos := _, after := _, guard := _ }) (v := .bool true) rfl (by kernel_rfl) (by kernel_rfl) (by kernel_rfl) (fun _ _ _ h => h) (Or.inl ⟨by rfl, fun w hSw => by (try dsimp only at hSw); go_split_ands; go_simp⟩) (by assumption) ?_
      simp only [Act.put, List.setIfInBounds_toArray, List.set_cons_zero, List.set_cons_succ]
      refine wpAnyH_take (i := 3) (oi := { dst := some 21, op := _, type := _, pos := _, after := _, guard := _ }) (v := .slice (some ⟨g, 0, none⟩) (m + 1) cap) rfl (by kernel_rfl) (by kernel_rfl) (by kernel_rfl) (fun _ _ _ h => h) (Or.inl ⟨by rfl, fun w hSw => by (try dsimp only at hSw); go_split_ands; go_simp⟩) (by assumption) ?_
      simp only [Act.put, List.setIfInBounds_toArray, List.set_cons_zero, List.set_cons_succ]
      refine wpAnyH_take (i := 4) (oi := { dst := some 22, op := _, type := _, pos := _, after := _, guard := _ }) (v := .int .i64 (m : Int)) rfl (by kernel_rfl) (by kernel_rfl) (by kernel_rfl) (fun _ _ _ h => h) (Or.inl ⟨by rfl, fun w hSw => by (try dsimp only at hSw); go_split_ands; go_simp⟩) (by assumption) ?_
      simp only [Act.put, List.setIfInBounds_toArray, List.set_cons_zero, List.set_cons_succ]
      refine wpAnyH_take (i := 5) (oi := { dst := some 23, op := _, type := _, pos := _, after := _, guard := _ }) (v := .pointer (some ⟨g, m * 8, none⟩)) rfl (by kernel_rfl) (by kernel_rfl) (by kernel_rfl) (fun _ _ _ h => h) (Or.inl ⟨by rfl, fun w hSw => by (try dsimp only at hSw); go_split_ands; go_simp⟩) (by assumption) ?_
      simp only [Act.put, List.setIfInBounds_toArray, List.set_cons_zero, List.set_cons_succ]
      refine wpAnyH_take (i := 6) (oi := { dst := some 24, op := _, type := _, pos := _, after := _, guard := _ }) (v := .pointer (some ⟨g, m * 8, none⟩)) rfl (by kernel_rfl) (by kernel_rfl) (by kernel_rfl) (fun _ _ _ h => h) (Or.inl ⟨by rfl, fun w hSw => by (try dsimp only at hSw); go_split_ands; go_simp⟩) (by assumption) ?_
      simp only [Act.put, List.setIfInBounds_toArray, List.set_cons_zero, List.set_cons_succ]
      refine wpAnyH_take (i := 7) (oi := { dst := some 25, op := _, type := _, pos := _, after := _, guard := _ }) (v := .int .i64 p0) rfl (by kernel_rfl) (by kernel_rfl) (by kernel_rfl) (fun _ _ _ h => h) (Or.inl ⟨by rfl, fun w hSw => by (try dsimp only at hSw); go_split_ands; go_simp⟩) (by assumption) ?_
      simp only [Act.put, List.setIfInBounds_toArray, List.set_cons_zero, List.set_cons_succ]
      refine wpAnyH_take (i := 8) (oi := { dst := some 26, op := _, type := _, pos := _, after := _, guard := _ }) (v := .pointer (some ⟨Bx, 0, none⟩)) rfl (by kernel_rfl) (by kernel_rfl) (by kernel_rfl) (fun _ _ _ h => h) (Or.inl ⟨by rfl, fun w hSw => by (try dsimp only at hSw); go_split_ands; go_simp⟩) (by assumption) ?_
      simp only [Act.put, List.setIfInBounds_toArray, List.set_cons_zero, List.set_cons_succ]
      refine wpAnyH_take (i := 9) (oi := { dst := some 27, op := _, type := _, pos := _, after := _, guard := _ }) (v := .int .i64 (win x0)) rfl (by kernel_rfl) (by kernel_rfl) (by kernel_rfl) (fun _ _ _ h => h) (Or.inl ⟨by rfl, fun w hSw => by (try dsimp only at hSw); go_split_ands; go_simp⟩) (by assumption) ?_
      simp only [Act.put, List.setIfInBounds_toArray, List.set_cons_zero, List.set_cons_succ]
      by_cases hq : p0 = win x0
      · have hb : (p0 == win x0) = true := by rw [beq_iff_eq]; exact hq
        refine wpAnyH_take (i := 10) (oi := { dst := some 28, op := _, type := _, pos := _, after := _, guard := _ }) (v := .bool true) rfl (by kernel_rfl) (by kernel_rfl) (by kernel_rfl) (fun _ _ _ h => h) (Or.inl ⟨by rfl, fun w hSw => by (try dsimp only at hSw); go_split_ands; go_simp⟩) (by assumption) ?_
        simp only [Act.put, List.setIfInBounds_toArray, List.set_cons_zero, List.set_cons_succ]
        refine wpAnyH_take (i := 11) (oi := { dst := some 29, op := _, type := _, pos := _, after := _, guard := _ }) (v := .bool true) rfl (by kernel_rfl) (by kernel_rfl) (by kernel_rfl) (fun _ _ _ h => h) (Or.inl ⟨by rfl, fun w hSw => by (try dsimp only at hSw); go_split_ands; go_simp⟩) (by assumption) ?_
        simp only [Act.put, List.setIfInBounds_toArray, List.set_cons_zero, List.set_cons_succ]
        refine wpAnyH_done (by kernel_rfl) ?_ _
        have Hq := hid hq
        clear hq hb r0 q0 e0 r1 q1 e1 r2 q2 e2 r3 q3 e3 r4 q4 e4 r5 q5 e5 r6 q6 e6 r7 q7 e7 hc2 hHeld
        generalize V.drew = V1 at *
        gi_wp2_with fail
        have hdr : Below V1.heap.size V1 V1.drew := (Below.refl _ _).drew
        have HV3 := hid (HV2.out.kept (drew_grown V1) (by simp))
        have HX3 := hid (box_below HX2.out hdr)
        have HR3 := hid (own_below HR2.out hdr)
        have HMg := hid (f56 p0 p1 p2 p3 p4 p5 p6 p7 (win x0) x1 x2 x3 x4 x5 x6 x7)
        generalize hmg : mrg ⟨p0, p1, p2, p3, p4, p5, p6, p7⟩ ⟨(win x0), x1, x2, x3, x4, x5, x6, x7⟩ = mg at HMg
        have HG := hid hmg
        clear hmg
        obtain ⟨z0, z1, z2, z3, z4, z5, z6, z7⟩ := mg
        unfold valA at HMg
        simp only at HMg
        obtain ⟨y0, y1, y2, y3, y4, y5, y6, y7⟩ := flat_get (fw win pre) m (by rw [HM.out]; omega)
        rw [show (fw win pre).getD m a0 = lst (fw win pre) by unfold lst; rw [HM.out, Nat.add_sub_cancel], ← HY.out] at y0 y1 y2 y3 y4 y5 y6 y7
        simp only at y0 y1 y2 y3 y4 y5 y6 y7
        have r0 := (HR3.out.cellAt (m * 8) (by omega)).trans y0
        have r1 := (HR3.out.cellAt (m * 8 + 1) (by omega)).trans y1
        have r2 := (HR3.out.cellAt (m * 8 + 2) (by omega)).trans y2
        have r3 := (HR3.out.cellAt (m * 8 + 3) (by omega)).trans y3
        have r4 := (HR3.out.cellAt (m * 8 + 4) (by omega)).trans y4
        have r5 := (HR3.out.cellAt (m * 8 + 5) (by omega)).trans y5
        have r6 := (HR3.out.cellAt (m * 8 + 6) (by omega)).trans y6
        have r7 := (HR3.out.cellAt (m * 8 + 7) (by omega)).trans y7
        clear y0 y1 y2 y3 y4 y5 y6 y7
        have hc2 := HV3.out.cell
        have e0 := cell_at HX3.out 0
        have e1 := cell_at HX3.out 1
        have e2 := cell_at HX3.out 2
        have e3 := cell_at HX3.out 3
        have e4 := cell_at HX3.out 4
        have e5 := cell_at HX3.out 5
        have e6 := cell_at HX3.out 6
        have e7 := cell_at HX3.out 7
        refine Rnd.region_in (S := fun x => x.cell? ⟨w.heap.size + 1, 0, none⟩ = some (.slice (some ⟨g, 0, none⟩) (m + 1) cap) ∧ x.cell? ⟨Bx, 0, none⟩ = some (.int .i64 (win x0)) ∧ x.cell? ⟨Bx, 1, none⟩ = some (.int .i64 x1) ∧ x.cell? ⟨Bx, 2, none⟩ = some (.int .i64 x2) ∧ x.cell? ⟨Bx, 3, none⟩ = some (.int .i64 x3) ∧ x.cell? ⟨Bx, 4, none⟩ = some (.int .i64 x4) ∧ x.cell? ⟨Bx, 5, none⟩ = some (.int .i64 x5) ∧ x.cell? ⟨Bx, 6, none⟩ = some (.int .i64 x6) ∧ x.cell? ⟨Bx, 7, none⟩ = some (.int .i64 x7)) rfl (by kernel_rfl) (fun ⟨_, _, h⟩ => h) ⟨hc2, e0, e1, e2, e3, e4, e5, e6, e7⟩ (fun hHeld => ?_)
        refine wpAnyH_take (i := 0) (oi := { dst := some 30, op := _, type := _, pos := _, after := _, guard := _ }) (v := .slice (some ⟨g, 0, none⟩) (m + 1) cap) rfl (by kernel_rfl) (by kernel_rfl) (by kernel_rfl) (fun _ _ _ h => h) (Or.inl ⟨by rfl, fun w hSw => by (try dsimp only at hSw); go_split_ands; go_simp⟩) (by assumption) ?_
        simp only [Act.put, List.setIfInBounds_toArray, List.set_cons_zero, List.set_cons_succ]
        refine wpAnyH_take (i := 1) (oi := { dst := some 31, op := _, type := _, pos := _, after := _, guard := _ }) (v := .int .i64 (m : Int)) rfl (by kernel_rfl) (by kernel_rfl) (by kernel_rfl) (fun _ _ _ h => h) (Or.inl ⟨by rfl, fun w hSw => by (try dsimp only at hSw); go_split_ands; go_simp⟩) (by assumption) ?_
        simp only [Act.put, List.setIfInBounds_toArray, List.set_cons_zero, List.set_cons_succ]
        refine wpAnyH_take (i := 2) (oi := { dst := some 32, op := _, type := _, pos := _, after := _, guard := _ }) (v := .slice (some ⟨g, 0, none⟩) (m + 1) cap) rfl (by kernel_rfl) (by kernel_rfl) (by kernel_rfl) (fun _ _ _ h => h) (Or.inl ⟨by rfl, fun w hSw => by (try dsimp only at hSw); go_split_ands; go_simp⟩) (by assumption) ?_
        simp only [Act.put, List.setIfInBounds_toArray, List.set_cons_zero, List.set_cons_succ]
        refine wpAnyH_take (i := 3) (oi := { dst := some 33, op := _, type := _, pos := _, after := _, guard := _ }) (v := .int .i64 (m : Int)) rfl (by kernel_rfl) (by kernel_rfl) (by kernel_rfl) (fun _ _ _ h => h) (Or.inl ⟨by rfl, fun w hSw => by (try dsimp only at hSw); go_split_ands; go_simp⟩) (by assumption) ?_
        simp only [Act.put, List.setIfInBounds_toArray, List.set_cons_zero, List.set_cons_succ]
        refine wpAnyH_take (i := 4) (oi := { dst := some 34, op := _, type := _, pos := _, after := _, guard := _ }) (v := .pointer (some ⟨g, m * 8, none⟩)) rfl (by kernel_rfl) (by kernel_rfl) (by kernel_rfl) (fun _ _ _ h => h) (Or.inl ⟨by rfl, fun w hSw => by (try dsimp only at hSw); go_split_ands; go_simp⟩) (by assumption) ?_
        simp only [Act.put, List.setIfInBounds_toArray, List.set_cons_zero, List.set_cons_succ]
        refine wpAnyH_take (i := 6) (oi := { dst := some 36, op := _, type := _, pos := _, after := _, guard := _ }) (v := .agg #[.int .i64 (win x0), .int .i64 x1, .int .i64 x2, .int .i64 x3, .int .i64 x4, .int .i64 x5, .int .i64 x6, .int .i64 x7]) rfl (by kernel_rfl) (by kernel_rfl) (by kernel_rfl) (fun _ _ _ h => h) (Or.inl ⟨by rfl, fun w hSw => by (try dsimp only at hSw); go_split_ands; go_simp⟩) (by assumption) ?_
        simp only [Act.put, List.setIfInBounds_toArray, List.set_cons_zero, List.set_cons_succ]
        generalize V1.drew = V2 at *
        refine wpAnyH_ready (rs := [5]) (by kernel_rfl) (by simp) (AllReadyH.cons (o := { dst := some 35, op := _, type := _, pos := _, after := _, guard := _ }) rfl ?_ AllReadyH.nil)
        intro K0 hK0
        go_simp
        refine hK0.out _ _ hHeld (fun _ => ?_)
        clear hK0 K0
        refine wpAnyH_ready (rs := [7]) (by kernel_rfl) (by simp) (AllReadyH.cons (o := { dst := some 37, op := _, type := _, pos := _, after := _, guard := _ }) rfl ?_ AllReadyH.nil)
        intro K1 hK1
        go_simp
        go_wp2_with (go_at_call 56; refine (HMg.out _).mono ?_; rintro e c1 ⟨rfl, hb1⟩)
        have HV5 := hid (HV3.out.kept (below_grow hb1 (Nat.le_refl _)) (by simp))
        have HX5 := hid (box_below HX3.out hb1)
        have HR5 := hid (own_below HR3.out hb1)
        have hb2 : Below V1.heap.size V1 c1 := hdr.trans (hb1.mono hdr.size)
        clear r0 e0 r1 e1 r2 e2 r3 e3 r4 e4 r5 e5 r6 e6 r7 e7 hc2
        obtain ⟨y0, y1, y2, y3, y4, y5, y6, y7⟩ := flat_get (fw win pre) m (by rw [HM.out]; omega)
        rw [show (fw win pre).getD m a0 = lst (fw win pre) by unfold lst; rw [HM.out, Nat.add_sub_cancel], ← HY.out] at y0 y1 y2 y3 y4 y5 y6 y7
        simp only at y0 y1 y2 y3 y4 y5 y6 y7
        have r0 := (HR5.out.cellAt (m * 8) (by omega)).trans y0
        have r1 := (HR5.out.cellAt (m * 8 + 1) (by omega)).trans y1
        have r2 := (HR5.out.cellAt (m * 8 + 2) (by omega)).trans y2
        have r3 := (HR5.out.cellAt (m * 8 + 3) (by omega)).trans y3
        have r4 := (HR5.out.cellAt (m * 8 + 4) (by omega)).trans y4
        have r5 := (HR5.out.cellAt (m * 8 + 5) (by omega)).trans y5
        have r6 := (HR5.out.cellAt (m * 8 + 6) (by omega)).trans y6
        have r7 := (HR5.out.cellAt (m * 8 + 7) (by omega)).trans y7
        clear y0 y1 y2 y3 y4 y5 y6 y7
        have hc2 := HV5.out.cell
        have e0 := cell_at HX5.out 0
        have e1 := cell_at HX5.out 1
        have e2 := cell_at HX5.out 2
        have e3 := cell_at HX5.out 3
        have e4 := cell_at HX5.out 4
        have e5 := cell_at HX5.out 5
        have e6 := cell_at HX5.out 6
        have e7 := cell_at HX5.out 7
        have q0 := HR5.out.frozenAt (m * 8)
        have q1 := HR5.out.frozenAt (m * 8 + 1)
        have q2 := HR5.out.frozenAt (m * 8 + 2)
        have q3 := HR5.out.frozenAt (m * 8 + 3)
        have q4 := HR5.out.frozenAt (m * 8 + 4)
        have q5 := HR5.out.frozenAt (m * 8 + 5)
        have q6 := HR5.out.frozenAt (m * 8 + 6)
        have q7 := HR5.out.frozenAt (m * 8 + 7)
        refine hK1.out _ _ ⟨hc2, e0, e1, e2, e3, e4, e5, e6, e7⟩ (fun _ => ?_)
        clear hK1 K1
        refine wpAnyH_take (i := 8) (oi := { dst := some 38, op := _, type := _, pos := _, after := _, guard := _ }) (v := .pointer (some ⟨g, m * 8, none⟩)) rfl (by kernel_rfl) (by kernel_rfl) (by kernel_rfl) (fun _ _ _ h => h) (Or.inl ⟨by rfl, fun w hSw => by (try dsimp only at hSw); go_split_ands; go_simp⟩) (by assumption) ?_
        simp only [Act.put, List.setIfInBounds_toArray, List.set_cons_zero, List.set_cons_succ]
        have HR6 := hid ((((((((HR5.out.stored (m * 8) (.int .i64 z0)).1.stored (m * 8 + 1) (.int .i64 z1)).1.stored (m * 8 + 2) (.int .i64 z2)).1.stored (m * 8 + 3) (.int .i64 z3)).1.stored (m * 8 + 4) (.int .i64 z4)).1.stored (m * 8 + 5) (.int .i64 z5)).1.stored (m * 8 + 6) (.int .i64 z6)).1.stored (m * 8 + 7) (.int .i64 z7)).1
        rw [flat_set _ m z0 z1 z2 z3 z4 z5 z6 z7 (by rw [HM.out]; omega)] at HR6
        have hgx : g ≠ Bx := fun e => hne (by rw [e]; rfl)
        have hg5 : w.heap.size + 1 ≠ g := fun e => by have := HV5.out.not_row (by decide) HR5.out; exact this (by rw [e]; rfl)
        have hg3 : w.heap.size ≠ g := fun e => by have := (HBW3.out.kept (below_grow hb2 (Nat.le_refl _)) (by simp)).not_row (by decide) HR5.out; exact this (by rw [e]; rfl)
        have hgl : w.heap.size ≤ g := (HR5.out.lt g rfl).1
        have HG8 := hid (set8_grown c1 g (m * 8) z0 z1 z2 z3 z4 z5 z6 z7)
        have HK8 := hid (set8_keeps c1 g (m * 8) z0 z1 z2 z3 z4 z5 z6 z7)
        have HB8 := hid (set8_below c1 (m * 8) z0 z1 z2 z3 z4 z5 z6 z7 hgl)
        refine wpAnyH_ready (rs := [9]) (by kernel_rfl) (by simp) (AllReadyH.cons (o := { dst := none, op := _, type := _, pos := _, after := _, guard := _ }) rfl ?_ AllReadyH.nil)
        intro K2 hK2
        go_simp
        have HX7 := hid (grown_box HX5.out HG8.out (fun e => hgx e.symm))
        have HV7 := hid (HV5.out.kept HG8.out (by simp; exact hg5))
        have HF7 := hid ((HBW3.out.kept (below_grow hb2 (Nat.le_refl _)) (by simp)).kept HG8.out (by simp; exact hg3))
        generalize ((((((((c1.setCell ⟨g, m * 8, none⟩ (.int .i64 z0)).setCell ⟨g, m * 8 + 1, none⟩ (.int .i64 z1)).setCell ⟨g, m * 8 + 2, none⟩ (.int .i64 z2)).setCell ⟨g, m * 8 + 3, none⟩ (.int .i64 z3)).setCell ⟨g, m * 8 + 4, none⟩ (.int .i64 z4)).setCell ⟨g, m * 8 + 5, none⟩ (.int .i64 z5)).setCell ⟨g, m * 8 + 6, none⟩ (.int .i64 z6)).setCell ⟨g, m * 8 + 7, none⟩ (.int .i64 z7)) = c2 at *
        clear r0 e0 q0 r1 e1 q1 r2 e2 q2 r3 e3 q3 r4 e4 q4 r5 e5 q5 r6 e6 q6 r7 e7 q7 hc2
        have hc2 := HV7.out.cell
        have e0 := cell_at HX7.out 0
        have e1 := cell_at HX7.out 1
        have e2 := cell_at HX7.out 2
        have e3 := cell_at HX7.out 3
        have e4 := cell_at HX7.out 4
        have e5 := cell_at HX7.out 5
        have e6 := cell_at HX7.out 6
        have e7 := cell_at HX7.out 7
        refine hK2.out _ _ ⟨hc2, e0, e1, e2, e3, e4, e5, e6, e7⟩ (fun _ => ?_)
        clear hK2 K2
        refine wpAnyH_done (by kernel_rfl) ?_ _
        gi_wp2
        have HSt := hid (step_old (win := win) (L := fw win pre) (p := ⟨x0, x1, x2, x3, x4, x5, x6, x7⟩) ⟨HP.out, by rw [← HY.out]; exact Hq.out⟩)
        have hV1w := HB3.out.size
        refine ⟨HKW2.out.trans (((KeepsFrom.of_grownBy (below_grow hb2 (Nat.le_refl _)) (fun j e => by cases e))).trans (HK8.out.from _)), HBW4.out.trans ((hb2.mono hV1w).trans HB8.out), ⟨⟨_, HV7.out, ?_, ?_⟩, HF7.out, HB3.out.trans ((hb2.mono hV1w).trans HB8.out)⟩⟩
        · rw [HSn.out, HSt.out, List.length_set, HM.out, Nat.add_sub_cancel, ← HY.out]
          have := HR6.out
          rw [← HG.out] at this
          exact this
        · rw [HSn.out, HSt.out]
          constructor
          · intro h; cases h
          · intro h; exact absurd (congrArg List.length h) (by rw [List.length_set, HM.out]; simp)
      · have hb : (p0 == win x0) = false := by rw [beq_eq_false_iff_ne]; exact hq
        refine wpAnyH_take (i := 10) (oi := { dst := some 28, op := _, type := _, pos := _, after := _, guard := _ }) (v := .bool false) rfl (by kernel_rfl) (by kernel_rfl) (by kernel_rfl) (fun _ _ _ h => h) (Or.inl ⟨by rfl, fun w hSw => by (try dsimp only at hSw); go_split_ands; go_simp⟩) (by assumption) ?_
        simp only [Act.put, List.setIfInBounds_toArray, List.set_cons_zero, List.set_cons_succ]
        refine wpAnyH_take (i := 11) (oi := { dst := some 29, op := _, type := _, pos := _, after := _, guard := _ }) (v := .bool false) rfl (by kernel_rfl) (by kernel_rfl) (by kernel_rfl) (fun _ _ _ h => h) (Or.inl ⟨by rfl, fun w hSw => by (try dsimp only at hSw); go_split_ands; go_simp⟩) (by assumption) ?_
        simp only [Act.put, List.setIfInBounds_toArray, List.set_cons_zero, List.set_cons_succ]
        refine wpAnyH_done (by kernel_rfl) ?_ _
        have Hq := hid hq
        clear hq hb r0 q0 e0 r1 q1 e1 r2 q2 e2 r3 q3 e3 r4 q4 e4 r5 q5 e5 r6 q6 e6 r7 q7 e7 hc2
        generalize V.drew = V1 at *
        have hc2 := HV2.out.cell
        have e0 := cell_at HX2.out 0
        have e1 := cell_at HX2.out 1
        have e2 := cell_at HX2.out 2
        have e3 := cell_at HX2.out 3
        have e4 := cell_at HX2.out 4
        have e5 := cell_at HX2.out 5
        have e6 := cell_at HX2.out 6
        have e7 := cell_at HX2.out 7
        gi_wp2_with (gi_at_builtin; refine wpListIn_append_own _ rfl _ _ 28 rfl w.heap.size 33 i0 (.agg #[.int .i64 0, .int .i64 0, .int .i64 0, .int .i64 0, .int .i64 0, .int .i64 0, .int .i64 0, .int .i64 0]) 8 64 Try.underlying28 HI.out.1 HI.out.2.1 HI.out.2.2.1 HI.out.2.2.2 rfl (by decide) _ (m + 1) _ rfl (HR2.out.alloc _) ⟨V1.heap.size, 0, none⟩ 1 1 [.int .i64 (win x0), .int .i64 x1, .int .i64 x2, .int .i64 x3, .int .i64 x4, .int .i64 x5, .int .i64 x6, .int .i64 x7] rfl rfl ?g1 ?g2 ?g3 ?g4 ?g5 ?_)
        case g2 => first | exact ⟨rfl, rfl, rfl, rfl, rfl, rfl, rfl, rfl⟩ | (intro u hu; simp at hu; rcases hu with rfl | rfl | rfl | rfl | rfl | rfl | rfl | rfl <;> rfl)
        case g3 => unfold maxLen; omega
        case g4 => omega
        case g5 => have := HB3.out.size; simp; omega
        intro v' w1 hown' hgrow _
        obtain ⟨g', cap', rfl⟩ := ownsRow_succ hown'
        obtain ⟨hv3, hv4, hr2, hk2, hb2⟩ := HV2.out.appended (by decide) HR2.out HB3.out.size (by omega) hown' hgrow
        have HF := hid (box3 HBW3.out (by decide) HR2.out hgrow (show w.heap.size ≠ w.heap.size + 1 by omega) (u := .slice (some ⟨g', 0, none⟩) ((m + 1) + 1) cap'))
        have hc3 := hv3.cell
        have hf3 := hv3.frozen
        have HV4 := hid hv4
        have HR4 := hid hr2
        have HK4 := hid hk2
        have HB4 := hid hb2
        clear hown' hgrow hv3 hv4 hr2 hk2 hb2
        gi_wp2
        have HSt := hid (step_new (win := win) (L := fw win pre) (p := ⟨x0, x1, x2, x3, x4, x5, x6, x7⟩) (fun h => Hq.out (by have := h.2; rw [← HY.out] at this; exact this)))
        refine ⟨HKW2.out.trans (HK4.out.from _), HBW4.out.trans HB4.out, ⟨⟨_, HV4.out, ?_, ?_⟩, HF.out, HB3.out.trans HB4.out⟩⟩
        · rw [HSn.out, HSt.out, flat_append, List.length_append, HM.out]; exact HR4.out
        · rw [HSn.out, HSt.out]; simp
  case done =>
    rintro D ys W hD rfl ⟨⟨v, hv, hrow, hnil⟩, bW1, hB1⟩ hK
    have hc := hv.cell
    gi_wp2
    refine ⟨by simp, .inl ⟨_, _, rfl, run_takeDeferred hK, ?_⟩⟩
    exact ⟨_, results_tmp rfl _ _ _, v, rfl, ownsRow_putObj hrow _ hK rfl, hnil, hB1.trans (belowK_b (w := w) (Nat.le_refl _) W D _ _ (by omega) hK rfl rfl)⟩
  case stop =>
    rintro D c pre W _ _ h _
    exact h.elim
end Go.Proofs.Ytpbnneelpdacdaa.Agl
