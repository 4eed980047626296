/- The model's l11Agg: what samples come to. -/
import Derived.Test.YtpbnneelpdacdaaCb
import Derived.Test.YtpbnneelpdacdaaBf
namespace Go.Proofs.Ytpbnneelpdacdaa.Agl
open Go.RowKit Go.Shelf
open Go.Proofs.Ytpbnneelpdacdaa.Smp (Sm HasS)

/-- What the samples ahead of k come to. -/
def acc (T : Int) (L : List Sm) : Nat → Ag
  | 0 => ⟨T, (L.length : Int), 0, (L.getD 0 Smp.e0).2, (L.getD 0 Smp.e0).2, (L.getD 0 Smp.e0).2, (L.getD (L.length - 1) Smp.e0).2, 0⟩
  | k + 1 => ⟨(acc T L k).t, (acc T L k).n, wrap64 ((acc T L k).s + (L.getD k Smp.e0).2), (if (L.getD k Smp.e0).2 < (acc T L k).mi then (L.getD k Smp.e0).2 else (acc T L k).mi), (if (acc T L k).ma < (L.getD k Smp.e0).2 then (L.getD k Smp.e0).2 else (acc T L k).ma), (acc T L k).f, (acc T L k).l, if 0 < k then wrap64 ((acc T L k).r + rise (L.getD (k - 1) Smp.e0).2 (L.getD k Smp.e0).2) else (acc T L k).r⟩
theorem acc_succ (T : Int) (L : List Sm) (k : Nat) : acc T L (k + 1) = ⟨(acc T L k).t, (acc T L k).n, wrap64 ((acc T L k).s + (L.getD k Smp.e0).2), (if (L.getD k Smp.e0).2 < (acc T L k).mi then (L.getD k Smp.e0).2 else (acc T L k).mi), (if (acc T L k).ma < (L.getD k Smp.e0).2 then (L.getD k Smp.e0).2 else (acc T L k).ma), (acc T L k).f, (acc T L k).l, if 0 < k then wrap64 ((acc T L k).r + rise (L.getD (k - 1) Smp.e0).2 (L.getD k Smp.e0).2) else (acc T L k).r⟩ := rfl

theorem set_farB {w : World} {b b' o : Nat} {u : Value} {x : Obj} (h : w.heap[b]? = some x) (hne : b' ≠ b) : (w.setCell ⟨b', o, none⟩ u).heap[b]? = some x := (Below.heap_setCell w ⟨b', o, none⟩ u b (by intro e; exact hne (by simpa using e.symm))).trans h
set_option maxRecDepth 100000 in
set_option maxHeartbeats 8000000 in
theorem f46 (b off c : Nat) (T : Int) (L : List Sm) (w : World) (hp : 0 < L.length) (hmax : L.length ≤ 1048576) (hr : HasS w (some ⟨b, off, none⟩) L) :
    Calls Try.prog 46 #[.slice (some ⟨b, off, none⟩) L.length c, .int .i64 T] w fun e w' => e = .returned (valA (acc T L L.length)) ∧ Below w.heap.size w w' := by
  obtain ⟨hbl, hc⟩ : b < w.heap.size ∧ ∀ i, i < L.length → w.cell? ⟨b, off + i * 2, none⟩ = some (.int .i64 (L.getD i Smp.e0).1) ∧ w.cell? ⟨b, off + i * 2 + 1, none⟩ = some (.int .i64 (L.getD i Smp.e0).2) := by
    rcases hr with h | ⟨b', off', h1, h2, h3⟩
    · rw [h] at hp; simp at hp
    · simp only [Option.some.injEq, Addr.mk.injEq, and_true] at h1
      obtain ⟨rfl, rfl⟩ := h1
      exact ⟨h2, h3⟩
  have HC := hid hc
  obtain ⟨m, hm⟩ : ∃ m, L.length = m + 1 := ⟨L.length - 1, by omega⟩
  have HA0 : Hid (acc T L 0 = ⟨T, (L.length : Int), 0, (L.getD 0 Smp.e0).2, (L.getD 0 Smp.e0).2, (L.getD 0 Smp.e0).2, (L.getD (L.length - 1) Smp.e0).2, 0⟩) := rfl
  have z0 := (hc 0 hp).2
  have z1 := (hc m (by omega)).2
  rw [hm, Nat.add_sub_cancel] at HA0
  have HAS := hid (acc_succ T L)
  rw [hm]
  rw [hm] at HC
  have HM := hid hm
  rw [hm] at hmax
  clear hm hc hr hp
  simp only [Nat.zero_mul, Nat.add_zero] at z0
  generalize (L.getD 0 Smp.e0).2 = v0 at *
  generalize hvm : (L.getD m Smp.e0).2 = vm at *
  clear hvm
  have HX0 := hid (heap_new w (.cells #[.int .i64 0, .int .i64 0, .int .i64 0, .int .i64 0, .int .i64 0, .int .i64 0, .int .i64 0, .int .i64 0] 33))
  have HB0 := hid ((Below.refl w.heap.size w).alloc (Nat.le_refl _) (.cells #[.int .i64 0, .int .i64 0, .int .i64 0, .int .i64 0, .int .i64 0, .int .i64 0, .int .i64 0, .int .i64 0] 33))
  obtain ⟨w0, hw0⟩ : ∃ w0, w0 = w.alloc (.cells #[.int .i64 0, .int .i64 0, .int .i64 0, .int .i64 0, .int .i64 0, .int .i64 0, .int .i64 0, .int .i64 0] 33) := ⟨_, rfl⟩
  have hs0 : w0.heap.size = w.heap.size + 1 := by rw [hw0]; simp
  rw [← hw0] at HX0 HB0
  have HW0 := hid hw0
  have HS0 := hid hs0
  clear hw0 hs0
  have y0 := (HB0.out.cell (p := ⟨b, off + 1, none⟩) hbl).trans z0
  have y1 := (HB0.out.cell (p := ⟨b, off + m * 2 + 1, none⟩) hbl).trans z1
  have i0 : ¬ ((m : Int) + 1 ≤ 0) := by omega
  have i1 : ¬ ((m : Int) + 1 ≤ (m : Int)) := by omega
  have hwm : IntKind.i64.wrap (m : Int) = (m : Int) := by rw [IntKind.wrap_i64]; omega
  clear z0 z1
  go_enter Try.func46, Try.ntmps46
  go_wp2_with fail
  rw [← HW0.out]
  clear HW0
  refine wp_region_held_drew (S := fun x => x.cell? ⟨b, off + 1, none⟩ = some (.int .i64 v0) ∧ x.cell? ⟨b, off + m * 2 + 1, none⟩ = some (.int .i64 vm)) rfl ⟨y0, y1⟩ (fun hHeld => ?_)
  refine wpAnyH_take (i := 0) (oi := { dst := some 8, op := _, type := _, pos := _, after := _, guard := _ }) (v := .int .i64 T) rfl (by kernel_rfl) (by kernel_rfl) (by kernel_rfl) (fun _ _ _ h => h) (Or.inl ⟨by rfl, fun w hSw => by (try dsimp only at hSw); go_split_ands; go_simp⟩) (by assumption) ?_
  simp only [Act.put, List.setIfInBounds_toArray, List.set_cons_zero, List.set_cons_succ]
  refine wpAnyH_take (i := 1) (oi := { dst := some 9, op := _, type := _, pos := _, after := _, guard := _ }) (v := .slice (some ⟨b, off, none⟩) (m + 1) c) rfl (by kernel_rfl) (by kernel_rfl) (by kernel_rfl) (fun _ _ _ h => h) (Or.inl ⟨by rfl, fun w hSw => by (try dsimp only at hSw); go_split_ands; go_simp⟩) (by assumption) ?_
  simp only [Act.put, List.setIfInBounds_toArray, List.set_cons_zero, List.set_cons_succ]
  refine wpAnyH_take (i := 2) (oi := { dst := some 10, op := _, type := _, pos := _, after := _, guard := _ }) (v := .int .i64 ((m : Int) + 1)) rfl (by kernel_rfl) (by kernel_rfl) (by kernel_rfl) (fun _ _ _ h => h) (Or.inl ⟨by rfl, fun w hSw => by (try dsimp only at hSw); go_split_ands; go_simp⟩) (by assumption) ?_
  simp only [Act.put, List.setIfInBounds_toArray, List.set_cons_zero, List.set_cons_succ]
  refine wpAnyH_take (i := 3) (oi := { dst := some 11, op := _, type := _, pos := _, after := _, guard := _ }) (v := .slice (some ⟨b, off, none⟩) (m + 1) c) rfl (by kernel_rfl) (by kernel_rfl) (by kernel_rfl) (fun _ _ _ h => h) (Or.inl ⟨by rfl, fun w hSw => by (try dsimp only at hSw); go_split_ands; go_simp⟩) (by assumption) ?_
  simp only [Act.put, List.setIfInBounds_toArray, List.set_cons_zero, List.set_cons_succ]
  refine wpAnyH_take (i := 4) (oi := { dst := some 12, op := _, type := _, pos := _, after := _, guard := _ }) (v := .pointer (some ⟨b, off, none⟩)) rfl (by kernel_rfl) (by kernel_rfl) (by kernel_rfl) (fun _ _ _ h => h) (Or.inl ⟨by rfl, fun w hSw => by (try dsimp only at hSw); go_split_ands; go_simp⟩) (by assumption) ?_
  simp only [Act.put, List.setIfInBounds_toArray, List.set_cons_zero, List.set_cons_succ]
  refine wpAnyH_take (i := 5) (oi := { dst := some 13, op := _, type := _, pos := _, after := _, guard := _ }) (v := .pointer (some ⟨b, off + 1, none⟩)) rfl (by kernel_rfl) (by kernel_rfl) (by kernel_rfl) (fun _ _ _ h => h) (Or.inl ⟨by rfl, fun w hSw => by (try dsimp only at hSw); go_split_ands; go_simp⟩) (by assumption) ?_
  simp only [Act.put, List.setIfInBounds_toArray, List.set_cons_zero, List.set_cons_succ]
  refine wpAnyH_take (i := 6) (oi := { dst := some 14, op := _, type := _, pos := _, after := _, guard := _ }) (v := .int .i64 v0) rfl (by kernel_rfl) (by kernel_rfl) (by kernel_rfl) (fun _ _ _ h => h) (Or.inl ⟨by rfl, fun w hSw => by (try dsimp only at hSw); go_split_ands; go_simp⟩) (by assumption) ?_
  simp only [Act.put, List.setIfInBounds_toArray, List.set_cons_zero, List.set_cons_succ]
  refine wpAnyH_take (i := 7) (oi := { dst := some 15, op := _, type := _, pos := _, after := _, guard := _ }) (v := .slice (some ⟨b, off, none⟩) (m + 1) c) rfl (by kernel_rfl) (by kernel_rfl) (by kernel_rfl) (fun _ _ _ h => h) (Or.inl ⟨by rfl, fun w hSw => by (try dsimp only at hSw); go_split_ands; go_simp⟩) (by assumption) ?_
  simp only [Act.put, List.setIfInBounds_toArray, List.set_cons_zero, List.set_cons_succ]
  refine wpAnyH_take (i := 8) (oi := { dst := some 16, op := _, type := _, pos := _, after := _, guard := _ }) (v := .pointer (some ⟨b, off, none⟩)) rfl (by kernel_rfl) (by kernel_rfl) (by kernel_rfl) (fun _ _ _ h => h) (Or.inl ⟨by rfl, fun w hSw => by (try dsimp only at hSw); go_split_ands; go_simp⟩) (by assumption) ?_
  simp only [Act.put, List.setIfInBounds_toArray, List.set_cons_zero, List.set_cons_succ]
  refine wpAnyH_take (i := 9) (oi := { dst := some 17, op := _, type := _, pos := _, after := _, guard := _ }) (v := .pointer (some ⟨b, off + 1, none⟩)) rfl (by kernel_rfl) (by kernel_rfl) (by kernel_rfl) (fun _ _ _ h => h) (Or.inl ⟨by rfl, fun w hSw => by (try dsimp only at hSw); go_split_ands; go_simp⟩) (by assumption) ?_
  simp only [Act.put, List.setIfInBounds_toArray, List.set_cons_zero, List.set_cons_succ]
  refine wpAnyH_take (i := 10) (oi := { dst := some 18, op := _, type := _, pos := _, after := _, guard := _ }) (v := .int .i64 v0) rfl (by kernel_rfl) (by kernel_rfl) (by kernel_rfl) (fun _ _ _ h => h) (Or.inl ⟨by rfl, fun w hSw => by (try dsimp only at hSw); go_split_ands; go_simp⟩) (by assumption) ?_
  simp only [Act.put, List.setIfInBounds_toArray, List.set_cons_zero, List.set_cons_succ]
  refine wpAnyH_take (i := 11) (oi := { dst := some 19, op := _, type := _, pos := _, after := _, guard := _ }) (v := .slice (some ⟨b, off, none⟩) (m + 1) c) rfl (by kernel_rfl) (by kernel_rfl) (by kernel_rfl) (fun _ _ _ h => h) (Or.inl ⟨by rfl, fun w hSw => by (try dsimp only at hSw); go_split_ands; go_simp⟩) (by assumption) ?_
  simp only [Act.put, List.setIfInBounds_toArray, List.set_cons_zero, List.set_cons_succ]
  refine wpAnyH_take (i := 12) (oi := { dst := some 20, op := _, type := _, pos := _, after := _, guard := _ }) (v := .pointer (some ⟨b, off, none⟩)) rfl (by kernel_rfl) (by kernel_rfl) (by kernel_rfl) (fun _ _ _ h => h) (Or.inl ⟨by rfl, fun w hSw => by (try dsimp only at hSw); go_split_ands; go_simp⟩) (by assumption) ?_
  simp only [Act.put, List.setIfInBounds_toArray, List.set_cons_zero, List.set_cons_succ]
  refine wpAnyH_take (i := 13) (oi := { dst := some 21, op := _, type := _, pos := _, after := _, guard := _ }) (v := .pointer (some ⟨b, off + 1, none⟩)) rfl (by kernel_rfl) (by kernel_rfl) (by kernel_rfl) (fun _ _ _ h => h) (Or.inl ⟨by rfl, fun w hSw => by (try dsimp only at hSw); go_split_ands; go_simp⟩) (by assumption) ?_
  simp only [Act.put, List.setIfInBounds_toArray, List.set_cons_zero, List.set_cons_succ]
  refine wpAnyH_take (i := 14) (oi := { dst := some 22, op := _, type := _, pos := _, after := _, guard := _ }) (v := .int .i64 v0) rfl (by kernel_rfl) (by kernel_rfl) (by kernel_rfl) (fun _ _ _ h => h) (Or.inl ⟨by rfl, fun w hSw => by (try dsimp only at hSw); go_split_ands; go_simp⟩) (by assumption) ?_
  simp only [Act.put, List.setIfInBounds_toArray, List.set_cons_zero, List.set_cons_succ]
  refine wpAnyH_take (i := 15) (oi := { dst := some 23, op := _, type := _, pos := _, after := _, guard := _ }) (v := .slice (some ⟨b, off, none⟩) (m + 1) c) rfl (by kernel_rfl) (by kernel_rfl) (by kernel_rfl) (fun _ _ _ h => h) (Or.inl ⟨by rfl, fun w hSw => by (try dsimp only at hSw); go_split_ands; go_simp⟩) (by assumption) ?_
  simp only [Act.put, List.setIfInBounds_toArray, List.set_cons_zero, List.set_cons_succ]
  refine wpAnyH_take (i := 16) (oi := { dst := some 24, op := _, type := _, pos := _, after := _, guard := _ }) (v := .slice (some ⟨b, off, none⟩) (m + 1) c) rfl (by kernel_rfl) (by kernel_rfl) (by kernel_rfl) (fun _ _ _ h => h) (Or.inl ⟨by rfl, fun w hSw => by (try dsimp only at hSw); go_split_ands; go_simp⟩) (by assumption) ?_
  simp only [Act.put, List.setIfInBounds_toArray, List.set_cons_zero, List.set_cons_succ]
  refine wpAnyH_take (i := 17) (oi := { dst := some 25, op := _, type := _, pos := _, after := _, guard := _ }) (v := .int .i64 ((m : Int) + 1)) rfl (by kernel_rfl) (by kernel_rfl) (by kernel_rfl) (fun _ _ _ h => h) (Or.inl ⟨by rfl, fun w hSw => by (try dsimp only at hSw); go_split_ands; go_simp⟩) (by assumption) ?_
  simp only [Act.put, List.setIfInBounds_toArray, List.set_cons_zero, List.set_cons_succ]
  refine wpAnyH_take (i := 18) (oi := { dst := some 26, op := _, type := _, pos := _, after := _, guard := _ }) (v := .int .i64 (m : Int)) rfl (by kernel_rfl) (by kernel_rfl) (by kernel_rfl) (fun _ _ _ h => h) (Or.inl ⟨by rfl, fun w hSw => by (try dsimp only at hSw); go_split_ands; go_simp⟩) (by assumption) ?_
  simp only [Act.put, List.setIfInBounds_toArray, List.set_cons_zero, List.set_cons_succ]
  refine wpAnyH_take (i := 19) (oi := { dst := some 27, op := _, type := _, pos := _, after := _, guard := _ }) (v := .pointer (some ⟨b, off + m * 2, none⟩)) rfl (by kernel_rfl) (by kernel_rfl) (by kernel_rfl) (fun _ _ _ h => h) (Or.inl ⟨by rfl, fun w hSw => by (try dsimp only at hSw); go_split_ands; go_simp⟩) (by assumption) ?_
  simp only [Act.put, List.setIfInBounds_toArray, List.set_cons_zero, List.set_cons_succ]
  refine wpAnyH_take (i := 20) (oi := { dst := some 28, op := _, type := _, pos := _, after := _, guard := _ }) (v := .pointer (some ⟨b, off + m * 2 + 1, none⟩)) rfl (by kernel_rfl) (by kernel_rfl) (by kernel_rfl) (fun _ _ _ h => h) (Or.inl ⟨by rfl, fun w hSw => by (try dsimp only at hSw); go_split_ands; go_simp⟩) (by assumption) ?_
  simp only [Act.put, List.setIfInBounds_toArray, List.set_cons_zero, List.set_cons_succ]
  refine wpAnyH_take (i := 21) (oi := { dst := some 29, op := _, type := _, pos := _, after := _, guard := _ }) (v := .int .i64 vm) rfl (by kernel_rfl) (by kernel_rfl) (by kernel_rfl) (fun _ _ _ h => h) (Or.inl ⟨by rfl, fun w hSw => by (try dsimp only at hSw); go_split_ands; go_simp⟩) (by assumption) ?_
  simp only [Act.put, List.setIfInBounds_toArray, List.set_cons_zero, List.set_cons_succ]
  refine wpAnyH_take (i := 22) (oi := { dst := some 30, op := _, type := _, pos := _, after := _, guard := _ }) (v := .agg #[.int .i64 T, .int .i64 ((m : Int) + 1), .int .i64 0, .int .i64 v0, .int .i64 v0, .int .i64 v0, .int .i64 vm, .int .i64 0]) rfl (by kernel_rfl) (by kernel_rfl) (by kernel_rfl) (fun _ _ _ h => h) (Or.inl ⟨by rfl, fun w hSw => by (try dsimp only at hSw); go_split_ands; go_simp⟩) (by assumption) ?_
  simp only [Act.put, List.setIfInBounds_toArray, List.set_cons_zero, List.set_cons_succ]
  have HB1 := hid (HB0.out.drew)
  have HX1 : Hid (w0.drew.heap[w.heap.size]? = some (.cells #[.int .i64 0, .int .i64 0, .int .i64 0, .int .i64 0, .int .i64 0, .int .i64 0, .int .i64 0, .int .i64 0] 33 (0, 0))) := HX0.out
  have HS1 : Hid (w0.drew.heap.size = w.heap.size + 1) := HS0.out
  generalize w0.drew = d0 at *
  have y0' := hHeld.1
  have y1' := hHeld.2
  refine wpAnyH_ready (rs := [23]) (by kernel_rfl) (by simp) (AllReadyH.cons (o := { dst := some 5, op := _, type := _, pos := _, after := _, guard := _ }) rfl ?_ AllReadyH.nil)
  intro K1 hK1
  go_simp
  have hal : Below d0.heap.size d0 (d0.alloc (.cells #[.int .i64 0, .int .i64 0, .int .i64 0, .int .i64 0, .int .i64 0, .int .i64 0, .int .i64 0, .int .i64 0] 33)) := (Below.refl _ _).alloc (Nat.le_refl _) _
  have lb : b < d0.heap.size := by have := HS1.out; omega
  refine hK1.out _ _ ⟨(hal.cell (p := ⟨b, off + 1, none⟩) lb).trans hHeld.1, (hal.cell (p := ⟨b, off + m * 2 + 1, none⟩) lb).trans hHeld.2⟩ (fun hHeld => ?_)
  clear hK1 K1
  refine wpAnyH_ready (rs := [24]) (by kernel_rfl) (by simp) (AllReadyH.cons (o := { dst := none, op := _, type := _, pos := _, after := _, guard := _ }) rfl ?_ AllReadyH.nil)
  intro K2 hK2
  go_simp
  have hal2 : Below d0.heap.size d0 (d0.alloc (.cells #[.int .i64 T, .int .i64 ((m : Int) + 1), .int .i64 0, .int .i64 v0, .int .i64 v0, .int .i64 v0, .int .i64 vm, .int .i64 0] 33)) := (Below.refl _ _).alloc (Nat.le_refl _) _
  have HX2 := hid (box_below HX1.out hal2)
  have HN2 := hid (heap_new d0 (.cells #[.int .i64 T, .int .i64 ((m : Int) + 1), .int .i64 0, .int .i64 v0, .int .i64 v0, .int .i64 v0, .int .i64 vm, .int .i64 0] 33))
  have HB2 := hid (HB1.out.alloc HB1.out.size (.cells #[.int .i64 T, .int .i64 ((m : Int) + 1), .int .i64 0, .int .i64 v0, .int .i64 v0, .int .i64 v0, .int .i64 vm, .int .i64 0] 33))
  have hy0 := (hal2.cell (p := ⟨b, off + 1, none⟩) lb)
  have hy1 := (hal2.cell (p := ⟨b, off + m * 2 + 1, none⟩) lb)
  refine hK2.out _ _ ⟨hy0.trans y0', hy1.trans y1'⟩ (fun _ => ?_)
  clear hK2 K2
  refine wpAnyH_done (by kernel_rfl) ?_ _
  have hBl : w.heap.size < d0.heap.size := by have := HS1.out; omega
  clear hHeld hal hal2 hy0 hy1 y0' y1' y0 y1 HX1 HB1 HX0 HB0 HS0 HS1 lb
  generalize d0.alloc (.cells #[.int .i64 T, .int .i64 ((m : Int) + 1), .int .i64 0, .int .i64 v0, .int .i64 v0, .int .i64 v0, .int .i64 vm, .int .i64 0] 33) = d1 at *
  generalize d0.heap.size = B at *
  go_wp2
  go_loopw [33] (fun si wr => ∃ k : Nat, k ≤ m + 1 ∧ si = .int .i64 k ∧ Hid (wr.heap[B]? = some (.cells (cells (acc T L k)).toArray 33 (0, 0))) ∧ Hid (wr.heap[w.heap.size]? = some (.cells #[.int .i64 0, .int .i64 0, .int .i64 0, .int .i64 0, .int .i64 0, .int .i64 0, .int .i64 0, .int .i64 0] 33 (0, 0))) ∧ Hid (Below w.heap.size w wr)) (fun si _ => (m + 1) - (intOf si).toNat)
  case atStart => exact ⟨0, Nat.zero_le _, rfl, by unfold Hid; rw [HA0.out]; exact HN2.out, HX2, HB2⟩
  case round =>
    obtain ⟨k, hk, rfl, HX, HZ, HB⟩ := hrel
    clear HX2 HB2 HN2
    by_cases hlt : k < m + 1
    rotate_left
    · obtain rfl : k = m + 1 := by omega
      generalize hq : acc T L (m + 1) = q at *
      have HE := hid hq
      clear hq
      obtain ⟨q0, q1, q2, q3, q4, q5, q6, q7⟩ := q
      simp only [cells] at HX
      have c0 := cell_at HX.out 0
      have c1 := cell_at HX.out 1
      have c2 := cell_at HX.out 2
      have c3 := cell_at HX.out 3
      have c4 := cell_at HX.out 4
      have c5 := cell_at HX.out 5
      have c6 := cell_at HX.out 6
      have c7 := cell_at HX.out 7
      have g0 := cell_at HZ.out 0
      have f0 := froz_at HZ.out 0
      have g1 := cell_at HZ.out 1
      have f1 := froz_at HZ.out 1
      have g2 := cell_at HZ.out 2
      have f2 := froz_at HZ.out 2
      have g3 := cell_at HZ.out 3
      have f3 := froz_at HZ.out 3
      have g4 := cell_at HZ.out 4
      have f4 := froz_at HZ.out 4
      have g5 := cell_at HZ.out 5
      have f5 := froz_at HZ.out 5
      have g6 := cell_at HZ.out 6
      have f6 := froz_at HZ.out 6
      have g7 := cell_at HZ.out 7
      have f7 := froz_at HZ.out 7
      have HBx := hid (bx_set0 (w1 := w) (z0 := q0) (z1 := q1) (z2 := q2) (z3 := q3) (z4 := q4) (z5 := q5) (z6 := q6) (z7 := q7) HZ.out (Nat.le_refl _) HB.out)
      have r0 := cell_at HBx.out.x 0
      have r1 := cell_at HBx.out.x 1
      have r2 := cell_at HBx.out.x 2
      have r3 := cell_at HBx.out.x 3
      have r4 := cell_at HBx.out.x 4
      have r5 := cell_at HBx.out.x 5
      have r6 := cell_at HBx.out.x 6
      have r7 := cell_at HBx.out.x 7
      go_wp2
      refine bodyPost_ret (v := valA ⟨q0, q1, q2, q3, q4, q5, q6, q7⟩) (by simp [results, Try.results46, go_sem, valA, r0, r1, r2, r3, r4, r5, r6, r7]) rfl ⟨by rw [HE.out], HBx.out.bel⟩
    obtain ⟨a0', a1'⟩ := HC.out k hlt
    have d0 := (HB.out.cell (p := ⟨b, off + k * 2, none⟩) hbl).trans a0'
    have d1 := (HB.out.cell (p := ⟨b, off + k * 2 + 1, none⟩) hbl).trans a1'
    have HK := hid (HAS.out k)
    have HPr : Hid (∀ j, k = j + 1 → w.cell? ⟨b, off + j * 2 + 1, none⟩ = some (.int .i64 (L.getD (k - 1) Smp.e0).2)) := fun j e => by rw [e, Nat.add_sub_cancel]; exact (HC.out j (by omega)).2
    clear a0' a1' HAS HA0 HC
    generalize (L.getD k Smp.e0).1 = s at *
    generalize (L.getD k Smp.e0).2 = t at *
    generalize (L.getD (k - 1) Smp.e0).2 = u at *
    generalize acc T L k = q at *
    obtain ⟨q0, q1, q2, q3, q4, q5, q6, q7⟩ := q
    simp only [cells] at HX
    simp only at HK
    have i2 : (k : Int) < (m : Int) + 1 := by omega
    have hwr := HB.out.size
    have lb : b < wr.heap.size := by omega
    have hal := (Below.refl _ wr).alloc (Nat.le_refl _) (.cells #[.int .i64 s, .int .i64 t] 58)
    have HXa := hid (box_below HX.out hal)
    have HZa := hid (box_below HZ.out hal)
    have HNa := hid (heap_new wr (.cells #[.int .i64 s, .int .i64 t] 58))
    have HBa := hid (HB.out.alloc hwr (.cells #[.int .i64 s, .int .i64 t] 58))
    have lBw := lt_block HX.out
    have hAB : B ≠ wr.heap.size := by omega
    clear hal
    go_upto_region 5 with fail
    generalize wr.alloc (.cells #[.int .i64 s, .int .i64 t] 58) = W1 at *
    generalize hA : wr.heap.size = A at *
    have HAA := hid hA
    clear hA lBw hwr lb d0 d1 HX HZ HB
    have e0 := cell_at HNa.out 0
    have e1 := cell_at HNa.out 1
    have c0 := cell_at HXa.out 0
    have c1 := cell_at HXa.out 1
    have c2 := cell_at HXa.out 2
    have c3 := cell_at HXa.out 3
    have c4 := cell_at HXa.out 4
    have c5 := cell_at HXa.out 5
    have c6 := cell_at HXa.out 6
    have c7 := cell_at HXa.out 7
    have f2 := froz_at HXa.out 2
    have f3 := froz_at HXa.out 3
    have f4 := froz_at HXa.out 4
    have f7 := froz_at HXa.out 7
    by_cases h1 : t < q3
    · by_cases h2 : q4 < t
      · have HXs := hid (by have h := (set_cell (o := 4) (x := (.int .i64 t)) (set_cell (o := 3) (x := (.int .i64 t)) (set_cell (o := 2) (x := (.int .i64 (wrap64 (q2 + t)))) HXa.out))); simpa using h : (((W1.setCell ⟨B, 2, none⟩ (.int .i64 (wrap64 (q2 + t)))).setCell ⟨B, 3, none⟩ (.int .i64 t)).setCell ⟨B, 4, none⟩ (.int .i64 t)).heap[B]? = some (.cells #[.int .i64 q0, .int .i64 q1, .int .i64 (wrap64 (q2 + t)), .int .i64 t, .int .i64 t, .int .i64 q5, .int .i64 q6, .int .i64 q7] 33 (0, 0)))
        have HZs := hid (set_farB (o := 4) (u := (.int .i64 t)) (set_farB (o := 3) (u := (.int .i64 t)) (set_farB (o := 2) (u := (.int .i64 (wrap64 (q2 + t)))) HZa.out (show B ≠ w.heap.size by omega)) (show B ≠ w.heap.size by omega)) (show B ≠ w.heap.size by omega))
        have HNs := hid (set_farB (o := 4) (u := (.int .i64 t)) (set_farB (o := 3) (u := (.int .i64 t)) (set_farB (o := 2) (u := (.int .i64 (wrap64 (q2 + t)))) HNa.out hAB) hAB) hAB)
        have HBs := hid (((HBa.out.setCell (p := ⟨B, 2, none⟩) (by simp only; omega) (.int .i64 (wrap64 (q2 + t)))).setCell (p := ⟨B, 3, none⟩) (by simp only; omega) (.int .i64 t)).setCell (p := ⟨B, 4, none⟩) (by simp only; omega) (.int .i64 t))
        rw [if_pos h1, if_pos h2] at HK
        cases k with
        | zero =>
          rw [if_neg (by omega)] at HK
          go_wp2
          go_roundw
          case rel => exact ⟨1, by omega, by go_num, by unfold Hid; rw [HK.out]; exact HXs.out, HZs, HBs⟩
          case measure => simp [intOf]
        | succ j =>
          rw [if_pos (by omega)] at HK
          have HPc := hid ((HBs.out.cell (p := ⟨b, off + j * 2 + 1, none⟩) hbl).trans (HPr.out j rfl))
          have hwj : IntKind.i64.wrap (j : Int) = (j : Int) := by rw [IntKind.wrap_i64]; omega
          have hij : ¬ ((m : Int) + 1 ≤ (j : Int)) := by omega
          go_upto_region 11 with fail
          generalize (((W1.setCell ⟨B, 2, none⟩ (.int .i64 (wrap64 (q2 + t)))).setCell ⟨B, 3, none⟩ (.int .i64 t)).setCell ⟨B, 4, none⟩ (.int .i64 t)) = V at *
          clear c0 c1 c2 c3 c4 c5 c6 c7 f2 f3 f4 f7 e0 e1
          have x0 : V.drew.cell? ⟨b, off + j * 2 + 1, none⟩ = some (.int .i64 u) := HPc.out
          have x1 : V.drew.cell? ⟨A, 1, none⟩ = some (.int .i64 t) := cell_at (w := V.drew) HNs.out 1
          have x2 : V.drew.cell? ⟨B, 7, none⟩ = some (.int .i64 q7) := cell_at (w := V.drew) HXs.out 7
          have x3 := froz_at (w := V.drew) HXs.out 7
          have HXd : Hid (V.drew.heap[B]? = some (.cells #[.int .i64 q0, .int .i64 q1, .int .i64 (wrap64 (q2 + t)), .int .i64 t, .int .i64 t, .int .i64 q5, .int .i64 q6, .int .i64 q7] 33 (0, 0))) := HXs.out
          have HZd : Hid (V.drew.heap[w.heap.size]? = some (.cells #[.int .i64 0, .int .i64 0, .int .i64 0, .int .i64 0, .int .i64 0, .int .i64 0, .int .i64 0, .int .i64 0] 33 (0, 0))) := HZs.out
          have HBd := hid HBs.out.drew
          have HNd : Hid (V.drew.heap[A]? = some (.cells #[.int .i64 s, .int .i64 t] 58 (0, 0))) := HNs.out
          refine wp_region_held_drew (S := fun x => x.cell? ⟨b, off + j * 2 + 1, none⟩ = some (.int .i64 u) ∧ x.cell? ⟨A, 1, none⟩ = some (.int .i64 t)) rfl ⟨x0, x1⟩ (fun hHeld => ?_)
          refine wpAnyH_take (i := 0) (oi := { dst := some 62, op := _, type := _, pos := _, after := _, guard := _ }) (v := .pointer (some ⟨B, 7, none⟩)) rfl (by kernel_rfl) (by kernel_rfl) (by kernel_rfl) (fun _ _ _ h => h) (Or.inl ⟨by rfl, fun w hSw => by (try dsimp only at hSw); go_split_ands; go_simp⟩) (by assumption) ?_
          simp only [Act.put, List.setIfInBounds_toArray, List.set_cons_zero, List.set_cons_succ]
          refine wpAnyH_take (i := 2) (oi := { dst := some 64, op := _, type := _, pos := _, after := _, guard := _ }) (v := .slice (some ⟨b, off, none⟩) (m + 1) c) rfl (by kernel_rfl) (by kernel_rfl) (by kernel_rfl) (fun _ _ _ h => h) (Or.inl ⟨by rfl, fun w hSw => by (try dsimp only at hSw); go_split_ands; go_simp⟩) (by assumption) ?_
          simp only [Act.put, List.setIfInBounds_toArray, List.set_cons_zero, List.set_cons_succ]
          refine wpAnyH_take (i := 3) (oi := { dst := some 65, op := _, type := _, pos := _, after := _, guard := _ }) (v := .int .i64 ((j : Int) + 1)) rfl (by kernel_rfl) (by kernel_rfl) (by kernel_rfl) (fun _ _ _ h => h) (Or.inl ⟨by rfl, fun w hSw => by (try dsimp only at hSw); go_split_ands; go_simp⟩) (by assumption) ?_
          simp only [Act.put, List.setIfInBounds_toArray, List.set_cons_zero, List.set_cons_succ]
          refine wpAnyH_take (i := 4) (oi := { dst := some 66, op := _, type := _, pos := _, after := _, guard := _ }) (v := .int .i64 (j : Int)) rfl (by kernel_rfl) (by kernel_rfl) (by kernel_rfl) (fun _ _ _ h => h) (Or.inl ⟨by rfl, fun w hSw => by (try dsimp only at hSw); go_split_ands; go_simp⟩) (by assumption) ?_
          simp only [Act.put, List.setIfInBounds_toArray, List.set_cons_zero, List.set_cons_succ]
          refine wpAnyH_take (i := 5) (oi := { dst := some 67, op := _, type := _, pos := _, after := _, guard := _ }) (v := .pointer (some ⟨b, off + j * 2, none⟩)) rfl (by kernel_rfl) (by kernel_rfl) (by kernel_rfl) (fun _ _ _ h => h) (Or.inl ⟨by rfl, fun w hSw => by (try dsimp only at hSw); go_split_ands; go_simp⟩) (by assumption) ?_
          simp only [Act.put, List.setIfInBounds_toArray, List.set_cons_zero, List.set_cons_succ]
          refine wpAnyH_take (i := 6) (oi := { dst := some 68, op := _, type := _, pos := _, after := _, guard := _ }) (v := .pointer (some ⟨b, off + j * 2 + 1, none⟩)) rfl (by kernel_rfl) (by kernel_rfl) (by kernel_rfl) (fun _ _ _ h => h) (Or.inl ⟨by rfl, fun w hSw => by (try dsimp only at hSw); go_split_ands; go_simp⟩) (by assumption) ?_
          simp only [Act.put, List.setIfInBounds_toArray, List.set_cons_zero, List.set_cons_succ]
          refine wpAnyH_take (i := 7) (oi := { dst := some 69, op := _, type := _, pos := _, after := _, guard := _ }) (v := .int .i64 u) rfl (by kernel_rfl) (by kernel_rfl) (by kernel_rfl) (fun _ _ _ h => h) (Or.inl ⟨by rfl, fun w hSw => by (try dsimp only at hSw); go_split_ands; go_simp⟩) (by assumption) ?_
          simp only [Act.put, List.setIfInBounds_toArray, List.set_cons_zero, List.set_cons_succ]
          refine wpAnyH_take (i := 8) (oi := { dst := some 70, op := _, type := _, pos := _, after := _, guard := _ }) (v := .pointer (some ⟨A, 1, none⟩)) rfl (by kernel_rfl) (by kernel_rfl) (by kernel_rfl) (fun _ _ _ h => h) (Or.inl ⟨by rfl, fun w hSw => by (try dsimp only at hSw); go_split_ands; go_simp⟩) (by assumption) ?_
          simp only [Act.put, List.setIfInBounds_toArray, List.set_cons_zero, List.set_cons_succ]
          refine wpAnyH_take (i := 9) (oi := { dst := some 71, op := _, type := _, pos := _, after := _, guard := _ }) (v := .int .i64 t) rfl (by kernel_rfl) (by kernel_rfl) (by kernel_rfl) (fun _ _ _ h => h) (Or.inl ⟨by rfl, fun w hSw => by (try dsimp only at hSw); go_split_ands; go_simp⟩) (by assumption) ?_
          simp only [Act.put, List.setIfInBounds_toArray, List.set_cons_zero, List.set_cons_succ]
          generalize V.drew = d2 at *
          refine wpAnyH_ready (rs := [1, 10]) (by kernel_rfl) (by simp) (AllReadyH.cons (o := { dst := some 63, op := _, type := _, pos := _, after := _, guard := _ }) rfl ?_ (AllReadyH.cons (o := { dst := some 72, op := _, type := _, pos := _, after := _, guard := _ }) rfl ?_ AllReadyH.nil))
          · intro K1 hK1
            go_simp
            refine hK1.out _ _ hHeld (fun _ => ?_)
            clear hK1 K1
            refine wpAnyH_ready (rs := [10]) (by kernel_rfl) (by simp) (AllReadyH.cons (o := { dst := some 72, op := _, type := _, pos := _, after := _, guard := _ }) rfl ?_ AllReadyH.nil)
            intro K2 hK2
            go_simp
            go_wp2_with (go_at_call 69; refine (f69 u t _).mono ?_; rintro e c3 ⟨rfl, hc3⟩; subst hc3)
            refine hK2.out _ _ hHeld (fun _ => ?_)
            clear hK2 K2
            refine wpAnyH_take (i := 11) (oi := { dst := some 73, op := _, type := _, pos := _, after := _, guard := _ }) (v := .int .i64 (IntKind.i64.wrap (q7 + rise u t))) rfl (by kernel_rfl) (by kernel_rfl) (by kernel_rfl) (fun _ _ _ h => h) (Or.inl ⟨by rfl, fun w hSw => by (try dsimp only at hSw); go_split_ands; go_simp⟩) (by assumption) ?_
            simp only [Act.put, List.setIfInBounds_toArray, List.set_cons_zero, List.set_cons_succ]
            refine wpAnyH_take (i := 12) (oi := { dst := some 74, op := _, type := _, pos := _, after := _, guard := _ }) (v := .pointer (some ⟨B, 7, none⟩)) rfl (by kernel_rfl) (by kernel_rfl) (by kernel_rfl) (fun _ _ _ h => h) (Or.inl ⟨by rfl, fun w hSw => by (try dsimp only at hSw); go_split_ands; go_simp⟩) (by assumption) ?_
            simp only [Act.put, List.setIfInBounds_toArray, List.set_cons_zero, List.set_cons_succ]
            have HX8 := hid (by have h := set_cell (o := 7) (x := .int .i64 (IntKind.i64.wrap (q7 + rise u t))) HXd.out; simpa using h : (c3.setCell ⟨B, 7, none⟩ (.int .i64 (IntKind.i64.wrap (q7 + rise u t)))).heap[B]? = some (.cells #[.int .i64 q0, .int .i64 q1, .int .i64 (wrap64 (q2 + t)), .int .i64 t, .int .i64 t, .int .i64 q5, .int .i64 q6, .int .i64 (IntKind.i64.wrap (q7 + rise u t))] 33 (0, 0)))
            have HZ8 := hid (set_farB (o := 7) (u := .int .i64 (IntKind.i64.wrap (q7 + rise u t))) HZd.out (show B ≠ w.heap.size by omega))
            have HB8 := hid (HBd.out.setCell (p := ⟨B, 7, none⟩) (by simp only; omega) (.int .i64 (IntKind.i64.wrap (q7 + rise u t))))
            have HP8 := hid ((HB8.out.cell (p := ⟨b, off + j * 2 + 1, none⟩) hbl).trans (HPr.out j rfl))
            have HN8 := hid (set_farB (o := 7) (u := .int .i64 (IntKind.i64.wrap (q7 + rise u t))) HNd.out hAB)
            refine wpAnyH_ready (rs := [13]) (by kernel_rfl) (by simp) (AllReadyH.cons (o := { dst := none, op := _, type := _, pos := _, after := _, guard := _ }) rfl ?_ AllReadyH.nil)
            intro K3 hK3
            go_simp
            refine hK3.out _ _ ⟨HP8.out, cell_at HN8.out 1⟩ (fun _ => ?_)
            clear hK3 K3
            refine wpAnyH_done (by kernel_rfl) ?_ _
            generalize c3.setCell ⟨B, 7, none⟩ (.int .i64 (IntKind.i64.wrap (q7 + rise u t))) = V9 at *
            go_wp2
            go_roundw
            case rel => exact ⟨j + 1 + 1, by omega, by go_num, by unfold Hid; rw [HK.out]; have h := HX8.out; rw [w64 (q7 + rise u t)] at h; exact h, HZ8, HB8⟩
            case measure => simp [intOf]; omega
          · intro K2 hK2
            go_simp
            go_wp2_with (go_at_call 69; refine (f69 u t _).mono ?_; rintro e c3 ⟨rfl, hc3⟩; subst hc3)
            refine hK2.out _ _ hHeld (fun _ => ?_)
            clear hK2 K2
            refine wpAnyH_ready (rs := [1]) (by kernel_rfl) (by simp) (AllReadyH.cons (o := { dst := some 63, op := _, type := _, pos := _, after := _, guard := _ }) rfl ?_ AllReadyH.nil)
            intro K1 hK1
            go_simp
            refine hK1.out _ _ hHeld (fun _ => ?_)
            clear hK1 K1
            refine wpAnyH_take (i := 11) (oi := { dst := some 73, op := _, type := _, pos := _, after := _, guard := _ }) (v := .int .i64 (IntKind.i64.wrap (q7 + rise u t))) rfl (by kernel_rfl) (by kernel_rfl) (by kernel_rfl) (fun _ _ _ h => h) (Or.inl ⟨by rfl, fun w hSw => by (try dsimp only at hSw); go_split_ands; go_simp⟩) (by assumption) ?_
            simp only [Act.put, List.setIfInBounds_toArray, List.set_cons_zero, List.set_cons_succ]
            refine wpAnyH_take (i := 12) (oi := { dst := some 74, op := _, type := _, pos := _, after := _, guard := _ }) (v := .pointer (some ⟨B, 7, none⟩)) rfl (by kernel_rfl) (by kernel_rfl) (by kernel_rfl) (fun _ _ _ h => h) (Or.inl ⟨by rfl, fun w hSw => by (try dsimp only at hSw); go_split_ands; go_simp⟩) (by assumption) ?_
            simp only [Act.put, List.setIfInBounds_toArray, List.set_cons_zero, List.set_cons_succ]
            have HX8 := hid (by have h := set_cell (o := 7) (x := .int .i64 (IntKind.i64.wrap (q7 + rise u t))) HXd.out; simpa using h : (c3.setCell ⟨B, 7, none⟩ (.int .i64 (IntKind.i64.wrap (q7 + rise u t)))).heap[B]? = some (.cells #[.int .i64 q0, .int .i64 q1, .int .i64 (wrap64 (q2 + t)), .int .i64 t, .int .i64 t, .int .i64 q5, .int .i64 q6, .int .i64 (IntKind.i64.wrap (q7 + rise u t))] 33 (0, 0)))
            have HZ8 := hid (set_farB (o := 7) (u := .int .i64 (IntKind.i64.wrap (q7 + rise u t))) HZd.out (show B ≠ w.heap.size by omega))
            have HB8 := hid (HBd.out.setCell (p := ⟨B, 7, none⟩) (by simp only; omega) (.int .i64 (IntKind.i64.wrap (q7 + rise u t))))
            have HP8 := hid ((HB8.out.cell (p := ⟨b, off + j * 2 + 1, none⟩) hbl).trans (HPr.out j rfl))
            have HN8 := hid (set_farB (o := 7) (u := .int .i64 (IntKind.i64.wrap (q7 + rise u t))) HNd.out hAB)
            refine wpAnyH_ready (rs := [13]) (by kernel_rfl) (by simp) (AllReadyH.cons (o := { dst := none, op := _, type := _, pos := _, after := _, guard := _ }) rfl ?_ AllReadyH.nil)
            intro K3 hK3
            go_simp
            refine hK3.out _ _ ⟨HP8.out, cell_at HN8.out 1⟩ (fun _ => ?_)
            clear hK3 K3
            refine wpAnyH_done (by kernel_rfl) ?_ _
            generalize c3.setCell ⟨B, 7, none⟩ (.int .i64 (IntKind.i64.wrap (q7 + rise u t))) = V9 at *
            go_wp2
            go_roundw
            case rel => exact ⟨j + 1 + 1, by omega, by go_num, by unfold Hid; rw [HK.out]; have h := HX8.out; rw [w64 (q7 + rise u t)] at h; exact h, HZ8, HB8⟩
            case measure => simp [intOf]; omega
      · have HXs := hid (by have h := (set_cell (o := 3) (x := (.int .i64 t)) (set_cell (o := 2) (x := (.int .i64 (wrap64 (q2 + t)))) HXa.out)); simpa using h : ((W1.setCell ⟨B, 2, none⟩ (.int .i64 (wrap64 (q2 + t)))).setCell ⟨B, 3, none⟩ (.int .i64 t)).heap[B]? = some (.cells #[.int .i64 q0, .int .i64 q1, .int .i64 (wrap64 (q2 + t)), .int .i64 t, .int .i64 q4, .int .i64 q5, .int .i64 q6, .int .i64 q7] 33 (0, 0)))
        have HZs := hid (set_farB (o := 3) (u := (.int .i64 t)) (set_farB (o := 2) (u := (.int .i64 (wrap64 (q2 + t)))) HZa.out (show B ≠ w.heap.size by omega)) (show B ≠ w.heap.size by omega))
        have HNs := hid (set_farB (o := 3) (u := (.int .i64 t)) (set_farB (o := 2) (u := (.int .i64 (wrap64 (q2 + t)))) HNa.out hAB) hAB)
        have HBs := hid ((HBa.out.setCell (p := ⟨B, 2, none⟩) (by simp only; omega) (.int .i64 (wrap64 (q2 + t)))).setCell (p := ⟨B, 3, none⟩) (by simp only; omega) (.int .i64 t))
        rw [if_pos h1, if_neg h2] at HK
        cases k with
        | zero =>
          rw [if_neg (by omega)] at HK
          go_wp2
          go_roundw
          case rel => exact ⟨1, by omega, by go_num, by unfold Hid; rw [HK.out]; exact HXs.out, HZs, HBs⟩
          case measure => simp [intOf]
        | succ j =>
          rw [if_pos (by omega)] at HK
          have HPc := hid ((HBs.out.cell (p := ⟨b, off + j * 2 + 1, none⟩) hbl).trans (HPr.out j rfl))
          have hwj : IntKind.i64.wrap (j : Int) = (j : Int) := by rw [IntKind.wrap_i64]; omega
          have hij : ¬ ((m : Int) + 1 ≤ (j : Int)) := by omega
          go_upto_region 11 with fail
          generalize ((W1.setCell ⟨B, 2, none⟩ (.int .i64 (wrap64 (q2 + t)))).setCell ⟨B, 3, none⟩ (.int .i64 t)) = V at *
          clear c0 c1 c2 c3 c4 c5 c6 c7 f2 f3 f4 f7 e0 e1
          have x0 : V.drew.cell? ⟨b, off + j * 2 + 1, none⟩ = some (.int .i64 u) := HPc.out
          have x1 : V.drew.cell? ⟨A, 1, none⟩ = some (.int .i64 t) := cell_at (w := V.drew) HNs.out 1
          have x2 : V.drew.cell? ⟨B, 7, none⟩ = some (.int .i64 q7) := cell_at (w := V.drew) HXs.out 7
          have x3 := froz_at (w := V.drew) HXs.out 7
          have HXd : Hid (V.drew.heap[B]? = some (.cells #[.int .i64 q0, .int .i64 q1, .int .i64 (wrap64 (q2 + t)), .int .i64 t, .int .i64 q4, .int .i64 q5, .int .i64 q6, .int .i64 q7] 33 (0, 0))) := HXs.out
          have HZd : Hid (V.drew.heap[w.heap.size]? = some (.cells #[.int .i64 0, .int .i64 0, .int .i64 0, .int .i64 0, .int .i64 0, .int .i64 0, .int .i64 0, .int .i64 0] 33 (0, 0))) := HZs.out
          have HBd := hid HBs.out.drew
          have HNd : Hid (V.drew.heap[A]? = some (.cells #[.int .i64 s, .int .i64 t] 58 (0, 0))) := HNs.out
          refine wp_region_held_drew (S := fun x => x.cell? ⟨b, off + j * 2 + 1, none⟩ = some (.int .i64 u) ∧ x.cell? ⟨A, 1, none⟩ = some (.int .i64 t)) rfl ⟨x0, x1⟩ (fun hHeld => ?_)
          refine wpAnyH_take (i := 0) (oi := { dst := some 62, op := _, type := _, pos := _, after := _, guard := _ }) (v := .pointer (some ⟨B, 7, none⟩)) rfl (by kernel_rfl) (by kernel_rfl) (by kernel_rfl) (fun _ _ _ h => h) (Or.inl ⟨by rfl, fun w hSw => by (try dsimp only at hSw); go_split_ands; go_simp⟩) (by assumption) ?_
          simp only [Act.put, List.setIfInBounds_toArray, List.set_cons_zero, List.set_cons_succ]
          refine wpAnyH_take (i := 2) (oi := { dst := some 64, op := _, type := _, pos := _, after := _, guard := _ }) (v := .slice (some ⟨b, off, none⟩) (m + 1) c) rfl (by kernel_rfl) (by kernel_rfl) (by kernel_rfl) (fun _ _ _ h => h) (Or.inl ⟨by rfl, fun w hSw => by (try dsimp only at hSw); go_split_ands; go_simp⟩) (by assumption) ?_
          simp only [Act.put, List.setIfInBounds_toArray, List.set_cons_zero, List.set_cons_succ]
          refine wpAnyH_take (i := 3) (oi := { dst := some 65, op := _, type := _, pos := _, after := _, guard := _ }) (v := .int .i64 ((j : Int) + 1)) rfl (by kernel_rfl) (by kernel_rfl) (by kernel_rfl) (fun _ _ _ h => h) (Or.inl ⟨by rfl, fun w hSw => by (try dsimp only at hSw); go_split_ands; go_simp⟩) (by assumption) ?_
          simp only [Act.put, List.setIfInBounds_toArray, List.set_cons_zero, List.set_cons_succ]
          refine wpAnyH_take (i := 4) (oi := { dst := some 66, op := _, type := _, pos := _, after := _, guard := _ }) (v := .int .i64 (j : Int)) rfl (by kernel_rfl) (by kernel_rfl) (by kernel_rfl) (fun _ _ _ h => h) (Or.inl ⟨by rfl, fun w hSw => by (try dsimp only at hSw); go_split_ands; go_simp⟩) (by assumption) ?_
          simp only [Act.put, List.setIfInBounds_toArray, List.set_cons_zero, List.set_cons_succ]
          refine wpAnyH_take (i := 5) (oi := { dst := some 67, op := _, type := _, pos := _, after := _, guard := _ }) (v := .pointer (some ⟨b, off + j * 2, none⟩)) rfl (by kernel_rfl) (by kernel_rfl) (by kernel_rfl) (fun _ _ _ h => h) (Or.inl ⟨by rfl, fun w hSw => by (try dsimp only at hSw); go_split_ands; go_simp⟩) (by assumption) ?_
          simp only [Act.put, List.setIfInBounds_toArray, List.set_cons_zero, List.set_cons_succ]
          refine wpAnyH_take (i := 6) (oi := { dst := some 68, op := _, type := _, pos := _, after := _, guard := _ }) (v := .pointer (some ⟨b, off + j * 2 + 1, none⟩)) rfl (by kernel_rfl) (by kernel_rfl) (by kernel_rfl) (fun _ _ _ h => h) (Or.inl ⟨by rfl, fun w hSw => by (try dsimp only at hSw); go_split_ands; go_simp⟩) (by assumption) ?_
          simp only [Act.put, List.setIfInBounds_toArray, List.set_cons_zero, List.set_cons_succ]
          refine wpAnyH_take (i := 7) (oi := { dst := some 69, op := _, type := _, pos := _, after := _, guard := _ }) (v := .int .i64 u) rfl (by kernel_rfl) (by kernel_rfl) (by kernel_rfl) (fun _ _ _ h => h) (Or.inl ⟨by rfl, fun w hSw => by (try dsimp only at hSw); go_split_ands; go_simp⟩) (by assumption) ?_
          simp only [Act.put, List.setIfInBounds_toArray, List.set_cons_zero, List.set_cons_succ]
          refine wpAnyH_take (i := 8) (oi := { dst := some 70, op := _, type := _, pos := _, after := _, guard := _ }) (v := .pointer (some ⟨A, 1, none⟩)) rfl (by kernel_rfl) (by kernel_rfl) (by kernel_rfl) (fun _ _ _ h => h) (Or.inl ⟨by rfl, fun w hSw => by (try dsimp only at hSw); go_split_ands; go_simp⟩) (by assumption) ?_
          simp only [Act.put, List.setIfInBounds_toArray, List.set_cons_zero, List.set_cons_succ]
          refine wpAnyH_take (i := 9) (oi := { dst := some 71, op := _, type := _, pos := _, after := _, guard := _ }) (v := .int .i64 t) rfl (by kernel_rfl) (by kernel_rfl) (by kernel_rfl) (fun _ _ _ h => h) (Or.inl ⟨by rfl, fun w hSw => by (try dsimp only at hSw); go_split_ands; go_simp⟩) (by assumption) ?_
          simp only [Act.put, List.setIfInBounds_toArray, List.set_cons_zero, List.set_cons_succ]
          generalize V.drew = d2 at *
          refine wpAnyH_ready (rs := [1, 10]) (by kernel_rfl) (by simp) (AllReadyH.cons (o := { dst := some 63, op := _, type := _, pos := _, after := _, guard := _ }) rfl ?_ (AllReadyH.cons (o := { dst := some 72, op := _, type := _, pos := _, after := _, guard := _ }) rfl ?_ AllReadyH.nil))
          · intro K1 hK1
            go_simp
            refine hK1.out _ _ hHeld (fun _ => ?_)
            clear hK1 K1
            refine wpAnyH_ready (rs := [10]) (by kernel_rfl) (by simp) (AllReadyH.cons (o := { dst := some 72, op := _, type := _, pos := _, after := _, guard := _ }) rfl ?_ AllReadyH.nil)
            intro K2 hK2
            go_simp
            go_wp2_with (go_at_call 69; refine (f69 u t _).mono ?_; rintro e c3 ⟨rfl, hc3⟩; subst hc3)
            refine hK2.out _ _ hHeld (fun _ => ?_)
            clear hK2 K2
            refine wpAnyH_take (i := 11) (oi := { dst := some 73, op := _, type := _, pos := _, after := _, guard := _ }) (v := .int .i64 (IntKind.i64.wrap (q7 + rise u t))) rfl (by kernel_rfl) (by kernel_rfl) (by kernel_rfl) (fun _ _ _ h => h) (Or.inl ⟨by rfl, fun w hSw => by (try dsimp only at hSw); go_split_ands; go_simp⟩) (by assumption) ?_
            simp only [Act.put, List.setIfInBounds_toArray, List.set_cons_zero, List.set_cons_succ]
            refine wpAnyH_take (i := 12) (oi := { dst := some 74, op := _, type := _, pos := _, after := _, guard := _ }) (v := .pointer (some ⟨B, 7, none⟩)) rfl (by kernel_rfl) (by kernel_rfl) (by kernel_rfl) (fun _ _ _ h => h) (Or.inl ⟨by rfl, fun w hSw => by (try dsimp only at hSw); go_split_ands; go_simp⟩) (by assumption) ?_
            simp only [Act.put, List.setIfInBounds_toArray, List.set_cons_zero, List.set_cons_succ]
            have HX8 := hid (by have h := set_cell (o := 7) (x := .int .i64 (IntKind.i64.wrap (q7 + rise u t))) HXd.out; simpa using h : (c3.setCell ⟨B, 7, none⟩ (.int .i64 (IntKind.i64.wrap (q7 + rise u t)))).heap[B]? = some (.cells #[.int .i64 q0, .int .i64 q1, .int .i64 (wrap64 (q2 + t)), .int .i64 t, .int .i64 q4, .int .i64 q5, .int .i64 q6, .int .i64 (IntKind.i64.wrap (q7 + rise u t))] 33 (0, 0)))
            have HZ8 := hid (set_farB (o := 7) (u := .int .i64 (IntKind.i64.wrap (q7 + rise u t))) HZd.out (show B ≠ w.heap.size by omega))
            have HB8 := hid (HBd.out.setCell (p := ⟨B, 7, none⟩) (by simp only; omega) (.int .i64 (IntKind.i64.wrap (q7 + rise u t))))
            have HP8 := hid ((HB8.out.cell (p := ⟨b, off + j * 2 + 1, none⟩) hbl).trans (HPr.out j rfl))
            have HN8 := hid (set_farB (o := 7) (u := .int .i64 (IntKind.i64.wrap (q7 + rise u t))) HNd.out hAB)
            refine wpAnyH_ready (rs := [13]) (by kernel_rfl) (by simp) (AllReadyH.cons (o := { dst := none, op := _, type := _, pos := _, after := _, guard := _ }) rfl ?_ AllReadyH.nil)
            intro K3 hK3
            go_simp
            refine hK3.out _ _ ⟨HP8.out, cell_at HN8.out 1⟩ (fun _ => ?_)
            clear hK3 K3
            refine wpAnyH_done (by kernel_rfl) ?_ _
            generalize c3.setCell ⟨B, 7, none⟩ (.int .i64 (IntKind.i64.wrap (q7 + rise u t))) = V9 at *
            go_wp2
            go_roundw
            case rel => exact ⟨j + 1 + 1, by omega, by go_num, by unfold Hid; rw [HK.out]; have h := HX8.out; rw [w64 (q7 + rise u t)] at h; exact h, HZ8, HB8⟩
            case measure => simp [intOf]; omega
          · intro K2 hK2
            go_simp
            go_wp2_with (go_at_call 69; refine (f69 u t _).mono ?_; rintro e c3 ⟨rfl, hc3⟩; subst hc3)
            refine hK2.out _ _ hHeld (fun _ => ?_)
            clear hK2 K2
            refine wpAnyH_ready (rs := [1]) (by kernel_rfl) (by simp) (AllReadyH.cons (o := { dst := some 63, op := _, type := _, pos := _, after := _, guard := _ }) rfl ?_ AllReadyH.nil)
            intro K1 hK1
            go_simp
            refine hK1.out _ _ hHeld (fun _ => ?_)
            clear hK1 K1
            refine wpAnyH_take (i := 11) (oi := { dst := some 73, op := _, type := _, pos := _, after := _, guard := _ }) (v := .int .i64 (IntKind.i64.wrap (q7 + rise u t))) rfl (by kernel_rfl) (by kernel_rfl) (by kernel_rfl) (fun _ _ _ h => h) (Or.inl ⟨by rfl, fun w hSw => by (try dsimp only at hSw); go_split_ands; go_simp⟩) (by assumption) ?_
            simp only [Act.put, List.setIfInBounds_toArray, List.set_cons_zero, List.set_cons_succ]
            refine wpAnyH_take (i := 12) (oi := { dst := some 74, op := _, type := _, pos := _, after := _, guard := _ }) (v := .pointer (some ⟨B, 7, none⟩)) rfl (by kernel_rfl) (by kernel_rfl) (by kernel_rfl) (fun _ _ _ h => h) (Or.inl ⟨by rfl, fun w hSw => by (try dsimp only at hSw); go_split_ands; go_simp⟩) (by assumption) ?_
            simp only [Act.put, List.setIfInBounds_toArray, List.set_cons_zero, List.set_cons_succ]
            have HX8 := hid (by have h := set_cell (o := 7) (x := .int .i64 (IntKind.i64.wrap (q7 + rise u t))) HXd.out; simpa using h : (c3.setCell ⟨B, 7, none⟩ (.int .i64 (IntKind.i64.wrap (q7 + rise u t)))).heap[B]? = some (.cells #[.int .i64 q0, .int .i64 q1, .int .i64 (wrap64 (q2 + t)), .int .i64 t, .int .i64 q4, .int .i64 q5, .int .i64 q6, .int .i64 (IntKind.i64.wrap (q7 + rise u t))] 33 (0, 0)))
            have HZ8 := hid (set_farB (o := 7) (u := .int .i64 (IntKind.i64.wrap (q7 + rise u t))) HZd.out (show B ≠ w.heap.size by omega))
            have HB8 := hid (HBd.out.setCell (p := ⟨B, 7, none⟩) (by simp only; omega) (.int .i64 (IntKind.i64.wrap (q7 + rise u t))))
            have HP8 := hid ((HB8.out.cell (p := ⟨b, off + j * 2 + 1, none⟩) hbl).trans (HPr.out j rfl))
            have HN8 := hid (set_farB (o := 7) (u := .int .i64 (IntKind.i64.wrap (q7 + rise u t))) HNd.out hAB)
            refine wpAnyH_ready (rs := [13]) (by kernel_rfl) (by simp) (AllReadyH.cons (o := { dst := none, op := _, type := _, pos := _, after := _, guard := _ }) rfl ?_ AllReadyH.nil)
            intro K3 hK3
            go_simp
            refine hK3.out _ _ ⟨HP8.out, cell_at HN8.out 1⟩ (fun _ => ?_)
            clear hK3 K3
            refine wpAnyH_done (by kernel_rfl) ?_ _
            generalize c3.setCell ⟨B, 7, none⟩ (.int .i64 (IntKind.i64.wrap (q7 + rise u t))) = V9 at *
            go_wp2
            go_roundw
            case rel => exact ⟨j + 1 + 1, by omega, by go_num, by unfold Hid; rw [HK.out]; have h := HX8.out; rw [w64 (q7 + rise u t)] at h; exact h, HZ8, HB8⟩
            case measure => simp [intOf]; omega
    · by_cases h2 : q4 < t
      · have HXs := hid (by have h := (set_cell (o := 4) (x := (.int .i64 t)) (set_cell (o := 2) (x := (.int .i64 (wrap64 (q2 + t)))) HXa.out)); simpa using h : ((W1.setCell ⟨B, 2, none⟩ (.int .i64 (wrap64 (q2 + t)))).setCell ⟨B, 4, none⟩ (.int .i64 t)).heap[B]? = some (.cells #[.int .i64 q0, .int .i64 q1, .int .i64 (wrap64 (q2 + t)), .int .i64 q3, .int .i64 t, .int .i64 q5, .int .i64 q6, .int .i64 q7] 33 (0, 0)))
        have HZs := hid (set_farB (o := 4) (u := (.int .i64 t)) (set_farB (o := 2) (u := (.int .i64 (wrap64 (q2 + t)))) HZa.out (show B ≠ w.heap.size by omega)) (show B ≠ w.heap.size by omega))
        have HNs := hid (set_farB (o := 4) (u := (.int .i64 t)) (set_farB (o := 2) (u := (.int .i64 (wrap64 (q2 + t)))) HNa.out hAB) hAB)
        have HBs := hid ((HBa.out.setCell (p := ⟨B, 2, none⟩) (by simp only; omega) (.int .i64 (wrap64 (q2 + t)))).setCell (p := ⟨B, 4, none⟩) (by simp only; omega) (.int .i64 t))
        rw [if_neg h1, if_pos h2] at HK
        cases k with
        | zero =>
          rw [if_neg (by omega)] at HK
          go_wp2
          go_roundw
          case rel => exact ⟨1, by omega, by go_num, by unfold Hid; rw [HK.out]; exact HXs.out, HZs, HBs⟩
          case measure => simp [intOf]
        | succ j =>
          rw [if_pos (by omega)] at HK
          have HPc := hid ((HBs.out.cell (p := ⟨b, off + j * 2 + 1, none⟩) hbl).trans (HPr.out j rfl))
          have hwj : IntKind.i64.wrap (j : Int) = (j : Int) := by rw [IntKind.wrap_i64]; omega
          have hij : ¬ ((m : Int) + 1 ≤ (j : Int)) := by omega
          go_upto_region 11 with fail
          generalize ((W1.setCell ⟨B, 2, none⟩ (.int .i64 (wrap64 (q2 + t)))).setCell ⟨B, 4, none⟩ (.int .i64 t)) = V at *
          clear c0 c1 c2 c3 c4 c5 c6 c7 f2 f3 f4 f7 e0 e1
          have x0 : V.drew.cell? ⟨b, off + j * 2 + 1, none⟩ = some (.int .i64 u) := HPc.out
          have x1 : V.drew.cell? ⟨A, 1, none⟩ = some (.int .i64 t) := cell_at (w := V.drew) HNs.out 1
          have x2 : V.drew.cell? ⟨B, 7, none⟩ = some (.int .i64 q7) := cell_at (w := V.drew) HXs.out 7
          have x3 := froz_at (w := V.drew) HXs.out 7
          have HXd : Hid (V.drew.heap[B]? = some (.cells #[.int .i64 q0, .int .i64 q1, .int .i64 (wrap64 (q2 + t)), .int .i64 q3, .int .i64 t, .int .i64 q5, .int .i64 q6, .int .i64 q7] 33 (0, 0))) := HXs.out
          have HZd : Hid (V.drew.heap[w.heap.size]? = some (.cells #[.int .i64 0, .int .i64 0, .int .i64 0, .int .i64 0, .int .i64 0, .int .i64 0, .int .i64 0, .int .i64 0] 33 (0, 0))) := HZs.out
          have HBd := hid HBs.out.drew
          have HNd : Hid (V.drew.heap[A]? = some (.cells #[.int .i64 s, .int .i64 t] 58 (0, 0))) := HNs.out
          refine wp_region_held_drew (S := fun x => x.cell? ⟨b, off + j * 2 + 1, none⟩ = some (.int .i64 u) ∧ x.cell? ⟨A, 1, none⟩ = some (.int .i64 t)) rfl ⟨x0, x1⟩ (fun hHeld => ?_)
          refine wpAnyH_take (i := 0) (oi := { dst := some 62, op := _, type := _, pos := _, after := _, guard := _ }) (v := .pointer (some ⟨B, 7, none⟩)) rfl (by kernel_rfl) (by kernel_rfl) (by kernel_rfl) (fun _ _ _ h => h) (Or.inl ⟨by rfl, fun w hSw => by (try dsimp only at hSw); go_split_ands; go_simp⟩) (by assumption) ?_
          simp only [Act.put, List.setIfInBounds_toArray, List.set_cons_zero, List.set_cons_succ]
          refine wpAnyH_take (i := 2) (oi := { dst := some 64, op := _, type := _, pos := _, after := _, guard := _ }) (v := .slice (some ⟨b, off, none⟩) (m + 1) c) rfl (by kernel_rfl) (by kernel_rfl) (by kernel_rfl) (fun _ _ _ h => h) (Or.inl ⟨by rfl, fun w hSw => by (try dsimp only at hSw); go_split_ands; go_simp⟩) (by assumption) ?_
          simp only [Act.put, List.setIfInBounds_toArray, List.set_cons_zero, List.set_cons_succ]
          refine wpAnyH_take (i := 3) (oi := { dst := some 65, op := _, type := _, pos := _, after := _, guard := _ }) (v := .int .i64 ((j : Int) + 1)) rfl (by kernel_rfl) (by kernel_rfl) (by kernel_rfl) (fun _ _ _ h => h) (Or.inl ⟨by rfl, fun w hSw => by (try dsimp only at hSw); go_split_ands; go_simp⟩) (by assumption) ?_
          simp only [Act.put, List.setIfInBounds_toArray, List.set_cons_zero, List.set_cons_succ]
          refine wpAnyH_take (i := 4) (oi := { dst := some 66, op := _, type := _, pos := _, after := _, guard := _ }) (v := .int .i64 (j : Int)) rfl (by kernel_rfl) (by kernel_rfl) (by kernel_rfl) (fun _ _ _ h => h) (Or.inl ⟨by rfl, fun w hSw => by (try dsimp only at hSw); go_split_ands; go_simp⟩) (by assumption) ?_
          simp only [Act.put, List.setIfInBounds_toArray, List.set_cons_zero, List.set_cons_succ]
          refine wpAnyH_take (i := 5) (oi := { dst := some 67, op := _, type := _, pos := _, after := _, guard := _ }) (v := .pointer (some ⟨b, off + j * 2, none⟩)) rfl (by kernel_rfl) (by kernel_rfl) (by kernel_rfl) (fun _ _ _ h => h) (Or.inl ⟨by rfl, fun w hSw => by (try dsimp only at hSw); go_split_ands; go_simp⟩) (by assumption) ?_
          simp only [Act.put, List.setIfInBounds_toArray, List.set_cons_zero, List.set_cons_succ]
          refine wpAnyH_take (i := 6) (oi := { dst := some 68, op := _, type := _, pos := _, after := _, guard := _ }) (v := .pointer (some ⟨b, off + j * 2 + 1, none⟩)) rfl (by kernel_rfl) (by kernel_rfl) (by kernel_rfl) (fun _ _ _ h => h) (Or.inl ⟨by rfl, fun w hSw => by (try dsimp only at hSw); go_split_ands; go_simp⟩) (by assumption) ?_
          simp only [Act.put, List.setIfInBounds_toArray, List.set_cons_zero, List.set_cons_succ]
          refine wpAnyH_take (i := 7) (oi := { dst := some 69, op := _, type := _, pos := _, after := _, guard := _ }) (v := .int .i64 u) rfl (by kernel_rfl) (by kernel_rfl) (by kernel_rfl) (fun _ _ _ h => h) (Or.inl ⟨by rfl, fun w hSw => by (try dsimp only at hSw); go_split_ands; go_simp⟩) (by assumption) ?_
          simp only [Act.put, List.setIfInBounds_toArray, List.set_cons_zero, List.set_cons_succ]
          refine wpAnyH_take (i := 8) (oi := { dst := some 70, op := _, type := _, pos := _, after := _, guard := _ }) (v := .pointer (some ⟨A, 1, none⟩)) rfl (by kernel_rfl) (by kernel_rfl) (by kernel_rfl) (fun _ _ _ h => h) (Or.inl ⟨by rfl, fun w hSw => by (try dsimp only at hSw); go_split_ands; go_simp⟩) (by assumption) ?_
          simp only [Act.put, List.setIfInBounds_toArray, List.set_cons_zero, List.set_cons_succ]
          refine wpAnyH_take (i := 9) (oi := { dst := some 71, op := _, type := _, pos := _, after := _, guard := _ }) (v := .int .i64 t) rfl (by kernel_rfl) (by kernel_rfl) (by kernel_rfl) (fun _ _ _ h => h) (Or.inl ⟨by rfl, fun w hSw => by (try dsimp only at hSw); go_split_ands; go_simp⟩) (by assumption) ?_
          simp only [Act.put, List.setIfInBounds_toArray, List.set_cons_zero, List.set_cons_succ]
          generalize V.drew = d2 at *
          refine wpAnyH_ready (rs := [1, 10]) (by kernel_rfl) (by simp) (AllReadyH.cons (o := { dst := some 63, op := _, type := _, pos := _, after := _, guard := _ }) rfl ?_ (AllReadyH.cons (o := { dst := some 72, op := _, type := _, pos := _, after := _, guard := _ }) rfl ?_ AllReadyH.nil))
          · intro K1 hK1
            go_simp
            refine hK1.out _ _ hHeld (fun _ => ?_)
            clear hK1 K1
            refine wpAnyH_ready (rs := [10]) (by kernel_rfl) (by simp) (AllReadyH.cons (o := { dst := some 72, op := _, type := _, pos := _, after := _, guard := _ }) rfl ?_ AllReadyH.nil)
            intro K2 hK2
            go_simp
            go_wp2_with (go_at_call 69; refine (f69 u t _).mono ?_; rintro e c3 ⟨rfl, hc3⟩; subst hc3)
            refine hK2.out _ _ hHeld (fun _ => ?_)
            clear hK2 K2
            refine wpAnyH_take (i := 11) (oi := { dst := some 73, op := _, type := _, pos := _, after := _, guard := _ }) (v := .int .i64 (IntKind.i64.wrap (q7 + rise u t))) rfl (by kernel_rfl) (by kernel_rfl) (by kernel_rfl) (fun _ _ _ h => h) (Or.inl ⟨by rfl, fun w hSw => by (try dsimp only at hSw); go_split_ands; go_simp⟩) (by assumption) ?_
            simp only [Act.put, List.setIfInBounds_toArray, List.set_cons_zero, List.set_cons_succ]
            refine wpAnyH_take (i := 12) (oi := { dst := some 74, op := _, type := _, pos := _, after := _, guard := _ }) (v := .pointer (some ⟨B, 7, none⟩)) rfl (by kernel_rfl) (by kernel_rfl) (by kernel_rfl) (fun _ _ _ h => h) (Or.inl ⟨by rfl, fun w hSw => by (try dsimp only at hSw); go_split_ands; go_simp⟩) (by assumption) ?_
            simp only [Act.put, List.setIfInBounds_toArray, List.set_cons_zero, List.set_cons_succ]
            have HX8 := hid (by have h := set_cell (o := 7) (x := .int .i64 (IntKind.i64.wrap (q7 + rise u t))) HXd.out; simpa using h : (c3.setCell ⟨B, 7, none⟩ (.int .i64 (IntKind.i64.wrap (q7 + rise u t)))).heap[B]? = some (.cells #[.int .i64 q0, .int .i64 q1, .int .i64 (wrap64 (q2 + t)), .int .i64 q3, .int .i64 t, .int .i64 q5, .int .i64 q6, .int .i64 (IntKind.i64.wrap (q7 + rise u t))] 33 (0, 0)))
            have HZ8 := hid (set_farB (o := 7) (u := .int .i64 (IntKind.i64.wrap (q7 + rise u t))) HZd.out (show B ≠ w.heap.size by omega))
            have HB8 := hid (HBd.out.setCell (p := ⟨B, 7, none⟩) (by simp only; omega) (.int .i64 (IntKind.i64.wrap (q7 + rise u t))))
            have HP8 := hid ((HB8.out.cell (p := ⟨b, off + j * 2 + 1, none⟩) hbl).trans (HPr.out j rfl))
            have HN8 := hid (set_farB (o := 7) (u := .int .i64 (IntKind.i64.wrap (q7 + rise u t))) HNd.out hAB)
            refine wpAnyH_ready (rs := [13]) (by kernel_rfl) (by simp) (AllReadyH.cons (o := { dst := none, op := _, type := _, pos := _, after := _, guard := _ }) rfl ?_ AllReadyH.nil)
            intro K3 hK3
            go_simp
            refine hK3.out _ _ ⟨HP8.out, cell_at HN8.out 1⟩ (fun _ => ?_)
            clear hK3 K3
            refine wpAnyH_done (by kernel_rfl) ?_ _
            generalize c3.setCell ⟨B, 7, none⟩ (.int .i64 (IntKind.i64.wrap (q7 + rise u t))) = V9 at *
            go_wp2
            go_roundw
            case rel => exact ⟨j + 1 + 1, by omega, by go_num, by unfold Hid; rw [HK.out]; have h := HX8.out; rw [w64 (q7 + rise u t)] at h; exact h, HZ8, HB8⟩
            case measure => simp [intOf]; omega
          · intro K2 hK2
            go_simp
            go_wp2_with (go_at_call 69; refine (f69 u t _).mono ?_; rintro e c3 ⟨rfl, hc3⟩; subst hc3)
            refine hK2.out _ _ hHeld (fun _ => ?_)
            clear hK2 K2
            refine wpAnyH_ready (rs := [1]) (by kernel_rfl) (by simp) (AllReadyH.cons (o := { dst := some 63, op := _, type := _, pos := _, after := _, guard := _ }) rfl ?_ AllReadyH.nil)
            intro K1 hK1
            go_simp
            refine hK1.out _ _ hHeld (fun _ => ?_)
            clear hK1 K1
            refine wpAnyH_take (i := 11) (oi := { dst := some 73, op := _, type := _, pos := _, after := _, guard := _ }) (v := .int .i64 (IntKind.i64.wrap (q7 + rise u t))) rfl (by kernel_rfl) (by kernel_rfl) (by kernel_rfl) (fun _ _ _ h => h) (Or.inl ⟨by rfl, fun w hSw => by (try dsimp only at hSw); go_split_ands; go_simp⟩) (by assumption) ?_
            simp only [Act.put, List.setIfInBounds_toArray, List.set_cons_zero, List.set_cons_succ]
            refine wpAnyH_take (i := 12) (oi := { dst := some 74, op := _, type := _, pos := _, after := _, guard := _ }) (v := .pointer (some ⟨B, 7, none⟩)) rfl (by kernel_rfl) (by kernel_rfl) (by kernel_rfl) (fun _ _ _ h => h) (Or.inl ⟨by rfl, fun w hSw => by (try dsimp only at hSw); go_split_ands; go_simp⟩) (by assumption) ?_
            simp only [Act.put, List.setIfInBounds_toArray, List.set_cons_zero, List.set_cons_succ]
            have HX8 := hid (by have h := set_cell (o := 7) (x := .int .i64 (IntKind.i64.wrap (q7 + rise u t))) HXd.out; simpa using h : (c3.setCell ⟨B, 7, none⟩ (.int .i64 (IntKind.i64.wrap (q7 + rise u t)))).heap[B]? = some (.cells #[.int .i64 q0, .int .i64 q1, .int .i64 (wrap64 (q2 + t)), .int .i64 q3, .int .i64 t, .int .i64 q5, .int .i64 q6, .int .i64 (IntKind.i64.wrap (q7 + rise u t))] 33 (0, 0)))
            have HZ8 := hid (set_farB (o := 7) (u := .int .i64 (IntKind.i64.wrap (q7 + rise u t))) HZd.out (show B ≠ w.heap.size by omega))
            have HB8 := hid (HBd.out.setCell (p := ⟨B, 7, none⟩) (by simp only; omega) (.int .i64 (IntKind.i64.wrap (q7 + rise u t))))
            have HP8 := hid ((HB8.out.cell (p := ⟨b, off + j * 2 + 1, none⟩) hbl).trans (HPr.out j rfl))
            have HN8 := hid (set_farB (o := 7) (u := .int .i64 (IntKind.i64.wrap (q7 + rise u t))) HNd.out hAB)
            refine wpAnyH_ready (rs := [13]) (by kernel_rfl) (by simp) (AllReadyH.cons (o := { dst := none, op := _, type := _, pos := _, after := _, guard := _ }) rfl ?_ AllReadyH.nil)
            intro K3 hK3
            go_simp
            refine hK3.out _ _ ⟨HP8.out, cell_at HN8.out 1⟩ (fun _ => ?_)
            clear hK3 K3
            refine wpAnyH_done (by kernel_rfl) ?_ _
            generalize c3.setCell ⟨B, 7, none⟩ (.int .i64 (IntKind.i64.wrap (q7 + rise u t))) = V9 at *
            go_wp2
            go_roundw
            case rel => exact ⟨j + 1 + 1, by omega, by go_num, by unfold Hid; rw [HK.out]; have h := HX8.out; rw [w64 (q7 + rise u t)] at h; exact h, HZ8, HB8⟩
            case measure => simp [intOf]; omega
      · have HXs := hid (by have h := (set_cell (o := 2) (x := (.int .i64 (wrap64 (q2 + t)))) HXa.out); simpa using h : (W1.setCell ⟨B, 2, none⟩ (.int .i64 (wrap64 (q2 + t)))).heap[B]? = some (.cells #[.int .i64 q0, .int .i64 q1, .int .i64 (wrap64 (q2 + t)), .int .i64 q3, .int .i64 q4, .int .i64 q5, .int .i64 q6, .int .i64 q7] 33 (0, 0)))
        have HZs := hid (set_farB (o := 2) (u := (.int .i64 (wrap64 (q2 + t)))) HZa.out (show B ≠ w.heap.size by omega))
        have HNs := hid (set_farB (o := 2) (u := (.int .i64 (wrap64 (q2 + t)))) HNa.out hAB)
        have HBs := hid (HBa.out.setCell (p := ⟨B, 2, none⟩) (by simp only; omega) (.int .i64 (wrap64 (q2 + t))))
        rw [if_neg h1, if_neg h2] at HK
        cases k with
        | zero =>
          rw [if_neg (by omega)] at HK
          go_wp2
          go_roundw
          case rel => exact ⟨1, by omega, by go_num, by unfold Hid; rw [HK.out]; exact HXs.out, HZs, HBs⟩
          case measure => simp [intOf]
        | succ j =>
          rw [if_pos (by omega)] at HK
          have HPc := hid ((HBs.out.cell (p := ⟨b, off + j * 2 + 1, none⟩) hbl).trans (HPr.out j rfl))
          have hwj : IntKind.i64.wrap (j : Int) = (j : Int) := by rw [IntKind.wrap_i64]; omega
          have hij : ¬ ((m : Int) + 1 ≤ (j : Int)) := by omega
          go_upto_region 11 with fail
          generalize (W1.setCell ⟨B, 2, none⟩ (.int .i64 (wrap64 (q2 + t)))) = V at *
          clear c0 c1 c2 c3 c4 c5 c6 c7 f2 f3 f4 f7 e0 e1
          have x0 : V.drew.cell? ⟨b, off + j * 2 + 1, none⟩ = some (.int .i64 u) := HPc.out
          have x1 : V.drew.cell? ⟨A, 1, none⟩ = some (.int .i64 t) := cell_at (w := V.drew) HNs.out 1
          have x2 : V.drew.cell? ⟨B, 7, none⟩ = some (.int .i64 q7) := cell_at (w := V.drew) HXs.out 7
          have x3 := froz_at (w := V.drew) HXs.out 7
          have HXd : Hid (V.drew.heap[B]? = some (.cells #[.int .i64 q0, .int .i64 q1, .int .i64 (wrap64 (q2 + t)), .int .i64 q3, .int .i64 q4, .int .i64 q5, .int .i64 q6, .int .i64 q7] 33 (0, 0))) := HXs.out
          have HZd : Hid (V.drew.heap[w.heap.size]? = some (.cells #[.int .i64 0, .int .i64 0, .int .i64 0, .int .i64 0, .int .i64 0, .int .i64 0, .int .i64 0, .int .i64 0] 33 (0, 0))) := HZs.out
          have HBd := hid HBs.out.drew
          have HNd : Hid (V.drew.heap[A]? = some (.cells #[.int .i64 s, .int .i64 t] 58 (0, 0))) := HNs.out
          refine wp_region_held_drew (S := fun x => x.cell? ⟨b, off + j * 2 + 1, none⟩ = some (.int .i64 u) ∧ x.cell? ⟨A, 1, none⟩ = some (.int .i64 t)) rfl ⟨x0, x1⟩ (fun hHeld => ?_)
          refine wpAnyH_take (i := 0) (oi := { dst := some 62, op := _, type := _, pos := _, after := _, guard := _ }) (v := .pointer (some ⟨B, 7, none⟩)) rfl (by kernel_rfl) (by kernel_rfl) (by kernel_rfl) (fun _ _ _ h => h) (Or.inl ⟨by rfl, fun w hSw => by (try dsimp only at hSw); go_split_ands; go_simp⟩) (by assumption) ?_
          simp only [Act.put, List.setIfInBounds_toArray, List.set_cons_zero, List.set_cons_succ]
          refine wpAnyH_take (i := 2) (oi := { dst := some 64, op := _, type := _, pos := _, after := _, guard := _ }) (v := .slice (some ⟨b, off, none⟩) (m + 1) c) rfl (by kernel_rfl) (by kernel_rfl) (by kernel_rfl) (fun _ _ _ h => h) (Or.inl ⟨by rfl, fun w hSw => by (try dsimp only at hSw); go_split_ands; go_simp⟩) (by assumption) ?_
          simp only [Act.put, List.setIfInBounds_toArray, List.set_cons_zero, List.set_cons_succ]
          refine wpAnyH_take (i := 3) (oi := { dst := some 65, op := _, type := _, pos := _, after := _, guard := _ }) (v := .int .i64 ((j : Int) + 1)) rfl (by kernel_rfl) (by kernel_rfl) (by kernel_rfl) (fun _ _ _ h => h) (Or.inl ⟨by rfl, fun w hSw => by (try dsimp only at hSw); go_split_ands; go_simp⟩) (by assumption) ?_
          simp only [Act.put, List.setIfInBounds_toArray, List.set_cons_zero, List.set_cons_succ]
          refine wpAnyH_take (i := 4) (oi := { dst := some 66, op := _, type := _, pos := _, after := _, guard := _ }) (v := .int .i64 (j : Int)) rfl (by kernel_rfl) (by kernel_rfl) (by kernel_rfl) (fun _ _ _ h => h) (Or.inl ⟨by rfl, fun w hSw => by (try dsimp only at hSw); go_split_ands; go_simp⟩) (by assumption) ?_
          simp only [Act.put, List.setIfInBounds_toArray, List.set_cons_zero, List.set_cons_succ]
          refine wpAnyH_take (i := 5) (oi := { dst := some 67, op := _, type := _, pos := _, after := _, guard := _ }) (v := .pointer (some ⟨b, off + j * 2, none⟩)) rfl (by kernel_rfl) (by kernel_rfl) (by kernel_rfl) (fun _ _ _ h => h) (Or.inl ⟨by rfl, fun w hSw => by (try dsimp only at hSw); go_split_ands; go_simp⟩) (by assumption) ?_
          simp only [Act.put, List.setIfInBounds_toArray, List.set_cons_zero, List.set_cons_succ]
          refine wpAnyH_take (i := 6) (oi := { dst := some 68, op := _, type := _, pos := _, after := _, guard := _ }) (v := .pointer (some ⟨b, off + j * 2 + 1, none⟩)) rfl (by kernel_rfl) (by kernel_rfl) (by kernel_rfl) (fun _ _ _ h => h) (Or.inl ⟨by rfl, fun w hSw => by (try dsimp only at hSw); go_split_ands; go_simp⟩) (by assumption) ?_
          simp only [Act.put, List.setIfInBounds_toArray, List.set_cons_zero, List.set_cons_succ]
          refine wpAnyH_take (i := 7) (oi := { dst := some 69, op := _, type := _, pos := _, after := _, guard := _ }) (v := .int .i64 u) rfl (by kernel_rfl) (by kernel_rfl) (by kernel_rfl) (fun _ _ _ h => h) (Or.inl ⟨by rfl, fun w hSw => by (try dsimp only at hSw); go_split_ands; go_simp⟩) (by assumption) ?_
          simp only [Act.put, List.setIfInBounds_toArray, List.set_cons_zero, List.set_cons_succ]
          refine wpAnyH_take (i := 8) (oi := { dst := some 70, op := _, type := _, pos := _, after := _, guard := _ }) (v := .pointer (some ⟨A, 1, none⟩)) rfl (by kernel_rfl) (by kernel_rfl) (by kernel_rfl) (fun _ _ _ h => h) (Or.inl ⟨by rfl, fun w hSw => by (try dsimp only at hSw); go_split_ands; go_simp⟩) (by assumption) ?_
          simp only [Act.put, List.setIfInBounds_toArray, List.set_cons_zero, List.set_cons_succ]
          refine wpAnyH_take (i := 9) (oi := { dst := some 71, op := _, type := _, pos := _, after := _, guard := _ }) (v := .int .i64 t) rfl (by kernel_rfl) (by kernel_rfl) (by kernel_rfl) (fun _ _ _ h => h) (Or.inl ⟨by rfl, fun w hSw => by (try dsimp only at hSw); go_split_ands; go_simp⟩) (by assumption) ?_
          simp only [Act.put, List.setIfInBounds_toArray, List.set_cons_zero, List.set_cons_succ]
          generalize V.drew = d2 at *
          refine wpAnyH_ready (rs := [1, 10]) (by kernel_rfl) (by simp) (AllReadyH.cons (o := { dst := some 63, op := _, type := _, pos := _, after := _, guard := _ }) rfl ?_ (AllReadyH.cons (o := { dst := some 72, op := _, type := _, pos := _, after := _, guard := _ }) rfl ?_ AllReadyH.nil))
          · intro K1 hK1
            go_simp
            refine hK1.out _ _ hHeld (fun _ => ?_)
            clear hK1 K1
            refine wpAnyH_ready (rs := [10]) (by kernel_rfl) (by simp) (AllReadyH.cons (o := { dst := some 72, op := _, type := _, pos := _, after := _, guard := _ }) rfl ?_ AllReadyH.nil)
            intro K2 hK2
            go_simp
            go_wp2_with (go_at_call 69; refine (f69 u t _).mono ?_; rintro e c3 ⟨rfl, hc3⟩; subst hc3)
            refine hK2.out _ _ hHeld (fun _ => ?_)
            clear hK2 K2
            refine wpAnyH_take (i := 11) (oi := { dst := some 73, op := _, type := _, pos := _, after := _, guard := _ }) (v := .int .i64 (IntKind.i64.wrap (q7 + rise u t))) rfl (by kernel_rfl) (by kernel_rfl) (by kernel_rfl) (fun _ _ _ h => h) (Or.inl ⟨by rfl, fun w hSw => by (try dsimp only at hSw); go_split_ands; go_simp⟩) (by assumption) ?_
            simp only [Act.put, List.setIfInBounds_toArray, List.set_cons_zero, List.set_cons_succ]
            refine wpAnyH_take (i := 12) (oi := { dst := some 74, op := _, type := _, pos := _, after := _, guard := _ }) (v := .pointer (some ⟨B, 7, none⟩)) rfl (by kernel_rfl) (by kernel_rfl) (by kernel_rfl) (fun _ _ _ h => h) (Or.inl ⟨by rfl, fun w hSw => by (try dsimp only at hSw); go_split_ands; go_simp⟩) (by assumption) ?_
            simp only [Act.put, List.setIfInBounds_toArray, List.set_cons_zero, List.set_cons_succ]
            have HX8 := hid (by have h := set_cell (o := 7) (x := .int .i64 (IntKind.i64.wrap (q7 + rise u t))) HXd.out; simpa using h : (c3.setCell ⟨B, 7, none⟩ (.int .i64 (IntKind.i64.wrap (q7 + rise u t)))).heap[B]? = some (.cells #[.int .i64 q0, .int .i64 q1, .int .i64 (wrap64 (q2 + t)), .int .i64 q3, .int .i64 q4, .int .i64 q5, .int .i64 q6, .int .i64 (IntKind.i64.wrap (q7 + rise u t))] 33 (0, 0)))
            have HZ8 := hid (set_farB (o := 7) (u := .int .i64 (IntKind.i64.wrap (q7 + rise u t))) HZd.out (show B ≠ w.heap.size by omega))
            have HB8 := hid (HBd.out.setCell (p := ⟨B, 7, none⟩) (by simp only; omega) (.int .i64 (IntKind.i64.wrap (q7 + rise u t))))
            have HP8 := hid ((HB8.out.cell (p := ⟨b, off + j * 2 + 1, none⟩) hbl).trans (HPr.out j rfl))
            have HN8 := hid (set_farB (o := 7) (u := .int .i64 (IntKind.i64.wrap (q7 + rise u t))) HNd.out hAB)
            refine wpAnyH_ready (rs := [13]) (by kernel_rfl) (by simp) (AllReadyH.cons (o := { dst := none, op := _, type := _, pos := _, after := _, guard := _ }) rfl ?_ AllReadyH.nil)
            intro K3 hK3
            go_simp
            refine hK3.out _ _ ⟨HP8.out, cell_at HN8.out 1⟩ (fun _ => ?_)
            clear hK3 K3
            refine wpAnyH_done (by kernel_rfl) ?_ _
            generalize c3.setCell ⟨B, 7, none⟩ (.int .i64 (IntKind.i64.wrap (q7 + rise u t))) = V9 at *
            go_wp2
            go_roundw
            case rel => exact ⟨j + 1 + 1, by omega, by go_num, by unfold Hid; rw [HK.out]; have h := HX8.out; rw [w64 (q7 + rise u t)] at h; exact h, HZ8, HB8⟩
            case measure => simp [intOf]; omega
          · intro K2 hK2
            go_simp
            go_wp2_with (go_at_call 69; refine (f69 u t _).mono ?_; rintro e c3 ⟨rfl, hc3⟩; subst hc3)
            refine hK2.out _ _ hHeld (fun _ => ?_)
            clear hK2 K2
            refine wpAnyH_ready (rs := [1]) (by kernel_rfl) (by simp) (AllReadyH.cons (o := { dst := some 63, op := _, type := _, pos := _, after := _, guard := _ }) rfl ?_ AllReadyH.nil)
            intro K1 hK1
            go_simp
            refine hK1.out _ _ hHeld (fun _ => ?_)
            clear hK1 K1
            refine wpAnyH_take (i := 11) (oi := { dst := some 73, op := _, type := _, pos := _, after := _, guard := _ }) (v := .int .i64 (IntKind.i64.wrap (q7 + rise u t))) rfl (by kernel_rfl) (by kernel_rfl) (by kernel_rfl) (fun _ _ _ h => h) (Or.inl ⟨by rfl, fun w hSw => by (try dsimp only at hSw); go_split_ands; go_simp⟩) (by assumption) ?_
            simp only [Act.put, List.setIfInBounds_toArray, List.set_cons_zero, List.set_cons_succ]
            refine wpAnyH_take (i := 12) (oi := { dst := some 74, op := _, type := _, pos := _, after := _, guard := _ }) (v := .pointer (some ⟨B, 7, none⟩)) rfl (by kernel_rfl) (by kernel_rfl) (by kernel_rfl) (fun _ _ _ h => h) (Or.inl ⟨by rfl, fun w hSw => by (try dsimp only at hSw); go_split_ands; go_simp⟩) (by assumption) ?_
            simp only [Act.put, List.setIfInBounds_toArray, List.set_cons_zero, List.set_cons_succ]
            have HX8 := hid (by have h := set_cell (o := 7) (x := .int .i64 (IntKind.i64.wrap (q7 + rise u t))) HXd.out; simpa using h : (c3.setCell ⟨B, 7, none⟩ (.int .i64 (IntKind.i64.wrap (q7 + rise u t)))).heap[B]? = some (.cells #[.int .i64 q0, .int .i64 q1, .int .i64 (wrap64 (q2 + t)), .int .i64 q3, .int .i64 q4, .int .i64 q5, .int .i64 q6, .int .i64 (IntKind.i64.wrap (q7 + rise u t))] 33 (0, 0)))
            have HZ8 := hid (set_farB (o := 7) (u := .int .i64 (IntKind.i64.wrap (q7 + rise u t))) HZd.out (show B ≠ w.heap.size by omega))
            have HB8 := hid (HBd.out.setCell (p := ⟨B, 7, none⟩) (by simp only; omega) (.int .i64 (IntKind.i64.wrap (q7 + rise u t))))
            have HP8 := hid ((HB8.out.cell (p := ⟨b, off + j * 2 + 1, none⟩) hbl).trans (HPr.out j rfl))
            have HN8 := hid (set_farB (o := 7) (u := .int .i64 (IntKind.i64.wrap (q7 + rise u t))) HNd.out hAB)
            refine wpAnyH_ready (rs := [13]) (by kernel_rfl) (by simp) (AllReadyH.cons (o := { dst := none, op := _, type := _, pos := _, after := _, guard := _ }) rfl ?_ AllReadyH.nil)
            intro K3 hK3
            go_simp
            refine hK3.out _ _ ⟨HP8.out, cell_at HN8.out 1⟩ (fun _ => ?_)
            clear hK3 K3
            refine wpAnyH_done (by kernel_rfl) ?_ _
            generalize c3.setCell ⟨B, 7, none⟩ (.int .i64 (IntKind.i64.wrap (q7 + rise u t))) = V9 at *
            go_wp2
            go_roundw
            case rel => exact ⟨j + 1 + 1, by omega, by go_num, by unfold Hid; rw [HK.out]; have h := HX8.out; rw [w64 (q7 + rise u t)] at h; exact h, HZ8, HB8⟩
            case measure => simp [intOf]; omega
end Go.Proofs.Ytpbnneelpdacdaa.Agl
