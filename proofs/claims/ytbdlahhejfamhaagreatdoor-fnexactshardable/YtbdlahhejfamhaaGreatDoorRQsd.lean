/- The program: what goes by series, whole; what shards can be asked. -/
import Derived.Test.YtbdlahhejfamhaaGreatDoorRS1
import Derived.Test.YtbdlahhejfamhaaGreatDoorRL2
import Derived.Test.YtbdlahhejfamhaaGreatDoorRC3
namespace Go.Proofs.YtbdlahhejfamhaaGreatDoor.Qry
open Go.RowKit

set_option maxHeartbeats 8000000 in
set_option maxRecDepth 100000 in
theorem bo_tt (q : R) (tt : TypeId) (x : Value) (uu : TypeId) (y : Value) (c0 b1 : Bool) (RR : Bool) (k : Nat) (w : World) (hop : q.op = k) (hk1 : 1 ≤ k) (hk2 : k ≤ 14) (ht : Tabs w) (hRR : (decide (k ≤ 11 ∧ q.byy = 0) && (c0 && b1 || true && true)) = RR)
    (hc0 : ∀ wy, Below w.heap.size w wy → Calls Tryz.prog 112 #[.iface tt x] wy fun e w' => (∃ z, e = .returned (.tuple #[.int .i64 z, .bool c0])) ∧ Below wy.heap.size wy w')
    (hc1 : ∀ wy, Below w.heap.size w wy → Calls Tryz.prog 112 #[.iface uu y] wy fun e w' => (∃ z, e = .returned (.tuple #[.int .i64 z, .bool true])) ∧ Below wy.heap.size wy w')
    (hl : ∀ wy, Below w.heap.size w wy → Calls Tryz.prog 88 #[.iface tt x] wy fun e w' => e = .returned (.bool true) ∧ Below wy.heap.size wy w')
    (hr : ∀ wy, Below w.heap.size w wy → Calls Tryz.prog 88 #[.iface uu y] wy fun e w' => e = .returned (.bool b1) ∧ Below wy.heap.size wy w') :
    Calls Tryz.prog 88 #[vopNode q (.iface tt x) (.iface uu y)] w fun e w' => e = .returned (.bool RR) ∧ Below w.heap.size w w' := by
  have ty0 := ty_op_sel
  have ty1 := ty_op_neg
  have ty2 := ty_op_op
  obtain ⟨kd, nu, st, tx, op, ms, ma, mc, off, fx, att, bo, byy, ns, na, nc, sd, es, ea, ec, kc⟩ := q
  simp only at hop hRR
  subst hop
  have HG : Hid (∀ v, Below w.heap.size w v → v.cell? ⟨1, k * 2 + 1, none⟩ = some (.int .i64 (bd k))) := fun v hv => tabOp_at (ht.below hv).op k (by omega)
  have hbd := (bd_facts k hk1 hk2).2
  have HC0 := hid hc0
  have HC1 := hid hc1
  have HL := hid hl
  have HR := hid hr
  have i1 : (k : Int) < 15 := by omega
  clear hc0 hc1 hl hr ht
  have hq : (c0 && b1 || true && true) = true := by simp
  rw [hq, Bool.and_true] at hRR
  have HRR := hid hRR
  have HBD := hid hbd
  clear hq hRR hbd
  generalize bd k = bk at *
  obtain ⟨X, hX⟩ : ∃ X, X = w.alloc (.cells #[.int .i64 kd, .int .i64 nu, .int .i64 st, .string tx, .int .i64 k, .slice ma ms.length mc, .int .i64 off, .bool fx, .int .i64 att, .bool bo, .int .i64 byy, .slice na ns.length nc, .int .i64 sd, .slice ea es.length ec, .int .i64 kc, .iface tt x, .iface uu y] 120) := ⟨_, rfl⟩
  have hXB : Below w.heap.size w X := by rw [hX]; exact (Below.refl _ _).alloc (Nat.le_refl _) _
  have hXN : X.heap[w.heap.size]? = some (.cells #[.int .i64 kd, .int .i64 nu, .int .i64 st, .string tx, .int .i64 k, .slice ma ms.length mc, .int .i64 off, .bool fx, .int .i64 att, .bool bo, .int .i64 byy, .slice na ns.length nc, .int .i64 sd, .slice ea es.length ec, .int .i64 kc, .iface tt x, .iface uu y] 120) := by rw [hX]; exact heap_alloc_new _ _
  have x15 := box_at hXN 15 (.iface tt x) rfl
  have HBX := hid hXB
  have HXN := hid hXN
  have HXX := hid hX
  clear hX hXB hXN
  simp only [vopNode]
  go_enter Tryz.func88, Tryz.ntmps88
  go_upto_region 10 with fail
  rw [← HXX.out]
  clear HXX
  go_wp2_with fail
  refine (HC0.out _ HBX.out).mono ?_
  rintro e w1 ⟨⟨z0, rfl⟩, hb1⟩
  have HB1 := hid (HBX.out.trans (hb1.mono HBX.out.size))
  have HN1 := hid (kept HXN.out hb1)
  have x16 := box_at HN1.out 16 (.iface uu y) rfl
  clear hb1
  go_wp2_with fail
  refine (HC1.out _ HB1.out).mono ?_
  rintro e w2 ⟨⟨z1, rfl⟩, hb2⟩
  have HB2 := hid (HB1.out.trans (hb2.mono HB1.out.size))
  have HN2 := hid (kept HN1.out hb2)
  clear hb2
  go_upto_region 12 with fail
  have u15_2 := box_at HN2.out 15 (.iface tt x) rfl; have u16_2 := box_at HN2.out 16 (.iface uu y) rfl; have u4_2 := box_at HN2.out 4 (.int .i64 k) rfl; have u10_2 := box_at HN2.out 10 (.int .i64 byy) rfl; have g_2 := HG.out _ HB2.out
  go_wp2_with fail
  refine (HL.out _ HB2.out).mono ?_
  rintro e w3 ⟨rfl, hb3⟩
  have HB3 := hid (HB2.out.trans (hb3.mono HB2.out.size))
  have HN3 := hid (kept HN2.out hb3)
  have u15_3 := box_at HN3.out 15 (.iface tt x) rfl
  have u16_3 := box_at HN3.out 16 (.iface uu y) rfl
  have u4_3 := box_at HN3.out 4 (.int .i64 k) rfl
  have u10_3 := box_at HN3.out 10 (.int .i64 byy) rfl
  have g_3 := HG.out _ HB3.out
  clear hb3
  go_upto_region 13 with fail
  by_cases h0 : byy = 0
  · have e0 : (byy == 0) = true := by simpa using h0
    by_cases h3 : 3 ≤ bk
    · obtain rfl : RR = true := by rw [← HRR.out]; exact decide_eq_true ⟨HBD.out.1 h3, h0⟩
      clear h0 HRR
      go_wp2
      go_ret
      exact ⟨rfl, HB3.out⟩
    · obtain rfl : RR = false := by rw [← HRR.out]; exact decide_eq_false (fun h => h3 (HBD.out.2 h.1))
      clear h0 HRR
      go_wp2
      go_ret
      exact ⟨rfl, HB3.out⟩
  · obtain rfl : RR = false := by rw [← HRR.out]; exact decide_eq_false (fun h => h0 h.2)
    have e0 : (byy == 0) = false := by simpa using h0
    clear HRR h0
    go_wp2
    go_ret
    exact ⟨rfl, HB3.out⟩
set_option maxHeartbeats 8000000 in
set_option maxRecDepth 100000 in
theorem bo_tf (q : R) (tt : TypeId) (x : Value) (uu : TypeId) (y : Value) (RR : Bool) (k : Nat) (w : World) (hop : q.op = k) (hk1 : 1 ≤ k) (hk2 : k ≤ 14) (ht : Tabs w) (hRR : (decide (k ≤ 11 ∧ q.byy = 0) && (true && true || true && false)) = RR)
    (hc0 : ∀ wy, Below w.heap.size w wy → Calls Tryz.prog 112 #[.iface tt x] wy fun e w' => (∃ z, e = .returned (.tuple #[.int .i64 z, .bool true])) ∧ Below wy.heap.size wy w')
    (hc1 : ∀ wy, Below w.heap.size w wy → Calls Tryz.prog 112 #[.iface uu y] wy fun e w' => (∃ z, e = .returned (.tuple #[.int .i64 z, .bool true])) ∧ Below wy.heap.size wy w')
    (hl : ∀ wy, Below w.heap.size w wy → Calls Tryz.prog 88 #[.iface tt x] wy fun e w' => e = .returned (.bool false) ∧ Below wy.heap.size wy w')
    (hr : ∀ wy, Below w.heap.size w wy → Calls Tryz.prog 88 #[.iface uu y] wy fun e w' => e = .returned (.bool true) ∧ Below wy.heap.size wy w') :
    Calls Tryz.prog 88 #[vopNode q (.iface tt x) (.iface uu y)] w fun e w' => e = .returned (.bool RR) ∧ Below w.heap.size w w' := by
  have ty0 := ty_op_sel
  have ty1 := ty_op_neg
  have ty2 := ty_op_op
  obtain ⟨kd, nu, st, tx, op, ms, ma, mc, off, fx, att, bo, byy, ns, na, nc, sd, es, ea, ec, kc⟩ := q
  simp only at hop hRR
  subst hop
  have HG : Hid (∀ v, Below w.heap.size w v → v.cell? ⟨1, k * 2 + 1, none⟩ = some (.int .i64 (bd k))) := fun v hv => tabOp_at (ht.below hv).op k (by omega)
  have hbd := (bd_facts k hk1 hk2).2
  have HC0 := hid hc0
  have HC1 := hid hc1
  have HL := hid hl
  have HR := hid hr
  have i1 : (k : Int) < 15 := by omega
  clear hc0 hc1 hl hr ht
  have hq : (true && true || true && false) = true := by simp
  rw [hq, Bool.and_true] at hRR
  have HRR := hid hRR
  have HBD := hid hbd
  clear hq hRR hbd
  generalize bd k = bk at *
  obtain ⟨X, hX⟩ : ∃ X, X = w.alloc (.cells #[.int .i64 kd, .int .i64 nu, .int .i64 st, .string tx, .int .i64 k, .slice ma ms.length mc, .int .i64 off, .bool fx, .int .i64 att, .bool bo, .int .i64 byy, .slice na ns.length nc, .int .i64 sd, .slice ea es.length ec, .int .i64 kc, .iface tt x, .iface uu y] 120) := ⟨_, rfl⟩
  have hXB : Below w.heap.size w X := by rw [hX]; exact (Below.refl _ _).alloc (Nat.le_refl _) _
  have hXN : X.heap[w.heap.size]? = some (.cells #[.int .i64 kd, .int .i64 nu, .int .i64 st, .string tx, .int .i64 k, .slice ma ms.length mc, .int .i64 off, .bool fx, .int .i64 att, .bool bo, .int .i64 byy, .slice na ns.length nc, .int .i64 sd, .slice ea es.length ec, .int .i64 kc, .iface tt x, .iface uu y] 120) := by rw [hX]; exact heap_alloc_new _ _
  have x15 := box_at hXN 15 (.iface tt x) rfl
  have HBX := hid hXB
  have HXN := hid hXN
  have HXX := hid hX
  clear hX hXB hXN
  simp only [vopNode]
  go_enter Tryz.func88, Tryz.ntmps88
  go_upto_region 10 with fail
  rw [← HXX.out]
  clear HXX
  go_wp2_with fail
  refine (HC0.out _ HBX.out).mono ?_
  rintro e w1 ⟨⟨z0, rfl⟩, hb1⟩
  have HB1 := hid (HBX.out.trans (hb1.mono HBX.out.size))
  have HN1 := hid (kept HXN.out hb1)
  have x16 := box_at HN1.out 16 (.iface uu y) rfl
  clear hb1
  go_wp2_with fail
  refine (HC1.out _ HB1.out).mono ?_
  rintro e w2 ⟨⟨z1, rfl⟩, hb2⟩
  have HB2 := hid (HB1.out.trans (hb2.mono HB1.out.size))
  have HN2 := hid (kept HN1.out hb2)
  clear hb2
  go_upto_region 12 with fail
  have u15_2 := box_at HN2.out 15 (.iface tt x) rfl; have u16_2 := box_at HN2.out 16 (.iface uu y) rfl; have u4_2 := box_at HN2.out 4 (.int .i64 k) rfl; have u10_2 := box_at HN2.out 10 (.int .i64 byy) rfl; have g_2 := HG.out _ HB2.out
  go_wp2_with fail
  refine (HL.out _ HB2.out).mono ?_
  rintro e w3 ⟨rfl, hb3⟩
  have HB3 := hid (HB2.out.trans (hb3.mono HB2.out.size))
  have HN3 := hid (kept HN2.out hb3)
  have u15_3 := box_at HN3.out 15 (.iface tt x) rfl
  have u16_3 := box_at HN3.out 16 (.iface uu y) rfl
  have u4_3 := box_at HN3.out 4 (.int .i64 k) rfl
  have u10_3 := box_at HN3.out 10 (.int .i64 byy) rfl
  have g_3 := HG.out _ HB3.out
  clear hb3
  go_wp2_with fail
  refine (HR.out _ HB3.out).mono ?_
  rintro e w4 ⟨rfl, hb4⟩
  have HB4 := hid (HB3.out.trans (hb4.mono HB3.out.size))
  have HN4 := hid (kept HN3.out hb4)
  have u15_4 := box_at HN4.out 15 (.iface tt x) rfl
  have u16_4 := box_at HN4.out 16 (.iface uu y) rfl
  have u4_4 := box_at HN4.out 4 (.int .i64 k) rfl
  have u10_4 := box_at HN4.out 10 (.int .i64 byy) rfl
  have g_4 := HG.out _ HB4.out
  clear hb4
  go_upto_region 13 with fail
  by_cases h0 : byy = 0
  · have e0 : (byy == 0) = true := by simpa using h0
    by_cases h3 : 3 ≤ bk
    · obtain rfl : RR = true := by rw [← HRR.out]; exact decide_eq_true ⟨HBD.out.1 h3, h0⟩
      clear h0 HRR
      go_wp2
      go_ret
      exact ⟨rfl, HB4.out⟩
    · obtain rfl : RR = false := by rw [← HRR.out]; exact decide_eq_false (fun h => h3 (HBD.out.2 h.1))
      clear h0 HRR
      go_wp2
      go_ret
      exact ⟨rfl, HB4.out⟩
  · obtain rfl : RR = false := by rw [← HRR.out]; exact decide_eq_false (fun h => h0 h.2)
    have e0 : (byy == 0) = false := by simpa using h0
    clear HRR h0
    go_wp2
    go_ret
    exact ⟨rfl, HB4.out⟩
set_option maxHeartbeats 8000000 in
set_option maxRecDepth 100000 in
theorem bo_ff (q : R) (tt : TypeId) (x : Value) (uu : TypeId) (y : Value) (RR : Bool) (k : Nat) (w : World) (hop : q.op = k) (hk1 : 1 ≤ k) (hk2 : k ≤ 14) (ht : Tabs w) (hRR : (decide (k ≤ 11 ∧ q.byy = 0) && (true && false || true && false)) = RR)
    (hc0 : ∀ wy, Below w.heap.size w wy → Calls Tryz.prog 112 #[.iface tt x] wy fun e w' => (∃ z, e = .returned (.tuple #[.int .i64 z, .bool true])) ∧ Below wy.heap.size wy w')
    (hc1 : ∀ wy, Below w.heap.size w wy → Calls Tryz.prog 112 #[.iface uu y] wy fun e w' => (∃ z, e = .returned (.tuple #[.int .i64 z, .bool true])) ∧ Below wy.heap.size wy w')
    (hl : ∀ wy, Below w.heap.size w wy → Calls Tryz.prog 88 #[.iface tt x] wy fun e w' => e = .returned (.bool false) ∧ Below wy.heap.size wy w')
    (hr : ∀ wy, Below w.heap.size w wy → Calls Tryz.prog 88 #[.iface uu y] wy fun e w' => e = .returned (.bool false) ∧ Below wy.heap.size wy w') :
    Calls Tryz.prog 88 #[vopNode q (.iface tt x) (.iface uu y)] w fun e w' => e = .returned (.bool RR) ∧ Below w.heap.size w w' := by
  have ty0 := ty_op_sel
  have ty1 := ty_op_neg
  have ty2 := ty_op_op
  obtain ⟨kd, nu, st, tx, op, ms, ma, mc, off, fx, att, bo, byy, ns, na, nc, sd, es, ea, ec, kc⟩ := q
  simp only at hop hRR
  subst hop
  have HG : Hid (∀ v, Below w.heap.size w v → v.cell? ⟨1, k * 2 + 1, none⟩ = some (.int .i64 (bd k))) := fun v hv => tabOp_at (ht.below hv).op k (by omega)
  have hbd := (bd_facts k hk1 hk2).2
  have HC0 := hid hc0
  have HC1 := hid hc1
  have HL := hid hl
  have HR := hid hr
  have i1 : (k : Int) < 15 := by omega
  clear hc0 hc1 hl hr ht
  obtain rfl : RR = false := by rw [← hRR]; simp
  clear hRR hbd
  obtain ⟨X, hX⟩ : ∃ X, X = w.alloc (.cells #[.int .i64 kd, .int .i64 nu, .int .i64 st, .string tx, .int .i64 k, .slice ma ms.length mc, .int .i64 off, .bool fx, .int .i64 att, .bool bo, .int .i64 byy, .slice na ns.length nc, .int .i64 sd, .slice ea es.length ec, .int .i64 kc, .iface tt x, .iface uu y] 120) := ⟨_, rfl⟩
  have hXB : Below w.heap.size w X := by rw [hX]; exact (Below.refl _ _).alloc (Nat.le_refl _) _
  have hXN : X.heap[w.heap.size]? = some (.cells #[.int .i64 kd, .int .i64 nu, .int .i64 st, .string tx, .int .i64 k, .slice ma ms.length mc, .int .i64 off, .bool fx, .int .i64 att, .bool bo, .int .i64 byy, .slice na ns.length nc, .int .i64 sd, .slice ea es.length ec, .int .i64 kc, .iface tt x, .iface uu y] 120) := by rw [hX]; exact heap_alloc_new _ _
  have x15 := box_at hXN 15 (.iface tt x) rfl
  have HBX := hid hXB
  have HXN := hid hXN
  have HXX := hid hX
  clear hX hXB hXN
  simp only [vopNode]
  go_enter Tryz.func88, Tryz.ntmps88
  go_upto_region 10 with fail
  rw [← HXX.out]
  clear HXX
  go_wp2_with fail
  refine (HC0.out _ HBX.out).mono ?_
  rintro e w1 ⟨⟨z0, rfl⟩, hb1⟩
  have HB1 := hid (HBX.out.trans (hb1.mono HBX.out.size))
  have HN1 := hid (kept HXN.out hb1)
  have x16 := box_at HN1.out 16 (.iface uu y) rfl
  clear hb1
  go_wp2_with fail
  refine (HC1.out _ HB1.out).mono ?_
  rintro e w2 ⟨⟨z1, rfl⟩, hb2⟩
  have HB2 := hid (HB1.out.trans (hb2.mono HB1.out.size))
  have HN2 := hid (kept HN1.out hb2)
  clear hb2
  go_upto_region 12 with fail
  have u15_2 := box_at HN2.out 15 (.iface tt x) rfl; have u16_2 := box_at HN2.out 16 (.iface uu y) rfl; have u4_2 := box_at HN2.out 4 (.int .i64 k) rfl; have u10_2 := box_at HN2.out 10 (.int .i64 byy) rfl; have g_2 := HG.out _ HB2.out
  go_wp2_with fail
  refine (HL.out _ HB2.out).mono ?_
  rintro e w3 ⟨rfl, hb3⟩
  have HB3 := hid (HB2.out.trans (hb3.mono HB2.out.size))
  have HN3 := hid (kept HN2.out hb3)
  have u15_3 := box_at HN3.out 15 (.iface tt x) rfl
  have u16_3 := box_at HN3.out 16 (.iface uu y) rfl
  have u4_3 := box_at HN3.out 4 (.int .i64 k) rfl
  have u10_3 := box_at HN3.out 10 (.int .i64 byy) rfl
  have g_3 := HG.out _ HB3.out
  clear hb3
  go_wp2_with fail
  refine (HR.out _ HB3.out).mono ?_
  rintro e w4 ⟨rfl, hb4⟩
  have HB4 := hid (HB3.out.trans (hb4.mono HB3.out.size))
  have HN4 := hid (kept HN3.out hb4)
  have u15_4 := box_at HN4.out 15 (.iface tt x) rfl
  have u16_4 := box_at HN4.out 16 (.iface uu y) rfl
  have u4_4 := box_at HN4.out 4 (.int .i64 k) rfl
  have u10_4 := box_at HN4.out 10 (.int .i64 byy) rfl
  have g_4 := HG.out _ HB4.out
  clear hb4
  go_wp2
  go_ret
  exact ⟨rfl, HB4.out⟩
set_option maxHeartbeats 8000000 in
set_option maxRecDepth 100000 in
theorem bo_f (q : R) (tt : TypeId) (x : Value) (uu : TypeId) (y : Value) (b1 : Bool) (RR : Bool) (k : Nat) (w : World) (hop : q.op = k) (hk1 : 1 ≤ k) (hk2 : k ≤ 14) (ht : Tabs w) (hRR : (decide (k ≤ 11 ∧ q.byy = 0) && (false && b1 || true && false)) = RR)
    (hc0 : ∀ wy, Below w.heap.size w wy → Calls Tryz.prog 112 #[.iface tt x] wy fun e w' => (∃ z, e = .returned (.tuple #[.int .i64 z, .bool false])) ∧ Below wy.heap.size wy w')
    (hc1 : ∀ wy, Below w.heap.size w wy → Calls Tryz.prog 112 #[.iface uu y] wy fun e w' => (∃ z, e = .returned (.tuple #[.int .i64 z, .bool true])) ∧ Below wy.heap.size wy w')
    (hl : ∀ wy, Below w.heap.size w wy → Calls Tryz.prog 88 #[.iface tt x] wy fun e w' => e = .returned (.bool false) ∧ Below wy.heap.size wy w')
    (hr : ∀ wy, Below w.heap.size w wy → Calls Tryz.prog 88 #[.iface uu y] wy fun e w' => e = .returned (.bool b1) ∧ Below wy.heap.size wy w') :
    Calls Tryz.prog 88 #[vopNode q (.iface tt x) (.iface uu y)] w fun e w' => e = .returned (.bool RR) ∧ Below w.heap.size w w' := by
  have ty0 := ty_op_sel
  have ty1 := ty_op_neg
  have ty2 := ty_op_op
  obtain ⟨kd, nu, st, tx, op, ms, ma, mc, off, fx, att, bo, byy, ns, na, nc, sd, es, ea, ec, kc⟩ := q
  simp only at hop hRR
  subst hop
  have HG : Hid (∀ v, Below w.heap.size w v → v.cell? ⟨1, k * 2 + 1, none⟩ = some (.int .i64 (bd k))) := fun v hv => tabOp_at (ht.below hv).op k (by omega)
  have hbd := (bd_facts k hk1 hk2).2
  have HC0 := hid hc0
  have HC1 := hid hc1
  have HL := hid hl
  have HR := hid hr
  have i1 : (k : Int) < 15 := by omega
  clear hc0 hc1 hl hr ht
  obtain rfl : RR = false := by rw [← hRR]; simp
  clear hRR hbd
  obtain ⟨X, hX⟩ : ∃ X, X = w.alloc (.cells #[.int .i64 kd, .int .i64 nu, .int .i64 st, .string tx, .int .i64 k, .slice ma ms.length mc, .int .i64 off, .bool fx, .int .i64 att, .bool bo, .int .i64 byy, .slice na ns.length nc, .int .i64 sd, .slice ea es.length ec, .int .i64 kc, .iface tt x, .iface uu y] 120) := ⟨_, rfl⟩
  have hXB : Below w.heap.size w X := by rw [hX]; exact (Below.refl _ _).alloc (Nat.le_refl _) _
  have hXN : X.heap[w.heap.size]? = some (.cells #[.int .i64 kd, .int .i64 nu, .int .i64 st, .string tx, .int .i64 k, .slice ma ms.length mc, .int .i64 off, .bool fx, .int .i64 att, .bool bo, .int .i64 byy, .slice na ns.length nc, .int .i64 sd, .slice ea es.length ec, .int .i64 kc, .iface tt x, .iface uu y] 120) := by rw [hX]; exact heap_alloc_new _ _
  have x15 := box_at hXN 15 (.iface tt x) rfl
  have HBX := hid hXB
  have HXN := hid hXN
  have HXX := hid hX
  clear hX hXB hXN
  simp only [vopNode]
  go_enter Tryz.func88, Tryz.ntmps88
  go_upto_region 10 with fail
  rw [← HXX.out]
  clear HXX
  go_wp2_with fail
  refine (HC0.out _ HBX.out).mono ?_
  rintro e w1 ⟨⟨z0, rfl⟩, hb1⟩
  have HB1 := hid (HBX.out.trans (hb1.mono HBX.out.size))
  have HN1 := hid (kept HXN.out hb1)
  have x16 := box_at HN1.out 16 (.iface uu y) rfl
  clear hb1
  go_wp2_with fail
  refine (HC1.out _ HB1.out).mono ?_
  rintro e w2 ⟨⟨z1, rfl⟩, hb2⟩
  have HB2 := hid (HB1.out.trans (hb2.mono HB1.out.size))
  have HN2 := hid (kept HN1.out hb2)
  clear hb2
  go_upto_region 12 with fail
  have u15_2 := box_at HN2.out 15 (.iface tt x) rfl; have u16_2 := box_at HN2.out 16 (.iface uu y) rfl; have u4_2 := box_at HN2.out 4 (.int .i64 k) rfl; have u10_2 := box_at HN2.out 10 (.int .i64 byy) rfl; have g_2 := HG.out _ HB2.out
  go_wp2_with fail
  refine (HL.out _ HB2.out).mono ?_
  rintro e w3 ⟨rfl, hb3⟩
  have HB3 := hid (HB2.out.trans (hb3.mono HB2.out.size))
  have HN3 := hid (kept HN2.out hb3)
  have u15_3 := box_at HN3.out 15 (.iface tt x) rfl
  have u16_3 := box_at HN3.out 16 (.iface uu y) rfl
  have u4_3 := box_at HN3.out 4 (.int .i64 k) rfl
  have u10_3 := box_at HN3.out 10 (.int .i64 byy) rfl
  have g_3 := HG.out _ HB3.out
  clear hb3
  go_wp2
  go_ret
  exact ⟨rfl, HB3.out⟩
set_option maxHeartbeats 8000000 in
set_option maxRecDepth 100000 in
theorem bo_rt (q : R) (tt : TypeId) (x : Value) (uu : TypeId) (y : Value) (b0 : Bool) (RR : Bool) (k : Nat) (w : World) (hop : q.op = k) (hk1 : 1 ≤ k) (hk2 : k ≤ 14) (ht : Tabs w) (hRR : (decide (k ≤ 11 ∧ q.byy = 0) && (true && true || false && b0)) = RR)
    (hc0 : ∀ wy, Below w.heap.size w wy → Calls Tryz.prog 112 #[.iface tt x] wy fun e w' => (∃ z, e = .returned (.tuple #[.int .i64 z, .bool true])) ∧ Below wy.heap.size wy w')
    (hc1 : ∀ wy, Below w.heap.size w wy → Calls Tryz.prog 112 #[.iface uu y] wy fun e w' => (∃ z, e = .returned (.tuple #[.int .i64 z, .bool false])) ∧ Below wy.heap.size wy w')
    (hl : ∀ wy, Below w.heap.size w wy → Calls Tryz.prog 88 #[.iface tt x] wy fun e w' => e = .returned (.bool b0) ∧ Below wy.heap.size wy w')
    (hr : ∀ wy, Below w.heap.size w wy → Calls Tryz.prog 88 #[.iface uu y] wy fun e w' => e = .returned (.bool true) ∧ Below wy.heap.size wy w') :
    Calls Tryz.prog 88 #[vopNode q (.iface tt x) (.iface uu y)] w fun e w' => e = .returned (.bool RR) ∧ Below w.heap.size w w' := by
  have ty0 := ty_op_sel
  have ty1 := ty_op_neg
  have ty2 := ty_op_op
  obtain ⟨kd, nu, st, tx, op, ms, ma, mc, off, fx, att, bo, byy, ns, na, nc, sd, es, ea, ec, kc⟩ := q
  simp only at hop hRR
  subst hop
  have HG : Hid (∀ v, Below w.heap.size w v → v.cell? ⟨1, k * 2 + 1, none⟩ = some (.int .i64 (bd k))) := fun v hv => tabOp_at (ht.below hv).op k (by omega)
  have hbd := (bd_facts k hk1 hk2).2
  have HC0 := hid hc0
  have HC1 := hid hc1
  have HL := hid hl
  have HR := hid hr
  have i1 : (k : Int) < 15 := by omega
  clear hc0 hc1 hl hr ht
  have hq : (true && true || false && b0) = true := by simp
  rw [hq, Bool.and_true] at hRR
  have HRR := hid hRR
  have HBD := hid hbd
  clear hq hRR hbd
  generalize bd k = bk at *
  obtain ⟨X, hX⟩ : ∃ X, X = w.alloc (.cells #[.int .i64 kd, .int .i64 nu, .int .i64 st, .string tx, .int .i64 k, .slice ma ms.length mc, .int .i64 off, .bool fx, .int .i64 att, .bool bo, .int .i64 byy, .slice na ns.length nc, .int .i64 sd, .slice ea es.length ec, .int .i64 kc, .iface tt x, .iface uu y] 120) := ⟨_, rfl⟩
  have hXB : Below w.heap.size w X := by rw [hX]; exact (Below.refl _ _).alloc (Nat.le_refl _) _
  have hXN : X.heap[w.heap.size]? = some (.cells #[.int .i64 kd, .int .i64 nu, .int .i64 st, .string tx, .int .i64 k, .slice ma ms.length mc, .int .i64 off, .bool fx, .int .i64 att, .bool bo, .int .i64 byy, .slice na ns.length nc, .int .i64 sd, .slice ea es.length ec, .int .i64 kc, .iface tt x, .iface uu y] 120) := by rw [hX]; exact heap_alloc_new _ _
  have x15 := box_at hXN 15 (.iface tt x) rfl
  have HBX := hid hXB
  have HXN := hid hXN
  have HXX := hid hX
  clear hX hXB hXN
  simp only [vopNode]
  go_enter Tryz.func88, Tryz.ntmps88
  go_upto_region 10 with fail
  rw [← HXX.out]
  clear HXX
  go_wp2_with fail
  refine (HC0.out _ HBX.out).mono ?_
  rintro e w1 ⟨⟨z0, rfl⟩, hb1⟩
  have HB1 := hid (HBX.out.trans (hb1.mono HBX.out.size))
  have HN1 := hid (kept HXN.out hb1)
  have x16 := box_at HN1.out 16 (.iface uu y) rfl
  clear hb1
  go_wp2_with fail
  refine (HC1.out _ HB1.out).mono ?_
  rintro e w2 ⟨⟨z1, rfl⟩, hb2⟩
  have HB2 := hid (HB1.out.trans (hb2.mono HB1.out.size))
  have HN2 := hid (kept HN1.out hb2)
  clear hb2
  go_upto_region 12 with fail
  have u15_2 := box_at HN2.out 15 (.iface tt x) rfl; have u16_2 := box_at HN2.out 16 (.iface uu y) rfl; have u4_2 := box_at HN2.out 4 (.int .i64 k) rfl; have u10_2 := box_at HN2.out 10 (.int .i64 byy) rfl; have g_2 := HG.out _ HB2.out
  go_wp2_with fail
  refine (HR.out _ HB2.out).mono ?_
  rintro e w4 ⟨rfl, hb4⟩
  have HB4 := hid (HB2.out.trans (hb4.mono HB2.out.size))
  have HN4 := hid (kept HN2.out hb4)
  have u15_4 := box_at HN4.out 15 (.iface tt x) rfl
  have u16_4 := box_at HN4.out 16 (.iface uu y) rfl
  have u4_4 := box_at HN4.out 4 (.int .i64 k) rfl
  have u10_4 := box_at HN4.out 10 (.int .i64 byy) rfl
  have g_4 := HG.out _ HB4.out
  clear hb4
  go_upto_region 13 with fail
  by_cases h0 : byy = 0
  · have e0 : (byy == 0) = true := by simpa using h0
    by_cases h3 : 3 ≤ bk
    · obtain rfl : RR = true := by rw [← HRR.out]; exact decide_eq_true ⟨HBD.out.1 h3, h0⟩
      clear h0 HRR
      go_wp2
      go_ret
      exact ⟨rfl, HB4.out⟩
    · obtain rfl : RR = false := by rw [← HRR.out]; exact decide_eq_false (fun h => h3 (HBD.out.2 h.1))
      clear h0 HRR
      go_wp2
      go_ret
      exact ⟨rfl, HB4.out⟩
  · obtain rfl : RR = false := by rw [← HRR.out]; exact decide_eq_false (fun h => h0 h.2)
    have e0 : (byy == 0) = false := by simpa using h0
    clear HRR h0
    go_wp2
    go_ret
    exact ⟨rfl, HB4.out⟩
set_option maxHeartbeats 8000000 in
set_option maxRecDepth 100000 in
theorem bo_rf (q : R) (tt : TypeId) (x : Value) (uu : TypeId) (y : Value) (b0 : Bool) (RR : Bool) (k : Nat) (w : World) (hop : q.op = k) (hk1 : 1 ≤ k) (hk2 : k ≤ 14) (ht : Tabs w) (hRR : (decide (k ≤ 11 ∧ q.byy = 0) && (true && false || false && b0)) = RR)
    (hc0 : ∀ wy, Below w.heap.size w wy → Calls Tryz.prog 112 #[.iface tt x] wy fun e w' => (∃ z, e = .returned (.tuple #[.int .i64 z, .bool true])) ∧ Below wy.heap.size wy w')
    (hc1 : ∀ wy, Below w.heap.size w wy → Calls Tryz.prog 112 #[.iface uu y] wy fun e w' => (∃ z, e = .returned (.tuple #[.int .i64 z, .bool false])) ∧ Below wy.heap.size wy w')
    (hl : ∀ wy, Below w.heap.size w wy → Calls Tryz.prog 88 #[.iface tt x] wy fun e w' => e = .returned (.bool b0) ∧ Below wy.heap.size wy w')
    (hr : ∀ wy, Below w.heap.size w wy → Calls Tryz.prog 88 #[.iface uu y] wy fun e w' => e = .returned (.bool false) ∧ Below wy.heap.size wy w') :
    Calls Tryz.prog 88 #[vopNode q (.iface tt x) (.iface uu y)] w fun e w' => e = .returned (.bool RR) ∧ Below w.heap.size w w' := by
  have ty0 := ty_op_sel
  have ty1 := ty_op_neg
  have ty2 := ty_op_op
  obtain ⟨kd, nu, st, tx, op, ms, ma, mc, off, fx, att, bo, byy, ns, na, nc, sd, es, ea, ec, kc⟩ := q
  simp only at hop hRR
  subst hop
  have HG : Hid (∀ v, Below w.heap.size w v → v.cell? ⟨1, k * 2 + 1, none⟩ = some (.int .i64 (bd k))) := fun v hv => tabOp_at (ht.below hv).op k (by omega)
  have hbd := (bd_facts k hk1 hk2).2
  have HC0 := hid hc0
  have HC1 := hid hc1
  have HL := hid hl
  have HR := hid hr
  have i1 : (k : Int) < 15 := by omega
  clear hc0 hc1 hl hr ht
  obtain rfl : RR = false := by rw [← hRR]; simp
  clear hRR hbd
  obtain ⟨X, hX⟩ : ∃ X, X = w.alloc (.cells #[.int .i64 kd, .int .i64 nu, .int .i64 st, .string tx, .int .i64 k, .slice ma ms.length mc, .int .i64 off, .bool fx, .int .i64 att, .bool bo, .int .i64 byy, .slice na ns.length nc, .int .i64 sd, .slice ea es.length ec, .int .i64 kc, .iface tt x, .iface uu y] 120) := ⟨_, rfl⟩
  have hXB : Below w.heap.size w X := by rw [hX]; exact (Below.refl _ _).alloc (Nat.le_refl _) _
  have hXN : X.heap[w.heap.size]? = some (.cells #[.int .i64 kd, .int .i64 nu, .int .i64 st, .string tx, .int .i64 k, .slice ma ms.length mc, .int .i64 off, .bool fx, .int .i64 att, .bool bo, .int .i64 byy, .slice na ns.length nc, .int .i64 sd, .slice ea es.length ec, .int .i64 kc, .iface tt x, .iface uu y] 120) := by rw [hX]; exact heap_alloc_new _ _
  have x15 := box_at hXN 15 (.iface tt x) rfl
  have HBX := hid hXB
  have HXN := hid hXN
  have HXX := hid hX
  clear hX hXB hXN
  simp only [vopNode]
  go_enter Tryz.func88, Tryz.ntmps88
  go_upto_region 10 with fail
  rw [← HXX.out]
  clear HXX
  go_wp2_with fail
  refine (HC0.out _ HBX.out).mono ?_
  rintro e w1 ⟨⟨z0, rfl⟩, hb1⟩
  have HB1 := hid (HBX.out.trans (hb1.mono HBX.out.size))
  have HN1 := hid (kept HXN.out hb1)
  have x16 := box_at HN1.out 16 (.iface uu y) rfl
  clear hb1
  go_wp2_with fail
  refine (HC1.out _ HB1.out).mono ?_
  rintro e w2 ⟨⟨z1, rfl⟩, hb2⟩
  have HB2 := hid (HB1.out.trans (hb2.mono HB1.out.size))
  have HN2 := hid (kept HN1.out hb2)
  clear hb2
  go_upto_region 12 with fail
  have u15_2 := box_at HN2.out 15 (.iface tt x) rfl; have u16_2 := box_at HN2.out 16 (.iface uu y) rfl; have u4_2 := box_at HN2.out 4 (.int .i64 k) rfl; have u10_2 := box_at HN2.out 10 (.int .i64 byy) rfl; have g_2 := HG.out _ HB2.out
  go_wp2_with fail
  refine (HR.out _ HB2.out).mono ?_
  rintro e w4 ⟨rfl, hb4⟩
  have HB4 := hid (HB2.out.trans (hb4.mono HB2.out.size))
  have HN4 := hid (kept HN2.out hb4)
  have u15_4 := box_at HN4.out 15 (.iface tt x) rfl
  have u16_4 := box_at HN4.out 16 (.iface uu y) rfl
  have u4_4 := box_at HN4.out 4 (.int .i64 k) rfl
  have u10_4 := box_at HN4.out 10 (.int .i64 byy) rfl
  have g_4 := HG.out _ HB4.out
  clear hb4
  go_wp2
  go_ret
  exact ⟨rfl, HB4.out⟩
set_option maxHeartbeats 8000000 in
set_option maxRecDepth 100000 in
theorem bo_no (q : R) (tt : TypeId) (x : Value) (uu : TypeId) (y : Value) (b0 b1 : Bool) (RR : Bool) (k : Nat) (w : World) (hop : q.op = k) (hk1 : 1 ≤ k) (hk2 : k ≤ 14) (ht : Tabs w) (hRR : (decide (k ≤ 11 ∧ q.byy = 0) && (false && b1 || false && b0)) = RR)
    (hc0 : ∀ wy, Below w.heap.size w wy → Calls Tryz.prog 112 #[.iface tt x] wy fun e w' => (∃ z, e = .returned (.tuple #[.int .i64 z, .bool false])) ∧ Below wy.heap.size wy w')
    (hc1 : ∀ wy, Below w.heap.size w wy → Calls Tryz.prog 112 #[.iface uu y] wy fun e w' => (∃ z, e = .returned (.tuple #[.int .i64 z, .bool false])) ∧ Below wy.heap.size wy w')
    (hl : ∀ wy, Below w.heap.size w wy → Calls Tryz.prog 88 #[.iface tt x] wy fun e w' => e = .returned (.bool b0) ∧ Below wy.heap.size wy w')
    (hr : ∀ wy, Below w.heap.size w wy → Calls Tryz.prog 88 #[.iface uu y] wy fun e w' => e = .returned (.bool b1) ∧ Below wy.heap.size wy w') :
    Calls Tryz.prog 88 #[vopNode q (.iface tt x) (.iface uu y)] w fun e w' => e = .returned (.bool RR) ∧ Below w.heap.size w w' := by
  have ty0 := ty_op_sel
  have ty1 := ty_op_neg
  have ty2 := ty_op_op
  obtain ⟨kd, nu, st, tx, op, ms, ma, mc, off, fx, att, bo, byy, ns, na, nc, sd, es, ea, ec, kc⟩ := q
  simp only at hop hRR
  subst hop
  have HG : Hid (∀ v, Below w.heap.size w v → v.cell? ⟨1, k * 2 + 1, none⟩ = some (.int .i64 (bd k))) := fun v hv => tabOp_at (ht.below hv).op k (by omega)
  have hbd := (bd_facts k hk1 hk2).2
  have HC0 := hid hc0
  have HC1 := hid hc1
  have HL := hid hl
  have HR := hid hr
  have i1 : (k : Int) < 15 := by omega
  clear hc0 hc1 hl hr ht
  obtain rfl : RR = false := by rw [← hRR]; simp
  clear hRR hbd
  obtain ⟨X, hX⟩ : ∃ X, X = w.alloc (.cells #[.int .i64 kd, .int .i64 nu, .int .i64 st, .string tx, .int .i64 k, .slice ma ms.length mc, .int .i64 off, .bool fx, .int .i64 att, .bool bo, .int .i64 byy, .slice na ns.length nc, .int .i64 sd, .slice ea es.length ec, .int .i64 kc, .iface tt x, .iface uu y] 120) := ⟨_, rfl⟩
  have hXB : Below w.heap.size w X := by rw [hX]; exact (Below.refl _ _).alloc (Nat.le_refl _) _
  have hXN : X.heap[w.heap.size]? = some (.cells #[.int .i64 kd, .int .i64 nu, .int .i64 st, .string tx, .int .i64 k, .slice ma ms.length mc, .int .i64 off, .bool fx, .int .i64 att, .bool bo, .int .i64 byy, .slice na ns.length nc, .int .i64 sd, .slice ea es.length ec, .int .i64 kc, .iface tt x, .iface uu y] 120) := by rw [hX]; exact heap_alloc_new _ _
  have x15 := box_at hXN 15 (.iface tt x) rfl
  have HBX := hid hXB
  have HXN := hid hXN
  have HXX := hid hX
  clear hX hXB hXN
  simp only [vopNode]
  go_enter Tryz.func88, Tryz.ntmps88
  go_upto_region 10 with fail
  rw [← HXX.out]
  clear HXX
  go_wp2_with fail
  refine (HC0.out _ HBX.out).mono ?_
  rintro e w1 ⟨⟨z0, rfl⟩, hb1⟩
  have HB1 := hid (HBX.out.trans (hb1.mono HBX.out.size))
  have HN1 := hid (kept HXN.out hb1)
  have x16 := box_at HN1.out 16 (.iface uu y) rfl
  clear hb1
  go_wp2_with fail
  refine (HC1.out _ HB1.out).mono ?_
  rintro e w2 ⟨⟨z1, rfl⟩, hb2⟩
  have HB2 := hid (HB1.out.trans (hb2.mono HB1.out.size))
  have HN2 := hid (kept HN1.out hb2)
  clear hb2
  go_upto_region 12 with fail
  have u15_2 := box_at HN2.out 15 (.iface tt x) rfl; have u16_2 := box_at HN2.out 16 (.iface uu y) rfl; have u4_2 := box_at HN2.out 4 (.int .i64 k) rfl; have u10_2 := box_at HN2.out 10 (.int .i64 byy) rfl; have g_2 := HG.out _ HB2.out
  go_wp2
  go_ret
  exact ⟨rfl, HB2.out⟩
set_option maxHeartbeats 8000000 in
set_option maxRecDepth 100000 in
theorem bs_op (q : R) (tt : TypeId) (x : Value) (uu : TypeId) (y : Value) (c0 c1 b0 b1 : Bool) (RR : Bool) (k : Nat) (w : World) (hop : q.op = k) (hk1 : 1 ≤ k) (hk2 : k ≤ 14) (ht : Tabs w) (hRR : (decide (k ≤ 11 ∧ q.byy = 0) && (c0 && b1 || c1 && b0)) = RR)
    (hc0 : ∀ wy, Below w.heap.size w wy → Calls Tryz.prog 112 #[.iface tt x] wy fun e w' => (∃ z, e = .returned (.tuple #[.int .i64 z, .bool c0])) ∧ Below wy.heap.size wy w')
    (hc1 : ∀ wy, Below w.heap.size w wy → Calls Tryz.prog 112 #[.iface uu y] wy fun e w' => (∃ z, e = .returned (.tuple #[.int .i64 z, .bool c1])) ∧ Below wy.heap.size wy w')
    (hl : ∀ wy, Below w.heap.size w wy → Calls Tryz.prog 88 #[.iface tt x] wy fun e w' => e = .returned (.bool b0) ∧ Below wy.heap.size wy w')
    (hr : ∀ wy, Below w.heap.size w wy → Calls Tryz.prog 88 #[.iface uu y] wy fun e w' => e = .returned (.bool b1) ∧ Below wy.heap.size wy w') :
    Calls Tryz.prog 88 #[vopNode q (.iface tt x) (.iface uu y)] w fun e w' => e = .returned (.bool RR) ∧ Below w.heap.size w w' := by
  cases c1 with
  | true =>
    cases b0 with
    | true => exact bo_tt q tt x uu y c0 b1 RR k w hop hk1 hk2 ht hRR hc0 hc1 hl hr
    | false =>
      cases c0 with
      | true =>
        cases b1 with
        | true => exact bo_tf q tt x uu y RR k w hop hk1 hk2 ht hRR hc0 hc1 hl hr
        | false => exact bo_ff q tt x uu y RR k w hop hk1 hk2 ht hRR hc0 hc1 hl hr
      | false => exact bo_f q tt x uu y b1 RR k w hop hk1 hk2 ht hRR hc0 hc1 hl hr
  | false =>
    cases c0 with
    | true =>
      cases b1 with
      | true => exact bo_rt q tt x uu y b0 RR k w hop hk1 hk2 ht hRR hc0 hc1 hl hr
      | false => exact bo_rf q tt x uu y b0 RR k w hop hk1 hk2 ht hRR hc0 hc1 hl hr
    | false => exact bo_no q tt x uu y b0 b1 RR k w hop hk1 hk2 ht hRR hc0 hc1 hl hr
set_option maxHeartbeats 8000000 in
set_option maxRecDepth 100000 in
theorem bs_call_no (q : R) (a : Option Addr) (n c : Nat) (w : World) (hn : n ≠ 1) : Calls Tryz.prog 88 #[vcallNode q a n c] w fun e w' => e = .returned (.bool false) ∧ Below w.heap.size w w' := by
  have ty0 := ty_call_sel
  have ty1 := ty_call_neg
  have ty2 := ty_call_op
  have ty3 := ty_call_call
  obtain ⟨kd, nu, st, tx, op, ms, ma, mc, off, fx, att, bo, byy, ns, na, nc, sd, es, ea, ec, kc⟩ := q
  have e1 : ((n : Int) == 1) = false := by rw [beq_eq_false_iff_ne]; omega
  clear hn
  obtain ⟨X, hX⟩ : ∃ X, X = w.alloc (.cells #[.int .i64 kd, .int .i64 nu, .int .i64 st, .string tx, .int .i64 op, .slice ma ms.length mc, .int .i64 off, .bool fx, .int .i64 att, .bool bo, .int .i64 byy, .slice na ns.length nc, .int .i64 sd, .slice ea es.length ec, .int .i64 kc, .slice a n c] 128) := ⟨_, rfl⟩
  have hXB : Below w.heap.size w X := by rw [hX]; exact (Below.refl _ _).alloc (Nat.le_refl _) _
  have hXN : X.heap[w.heap.size]? = some (.cells #[.int .i64 kd, .int .i64 nu, .int .i64 st, .string tx, .int .i64 op, .slice ma ms.length mc, .int .i64 off, .bool fx, .int .i64 att, .bool bo, .int .i64 byy, .slice na ns.length nc, .int .i64 sd, .slice ea es.length ec, .int .i64 kc, .slice a n c] 128) := by rw [hX]; exact heap_alloc_new _ _
  have x15 : X.cell? ⟨w.heap.size, 15, none⟩ = some (.slice a n c) := box_at hXN 15 (.slice a n c) rfl
  have HBX := hid hXB
  have HXX := hid hX
  clear hX hXB hXN
  simp only [vcallNode]
  go_enter Tryz.func88, Tryz.ntmps88
  go_upto_region 16 with fail
  rw [← HXX.out]
  clear HXX
  refine wp_region_held_drew (S := fun x' => x'.cell? ⟨w.heap.size, 15, none⟩ = some (.slice a n c)) rfl x15 (fun hHeld => ?_)
  refine wpAnyH_take (i := 0) (oi := { dst := some 74, op := _, type := _, pos := _, after := _, guard := _ }) (v := .pointer (some ⟨w.heap.size, 15, none⟩)) rfl (by kernel_rfl) (by kernel_rfl) (by kernel_rfl) (fun _ _ _ h => h) (Or.inl ⟨by rfl, fun w hSw => by (try dsimp only at hSw); (try go_split_ands); go_simp⟩) (by first | trivial | assumption) ?_
  try simp only [Act.put, List.setIfInBounds_toArray, List.set_cons_zero, List.set_cons_succ]
  refine wpAnyH_take (i := 1) (oi := { dst := some 75, op := _, type := _, pos := _, after := _, guard := _ }) (v := .slice a n c) rfl (by kernel_rfl) (by kernel_rfl) (by kernel_rfl) (fun _ _ _ h => h) (Or.inl ⟨by rfl, fun w hSw => by (try dsimp only at hSw); (try go_split_ands); go_simp⟩) (by first | trivial | assumption) ?_
  try simp only [Act.put, List.setIfInBounds_toArray, List.set_cons_zero, List.set_cons_succ]
  refine wpAnyH_take (i := 2) (oi := { dst := some 76, op := _, type := _, pos := _, after := _, guard := _ }) (v := .int .i64 n) rfl (by kernel_rfl) (by kernel_rfl) (by kernel_rfl) (fun _ _ _ h => h) (Or.inl ⟨by rfl, fun w hSw => by (try dsimp only at hSw); (try go_split_ands); go_simp⟩) (by first | trivial | assumption) ?_
  try simp only [Act.put, List.setIfInBounds_toArray, List.set_cons_zero, List.set_cons_succ]
  refine wpAnyH_take (i := 3) (oi := { dst := some 77, op := _, type := _, pos := _, after := _, guard := _ }) (v := .bool false) rfl (by kernel_rfl) (by kernel_rfl) (by kernel_rfl) (fun _ _ _ h => h) (Or.inl ⟨by rfl, fun w hSw => by (try dsimp only at hSw); (try go_split_ands); go_simp⟩) (by first | trivial | assumption) ?_
  try simp only [Act.put, List.setIfInBounds_toArray, List.set_cons_zero, List.set_cons_succ]
  refine wpAnyH_take (i := 4) (oi := { dst := some 78, op := _, type := _, pos := _, after := _, guard := _ }) (v := .bool false) rfl (by kernel_rfl) (by kernel_rfl) (by kernel_rfl) (fun _ _ _ h => h) (Or.inl ⟨by rfl, fun w hSw => by (try dsimp only at hSw); (try go_split_ands); go_simp⟩) (by first | trivial | assumption) ?_
  try simp only [Act.put, List.setIfInBounds_toArray, List.set_cons_zero, List.set_cons_succ]
  refine wpAnyH_take (i := 5) (oi := { dst := some 79, op := _, type := _, pos := _, after := _, guard := _ }) (v := undef) rfl (by kernel_rfl) (by kernel_rfl) (by kernel_rfl) (fun _ _ _ h => h) (Or.inr ⟨by rfl, rfl⟩) (by first | trivial | assumption) ?_
  try simp only [Act.put, List.setIfInBounds_toArray, List.set_cons_zero, List.set_cons_succ]
  refine wpAnyH_take (i := 6) (oi := { dst := some 80, op := _, type := _, pos := _, after := _, guard := _ }) (v := undef) rfl (by kernel_rfl) (by kernel_rfl) (by kernel_rfl) (fun _ _ _ h => h) (Or.inr ⟨by rfl, rfl⟩) (by first | trivial | assumption) ?_
  try simp only [Act.put, List.setIfInBounds_toArray, List.set_cons_zero, List.set_cons_succ]
  refine wpAnyH_take (i := 7) (oi := { dst := some 81, op := _, type := _, pos := _, after := _, guard := _ }) (v := undef) rfl (by kernel_rfl) (by kernel_rfl) (by kernel_rfl) (fun _ _ _ h => h) (Or.inr ⟨by rfl, rfl⟩) (by first | trivial | assumption) ?_
  try simp only [Act.put, List.setIfInBounds_toArray, List.set_cons_zero, List.set_cons_succ]
  refine wpAnyH_take (i := 8) (oi := { dst := some 82, op := _, type := _, pos := _, after := _, guard := _ }) (v := undef) rfl (by kernel_rfl) (by kernel_rfl) (by kernel_rfl) (fun _ _ _ h => h) (Or.inr ⟨by rfl, rfl⟩) (by first | trivial | assumption) ?_
  try simp only [Act.put, List.setIfInBounds_toArray, List.set_cons_zero, List.set_cons_succ]
  refine wpAnyH_take (i := 9) (oi := { dst := some 83, op := _, type := _, pos := _, after := _, guard := _ }) (v := undef) rfl (by kernel_rfl) (by kernel_rfl) (by kernel_rfl) (fun _ _ _ h => h) (Or.inr ⟨by rfl, rfl⟩) (by first | trivial | assumption) ?_
  try simp only [Act.put, List.setIfInBounds_toArray, List.set_cons_zero, List.set_cons_succ]
  refine wpAnyH_take (i := 10) (oi := { dst := some 84, op := _, type := _, pos := _, after := _, guard := _ }) (v := undef) rfl (by kernel_rfl) (by kernel_rfl) (by kernel_rfl) (fun _ _ _ h => h) (Or.inr ⟨by rfl, rfl⟩) (by first | trivial | assumption) ?_
  try simp only [Act.put, List.setIfInBounds_toArray, List.set_cons_zero, List.set_cons_succ]
  refine wpAnyH_take (i := 11) (oi := { dst := some 85, op := _, type := _, pos := _, after := _, guard := _ }) (v := undef) rfl (by kernel_rfl) (by kernel_rfl) (by kernel_rfl) (fun _ _ _ h => h) (Or.inr ⟨by rfl, rfl⟩) (by first | trivial | assumption) ?_
  try simp only [Act.put, List.setIfInBounds_toArray, List.set_cons_zero, List.set_cons_succ]
  refine wpAnyH_take (i := 12) (oi := { dst := some 86, op := _, type := _, pos := _, after := _, guard := _ }) (v := undef) rfl (by kernel_rfl) (by kernel_rfl) (by kernel_rfl) (fun _ _ _ h => h) (Or.inr ⟨by rfl, rfl⟩) (by first | trivial | assumption) ?_
  try simp only [Act.put, List.setIfInBounds_toArray, List.set_cons_zero, List.set_cons_succ]
  refine wpAnyH_take (i := 13) (oi := { dst := some 87, op := _, type := _, pos := _, after := _, guard := _ }) (v := .bool false) rfl (by kernel_rfl) (by kernel_rfl) (by kernel_rfl) (fun _ _ _ h => h) (Or.inl ⟨by rfl, fun w hSw => by (try dsimp only at hSw); (try go_split_ands); go_simp⟩) (by first | trivial | assumption) ?_
  try simp only [Act.put, List.setIfInBounds_toArray, List.set_cons_zero, List.set_cons_succ]
  refine wpAnyH_take (i := 14) (oi := { dst := some 2, op := _, type := _, pos := _, after := _, guard := _ }) (v := .bool false) rfl (by kernel_rfl) (by kernel_rfl) (by kernel_rfl) (fun _ _ _ h => h) (Or.inl ⟨by rfl, fun w hSw => by (try dsimp only at hSw); (try go_split_ands); go_simp⟩) (by first | trivial | assumption) ?_
  try simp only [Act.put, List.setIfInBounds_toArray, List.set_cons_zero, List.set_cons_succ]
  refine wpAnyH_done (by kernel_rfl) ?_ _
  go_wp2
  (try simp only [Exit.inBlock, Exit.then])
  go_ret
  exact ⟨rfl, by first | exact HBX.out | exact HBX.out.drew⟩
/-- What a call's region reads. -/
abbrev CsS (w1 : World) (tx : ByteArray) (a : Option Addr) (c : Nat) (b off : Nat) (v : Value) (w : World) : Prop :=
  w.cell? ⟨w1.heap.size, 3, none⟩ = some (.string tx) ∧ w.cell? ⟨w1.heap.size, 15, none⟩ = some (.slice a 1 c) ∧ w.cell? ⟨b, off, none⟩ = some v ∧ Below w1.heap.size w1 w
theorem CsS.below {w1 : World} {tx : ByteArray} {a : Option Addr} {c b off : Nat} {v : Value} {w w' : World} (h : CsS w1 tx a c b off v w) (hb : Below w.heap.size w w') : CsS w1 tx a c b off v w' :=
  ⟨(hb.cell (p := ⟨w1.heap.size, 3, none⟩) (cell_lt h.1)).trans h.1, (hb.cell (p := ⟨w1.heap.size, 15, none⟩) (cell_lt h.2.1)).trans h.2.1, (hb.cell (p := ⟨b, off, none⟩) (cell_lt h.2.2.1)).trans h.2.2.1, h.2.2.2.trans (hb.mono h.2.2.2.size)⟩
theorem CsS.drew {w1 : World} {tx : ByteArray} {a : Option Addr} {c b off : Nat} {v : Value} {w : World} (h : CsS w1 tx a c b off v w) : CsS w1 tx a c b off v w.drew := h.below (Below.refl _ w).drew
theorem CsS.bel {w1 : World} {tx : ByteArray} {a : Option Addr} {c b off : Nat} {v : Value} {w : World} (h : CsS w1 tx a c b off v w) : Below w1.heap.size w1 w := h.2.2.2
set_option maxHeartbeats 8000000 in
set_option maxRecDepth 100000 in
theorem bs_call (q : R) (b off : Nat) (c : Nat) (tt : TypeId) (x : Value) (r : Bool) (w : World) (hcell : w.cell? ⟨b, off, none⟩ = some (.iface tt x)) (hb : b < w.heap.size)
    (hc : ∀ y, Below w.heap.size w y → Calls Tryz.prog 116 #[.string q.tx, .iface tt x] y fun e w' => e = .returned (.bool r) ∧ Below y.heap.size y w') :
    Calls Tryz.prog 88 #[vcallNode q (some ⟨b, off, none⟩) 1 c] w fun e w' => e = .returned (.bool r) ∧ Below w.heap.size w w' := by
  have ty0 := ty_call_sel
  have ty1 := ty_call_neg
  have ty2 := ty_call_op
  have ty3 := ty_call_call
  obtain ⟨kd, nu, st, tx, op, ms, ma, mc, of, fx, att, bo, byy, ns, na, nc, sd, es, ea, ec, kc⟩ := q
  simp only at hc
  have HC := hid hc
  clear hc
  obtain ⟨X, hX⟩ : ∃ X, X = w.alloc (.cells #[.int .i64 kd, .int .i64 nu, .int .i64 st, .string tx, .int .i64 op, .slice ma ms.length mc, .int .i64 of, .bool fx, .int .i64 att, .bool bo, .int .i64 byy, .slice na ns.length nc, .int .i64 sd, .slice ea es.length ec, .int .i64 kc, .slice (some ⟨b, off, none⟩) 1 c] 128) := ⟨_, rfl⟩
  have hXB : Below w.heap.size w X := by rw [hX]; exact (Below.refl _ _).alloc (Nat.le_refl _) _
  have hXN : X.heap[w.heap.size]? = some (.cells #[.int .i64 kd, .int .i64 nu, .int .i64 st, .string tx, .int .i64 op, .slice ma ms.length mc, .int .i64 of, .bool fx, .int .i64 att, .bool bo, .int .i64 byy, .slice na ns.length nc, .int .i64 sd, .slice ea es.length ec, .int .i64 kc, .slice (some ⟨b, off, none⟩) 1 c] 128) := by rw [hX]; exact heap_alloc_new _ _
  have HS := hid (show CsS w tx (some ⟨b, off, none⟩) c b off (.iface tt x) X from ⟨box_at hXN 3 (.string tx) rfl, box_at hXN 15 (.slice (some ⟨b, off, none⟩) 1 c) rfl, (hXB.cell (p := ⟨b, off, none⟩) hb).trans hcell, hXB⟩)
  have HXX := hid hX
  clear hX hXB hXN hcell hb
  simp only [vcallNode]
  go_enter Tryz.func88, Tryz.ntmps88
  go_upto_region 16 with fail
  rw [← HXX.out]
  clear HXX
  go_region_held3 (fun x' => CsS w tx (some ⟨b, off, none⟩) c b off (.iface tt x) x') (first | exact HS.out.drew | assumption) (first | (go_at_call 116; refine (HC.out _ (CsS.bel (by assumption))).mono ?_; rintro e w3 ⟨rfl, hb3⟩; have hs3 := CsS.below (by assumption) hb3; clear hb3))
  have HB3 := hid hs3.bel
  clear hs3
  go_wp2
  go_ret
  exact ⟨rfl, HB3.out⟩
theorem bsOk : ∀ n, BsOk n := by
  intro n
  induction n with
  | zero =>
    intro t v w0 S w d hd hg1 hg2
    obtain rfl : d = 12 := by omega
    exact absurd hg2 gt2_deep
  | succ n ih =>
    intro t v w0 S w d hd hg1 hg2 hv hb ht
    obtain ⟨r, ks⟩ := t
    simp only [Nv] at hv
    obtain ⟨q, vs, rfl, hrw, hnl, hsh⟩ := hv
    have hkid : ∀ (i : Nat) (t : Tr) (v : Value), ks[i]? = some t → Nv w0 S w t v → ∀ y, Below w.heap.size w y → Calls Tryz.prog 88 #[v] y fun e w' => e = .returned (.bool (byT clP t)) ∧ Below y.heap.size y w' := fun i t v hi hn y hy =>
      ih t v w0 S y (d + 1) (by omega) (gt1_kid hi hg1) (gt2_kids hi hg2) (Nv.agr (Agr.below hy) t v hn) (hb.trans (hy.mono hb.size)) (ht.below hy)
    rw [byT]
    cases hsh with
    | num h => rw [show byq clP (pl q) ks (byL clP ks) = false from by unfold byq; simp [pl, h]]; exact bs_num q w
    | text h => rw [show byq clP (pl q) ks (byL clP ks) = false from by unfold byq; simp [pl, h]]; exact bs_text q w
    | range h p => rw [show byq clP (pl q) ks (byL clP ks) = false from by unfold byq; simp [pl, h]]; exact bs_range q p w
    | sub h tt x => rw [show byq clP (pl q) ks (byL clP ks) = false from by unfold byq; simp [pl, h]]; exact bs_sub q tt x w
    | agg h vs a c hv => rw [show byq clP (pl q) ks (byL clP ks) = false from by unfold byq; simp [pl, h]]; exact bs_agg q a _ c w
    | sel h => rw [show byq clP (pl q) ks (byL clP ks) = !q.tx.toList.isEmpty from by unfold byq; simp [pl, h]]; exact bs_sel q w
    | neg h tt x =>
      obtain ⟨t, rfl, h1⟩ := one_kid hnl
      rw [show byq clP (pl q) [t] (byL clP [t]) = byT clP t from by unfold byq; simp [pl, h, byL]]
      exact bs_neg q tt x _ w (hkid 0 t _ rfl h1)
    | op h tt x uu y =>
      obtain ⟨t, u, rfl, h1, h2⟩ := two_kids hnl
      have hop : 1 ≤ q.op ∧ q.op ≤ 14 := by
        have h := gt2_right hg2
        rw [right_7 (r := pl q) (by assumption)] at h
        unfold rOp at h
        simp only [Bool.and_eq_true, decide_eq_true_eq] at h
        exact h.1.1.1.1
      obtain ⟨k, hk⟩ : ∃ k : Nat, q.op = k := ⟨q.op.toNat, by omega⟩
      rw [show byq clP (pl q) [t, u] (byL clP [t, u]) = (decide (k ≤ 11 ∧ q.byy = 0) && (cnst t && byT clP u || cnst u && byT clP t)) from by
        unfold byq
        have e : (pl q).op = (k : Int) := hk
        have e11 : ((k : Int) ≤ 11) ↔ k ≤ 11 := by omega
        simp only [e, e11]
        simp [pl, h, byL]]
      exact bs_op q tt x uu y _ _ _ _ _ k w hk (by omega) (by omega) ht rfl (fun y' hy => f112 t _ w0 S y' (Nv.agr (Agr.below hy) t _ h1)) (fun y' hy => f112 u _ w0 S y' (Nv.agr (Agr.below hy) u _ h2)) (hkid 0 t _ rfl h1) (hkid 1 u _ rfl h2)
    | call h vs a c hv =>
      have hl := NvL.len _ _ hnl
      by_cases h1 : vs.length = 1
      · obtain ⟨v, rfl⟩ := List.length_eq_one_iff.1 h1
        obtain ⟨t, rfl, h2⟩ := one_kid hnl
        obtain ⟨tt, x, rfl⟩ := h2.iface
        rcases hv with hv | ⟨b, off, rfl, _, hbl, hc⟩
        · cases hv
        have h0 := hc 0 (by simp)
        rw [show byq clP (pl q) [t] (byL clP [t]) = clP q.tx t (byT clP t) from by unfold byq; simp [pl, h, byL]]
        exact bs_call q b off c tt x _ w (by simpa using h0) hbl (fun y hy => f116 n ih q.tx t _ w0 S y (d + 1) (by omega) (gt1_kid (i := 0) rfl hg1) (gt2_kids (i := 0) rfl hg2) (Nv.agr (Agr.below hy) t _ h2) (hb.trans (hy.mono hb.size)) (ht.below hy))
      · rw [show byq clP (pl q) ks (byL clP ks) = false from by
          unfold byq
          match ks, hl with
          | [], _ => simp [pl, h]
          | [t], hl => exact absurd (by simpa using hl) h1
          | t :: u :: r, _ => simp [pl, h]]
        exact bs_call_no q a _ c w h1
set_option maxHeartbeats 4000000 in
set_option maxRecDepth 100000 in
theorem sj_num (q : R) (w : World) : Calls Tryz.prog 53 #[vnumNode q] w fun e w' => (∃ z, e = .returned (.tuple #[.int .i64 z, .bool false])) ∧ Below w.heap.size w w' := by
  have ty0 := ty_num_agg
  go_enter Tryz.func53, Tryz.ntmps53
  go_wp2
  go_ret2
  exact ⟨⟨_, rfl⟩, (by first | exact Below.refl _ _ | exact (Below.refl _ _).alloc (Nat.le_refl _) _ | exact ((Below.refl _ _).alloc (Nat.le_refl _) _).alloc (by simp) _ | exact (((Below.refl _ _).alloc (Nat.le_refl _) _).alloc (by simp) _).alloc (by simp; omega) _)⟩
set_option maxHeartbeats 4000000 in
set_option maxRecDepth 100000 in
theorem sj_text (q : R) (w : World) : Calls Tryz.prog 53 #[vtextNode q] w fun e w' => (∃ z, e = .returned (.tuple #[.int .i64 z, .bool false])) ∧ Below w.heap.size w w' := by
  have ty0 := ty_text_agg
  go_enter Tryz.func53, Tryz.ntmps53
  go_wp2
  go_ret2
  exact ⟨⟨_, rfl⟩, (by first | exact Below.refl _ _ | exact (Below.refl _ _).alloc (Nat.le_refl _) _ | exact ((Below.refl _ _).alloc (Nat.le_refl _) _).alloc (by simp) _ | exact (((Below.refl _ _).alloc (Nat.le_refl _) _).alloc (by simp) _).alloc (by simp; omega) _)⟩
set_option maxHeartbeats 4000000 in
set_option maxRecDepth 100000 in
theorem sj_sel (q : R) (w : World) : Calls Tryz.prog 53 #[vselectNode q] w fun e w' => (∃ z, e = .returned (.tuple #[.int .i64 z, .bool false])) ∧ Below w.heap.size w w' := by
  have ty0 := ty_sel_agg
  go_enter Tryz.func53, Tryz.ntmps53
  go_wp2
  go_ret2
  exact ⟨⟨_, rfl⟩, (by first | exact Below.refl _ _ | exact (Below.refl _ _).alloc (Nat.le_refl _) _ | exact ((Below.refl _ _).alloc (Nat.le_refl _) _).alloc (by simp) _ | exact (((Below.refl _ _).alloc (Nat.le_refl _) _).alloc (by simp) _).alloc (by simp; omega) _)⟩
set_option maxHeartbeats 4000000 in
set_option maxRecDepth 100000 in
theorem sj_range (q : R) (qs : R) (w : World) : Calls Tryz.prog 53 #[vrangeNode q qs] w fun e w' => (∃ z, e = .returned (.tuple #[.int .i64 z, .bool false])) ∧ Below w.heap.size w w' := by
  have ty0 := ty_range_agg
  go_enter Tryz.func53, Tryz.ntmps53
  go_wp2
  go_ret2
  exact ⟨⟨_, rfl⟩, (by first | exact Below.refl _ _ | exact (Below.refl _ _).alloc (Nat.le_refl _) _ | exact ((Below.refl _ _).alloc (Nat.le_refl _) _).alloc (by simp) _ | exact (((Below.refl _ _).alloc (Nat.le_refl _) _).alloc (by simp) _).alloc (by simp; omega) _)⟩
set_option maxHeartbeats 4000000 in
set_option maxRecDepth 100000 in
theorem sj_sub (q : R) (qt : TypeId) (qx : Value) (w : World) : Calls Tryz.prog 53 #[vsubNode q (.iface qt qx)] w fun e w' => (∃ z, e = .returned (.tuple #[.int .i64 z, .bool false])) ∧ Below w.heap.size w w' := by
  have ty0 := ty_sub_agg
  go_enter Tryz.func53, Tryz.ntmps53
  go_wp2
  go_ret2
  exact ⟨⟨_, rfl⟩, (by first | exact Below.refl _ _ | exact (Below.refl _ _).alloc (Nat.le_refl _) _ | exact ((Below.refl _ _).alloc (Nat.le_refl _) _).alloc (by simp) _ | exact (((Below.refl _ _).alloc (Nat.le_refl _) _).alloc (by simp) _).alloc (by simp; omega) _)⟩
set_option maxHeartbeats 4000000 in
set_option maxRecDepth 100000 in
theorem sj_neg (q : R) (qt : TypeId) (qx : Value) (w : World) : Calls Tryz.prog 53 #[vnegNode q (.iface qt qx)] w fun e w' => (∃ z, e = .returned (.tuple #[.int .i64 z, .bool false])) ∧ Below w.heap.size w w' := by
  have ty0 := ty_neg_agg
  go_enter Tryz.func53, Tryz.ntmps53
  go_wp2
  go_ret2
  exact ⟨⟨_, rfl⟩, (by first | exact Below.refl _ _ | exact (Below.refl _ _).alloc (Nat.le_refl _) _ | exact ((Below.refl _ _).alloc (Nat.le_refl _) _).alloc (by simp) _ | exact (((Below.refl _ _).alloc (Nat.le_refl _) _).alloc (by simp) _).alloc (by simp; omega) _)⟩
set_option maxHeartbeats 4000000 in
set_option maxRecDepth 100000 in
theorem sj_op (q : R) (qt : TypeId) (qx : Value) (qu : TypeId) (qy : Value) (w : World) : Calls Tryz.prog 53 #[vopNode q (.iface qt qx) (.iface qu qy)] w fun e w' => (∃ z, e = .returned (.tuple #[.int .i64 z, .bool false])) ∧ Below w.heap.size w w' := by
  have ty0 := ty_op_agg
  go_enter Tryz.func53, Tryz.ntmps53
  go_wp2
  go_ret2
  exact ⟨⟨_, rfl⟩, (by first | exact Below.refl _ _ | exact (Below.refl _ _).alloc (Nat.le_refl _) _ | exact ((Below.refl _ _).alloc (Nat.le_refl _) _).alloc (by simp) _ | exact (((Below.refl _ _).alloc (Nat.le_refl _) _).alloc (by simp) _).alloc (by simp; omega) _)⟩
set_option maxHeartbeats 4000000 in
set_option maxRecDepth 100000 in
theorem sj_call (q : R) (qa : Option Addr) (qn qc : Nat) (w : World) : Calls Tryz.prog 53 #[vcallNode q qa qn qc] w fun e w' => (∃ z, e = .returned (.tuple #[.int .i64 z, .bool false])) ∧ Below w.heap.size w w' := by
  have ty0 := ty_call_agg
  go_enter Tryz.func53, Tryz.ntmps53
  go_wp2
  go_ret2
  exact ⟨⟨_, rfl⟩, (by first | exact Below.refl _ _ | exact (Below.refl _ _).alloc (Nat.le_refl _) _ | exact ((Below.refl _ _).alloc (Nat.le_refl _) _).alloc (by simp) _ | exact (((Below.refl _ _).alloc (Nat.le_refl _) _).alloc (by simp) _).alloc (by simp; omega) _)⟩
set_option maxHeartbeats 8000000 in
set_option maxRecDepth 100000 in
theorem sj_a (q : R) (b of m c : Nat) (tt : TypeId) (x : Value) (k : K) (RR : Bool) (w : World) (hm : m ≤ 10) (hcell : w.cell? ⟨b, of + m, none⟩ = some (.iface tt x)) (hb : b < w.heap.size)
    (hRR : (false && decide (k ≠ .e) && decide (q.op = 1 ∨ q.op = 2 ∨ q.op = 3 ∨ q.op = 5)) = RR)
    (hl : ∀ wy, Below w.heap.size w wy → Calls Tryz.prog 88 #[.iface tt x] wy fun e w' => e = .returned (.bool false) ∧ Below wy.heap.size wy w')
    (hk : ∀ wy, Below w.heap.size w wy → Calls Tryz.prog 34 #[vaggNode q (some ⟨b, of, none⟩) (m + 1) c] wy fun e w' => e = .returned (.string k.s) ∧ Below wy.heap.size wy w') :
    Calls Tryz.prog 53 #[vaggNode q (some ⟨b, of, none⟩) (m + 1) c] w fun e w' => (∃ z, e = .returned (.tuple #[.int .i64 z, .bool RR])) ∧ Below w.heap.size w w' := by
  have ty0 := ty_agg_agg
  obtain ⟨kd, nu, st, tx, op, ms, ma, mc, off, fx, att, bo, byy, ns, na, nc, sd, es, ea, ec, kc⟩ := q
  simp only [vaggNode] at hk ⊢
  simp only at hRR
  have HL := hid hl
  have HK := hid hk
  clear hl hk
  obtain rfl : RR = false := by rw [← hRR]; rfl
  clear hRR
  obtain ⟨X, hX⟩ : ∃ X, X = w.alloc (.cells #[.int .i64 kd, .int .i64 nu, .int .i64 st, .string tx, .int .i64 op, .slice ma ms.length mc, .int .i64 off, .bool fx, .int .i64 att, .bool bo, .int .i64 byy, .slice na ns.length nc, .int .i64 sd, .slice ea es.length ec, .int .i64 kc, .slice (some ⟨b, of, none⟩) (m + 1) c] 123) := ⟨_, rfl⟩
  have hXB : Below w.heap.size w X := by rw [hX]; exact (Below.refl _ _).alloc (Nat.le_refl _) _
  have hXN : X.heap[w.heap.size]? = some (.cells #[.int .i64 kd, .int .i64 nu, .int .i64 st, .string tx, .int .i64 op, .slice ma ms.length mc, .int .i64 off, .bool fx, .int .i64 att, .bool bo, .int .i64 byy, .slice na ns.length nc, .int .i64 sd, .slice ea es.length ec, .int .i64 kc, .slice (some ⟨b, of, none⟩) (m + 1) c] 123) := by rw [hX]; exact heap_alloc_new _ _
  have x15 := box_at hXN 15 (.slice (some ⟨b, of, none⟩) (m + 1) c) rfl
  have x4 := box_at hXN 4 (.int .i64 op) rfl
  have xc := (hXB.cell (p := ⟨b, of + m, none⟩) hb).trans hcell
  have HBX := hid hXB
  have HXN := hid hXN
  have HXX := hid hX
  clear hX hXB hXN hcell hb
  go_enter Tryz.func53, Tryz.ntmps53
  go_upto_region 2 with fail
  rw [← HXX.out]
  clear HXX
  go_wp2_with (go_at_call 88; refine (HL.out _ HBX.out).mono ?_; rintro e w1 ⟨rfl, hb1⟩; have HB1 := hid (HBX.out.trans (hb1.mono HBX.out.size)); have u4 := box_at (kept HXN.out hb1) 4 (.int .i64 op) rfl; have HN1 := hid (kept HXN.out hb1); clear hb1)
  go_ret2
  exact ⟨⟨_, rfl⟩, HB1.out⟩
set_option maxHeartbeats 8000000 in
set_option maxRecDepth 100000 in
theorem sj_b (q : R) (b of m c : Nat) (tt : TypeId) (x : Value) (RR : Bool) (w : World) (hm : m ≤ 10) (hcell : w.cell? ⟨b, of + m, none⟩ = some (.iface tt x)) (hb : b < w.heap.size)
    (hRR : (true && decide (K.e ≠ .e) && decide (q.op = 1 ∨ q.op = 2 ∨ q.op = 3 ∨ q.op = 5)) = RR)
    (hl : ∀ wy, Below w.heap.size w wy → Calls Tryz.prog 88 #[.iface tt x] wy fun e w' => e = .returned (.bool true) ∧ Below wy.heap.size wy w')
    (hk : ∀ wy, Below w.heap.size w wy → Calls Tryz.prog 34 #[vaggNode q (some ⟨b, of, none⟩) (m + 1) c] wy fun e w' => e = .returned (.string ⟨#[]⟩) ∧ Below wy.heap.size wy w') :
    Calls Tryz.prog 53 #[vaggNode q (some ⟨b, of, none⟩) (m + 1) c] w fun e w' => (∃ z, e = .returned (.tuple #[.int .i64 z, .bool RR])) ∧ Below w.heap.size w w' := by
  have ty0 := ty_agg_agg
  obtain ⟨kd, nu, st, tx, op, ms, ma, mc, off, fx, att, bo, byy, ns, na, nc, sd, es, ea, ec, kc⟩ := q
  simp only [vaggNode] at hk ⊢
  simp only at hRR
  have HL := hid hl
  have HK := hid hk
  clear hl hk
  obtain rfl : RR = false := by rw [← hRR]; rfl
  clear hRR
  obtain ⟨X, hX⟩ : ∃ X, X = w.alloc (.cells #[.int .i64 kd, .int .i64 nu, .int .i64 st, .string tx, .int .i64 op, .slice ma ms.length mc, .int .i64 off, .bool fx, .int .i64 att, .bool bo, .int .i64 byy, .slice na ns.length nc, .int .i64 sd, .slice ea es.length ec, .int .i64 kc, .slice (some ⟨b, of, none⟩) (m + 1) c] 123) := ⟨_, rfl⟩
  have hXB : Below w.heap.size w X := by rw [hX]; exact (Below.refl _ _).alloc (Nat.le_refl _) _
  have hXN : X.heap[w.heap.size]? = some (.cells #[.int .i64 kd, .int .i64 nu, .int .i64 st, .string tx, .int .i64 op, .slice ma ms.length mc, .int .i64 off, .bool fx, .int .i64 att, .bool bo, .int .i64 byy, .slice na ns.length nc, .int .i64 sd, .slice ea es.length ec, .int .i64 kc, .slice (some ⟨b, of, none⟩) (m + 1) c] 123) := by rw [hX]; exact heap_alloc_new _ _
  have x15 := box_at hXN 15 (.slice (some ⟨b, of, none⟩) (m + 1) c) rfl
  have x4 := box_at hXN 4 (.int .i64 op) rfl
  have xc := (hXB.cell (p := ⟨b, of + m, none⟩) hb).trans hcell
  have HBX := hid hXB
  have HXN := hid hXN
  have HXX := hid hX
  clear hX hXB hXN hcell hb
  go_enter Tryz.func53, Tryz.ntmps53
  go_upto_region 2 with fail
  rw [← HXX.out]
  clear HXX
  go_wp2_with (first | (go_at_call 88; refine (HL.out _ HBX.out).mono ?_; rintro e w1 ⟨rfl, hb1⟩; have HB1 := hid (HBX.out.trans (hb1.mono HBX.out.size)); have u4 := box_at (kept HXN.out hb1) 4 (.int .i64 op) rfl; have HN1 := hid (kept HXN.out hb1); clear hb1) | (go_at_call 34; refine (HK.out _ HB1.out).mono ?_; rintro e w2 ⟨rfl, hb2⟩; have HB2 := hid (HB1.out.trans (hb2.mono HB1.out.size)); have z4 := box_at (kept HN1.out hb2) 4 (.int .i64 op) rfl; clear hb2))
  go_ret2
  exact ⟨⟨_, rfl⟩, HB2.out⟩
set_option maxHeartbeats 8000000 in
set_option maxRecDepth 100000 in
theorem sj_c (q : R) (b of m c : Nat) (tt : TypeId) (x : Value) (k : K) (RR : Bool) (w : World) (hm : m ≤ 10) (hcell : w.cell? ⟨b, of + m, none⟩ = some (.iface tt x)) (hb : b < w.heap.size)
    (hRR : (true && decide (k ≠ .e) && decide (q.op = 1 ∨ q.op = 2 ∨ q.op = 3 ∨ q.op = 5)) = RR) (he : k ≠ .e)
    (hl : ∀ wy, Below w.heap.size w wy → Calls Tryz.prog 88 #[.iface tt x] wy fun e w' => e = .returned (.bool true) ∧ Below wy.heap.size wy w')
    (hk : ∀ wy, Below w.heap.size w wy → Calls Tryz.prog 34 #[vaggNode q (some ⟨b, of, none⟩) (m + 1) c] wy fun e w' => e = .returned (.string k.s) ∧ Below wy.heap.size wy w') :
    Calls Tryz.prog 53 #[vaggNode q (some ⟨b, of, none⟩) (m + 1) c] w fun e w' => (∃ z, e = .returned (.tuple #[.int .i64 z, .bool RR])) ∧ Below w.heap.size w w' := by
  have ty0 := ty_agg_agg
  obtain ⟨kd, nu, st, tx, op, ms, ma, mc, off, fx, att, bo, byy, ns, na, nc, sd, es, ea, ec, kc⟩ := q
  simp only [vaggNode] at hk ⊢
  simp only at hRR
  have HL := hid hl
  have HK := hid hk
  clear hl hk
  have e1 : (k.s).toList.isEmpty = false := some_str (fun e => he (K.inj (b := .e) e))
  have HRR : Hid (decide (op = 1 ∨ op = 2 ∨ op = 3 ∨ op = 5) = RR) := by rw [← hRR, decide_eq_true he]; rfl
  clear hRR he
  obtain ⟨X, hX⟩ : ∃ X, X = w.alloc (.cells #[.int .i64 kd, .int .i64 nu, .int .i64 st, .string tx, .int .i64 op, .slice ma ms.length mc, .int .i64 off, .bool fx, .int .i64 att, .bool bo, .int .i64 byy, .slice na ns.length nc, .int .i64 sd, .slice ea es.length ec, .int .i64 kc, .slice (some ⟨b, of, none⟩) (m + 1) c] 123) := ⟨_, rfl⟩
  have hXB : Below w.heap.size w X := by rw [hX]; exact (Below.refl _ _).alloc (Nat.le_refl _) _
  have hXN : X.heap[w.heap.size]? = some (.cells #[.int .i64 kd, .int .i64 nu, .int .i64 st, .string tx, .int .i64 op, .slice ma ms.length mc, .int .i64 off, .bool fx, .int .i64 att, .bool bo, .int .i64 byy, .slice na ns.length nc, .int .i64 sd, .slice ea es.length ec, .int .i64 kc, .slice (some ⟨b, of, none⟩) (m + 1) c] 123) := by rw [hX]; exact heap_alloc_new _ _
  have x15 := box_at hXN 15 (.slice (some ⟨b, of, none⟩) (m + 1) c) rfl
  have x4 := box_at hXN 4 (.int .i64 op) rfl
  have xc := (hXB.cell (p := ⟨b, of + m, none⟩) hb).trans hcell
  have HBX := hid hXB
  have HXN := hid hXN
  have HXX := hid hX
  clear hX hXB hXN hcell hb
  go_enter Tryz.func53, Tryz.ntmps53
  go_upto_region 2 with fail
  rw [← HXX.out]
  clear HXX
  go_upto_region 4 with (first | (go_at_call 88; refine (HL.out _ HBX.out).mono ?_; rintro e w1 ⟨rfl, hb1⟩; have HB1 := hid (HBX.out.trans (hb1.mono HBX.out.size)); have u4 := box_at (kept HXN.out hb1) 4 (.int .i64 op) rfl; have HN1 := hid (kept HXN.out hb1); clear hb1) | (go_at_call 34; refine (HK.out _ HB1.out).mono ?_; rintro e w2 ⟨rfl, hb2⟩; have HB2 := hid (HB1.out.trans (hb2.mono HB1.out.size)); have z4 := box_at (kept HN1.out hb2) 4 (.int .i64 op) rfl; clear hb2))
  by_cases h1 : op = 1
  · obtain rfl : RR = true := by rw [← HRR.out]; exact decide_eq_true (by omega)
    have g1 : (op == 1) = true := by simpa using h1
    clear HRR h1
    go_wp2
    go_ret2
    exact ⟨⟨_, rfl⟩, HB2.out⟩
  have f1 : (op == 1) = false := by simpa using h1
  by_cases h5 : op = 5
  · obtain rfl : RR = true := by rw [← HRR.out]; exact decide_eq_true (by omega)
    have g5 : (op == 5) = true := by simpa using h5
    clear HRR h5
    go_wp2
    go_ret2
    exact ⟨⟨_, rfl⟩, HB2.out⟩
  have f5 : (op == 5) = false := by simpa using h5
  by_cases h2 : op = 2
  · obtain rfl : RR = true := by rw [← HRR.out]; exact decide_eq_true (by omega)
    have g2 : (op == 2) = true := by simpa using h2
    clear HRR h2
    go_wp2
    go_ret2
    exact ⟨⟨_, rfl⟩, HB2.out⟩
  have f2 : (op == 2) = false := by simpa using h2
  by_cases h3 : op = 3
  · obtain rfl : RR = true := by rw [← HRR.out]; exact decide_eq_true (by omega)
    have g3 : (op == 3) = true := by simpa using h3
    clear HRR h3
    go_wp2
    go_ret2
    exact ⟨⟨_, rfl⟩, HB2.out⟩
  have f3 : (op == 3) = false := by simpa using h3
  obtain rfl : RR = false := by rw [← HRR.out]; exact decide_eq_false (by omega)
  clear HRR h1 h2 h3 h5
  go_wp2
  go_ret2
  exact ⟨⟨_, rfl⟩, HB2.out⟩
set_option maxHeartbeats 8000000 in
set_option maxRecDepth 100000 in
theorem sj_agg (q : R) (b of m c : Nat) (tt : TypeId) (x : Value) (r : Bool) (k : K) (RR : Bool) (w : World) (hm : m ≤ 10) (hcell : w.cell? ⟨b, of + m, none⟩ = some (.iface tt x)) (hb : b < w.heap.size)
    (hRR : (r && decide (k ≠ .e) && decide (q.op = 1 ∨ q.op = 2 ∨ q.op = 3 ∨ q.op = 5)) = RR)
    (hl : ∀ wy, Below w.heap.size w wy → Calls Tryz.prog 88 #[.iface tt x] wy fun e w' => e = .returned (.bool r) ∧ Below wy.heap.size wy w')
    (hk : ∀ wy, Below w.heap.size w wy → Calls Tryz.prog 34 #[vaggNode q (some ⟨b, of, none⟩) (m + 1) c] wy fun e w' => e = .returned (.string k.s) ∧ Below wy.heap.size wy w') :
    Calls Tryz.prog 53 #[vaggNode q (some ⟨b, of, none⟩) (m + 1) c] w fun e w' => (∃ z, e = .returned (.tuple #[.int .i64 z, .bool RR])) ∧ Below w.heap.size w w' := by
  cases r with
  | false => exact sj_a q b of m c tt x k RR w hm hcell hb hRR hl hk
  | true =>
    by_cases he : k = .e
    · subst he
      exact sj_b q b of m c tt x RR w hm hcell hb hRR hl hk
    exact sj_c q b of m c tt x k RR w hm hcell hb hRR he hl hk
theorem f53 (t : Tr) (v : Value) (w0 : World) (S : Nat → Prop) (w : World) (hg : Gt NM 1 t) (hv : Nv w0 S w t v) (hb : Below w0.heap.size w0 w) (ht : Tabs w) :
    Calls Tryz.prog 53 #[v] w fun e w' => (∃ z, e = .returned (.tuple #[.int .i64 z, .bool (shT t)])) ∧ Below w.heap.size w w' := by
  have g := (gt_iff t 0).1 hg
  have hv0 := hv
  obtain ⟨r, ks⟩ := t
  simp only [Nv] at hv
  obtain ⟨q, vs, rfl, hrw, hnl, hsh⟩ := hv
  have hkid : ∀ (i : Nat) (t : Tr) (v : Value), ks[i]? = some t → Nv w0 S w t v → ∀ y, Below w.heap.size w y → Calls Tryz.prog 88 #[v] y fun e w' => e = .returned (.bool (byT clP t)) ∧ Below y.heap.size y w' := fun i t v hi hn y hy =>
    bsOk 11 t v w0 S y 1 rfl (gt1_kid hi g.1) (gt2_kids hi g.2) (Nv.agr (Agr.below hy) t v hn) (hb.trans (hy.mono hb.size)) (ht.below hy)
  have hkn : ∀ y, Below w.heap.size w y → Calls Tryz.prog 34 #[v] y (KnQ (kdT (.nd (pl q) ks)) y) := fun y hy =>
    knOk 12 _ v w0 S y 0 rfl g.1 g.2 (Nv.agr (Agr.below hy) _ v hv0) (hb.trans (hy.mono hb.size)) (ht.below hy)
  clear hv0
  cases hsh with
  | num h => rw [sh_other (by simp only [pl]; omega)]; exact sj_num q w
  | text h => rw [sh_other (by simp only [pl]; omega)]; exact sj_text q w
  | sel h => rw [sh_other (by simp only [pl]; omega)]; exact sj_sel q w
  | range h p => rw [sh_other (by simp only [pl]; omega)]; exact sj_range q p w
  | sub h tt x => rw [sh_other (by simp only [pl]; omega)]; exact sj_sub q tt x w
  | neg h tt x => rw [sh_other (by simp only [pl]; omega)]; exact sj_neg q tt x w
  | op h tt x uu y => rw [sh_other (by simp only [pl]; omega)]; exact sj_op q tt x uu y w
  | call h vs a c hv => rw [sh_other (by simp only [pl]; omega)]; exact sj_call q a _ c w
  | agg h vs a c hv =>
    have hl := NvL.len _ _ hnl
    have h6 := agg_kids hg h
    have h12 : ks.length = 1 ∨ ks.length = 2 := by
      by_cases e : 6 ≤ (pl q).op
      · rw [if_pos e] at h6; exact .inr h6
      · rw [if_neg e] at h6; exact .inl h6
    obtain ⟨m, hm⟩ : ∃ m, vs.length = m + 1 := ⟨vs.length - 1, by omega⟩
    obtain ⟨t, v, e1, e2, e3⟩ := NvL.at_ _ _ hnl m (by omega)
    obtain ⟨tt, x, rfl⟩ := e3.iface
    rcases hv with hv | ⟨b, of, rfl, _, hbl, hc⟩
    · rw [hv] at hm; simp at hm
    have hcell := (hc m (by omega)).trans e2
    rw [hm] at hkn ⊢
    have e1' : ks[ks.length - 1]? = some t := by rw [show ks.length - 1 = m from by omega]; exact e1
    have key := fun RR hRR => sj_agg q b of m c tt x (byT clP t) (kdT (.nd (pl q) ks)) RR w (by omega) hcell hbl hRR (hkid m t _ e1 e3) hkn
    have hs : shT (.nd (pl q) ks) = (byT clP t && decide (kdT (.nd (pl q) ks) ≠ .e) && decide (q.op = 1 ∨ q.op = 2 ∨ q.op = 3 ∨ q.op = 5)) := by
      by_cases hke : kdT (.nd (pl q) ks) = .e
      · rw [sh_none hke]; simp [hke]
      · cases hbt : byT clP t
        · rw [sh_by hg h e1' hbt]; rfl
        · rw [sh_prog hg h e1' hke hbt, decide_eq_true (p := kdT (.nd (pl q) ks) ≠ .e) hke]; rfl
    exact key _ hs.symm
/-- Whether shards can be asked a question, as the program says. -/
def ShR (ps : List Pl) (w : World) (e : Ending) (w' : World) : Prop :=
  Below w.heap.size w w' ∧ ((e = .returned (.bool false) ∧ ¬ GoodQ ps) ∨ ∃ t, e = .returned (.bool (shT t)) ∧ ps = rows t ∧ ps.length ≤ 60 ∧ Gt NM 1 t)
set_option maxHeartbeats 4000000 in
theorem f23 (rs : List R) (a : Option Addr) (c : Nat) (w0 w : World) (hl : rs.length ≤ maxLen) (hc : rs.length ≤ c) (hcm : c ≤ maxLen) (hr : HasR w a rs) (hrw : ∀ q ∈ rs, Rw w0 q) (hb0 : Below w0.heap.size w0 w) (ht : Tabs w) : Calls Tryz.prog 23 #[.slice a rs.length c] w (ShR (rs.map pl) w) := by
  have HG := hid (f33 rs a c w0 w hl hc hcm hr hrw hb0 ht)
  have HT := hid ht
  have HB0 := hid hb0
  clear hr hrw hb0 ht
  go_enter Tryz.func23, Tryz.ntmps23
  go_wp2_with fail
  refine HG.out.mono ?_
  rintro e w1 ⟨hb1, hk⟩
  rcases hk with ⟨v, rfl, hno⟩ | ⟨t, v, rfl, he, h60, hgt, hnv⟩
  · have HN := hid hno
    have HB1 := hid hb1
    clear hno hb1
    go_wp2
    go_ret
    exact ⟨HB1.out, .inl ⟨rfl, HN.out⟩⟩
  · have HB1 := hid hb1
    have HE := hid he
    have H6 := hid h60
    have HGT := hid hgt
    have HC := hid (f53 t v w0 _ w1 hgt hnv (HB0.out.trans (hb1.mono HB0.out.size)) (HT.out.below hb1))
    clear hb1 he h60 hgt hnv
    go_wp2_with (go_at_call 53; refine HC.out.mono ?_; rintro e w2 ⟨⟨z, rfl⟩, hb2⟩; have HB2 := hid hb2; clear hb2)
    go_ret
    exact ⟨HB1.out.trans (HB2.out.mono HB1.out.size), .inr ⟨t, rfl, HE.out, H6.out, HGT.out⟩⟩
end Go.Proofs.YtbdlahhejfamhaaGreatDoor.Qry
