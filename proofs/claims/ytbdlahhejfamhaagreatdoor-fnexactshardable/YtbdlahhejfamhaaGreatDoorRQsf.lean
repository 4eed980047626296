/- The model: operations that go by series. -/
import Derived.Test.YtbdlahhejfamhaaGreatDoorRS2
namespace Go.Proofs.YtbdlahhejfamhaaGreatDoor.Qry
open Go.RowKit

set_option maxHeartbeats 8000000 in
set_option maxRecDepth 100000 in
theorem lo_big (q : R) (b o c : Nat) (y z : E) (c0 c1 b0 b1 : Bool) (RR : Bool) (w : World) (h : q.kd = 7) (o1 : 11 < q.op) (hb : b < w.heap.size) (hy : KC w b o y) (hz : KC w b (o + 16) z)
    (hRR : (decide (q.op ≤ 11 ∧ q.byy = 0) && (c0 && b1 || c1 && b0)) = RR)
    (hc0 : ∀ y', Below w.heap.size w y' → Calls Tryz.prog 74 #[agX y] y' fun e w' => (∃ z, e = .returned (.tuple #[.int .i64 z, .bool c0])) ∧ Below y'.heap.size y' w')
    (hc1 : ∀ y', Below w.heap.size w y' → Calls Tryz.prog 74 #[agX z] y' fun e w' => (∃ z, e = .returned (.tuple #[.int .i64 z, .bool c1])) ∧ Below y'.heap.size y' w')
    (hl : ∀ y', Below w.heap.size w y' → Calls Tryz.prog 87 #[agX y] y' fun e w' => e = .returned (.bool b0) ∧ Below y'.heap.size y' w')
    (hr : ∀ y', Below w.heap.size w y' → Calls Tryz.prog 87 #[agX z] y' fun e w' => e = .returned (.bool b1) ∧ Below y'.heap.size y' w') :
    Calls Tryz.prog 87 #[agX ⟨q, some ⟨b, o, none⟩, 2, c⟩] w fun e w' => e = .returned (.bool RR) ∧ Below w.heap.size w w' := by
  have HC0 := hid hc0
  have HC1 := hid hc1
  have HL := hid hl
  have HR := hid hr
  have HB := hid hb
  have HY := hid hy
  have HZ := hid hz
  obtain ⟨kd, nu, st, tx, op, ms, ma, mc, of, fx, att, bo, byy, ns, na, nc, sd, es, ea, ec, kc⟩ := q
  simp only at h hRR
  subst h
  simp only at o1
  obtain rfl : RR = false := by rw [← hRR, decide_eq_false (by omega)]; rfl
  clear hRR
  obtain ⟨X, hX⟩ : ∃ X, X = w.alloc (.cells #[.int .i64 7, .int .i64 nu, .int .i64 st, .string tx, .int .i64 op, .slice ma ms.length mc, .int .i64 of, .bool fx, .int .i64 att, .bool bo, .int .i64 byy, .slice na ns.length nc, .int .i64 sd, .slice ea es.length ec, .int .i64 kc, .slice (some ⟨b, o, none⟩) 2 c] 58) := ⟨_, rfl⟩
  have hXB : Below w.heap.size w X := by rw [hX]; exact (Below.refl _ _).alloc (Nat.le_refl _) _
  have hXN : X.heap[w.heap.size]? = some (.cells #[.int .i64 7, .int .i64 nu, .int .i64 st, .string tx, .int .i64 op, .slice ma ms.length mc, .int .i64 of, .bool fx, .int .i64 att, .bool bo, .int .i64 byy, .slice na ns.length nc, .int .i64 sd, .slice ea es.length ec, .int .i64 kc, .slice (some ⟨b, o, none⟩) 2 c] 58) := by rw [hX]; exact heap_alloc_new _ _
  have HXN := hid hXN
  have HXB := hid hXB
  have HXX := hid hX
  obtain ⟨d0, d1, d2, d3, d4, d5, d6, d7, d8, d9, d10, d11, d12, d13, d14, d15⟩ := sixteen hXN
  clear hX hXB hXN
  obtain ⟨n0, n1, n2, n3, n4, n5, n6, n7, n8, n9, n10, n11, n12, n13, n14, n15⟩ := (hy.below HXB.out hb).all
  clear hc0 hc1 hl hr hy hz hb
  go_enter Tryz.func87, Tryz.ntmps87
  go_upto_region 1 with fail
  rw [← HXX.out]
  clear HXX
  go_wp2
  go_ret
  exact ⟨rfl, HXB.out⟩
set_option maxHeartbeats 8000000 in
set_option maxRecDepth 100000 in
theorem lo_by (q : R) (b o c : Nat) (y z : E) (c0 c1 b0 b1 : Bool) (RR : Bool) (w : World) (h : q.kd = 7) (o1 : ¬ 11 < q.op) (o2 : q.byy ≠ 0) (hb : b < w.heap.size) (hy : KC w b o y) (hz : KC w b (o + 16) z)
    (hRR : (decide (q.op ≤ 11 ∧ q.byy = 0) && (c0 && b1 || c1 && b0)) = RR)
    (hc0 : ∀ y', Below w.heap.size w y' → Calls Tryz.prog 74 #[agX y] y' fun e w' => (∃ z, e = .returned (.tuple #[.int .i64 z, .bool c0])) ∧ Below y'.heap.size y' w')
    (hc1 : ∀ y', Below w.heap.size w y' → Calls Tryz.prog 74 #[agX z] y' fun e w' => (∃ z, e = .returned (.tuple #[.int .i64 z, .bool c1])) ∧ Below y'.heap.size y' w')
    (hl : ∀ y', Below w.heap.size w y' → Calls Tryz.prog 87 #[agX y] y' fun e w' => e = .returned (.bool b0) ∧ Below y'.heap.size y' w')
    (hr : ∀ y', Below w.heap.size w y' → Calls Tryz.prog 87 #[agX z] y' fun e w' => e = .returned (.bool b1) ∧ Below y'.heap.size y' w') :
    Calls Tryz.prog 87 #[agX ⟨q, some ⟨b, o, none⟩, 2, c⟩] w fun e w' => e = .returned (.bool RR) ∧ Below w.heap.size w w' := by
  have HC0 := hid hc0
  have HC1 := hid hc1
  have HL := hid hl
  have HR := hid hr
  have HB := hid hb
  have HY := hid hy
  have HZ := hid hz
  obtain ⟨kd, nu, st, tx, op, ms, ma, mc, of, fx, att, bo, byy, ns, na, nc, sd, es, ea, ec, kc⟩ := q
  simp only at h hRR
  subst h
  simp only at o1 o2
  obtain rfl : RR = false := by rw [← hRR, decide_eq_false (fun h => o2 h.2)]; rfl
  have e2 := rule_off o2
  have e3 : (byy != 0) = true := by simpa using o2
  clear hRR o2
  obtain ⟨X, hX⟩ : ∃ X, X = w.alloc (.cells #[.int .i64 7, .int .i64 nu, .int .i64 st, .string tx, .int .i64 op, .slice ma ms.length mc, .int .i64 of, .bool fx, .int .i64 att, .bool bo, .int .i64 byy, .slice na ns.length nc, .int .i64 sd, .slice ea es.length ec, .int .i64 kc, .slice (some ⟨b, o, none⟩) 2 c] 58) := ⟨_, rfl⟩
  have hXB : Below w.heap.size w X := by rw [hX]; exact (Below.refl _ _).alloc (Nat.le_refl _) _
  have hXN : X.heap[w.heap.size]? = some (.cells #[.int .i64 7, .int .i64 nu, .int .i64 st, .string tx, .int .i64 op, .slice ma ms.length mc, .int .i64 of, .bool fx, .int .i64 att, .bool bo, .int .i64 byy, .slice na ns.length nc, .int .i64 sd, .slice ea es.length ec, .int .i64 kc, .slice (some ⟨b, o, none⟩) 2 c] 58) := by rw [hX]; exact heap_alloc_new _ _
  have HXN := hid hXN
  have HXB := hid hXB
  have HXX := hid hX
  obtain ⟨d0, d1, d2, d3, d4, d5, d6, d7, d8, d9, d10, d11, d12, d13, d14, d15⟩ := sixteen hXN
  clear hX hXB hXN
  obtain ⟨n0, n1, n2, n3, n4, n5, n6, n7, n8, n9, n10, n11, n12, n13, n14, n15⟩ := (hy.below HXB.out hb).all
  clear hc0 hc1 hl hr hy hz hb
  go_enter Tryz.func87, Tryz.ntmps87
  go_upto_region 1 with fail
  rw [← HXX.out]
  clear HXX
  go_wp2
  go_ret
  exact ⟨rfl, HXB.out⟩
set_option maxHeartbeats 8000000 in
set_option maxRecDepth 100000 in
theorem lo_tt (q : R) (b o c : Nat) (y z : E) (c1 b0 : Bool) (RR : Bool) (w : World) (h : q.kd = 7) (o1 : ¬ 11 < q.op) (o2 : q.byy = 0) (hb : b < w.heap.size) (hy : KC w b o y) (hz : KC w b (o + 16) z)
    (hRR : (decide (q.op ≤ 11 ∧ q.byy = 0) && (true && true || c1 && b0)) = RR)
    (hc0 : ∀ y', Below w.heap.size w y' → Calls Tryz.prog 74 #[agX y] y' fun e w' => (∃ z, e = .returned (.tuple #[.int .i64 z, .bool true])) ∧ Below y'.heap.size y' w')
    (hc1 : ∀ y', Below w.heap.size w y' → Calls Tryz.prog 74 #[agX z] y' fun e w' => (∃ z, e = .returned (.tuple #[.int .i64 z, .bool c1])) ∧ Below y'.heap.size y' w')
    (hl : ∀ y', Below w.heap.size w y' → Calls Tryz.prog 87 #[agX y] y' fun e w' => e = .returned (.bool b0) ∧ Below y'.heap.size y' w')
    (hr : ∀ y', Below w.heap.size w y' → Calls Tryz.prog 87 #[agX z] y' fun e w' => e = .returned (.bool true) ∧ Below y'.heap.size y' w') :
    Calls Tryz.prog 87 #[agX ⟨q, some ⟨b, o, none⟩, 2, c⟩] w fun e w' => e = .returned (.bool RR) ∧ Below w.heap.size w w' := by
  have HC0 := hid hc0
  have HC1 := hid hc1
  have HL := hid hl
  have HR := hid hr
  have HB := hid hb
  have HY := hid hy
  have HZ := hid hz
  obtain ⟨kd, nu, st, tx, op, ms, ma, mc, of, fx, att, bo, byy, ns, na, nc, sd, es, ea, ec, kc⟩ := q
  simp only at h hRR
  subst h
  simp only at o1 o2
  subst o2
  obtain rfl : RR = true := by rw [← hRR, decide_eq_true (p := op ≤ 11 ∧ (0 : Int) = 0) ⟨by omega, rfl⟩]; simp
  clear hRR
  obtain ⟨X, hX⟩ : ∃ X, X = w.alloc (.cells #[.int .i64 7, .int .i64 nu, .int .i64 st, .string tx, .int .i64 op, .slice ma ms.length mc, .int .i64 of, .bool fx, .int .i64 att, .bool bo, .int .i64 0, .slice na ns.length nc, .int .i64 sd, .slice ea es.length ec, .int .i64 kc, .slice (some ⟨b, o, none⟩) 2 c] 58) := ⟨_, rfl⟩
  have hXB : Below w.heap.size w X := by rw [hX]; exact (Below.refl _ _).alloc (Nat.le_refl _) _
  have hXN : X.heap[w.heap.size]? = some (.cells #[.int .i64 7, .int .i64 nu, .int .i64 st, .string tx, .int .i64 op, .slice ma ms.length mc, .int .i64 of, .bool fx, .int .i64 att, .bool bo, .int .i64 0, .slice na ns.length nc, .int .i64 sd, .slice ea es.length ec, .int .i64 kc, .slice (some ⟨b, o, none⟩) 2 c] 58) := by rw [hX]; exact heap_alloc_new _ _
  have HXN := hid hXN
  have HXB := hid hXB
  have HXX := hid hX
  obtain ⟨d0, d1, d2, d3, d4, d5, d6, d7, d8, d9, d10, d11, d12, d13, d14, d15⟩ := sixteen hXN
  clear hX hXB hXN
  obtain ⟨n0, n1, n2, n3, n4, n5, n6, n7, n8, n9, n10, n11, n12, n13, n14, n15⟩ := (hy.below HXB.out hb).all
  clear hc0 hc1 hl hr hy hz hb
  go_enter Tryz.func87, Tryz.ntmps87
  go_upto_region 1 with fail
  rw [← HXX.out]
  clear HXX
  go_wp2_with fail
  refine (HC0.out _ HXB.out).mono ?_
  rintro e w1 ⟨⟨z0, rfl⟩, hb1⟩
  have HB1 := hid (HXB.out.trans (hb1.mono HXB.out.size))
  have p15 := celS (kept HXN.out hb1) 15 (.slice (some ⟨b, o, none⟩) 2 c) rfl
  have HN1 := hid (kept HXN.out hb1)
  obtain ⟨m0, m1, m2, m3, m4, m5, m6, m7, m8, m9, m10, m11, m12, m13, m14, m15⟩ := (HZ.out.below HB1.out HB.out).all
  clear hb1
  go_wp2_with fail
  refine (HC1.out _ HB1.out).mono ?_
  rintro e w2 ⟨⟨z1, rfl⟩, hb2⟩
  have HB2 := hid (HB1.out.trans (hb2.mono HB1.out.size))
  have HN2 := hid (kept HN1.out hb2)
  clear hb2
  go_upto_region 11 with fail
  have q15 := celS HN2.out 15 (.slice (some ⟨b, o, none⟩) 2 c) rfl
  obtain ⟨s0, s1, s2, s3, s4, s5, s6, s7, s8, s9, s10, s11, s12, s13, s14, s15⟩ := (HY.out.below HB2.out HB.out).all
  obtain ⟨t0, t1, t2, t3, t4, t5, t6, t7, t8, t9, t10, t11, t12, t13, t14, t15⟩ := (HZ.out.below HB2.out HB.out).all
  go_wp2_with fail
  refine (HR.out _ HB2.out).mono ?_
  rintro e w3 ⟨rfl, hb3⟩
  have HB3 := hid (HB2.out.trans (hb3.mono HB2.out.size))
  have r15 := celS (kept HN2.out hb3) 15 (.slice (some ⟨b, o, none⟩) 2 c) rfl
  obtain ⟨v0, v1, v2, v3, v4, v5, v6, v7, v8, v9, v10, v11, v12, v13, v14, v15⟩ := (HY.out.below HB3.out HB.out).all
  clear hb3
  go_wp2
  go_ret
  exact ⟨rfl, HB3.out⟩
set_option maxHeartbeats 8000000 in
set_option maxRecDepth 100000 in
theorem lo_tt2 (q : R) (b o c : Nat) (y z : E) (RR : Bool) (w : World) (h : q.kd = 7) (o1 : ¬ 11 < q.op) (o2 : q.byy = 0) (hb : b < w.heap.size) (hy : KC w b o y) (hz : KC w b (o + 16) z)
    (hRR : (decide (q.op ≤ 11 ∧ q.byy = 0) && (true && false || true && true)) = RR)
    (hc0 : ∀ y', Below w.heap.size w y' → Calls Tryz.prog 74 #[agX y] y' fun e w' => (∃ z, e = .returned (.tuple #[.int .i64 z, .bool true])) ∧ Below y'.heap.size y' w')
    (hc1 : ∀ y', Below w.heap.size w y' → Calls Tryz.prog 74 #[agX z] y' fun e w' => (∃ z, e = .returned (.tuple #[.int .i64 z, .bool true])) ∧ Below y'.heap.size y' w')
    (hl : ∀ y', Below w.heap.size w y' → Calls Tryz.prog 87 #[agX y] y' fun e w' => e = .returned (.bool true) ∧ Below y'.heap.size y' w')
    (hr : ∀ y', Below w.heap.size w y' → Calls Tryz.prog 87 #[agX z] y' fun e w' => e = .returned (.bool false) ∧ Below y'.heap.size y' w') :
    Calls Tryz.prog 87 #[agX ⟨q, some ⟨b, o, none⟩, 2, c⟩] w fun e w' => e = .returned (.bool RR) ∧ Below w.heap.size w w' := by
  have HC0 := hid hc0
  have HC1 := hid hc1
  have HL := hid hl
  have HR := hid hr
  have HB := hid hb
  have HY := hid hy
  have HZ := hid hz
  obtain ⟨kd, nu, st, tx, op, ms, ma, mc, of, fx, att, bo, byy, ns, na, nc, sd, es, ea, ec, kc⟩ := q
  simp only at h hRR
  subst h
  simp only at o1 o2
  subst o2
  obtain rfl : RR = true := by rw [← hRR, decide_eq_true (p := op ≤ 11 ∧ (0 : Int) = 0) ⟨by omega, rfl⟩]; simp
  clear hRR
  obtain ⟨X, hX⟩ : ∃ X, X = w.alloc (.cells #[.int .i64 7, .int .i64 nu, .int .i64 st, .string tx, .int .i64 op, .slice ma ms.length mc, .int .i64 of, .bool fx, .int .i64 att, .bool bo, .int .i64 0, .slice na ns.length nc, .int .i64 sd, .slice ea es.length ec, .int .i64 kc, .slice (some ⟨b, o, none⟩) 2 c] 58) := ⟨_, rfl⟩
  have hXB : Below w.heap.size w X := by rw [hX]; exact (Below.refl _ _).alloc (Nat.le_refl _) _
  have hXN : X.heap[w.heap.size]? = some (.cells #[.int .i64 7, .int .i64 nu, .int .i64 st, .string tx, .int .i64 op, .slice ma ms.length mc, .int .i64 of, .bool fx, .int .i64 att, .bool bo, .int .i64 0, .slice na ns.length nc, .int .i64 sd, .slice ea es.length ec, .int .i64 kc, .slice (some ⟨b, o, none⟩) 2 c] 58) := by rw [hX]; exact heap_alloc_new _ _
  have HXN := hid hXN
  have HXB := hid hXB
  have HXX := hid hX
  obtain ⟨d0, d1, d2, d3, d4, d5, d6, d7, d8, d9, d10, d11, d12, d13, d14, d15⟩ := sixteen hXN
  clear hX hXB hXN
  obtain ⟨n0, n1, n2, n3, n4, n5, n6, n7, n8, n9, n10, n11, n12, n13, n14, n15⟩ := (hy.below HXB.out hb).all
  clear hc0 hc1 hl hr hy hz hb
  go_enter Tryz.func87, Tryz.ntmps87
  go_upto_region 1 with fail
  rw [← HXX.out]
  clear HXX
  go_wp2_with fail
  refine (HC0.out _ HXB.out).mono ?_
  rintro e w1 ⟨⟨z0, rfl⟩, hb1⟩
  have HB1 := hid (HXB.out.trans (hb1.mono HXB.out.size))
  have p15 := celS (kept HXN.out hb1) 15 (.slice (some ⟨b, o, none⟩) 2 c) rfl
  have HN1 := hid (kept HXN.out hb1)
  obtain ⟨m0, m1, m2, m3, m4, m5, m6, m7, m8, m9, m10, m11, m12, m13, m14, m15⟩ := (HZ.out.below HB1.out HB.out).all
  clear hb1
  go_wp2_with fail
  refine (HC1.out _ HB1.out).mono ?_
  rintro e w2 ⟨⟨z1, rfl⟩, hb2⟩
  have HB2 := hid (HB1.out.trans (hb2.mono HB1.out.size))
  have HN2 := hid (kept HN1.out hb2)
  clear hb2
  go_upto_region 11 with fail
  have q15 := celS HN2.out 15 (.slice (some ⟨b, o, none⟩) 2 c) rfl
  obtain ⟨s0, s1, s2, s3, s4, s5, s6, s7, s8, s9, s10, s11, s12, s13, s14, s15⟩ := (HY.out.below HB2.out HB.out).all
  obtain ⟨t0, t1, t2, t3, t4, t5, t6, t7, t8, t9, t10, t11, t12, t13, t14, t15⟩ := (HZ.out.below HB2.out HB.out).all
  go_wp2_with fail
  refine (HR.out _ HB2.out).mono ?_
  rintro e w3 ⟨rfl, hb3⟩
  have HB3 := hid (HB2.out.trans (hb3.mono HB2.out.size))
  have r15 := celS (kept HN2.out hb3) 15 (.slice (some ⟨b, o, none⟩) 2 c) rfl
  obtain ⟨v0, v1, v2, v3, v4, v5, v6, v7, v8, v9, v10, v11, v12, v13, v14, v15⟩ := (HY.out.below HB3.out HB.out).all
  clear hb3
  go_wp2_with fail
  refine (HL.out _ HB3.out).mono ?_
  rintro e w4 ⟨rfl, hb4⟩
  have HB4 := hid (HB3.out.trans (hb4.mono HB3.out.size))
  clear hb4
  go_wp2
  go_ret
  exact ⟨rfl, HB4.out⟩
set_option maxHeartbeats 8000000 in
set_option maxRecDepth 100000 in
theorem lo_tf (q : R) (b o c : Nat) (y z : E) (RR : Bool) (w : World) (h : q.kd = 7) (o1 : ¬ 11 < q.op) (o2 : q.byy = 0) (hb : b < w.heap.size) (hy : KC w b o y) (hz : KC w b (o + 16) z)
    (hRR : (decide (q.op ≤ 11 ∧ q.byy = 0) && (true && false || true && false)) = RR)
    (hc0 : ∀ y', Below w.heap.size w y' → Calls Tryz.prog 74 #[agX y] y' fun e w' => (∃ z, e = .returned (.tuple #[.int .i64 z, .bool true])) ∧ Below y'.heap.size y' w')
    (hc1 : ∀ y', Below w.heap.size w y' → Calls Tryz.prog 74 #[agX z] y' fun e w' => (∃ z, e = .returned (.tuple #[.int .i64 z, .bool true])) ∧ Below y'.heap.size y' w')
    (hl : ∀ y', Below w.heap.size w y' → Calls Tryz.prog 87 #[agX y] y' fun e w' => e = .returned (.bool false) ∧ Below y'.heap.size y' w')
    (hr : ∀ y', Below w.heap.size w y' → Calls Tryz.prog 87 #[agX z] y' fun e w' => e = .returned (.bool false) ∧ Below y'.heap.size y' w') :
    Calls Tryz.prog 87 #[agX ⟨q, some ⟨b, o, none⟩, 2, c⟩] w fun e w' => e = .returned (.bool RR) ∧ Below w.heap.size w w' := by
  have HC0 := hid hc0
  have HC1 := hid hc1
  have HL := hid hl
  have HR := hid hr
  have HB := hid hb
  have HY := hid hy
  have HZ := hid hz
  obtain ⟨kd, nu, st, tx, op, ms, ma, mc, of, fx, att, bo, byy, ns, na, nc, sd, es, ea, ec, kc⟩ := q
  simp only at h hRR
  subst h
  simp only at o1 o2
  subst o2
  obtain rfl : RR = false := by rw [← hRR, decide_eq_true (p := op ≤ 11 ∧ (0 : Int) = 0) ⟨by omega, rfl⟩]; simp
  clear hRR
  obtain ⟨X, hX⟩ : ∃ X, X = w.alloc (.cells #[.int .i64 7, .int .i64 nu, .int .i64 st, .string tx, .int .i64 op, .slice ma ms.length mc, .int .i64 of, .bool fx, .int .i64 att, .bool bo, .int .i64 0, .slice na ns.length nc, .int .i64 sd, .slice ea es.length ec, .int .i64 kc, .slice (some ⟨b, o, none⟩) 2 c] 58) := ⟨_, rfl⟩
  have hXB : Below w.heap.size w X := by rw [hX]; exact (Below.refl _ _).alloc (Nat.le_refl _) _
  have hXN : X.heap[w.heap.size]? = some (.cells #[.int .i64 7, .int .i64 nu, .int .i64 st, .string tx, .int .i64 op, .slice ma ms.length mc, .int .i64 of, .bool fx, .int .i64 att, .bool bo, .int .i64 0, .slice na ns.length nc, .int .i64 sd, .slice ea es.length ec, .int .i64 kc, .slice (some ⟨b, o, none⟩) 2 c] 58) := by rw [hX]; exact heap_alloc_new _ _
  have HXN := hid hXN
  have HXB := hid hXB
  have HXX := hid hX
  obtain ⟨d0, d1, d2, d3, d4, d5, d6, d7, d8, d9, d10, d11, d12, d13, d14, d15⟩ := sixteen hXN
  clear hX hXB hXN
  obtain ⟨n0, n1, n2, n3, n4, n5, n6, n7, n8, n9, n10, n11, n12, n13, n14, n15⟩ := (hy.below HXB.out hb).all
  clear hc0 hc1 hl hr hy hz hb
  go_enter Tryz.func87, Tryz.ntmps87
  go_upto_region 1 with fail
  rw [← HXX.out]
  clear HXX
  go_wp2_with fail
  refine (HC0.out _ HXB.out).mono ?_
  rintro e w1 ⟨⟨z0, rfl⟩, hb1⟩
  have HB1 := hid (HXB.out.trans (hb1.mono HXB.out.size))
  have p15 := celS (kept HXN.out hb1) 15 (.slice (some ⟨b, o, none⟩) 2 c) rfl
  have HN1 := hid (kept HXN.out hb1)
  obtain ⟨m0, m1, m2, m3, m4, m5, m6, m7, m8, m9, m10, m11, m12, m13, m14, m15⟩ := (HZ.out.below HB1.out HB.out).all
  clear hb1
  go_wp2_with fail
  refine (HC1.out _ HB1.out).mono ?_
  rintro e w2 ⟨⟨z1, rfl⟩, hb2⟩
  have HB2 := hid (HB1.out.trans (hb2.mono HB1.out.size))
  have HN2 := hid (kept HN1.out hb2)
  clear hb2
  go_upto_region 11 with fail
  have q15 := celS HN2.out 15 (.slice (some ⟨b, o, none⟩) 2 c) rfl
  obtain ⟨s0, s1, s2, s3, s4, s5, s6, s7, s8, s9, s10, s11, s12, s13, s14, s15⟩ := (HY.out.below HB2.out HB.out).all
  obtain ⟨t0, t1, t2, t3, t4, t5, t6, t7, t8, t9, t10, t11, t12, t13, t14, t15⟩ := (HZ.out.below HB2.out HB.out).all
  go_wp2_with fail
  refine (HR.out _ HB2.out).mono ?_
  rintro e w3 ⟨rfl, hb3⟩
  have HB3 := hid (HB2.out.trans (hb3.mono HB2.out.size))
  have r15 := celS (kept HN2.out hb3) 15 (.slice (some ⟨b, o, none⟩) 2 c) rfl
  obtain ⟨v0, v1, v2, v3, v4, v5, v6, v7, v8, v9, v10, v11, v12, v13, v14, v15⟩ := (HY.out.below HB3.out HB.out).all
  clear hb3
  go_wp2_with fail
  refine (HL.out _ HB3.out).mono ?_
  rintro e w4 ⟨rfl, hb4⟩
  have HB4 := hid (HB3.out.trans (hb4.mono HB3.out.size))
  clear hb4
  go_wp2
  go_ret
  exact ⟨rfl, HB4.out⟩
set_option maxHeartbeats 8000000 in
set_option maxRecDepth 100000 in
theorem lo_t0 (q : R) (b o c : Nat) (y z : E) (b0 : Bool) (RR : Bool) (w : World) (h : q.kd = 7) (o1 : ¬ 11 < q.op) (o2 : q.byy = 0) (hb : b < w.heap.size) (hy : KC w b o y) (hz : KC w b (o + 16) z)
    (hRR : (decide (q.op ≤ 11 ∧ q.byy = 0) && (true && false || false && b0)) = RR)
    (hc0 : ∀ y', Below w.heap.size w y' → Calls Tryz.prog 74 #[agX y] y' fun e w' => (∃ z, e = .returned (.tuple #[.int .i64 z, .bool true])) ∧ Below y'.heap.size y' w')
    (hc1 : ∀ y', Below w.heap.size w y' → Calls Tryz.prog 74 #[agX z] y' fun e w' => (∃ z, e = .returned (.tuple #[.int .i64 z, .bool false])) ∧ Below y'.heap.size y' w')
    (hl : ∀ y', Below w.heap.size w y' → Calls Tryz.prog 87 #[agX y] y' fun e w' => e = .returned (.bool b0) ∧ Below y'.heap.size y' w')
    (hr : ∀ y', Below w.heap.size w y' → Calls Tryz.prog 87 #[agX z] y' fun e w' => e = .returned (.bool false) ∧ Below y'.heap.size y' w') :
    Calls Tryz.prog 87 #[agX ⟨q, some ⟨b, o, none⟩, 2, c⟩] w fun e w' => e = .returned (.bool RR) ∧ Below w.heap.size w w' := by
  have HC0 := hid hc0
  have HC1 := hid hc1
  have HL := hid hl
  have HR := hid hr
  have HB := hid hb
  have HY := hid hy
  have HZ := hid hz
  obtain ⟨kd, nu, st, tx, op, ms, ma, mc, of, fx, att, bo, byy, ns, na, nc, sd, es, ea, ec, kc⟩ := q
  simp only at h hRR
  subst h
  simp only at o1 o2
  subst o2
  obtain rfl : RR = false := by rw [← hRR, decide_eq_true (p := op ≤ 11 ∧ (0 : Int) = 0) ⟨by omega, rfl⟩]; simp
  clear hRR
  obtain ⟨X, hX⟩ : ∃ X, X = w.alloc (.cells #[.int .i64 7, .int .i64 nu, .int .i64 st, .string tx, .int .i64 op, .slice ma ms.length mc, .int .i64 of, .bool fx, .int .i64 att, .bool bo, .int .i64 0, .slice na ns.length nc, .int .i64 sd, .slice ea es.length ec, .int .i64 kc, .slice (some ⟨b, o, none⟩) 2 c] 58) := ⟨_, rfl⟩
  have hXB : Below w.heap.size w X := by rw [hX]; exact (Below.refl _ _).alloc (Nat.le_refl _) _
  have hXN : X.heap[w.heap.size]? = some (.cells #[.int .i64 7, .int .i64 nu, .int .i64 st, .string tx, .int .i64 op, .slice ma ms.length mc, .int .i64 of, .bool fx, .int .i64 att, .bool bo, .int .i64 0, .slice na ns.length nc, .int .i64 sd, .slice ea es.length ec, .int .i64 kc, .slice (some ⟨b, o, none⟩) 2 c] 58) := by rw [hX]; exact heap_alloc_new _ _
  have HXN := hid hXN
  have HXB := hid hXB
  have HXX := hid hX
  obtain ⟨d0, d1, d2, d3, d4, d5, d6, d7, d8, d9, d10, d11, d12, d13, d14, d15⟩ := sixteen hXN
  clear hX hXB hXN
  obtain ⟨n0, n1, n2, n3, n4, n5, n6, n7, n8, n9, n10, n11, n12, n13, n14, n15⟩ := (hy.below HXB.out hb).all
  clear hc0 hc1 hl hr hy hz hb
  go_enter Tryz.func87, Tryz.ntmps87
  go_upto_region 1 with fail
  rw [← HXX.out]
  clear HXX
  go_wp2_with fail
  refine (HC0.out _ HXB.out).mono ?_
  rintro e w1 ⟨⟨z0, rfl⟩, hb1⟩
  have HB1 := hid (HXB.out.trans (hb1.mono HXB.out.size))
  have p15 := celS (kept HXN.out hb1) 15 (.slice (some ⟨b, o, none⟩) 2 c) rfl
  have HN1 := hid (kept HXN.out hb1)
  obtain ⟨m0, m1, m2, m3, m4, m5, m6, m7, m8, m9, m10, m11, m12, m13, m14, m15⟩ := (HZ.out.below HB1.out HB.out).all
  clear hb1
  go_wp2_with fail
  refine (HC1.out _ HB1.out).mono ?_
  rintro e w2 ⟨⟨z1, rfl⟩, hb2⟩
  have HB2 := hid (HB1.out.trans (hb2.mono HB1.out.size))
  have HN2 := hid (kept HN1.out hb2)
  clear hb2
  go_upto_region 11 with fail
  have q15 := celS HN2.out 15 (.slice (some ⟨b, o, none⟩) 2 c) rfl
  obtain ⟨s0, s1, s2, s3, s4, s5, s6, s7, s8, s9, s10, s11, s12, s13, s14, s15⟩ := (HY.out.below HB2.out HB.out).all
  obtain ⟨t0, t1, t2, t3, t4, t5, t6, t7, t8, t9, t10, t11, t12, t13, t14, t15⟩ := (HZ.out.below HB2.out HB.out).all
  go_wp2_with fail
  refine (HR.out _ HB2.out).mono ?_
  rintro e w3 ⟨rfl, hb3⟩
  have HB3 := hid (HB2.out.trans (hb3.mono HB2.out.size))
  have r15 := celS (kept HN2.out hb3) 15 (.slice (some ⟨b, o, none⟩) 2 c) rfl
  obtain ⟨v0, v1, v2, v3, v4, v5, v6, v7, v8, v9, v10, v11, v12, v13, v14, v15⟩ := (HY.out.below HB3.out HB.out).all
  clear hb3
  go_wp2
  go_ret
  exact ⟨rfl, HB3.out⟩
set_option maxHeartbeats 8000000 in
set_option maxRecDepth 100000 in
theorem lo_rt (q : R) (b o c : Nat) (y z : E) (b1 : Bool) (RR : Bool) (w : World) (h : q.kd = 7) (o1 : ¬ 11 < q.op) (o2 : q.byy = 0) (hb : b < w.heap.size) (hy : KC w b o y) (hz : KC w b (o + 16) z)
    (hRR : (decide (q.op ≤ 11 ∧ q.byy = 0) && (false && b1 || true && true)) = RR)
    (hc0 : ∀ y', Below w.heap.size w y' → Calls Tryz.prog 74 #[agX y] y' fun e w' => (∃ z, e = .returned (.tuple #[.int .i64 z, .bool false])) ∧ Below y'.heap.size y' w')
    (hc1 : ∀ y', Below w.heap.size w y' → Calls Tryz.prog 74 #[agX z] y' fun e w' => (∃ z, e = .returned (.tuple #[.int .i64 z, .bool true])) ∧ Below y'.heap.size y' w')
    (hl : ∀ y', Below w.heap.size w y' → Calls Tryz.prog 87 #[agX y] y' fun e w' => e = .returned (.bool true) ∧ Below y'.heap.size y' w')
    (hr : ∀ y', Below w.heap.size w y' → Calls Tryz.prog 87 #[agX z] y' fun e w' => e = .returned (.bool b1) ∧ Below y'.heap.size y' w') :
    Calls Tryz.prog 87 #[agX ⟨q, some ⟨b, o, none⟩, 2, c⟩] w fun e w' => e = .returned (.bool RR) ∧ Below w.heap.size w w' := by
  have HC0 := hid hc0
  have HC1 := hid hc1
  have HL := hid hl
  have HR := hid hr
  have HB := hid hb
  have HY := hid hy
  have HZ := hid hz
  obtain ⟨kd, nu, st, tx, op, ms, ma, mc, of, fx, att, bo, byy, ns, na, nc, sd, es, ea, ec, kc⟩ := q
  simp only at h hRR
  subst h
  simp only at o1 o2
  subst o2
  obtain rfl : RR = true := by rw [← hRR, decide_eq_true (p := op ≤ 11 ∧ (0 : Int) = 0) ⟨by omega, rfl⟩]; simp
  clear hRR
  obtain ⟨X, hX⟩ : ∃ X, X = w.alloc (.cells #[.int .i64 7, .int .i64 nu, .int .i64 st, .string tx, .int .i64 op, .slice ma ms.length mc, .int .i64 of, .bool fx, .int .i64 att, .bool bo, .int .i64 0, .slice na ns.length nc, .int .i64 sd, .slice ea es.length ec, .int .i64 kc, .slice (some ⟨b, o, none⟩) 2 c] 58) := ⟨_, rfl⟩
  have hXB : Below w.heap.size w X := by rw [hX]; exact (Below.refl _ _).alloc (Nat.le_refl _) _
  have hXN : X.heap[w.heap.size]? = some (.cells #[.int .i64 7, .int .i64 nu, .int .i64 st, .string tx, .int .i64 op, .slice ma ms.length mc, .int .i64 of, .bool fx, .int .i64 att, .bool bo, .int .i64 0, .slice na ns.length nc, .int .i64 sd, .slice ea es.length ec, .int .i64 kc, .slice (some ⟨b, o, none⟩) 2 c] 58) := by rw [hX]; exact heap_alloc_new _ _
  have HXN := hid hXN
  have HXB := hid hXB
  have HXX := hid hX
  obtain ⟨d0, d1, d2, d3, d4, d5, d6, d7, d8, d9, d10, d11, d12, d13, d14, d15⟩ := sixteen hXN
  clear hX hXB hXN
  obtain ⟨n0, n1, n2, n3, n4, n5, n6, n7, n8, n9, n10, n11, n12, n13, n14, n15⟩ := (hy.below HXB.out hb).all
  clear hc0 hc1 hl hr hy hz hb
  go_enter Tryz.func87, Tryz.ntmps87
  go_upto_region 1 with fail
  rw [← HXX.out]
  clear HXX
  go_wp2_with fail
  refine (HC0.out _ HXB.out).mono ?_
  rintro e w1 ⟨⟨z0, rfl⟩, hb1⟩
  have HB1 := hid (HXB.out.trans (hb1.mono HXB.out.size))
  have p15 := celS (kept HXN.out hb1) 15 (.slice (some ⟨b, o, none⟩) 2 c) rfl
  have HN1 := hid (kept HXN.out hb1)
  obtain ⟨m0, m1, m2, m3, m4, m5, m6, m7, m8, m9, m10, m11, m12, m13, m14, m15⟩ := (HZ.out.below HB1.out HB.out).all
  clear hb1
  go_wp2_with fail
  refine (HC1.out _ HB1.out).mono ?_
  rintro e w2 ⟨⟨z1, rfl⟩, hb2⟩
  have HB2 := hid (HB1.out.trans (hb2.mono HB1.out.size))
  have HN2 := hid (kept HN1.out hb2)
  clear hb2
  go_upto_region 11 with fail
  have q15 := celS HN2.out 15 (.slice (some ⟨b, o, none⟩) 2 c) rfl
  obtain ⟨s0, s1, s2, s3, s4, s5, s6, s7, s8, s9, s10, s11, s12, s13, s14, s15⟩ := (HY.out.below HB2.out HB.out).all
  obtain ⟨t0, t1, t2, t3, t4, t5, t6, t7, t8, t9, t10, t11, t12, t13, t14, t15⟩ := (HZ.out.below HB2.out HB.out).all
  go_wp2_with fail
  refine (HL.out _ HB2.out).mono ?_
  rintro e w4 ⟨rfl, hb4⟩
  have HB4 := hid (HB2.out.trans (hb4.mono HB2.out.size))
  clear hb4
  go_wp2
  go_ret
  exact ⟨rfl, HB4.out⟩
set_option maxHeartbeats 8000000 in
set_option maxRecDepth 100000 in
theorem lo_rf (q : R) (b o c : Nat) (y z : E) (b1 : Bool) (RR : Bool) (w : World) (h : q.kd = 7) (o1 : ¬ 11 < q.op) (o2 : q.byy = 0) (hb : b < w.heap.size) (hy : KC w b o y) (hz : KC w b (o + 16) z)
    (hRR : (decide (q.op ≤ 11 ∧ q.byy = 0) && (false && b1 || true && false)) = RR)
    (hc0 : ∀ y', Below w.heap.size w y' → Calls Tryz.prog 74 #[agX y] y' fun e w' => (∃ z, e = .returned (.tuple #[.int .i64 z, .bool false])) ∧ Below y'.heap.size y' w')
    (hc1 : ∀ y', Below w.heap.size w y' → Calls Tryz.prog 74 #[agX z] y' fun e w' => (∃ z, e = .returned (.tuple #[.int .i64 z, .bool true])) ∧ Below y'.heap.size y' w')
    (hl : ∀ y', Below w.heap.size w y' → Calls Tryz.prog 87 #[agX y] y' fun e w' => e = .returned (.bool false) ∧ Below y'.heap.size y' w')
    (hr : ∀ y', Below w.heap.size w y' → Calls Tryz.prog 87 #[agX z] y' fun e w' => e = .returned (.bool b1) ∧ Below y'.heap.size y' w') :
    Calls Tryz.prog 87 #[agX ⟨q, some ⟨b, o, none⟩, 2, c⟩] w fun e w' => e = .returned (.bool RR) ∧ Below w.heap.size w w' := by
  have HC0 := hid hc0
  have HC1 := hid hc1
  have HL := hid hl
  have HR := hid hr
  have HB := hid hb
  have HY := hid hy
  have HZ := hid hz
  obtain ⟨kd, nu, st, tx, op, ms, ma, mc, of, fx, att, bo, byy, ns, na, nc, sd, es, ea, ec, kc⟩ := q
  simp only at h hRR
  subst h
  simp only at o1 o2
  subst o2
  obtain rfl : RR = false := by rw [← hRR, decide_eq_true (p := op ≤ 11 ∧ (0 : Int) = 0) ⟨by omega, rfl⟩]; simp
  clear hRR
  obtain ⟨X, hX⟩ : ∃ X, X = w.alloc (.cells #[.int .i64 7, .int .i64 nu, .int .i64 st, .string tx, .int .i64 op, .slice ma ms.length mc, .int .i64 of, .bool fx, .int .i64 att, .bool bo, .int .i64 0, .slice na ns.length nc, .int .i64 sd, .slice ea es.length ec, .int .i64 kc, .slice (some ⟨b, o, none⟩) 2 c] 58) := ⟨_, rfl⟩
  have hXB : Below w.heap.size w X := by rw [hX]; exact (Below.refl _ _).alloc (Nat.le_refl _) _
  have hXN : X.heap[w.heap.size]? = some (.cells #[.int .i64 7, .int .i64 nu, .int .i64 st, .string tx, .int .i64 op, .slice ma ms.length mc, .int .i64 of, .bool fx, .int .i64 att, .bool bo, .int .i64 0, .slice na ns.length nc, .int .i64 sd, .slice ea es.length ec, .int .i64 kc, .slice (some ⟨b, o, none⟩) 2 c] 58) := by rw [hX]; exact heap_alloc_new _ _
  have HXN := hid hXN
  have HXB := hid hXB
  have HXX := hid hX
  obtain ⟨d0, d1, d2, d3, d4, d5, d6, d7, d8, d9, d10, d11, d12, d13, d14, d15⟩ := sixteen hXN
  clear hX hXB hXN
  obtain ⟨n0, n1, n2, n3, n4, n5, n6, n7, n8, n9, n10, n11, n12, n13, n14, n15⟩ := (hy.below HXB.out hb).all
  clear hc0 hc1 hl hr hy hz hb
  go_enter Tryz.func87, Tryz.ntmps87
  go_upto_region 1 with fail
  rw [← HXX.out]
  clear HXX
  go_wp2_with fail
  refine (HC0.out _ HXB.out).mono ?_
  rintro e w1 ⟨⟨z0, rfl⟩, hb1⟩
  have HB1 := hid (HXB.out.trans (hb1.mono HXB.out.size))
  have p15 := celS (kept HXN.out hb1) 15 (.slice (some ⟨b, o, none⟩) 2 c) rfl
  have HN1 := hid (kept HXN.out hb1)
  obtain ⟨m0, m1, m2, m3, m4, m5, m6, m7, m8, m9, m10, m11, m12, m13, m14, m15⟩ := (HZ.out.below HB1.out HB.out).all
  clear hb1
  go_wp2_with fail
  refine (HC1.out _ HB1.out).mono ?_
  rintro e w2 ⟨⟨z1, rfl⟩, hb2⟩
  have HB2 := hid (HB1.out.trans (hb2.mono HB1.out.size))
  have HN2 := hid (kept HN1.out hb2)
  clear hb2
  go_upto_region 11 with fail
  have q15 := celS HN2.out 15 (.slice (some ⟨b, o, none⟩) 2 c) rfl
  obtain ⟨s0, s1, s2, s3, s4, s5, s6, s7, s8, s9, s10, s11, s12, s13, s14, s15⟩ := (HY.out.below HB2.out HB.out).all
  obtain ⟨t0, t1, t2, t3, t4, t5, t6, t7, t8, t9, t10, t11, t12, t13, t14, t15⟩ := (HZ.out.below HB2.out HB.out).all
  go_wp2_with fail
  refine (HL.out _ HB2.out).mono ?_
  rintro e w4 ⟨rfl, hb4⟩
  have HB4 := hid (HB2.out.trans (hb4.mono HB2.out.size))
  clear hb4
  go_wp2
  go_ret
  exact ⟨rfl, HB4.out⟩
set_option maxHeartbeats 8000000 in
set_option maxRecDepth 100000 in
theorem lo_no (q : R) (b o c : Nat) (y z : E) (b0 b1 : Bool) (RR : Bool) (w : World) (h : q.kd = 7) (o1 : ¬ 11 < q.op) (o2 : q.byy = 0) (hb : b < w.heap.size) (hy : KC w b o y) (hz : KC w b (o + 16) z)
    (hRR : (decide (q.op ≤ 11 ∧ q.byy = 0) && (false && b1 || false && b0)) = RR)
    (hc0 : ∀ y', Below w.heap.size w y' → Calls Tryz.prog 74 #[agX y] y' fun e w' => (∃ z, e = .returned (.tuple #[.int .i64 z, .bool false])) ∧ Below y'.heap.size y' w')
    (hc1 : ∀ y', Below w.heap.size w y' → Calls Tryz.prog 74 #[agX z] y' fun e w' => (∃ z, e = .returned (.tuple #[.int .i64 z, .bool false])) ∧ Below y'.heap.size y' w')
    (hl : ∀ y', Below w.heap.size w y' → Calls Tryz.prog 87 #[agX y] y' fun e w' => e = .returned (.bool b0) ∧ Below y'.heap.size y' w')
    (hr : ∀ y', Below w.heap.size w y' → Calls Tryz.prog 87 #[agX z] y' fun e w' => e = .returned (.bool b1) ∧ Below y'.heap.size y' w') :
    Calls Tryz.prog 87 #[agX ⟨q, some ⟨b, o, none⟩, 2, c⟩] w fun e w' => e = .returned (.bool RR) ∧ Below w.heap.size w w' := by
  have HC0 := hid hc0
  have HC1 := hid hc1
  have HL := hid hl
  have HR := hid hr
  have HB := hid hb
  have HY := hid hy
  have HZ := hid hz
  obtain ⟨kd, nu, st, tx, op, ms, ma, mc, of, fx, att, bo, byy, ns, na, nc, sd, es, ea, ec, kc⟩ := q
  simp only at h hRR
  subst h
  simp only at o1 o2
  subst o2
  obtain rfl : RR = false := by rw [← hRR, decide_eq_true (p := op ≤ 11 ∧ (0 : Int) = 0) ⟨by omega, rfl⟩]; simp
  clear hRR
  obtain ⟨X, hX⟩ : ∃ X, X = w.alloc (.cells #[.int .i64 7, .int .i64 nu, .int .i64 st, .string tx, .int .i64 op, .slice ma ms.length mc, .int .i64 of, .bool fx, .int .i64 att, .bool bo, .int .i64 0, .slice na ns.length nc, .int .i64 sd, .slice ea es.length ec, .int .i64 kc, .slice (some ⟨b, o, none⟩) 2 c] 58) := ⟨_, rfl⟩
  have hXB : Below w.heap.size w X := by rw [hX]; exact (Below.refl _ _).alloc (Nat.le_refl _) _
  have hXN : X.heap[w.heap.size]? = some (.cells #[.int .i64 7, .int .i64 nu, .int .i64 st, .string tx, .int .i64 op, .slice ma ms.length mc, .int .i64 of, .bool fx, .int .i64 att, .bool bo, .int .i64 0, .slice na ns.length nc, .int .i64 sd, .slice ea es.length ec, .int .i64 kc, .slice (some ⟨b, o, none⟩) 2 c] 58) := by rw [hX]; exact heap_alloc_new _ _
  have HXN := hid hXN
  have HXB := hid hXB
  have HXX := hid hX
  obtain ⟨d0, d1, d2, d3, d4, d5, d6, d7, d8, d9, d10, d11, d12, d13, d14, d15⟩ := sixteen hXN
  clear hX hXB hXN
  obtain ⟨n0, n1, n2, n3, n4, n5, n6, n7, n8, n9, n10, n11, n12, n13, n14, n15⟩ := (hy.below HXB.out hb).all
  clear hc0 hc1 hl hr hy hz hb
  go_enter Tryz.func87, Tryz.ntmps87
  go_upto_region 1 with fail
  rw [← HXX.out]
  clear HXX
  go_wp2_with fail
  refine (HC0.out _ HXB.out).mono ?_
  rintro e w1 ⟨⟨z0, rfl⟩, hb1⟩
  have HB1 := hid (HXB.out.trans (hb1.mono HXB.out.size))
  have p15 := celS (kept HXN.out hb1) 15 (.slice (some ⟨b, o, none⟩) 2 c) rfl
  have HN1 := hid (kept HXN.out hb1)
  obtain ⟨m0, m1, m2, m3, m4, m5, m6, m7, m8, m9, m10, m11, m12, m13, m14, m15⟩ := (HZ.out.below HB1.out HB.out).all
  clear hb1
  go_wp2_with fail
  refine (HC1.out _ HB1.out).mono ?_
  rintro e w2 ⟨⟨z1, rfl⟩, hb2⟩
  have HB2 := hid (HB1.out.trans (hb2.mono HB1.out.size))
  have HN2 := hid (kept HN1.out hb2)
  clear hb2
  go_upto_region 11 with fail
  have q15 := celS HN2.out 15 (.slice (some ⟨b, o, none⟩) 2 c) rfl
  obtain ⟨s0, s1, s2, s3, s4, s5, s6, s7, s8, s9, s10, s11, s12, s13, s14, s15⟩ := (HY.out.below HB2.out HB.out).all
  obtain ⟨t0, t1, t2, t3, t4, t5, t6, t7, t8, t9, t10, t11, t12, t13, t14, t15⟩ := (HZ.out.below HB2.out HB.out).all
  go_wp2
  go_ret
  exact ⟨rfl, HB2.out⟩
set_option maxHeartbeats 8000000 in
set_option maxRecDepth 100000 in
theorem lb_op (q : R) (b o c : Nat) (y z : E) (c0 c1 b0 b1 : Bool) (RR : Bool) (w : World) (h : q.kd = 7) (hb : b < w.heap.size) (hy : KC w b o y) (hz : KC w b (o + 16) z)
    (hRR : (decide (q.op ≤ 11 ∧ q.byy = 0) && (c0 && b1 || c1 && b0)) = RR)
    (hc0 : ∀ y', Below w.heap.size w y' → Calls Tryz.prog 74 #[agX y] y' fun e w' => (∃ z, e = .returned (.tuple #[.int .i64 z, .bool c0])) ∧ Below y'.heap.size y' w')
    (hc1 : ∀ y', Below w.heap.size w y' → Calls Tryz.prog 74 #[agX z] y' fun e w' => (∃ z, e = .returned (.tuple #[.int .i64 z, .bool c1])) ∧ Below y'.heap.size y' w')
    (hl : ∀ y', Below w.heap.size w y' → Calls Tryz.prog 87 #[agX y] y' fun e w' => e = .returned (.bool b0) ∧ Below y'.heap.size y' w')
    (hr : ∀ y', Below w.heap.size w y' → Calls Tryz.prog 87 #[agX z] y' fun e w' => e = .returned (.bool b1) ∧ Below y'.heap.size y' w') :
    Calls Tryz.prog 87 #[agX ⟨q, some ⟨b, o, none⟩, 2, c⟩] w fun e w' => e = .returned (.bool RR) ∧ Below w.heap.size w w' := by
  by_cases o1 : 11 < q.op
  · exact lo_big q b o c y z c0 c1 b0 b1 RR w h o1 hb hy hz hRR hc0 hc1 hl hr
  by_cases o2 : q.byy = 0
  case neg => exact lo_by q b o c y z c0 c1 b0 b1 RR w h o1 o2 hb hy hz hRR hc0 hc1 hl hr
  cases c0 with
  | true =>
    cases b1 with
    | true => exact lo_tt q b o c y z c1 b0 RR w h o1 o2 hb hy hz hRR hc0 hc1 hl hr
    | false =>
      cases c1 with
      | true =>
        cases b0 with
        | true => exact lo_tt2 q b o c y z RR w h o1 o2 hb hy hz hRR hc0 hc1 hl hr
        | false => exact lo_tf q b o c y z RR w h o1 o2 hb hy hz hRR hc0 hc1 hl hr
      | false => exact lo_t0 q b o c y z b0 RR w h o1 o2 hb hy hz hRR hc0 hc1 hl hr
  | false =>
    cases c1 with
    | true =>
      cases b0 with
      | true => exact lo_rt q b o c y z b1 RR w h o1 o2 hb hy hz hRR hc0 hc1 hl hr
      | false => exact lo_rf q b o c y z b1 RR w h o1 o2 hb hy hz hRR hc0 hc1 hl hr
    | false => exact lo_no q b o c y z b0 b1 RR w h o1 o2 hb hy hz hRR hc0 hc1 hl hr
end Go.Proofs.YtbdlahhejfamhaaGreatDoor.Qry
