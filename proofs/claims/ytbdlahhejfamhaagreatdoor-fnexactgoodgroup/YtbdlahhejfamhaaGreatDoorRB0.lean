/- The model's nodes with nothing but what such nodes have (texts, others). -/
import Derived.Test.YtbdlahhejfamhaaGreatDoorRQms
namespace Go.Proofs.YtbdlahhejfamhaaGreatDoor.Qry
open Go.RowKit
open Go.Proofs.YtbdlahhejfamhaaGreatDoor.Pat (ret_bool)

set_option maxHeartbeats 8000000 in
set_option maxRecDepth 100000 in
theorem zero_2 (q : R) (w : World) (h : q.kd = 2) : Calls Tryz.prog 133 #[.agg #[.int .i64 q.kd, .int .i64 q.nu, .int .i64 q.st, .string q.tx, .int .i64 q.op, .slice q.ma q.ms.length q.mc, .int .i64 q.off, .bool q.fx, .int .i64 q.att, .bool q.bo, .int .i64 q.byy, .slice q.na q.ns.length q.nc, .int .i64 q.sd, .slice q.ea q.es.length q.ec, .int .i64 q.kc]] w fun e w' => e = .returned (agR (zq2 q)) ∧ Below w.heap.size w w' := by
  have g1 : (q.kd == 1) = false := by simp [h]
  have g2 : (q.kd == 2) = true := by simp [h]
  have hbd := bdz q
  obtain ⟨X, hX⟩ : ∃ X, X = ((w.alloc (.cells #[.int .i64 q.kd, .int .i64 q.nu, .int .i64 q.st, .string q.tx, .int .i64 q.op, .slice q.ma q.ms.length q.mc, .int .i64 q.off, .bool q.fx, .int .i64 q.att, .bool q.bo, .int .i64 q.byy, .slice q.na q.ns.length q.nc, .int .i64 q.sd, .slice q.ea q.es.length q.ec, .int .i64 q.kc] 55)).alloc Z15).alloc (.cells #[.int .i64 q.kd, .int .i64 0, .int .i64 0, .string ⟨#[]⟩, .int .i64 0, .slice none 0 0, .int .i64 0, .bool false, .int .i64 0, .bool false, .int .i64 0, .slice none 0 0, .int .i64 0, .slice none 0 0, .int .i64 q.kc] 55) := ⟨_, rfl⟩
  have h1 : X.heap[w.heap.size]? = some (.cells #[.int .i64 q.kd, .int .i64 q.nu, .int .i64 q.st, .string q.tx, .int .i64 q.op, .slice q.ma q.ms.length q.mc, .int .i64 q.off, .bool q.fx, .int .i64 q.att, .bool q.bo, .int .i64 q.byy, .slice q.na q.ns.length q.nc, .int .i64 q.sd, .slice q.ea q.es.length q.ec, .int .i64 q.kc] 55) := by
    rw [hX]; exact kept (kept (heap_alloc_new w _) ((Below.refl _ _).alloc (Nat.le_refl _) _)) ((Below.refl _ _).alloc (Nat.le_refl _) _)
  have h2 : X.heap[w.heap.size + 1]? = some Z15 := by
    rw [hX]; have := heap_alloc_new (w.alloc (.cells #[.int .i64 q.kd, .int .i64 q.nu, .int .i64 q.st, .string q.tx, .int .i64 q.op, .slice q.ma q.ms.length q.mc, .int .i64 q.off, .bool q.fx, .int .i64 q.att, .bool q.bo, .int .i64 q.byy, .slice q.na q.ns.length q.nc, .int .i64 q.sd, .slice q.ea q.es.length q.ec, .int .i64 q.kc] 55)) Z15; simp only [World.size_alloc] at this; exact kept this ((Below.refl _ _).alloc (Nat.le_refl _) _)
  have h3 : X.heap[w.heap.size + 1 + 1]? = some (.cells #[.int .i64 q.kd, .int .i64 0, .int .i64 0, .string ⟨#[]⟩, .int .i64 0, .slice none 0 0, .int .i64 0, .bool false, .int .i64 0, .bool false, .int .i64 0, .slice none 0 0, .int .i64 0, .slice none 0 0, .int .i64 q.kc] 55) := by
    rw [hX]; have := heap_alloc_new ((w.alloc (.cells #[.int .i64 q.kd, .int .i64 q.nu, .int .i64 q.st, .string q.tx, .int .i64 q.op, .slice q.ma q.ms.length q.mc, .int .i64 q.off, .bool q.fx, .int .i64 q.att, .bool q.bo, .int .i64 q.byy, .slice q.na q.ns.length q.nc, .int .i64 q.sd, .slice q.ea q.es.length q.ec, .int .i64 q.kc] 55)).alloc Z15) (.cells #[.int .i64 q.kd, .int .i64 0, .int .i64 0, .string ⟨#[]⟩, .int .i64 0, .slice none 0 0, .int .i64 0, .bool false, .int .i64 0, .bool false, .int .i64 0, .slice none 0 0, .int .i64 0, .slice none 0 0, .int .i64 q.kc] 55); simpa only [World.size_alloc] using this
  have hbx : Below w.heap.size w X := by
    rw [hX]; exact (((Below.refl _ _).alloc (Nat.le_refl _) _).alloc (by simp) _).alloc (by simp; omega) _
  obtain ⟨a0, a1, a2, a3, a4, a5, a6, a7, a8, a9, a10, a11, a12, a13, a14⟩ := fifteen h1
  obtain ⟨t0, t1, t2, t3, t4, t5, t6, t7, t8, t9, t10, t11, t12, t13, t14⟩ := fifteen h3
  have u3 := fifteen_frz (o := 3) h3
  obtain ⟨Y, hY⟩ : ∃ Y, Y = (X.setCell ⟨w.heap.size + 1 + 1, 3, none⟩ (.string q.tx)) := ⟨_, rfl⟩
  have h4 : Y.heap[w.heap.size + 1 + 1]? = some (.cells #[.int .i64 q.kd, .int .i64 0, .int .i64 0, .string q.tx, .int .i64 0, .slice none 0 0, .int .i64 0, .bool false, .int .i64 0, .bool false, .int .i64 0, .slice none 0 0, .int .i64 0, .slice none 0 0, .int .i64 q.kc] 55) := by rw [hY]; exact (set1 h3 (i := 3) (.string q.tx))
  have h5 : Y.heap[w.heap.size + 1]? = some Z15 := by rw [hY]; exact (set1_far h2 (by omega) (b := w.heap.size + 1 + 1) (i := 3) (.string q.tx))
  have hby : Below w.heap.size w Y := by rw [hY]; exact (hbx.setCell (p := ⟨w.heap.size + 1 + 1, 3, none⟩) (by show w.heap.size ≤ w.heap.size + 1 + 1; omega) (.string q.tx))
  obtain ⟨b0, b1, b2, b3, b4, b5, b6, b7, b8, b9, b10, b11, b12, b13, b14⟩ := fifteen h4
  obtain ⟨z0, z1, z2, z3, z4, z5, z6, z7, z8, z9, z10, z11, z12, z13, z14⟩ := fifteen h5
  have f0 := fifteen_frz (o := 0) h5
  have f1 := fifteen_frz (o := 1) h5
  have f2 := fifteen_frz (o := 2) h5
  have f3 := fifteen_frz (o := 3) h5
  have f4 := fifteen_frz (o := 4) h5
  have f5 := fifteen_frz (o := 5) h5
  have f6 := fifteen_frz (o := 6) h5
  have f7 := fifteen_frz (o := 7) h5
  have f8 := fifteen_frz (o := 8) h5
  have f9 := fifteen_frz (o := 9) h5
  have f10 := fifteen_frz (o := 10) h5
  have f11 := fifteen_frz (o := 11) h5
  have f12 := fifteen_frz (o := 12) h5
  have f13 := fifteen_frz (o := 13) h5
  have f14 := fifteen_frz (o := 14) h5
  obtain ⟨y0, y1, y2, y3, y4, y5, y6, y7, y8, y9, y10, y11, y12, y13, y14⟩ := fifteen (set15 h5 (.int .i64 q.kd) (.int .i64 0) (.int .i64 0) (.string q.tx) (.int .i64 0) (.slice none 0 0) (.int .i64 0) (.bool false) (.int .i64 0) (.bool false) (.int .i64 0) (.slice none 0 0) (.int .i64 0) (.slice none 0 0) (.int .i64 q.kc))
  have HBP := hid (below15 hby (Nat.le_succ _) (.int .i64 q.kd) (.int .i64 0) (.int .i64 0) (.string q.tx) (.int .i64 0) (.slice none 0 0) (.int .i64 0) (.bool false) (.int .i64 0) (.bool false) (.int .i64 0) (.slice none 0 0) (.int .i64 0) (.slice none 0 0) (.int .i64 q.kc))
  have HX := hid hX
  have HY := hid hY
  clear hX h1 h2 h3 h4 h5 hbx hby hY h
  go_enter Tryz.func133, Tryz.ntmps133
  go_upto_region 2 with fail
  rw [← HX.out]
  go_upto_region 33 with fail
  rw [← HY.out]
  clear a0 t0 a1 t1 a2 t2 a3 t3 a4 t4 a5 t5 a6 t6 a7 t7 a8 t8 a9 t9 a10 t10 a11 t11 a12 t12 a13 t13 a14 t14
  go_wp2
  refine bodyPost_ret (v := agR (zq2 q)) (by simp [results, Tryz.results133, go_sem, zq2, y0, y1, y2, y3, y4, y5, y6, y7, y8, y9, y10, y11, y12, y13, y14]) rfl ⟨rfl, HBP.out⟩

set_option maxHeartbeats 8000000 in
set_option maxRecDepth 100000 in
theorem zero_0 (q : R) (w : World) (h : ¬ (q.kd = 1 ∨ q.kd = 2 ∨ q.kd = 9 ∨ q.kd = 3 ∨ q.kd = 4 ∨ q.kd = 5 ∨ q.kd = 7 ∨ q.kd = 8)) : Calls Tryz.prog 133 #[.agg #[.int .i64 q.kd, .int .i64 q.nu, .int .i64 q.st, .string q.tx, .int .i64 q.op, .slice q.ma q.ms.length q.mc, .int .i64 q.off, .bool q.fx, .int .i64 q.att, .bool q.bo, .int .i64 q.byy, .slice q.na q.ns.length q.nc, .int .i64 q.sd, .slice q.ea q.es.length q.ec, .int .i64 q.kc]] w fun e w' => e = .returned (agR (zq0 q)) ∧ Below w.heap.size w w' := by
  have g1 : (q.kd == 1) = false := by rw [beq_eq_false_iff_ne]; intro e; simp [e] at h
  have g2 : (q.kd == 2) = false := by rw [beq_eq_false_iff_ne]; intro e; simp [e] at h
  have g9 : (q.kd == 9) = false := by rw [beq_eq_false_iff_ne]; intro e; simp [e] at h
  have g3 : (q.kd == 3) = false := by rw [beq_eq_false_iff_ne]; intro e; simp [e] at h
  have g4 : (q.kd == 4) = false := by rw [beq_eq_false_iff_ne]; intro e; simp [e] at h
  have g5 : (q.kd == 5) = false := by rw [beq_eq_false_iff_ne]; intro e; simp [e] at h
  have g7 : (q.kd == 7) = false := by rw [beq_eq_false_iff_ne]; intro e; simp [e] at h
  have g8 : (q.kd == 8) = false := by rw [beq_eq_false_iff_ne]; intro e; simp [e] at h
  have hbd := bdz q
  obtain ⟨X, hX⟩ : ∃ X, X = ((w.alloc (.cells #[.int .i64 q.kd, .int .i64 q.nu, .int .i64 q.st, .string q.tx, .int .i64 q.op, .slice q.ma q.ms.length q.mc, .int .i64 q.off, .bool q.fx, .int .i64 q.att, .bool q.bo, .int .i64 q.byy, .slice q.na q.ns.length q.nc, .int .i64 q.sd, .slice q.ea q.es.length q.ec, .int .i64 q.kc] 55)).alloc Z15).alloc (.cells #[.int .i64 q.kd, .int .i64 0, .int .i64 0, .string ⟨#[]⟩, .int .i64 0, .slice none 0 0, .int .i64 0, .bool false, .int .i64 0, .bool false, .int .i64 0, .slice none 0 0, .int .i64 0, .slice none 0 0, .int .i64 q.kc] 55) := ⟨_, rfl⟩
  have h1 : X.heap[w.heap.size]? = some (.cells #[.int .i64 q.kd, .int .i64 q.nu, .int .i64 q.st, .string q.tx, .int .i64 q.op, .slice q.ma q.ms.length q.mc, .int .i64 q.off, .bool q.fx, .int .i64 q.att, .bool q.bo, .int .i64 q.byy, .slice q.na q.ns.length q.nc, .int .i64 q.sd, .slice q.ea q.es.length q.ec, .int .i64 q.kc] 55) := by
    rw [hX]; exact kept (kept (heap_alloc_new w _) ((Below.refl _ _).alloc (Nat.le_refl _) _)) ((Below.refl _ _).alloc (Nat.le_refl _) _)
  have h2 : X.heap[w.heap.size + 1]? = some Z15 := by
    rw [hX]; have := heap_alloc_new (w.alloc (.cells #[.int .i64 q.kd, .int .i64 q.nu, .int .i64 q.st, .string q.tx, .int .i64 q.op, .slice q.ma q.ms.length q.mc, .int .i64 q.off, .bool q.fx, .int .i64 q.att, .bool q.bo, .int .i64 q.byy, .slice q.na q.ns.length q.nc, .int .i64 q.sd, .slice q.ea q.es.length q.ec, .int .i64 q.kc] 55)) Z15; simp only [World.size_alloc] at this; exact kept this ((Below.refl _ _).alloc (Nat.le_refl _) _)
  have h3 : X.heap[w.heap.size + 1 + 1]? = some (.cells #[.int .i64 q.kd, .int .i64 0, .int .i64 0, .string ⟨#[]⟩, .int .i64 0, .slice none 0 0, .int .i64 0, .bool false, .int .i64 0, .bool false, .int .i64 0, .slice none 0 0, .int .i64 0, .slice none 0 0, .int .i64 q.kc] 55) := by
    rw [hX]; have := heap_alloc_new ((w.alloc (.cells #[.int .i64 q.kd, .int .i64 q.nu, .int .i64 q.st, .string q.tx, .int .i64 q.op, .slice q.ma q.ms.length q.mc, .int .i64 q.off, .bool q.fx, .int .i64 q.att, .bool q.bo, .int .i64 q.byy, .slice q.na q.ns.length q.nc, .int .i64 q.sd, .slice q.ea q.es.length q.ec, .int .i64 q.kc] 55)).alloc Z15) (.cells #[.int .i64 q.kd, .int .i64 0, .int .i64 0, .string ⟨#[]⟩, .int .i64 0, .slice none 0 0, .int .i64 0, .bool false, .int .i64 0, .bool false, .int .i64 0, .slice none 0 0, .int .i64 0, .slice none 0 0, .int .i64 q.kc] 55); simpa only [World.size_alloc] using this
  have hbx : Below w.heap.size w X := by
    rw [hX]; exact (((Below.refl _ _).alloc (Nat.le_refl _) _).alloc (by simp) _).alloc (by simp; omega) _
  obtain ⟨a0, a1, a2, a3, a4, a5, a6, a7, a8, a9, a10, a11, a12, a13, a14⟩ := fifteen h1
  obtain ⟨t0, t1, t2, t3, t4, t5, t6, t7, t8, t9, t10, t11, t12, t13, t14⟩ := fifteen h3
  have h4 := h3
  have h5 := h2
  have hby := hbx
  obtain ⟨b0, b1, b2, b3, b4, b5, b6, b7, b8, b9, b10, b11, b12, b13, b14⟩ := fifteen h4
  obtain ⟨z0, z1, z2, z3, z4, z5, z6, z7, z8, z9, z10, z11, z12, z13, z14⟩ := fifteen h5
  have f0 := fifteen_frz (o := 0) h5
  have f1 := fifteen_frz (o := 1) h5
  have f2 := fifteen_frz (o := 2) h5
  have f3 := fifteen_frz (o := 3) h5
  have f4 := fifteen_frz (o := 4) h5
  have f5 := fifteen_frz (o := 5) h5
  have f6 := fifteen_frz (o := 6) h5
  have f7 := fifteen_frz (o := 7) h5
  have f8 := fifteen_frz (o := 8) h5
  have f9 := fifteen_frz (o := 9) h5
  have f10 := fifteen_frz (o := 10) h5
  have f11 := fifteen_frz (o := 11) h5
  have f12 := fifteen_frz (o := 12) h5
  have f13 := fifteen_frz (o := 13) h5
  have f14 := fifteen_frz (o := 14) h5
  obtain ⟨y0, y1, y2, y3, y4, y5, y6, y7, y8, y9, y10, y11, y12, y13, y14⟩ := fifteen (set15 h5 (.int .i64 q.kd) (.int .i64 0) (.int .i64 0) (.string ⟨#[]⟩) (.int .i64 0) (.slice none 0 0) (.int .i64 0) (.bool false) (.int .i64 0) (.bool false) (.int .i64 0) (.slice none 0 0) (.int .i64 0) (.slice none 0 0) (.int .i64 q.kc))
  have HBP := hid (below15 hby (Nat.le_succ _) (.int .i64 q.kd) (.int .i64 0) (.int .i64 0) (.string ⟨#[]⟩) (.int .i64 0) (.slice none 0 0) (.int .i64 0) (.bool false) (.int .i64 0) (.bool false) (.int .i64 0) (.slice none 0 0) (.int .i64 0) (.slice none 0 0) (.int .i64 q.kc))
  have HX := hid hX
  clear hX h1 h2 h3 h4 h5 hbx hby h
  go_enter Tryz.func133, Tryz.ntmps133
  go_upto_region 2 with fail
  rw [← HX.out]
  go_upto_region 33 with fail
  go_wp2
  refine bodyPost_ret (v := agR (zq0 q)) (by simp [results, Tryz.results133, go_sem, zq0, y0, y1, y2, y3, y4, y5, y6, y7, y8, y9, y10, y11, y12, y13, y14]) rfl ⟨rfl, HBP.out⟩
end Go.Proofs.YtbdlahhejfamhaaGreatDoor.Qry
/- The model's nodes with nothing but what such nodes have (calls, ranges). -/
namespace Go.Proofs.YtbdlahhejfamhaaGreatDoor.Qry
open Go.RowKit
open Go.Proofs.YtbdlahhejfamhaaGreatDoor.Pat (ret_bool)

set_option maxHeartbeats 8000000 in
set_option maxRecDepth 100000 in
theorem zero_9 (q : R) (w : World) (h : q.kd = 9) : Calls Tryz.prog 133 #[.agg #[.int .i64 q.kd, .int .i64 q.nu, .int .i64 q.st, .string q.tx, .int .i64 q.op, .slice q.ma q.ms.length q.mc, .int .i64 q.off, .bool q.fx, .int .i64 q.att, .bool q.bo, .int .i64 q.byy, .slice q.na q.ns.length q.nc, .int .i64 q.sd, .slice q.ea q.es.length q.ec, .int .i64 q.kc]] w fun e w' => e = .returned (agR (zq9 q)) ∧ Below w.heap.size w w' := by
  have g1 : (q.kd == 1) = false := by simp [h]
  have g2 : (q.kd == 2) = false := by simp [h]
  have g9 : (q.kd == 9) = true := by simp [h]
  have hbd := bdz q
  obtain ⟨X, hX⟩ : ∃ X, X = ((w.alloc (.cells #[.int .i64 q.kd, .int .i64 q.nu, .int .i64 q.st, .string q.tx, .int .i64 q.op, .slice q.ma q.ms.length q.mc, .int .i64 q.off, .bool q.fx, .int .i64 q.att, .bool q.bo, .int .i64 q.byy, .slice q.na q.ns.length q.nc, .int .i64 q.sd, .slice q.ea q.es.length q.ec, .int .i64 q.kc] 55)).alloc Z15).alloc (.cells #[.int .i64 q.kd, .int .i64 0, .int .i64 0, .string ⟨#[]⟩, .int .i64 0, .slice none 0 0, .int .i64 0, .bool false, .int .i64 0, .bool false, .int .i64 0, .slice none 0 0, .int .i64 0, .slice none 0 0, .int .i64 q.kc] 55) := ⟨_, rfl⟩
  have h1 : X.heap[w.heap.size]? = some (.cells #[.int .i64 q.kd, .int .i64 q.nu, .int .i64 q.st, .string q.tx, .int .i64 q.op, .slice q.ma q.ms.length q.mc, .int .i64 q.off, .bool q.fx, .int .i64 q.att, .bool q.bo, .int .i64 q.byy, .slice q.na q.ns.length q.nc, .int .i64 q.sd, .slice q.ea q.es.length q.ec, .int .i64 q.kc] 55) := by
    rw [hX]; exact kept (kept (heap_alloc_new w _) ((Below.refl _ _).alloc (Nat.le_refl _) _)) ((Below.refl _ _).alloc (Nat.le_refl _) _)
  have h2 : X.heap[w.heap.size + 1]? = some Z15 := by
    rw [hX]; have := heap_alloc_new (w.alloc (.cells #[.int .i64 q.kd, .int .i64 q.nu, .int .i64 q.st, .string q.tx, .int .i64 q.op, .slice q.ma q.ms.length q.mc, .int .i64 q.off, .bool q.fx, .int .i64 q.att, .bool q.bo, .int .i64 q.byy, .slice q.na q.ns.length q.nc, .int .i64 q.sd, .slice q.ea q.es.length q.ec, .int .i64 q.kc] 55)) Z15; simp only [World.size_alloc] at this; exact kept this ((Below.refl _ _).alloc (Nat.le_refl _) _)
  have h3 : X.heap[w.heap.size + 1 + 1]? = some (.cells #[.int .i64 q.kd, .int .i64 0, .int .i64 0, .string ⟨#[]⟩, .int .i64 0, .slice none 0 0, .int .i64 0, .bool false, .int .i64 0, .bool false, .int .i64 0, .slice none 0 0, .int .i64 0, .slice none 0 0, .int .i64 q.kc] 55) := by
    rw [hX]; have := heap_alloc_new ((w.alloc (.cells #[.int .i64 q.kd, .int .i64 q.nu, .int .i64 q.st, .string q.tx, .int .i64 q.op, .slice q.ma q.ms.length q.mc, .int .i64 q.off, .bool q.fx, .int .i64 q.att, .bool q.bo, .int .i64 q.byy, .slice q.na q.ns.length q.nc, .int .i64 q.sd, .slice q.ea q.es.length q.ec, .int .i64 q.kc] 55)).alloc Z15) (.cells #[.int .i64 q.kd, .int .i64 0, .int .i64 0, .string ⟨#[]⟩, .int .i64 0, .slice none 0 0, .int .i64 0, .bool false, .int .i64 0, .bool false, .int .i64 0, .slice none 0 0, .int .i64 0, .slice none 0 0, .int .i64 q.kc] 55); simpa only [World.size_alloc] using this
  have hbx : Below w.heap.size w X := by
    rw [hX]; exact (((Below.refl _ _).alloc (Nat.le_refl _) _).alloc (by simp) _).alloc (by simp; omega) _
  obtain ⟨a0, a1, a2, a3, a4, a5, a6, a7, a8, a9, a10, a11, a12, a13, a14⟩ := fifteen h1
  obtain ⟨t0, t1, t2, t3, t4, t5, t6, t7, t8, t9, t10, t11, t12, t13, t14⟩ := fifteen h3
  have u3 := fifteen_frz (o := 3) h3
  obtain ⟨Y, hY⟩ : ∃ Y, Y = (X.setCell ⟨w.heap.size + 1 + 1, 3, none⟩ (.string q.tx)) := ⟨_, rfl⟩
  have h4 : Y.heap[w.heap.size + 1 + 1]? = some (.cells #[.int .i64 q.kd, .int .i64 0, .int .i64 0, .string q.tx, .int .i64 0, .slice none 0 0, .int .i64 0, .bool false, .int .i64 0, .bool false, .int .i64 0, .slice none 0 0, .int .i64 0, .slice none 0 0, .int .i64 q.kc] 55) := by rw [hY]; exact (set1 h3 (i := 3) (.string q.tx))
  have h5 : Y.heap[w.heap.size + 1]? = some Z15 := by rw [hY]; exact (set1_far h2 (by omega) (b := w.heap.size + 1 + 1) (i := 3) (.string q.tx))
  have hby : Below w.heap.size w Y := by rw [hY]; exact (hbx.setCell (p := ⟨w.heap.size + 1 + 1, 3, none⟩) (by show w.heap.size ≤ w.heap.size + 1 + 1; omega) (.string q.tx))
  obtain ⟨b0, b1, b2, b3, b4, b5, b6, b7, b8, b9, b10, b11, b12, b13, b14⟩ := fifteen h4
  obtain ⟨z0, z1, z2, z3, z4, z5, z6, z7, z8, z9, z10, z11, z12, z13, z14⟩ := fifteen h5
  have f0 := fifteen_frz (o := 0) h5
  have f1 := fifteen_frz (o := 1) h5
  have f2 := fifteen_frz (o := 2) h5
  have f3 := fifteen_frz (o := 3) h5
  have f4 := fifteen_frz (o := 4) h5
  have f5 := fifteen_frz (o := 5) h5
  have f6 := fifteen_frz (o := 6) h5
  have f7 := fifteen_frz (o := 7) h5
  have f8 := fifteen_frz (o := 8) h5
  have f9 := fifteen_frz (o := 9) h5
  have f10 := fifteen_frz (o := 10) h5
  have f11 := fifteen_frz (o := 11) h5
  have f12 := fifteen_frz (o := 12) h5
  have f13 := fifteen_frz (o := 13) h5
  have f14 := fifteen_frz (o := 14) h5
  obtain ⟨y0, y1, y2, y3, y4, y5, y6, y7, y8, y9, y10, y11, y12, y13, y14⟩ := fifteen (set15 h5 (.int .i64 q.kd) (.int .i64 0) (.int .i64 0) (.string q.tx) (.int .i64 0) (.slice none 0 0) (.int .i64 0) (.bool false) (.int .i64 0) (.bool false) (.int .i64 0) (.slice none 0 0) (.int .i64 0) (.slice none 0 0) (.int .i64 q.kc))
  have HBP := hid (below15 hby (Nat.le_succ _) (.int .i64 q.kd) (.int .i64 0) (.int .i64 0) (.string q.tx) (.int .i64 0) (.slice none 0 0) (.int .i64 0) (.bool false) (.int .i64 0) (.bool false) (.int .i64 0) (.slice none 0 0) (.int .i64 0) (.slice none 0 0) (.int .i64 q.kc))
  have HX := hid hX
  have HY := hid hY
  clear hX h1 h2 h3 h4 h5 hbx hby hY h
  go_enter Tryz.func133, Tryz.ntmps133
  go_upto_region 2 with fail
  rw [← HX.out]
  go_upto_region 33 with fail
  rw [← HY.out]
  clear a0 t0 a1 t1 a2 t2 a3 t3 a4 t4 a5 t5 a6 t6 a7 t7 a8 t8 a9 t9 a10 t10 a11 t11 a12 t12 a13 t13 a14 t14
  go_wp2
  refine bodyPost_ret (v := agR (zq9 q)) (by simp [results, Tryz.results133, go_sem, zq9, y0, y1, y2, y3, y4, y5, y6, y7, y8, y9, y10, y11, y12, y13, y14]) rfl ⟨rfl, HBP.out⟩

set_option maxHeartbeats 8000000 in
set_option maxRecDepth 100000 in
theorem zero_4 (q : R) (w : World) (h : q.kd = 4) : Calls Tryz.prog 133 #[.agg #[.int .i64 q.kd, .int .i64 q.nu, .int .i64 q.st, .string q.tx, .int .i64 q.op, .slice q.ma q.ms.length q.mc, .int .i64 q.off, .bool q.fx, .int .i64 q.att, .bool q.bo, .int .i64 q.byy, .slice q.na q.ns.length q.nc, .int .i64 q.sd, .slice q.ea q.es.length q.ec, .int .i64 q.kc]] w fun e w' => e = .returned (agR (zq4 q)) ∧ Below w.heap.size w w' := by
  have g1 : (q.kd == 1) = false := by simp [h]
  have g2 : (q.kd == 2) = false := by simp [h]
  have g9 : (q.kd == 9) = false := by simp [h]
  have g3 : (q.kd == 3) = false := by simp [h]
  have g4 : (q.kd == 4) = true := by simp [h]
  have hbd := bdz q
  obtain ⟨X, hX⟩ : ∃ X, X = ((w.alloc (.cells #[.int .i64 q.kd, .int .i64 q.nu, .int .i64 q.st, .string q.tx, .int .i64 q.op, .slice q.ma q.ms.length q.mc, .int .i64 q.off, .bool q.fx, .int .i64 q.att, .bool q.bo, .int .i64 q.byy, .slice q.na q.ns.length q.nc, .int .i64 q.sd, .slice q.ea q.es.length q.ec, .int .i64 q.kc] 55)).alloc Z15).alloc (.cells #[.int .i64 q.kd, .int .i64 0, .int .i64 0, .string ⟨#[]⟩, .int .i64 0, .slice none 0 0, .int .i64 0, .bool false, .int .i64 0, .bool false, .int .i64 0, .slice none 0 0, .int .i64 0, .slice none 0 0, .int .i64 q.kc] 55) := ⟨_, rfl⟩
  have h1 : X.heap[w.heap.size]? = some (.cells #[.int .i64 q.kd, .int .i64 q.nu, .int .i64 q.st, .string q.tx, .int .i64 q.op, .slice q.ma q.ms.length q.mc, .int .i64 q.off, .bool q.fx, .int .i64 q.att, .bool q.bo, .int .i64 q.byy, .slice q.na q.ns.length q.nc, .int .i64 q.sd, .slice q.ea q.es.length q.ec, .int .i64 q.kc] 55) := by
    rw [hX]; exact kept (kept (heap_alloc_new w _) ((Below.refl _ _).alloc (Nat.le_refl _) _)) ((Below.refl _ _).alloc (Nat.le_refl _) _)
  have h2 : X.heap[w.heap.size + 1]? = some Z15 := by
    rw [hX]; have := heap_alloc_new (w.alloc (.cells #[.int .i64 q.kd, .int .i64 q.nu, .int .i64 q.st, .string q.tx, .int .i64 q.op, .slice q.ma q.ms.length q.mc, .int .i64 q.off, .bool q.fx, .int .i64 q.att, .bool q.bo, .int .i64 q.byy, .slice q.na q.ns.length q.nc, .int .i64 q.sd, .slice q.ea q.es.length q.ec, .int .i64 q.kc] 55)) Z15; simp only [World.size_alloc] at this; exact kept this ((Below.refl _ _).alloc (Nat.le_refl _) _)
  have h3 : X.heap[w.heap.size + 1 + 1]? = some (.cells #[.int .i64 q.kd, .int .i64 0, .int .i64 0, .string ⟨#[]⟩, .int .i64 0, .slice none 0 0, .int .i64 0, .bool false, .int .i64 0, .bool false, .int .i64 0, .slice none 0 0, .int .i64 0, .slice none 0 0, .int .i64 q.kc] 55) := by
    rw [hX]; have := heap_alloc_new ((w.alloc (.cells #[.int .i64 q.kd, .int .i64 q.nu, .int .i64 q.st, .string q.tx, .int .i64 q.op, .slice q.ma q.ms.length q.mc, .int .i64 q.off, .bool q.fx, .int .i64 q.att, .bool q.bo, .int .i64 q.byy, .slice q.na q.ns.length q.nc, .int .i64 q.sd, .slice q.ea q.es.length q.ec, .int .i64 q.kc] 55)).alloc Z15) (.cells #[.int .i64 q.kd, .int .i64 0, .int .i64 0, .string ⟨#[]⟩, .int .i64 0, .slice none 0 0, .int .i64 0, .bool false, .int .i64 0, .bool false, .int .i64 0, .slice none 0 0, .int .i64 0, .slice none 0 0, .int .i64 q.kc] 55); simpa only [World.size_alloc] using this
  have hbx : Below w.heap.size w X := by
    rw [hX]; exact (((Below.refl _ _).alloc (Nat.le_refl _) _).alloc (by simp) _).alloc (by simp; omega) _
  obtain ⟨a0, a1, a2, a3, a4, a5, a6, a7, a8, a9, a10, a11, a12, a13, a14⟩ := fifteen h1
  obtain ⟨t0, t1, t2, t3, t4, t5, t6, t7, t8, t9, t10, t11, t12, t13, t14⟩ := fifteen h3
  have u1 := fifteen_frz (o := 1) h3
  obtain ⟨Y, hY⟩ : ∃ Y, Y = (X.setCell ⟨w.heap.size + 1 + 1, 1, none⟩ (.int .i64 q.nu)) := ⟨_, rfl⟩
  have h4 : Y.heap[w.heap.size + 1 + 1]? = some (.cells #[.int .i64 q.kd, .int .i64 q.nu, .int .i64 0, .string ⟨#[]⟩, .int .i64 0, .slice none 0 0, .int .i64 0, .bool false, .int .i64 0, .bool false, .int .i64 0, .slice none 0 0, .int .i64 0, .slice none 0 0, .int .i64 q.kc] 55) := by rw [hY]; exact (set1 h3 (i := 1) (.int .i64 q.nu))
  have h5 : Y.heap[w.heap.size + 1]? = some Z15 := by rw [hY]; exact (set1_far h2 (by omega) (b := w.heap.size + 1 + 1) (i := 1) (.int .i64 q.nu))
  have hby : Below w.heap.size w Y := by rw [hY]; exact (hbx.setCell (p := ⟨w.heap.size + 1 + 1, 1, none⟩) (by show w.heap.size ≤ w.heap.size + 1 + 1; omega) (.int .i64 q.nu))
  obtain ⟨b0, b1, b2, b3, b4, b5, b6, b7, b8, b9, b10, b11, b12, b13, b14⟩ := fifteen h4
  obtain ⟨z0, z1, z2, z3, z4, z5, z6, z7, z8, z9, z10, z11, z12, z13, z14⟩ := fifteen h5
  have f0 := fifteen_frz (o := 0) h5
  have f1 := fifteen_frz (o := 1) h5
  have f2 := fifteen_frz (o := 2) h5
  have f3 := fifteen_frz (o := 3) h5
  have f4 := fifteen_frz (o := 4) h5
  have f5 := fifteen_frz (o := 5) h5
  have f6 := fifteen_frz (o := 6) h5
  have f7 := fifteen_frz (o := 7) h5
  have f8 := fifteen_frz (o := 8) h5
  have f9 := fifteen_frz (o := 9) h5
  have f10 := fifteen_frz (o := 10) h5
  have f11 := fifteen_frz (o := 11) h5
  have f12 := fifteen_frz (o := 12) h5
  have f13 := fifteen_frz (o := 13) h5
  have f14 := fifteen_frz (o := 14) h5
  obtain ⟨y0, y1, y2, y3, y4, y5, y6, y7, y8, y9, y10, y11, y12, y13, y14⟩ := fifteen (set15 h5 (.int .i64 q.kd) (.int .i64 q.nu) (.int .i64 0) (.string ⟨#[]⟩) (.int .i64 0) (.slice none 0 0) (.int .i64 0) (.bool false) (.int .i64 0) (.bool false) (.int .i64 0) (.slice none 0 0) (.int .i64 0) (.slice none 0 0) (.int .i64 q.kc))
  have HBP := hid (below15 hby (Nat.le_succ _) (.int .i64 q.kd) (.int .i64 q.nu) (.int .i64 0) (.string ⟨#[]⟩) (.int .i64 0) (.slice none 0 0) (.int .i64 0) (.bool false) (.int .i64 0) (.bool false) (.int .i64 0) (.slice none 0 0) (.int .i64 0) (.slice none 0 0) (.int .i64 q.kc))
  have HX := hid hX
  have HY := hid hY
  clear hX h1 h2 h3 h4 h5 hbx hby hY h
  go_enter Tryz.func133, Tryz.ntmps133
  go_upto_region 2 with fail
  rw [← HX.out]
  go_upto_region 33 with fail
  rw [← HY.out]
  clear a0 t0 a1 t1 a2 t2 a3 t3 a4 t4 a5 t5 a6 t6 a7 t7 a8 t8 a9 t9 a10 t10 a11 t11 a12 t12 a13 t13 a14 t14
  go_wp2
  refine bodyPost_ret (v := agR (zq4 q)) (by simp [results, Tryz.results133, go_sem, zq4, y0, y1, y2, y3, y4, y5, y6, y7, y8, y9, y10, y11, y12, y13, y14]) rfl ⟨rfl, HBP.out⟩
end Go.Proofs.YtbdlahhejfamhaaGreatDoor.Qry
