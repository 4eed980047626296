/- The model's nodes with nothing but what such nodes have (selections). -/
import Derived.Test.YtbdlahhejfamhaaGreatDoorRQms
namespace Go.Proofs.YtbdlahhejfamhaaGreatDoor.Qry
open Go.RowKit
open Go.Proofs.YtbdlahhejfamhaaGreatDoor.Pat (ret_bool)

set_option maxHeartbeats 8000000 in
set_option maxRecDepth 100000 in
theorem zero_3 (q : R) (w : World) (h : q.kd = 3) : Calls Tryz.prog 133 #[.agg #[.int .i64 q.kd, .int .i64 q.nu, .int .i64 q.st, .string q.tx, .int .i64 q.op, .slice q.ma q.ms.length q.mc, .int .i64 q.off, .bool q.fx, .int .i64 q.att, .bool q.bo, .int .i64 q.byy, .slice q.na q.ns.length q.nc, .int .i64 q.sd, .slice q.ea q.es.length q.ec, .int .i64 q.kc]] w fun e w' => e = .returned (agR (zq3 q)) ∧ Below w.heap.size w w' := by
  have g1 : (q.kd == 1) = false := by simp [h]
  have g2 : (q.kd == 2) = false := by simp [h]
  have g9 : (q.kd == 9) = false := by simp [h]
  have g3 : (q.kd == 3) = true := by simp [h]
  have hbd := bdz q
  obtain ⟨X, hX⟩ : ∃ X, X = ((w.alloc (.cells #[.int .i64 q.kd, .int .i64 q.nu, .int .i64 q.st, .string q.tx, .int .i64 q.op, .slice q.ma q.ms.length q.mc, .int .i64 q.off, .bool q.fx, .int .i64 q.att, .bool q.bo, .int .i64 q.byy, .slice q.na q.ns.length q.nc, .int .i64 q.sd, .slice q.ea q.es.length q.ec, .int .i64 q.kc] 55)).alloc Z15).alloc (.cells #[.int .i64 q.kd, .int .i64 0, .int .i64 0, .string ⟨#[]⟩, .int .i64 0, .slice none 0 0, .int .i64 0, .bool false, .int .i64 0, .bool false, .int .i64 0, .slice none 0 0, .int .i64 0, .slice none 0 0, .int .i64 q.kc] 55) := ⟨_, rfl⟩
  have h1 : X.heap[w.heap.size]? = some (.cells #[.int .i64 q.kd, .int .i64 q.nu, .int .i64 q.st, .string q.tx, .int .i64 q.op, .slice q.ma q.ms.length q.mc, .int .i64 q.off, .bool q.fx, .int .i64 q.att, .bool q.bo, .int .i64 q.byy, .slice q.na q.ns.length q.nc, .int .i64 q.sd, .slice q.ea q.es.length q.ec, .int .i64 q.kc] 55) := by
    rw [hX]; exact kept (kept (heap_alloc_new w _) ((Below.refl _ _).alloc (Nat.le_refl _) _)) ((Below.refl _ _).alloc (Nat.le_refl _) _)
  have h2 : X.heap[w.heap.size + 1]? = some Z15 := by
    rw [hX]; have := heap_alloc_new (w.alloc (.cells #[.int .i64 q.kd, .int .i64 q.nu, .int .i64 q.st, .string q.tx, .int .i64 q.op, .slice q.ma q.ms.length q.mc, .int .i64 q.off, .bool q.fx, .int .i64 q.att, .bool q.bo, .int .i64 q.byy, .slice q.na q.ns.length q.nc, .int .i64 q.sd, .slice q.ea q.es.length q.ec, .int .i64 q.kc] 55)) Z15; simp only [World.size_alloc] at this; exact kept this ((Below.refl _ _).alloc (Nat.le_refl _) _)
  have h3 : X.heap[w.heap.size + 1 + 1]? = some (.cells #[.int .i64 q.kd, .int .i64 0, .int .i64 0, .string ⟨#[]⟩, .int .i64 0, .slice none 0 0, .int .i64 0, .bool false, .int .i64 0, .bool false, .int .i64 0, .slice none 0 0, .int .i64 0, .slice none 0 0, .int .i64 q.kc] 55) := by
    rw [hX]; have := heap_alloc_new ((w.alloc (.cells #[.int .i64 q.kd, .int .i64 q.nu, .int .i64 q.st, .string q.tx, .int .i64 q.op, .slice q.ma q.ms.length q.mc, .int .i64 q.off, .bool q.fx, .int .i64 q.att, .bool q.bo, .int .i64 q.byy, .slice q.na q.ns.length q.nc, .int .i64 q.sd, .slice q.ea q.es.length q.ec, .int .i64 q.kc] 55)).alloc Z15) (.cells #[.int .i64 q.kd, .int .i64 0, .int .i64 0, .string ⟨#[]⟩, .int .i64 0, .slice none 0 0, .int .i64 0, .bool false, .int .i64 0, .bool false, .int .i64 0, .slice none 0 0, .int .i64 0, .slice none 0 0, .int .i64 q.kc] 55); simpa only [World.size_alloc] using this
  have hbx : Below w.heap.size w X := by
    rw [hX]; exact (((Below.refl _ _).alloc (Nat.le_refl _) _).alloc (by simp) _).alloc (by simp; omega) _
  obtain ⟨a0, a1, a2, a3, a4, a5, a6, a7, a8, a9, a10, a11, a12, a13, a14⟩ := fifteen h1
  obtain ⟨t0, t1, t2, t3, t4, t5, t6, t7, t8, t9, t10, t11, t12, t13, t14⟩ := fifteen h3
  have u3 := fifteen_frz (o := 3) h3
  have u5 := fifteen_frz (o := 5) h3
  have u6 := fifteen_frz (o := 6) h3
  have u7 := fifteen_frz (o := 7) h3
  have u8 := fifteen_frz (o := 8) h3
  obtain ⟨Y, hY⟩ : ∃ Y, Y = (((((X.setCell ⟨w.heap.size + 1 + 1, 3, none⟩ (.string q.tx)).setCell ⟨w.heap.size + 1 + 1, 5, none⟩ (.slice q.ma q.ms.length q.mc)).setCell ⟨w.heap.size + 1 + 1, 6, none⟩ (.int .i64 q.off)).setCell ⟨w.heap.size + 1 + 1, 7, none⟩ (.bool q.fx)).setCell ⟨w.heap.size + 1 + 1, 8, none⟩ (.int .i64 q.att)) := ⟨_, rfl⟩
  have h4 : Y.heap[w.heap.size + 1 + 1]? = some (.cells #[.int .i64 q.kd, .int .i64 0, .int .i64 0, .string q.tx, .int .i64 0, .slice q.ma q.ms.length q.mc, .int .i64 q.off, .bool q.fx, .int .i64 q.att, .bool false, .int .i64 0, .slice none 0 0, .int .i64 0, .slice none 0 0, .int .i64 q.kc] 55) := by rw [hY]; exact (set1 (set1 (set1 (set1 (set1 h3 (i := 3) (.string q.tx)) (i := 5) (.slice q.ma q.ms.length q.mc)) (i := 6) (.int .i64 q.off)) (i := 7) (.bool q.fx)) (i := 8) (.int .i64 q.att))
  have h5 : Y.heap[w.heap.size + 1]? = some Z15 := by rw [hY]; exact (set1_far (set1_far (set1_far (set1_far (set1_far h2 (by omega) (b := w.heap.size + 1 + 1) (i := 3) (.string q.tx)) (by omega) (b := w.heap.size + 1 + 1) (i := 5) (.slice q.ma q.ms.length q.mc)) (by omega) (b := w.heap.size + 1 + 1) (i := 6) (.int .i64 q.off)) (by omega) (b := w.heap.size + 1 + 1) (i := 7) (.bool q.fx)) (by omega) (b := w.heap.size + 1 + 1) (i := 8) (.int .i64 q.att))
  have hby : Below w.heap.size w Y := by rw [hY]; exact (((((hbx.setCell (p := ⟨w.heap.size + 1 + 1, 3, none⟩) (by show w.heap.size ≤ w.heap.size + 1 + 1; omega) (.string q.tx)).setCell (p := ⟨w.heap.size + 1 + 1, 5, none⟩) (by show w.heap.size ≤ w.heap.size + 1 + 1; omega) (.slice q.ma q.ms.length q.mc)).setCell (p := ⟨w.heap.size + 1 + 1, 6, none⟩) (by show w.heap.size ≤ w.heap.size + 1 + 1; omega) (.int .i64 q.off)).setCell (p := ⟨w.heap.size + 1 + 1, 7, none⟩) (by show w.heap.size ≤ w.heap.size + 1 + 1; omega) (.bool q.fx)).setCell (p := ⟨w.heap.size + 1 + 1, 8, none⟩) (by show w.heap.size ≤ w.heap.size + 1 + 1; omega) (.int .i64 q.att))
  obtain ⟨b0, b1, b2, b3, b4, b5, b6, b7, b8, b9, b10, b11, b12, b13, b14⟩ := fifteen h4
  obtain ⟨z0, z1, z2, z3, z4, z5, z6, z7, z8, z9, z10, z11, z12, z13, z14⟩ := fifteen h5
  have f0 := fifteen_frz (o := 0) h5
  have f1 := fifteen_frz (o := 1) h5
  have f2 := fifteen_frz (o := 2) h5
  have f3 := fifteen_frz (o := 3) h5
  have f4 := fifteen_frz (o := 4) h5
  have f5 := fifteen_frz (o := 5) h5
  have f6 := fifteen_frz (o := 6) h5
  have f7 := fifteen_frz (o := 7) h5
  have f8 := fifteen_frz (o := 8) h5
  have f9 := fifteen_frz (o := 9) h5
  have f10 := fifteen_frz (o := 10) h5
  have f11 := fifteen_frz (o := 11) h5
  have f12 := fifteen_frz (o := 12) h5
  have f13 := fifteen_frz (o := 13) h5
  have f14 := fifteen_frz (o := 14) h5
  obtain ⟨y0, y1, y2, y3, y4, y5, y6, y7, y8, y9, y10, y11, y12, y13, y14⟩ := fifteen (set15 h5 (.int .i64 q.kd) (.int .i64 0) (.int .i64 0) (.string q.tx) (.int .i64 0) (.slice q.ma q.ms.length q.mc) (.int .i64 q.off) (.bool q.fx) (.int .i64 q.att) (.bool false) (.int .i64 0) (.slice none 0 0) (.int .i64 0) (.slice none 0 0) (.int .i64 q.kc))
  have HBP := hid (below15 hby (Nat.le_succ _) (.int .i64 q.kd) (.int .i64 0) (.int .i64 0) (.string q.tx) (.int .i64 0) (.slice q.ma q.ms.length q.mc) (.int .i64 q.off) (.bool q.fx) (.int .i64 q.att) (.bool false) (.int .i64 0) (.slice none 0 0) (.int .i64 0) (.slice none 0 0) (.int .i64 q.kc))
  have HX := hid hX
  have HY := hid hY
  clear hX h1 h2 h3 h4 h5 hbx hby hY h
  go_enter Tryz.func133, Tryz.ntmps133
  go_upto_region 2 with fail
  rw [← HX.out]
  go_upto_region 33 with fail
  rw [← HY.out]
  clear a0 t0 a1 t1 a2 t2 a3 t3 a4 t4 a5 t5 a6 t6 a7 t7 a8 t8 a9 t9 a10 t10 a11 t11 a12 t12 a13 t13 a14 t14
  go_wp2
  refine bodyPost_ret (v := agR (zq3 q)) (by simp [results, Tryz.results133, go_sem, zq3, y0, y1, y2, y3, y4, y5, y6, y7, y8, y9, y10, y11, y12, y13, y14]) rfl ⟨rfl, HBP.out⟩
end Go.Proofs.YtbdlahhejfamhaaGreatDoor.Qry
/- The model's nodes with nothing but what such nodes have (sub-questions). -/
namespace Go.Proofs.YtbdlahhejfamhaaGreatDoor.Qry
open Go.RowKit
open Go.Proofs.YtbdlahhejfamhaaGreatDoor.Pat (ret_bool)

set_option maxHeartbeats 8000000 in
set_option maxRecDepth 100000 in
theorem zero_5 (q : R) (w : World) (h : q.kd = 5) : Calls Tryz.prog 133 #[.agg #[.int .i64 q.kd, .int .i64 q.nu, .int .i64 q.st, .string q.tx, .int .i64 q.op, .slice q.ma q.ms.length q.mc, .int .i64 q.off, .bool q.fx, .int .i64 q.att, .bool q.bo, .int .i64 q.byy, .slice q.na q.ns.length q.nc, .int .i64 q.sd, .slice q.ea q.es.length q.ec, .int .i64 q.kc]] w fun e w' => e = .returned (agR (zq5 q)) ∧ Below w.heap.size w w' := by
  have g1 : (q.kd == 1) = false := by simp [h]
  have g2 : (q.kd == 2) = false := by simp [h]
  have g9 : (q.kd == 9) = false := by simp [h]
  have g3 : (q.kd == 3) = false := by simp [h]
  have g4 : (q.kd == 4) = false := by simp [h]
  have g5 : (q.kd == 5) = true := by simp [h]
  have hbd := bdz q
  obtain ⟨X, hX⟩ : ∃ X, X = ((w.alloc (.cells #[.int .i64 q.kd, .int .i64 q.nu, .int .i64 q.st, .string q.tx, .int .i64 q.op, .slice q.ma q.ms.length q.mc, .int .i64 q.off, .bool q.fx, .int .i64 q.att, .bool q.bo, .int .i64 q.byy, .slice q.na q.ns.length q.nc, .int .i64 q.sd, .slice q.ea q.es.length q.ec, .int .i64 q.kc] 55)).alloc Z15).alloc (.cells #[.int .i64 q.kd, .int .i64 0, .int .i64 0, .string ⟨#[]⟩, .int .i64 0, .slice none 0 0, .int .i64 0, .bool false, .int .i64 0, .bool false, .int .i64 0, .slice none 0 0, .int .i64 0, .slice none 0 0, .int .i64 q.kc] 55) := ⟨_, rfl⟩
  have h1 : X.heap[w.heap.size]? = some (.cells #[.int .i64 q.kd, .int .i64 q.nu, .int .i64 q.st, .string q.tx, .int .i64 q.op, .slice q.ma q.ms.length q.mc, .int .i64 q.off, .bool q.fx, .int .i64 q.att, .bool q.bo, .int .i64 q.byy, .slice q.na q.ns.length q.nc, .int .i64 q.sd, .slice q.ea q.es.length q.ec, .int .i64 q.kc] 55) := by
    rw [hX]; exact kept (kept (heap_alloc_new w _) ((Below.refl _ _).alloc (Nat.le_refl _) _)) ((Below.refl _ _).alloc (Nat.le_refl _) _)
  have h2 : X.heap[w.heap.size + 1]? = some Z15 := by
    rw [hX]; have := heap_alloc_new (w.alloc (.cells #[.int .i64 q.kd, .int .i64 q.nu, .int .i64 q.st, .string q.tx, .int .i64 q.op, .slice q.ma q.ms.length q.mc, .int .i64 q.off, .bool q.fx, .int .i64 q.att, .bool q.bo, .int .i64 q.byy, .slice q.na q.ns.length q.nc, .int .i64 q.sd, .slice q.ea q.es.length q.ec, .int .i64 q.kc] 55)) Z15; simp only [World.size_alloc] at this; exact kept this ((Below.refl _ _).alloc (Nat.le_refl _) _)
  have h3 : X.heap[w.heap.size + 1 + 1]? = some (.cells #[.int .i64 q.kd, .int .i64 0, .int .i64 0, .string ⟨#[]⟩, .int .i64 0, .slice none 0 0, .int .i64 0, .bool false, .int .i64 0, .bool false, .int .i64 0, .slice none 0 0, .int .i64 0, .slice none 0 0, .int .i64 q.kc] 55) := by
    rw [hX]; have := heap_alloc_new ((w.alloc (.cells #[.int .i64 q.kd, .int .i64 q.nu, .int .i64 q.st, .string q.tx, .int .i64 q.op, .slice q.ma q.ms.length q.mc, .int .i64 q.off, .bool q.fx, .int .i64 q.att, .bool q.bo, .int .i64 q.byy, .slice q.na q.ns.length q.nc, .int .i64 q.sd, .slice q.ea q.es.length q.ec, .int .i64 q.kc] 55)).alloc Z15) (.cells #[.int .i64 q.kd, .int .i64 0, .int .i64 0, .string ⟨#[]⟩, .int .i64 0, .slice none 0 0, .int .i64 0, .bool false, .int .i64 0, .bool false, .int .i64 0, .slice none 0 0, .int .i64 0, .slice none 0 0, .int .i64 q.kc] 55); simpa only [World.size_alloc] using this
  have hbx : Below w.heap.size w X := by
    rw [hX]; exact (((Below.refl _ _).alloc (Nat.le_refl _) _).alloc (by simp) _).alloc (by simp; omega) _
  obtain ⟨a0, a1, a2, a3, a4, a5, a6, a7, a8, a9, a10, a11, a12, a13, a14⟩ := fifteen h1
  obtain ⟨t0, t1, t2, t3, t4, t5, t6, t7, t8, t9, t10, t11, t12, t13, t14⟩ := fifteen h3
  have u1 := fifteen_frz (o := 1) h3
  have u2 := fifteen_frz (o := 2) h3
  have u6 := fifteen_frz (o := 6) h3
  have u7 := fifteen_frz (o := 7) h3
  have u8 := fifteen_frz (o := 8) h3
  obtain ⟨Y, hY⟩ : ∃ Y, Y = (((((X.setCell ⟨w.heap.size + 1 + 1, 1, none⟩ (.int .i64 q.nu)).setCell ⟨w.heap.size + 1 + 1, 2, none⟩ (.int .i64 q.st)).setCell ⟨w.heap.size + 1 + 1, 6, none⟩ (.int .i64 q.off)).setCell ⟨w.heap.size + 1 + 1, 7, none⟩ (.bool q.fx)).setCell ⟨w.heap.size + 1 + 1, 8, none⟩ (.int .i64 q.att)) := ⟨_, rfl⟩
  have h4 : Y.heap[w.heap.size + 1 + 1]? = some (.cells #[.int .i64 q.kd, .int .i64 q.nu, .int .i64 q.st, .string ⟨#[]⟩, .int .i64 0, .slice none 0 0, .int .i64 q.off, .bool q.fx, .int .i64 q.att, .bool false, .int .i64 0, .slice none 0 0, .int .i64 0, .slice none 0 0, .int .i64 q.kc] 55) := by rw [hY]; exact (set1 (set1 (set1 (set1 (set1 h3 (i := 1) (.int .i64 q.nu)) (i := 2) (.int .i64 q.st)) (i := 6) (.int .i64 q.off)) (i := 7) (.bool q.fx)) (i := 8) (.int .i64 q.att))
  have h5 : Y.heap[w.heap.size + 1]? = some Z15 := by rw [hY]; exact (set1_far (set1_far (set1_far (set1_far (set1_far h2 (by omega) (b := w.heap.size + 1 + 1) (i := 1) (.int .i64 q.nu)) (by omega) (b := w.heap.size + 1 + 1) (i := 2) (.int .i64 q.st)) (by omega) (b := w.heap.size + 1 + 1) (i := 6) (.int .i64 q.off)) (by omega) (b := w.heap.size + 1 + 1) (i := 7) (.bool q.fx)) (by omega) (b := w.heap.size + 1 + 1) (i := 8) (.int .i64 q.att))
  have hby : Below w.heap.size w Y := by rw [hY]; exact (((((hbx.setCell (p := ⟨w.heap.size + 1 + 1, 1, none⟩) (by show w.heap.size ≤ w.heap.size + 1 + 1; omega) (.int .i64 q.nu)).setCell (p := ⟨w.heap.size + 1 + 1, 2, none⟩) (by show w.heap.size ≤ w.heap.size + 1 + 1; omega) (.int .i64 q.st)).setCell (p := ⟨w.heap.size + 1 + 1, 6, none⟩) (by show w.heap.size ≤ w.heap.size + 1 + 1; omega) (.int .i64 q.off)).setCell (p := ⟨w.heap.size + 1 + 1, 7, none⟩) (by show w.heap.size ≤ w.heap.size + 1 + 1; omega) (.bool q.fx)).setCell (p := ⟨w.heap.size + 1 + 1, 8, none⟩) (by show w.heap.size ≤ w.heap.size + 1 + 1; omega) (.int .i64 q.att))
  obtain ⟨b0, b1, b2, b3, b4, b5, b6, b7, b8, b9, b10, b11, b12, b13, b14⟩ := fifteen h4
  obtain ⟨z0, z1, z2, z3, z4, z5, z6, z7, z8, z9, z10, z11, z12, z13, z14⟩ := fifteen h5
  have f0 := fifteen_frz (o := 0) h5
  have f1 := fifteen_frz (o := 1) h5
  have f2 := fifteen_frz (o := 2) h5
  have f3 := fifteen_frz (o := 3) h5
  have f4 := fifteen_frz (o := 4) h5
  have f5 := fifteen_frz (o := 5) h5
  have f6 := fifteen_frz (o := 6) h5
  have f7 := fifteen_frz (o := 7) h5
  have f8 := fifteen_frz (o := 8) h5
  have f9 := fifteen_frz (o := 9) h5
  have f10 := fifteen_frz (o := 10) h5
  have f11 := fifteen_frz (o := 11) h5
  have f12 := fifteen_frz (o := 12) h5
  have f13 := fifteen_frz (o := 13) h5
  have f14 := fifteen_frz (o := 14) h5
  obtain ⟨y0, y1, y2, y3, y4, y5, y6, y7, y8, y9, y10, y11, y12, y13, y14⟩ := fifteen (set15 h5 (.int .i64 q.kd) (.int .i64 q.nu) (.int .i64 q.st) (.string ⟨#[]⟩) (.int .i64 0) (.slice none 0 0) (.int .i64 q.off) (.bool q.fx) (.int .i64 q.att) (.bool false) (.int .i64 0) (.slice none 0 0) (.int .i64 0) (.slice none 0 0) (.int .i64 q.kc))
  have HBP := hid (below15 hby (Nat.le_succ _) (.int .i64 q.kd) (.int .i64 q.nu) (.int .i64 q.st) (.string ⟨#[]⟩) (.int .i64 0) (.slice none 0 0) (.int .i64 q.off) (.bool q.fx) (.int .i64 q.att) (.bool false) (.int .i64 0) (.slice none 0 0) (.int .i64 0) (.slice none 0 0) (.int .i64 q.kc))
  have HX := hid hX
  have HY := hid hY
  clear hX h1 h2 h3 h4 h5 hbx hby hY h
  go_enter Tryz.func133, Tryz.ntmps133
  go_upto_region 2 with fail
  rw [← HX.out]
  go_upto_region 33 with fail
  rw [← HY.out]
  clear a0 t0 a1 t1 a2 t2 a3 t3 a4 t4 a5 t5 a6 t6 a7 t7 a8 t8 a9 t9 a10 t10 a11 t11 a12 t12 a13 t13 a14 t14
  go_wp2
  refine bodyPost_ret (v := agR (zq5 q)) (by simp [results, Tryz.results133, go_sem, zq5, y0, y1, y2, y3, y4, y5, y6, y7, y8, y9, y10, y11, y12, y13, y14]) rfl ⟨rfl, HBP.out⟩
end Go.Proofs.YtbdlahhejfamhaaGreatDoor.Qry
/- The model's nodes with nothing but what such nodes have (operations). -/
namespace Go.Proofs.YtbdlahhejfamhaaGreatDoor.Qry
open Go.RowKit
open Go.Proofs.YtbdlahhejfamhaaGreatDoor.Pat (ret_bool)

set_option maxHeartbeats 8000000 in
set_option maxRecDepth 100000 in
theorem zero_7 (q : R) (w : World) (h : q.kd = 7) : Calls Tryz.prog 133 #[.agg #[.int .i64 q.kd, .int .i64 q.nu, .int .i64 q.st, .string q.tx, .int .i64 q.op, .slice q.ma q.ms.length q.mc, .int .i64 q.off, .bool q.fx, .int .i64 q.att, .bool q.bo, .int .i64 q.byy, .slice q.na q.ns.length q.nc, .int .i64 q.sd, .slice q.ea q.es.length q.ec, .int .i64 q.kc]] w fun e w' => e = .returned (agR (zq7 q)) ∧ Below w.heap.size w w' := by
  have g1 : (q.kd == 1) = false := by simp [h]
  have g2 : (q.kd == 2) = false := by simp [h]
  have g9 : (q.kd == 9) = false := by simp [h]
  have g3 : (q.kd == 3) = false := by simp [h]
  have g4 : (q.kd == 4) = false := by simp [h]
  have g5 : (q.kd == 5) = false := by simp [h]
  have g7 : (q.kd == 7) = true := by simp [h]
  have hbd := bdz q
  obtain ⟨X, hX⟩ : ∃ X, X = ((w.alloc (.cells #[.int .i64 q.kd, .int .i64 q.nu, .int .i64 q.st, .string q.tx, .int .i64 q.op, .slice q.ma q.ms.length q.mc, .int .i64 q.off, .bool q.fx, .int .i64 q.att, .bool q.bo, .int .i64 q.byy, .slice q.na q.ns.length q.nc, .int .i64 q.sd, .slice q.ea q.es.length q.ec, .int .i64 q.kc] 55)).alloc Z15).alloc (.cells #[.int .i64 q.kd, .int .i64 0, .int .i64 0, .string ⟨#[]⟩, .int .i64 0, .slice none 0 0, .int .i64 0, .bool false, .int .i64 0, .bool false, .int .i64 0, .slice none 0 0, .int .i64 0, .slice none 0 0, .int .i64 q.kc] 55) := ⟨_, rfl⟩
  have h1 : X.heap[w.heap.size]? = some (.cells #[.int .i64 q.kd, .int .i64 q.nu, .int .i64 q.st, .string q.tx, .int .i64 q.op, .slice q.ma q.ms.length q.mc, .int .i64 q.off, .bool q.fx, .int .i64 q.att, .bool q.bo, .int .i64 q.byy, .slice q.na q.ns.length q.nc, .int .i64 q.sd, .slice q.ea q.es.length q.ec, .int .i64 q.kc] 55) := by
    rw [hX]; exact kept (kept (heap_alloc_new w _) ((Below.refl _ _).alloc (Nat.le_refl _) _)) ((Below.refl _ _).alloc (Nat.le_refl _) _)
  have h2 : X.heap[w.heap.size + 1]? = some Z15 := by
    rw [hX]; have := heap_alloc_new (w.alloc (.cells #[.int .i64 q.kd, .int .i64 q.nu, .int .i64 q.st, .string q.tx, .int .i64 q.op, .slice q.ma q.ms.length q.mc, .int .i64 q.off, .bool q.fx, .int .i64 q.att, .bool q.bo, .int .i64 q.byy, .slice q.na q.ns.length q.nc, .int .i64 q.sd, .slice q.ea q.es.length q.ec, .int .i64 q.kc] 55)) Z15; simp only [World.size_alloc] at this; exact kept this ((Below.refl _ _).alloc (Nat.le_refl _) _)
  have h3 : X.heap[w.heap.size + 1 + 1]? = some (.cells #[.int .i64 q.kd, .int .i64 0, .int .i64 0, .string ⟨#[]⟩, .int .i64 0, .slice none 0 0, .int .i64 0, .bool false, .int .i64 0, .bool false, .int .i64 0, .slice none 0 0, .int .i64 0, .slice none 0 0, .int .i64 q.kc] 55) := by
    rw [hX]; have := heap_alloc_new ((w.alloc (.cells #[.int .i64 q.kd, .int .i64 q.nu, .int .i64 q.st, .string q.tx, .int .i64 q.op, .slice q.ma q.ms.length q.mc, .int .i64 q.off, .bool q.fx, .int .i64 q.att, .bool q.bo, .int .i64 q.byy, .slice q.na q.ns.length q.nc, .int .i64 q.sd, .slice q.ea q.es.length q.ec, .int .i64 q.kc] 55)).alloc Z15) (.cells #[.int .i64 q.kd, .int .i64 0, .int .i64 0, .string ⟨#[]⟩, .int .i64 0, .slice none 0 0, .int .i64 0, .bool false, .int .i64 0, .bool false, .int .i64 0, .slice none 0 0, .int .i64 0, .slice none 0 0, .int .i64 q.kc] 55); simpa only [World.size_alloc] using this
  have hbx : Below w.heap.size w X := by
    rw [hX]; exact (((Below.refl _ _).alloc (Nat.le_refl _) _).alloc (by simp) _).alloc (by simp; omega) _
  obtain ⟨a0, a1, a2, a3, a4, a5, a6, a7, a8, a9, a10, a11, a12, a13, a14⟩ := fifteen h1
  obtain ⟨t0, t1, t2, t3, t4, t5, t6, t7, t8, t9, t10, t11, t12, t13, t14⟩ := fifteen h3
  have u4 := fifteen_frz (o := 4) h3
  have u9 := fifteen_frz (o := 9) h3
  have u10 := fifteen_frz (o := 10) h3
  have u11 := fifteen_frz (o := 11) h3
  have u12 := fifteen_frz (o := 12) h3
  have u13 := fifteen_frz (o := 13) h3
  obtain ⟨Y, hY⟩ : ∃ Y, Y = ((((((X.setCell ⟨w.heap.size + 1 + 1, 4, none⟩ (.int .i64 q.op)).setCell ⟨w.heap.size + 1 + 1, 9, none⟩ (.bool q.bo)).setCell ⟨w.heap.size + 1 + 1, 10, none⟩ (.int .i64 q.byy)).setCell ⟨w.heap.size + 1 + 1, 11, none⟩ (.slice q.na q.ns.length q.nc)).setCell ⟨w.heap.size + 1 + 1, 12, none⟩ (.int .i64 q.sd)).setCell ⟨w.heap.size + 1 + 1, 13, none⟩ (.slice q.ea q.es.length q.ec)) := ⟨_, rfl⟩
  have h4 : Y.heap[w.heap.size + 1 + 1]? = some (.cells #[.int .i64 q.kd, .int .i64 0, .int .i64 0, .string ⟨#[]⟩, .int .i64 q.op, .slice none 0 0, .int .i64 0, .bool false, .int .i64 0, .bool q.bo, .int .i64 q.byy, .slice q.na q.ns.length q.nc, .int .i64 q.sd, .slice q.ea q.es.length q.ec, .int .i64 q.kc] 55) := by rw [hY]; exact (set1 (set1 (set1 (set1 (set1 (set1 h3 (i := 4) (.int .i64 q.op)) (i := 9) (.bool q.bo)) (i := 10) (.int .i64 q.byy)) (i := 11) (.slice q.na q.ns.length q.nc)) (i := 12) (.int .i64 q.sd)) (i := 13) (.slice q.ea q.es.length q.ec))
  have h5 : Y.heap[w.heap.size + 1]? = some Z15 := by rw [hY]; exact (set1_far (set1_far (set1_far (set1_far (set1_far (set1_far h2 (by omega) (b := w.heap.size + 1 + 1) (i := 4) (.int .i64 q.op)) (by omega) (b := w.heap.size + 1 + 1) (i := 9) (.bool q.bo)) (by omega) (b := w.heap.size + 1 + 1) (i := 10) (.int .i64 q.byy)) (by omega) (b := w.heap.size + 1 + 1) (i := 11) (.slice q.na q.ns.length q.nc)) (by omega) (b := w.heap.size + 1 + 1) (i := 12) (.int .i64 q.sd)) (by omega) (b := w.heap.size + 1 + 1) (i := 13) (.slice q.ea q.es.length q.ec))
  have hby : Below w.heap.size w Y := by rw [hY]; exact ((((((hbx.setCell (p := ⟨w.heap.size + 1 + 1, 4, none⟩) (by show w.heap.size ≤ w.heap.size + 1 + 1; omega) (.int .i64 q.op)).setCell (p := ⟨w.heap.size + 1 + 1, 9, none⟩) (by show w.heap.size ≤ w.heap.size + 1 + 1; omega) (.bool q.bo)).setCell (p := ⟨w.heap.size + 1 + 1, 10, none⟩) (by show w.heap.size ≤ w.heap.size + 1 + 1; omega) (.int .i64 q.byy)).setCell (p := ⟨w.heap.size + 1 + 1, 11, none⟩) (by show w.heap.size ≤ w.heap.size + 1 + 1; omega) (.slice q.na q.ns.length q.nc)).setCell (p := ⟨w.heap.size + 1 + 1, 12, none⟩) (by show w.heap.size ≤ w.heap.size + 1 + 1; omega) (.int .i64 q.sd)).setCell (p := ⟨w.heap.size + 1 + 1, 13, none⟩) (by show w.heap.size ≤ w.heap.size + 1 + 1; omega) (.slice q.ea q.es.length q.ec))
  obtain ⟨b0, b1, b2, b3, b4, b5, b6, b7, b8, b9, b10, b11, b12, b13, b14⟩ := fifteen h4
  obtain ⟨z0, z1, z2, z3, z4, z5, z6, z7, z8, z9, z10, z11, z12, z13, z14⟩ := fifteen h5
  have f0 := fifteen_frz (o := 0) h5
  have f1 := fifteen_frz (o := 1) h5
  have f2 := fifteen_frz (o := 2) h5
  have f3 := fifteen_frz (o := 3) h5
  have f4 := fifteen_frz (o := 4) h5
  have f5 := fifteen_frz (o := 5) h5
  have f6 := fifteen_frz (o := 6) h5
  have f7 := fifteen_frz (o := 7) h5
  have f8 := fifteen_frz (o := 8) h5
  have f9 := fifteen_frz (o := 9) h5
  have f10 := fifteen_frz (o := 10) h5
  have f11 := fifteen_frz (o := 11) h5
  have f12 := fifteen_frz (o := 12) h5
  have f13 := fifteen_frz (o := 13) h5
  have f14 := fifteen_frz (o := 14) h5
  obtain ⟨y0, y1, y2, y3, y4, y5, y6, y7, y8, y9, y10, y11, y12, y13, y14⟩ := fifteen (set15 h5 (.int .i64 q.kd) (.int .i64 0) (.int .i64 0) (.string ⟨#[]⟩) (.int .i64 q.op) (.slice none 0 0) (.int .i64 0) (.bool false) (.int .i64 0) (.bool q.bo) (.int .i64 q.byy) (.slice q.na q.ns.length q.nc) (.int .i64 q.sd) (.slice q.ea q.es.length q.ec) (.int .i64 q.kc))
  have HBP := hid (below15 hby (Nat.le_succ _) (.int .i64 q.kd) (.int .i64 0) (.int .i64 0) (.string ⟨#[]⟩) (.int .i64 q.op) (.slice none 0 0) (.int .i64 0) (.bool false) (.int .i64 0) (.bool q.bo) (.int .i64 q.byy) (.slice q.na q.ns.length q.nc) (.int .i64 q.sd) (.slice q.ea q.es.length q.ec) (.int .i64 q.kc))
  have HX := hid hX
  have HY := hid hY
  clear hX h1 h2 h3 h4 h5 hbx hby hY h
  go_enter Tryz.func133, Tryz.ntmps133
  go_upto_region 2 with fail
  rw [← HX.out]
  go_upto_region 33 with fail
  rw [← HY.out]
  clear a0 t0 a1 t1 a2 t2 a3 t3 a4 t4 a5 t5 a6 t6 a7 t7 a8 t8 a9 t9 a10 t10 a11 t11 a12 t12 a13 t13 a14 t14
  go_wp2
  refine bodyPost_ret (v := agR (zq7 q)) (by simp [results, Tryz.results133, go_sem, zq7, y0, y1, y2, y3, y4, y5, y6, y7, y8, y9, y10, y11, y12, y13, y14]) rfl ⟨rfl, HBP.out⟩
end Go.Proofs.YtbdlahhejfamhaaGreatDoor.Qry
/- The model's nodes with nothing but what such nodes have (aggregates). -/
namespace Go.Proofs.YtbdlahhejfamhaaGreatDoor.Qry
open Go.RowKit
open Go.Proofs.YtbdlahhejfamhaaGreatDoor.Pat (ret_bool)

set_option maxHeartbeats 8000000 in
set_option maxRecDepth 100000 in
theorem zero_8 (q : R) (w : World) (h : q.kd = 8) : Calls Tryz.prog 133 #[.agg #[.int .i64 q.kd, .int .i64 q.nu, .int .i64 q.st, .string q.tx, .int .i64 q.op, .slice q.ma q.ms.length q.mc, .int .i64 q.off, .bool q.fx, .int .i64 q.att, .bool q.bo, .int .i64 q.byy, .slice q.na q.ns.length q.nc, .int .i64 q.sd, .slice q.ea q.es.length q.ec, .int .i64 q.kc]] w fun e w' => e = .returned (agR (zq8 q)) ∧ Below w.heap.size w w' := by
  have g1 : (q.kd == 1) = false := by simp [h]
  have g2 : (q.kd == 2) = false := by simp [h]
  have g9 : (q.kd == 9) = false := by simp [h]
  have g3 : (q.kd == 3) = false := by simp [h]
  have g4 : (q.kd == 4) = false := by simp [h]
  have g5 : (q.kd == 5) = false := by simp [h]
  have g7 : (q.kd == 7) = false := by simp [h]
  have g8 : (q.kd == 8) = true := by simp [h]
  have hbd := bdz q
  obtain ⟨X, hX⟩ : ∃ X, X = ((w.alloc (.cells #[.int .i64 q.kd, .int .i64 q.nu, .int .i64 q.st, .string q.tx, .int .i64 q.op, .slice q.ma q.ms.length q.mc, .int .i64 q.off, .bool q.fx, .int .i64 q.att, .bool q.bo, .int .i64 q.byy, .slice q.na q.ns.length q.nc, .int .i64 q.sd, .slice q.ea q.es.length q.ec, .int .i64 q.kc] 55)).alloc Z15).alloc (.cells #[.int .i64 q.kd, .int .i64 0, .int .i64 0, .string ⟨#[]⟩, .int .i64 0, .slice none 0 0, .int .i64 0, .bool false, .int .i64 0, .bool false, .int .i64 0, .slice none 0 0, .int .i64 0, .slice none 0 0, .int .i64 q.kc] 55) := ⟨_, rfl⟩
  have h1 : X.heap[w.heap.size]? = some (.cells #[.int .i64 q.kd, .int .i64 q.nu, .int .i64 q.st, .string q.tx, .int .i64 q.op, .slice q.ma q.ms.length q.mc, .int .i64 q.off, .bool q.fx, .int .i64 q.att, .bool q.bo, .int .i64 q.byy, .slice q.na q.ns.length q.nc, .int .i64 q.sd, .slice q.ea q.es.length q.ec, .int .i64 q.kc] 55) := by
    rw [hX]; exact kept (kept (heap_alloc_new w _) ((Below.refl _ _).alloc (Nat.le_refl _) _)) ((Below.refl _ _).alloc (Nat.le_refl _) _)
  have h2 : X.heap[w.heap.size + 1]? = some Z15 := by
    rw [hX]; have := heap_alloc_new (w.alloc (.cells #[.int .i64 q.kd, .int .i64 q.nu, .int .i64 q.st, .string q.tx, .int .i64 q.op, .slice q.ma q.ms.length q.mc, .int .i64 q.off, .bool q.fx, .int .i64 q.att, .bool q.bo, .int .i64 q.byy, .slice q.na q.ns.length q.nc, .int .i64 q.sd, .slice q.ea q.es.length q.ec, .int .i64 q.kc] 55)) Z15; simp only [World.size_alloc] at this; exact kept this ((Below.refl _ _).alloc (Nat.le_refl _) _)
  have h3 : X.heap[w.heap.size + 1 + 1]? = some (.cells #[.int .i64 q.kd, .int .i64 0, .int .i64 0, .string ⟨#[]⟩, .int .i64 0, .slice none 0 0, .int .i64 0, .bool false, .int .i64 0, .bool false, .int .i64 0, .slice none 0 0, .int .i64 0, .slice none 0 0, .int .i64 q.kc] 55) := by
    rw [hX]; have := heap_alloc_new ((w.alloc (.cells #[.int .i64 q.kd, .int .i64 q.nu, .int .i64 q.st, .string q.tx, .int .i64 q.op, .slice q.ma q.ms.length q.mc, .int .i64 q.off, .bool q.fx, .int .i64 q.att, .bool q.bo, .int .i64 q.byy, .slice q.na q.ns.length q.nc, .int .i64 q.sd, .slice q.ea q.es.length q.ec, .int .i64 q.kc] 55)).alloc Z15) (.cells #[.int .i64 q.kd, .int .i64 0, .int .i64 0, .string ⟨#[]⟩, .int .i64 0, .slice none 0 0, .int .i64 0, .bool false, .int .i64 0, .bool false, .int .i64 0, .slice none 0 0, .int .i64 0, .slice none 0 0, .int .i64 q.kc] 55); simpa only [World.size_alloc] using this
  have hbx : Below w.heap.size w X := by
    rw [hX]; exact (((Below.refl _ _).alloc (Nat.le_refl _) _).alloc (by simp) _).alloc (by simp; omega) _
  obtain ⟨a0, a1, a2, a3, a4, a5, a6, a7, a8, a9, a10, a11, a12, a13, a14⟩ := fifteen h1
  obtain ⟨t0, t1, t2, t3, t4, t5, t6, t7, t8, t9, t10, t11, t12, t13, t14⟩ := fifteen h3
  have u4 := fifteen_frz (o := 4) h3
  have u10 := fifteen_frz (o := 10) h3
  have u11 := fifteen_frz (o := 11) h3
  obtain ⟨Y, hY⟩ : ∃ Y, Y = (((X.setCell ⟨w.heap.size + 1 + 1, 4, none⟩ (.int .i64 q.op)).setCell ⟨w.heap.size + 1 + 1, 10, none⟩ (.int .i64 q.byy)).setCell ⟨w.heap.size + 1 + 1, 11, none⟩ (.slice q.na q.ns.length q.nc)) := ⟨_, rfl⟩
  have h4 : Y.heap[w.heap.size + 1 + 1]? = some (.cells #[.int .i64 q.kd, .int .i64 0, .int .i64 0, .string ⟨#[]⟩, .int .i64 q.op, .slice none 0 0, .int .i64 0, .bool false, .int .i64 0, .bool false, .int .i64 q.byy, .slice q.na q.ns.length q.nc, .int .i64 0, .slice none 0 0, .int .i64 q.kc] 55) := by rw [hY]; exact (set1 (set1 (set1 h3 (i := 4) (.int .i64 q.op)) (i := 10) (.int .i64 q.byy)) (i := 11) (.slice q.na q.ns.length q.nc))
  have h5 : Y.heap[w.heap.size + 1]? = some Z15 := by rw [hY]; exact (set1_far (set1_far (set1_far h2 (by omega) (b := w.heap.size + 1 + 1) (i := 4) (.int .i64 q.op)) (by omega) (b := w.heap.size + 1 + 1) (i := 10) (.int .i64 q.byy)) (by omega) (b := w.heap.size + 1 + 1) (i := 11) (.slice q.na q.ns.length q.nc))
  have hby : Below w.heap.size w Y := by rw [hY]; exact (((hbx.setCell (p := ⟨w.heap.size + 1 + 1, 4, none⟩) (by show w.heap.size ≤ w.heap.size + 1 + 1; omega) (.int .i64 q.op)).setCell (p := ⟨w.heap.size + 1 + 1, 10, none⟩) (by show w.heap.size ≤ w.heap.size + 1 + 1; omega) (.int .i64 q.byy)).setCell (p := ⟨w.heap.size + 1 + 1, 11, none⟩) (by show w.heap.size ≤ w.heap.size + 1 + 1; omega) (.slice q.na q.ns.length q.nc))
  obtain ⟨b0, b1, b2, b3, b4, b5, b6, b7, b8, b9, b10, b11, b12, b13, b14⟩ := fifteen h4
  obtain ⟨z0, z1, z2, z3, z4, z5, z6, z7, z8, z9, z10, z11, z12, z13, z14⟩ := fifteen h5
  have f0 := fifteen_frz (o := 0) h5
  have f1 := fifteen_frz (o := 1) h5
  have f2 := fifteen_frz (o := 2) h5
  have f3 := fifteen_frz (o := 3) h5
  have f4 := fifteen_frz (o := 4) h5
  have f5 := fifteen_frz (o := 5) h5
  have f6 := fifteen_frz (o := 6) h5
  have f7 := fifteen_frz (o := 7) h5
  have f8 := fifteen_frz (o := 8) h5
  have f9 := fifteen_frz (o := 9) h5
  have f10 := fifteen_frz (o := 10) h5
  have f11 := fifteen_frz (o := 11) h5
  have f12 := fifteen_frz (o := 12) h5
  have f13 := fifteen_frz (o := 13) h5
  have f14 := fifteen_frz (o := 14) h5
  obtain ⟨y0, y1, y2, y3, y4, y5, y6, y7, y8, y9, y10, y11, y12, y13, y14⟩ := fifteen (set15 h5 (.int .i64 q.kd) (.int .i64 0) (.int .i64 0) (.string ⟨#[]⟩) (.int .i64 q.op) (.slice none 0 0) (.int .i64 0) (.bool false) (.int .i64 0) (.bool false) (.int .i64 q.byy) (.slice q.na q.ns.length q.nc) (.int .i64 0) (.slice none 0 0) (.int .i64 q.kc))
  have HBP := hid (below15 hby (Nat.le_succ _) (.int .i64 q.kd) (.int .i64 0) (.int .i64 0) (.string ⟨#[]⟩) (.int .i64 q.op) (.slice none 0 0) (.int .i64 0) (.bool false) (.int .i64 0) (.bool false) (.int .i64 q.byy) (.slice q.na q.ns.length q.nc) (.int .i64 0) (.slice none 0 0) (.int .i64 q.kc))
  have HX := hid hX
  have HY := hid hY
  clear hX h1 h2 h3 h4 h5 hbx hby hY h
  go_enter Tryz.func133, Tryz.ntmps133
  go_upto_region 2 with fail
  rw [← HX.out]
  go_upto_region 33 with fail
  rw [← HY.out]
  clear a0 t0 a1 t1 a2 t2 a3 t3 a4 t4 a5 t5 a6 t6 a7 t7 a8 t8 a9 t9 a10 t10 a11 t11 a12 t12 a13 t13 a14 t14
  go_wp2
  refine bodyPost_ret (v := agR (zq8 q)) (by simp [results, Tryz.results133, go_sem, zq8, y0, y1, y2, y3, y4, y5, y6, y7, y8, y9, y10, y11, y12, y13, y14]) rfl ⟨rfl, HBP.out⟩
end Go.Proofs.YtbdlahhejfamhaaGreatDoor.Qry
