/- What a row of its kind has (op). -/
import Derived.Test.YtbdlahhejfamhaaGreatDoorRA8
namespace Go.Proofs.YtbdlahhejfamhaaGreatDoor.Qry
open Go.RowKit
open Go.Proofs.YtbdlahhejfamhaaGreatDoor.Pat (ret_bool)

set_option maxHeartbeats 8000000 in
set_option maxRecDepth 100000 in
theorem told_op (q : R) (tt : TypeId) (x : Value) (uu : TypeId) (y : Value) (w : World) : Calls Tryz.prog 104 #[vopNode q (.iface tt x) (.iface uu y)] w fun e w' => e = .returned (agR (tq7 q)) ∧ Below w.heap.size w w' := by
  have tnum := ty_op_num
  have trange := ty_op_range
  have ttext := ty_op_text
  have tcall := ty_op_call
  have tsel := ty_op_sel
  have tsub := ty_op_sub
  have top := ty_op_op
  have hbq := bdq_op q
  have HZ := hid (heap_alloc_new w Z15)
  have HB0 := hid ((Below.refl w.heap.size w).alloc (Nat.le_refl _) Z15)
  obtain ⟨X, hX⟩ : ∃ X, X = (w.alloc Z15).alloc (.cells #[.int .i64 q.kd, .int .i64 q.nu, .int .i64 q.st, .string q.tx, .int .i64 q.op, .slice q.ma q.ms.length q.mc, .int .i64 q.off, .bool q.fx, .int .i64 q.att, .bool q.bo, .int .i64 q.byy, .slice q.na q.ns.length q.nc, .int .i64 q.sd, .slice q.ea q.es.length q.ec, .int .i64 q.kc, .iface tt x, .iface uu y] 120) := ⟨_, rfl⟩
  have hz1 : X.heap[w.heap.size]? = some Z15 := by
    rw [hX]; exact kept HZ.out ((Below.refl _ _).alloc (Nat.le_refl _) _)
  have hn1 : X.heap[w.heap.size + 1]? = some (.cells #[.int .i64 q.kd, .int .i64 q.nu, .int .i64 q.st, .string q.tx, .int .i64 q.op, .slice q.ma q.ms.length q.mc, .int .i64 q.off, .bool q.fx, .int .i64 q.att, .bool q.bo, .int .i64 q.byy, .slice q.na q.ns.length q.nc, .int .i64 q.sd, .slice q.ea q.es.length q.ec, .int .i64 q.kc, .iface tt x, .iface uu y] 120) := by
    rw [hX]; have := heap_alloc_new (w.alloc Z15) (.cells #[.int .i64 q.kd, .int .i64 q.nu, .int .i64 q.st, .string q.tx, .int .i64 q.op, .slice q.ma q.ms.length q.mc, .int .i64 q.off, .bool q.fx, .int .i64 q.att, .bool q.bo, .int .i64 q.byy, .slice q.na q.ns.length q.nc, .int .i64 q.sd, .slice q.ea q.es.length q.ec, .int .i64 q.kc, .iface tt x, .iface uu y] 120); simpa using this
  have hbw : Below w.heap.size w X := by
    rw [hX]; exact HB0.out.alloc HB0.out.size _
  obtain ⟨z0, z1, z2, z3, z4, z5, z6, z7, z8, z9, z10, z11, z12, z13, z14⟩ := fifteen hz1
  have f0 := fifteen_frz (o := 0) hz1
  have f1 := fifteen_frz (o := 1) hz1
  have f2 := fifteen_frz (o := 2) hz1
  have f3 := fifteen_frz (o := 3) hz1
  have f4 := fifteen_frz (o := 4) hz1
  have f5 := fifteen_frz (o := 5) hz1
  have f6 := fifteen_frz (o := 6) hz1
  have f7 := fifteen_frz (o := 7) hz1
  have f8 := fifteen_frz (o := 8) hz1
  have f9 := fifteen_frz (o := 9) hz1
  have f10 := fifteen_frz (o := 10) hz1
  have f11 := fifteen_frz (o := 11) hz1
  have f12 := fifteen_frz (o := 12) hz1
  have f13 := fifteen_frz (o := 13) hz1
  have f14 := fifteen_frz (o := 14) hz1
  obtain ⟨y0, y1, y2, y3, y4, y5, y6, y7, y8, y9, y10, y11, y12, y13, y14⟩ := fifteen (set15 hz1 (.int .i64 0) (.int .i64 0) (.int .i64 0) (.string ⟨#[]⟩) (.int .i64 q.op) (.slice none 0 0) (.int .i64 0) (.bool false) (.int .i64 0) (.bool q.bo) (.int .i64 q.byy) (.slice q.na q.ns.length q.nc) (.int .i64 q.sd) (.slice q.ea q.es.length q.ec) (.int .i64 0))
  have HBP := hid (below15 hbw (Nat.le_refl _) (.int .i64 0) (.int .i64 0) (.int .i64 0) (.string ⟨#[]⟩) (.int .i64 q.op) (.slice none 0 0) (.int .i64 0) (.bool false) (.int .i64 0) (.bool q.bo) (.int .i64 q.byy) (.slice q.na q.ns.length q.nc) (.int .i64 q.sd) (.slice q.ea q.es.length q.ec) (.int .i64 0))
  have d4 : X.cell? ⟨w.heap.size + 1, 4, none⟩ = some (.int .i64 q.op) := by simp [World.cell?, hn1]
  have d9 : X.cell? ⟨w.heap.size + 1, 9, none⟩ = some (.bool q.bo) := by simp [World.cell?, hn1]
  have d10 : X.cell? ⟨w.heap.size + 1, 10, none⟩ = some (.int .i64 q.byy) := by simp [World.cell?, hn1]
  have d11 : X.cell? ⟨w.heap.size + 1, 11, none⟩ = some (.slice q.na q.ns.length q.nc) := by simp [World.cell?, hn1]
  have d12 : X.cell? ⟨w.heap.size + 1, 12, none⟩ = some (.int .i64 q.sd) := by simp [World.cell?, hn1]
  have d13 : X.cell? ⟨w.heap.size + 1, 13, none⟩ = some (.slice q.ea q.es.length q.ec) := by simp [World.cell?, hn1]
  clear hz1 hbw hn1
  have HX := hid hX
  clear hX
  go_enter Tryz.func104, Tryz.ntmps104
  go_upto_region 16 with fail
  rw [← HX.out]
  go_wp2
  (try simp only [Exit.inBlock, Exit.then])
  refine bodyPost_ret (v := agR (tq7 q)) (by simp [results, Tryz.results104, go_sem, tq7, y0, y1, y2, y3, y4, y5, y6, y7, y8, y9, y10, y11, y12, y13, y14]) rfl ⟨rfl, HBP.out⟩
end Go.Proofs.YtbdlahhejfamhaaGreatDoor.Qry
/- What a row of its kind has (agg). -/
namespace Go.Proofs.YtbdlahhejfamhaaGreatDoor.Qry
open Go.RowKit
open Go.Proofs.YtbdlahhejfamhaaGreatDoor.Pat (ret_bool)

set_option maxHeartbeats 8000000 in
set_option maxRecDepth 100000 in
theorem told_agg (q : R) (a : Option Addr) (n c : Nat) (w : World) : Calls Tryz.prog 104 #[vaggNode q a n c] w fun e w' => e = .returned (agR (tq8 q)) ∧ Below w.heap.size w w' := by
  have tnum := ty_agg_num
  have trange := ty_agg_range
  have ttext := ty_agg_text
  have tcall := ty_agg_call
  have tsel := ty_agg_sel
  have tsub := ty_agg_sub
  have top := ty_agg_op
  have tagg := ty_agg_agg
  have hbq := bdq_agg q
  have HZ := hid (heap_alloc_new w Z15)
  have HB0 := hid ((Below.refl w.heap.size w).alloc (Nat.le_refl _) Z15)
  obtain ⟨X, hX⟩ : ∃ X, X = (w.alloc Z15).alloc (.cells #[.int .i64 q.kd, .int .i64 q.nu, .int .i64 q.st, .string q.tx, .int .i64 q.op, .slice q.ma q.ms.length q.mc, .int .i64 q.off, .bool q.fx, .int .i64 q.att, .bool q.bo, .int .i64 q.byy, .slice q.na q.ns.length q.nc, .int .i64 q.sd, .slice q.ea q.es.length q.ec, .int .i64 q.kc, .slice a n c] 123) := ⟨_, rfl⟩
  have hz1 : X.heap[w.heap.size]? = some Z15 := by
    rw [hX]; exact kept HZ.out ((Below.refl _ _).alloc (Nat.le_refl _) _)
  have hn1 : X.heap[w.heap.size + 1]? = some (.cells #[.int .i64 q.kd, .int .i64 q.nu, .int .i64 q.st, .string q.tx, .int .i64 q.op, .slice q.ma q.ms.length q.mc, .int .i64 q.off, .bool q.fx, .int .i64 q.att, .bool q.bo, .int .i64 q.byy, .slice q.na q.ns.length q.nc, .int .i64 q.sd, .slice q.ea q.es.length q.ec, .int .i64 q.kc, .slice a n c] 123) := by
    rw [hX]; have := heap_alloc_new (w.alloc Z15) (.cells #[.int .i64 q.kd, .int .i64 q.nu, .int .i64 q.st, .string q.tx, .int .i64 q.op, .slice q.ma q.ms.length q.mc, .int .i64 q.off, .bool q.fx, .int .i64 q.att, .bool q.bo, .int .i64 q.byy, .slice q.na q.ns.length q.nc, .int .i64 q.sd, .slice q.ea q.es.length q.ec, .int .i64 q.kc, .slice a n c] 123); simpa using this
  have hbw : Below w.heap.size w X := by
    rw [hX]; exact HB0.out.alloc HB0.out.size _
  obtain ⟨z0, z1, z2, z3, z4, z5, z6, z7, z8, z9, z10, z11, z12, z13, z14⟩ := fifteen hz1
  have f0 := fifteen_frz (o := 0) hz1
  have f1 := fifteen_frz (o := 1) hz1
  have f2 := fifteen_frz (o := 2) hz1
  have f3 := fifteen_frz (o := 3) hz1
  have f4 := fifteen_frz (o := 4) hz1
  have f5 := fifteen_frz (o := 5) hz1
  have f6 := fifteen_frz (o := 6) hz1
  have f7 := fifteen_frz (o := 7) hz1
  have f8 := fifteen_frz (o := 8) hz1
  have f9 := fifteen_frz (o := 9) hz1
  have f10 := fifteen_frz (o := 10) hz1
  have f11 := fifteen_frz (o := 11) hz1
  have f12 := fifteen_frz (o := 12) hz1
  have f13 := fifteen_frz (o := 13) hz1
  have f14 := fifteen_frz (o := 14) hz1
  obtain ⟨y0, y1, y2, y3, y4, y5, y6, y7, y8, y9, y10, y11, y12, y13, y14⟩ := fifteen (set15 hz1 (.int .i64 0) (.int .i64 0) (.int .i64 0) (.string ⟨#[]⟩) (.int .i64 q.op) (.slice none 0 0) (.int .i64 0) (.bool false) (.int .i64 0) (.bool false) (.int .i64 q.byy) (.slice q.na q.ns.length q.nc) (.int .i64 0) (.slice none 0 0) (.int .i64 0))
  have HBP := hid (below15 hbw (Nat.le_refl _) (.int .i64 0) (.int .i64 0) (.int .i64 0) (.string ⟨#[]⟩) (.int .i64 q.op) (.slice none 0 0) (.int .i64 0) (.bool false) (.int .i64 0) (.bool false) (.int .i64 q.byy) (.slice q.na q.ns.length q.nc) (.int .i64 0) (.slice none 0 0) (.int .i64 0))
  have d4 : X.cell? ⟨w.heap.size + 1, 4, none⟩ = some (.int .i64 q.op) := by simp [World.cell?, hn1]
  have d10 : X.cell? ⟨w.heap.size + 1, 10, none⟩ = some (.int .i64 q.byy) := by simp [World.cell?, hn1]
  have d11 : X.cell? ⟨w.heap.size + 1, 11, none⟩ = some (.slice q.na q.ns.length q.nc) := by simp [World.cell?, hn1]
  clear hz1 hbw hn1
  have HX := hid hX
  clear hX
  go_enter Tryz.func104, Tryz.ntmps104
  go_upto_region 19 with fail
  rw [← HX.out]
  go_wp2
  (try simp only [Exit.inBlock, Exit.then])
  refine bodyPost_ret (v := agR (tq8 q)) (by simp [results, Tryz.results104, go_sem, tq8, y0, y1, y2, y3, y4, y5, y6, y7, y8, y9, y10, y11, y12, y13, y14]) rfl ⟨rfl, HBP.out⟩
end Go.Proofs.YtbdlahhejfamhaaGreatDoor.Qry
