/- What a row of its kind has (sel sub). -/
import Derived.Test.YtbdlahhejfamhaaGreatDoorRA8
namespace Go.Proofs.YtbdlahhejfamhaaGreatDoor.Qry
open Go.RowKit
open Go.Proofs.YtbdlahhejfamhaaGreatDoor.Pat (ret_bool)

set_option maxHeartbeats 8000000 in
set_option maxRecDepth 100000 in
theorem told_sel (q : R) (w : World) : Calls Tryz.prog 104 #[vselectNode q] w fun e w' => e = .returned (agR (tq3 q)) ∧ Below w.heap.size w w' := by
  have tnum := ty_sel_num
  have trange := ty_sel_range
  have ttext := ty_sel_text
  have tcall := ty_sel_call
  have tsel := ty_sel_sel
  have hbq := bdq_sel q
  have HZ := hid (heap_alloc_new w Z15)
  have HB0 := hid ((Below.refl w.heap.size w).alloc (Nat.le_refl _) Z15)
  obtain ⟨X, hX⟩ : ∃ X, X = (w.alloc Z15).alloc (.cells #[.int .i64 q.kd, .int .i64 q.nu, .int .i64 q.st, .string q.tx, .int .i64 q.op, .slice q.ma q.ms.length q.mc, .int .i64 q.off, .bool q.fx, .int .i64 q.att, .bool q.bo, .int .i64 q.byy, .slice q.na q.ns.length q.nc, .int .i64 q.sd, .slice q.ea q.es.length q.ec, .int .i64 q.kc] 112) := ⟨_, rfl⟩
  have hz1 : X.heap[w.heap.size]? = some Z15 := by
    rw [hX]; exact kept HZ.out ((Below.refl _ _).alloc (Nat.le_refl _) _)
  have hn1 : X.heap[w.heap.size + 1]? = some (.cells #[.int .i64 q.kd, .int .i64 q.nu, .int .i64 q.st, .string q.tx, .int .i64 q.op, .slice q.ma q.ms.length q.mc, .int .i64 q.off, .bool q.fx, .int .i64 q.att, .bool q.bo, .int .i64 q.byy, .slice q.na q.ns.length q.nc, .int .i64 q.sd, .slice q.ea q.es.length q.ec, .int .i64 q.kc] 112) := by
    rw [hX]; have := heap_alloc_new (w.alloc Z15) (.cells #[.int .i64 q.kd, .int .i64 q.nu, .int .i64 q.st, .string q.tx, .int .i64 q.op, .slice q.ma q.ms.length q.mc, .int .i64 q.off, .bool q.fx, .int .i64 q.att, .bool q.bo, .int .i64 q.byy, .slice q.na q.ns.length q.nc, .int .i64 q.sd, .slice q.ea q.es.length q.ec, .int .i64 q.kc] 112); simpa using this
  have hbw : Below w.heap.size w X := by
    rw [hX]; exact HB0.out.alloc HB0.out.size _
  obtain ⟨z0, z1, z2, z3, z4, z5, z6, z7, z8, z9, z10, z11, z12, z13, z14⟩ := fifteen hz1
  have f0 := fifteen_frz (o := 0) hz1
  have f1 := fifteen_frz (o := 1) hz1
  have f2 := fifteen_frz (o := 2) hz1
  have f3 := fifteen_frz (o := 3) hz1
  have f4 := fifteen_frz (o := 4) hz1
  have f5 := fifteen_frz (o := 5) hz1
  have f6 := fifteen_frz (o := 6) hz1
  have f7 := fifteen_frz (o := 7) hz1
  have f8 := fifteen_frz (o := 8) hz1
  have f9 := fifteen_frz (o := 9) hz1
  have f10 := fifteen_frz (o := 10) hz1
  have f11 := fifteen_frz (o := 11) hz1
  have f12 := fifteen_frz (o := 12) hz1
  have f13 := fifteen_frz (o := 13) hz1
  have f14 := fifteen_frz (o := 14) hz1
  obtain ⟨y0, y1, y2, y3, y4, y5, y6, y7, y8, y9, y10, y11, y12, y13, y14⟩ := fifteen (set15 hz1 (.int .i64 0) (.int .i64 0) (.int .i64 0) (.string q.tx) (.int .i64 0) (.slice q.ma q.ms.length q.mc) (.int .i64 q.off) (.bool q.fx) (.int .i64 q.att) (.bool false) (.int .i64 0) (.slice none 0 0) (.int .i64 0) (.slice none 0 0) (.int .i64 0))
  have HBP := hid (below15 hbw (Nat.le_refl _) (.int .i64 0) (.int .i64 0) (.int .i64 0) (.string q.tx) (.int .i64 0) (.slice q.ma q.ms.length q.mc) (.int .i64 q.off) (.bool q.fx) (.int .i64 q.att) (.bool false) (.int .i64 0) (.slice none 0 0) (.int .i64 0) (.slice none 0 0) (.int .i64 0))
  have d3 : X.cell? ⟨w.heap.size + 1, 3, none⟩ = some (.string q.tx) := by simp [World.cell?, hn1]
  have d5 : X.cell? ⟨w.heap.size + 1, 5, none⟩ = some (.slice q.ma q.ms.length q.mc) := by simp [World.cell?, hn1]
  have d6 : X.cell? ⟨w.heap.size + 1, 6, none⟩ = some (.int .i64 q.off) := by simp [World.cell?, hn1]
  have d7 : X.cell? ⟨w.heap.size + 1, 7, none⟩ = some (.bool q.fx) := by simp [World.cell?, hn1]
  have d8 : X.cell? ⟨w.heap.size + 1, 8, none⟩ = some (.int .i64 q.att) := by simp [World.cell?, hn1]
  clear hz1 hbw hn1
  have HX := hid hX
  clear hX
  go_enter Tryz.func104, Tryz.ntmps104
  go_upto_region 10 with fail
  rw [← HX.out]
  go_wp2
  (try simp only [Exit.inBlock, Exit.then])
  refine bodyPost_ret (v := agR (tq3 q)) (by simp [results, Tryz.results104, go_sem, tq3, y0, y1, y2, y3, y4, y5, y6, y7, y8, y9, y10, y11, y12, y13, y14]) rfl ⟨rfl, HBP.out⟩

set_option maxHeartbeats 8000000 in
set_option maxRecDepth 100000 in
theorem told_sub (q : R) (tt : TypeId) (x : Value) (w : World) : Calls Tryz.prog 104 #[vsubNode q (.iface tt x)] w fun e w' => e = .returned (agR (tq5 q)) ∧ Below w.heap.size w w' := by
  have tnum := ty_sub_num
  have trange := ty_sub_range
  have ttext := ty_sub_text
  have tcall := ty_sub_call
  have tsel := ty_sub_sel
  have tsub := ty_sub_sub
  have hbq := bdq_sub q
  have HZ := hid (heap_alloc_new w Z15)
  have HB0 := hid ((Below.refl w.heap.size w).alloc (Nat.le_refl _) Z15)
  obtain ⟨X, hX⟩ : ∃ X, X = (w.alloc Z15).alloc (.cells #[.int .i64 q.kd, .int .i64 q.nu, .int .i64 q.st, .string q.tx, .int .i64 q.op, .slice q.ma q.ms.length q.mc, .int .i64 q.off, .bool q.fx, .int .i64 q.att, .bool q.bo, .int .i64 q.byy, .slice q.na q.ns.length q.nc, .int .i64 q.sd, .slice q.ea q.es.length q.ec, .int .i64 q.kc, .iface tt x] 116) := ⟨_, rfl⟩
  have hz1 : X.heap[w.heap.size]? = some Z15 := by
    rw [hX]; exact kept HZ.out ((Below.refl _ _).alloc (Nat.le_refl _) _)
  have hn1 : X.heap[w.heap.size + 1]? = some (.cells #[.int .i64 q.kd, .int .i64 q.nu, .int .i64 q.st, .string q.tx, .int .i64 q.op, .slice q.ma q.ms.length q.mc, .int .i64 q.off, .bool q.fx, .int .i64 q.att, .bool q.bo, .int .i64 q.byy, .slice q.na q.ns.length q.nc, .int .i64 q.sd, .slice q.ea q.es.length q.ec, .int .i64 q.kc, .iface tt x] 116) := by
    rw [hX]; have := heap_alloc_new (w.alloc Z15) (.cells #[.int .i64 q.kd, .int .i64 q.nu, .int .i64 q.st, .string q.tx, .int .i64 q.op, .slice q.ma q.ms.length q.mc, .int .i64 q.off, .bool q.fx, .int .i64 q.att, .bool q.bo, .int .i64 q.byy, .slice q.na q.ns.length q.nc, .int .i64 q.sd, .slice q.ea q.es.length q.ec, .int .i64 q.kc, .iface tt x] 116); simpa using this
  have hbw : Below w.heap.size w X := by
    rw [hX]; exact HB0.out.alloc HB0.out.size _
  obtain ⟨z0, z1, z2, z3, z4, z5, z6, z7, z8, z9, z10, z11, z12, z13, z14⟩ := fifteen hz1
  have f0 := fifteen_frz (o := 0) hz1
  have f1 := fifteen_frz (o := 1) hz1
  have f2 := fifteen_frz (o := 2) hz1
  have f3 := fifteen_frz (o := 3) hz1
  have f4 := fifteen_frz (o := 4) hz1
  have f5 := fifteen_frz (o := 5) hz1
  have f6 := fifteen_frz (o := 6) hz1
  have f7 := fifteen_frz (o := 7) hz1
  have f8 := fifteen_frz (o := 8) hz1
  have f9 := fifteen_frz (o := 9) hz1
  have f10 := fifteen_frz (o := 10) hz1
  have f11 := fifteen_frz (o := 11) hz1
  have f12 := fifteen_frz (o := 12) hz1
  have f13 := fifteen_frz (o := 13) hz1
  have f14 := fifteen_frz (o := 14) hz1
  obtain ⟨y0, y1, y2, y3, y4, y5, y6, y7, y8, y9, y10, y11, y12, y13, y14⟩ := fifteen (set15 hz1 (.int .i64 0) (.int .i64 q.nu) (.int .i64 q.st) (.string ⟨#[]⟩) (.int .i64 0) (.slice none 0 0) (.int .i64 q.off) (.bool q.fx) (.int .i64 q.att) (.bool false) (.int .i64 0) (.slice none 0 0) (.int .i64 0) (.slice none 0 0) (.int .i64 0))
  have HBP := hid (below15 hbw (Nat.le_refl _) (.int .i64 0) (.int .i64 q.nu) (.int .i64 q.st) (.string ⟨#[]⟩) (.int .i64 0) (.slice none 0 0) (.int .i64 q.off) (.bool q.fx) (.int .i64 q.att) (.bool false) (.int .i64 0) (.slice none 0 0) (.int .i64 0) (.slice none 0 0) (.int .i64 0))
  have d1 : X.cell? ⟨w.heap.size + 1, 1, none⟩ = some (.int .i64 q.nu) := by simp [World.cell?, hn1]
  have d2 : X.cell? ⟨w.heap.size + 1, 2, none⟩ = some (.int .i64 q.st) := by simp [World.cell?, hn1]
  have d6 : X.cell? ⟨w.heap.size + 1, 6, none⟩ = some (.int .i64 q.off) := by simp [World.cell?, hn1]
  have d7 : X.cell? ⟨w.heap.size + 1, 7, none⟩ = some (.bool q.fx) := by simp [World.cell?, hn1]
  have d8 : X.cell? ⟨w.heap.size + 1, 8, none⟩ = some (.int .i64 q.att) := by simp [World.cell?, hn1]
  clear hz1 hbw hn1
  have HX := hid hX
  clear hX
  go_enter Tryz.func104, Tryz.ntmps104
  go_upto_region 13 with fail
  rw [← HX.out]
  go_wp2
  (try simp only [Exit.inBlock, Exit.then])
  refine bodyPost_ret (v := agR (tq5 q)) (by simp [results, Tryz.results104, go_sem, tq5, y0, y1, y2, y3, y4, y5, y6, y7, y8, y9, y10, y11, y12, y13, y14]) rfl ⟨rfl, HBP.out⟩
end Go.Proofs.YtbdlahhejfamhaaGreatDoor.Qry
/- What a row of its kind has (neg). -/
namespace Go.Proofs.YtbdlahhejfamhaaGreatDoor.Qry
open Go.RowKit
open Go.Proofs.YtbdlahhejfamhaaGreatDoor.Pat (ret_bool)

set_option maxHeartbeats 8000000 in
set_option maxRecDepth 100000 in
theorem told_neg (q : R) (tt : TypeId) (x : Value) (w : World) : Calls Tryz.prog 104 #[vnegNode q (.iface tt x)] w fun e w' => e = .returned (agR (tq6 q)) ∧ Below w.heap.size w w' := by
  have tnum := ty_neg_num
  have trange := ty_neg_range
  have ttext := ty_neg_text
  have tcall := ty_neg_call
  have tsel := ty_neg_sel
  have tsub := ty_neg_sub
  have top := ty_neg_op
  have tagg := ty_neg_agg
  have hbq := bdq_neg q
  have HZ := hid (heap_alloc_new w Z15)
  have HB0 := hid ((Below.refl w.heap.size w).alloc (Nat.le_refl _) Z15)
  obtain ⟨X, hX⟩ : ∃ X, X = w.alloc Z15 := ⟨_, rfl⟩
  have hzz : X.heap[w.heap.size]? = some Z15 := by rw [hX]; exact HZ.out
  have hbw : Below w.heap.size w X := by rw [hX]; exact HB0.out
  obtain ⟨z0, z1, z2, z3, z4, z5, z6, z7, z8, z9, z10, z11, z12, z13, z14⟩ := fifteen hzz
  have f0 := fifteen_frz (o := 0) hzz
  have f1 := fifteen_frz (o := 1) hzz
  have f2 := fifteen_frz (o := 2) hzz
  have f3 := fifteen_frz (o := 3) hzz
  have f4 := fifteen_frz (o := 4) hzz
  have f5 := fifteen_frz (o := 5) hzz
  have f6 := fifteen_frz (o := 6) hzz
  have f7 := fifteen_frz (o := 7) hzz
  have f8 := fifteen_frz (o := 8) hzz
  have f9 := fifteen_frz (o := 9) hzz
  have f10 := fifteen_frz (o := 10) hzz
  have f11 := fifteen_frz (o := 11) hzz
  have f12 := fifteen_frz (o := 12) hzz
  have f13 := fifteen_frz (o := 13) hzz
  have f14 := fifteen_frz (o := 14) hzz
  obtain ⟨y0, y1, y2, y3, y4, y5, y6, y7, y8, y9, y10, y11, y12, y13, y14⟩ := fifteen (set15 hzz (.int .i64 0) (.int .i64 0) (.int .i64 0) (.string ⟨#[]⟩) (.int .i64 0) (.slice none 0 0) (.int .i64 0) (.bool false) (.int .i64 0) (.bool false) (.int .i64 0) (.slice none 0 0) (.int .i64 0) (.slice none 0 0) (.int .i64 0))
  have HBP := hid (below15 hbw (Nat.le_refl _) (.int .i64 0) (.int .i64 0) (.int .i64 0) (.string ⟨#[]⟩) (.int .i64 0) (.slice none 0 0) (.int .i64 0) (.bool false) (.int .i64 0) (.bool false) (.int .i64 0) (.slice none 0 0) (.int .i64 0) (.slice none 0 0) (.int .i64 0))
  clear hzz hbw
  have HX := hid hX
  clear hX
  go_enter Tryz.func104, Tryz.ntmps104
  go_upto_region 20 with fail
  rw [← HX.out]
  go_wp2
  (try simp only [Exit.inBlock, Exit.then])
  refine bodyPost_ret (v := agR (tq6 q)) (by simp [results, Tryz.results104, go_sem, tq6, y0, y1, y2, y3, y4, y5, y6, y7, y8, y9, y10, y11, y12, y13, y14]) rfl ⟨rfl, HBP.out⟩
end Go.Proofs.YtbdlahhejfamhaaGreatDoor.Qry
