/- The model's nodes with nothing but what such nodes have (numbers). -/
import Derived.Test.YtbdlahhejfamhaaGreatDoorRA8
namespace Go.Proofs.YtbdlahhejfamhaaGreatDoor.Qry
open Go.RowKit
open Go.Proofs.YtbdlahhejfamhaaGreatDoor.Pat (ret_bool)
def zq1 (q : R) : R := ⟨q.kd, q.nu, 0, ⟨#[]⟩, 0, [], none, 0, 0, false, 0, false, 0, [], none, 0, 0, [], none, 0, q.kc⟩
def zq2 (q : R) : R := ⟨q.kd, 0, 0, q.tx, 0, [], none, 0, 0, false, 0, false, 0, [], none, 0, 0, [], none, 0, q.kc⟩
def zq9 (q : R) : R := ⟨q.kd, 0, 0, q.tx, 0, [], none, 0, 0, false, 0, false, 0, [], none, 0, 0, [], none, 0, q.kc⟩
def zq3 (q : R) : R := ⟨q.kd, 0, 0, q.tx, 0, q.ms, q.ma, q.mc, q.off, q.fx, q.att, false, 0, [], none, 0, 0, [], none, 0, q.kc⟩
def zq4 (q : R) : R := ⟨q.kd, q.nu, 0, ⟨#[]⟩, 0, [], none, 0, 0, false, 0, false, 0, [], none, 0, 0, [], none, 0, q.kc⟩
def zq5 (q : R) : R := ⟨q.kd, q.nu, q.st, ⟨#[]⟩, 0, [], none, 0, q.off, q.fx, q.att, false, 0, [], none, 0, 0, [], none, 0, q.kc⟩
def zq7 (q : R) : R := ⟨q.kd, 0, 0, ⟨#[]⟩, q.op, [], none, 0, 0, false, 0, q.bo, q.byy, q.ns, q.na, q.nc, q.sd, q.es, q.ea, q.ec, q.kc⟩
def zq8 (q : R) : R := ⟨q.kd, 0, 0, ⟨#[]⟩, q.op, [], none, 0, 0, false, 0, false, q.byy, q.ns, q.na, q.nc, 0, [], none, 0, q.kc⟩
def zq0 (q : R) : R := ⟨q.kd, 0, 0, ⟨#[]⟩, 0, [], none, 0, 0, false, 0, false, 0, [], none, 0, 0, [], none, 0, q.kc⟩
theorem set1 {x : World} {b i : Nat} {cs : Array Value} {t : TypeId} (h : x.heap[b]? = some (.cells cs t)) (v : Value) : (x.setCell ⟨b, i, none⟩ v).heap[b]? = some (.cells (cs.set! i v) t) := by
  have hlt := (Array.getElem?_eq_some_iff.1 h).1
  have h' : x.heap[b] = .cells cs t := by simpa [Array.getElem?_eq_getElem hlt] using h
  show (x.heap.modify b _)[b]? = _
  rw [Array.getElem?_eq_getElem (by simpa using hlt), Array.getElem_modify_self, h']
  rfl
theorem set1_far {x : World} {b b' i : Nat} {ob : Obj} (h : x.heap[b']? = some ob) (hne : b' ≠ b) (v : Value) : (x.setCell ⟨b, i, none⟩ v).heap[b']? = some ob := (Below.heap_setCell _ _ _ _ (by simpa using hne)).trans h
theorem bdz (q : R) (w : World) : (Instr.build 55 #[(0, .int .i64 q.kd), (14, .int .i64 q.kc)]).run Tryz.prog w = .ok (.agg #[.int .i64 q.kd, .int .i64 0, .int .i64 0, .string ⟨#[]⟩, .int .i64 0, .slice none 0 0, .int .i64 0, .bool false, .int .i64 0, .bool false, .int .i64 0, .slice none 0 0, .int .i64 0, .slice none 0 0, .int .i64 q.kc]) w := by kernel_rfl

set_option maxHeartbeats 8000000 in
set_option maxRecDepth 100000 in
theorem zero_1 (q : R) (w : World) (h : q.kd = 1) : Calls Tryz.prog 133 #[.agg #[.int .i64 q.kd, .int .i64 q.nu, .int .i64 q.st, .string q.tx, .int .i64 q.op, .slice q.ma q.ms.length q.mc, .int .i64 q.off, .bool q.fx, .int .i64 q.att, .bool q.bo, .int .i64 q.byy, .slice q.na q.ns.length q.nc, .int .i64 q.sd, .slice q.ea q.es.length q.ec, .int .i64 q.kc]] w fun e w' => e = .returned (agR (zq1 q)) ∧ Below w.heap.size w w' := by
  have g1 : (q.kd == 1) = true := by simp [h]
  have hbd := bdz q
  obtain ⟨X, hX⟩ : ∃ X, X = ((w.alloc (.cells #[.int .i64 q.kd, .int .i64 q.nu, .int .i64 q.st, .string q.tx, .int .i64 q.op, .slice q.ma q.ms.length q.mc, .int .i64 q.off, .bool q.fx, .int .i64 q.att, .bool q.bo, .int .i64 q.byy, .slice q.na q.ns.length q.nc, .int .i64 q.sd, .slice q.ea q.es.length q.ec, .int .i64 q.kc] 55)).alloc Z15).alloc (.cells #[.int .i64 q.kd, .int .i64 0, .int .i64 0, .string ⟨#[]⟩, .int .i64 0, .slice none 0 0, .int .i64 0, .bool false, .int .i64 0, .bool false, .int .i64 0, .slice none 0 0, .int .i64 0, .slice none 0 0, .int .i64 q.kc] 55) := ⟨_, rfl⟩
  have h1 : X.heap[w.heap.size]? = some (.cells #[.int .i64 q.kd, .int .i64 q.nu, .int .i64 q.st, .string q.tx, .int .i64 q.op, .slice q.ma q.ms.length q.mc, .int .i64 q.off, .bool q.fx, .int .i64 q.att, .bool q.bo, .int .i64 q.byy, .slice q.na q.ns.length q.nc, .int .i64 q.sd, .slice q.ea q.es.length q.ec, .int .i64 q.kc] 55) := by
    rw [hX]; exact kept (kept (heap_alloc_new w _) ((Below.refl _ _).alloc (Nat.le_refl _) _)) ((Below.refl _ _).alloc (Nat.le_refl _) _)
  have h2 : X.heap[w.heap.size + 1]? = some Z15 := by
    rw [hX]; have := heap_alloc_new (w.alloc (.cells #[.int .i64 q.kd, .int .i64 q.nu, .int .i64 q.st, .string q.tx, .int .i64 q.op, .slice q.ma q.ms.length q.mc, .int .i64 q.off, .bool q.fx, .int .i64 q.att, .bool q.bo, .int .i64 q.byy, .slice q.na q.ns.length q.nc, .int .i64 q.sd, .slice q.ea q.es.length q.ec, .int .i64 q.kc] 55)) Z15; simp only [World.size_alloc] at this; exact kept this ((Below.refl _ _).alloc (Nat.le_refl _) _)
  have h3 : X.heap[w.heap.size + 1 + 1]? = some (.cells #[.int .i64 q.kd, .int .i64 0, .int .i64 0, .string ⟨#[]⟩, .int .i64 0, .slice none 0 0, .int .i64 0, .bool false, .int .i64 0, .bool false, .int .i64 0, .slice none 0 0, .int .i64 0, .slice none 0 0, .int .i64 q.kc] 55) := by
    rw [hX]; have := heap_alloc_new ((w.alloc (.cells #[.int .i64 q.kd, .int .i64 q.nu, .int .i64 q.st, .string q.tx, .int .i64 q.op, .slice q.ma q.ms.length q.mc, .int .i64 q.off, .bool q.fx, .int .i64 q.att, .bool q.bo, .int .i64 q.byy, .slice q.na q.ns.length q.nc, .int .i64 q.sd, .slice q.ea q.es.length q.ec, .int .i64 q.kc] 55)).alloc Z15) (.cells #[.int .i64 q.kd, .int .i64 0, .int .i64 0, .string ⟨#[]⟩, .int .i64 0, .slice none 0 0, .int .i64 0, .bool false, .int .i64 0, .bool false, .int .i64 0, .slice none 0 0, .int .i64 0, .slice none 0 0, .int .i64 q.kc] 55); simpa only [World.size_alloc] using this
  have hbx : Below w.heap.size w X := by
    rw [hX]; exact (((Below.refl _ _).alloc (Nat.le_refl _) _).alloc (by simp) _).alloc (by simp; omega) _
  obtain ⟨a0, a1, a2, a3, a4, a5, a6, a7, a8, a9, a10, a11, a12, a13, a14⟩ := fifteen h1
  obtain ⟨t0, t1, t2, t3, t4, t5, t6, t7, t8, t9, t10, t11, t12, t13, t14⟩ := fifteen h3
  have u1 := fifteen_frz (o := 1) h3
  obtain ⟨Y, hY⟩ : ∃ Y, Y = (X.setCell ⟨w.heap.size + 1 + 1, 1, none⟩ (.int .i64 q.nu)) := ⟨_, rfl⟩
  have h4 : Y.heap[w.heap.size + 1 + 1]? = some (.cells #[.int .i64 q.kd, .int .i64 q.nu, .int .i64 0, .string ⟨#[]⟩, .int .i64 0, .slice none 0 0, .int .i64 0, .bool false, .int .i64 0, .bool false, .int .i64 0, .slice none 0 0, .int .i64 0, .slice none 0 0, .int .i64 q.kc] 55) := by rw [hY]; exact (set1 h3 (i := 1) (.int .i64 q.nu))
  have h5 : Y.heap[w.heap.size + 1]? = some Z15 := by rw [hY]; exact (set1_far h2 (by omega) (b := w.heap.size + 1 + 1) (i := 1) (.int .i64 q.nu))
  have hby : Below w.heap.size w Y := by rw [hY]; exact (hbx.setCell (p := ⟨w.heap.size + 1 + 1, 1, none⟩) (by show w.heap.size ≤ w.heap.size + 1 + 1; omega) (.int .i64 q.nu))
  obtain ⟨b0, b1, b2, b3, b4, b5, b6, b7, b8, b9, b10, b11, b12, b13, b14⟩ := fifteen h4
  obtain ⟨z0, z1, z2, z3, z4, z5, z6, z7, z8, z9, z10, z11, z12, z13, z14⟩ := fifteen h5
  have f0 := fifteen_frz (o := 0) h5
  have f1 := fifteen_frz (o := 1) h5
  have f2 := fifteen_frz (o := 2) h5
  have f3 := fifteen_frz (o := 3) h5
  have f4 := fifteen_frz (o := 4) h5
  have f5 := fifteen_frz (o := 5) h5
  have f6 := fifteen_frz (o := 6) h5
  have f7 := fifteen_frz (o := 7) h5
  have f8 := fifteen_frz (o := 8) h5
  have f9 := fifteen_frz (o := 9) h5
  have f10 := fifteen_frz (o := 10) h5
  have f11 := fifteen_frz (o := 11) h5
  have f12 := fifteen_frz (o := 12) h5
  have f13 := fifteen_frz (o := 13) h5
  have f14 := fifteen_frz (o := 14) h5
  obtain ⟨y0, y1, y2, y3, y4, y5, y6, y7, y8, y9, y10, y11, y12, y13, y14⟩ := fifteen (set15 h5 (.int .i64 q.kd) (.int .i64 q.nu) (.int .i64 0) (.string ⟨#[]⟩) (.int .i64 0) (.slice none 0 0) (.int .i64 0) (.bool false) (.int .i64 0) (.bool false) (.int .i64 0) (.slice none 0 0) (.int .i64 0) (.slice none 0 0) (.int .i64 q.kc))
  have HBP := hid (below15 hby (Nat.le_succ _) (.int .i64 q.kd) (.int .i64 q.nu) (.int .i64 0) (.string ⟨#[]⟩) (.int .i64 0) (.slice none 0 0) (.int .i64 0) (.bool false) (.int .i64 0) (.bool false) (.int .i64 0) (.slice none 0 0) (.int .i64 0) (.slice none 0 0) (.int .i64 q.kc))
  have HX := hid hX
  have HY := hid hY
  clear hX h1 h2 h3 h4 h5 hbx hby hY h
  go_enter Tryz.func133, Tryz.ntmps133
  go_upto_region 2 with fail
  rw [← HX.out]
  go_upto_region 33 with fail
  rw [← HY.out]
  clear a0 t0 a1 t1 a2 t2 a3 t3 a4 t4 a5 t5 a6 t6 a7 t7 a8 t8 a9 t9 a10 t10 a11 t11 a12 t12 a13 t13 a14 t14
  go_wp2
  refine bodyPost_ret (v := agR (zq1 q)) (by simp [results, Tryz.results133, go_sem, zq1, y0, y1, y2, y3, y4, y5, y6, y7, y8, y9, y10, y11, y12, y13, y14]) rfl ⟨rfl, HBP.out⟩
end Go.Proofs.YtbdlahhejfamhaaGreatDoor.Qry
