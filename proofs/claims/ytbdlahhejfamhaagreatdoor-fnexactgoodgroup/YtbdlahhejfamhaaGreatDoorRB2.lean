/- What the program makes of a row and its kids (ranges). -/
import Derived.Test.YtbdlahhejfamhaaGreatDoorRB1
import Derived.Deep.RegionHeld3
namespace Go.Proofs.YtbdlahhejfamhaaGreatDoor.Qry
open Go.RowKit
open Go.Proofs.YtbdlahhejfamhaaGreatDoor.Pat (ret_bool)

theorem fifteenS {w : World} {b : Nat} {t : TypeId} {v0 v1 v2 v3 v4 v5 v6 v7 v8 v9 v10 v11 v12 v13 v14 : Value} (h : w.heap[b]? = some (.cells #[v0, v1, v2, v3, v4, v5, v6, v7, v8, v9, v10, v11, v12, v13, v14] t (0, 0))) : w.cell? ⟨b, 0, none⟩ = some v0 ∧ w.cell? ⟨b, 1, none⟩ = some v1 ∧ w.cell? ⟨b, 2, none⟩ = some v2 ∧ w.cell? ⟨b, 3, none⟩ = some v3 ∧ w.cell? ⟨b, 4, none⟩ = some v4 ∧ w.cell? ⟨b, 5, none⟩ = some v5 ∧ w.cell? ⟨b, 6, none⟩ = some v6 ∧ w.cell? ⟨b, 7, none⟩ = some v7 ∧ w.cell? ⟨b, 8, none⟩ = some v8 ∧ w.cell? ⟨b, 9, none⟩ = some v9 ∧ w.cell? ⟨b, 10, none⟩ = some v10 ∧ w.cell? ⟨b, 11, none⟩ = some v11 ∧ w.cell? ⟨b, 12, none⟩ = some v12 ∧ w.cell? ⟨b, 13, none⟩ = some v13 ∧ w.cell? ⟨b, 14, none⟩ = some v14 := by
  simp [World.cell?, h]
set_option maxHeartbeats 8000000 in
set_option maxRecDepth 100000 in
theorem node_range (q p : R) (b off c : Nat) (w : World) (h : q.kd = 4) (hb : b < w.heap.size) (hk : w.cell? ⟨b, off, none⟩ = some (vselectNode p)) : Calls Tryz.prog 80 #[.agg #[.int .i64 q.kd, .int .i64 q.nu, .int .i64 q.st, .string q.tx, .int .i64 q.op, .slice q.ma q.ms.length q.mc, .int .i64 q.off, .bool q.fx, .int .i64 q.att, .bool q.bo, .int .i64 q.byy, .slice q.na q.ns.length q.nc, .int .i64 q.sd, .slice q.ea q.es.length q.ec, .int .i64 q.kc], .slice (some ⟨b, off, none⟩) 1 c] w fun e w' => e = .returned (.tuple #[vrangeNode q p, .bool true]) ∧ Below w.heap.size w w' := by
  have g1 : (q.kd == 1) = false := by simp [h]
  have g2 : (q.kd == 2) = false := by simp [h]
  have g3 : (q.kd == 3) = false := by simp [h]
  have g4 : (q.kd == 4) = true := by simp [h]
  have hbd := bdn_range q p
  have tss := ty_sel_sel
  obtain ⟨X, hX⟩ : ∃ X, X = w.alloc (.cells #[.int .i64 q.kd, .int .i64 q.nu, .int .i64 q.st, .string q.tx, .int .i64 q.op, .slice q.ma q.ms.length q.mc, .int .i64 q.off, .bool q.fx, .int .i64 q.att, .bool q.bo, .int .i64 q.byy, .slice q.na q.ns.length q.nc, .int .i64 q.sd, .slice q.ea q.es.length q.ec, .int .i64 q.kc] 55) := ⟨_, rfl⟩
  have h1 : X.heap[w.heap.size]? = some (.cells #[.int .i64 q.kd, .int .i64 q.nu, .int .i64 q.st, .string q.tx, .int .i64 q.op, .slice q.ma q.ms.length q.mc, .int .i64 q.off, .bool q.fx, .int .i64 q.att, .bool q.bo, .int .i64 q.byy, .slice q.na q.ns.length q.nc, .int .i64 q.sd, .slice q.ea q.es.length q.ec, .int .i64 q.kc] 55) := by rw [hX]; exact heap_alloc_new w _
  have hbx : Below w.heap.size w X := by rw [hX]; exact (Below.refl _ _).alloc (Nat.le_refl _) _
  obtain ⟨a0, a1, a2, a3, a4, a5, a6, a7, a8, a9, a10, a11, a12, a13, a14⟩ := fifteen h1
  have HX := hid hX
  have HBX := hid hbx
  clear hX hbx h
  have k0 : X.cell? ⟨b, off, none⟩ = some (vselectNode p) := (HBX.out.cell (p := ⟨b, off, none⟩) hb).trans hk
  obtain ⟨Y, hY⟩ : ∃ Y, Y = X.alloc (.cells #[.int .i64 p.kd, .int .i64 p.nu, .int .i64 p.st, .string p.tx, .int .i64 p.op, .slice p.ma p.ms.length p.mc, .int .i64 p.off, .bool p.fx, .int .i64 p.att, .bool p.bo, .int .i64 p.byy, .slice p.na p.ns.length p.nc, .int .i64 p.sd, .slice p.ea p.es.length p.ec, .int .i64 p.kc] 112) := ⟨_, rfl⟩
  have h2 : Y.heap[w.heap.size]? = some (.cells #[.int .i64 q.kd, .int .i64 q.nu, .int .i64 q.st, .string q.tx, .int .i64 q.op, .slice q.ma q.ms.length q.mc, .int .i64 q.off, .bool q.fx, .int .i64 q.att, .bool q.bo, .int .i64 q.byy, .slice q.na q.ns.length q.nc, .int .i64 q.sd, .slice q.ea q.es.length q.ec, .int .i64 q.kc] 55) := by rw [hY]; exact kept h1 ((Below.refl _ _).alloc (Nat.le_refl _) _)
  have h3 : Y.heap[X.heap.size]? = some (.cells #[.int .i64 p.kd, .int .i64 p.nu, .int .i64 p.st, .string p.tx, .int .i64 p.op, .slice p.ma p.ms.length p.mc, .int .i64 p.off, .bool p.fx, .int .i64 p.att, .bool p.bo, .int .i64 p.byy, .slice p.na p.ns.length p.nc, .int .i64 p.sd, .slice p.ea p.es.length p.ec, .int .i64 p.kc] 112) := by rw [hY]; exact heap_alloc_new X _
  have HBY : Hid (Below w.heap.size w Y) := by unfold Hid; rw [hY]; exact HBX.out.alloc HBX.out.size _
  have HY := hid hY
  clear hY h1 hk
  go_enter Tryz.func80, Tryz.ntmps80
  go_upto_region 1 with fail
  rw [← HX.out]
  go_upto_region 10 with fail
  rw [← HY.out]
  clear a0 a1 a2 a3 a4 a5 a6 a7 a8 a9 a10 a11 a12 a13 a14
  obtain ⟨a0, a1, a2, a3, a4, a5, a6, a7, a8, a9, a10, a11, a12, a13, a14⟩ := fifteenS h2
  obtain ⟨s0, s1, s2, s3, s4, s5, s6, s7, s8, s9, s10, s11, s12, s13, s14⟩ := fifteenS h3
  go_wp2
  (try simp only [Exit.inBlock, Exit.then])
  go_ret2
  exact ⟨rfl, HBY.out⟩

set_option maxHeartbeats 8000000 in
set_option maxRecDepth 100000 in
theorem node_rangeno (q : R) (b off c : Nat) (tt : TypeId) (x : Value) (w : World) (h : q.kd = 4) (hb : b < w.heap.size) (hk : w.cell? ⟨b, off, none⟩ = some (.iface tt x)) (hty : ∀ w, (Instr.typeAssert (.iface tt x) 64 112 true).run Tryz.prog w = .ok (.tuple #[.agg #[.int .i64 0, .int .i64 0, .int .i64 0, .string ⟨#[]⟩, .int .i64 0, .slice none 0 0, .int .i64 0, .bool false, .int .i64 0, .bool false, .int .i64 0, .slice none 0 0, .int .i64 0, .slice none 0 0, .int .i64 0], .bool false]) w) : Calls Tryz.prog 80 #[.agg #[.int .i64 q.kd, .int .i64 q.nu, .int .i64 q.st, .string q.tx, .int .i64 q.op, .slice q.ma q.ms.length q.mc, .int .i64 q.off, .bool q.fx, .int .i64 q.att, .bool q.bo, .int .i64 q.byy, .slice q.na q.ns.length q.nc, .int .i64 q.sd, .slice q.ea q.es.length q.ec, .int .i64 q.kc], .slice (some ⟨b, off, none⟩) 1 c] w fun e w' => (∃ v, e = .returned (.tuple #[v, .bool false])) ∧ Below w.heap.size w w' := by
  have g1 : (q.kd == 1) = false := by simp [h]
  have g2 : (q.kd == 2) = false := by simp [h]
  have g3 : (q.kd == 3) = false := by simp [h]
  have g4 : (q.kd == 4) = true := by simp [h]
  have hbd := bdn_range q (tq6 q)
  simp only [tq6] at hbd
  obtain ⟨X, hX⟩ : ∃ X, X = w.alloc (.cells #[.int .i64 q.kd, .int .i64 q.nu, .int .i64 q.st, .string q.tx, .int .i64 q.op, .slice q.ma q.ms.length q.mc, .int .i64 q.off, .bool q.fx, .int .i64 q.att, .bool q.bo, .int .i64 q.byy, .slice q.na q.ns.length q.nc, .int .i64 q.sd, .slice q.ea q.es.length q.ec, .int .i64 q.kc] 55) := ⟨_, rfl⟩
  have h1 : X.heap[w.heap.size]? = some (.cells #[.int .i64 q.kd, .int .i64 q.nu, .int .i64 q.st, .string q.tx, .int .i64 q.op, .slice q.ma q.ms.length q.mc, .int .i64 q.off, .bool q.fx, .int .i64 q.att, .bool q.bo, .int .i64 q.byy, .slice q.na q.ns.length q.nc, .int .i64 q.sd, .slice q.ea q.es.length q.ec, .int .i64 q.kc] 55) := by rw [hX]; exact heap_alloc_new w _
  have hbx : Below w.heap.size w X := by rw [hX]; exact (Below.refl _ _).alloc (Nat.le_refl _) _
  obtain ⟨a0, a1, a2, a3, a4, a5, a6, a7, a8, a9, a10, a11, a12, a13, a14⟩ := fifteen h1
  have HX := hid hX
  have HBX := hid hbx
  clear hX hbx h
  have k0 : X.cell? ⟨b, off, none⟩ = some (.iface tt x) := (HBX.out.cell (p := ⟨b, off, none⟩) hb).trans hk
  obtain ⟨Y, hY⟩ : ∃ Y, Y = X.alloc (.cells #[.int .i64 0, .int .i64 0, .int .i64 0, .string ⟨#[]⟩, .int .i64 0, .slice none 0 0, .int .i64 0, .bool false, .int .i64 0, .bool false, .int .i64 0, .slice none 0 0, .int .i64 0, .slice none 0 0, .int .i64 0] 112) := ⟨_, rfl⟩
  have h2 : Y.heap[w.heap.size]? = some (.cells #[.int .i64 q.kd, .int .i64 q.nu, .int .i64 q.st, .string q.tx, .int .i64 q.op, .slice q.ma q.ms.length q.mc, .int .i64 q.off, .bool q.fx, .int .i64 q.att, .bool q.bo, .int .i64 q.byy, .slice q.na q.ns.length q.nc, .int .i64 q.sd, .slice q.ea q.es.length q.ec, .int .i64 q.kc] 55) := by rw [hY]; exact kept h1 ((Below.refl _ _).alloc (Nat.le_refl _) _)
  have h3 : Y.heap[X.heap.size]? = some (.cells #[.int .i64 0, .int .i64 0, .int .i64 0, .string ⟨#[]⟩, .int .i64 0, .slice none 0 0, .int .i64 0, .bool false, .int .i64 0, .bool false, .int .i64 0, .slice none 0 0, .int .i64 0, .slice none 0 0, .int .i64 0] 112) := by rw [hY]; exact heap_alloc_new X _
  have HBY : Hid (Below w.heap.size w Y) := by unfold Hid; rw [hY]; exact HBX.out.alloc HBX.out.size _
  have HY := hid hY
  clear hY h1 hk
  go_enter Tryz.func80, Tryz.ntmps80
  go_upto_region 1 with fail
  rw [← HX.out]
  go_upto_region 10 with fail
  rw [← HY.out]
  clear a0 a1 a2 a3 a4 a5 a6 a7 a8 a9 a10 a11 a12 a13 a14
  obtain ⟨a0, a1, a2, a3, a4, a5, a6, a7, a8, a9, a10, a11, a12, a13, a14⟩ := fifteenS h2
  obtain ⟨s0, s1, s2, s3, s4, s5, s6, s7, s8, s9, s10, s11, s12, s13, s14⟩ := fifteenS h3
  simp only [List.length_nil] at hbd
  go_wp2
  (try simp only [Exit.inBlock, Exit.then])
  go_ret2
  exact ⟨⟨_, rfl⟩, HBY.out⟩
end Go.Proofs.YtbdlahhejfamhaaGreatDoor.Qry
/- What the program makes of a row and its kids (what is none). -/
namespace Go.Proofs.YtbdlahhejfamhaaGreatDoor.Qry
open Go.RowKit
open Go.Proofs.YtbdlahhejfamhaaGreatDoor.Pat (ret_bool)

set_option maxHeartbeats 8000000 in
set_option maxRecDepth 100000 in
theorem nono_1 (q : R) (a : Option Addr) (n c : Nat) (w : World) (h : q.kd = 1) (hn : n ≠ 0) : Calls Tryz.prog 80 #[.agg #[.int .i64 q.kd, .int .i64 q.nu, .int .i64 q.st, .string q.tx, .int .i64 q.op, .slice q.ma q.ms.length q.mc, .int .i64 q.off, .bool q.fx, .int .i64 q.att, .bool q.bo, .int .i64 q.byy, .slice q.na q.ns.length q.nc, .int .i64 q.sd, .slice q.ea q.es.length q.ec, .int .i64 q.kc], .slice a n c] w fun e w' => e = .returned (.tuple #[.nilIface, .bool false]) ∧ Below w.heap.size w w' := by
  have g1 : (q.kd == 1) = true := by simp [h]
  have g2 : (q.kd == 2) = false := by simp [h]
  have g3 : (q.kd == 3) = false := by simp [h]
  have g4 : (q.kd == 4) = false := by simp [h]
  have g5 : (q.kd == 5) = false := by simp [h]
  have g6 : (q.kd == 6) = false := by simp [h]
  have g7 : (q.kd == 7) = false := by simp [h]
  have g8 : (q.kd == 8) = false := by simp [h]
  have g9 : (q.kd == 9) = false := by simp [h]
  have l0 : ((n : Int) == 0) = false := by simp; omega
  clear hn
  obtain ⟨X, hX⟩ : ∃ X, X = w.alloc (.cells #[.int .i64 q.kd, .int .i64 q.nu, .int .i64 q.st, .string q.tx, .int .i64 q.op, .slice q.ma q.ms.length q.mc, .int .i64 q.off, .bool q.fx, .int .i64 q.att, .bool q.bo, .int .i64 q.byy, .slice q.na q.ns.length q.nc, .int .i64 q.sd, .slice q.ea q.es.length q.ec, .int .i64 q.kc] 55) := ⟨_, rfl⟩
  have h1 : X.heap[w.heap.size]? = some (.cells #[.int .i64 q.kd, .int .i64 q.nu, .int .i64 q.st, .string q.tx, .int .i64 q.op, .slice q.ma q.ms.length q.mc, .int .i64 q.off, .bool q.fx, .int .i64 q.att, .bool q.bo, .int .i64 q.byy, .slice q.na q.ns.length q.nc, .int .i64 q.sd, .slice q.ea q.es.length q.ec, .int .i64 q.kc] 55) := by rw [hX]; exact heap_alloc_new w _
  have hbx : Below w.heap.size w X := by rw [hX]; exact (Below.refl _ _).alloc (Nat.le_refl _) _
  obtain ⟨a0, a1, a2, a3, a4, a5, a6, a7, a8, a9, a10, a11, a12, a13, a14⟩ := fifteen h1
  have HX := hid hX
  have HBX := hid hbx
  clear hX hbx h
  clear h1
  go_enter Tryz.func80, Tryz.ntmps80
  go_upto_region 1 with fail
  rw [← HX.out]
  go_wp2
  (try simp only [Exit.inBlock, Exit.then])
  go_ret2
  exact ⟨rfl, HBX.out⟩

set_option maxHeartbeats 8000000 in
set_option maxRecDepth 100000 in
theorem nono_2 (q : R) (a : Option Addr) (n c : Nat) (w : World) (h : q.kd = 2) (hn : n ≠ 0) : Calls Tryz.prog 80 #[.agg #[.int .i64 q.kd, .int .i64 q.nu, .int .i64 q.st, .string q.tx, .int .i64 q.op, .slice q.ma q.ms.length q.mc, .int .i64 q.off, .bool q.fx, .int .i64 q.att, .bool q.bo, .int .i64 q.byy, .slice q.na q.ns.length q.nc, .int .i64 q.sd, .slice q.ea q.es.length q.ec, .int .i64 q.kc], .slice a n c] w fun e w' => e = .returned (.tuple #[.nilIface, .bool false]) ∧ Below w.heap.size w w' := by
  have g1 : (q.kd == 1) = false := by simp [h]
  have g2 : (q.kd == 2) = true := by simp [h]
  have g3 : (q.kd == 3) = false := by simp [h]
  have g4 : (q.kd == 4) = false := by simp [h]
  have g5 : (q.kd == 5) = false := by simp [h]
  have g6 : (q.kd == 6) = false := by simp [h]
  have g7 : (q.kd == 7) = false := by simp [h]
  have g8 : (q.kd == 8) = false := by simp [h]
  have g9 : (q.kd == 9) = false := by simp [h]
  have l0 : ((n : Int) == 0) = false := by simp; omega
  clear hn
  obtain ⟨X, hX⟩ : ∃ X, X = w.alloc (.cells #[.int .i64 q.kd, .int .i64 q.nu, .int .i64 q.st, .string q.tx, .int .i64 q.op, .slice q.ma q.ms.length q.mc, .int .i64 q.off, .bool q.fx, .int .i64 q.att, .bool q.bo, .int .i64 q.byy, .slice q.na q.ns.length q.nc, .int .i64 q.sd, .slice q.ea q.es.length q.ec, .int .i64 q.kc] 55) := ⟨_, rfl⟩
  have h1 : X.heap[w.heap.size]? = some (.cells #[.int .i64 q.kd, .int .i64 q.nu, .int .i64 q.st, .string q.tx, .int .i64 q.op, .slice q.ma q.ms.length q.mc, .int .i64 q.off, .bool q.fx, .int .i64 q.att, .bool q.bo, .int .i64 q.byy, .slice q.na q.ns.length q.nc, .int .i64 q.sd, .slice q.ea q.es.length q.ec, .int .i64 q.kc] 55) := by rw [hX]; exact heap_alloc_new w _
  have hbx : Below w.heap.size w X := by rw [hX]; exact (Below.refl _ _).alloc (Nat.le_refl _) _
  obtain ⟨a0, a1, a2, a3, a4, a5, a6, a7, a8, a9, a10, a11, a12, a13, a14⟩ := fifteen h1
  have HX := hid hX
  have HBX := hid hbx
  clear hX hbx h
  clear h1
  go_enter Tryz.func80, Tryz.ntmps80
  go_upto_region 1 with fail
  rw [← HX.out]
  go_wp2
  (try simp only [Exit.inBlock, Exit.then])
  go_ret2
  exact ⟨rfl, HBX.out⟩

set_option maxHeartbeats 8000000 in
set_option maxRecDepth 100000 in
theorem nono_3 (q : R) (a : Option Addr) (n c : Nat) (w : World) (h : q.kd = 3) (hn : n ≠ 0) : Calls Tryz.prog 80 #[.agg #[.int .i64 q.kd, .int .i64 q.nu, .int .i64 q.st, .string q.tx, .int .i64 q.op, .slice q.ma q.ms.length q.mc, .int .i64 q.off, .bool q.fx, .int .i64 q.att, .bool q.bo, .int .i64 q.byy, .slice q.na q.ns.length q.nc, .int .i64 q.sd, .slice q.ea q.es.length q.ec, .int .i64 q.kc], .slice a n c] w fun e w' => e = .returned (.tuple #[.nilIface, .bool false]) ∧ Below w.heap.size w w' := by
  have g1 : (q.kd == 1) = false := by simp [h]
  have g2 : (q.kd == 2) = false := by simp [h]
  have g3 : (q.kd == 3) = true := by simp [h]
  have g4 : (q.kd == 4) = false := by simp [h]
  have g5 : (q.kd == 5) = false := by simp [h]
  have g6 : (q.kd == 6) = false := by simp [h]
  have g7 : (q.kd == 7) = false := by simp [h]
  have g8 : (q.kd == 8) = false := by simp [h]
  have g9 : (q.kd == 9) = false := by simp [h]
  have l0 : ((n : Int) == 0) = false := by simp; omega
  clear hn
  obtain ⟨X, hX⟩ : ∃ X, X = w.alloc (.cells #[.int .i64 q.kd, .int .i64 q.nu, .int .i64 q.st, .string q.tx, .int .i64 q.op, .slice q.ma q.ms.length q.mc, .int .i64 q.off, .bool q.fx, .int .i64 q.att, .bool q.bo, .int .i64 q.byy, .slice q.na q.ns.length q.nc, .int .i64 q.sd, .slice q.ea q.es.length q.ec, .int .i64 q.kc] 55) := ⟨_, rfl⟩
  have h1 : X.heap[w.heap.size]? = some (.cells #[.int .i64 q.kd, .int .i64 q.nu, .int .i64 q.st, .string q.tx, .int .i64 q.op, .slice q.ma q.ms.length q.mc, .int .i64 q.off, .bool q.fx, .int .i64 q.att, .bool q.bo, .int .i64 q.byy, .slice q.na q.ns.length q.nc, .int .i64 q.sd, .slice q.ea q.es.length q.ec, .int .i64 q.kc] 55) := by rw [hX]; exact heap_alloc_new w _
  have hbx : Below w.heap.size w X := by rw [hX]; exact (Below.refl _ _).alloc (Nat.le_refl _) _
  obtain ⟨a0, a1, a2, a3, a4, a5, a6, a7, a8, a9, a10, a11, a12, a13, a14⟩ := fifteen h1
  have HX := hid hX
  have HBX := hid hbx
  clear hX hbx h
  clear h1
  go_enter Tryz.func80, Tryz.ntmps80
  go_upto_region 1 with fail
  rw [← HX.out]
  go_wp2
  (try simp only [Exit.inBlock, Exit.then])
  go_ret2
  exact ⟨rfl, HBX.out⟩

set_option maxHeartbeats 8000000 in
set_option maxRecDepth 100000 in
theorem nono_4 (q : R) (a : Option Addr) (n c : Nat) (w : World) (h : q.kd = 4) (hn : n ≠ 1) : Calls Tryz.prog 80 #[.agg #[.int .i64 q.kd, .int .i64 q.nu, .int .i64 q.st, .string q.tx, .int .i64 q.op, .slice q.ma q.ms.length q.mc, .int .i64 q.off, .bool q.fx, .int .i64 q.att, .bool q.bo, .int .i64 q.byy, .slice q.na q.ns.length q.nc, .int .i64 q.sd, .slice q.ea q.es.length q.ec, .int .i64 q.kc], .slice a n c] w fun e w' => e = .returned (.tuple #[.nilIface, .bool false]) ∧ Below w.heap.size w w' := by
  have g1 : (q.kd == 1) = false := by simp [h]
  have g2 : (q.kd == 2) = false := by simp [h]
  have g3 : (q.kd == 3) = false := by simp [h]
  have g4 : (q.kd == 4) = true := by simp [h]
  have g5 : (q.kd == 5) = false := by simp [h]
  have g6 : (q.kd == 6) = false := by simp [h]
  have g7 : (q.kd == 7) = false := by simp [h]
  have g8 : (q.kd == 8) = false := by simp [h]
  have g9 : (q.kd == 9) = false := by simp [h]
  have l0 : ((n : Int) == 1) = false := by simp; omega
  clear hn
  obtain ⟨X, hX⟩ : ∃ X, X = w.alloc (.cells #[.int .i64 q.kd, .int .i64 q.nu, .int .i64 q.st, .string q.tx, .int .i64 q.op, .slice q.ma q.ms.length q.mc, .int .i64 q.off, .bool q.fx, .int .i64 q.att, .bool q.bo, .int .i64 q.byy, .slice q.na q.ns.length q.nc, .int .i64 q.sd, .slice q.ea q.es.length q.ec, .int .i64 q.kc] 55) := ⟨_, rfl⟩
  have h1 : X.heap[w.heap.size]? = some (.cells #[.int .i64 q.kd, .int .i64 q.nu, .int .i64 q.st, .string q.tx, .int .i64 q.op, .slice q.ma q.ms.length q.mc, .int .i64 q.off, .bool q.fx, .int .i64 q.att, .bool q.bo, .int .i64 q.byy, .slice q.na q.ns.length q.nc, .int .i64 q.sd, .slice q.ea q.es.length q.ec, .int .i64 q.kc] 55) := by rw [hX]; exact heap_alloc_new w _
  have hbx : Below w.heap.size w X := by rw [hX]; exact (Below.refl _ _).alloc (Nat.le_refl _) _
  obtain ⟨a0, a1, a2, a3, a4, a5, a6, a7, a8, a9, a10, a11, a12, a13, a14⟩ := fifteen h1
  have HX := hid hX
  have HBX := hid hbx
  clear hX hbx h
  clear h1
  go_enter Tryz.func80, Tryz.ntmps80
  go_upto_region 1 with fail
  rw [← HX.out]
  go_wp2
  (try simp only [Exit.inBlock, Exit.then])
  go_ret2
  exact ⟨rfl, HBX.out⟩

set_option maxHeartbeats 8000000 in
set_option maxRecDepth 100000 in
theorem nono_5 (q : R) (a : Option Addr) (n c : Nat) (w : World) (h : q.kd = 5) (hn : n ≠ 1) : Calls Tryz.prog 80 #[.agg #[.int .i64 q.kd, .int .i64 q.nu, .int .i64 q.st, .string q.tx, .int .i64 q.op, .slice q.ma q.ms.length q.mc, .int .i64 q.off, .bool q.fx, .int .i64 q.att, .bool q.bo, .int .i64 q.byy, .slice q.na q.ns.length q.nc, .int .i64 q.sd, .slice q.ea q.es.length q.ec, .int .i64 q.kc], .slice a n c] w fun e w' => e = .returned (.tuple #[.nilIface, .bool false]) ∧ Below w.heap.size w w' := by
  have g1 : (q.kd == 1) = false := by simp [h]
  have g2 : (q.kd == 2) = false := by simp [h]
  have g3 : (q.kd == 3) = false := by simp [h]
  have g4 : (q.kd == 4) = false := by simp [h]
  have g5 : (q.kd == 5) = true := by simp [h]
  have g6 : (q.kd == 6) = false := by simp [h]
  have g7 : (q.kd == 7) = false := by simp [h]
  have g8 : (q.kd == 8) = false := by simp [h]
  have g9 : (q.kd == 9) = false := by simp [h]
  have l0 : ((n : Int) == 1) = false := by simp; omega
  clear hn
  obtain ⟨X, hX⟩ : ∃ X, X = w.alloc (.cells #[.int .i64 q.kd, .int .i64 q.nu, .int .i64 q.st, .string q.tx, .int .i64 q.op, .slice q.ma q.ms.length q.mc, .int .i64 q.off, .bool q.fx, .int .i64 q.att, .bool q.bo, .int .i64 q.byy, .slice q.na q.ns.length q.nc, .int .i64 q.sd, .slice q.ea q.es.length q.ec, .int .i64 q.kc] 55) := ⟨_, rfl⟩
  have h1 : X.heap[w.heap.size]? = some (.cells #[.int .i64 q.kd, .int .i64 q.nu, .int .i64 q.st, .string q.tx, .int .i64 q.op, .slice q.ma q.ms.length q.mc, .int .i64 q.off, .bool q.fx, .int .i64 q.att, .bool q.bo, .int .i64 q.byy, .slice q.na q.ns.length q.nc, .int .i64 q.sd, .slice q.ea q.es.length q.ec, .int .i64 q.kc] 55) := by rw [hX]; exact heap_alloc_new w _
  have hbx : Below w.heap.size w X := by rw [hX]; exact (Below.refl _ _).alloc (Nat.le_refl _) _
  obtain ⟨a0, a1, a2, a3, a4, a5, a6, a7, a8, a9, a10, a11, a12, a13, a14⟩ := fifteen h1
  have HX := hid hX
  have HBX := hid hbx
  clear hX hbx h
  clear h1
  go_enter Tryz.func80, Tryz.ntmps80
  go_upto_region 1 with fail
  rw [← HX.out]
  go_wp2
  (try simp only [Exit.inBlock, Exit.then])
  go_ret2
  exact ⟨rfl, HBX.out⟩

set_option maxHeartbeats 8000000 in
set_option maxRecDepth 100000 in
theorem nono_6 (q : R) (a : Option Addr) (n c : Nat) (w : World) (h : q.kd = 6) (hn : n ≠ 1) : Calls Tryz.prog 80 #[.agg #[.int .i64 q.kd, .int .i64 q.nu, .int .i64 q.st, .string q.tx, .int .i64 q.op, .slice q.ma q.ms.length q.mc, .int .i64 q.off, .bool q.fx, .int .i64 q.att, .bool q.bo, .int .i64 q.byy, .slice q.na q.ns.length q.nc, .int .i64 q.sd, .slice q.ea q.es.length q.ec, .int .i64 q.kc], .slice a n c] w fun e w' => e = .returned (.tuple #[.nilIface, .bool false]) ∧ Below w.heap.size w w' := by
  have g1 : (q.kd == 1) = false := by simp [h]
  have g2 : (q.kd == 2) = false := by simp [h]
  have g3 : (q.kd == 3) = false := by simp [h]
  have g4 : (q.kd == 4) = false := by simp [h]
  have g5 : (q.kd == 5) = false := by simp [h]
  have g6 : (q.kd == 6) = true := by simp [h]
  have g7 : (q.kd == 7) = false := by simp [h]
  have g8 : (q.kd == 8) = false := by simp [h]
  have g9 : (q.kd == 9) = false := by simp [h]
  have l0 : ((n : Int) == 1) = false := by simp; omega
  clear hn
  obtain ⟨X, hX⟩ : ∃ X, X = w.alloc (.cells #[.int .i64 q.kd, .int .i64 q.nu, .int .i64 q.st, .string q.tx, .int .i64 q.op, .slice q.ma q.ms.length q.mc, .int .i64 q.off, .bool q.fx, .int .i64 q.att, .bool q.bo, .int .i64 q.byy, .slice q.na q.ns.length q.nc, .int .i64 q.sd, .slice q.ea q.es.length q.ec, .int .i64 q.kc] 55) := ⟨_, rfl⟩
  have h1 : X.heap[w.heap.size]? = some (.cells #[.int .i64 q.kd, .int .i64 q.nu, .int .i64 q.st, .string q.tx, .int .i64 q.op, .slice q.ma q.ms.length q.mc, .int .i64 q.off, .bool q.fx, .int .i64 q.att, .bool q.bo, .int .i64 q.byy, .slice q.na q.ns.length q.nc, .int .i64 q.sd, .slice q.ea q.es.length q.ec, .int .i64 q.kc] 55) := by rw [hX]; exact heap_alloc_new w _
  have hbx : Below w.heap.size w X := by rw [hX]; exact (Below.refl _ _).alloc (Nat.le_refl _) _
  obtain ⟨a0, a1, a2, a3, a4, a5, a6, a7, a8, a9, a10, a11, a12, a13, a14⟩ := fifteen h1
  have HX := hid hX
  have HBX := hid hbx
  clear hX hbx h
  clear h1
  go_enter Tryz.func80, Tryz.ntmps80
  go_upto_region 1 with fail
  rw [← HX.out]
  go_wp2
  (try simp only [Exit.inBlock, Exit.then])
  go_ret2
  exact ⟨rfl, HBX.out⟩

set_option maxHeartbeats 8000000 in
set_option maxRecDepth 100000 in
theorem nono_7 (q : R) (a : Option Addr) (n c : Nat) (w : World) (h : q.kd = 7) (hn : n ≠ 2) : Calls Tryz.prog 80 #[.agg #[.int .i64 q.kd, .int .i64 q.nu, .int .i64 q.st, .string q.tx, .int .i64 q.op, .slice q.ma q.ms.length q.mc, .int .i64 q.off, .bool q.fx, .int .i64 q.att, .bool q.bo, .int .i64 q.byy, .slice q.na q.ns.length q.nc, .int .i64 q.sd, .slice q.ea q.es.length q.ec, .int .i64 q.kc], .slice a n c] w fun e w' => e = .returned (.tuple #[.nilIface, .bool false]) ∧ Below w.heap.size w w' := by
  have g1 : (q.kd == 1) = false := by simp [h]
  have g2 : (q.kd == 2) = false := by simp [h]
  have g3 : (q.kd == 3) = false := by simp [h]
  have g4 : (q.kd == 4) = false := by simp [h]
  have g5 : (q.kd == 5) = false := by simp [h]
  have g6 : (q.kd == 6) = false := by simp [h]
  have g7 : (q.kd == 7) = true := by simp [h]
  have g8 : (q.kd == 8) = false := by simp [h]
  have g9 : (q.kd == 9) = false := by simp [h]
  have l0 : ((n : Int) == 2) = false := by simp; omega
  clear hn
  obtain ⟨X, hX⟩ : ∃ X, X = w.alloc (.cells #[.int .i64 q.kd, .int .i64 q.nu, .int .i64 q.st, .string q.tx, .int .i64 q.op, .slice q.ma q.ms.length q.mc, .int .i64 q.off, .bool q.fx, .int .i64 q.att, .bool q.bo, .int .i64 q.byy, .slice q.na q.ns.length q.nc, .int .i64 q.sd, .slice q.ea q.es.length q.ec, .int .i64 q.kc] 55) := ⟨_, rfl⟩
  have h1 : X.heap[w.heap.size]? = some (.cells #[.int .i64 q.kd, .int .i64 q.nu, .int .i64 q.st, .string q.tx, .int .i64 q.op, .slice q.ma q.ms.length q.mc, .int .i64 q.off, .bool q.fx, .int .i64 q.att, .bool q.bo, .int .i64 q.byy, .slice q.na q.ns.length q.nc, .int .i64 q.sd, .slice q.ea q.es.length q.ec, .int .i64 q.kc] 55) := by rw [hX]; exact heap_alloc_new w _
  have hbx : Below w.heap.size w X := by rw [hX]; exact (Below.refl _ _).alloc (Nat.le_refl _) _
  obtain ⟨a0, a1, a2, a3, a4, a5, a6, a7, a8, a9, a10, a11, a12, a13, a14⟩ := fifteen h1
  have HX := hid hX
  have HBX := hid hbx
  clear hX hbx h
  clear h1
  go_enter Tryz.func80, Tryz.ntmps80
  go_upto_region 1 with fail
  rw [← HX.out]
  go_wp2
  (try simp only [Exit.inBlock, Exit.then])
  go_ret2
  exact ⟨rfl, HBX.out⟩

set_option maxHeartbeats 8000000 in
set_option maxRecDepth 100000 in
theorem nono_0 (q : R) (a : Option Addr) (n c : Nat) (w : World) (h : q.kd < 1 ∨ 9 < q.kd) : Calls Tryz.prog 80 #[.agg #[.int .i64 q.kd, .int .i64 q.nu, .int .i64 q.st, .string q.tx, .int .i64 q.op, .slice q.ma q.ms.length q.mc, .int .i64 q.off, .bool q.fx, .int .i64 q.att, .bool q.bo, .int .i64 q.byy, .slice q.na q.ns.length q.nc, .int .i64 q.sd, .slice q.ea q.es.length q.ec, .int .i64 q.kc], .slice a n c] w fun e w' => e = .returned (.tuple #[.nilIface, .bool false]) ∧ Below w.heap.size w w' := by
  have g1 : (q.kd == 1) = false := by rw [beq_eq_false_iff_ne]; omega
  have g2 : (q.kd == 2) = false := by rw [beq_eq_false_iff_ne]; omega
  have g3 : (q.kd == 3) = false := by rw [beq_eq_false_iff_ne]; omega
  have g4 : (q.kd == 4) = false := by rw [beq_eq_false_iff_ne]; omega
  have g5 : (q.kd == 5) = false := by rw [beq_eq_false_iff_ne]; omega
  have g6 : (q.kd == 6) = false := by rw [beq_eq_false_iff_ne]; omega
  have g7 : (q.kd == 7) = false := by rw [beq_eq_false_iff_ne]; omega
  have g8 : (q.kd == 8) = false := by rw [beq_eq_false_iff_ne]; omega
  have g9 : (q.kd == 9) = false := by rw [beq_eq_false_iff_ne]; omega
  obtain ⟨X, hX⟩ : ∃ X, X = w.alloc (.cells #[.int .i64 q.kd, .int .i64 q.nu, .int .i64 q.st, .string q.tx, .int .i64 q.op, .slice q.ma q.ms.length q.mc, .int .i64 q.off, .bool q.fx, .int .i64 q.att, .bool q.bo, .int .i64 q.byy, .slice q.na q.ns.length q.nc, .int .i64 q.sd, .slice q.ea q.es.length q.ec, .int .i64 q.kc] 55) := ⟨_, rfl⟩
  have h1 : X.heap[w.heap.size]? = some (.cells #[.int .i64 q.kd, .int .i64 q.nu, .int .i64 q.st, .string q.tx, .int .i64 q.op, .slice q.ma q.ms.length q.mc, .int .i64 q.off, .bool q.fx, .int .i64 q.att, .bool q.bo, .int .i64 q.byy, .slice q.na q.ns.length q.nc, .int .i64 q.sd, .slice q.ea q.es.length q.ec, .int .i64 q.kc] 55) := by rw [hX]; exact heap_alloc_new w _
  have hbx : Below w.heap.size w X := by rw [hX]; exact (Below.refl _ _).alloc (Nat.le_refl _) _
  obtain ⟨a0, a1, a2, a3, a4, a5, a6, a7, a8, a9, a10, a11, a12, a13, a14⟩ := fifteen h1
  have HX := hid hX
  have HBX := hid hbx
  clear hX hbx h
  clear h1
  go_enter Tryz.func80, Tryz.ntmps80
  go_upto_region 1 with fail
  rw [← HX.out]
  go_wp2
  (try simp only [Exit.inBlock, Exit.then])
  go_ret2
  exact ⟨rfl, HBX.out⟩
end Go.Proofs.YtbdlahhejfamhaaGreatDoor.Qry
/- What the program makes of a row and its kids, of whatever kind. -/
namespace Go.Proofs.YtbdlahhejfamhaaGreatDoor.Qry
open Go.RowKit
open Go.Proofs.YtbdlahhejfamhaaGreatDoor.Pat (ret_bool)

theorem HasV.cell {S : Nat → Prop} {w : World} {a : Option Addr} {vs : List Value} (h : HasV S w a vs) (h0 : 0 < vs.length) : ∃ b off, a = some ⟨b, off, none⟩ ∧ b < w.heap.size ∧ ∀ i, i < vs.length → w.cell? ⟨b, off + i, none⟩ = vs[i]? := by
  rcases h with h | ⟨b, off, h1, _, h2, h3⟩
  · rw [h] at h0; simp at h0
  · exact ⟨b, off, h1, h2, h3⟩
/-- What the call of nodeOf leaves. -/
def NoR (S : Nat → Prop) (q : R) (ks : List Tr) (vs : List Value) (w : World) (e : Ending) (w' : World) : Prop :=
  Below w.heap.size w w' ∧ ((∃ v, e = .returned (.tuple #[v, .bool true]) ∧ Sh S w q vs v ∧ shape (pl q) ks) ∨ (∃ v, e = .returned (.tuple #[v, .bool false]) ∧ ¬ shape (pl q) ks))
theorem len1 {α : Type} {l : List α} (h : l.length = 1) : ∃ x, l = [x] := List.length_eq_one_iff.1 h
/-- Of a node that is no selection the program's question for one says no. -/
theorem no_sel {S : Nat → Prop} {w : World} {q : R} {vs : List Value} {v : Value} (h : Sh S w q vs v) (hk : q.kd ≠ 3) : ∃ tt x, v = .iface tt x ∧ ∀ w, (Instr.typeAssert (.iface tt x) 64 112 true).run Tryz.prog w = .ok (.tuple #[.agg #[.int .i64 0, .int .i64 0, .int .i64 0, .string ⟨#[]⟩, .int .i64 0, .slice none 0 0, .int .i64 0, .bool false, .int .i64 0, .bool false, .int .i64 0, .slice none 0 0, .int .i64 0, .slice none 0 0, .int .i64 0], .bool false]) w := by
  cases h with
  | num h => exact ⟨_, _, rfl, ty_num_sel _⟩
  | text h => exact ⟨_, _, rfl, ty_text_sel _⟩
  | sel h => exact absurd h hk
  | range h p => exact ⟨_, _, rfl, ty_range_sel _⟩
  | sub h tt x => exact ⟨_, _, rfl, ty_sub_sel _⟩
  | neg h tt x => exact ⟨_, _, rfl, ty_neg_sel _⟩
  | op h tt x uu y => exact ⟨_, _, rfl, ty_op_sel _⟩
  | agg h _ a c hv => exact ⟨_, _, rfl, ty_agg_sel _⟩
  | call h _ a c hv => exact ⟨_, _, rfl, ty_call_sel _⟩
theorem is_sel {S : Nat → Prop} {w : World} {q : R} {vs : List Value} {v : Value} (h : Sh S w q vs v) (hk : q.kd = 3) : v = vselectNode q ∧ vs = [] := by
  cases h with
  | sel h => exact ⟨rfl, rfl⟩
  | num h => omega
  | text h => omega
  | range h p => omega
  | sub h tt x => omega
  | neg h tt x => omega
  | op h tt x uu y => omega
  | agg h _ a c hv => omega
  | call h _ a c hv => omega
theorem f80 (w0 : World) (S : Nat → Prop) (q : R) (ks : List Tr) (vs : List Value) (a : Option Addr) (c : Nat) (w : World) (hv : HasV S w a vs) (hn : NvL w0 S w ks vs) : Calls Tryz.prog 80 #[agR q, .slice a vs.length c] w (NoR S q ks vs w) := by
  have hl := NvL.len ks vs hn
  by_cases h1 : q.kd = 1
  · by_cases h0 : vs.length = 0
    · have e := List.length_eq_zero_iff.1 h0; subst e
      have ek : ks = [] := List.length_eq_zero_iff.1 (by simpa using hl.symm)
      refine (node_num q a c w h1).mono ?_
      rintro e w' ⟨rfl, hb⟩
      exact ⟨hb, .inl ⟨_, rfl, .num h1, .inl ⟨.inl h1, ek⟩⟩⟩
    · refine (nono_1 q a vs.length c w h1 h0).mono ?_
      rintro e w' ⟨rfl, hb⟩
      refine ⟨hb, .inr ⟨_, rfl, ?_⟩⟩
      intro hs
      unfold shape at hs
      simp only [pl, h1] at hs
      simp at hs
      rw [hs] at hl; simp at hl; exact h0 (by simp [hl])
  by_cases h2 : q.kd = 2
  · by_cases h0 : vs.length = 0
    · have e := List.length_eq_zero_iff.1 h0; subst e
      have ek : ks = [] := List.length_eq_zero_iff.1 (by simpa using hl.symm)
      refine (node_text q a c w h2).mono ?_
      rintro e w' ⟨rfl, hb⟩
      exact ⟨hb, .inl ⟨_, rfl, .text h2, .inl ⟨.inr (.inl h2), ek⟩⟩⟩
    · refine (nono_2 q a vs.length c w h2 h0).mono ?_
      rintro e w' ⟨rfl, hb⟩
      refine ⟨hb, .inr ⟨_, rfl, ?_⟩⟩
      intro hs
      unfold shape at hs
      simp only [pl, h2] at hs
      simp at hs
      rw [hs] at hl; simp at hl; exact h0 (by simp [hl])
  by_cases h3 : q.kd = 3
  · by_cases h0 : vs.length = 0
    · have e := List.length_eq_zero_iff.1 h0; subst e
      have ek : ks = [] := List.length_eq_zero_iff.1 (by simpa using hl.symm)
      refine (node_sel q a c w h3).mono ?_
      rintro e w' ⟨rfl, hb⟩
      exact ⟨hb, .inl ⟨_, rfl, .sel h3, .inl ⟨.inr (.inr h3), ek⟩⟩⟩
    · refine (nono_3 q a vs.length c w h3 h0).mono ?_
      rintro e w' ⟨rfl, hb⟩
      refine ⟨hb, .inr ⟨_, rfl, ?_⟩⟩
      intro hs
      unfold shape at hs
      simp only [pl, h3] at hs
      simp at hs
      rw [hs] at hl; simp at hl; exact h0 (by simp [hl])
  by_cases h4 : q.kd = 4
  · by_cases h0 : vs.length = 1
    · obtain ⟨v, rfl⟩ := len1 h0
      obtain ⟨k, rfl⟩ := len1 (hl.symm.trans h0)
      obtain ⟨b, off, rfl, hbl, hc⟩ := hv.cell (by simp)
      have hc0 : w.cell? ⟨b, off, none⟩ = some v := hc 0 (by simp)
      obtain ⟨r, kks⟩ := k
      simp only [NvL, Nv] at hn
      obtain ⟨v', vs', e1, ⟨p, vs2, hp, hrw, hnl, hsh⟩, e2⟩ := hn
      obtain ⟨rfl, rfl⟩ : v = v' ∧ [] = vs' := by simpa using e1
      by_cases h3' : p.kd = 3
      · obtain ⟨rfl, rfl⟩ := is_sel hsh h3'
        refine (node_range q p b off c w h4 hbl hc0).mono ?_
        rintro e w' ⟨rfl, hb⟩
        exact ⟨hb, .inl ⟨_, rfl, .range h4 p, .inr (.inl ⟨h4, _, rfl, by rw [← hp]; exact h3'⟩)⟩⟩
      · obtain ⟨tt, x, rfl, hty⟩ := no_sel hsh h3'
        refine (node_rangeno q b off c tt x w h4 hbl hc0 hty).mono ?_
        rintro e w' ⟨⟨v, rfl⟩, hb⟩
        refine ⟨hb, .inr ⟨_, rfl, ?_⟩⟩
        intro hs
        unfold shape at hs
        simp only [pl, h4] at hs
        simp [Tr.r] at hs
        apply h3'
        rw [← hp] at hs
        exact hs
    · refine (nono_4 q a vs.length c w h4 h0).mono ?_
      rintro e w' ⟨rfl, hb⟩
      refine ⟨hb, .inr ⟨_, rfl, ?_⟩⟩
      intro hs
      unfold shape at hs
      simp only [pl, h4] at hs
      simp at hs
      obtain ⟨k, rfl, _⟩ := hs
      exact h0 (by simpa using hl)
  by_cases h5 : q.kd = 5
  · by_cases h0 : vs.length = 1
    · obtain ⟨v, rfl⟩ := len1 h0
      obtain ⟨k, rfl⟩ := len1 (hl.symm.trans h0)
      obtain ⟨b, off, rfl, hbl, hc⟩ := hv.cell (by simp)
      have hc0 : w.cell? ⟨b, off, none⟩ = some v := hc 0 (by simp)
      obtain ⟨v', vs', e1, hnv, e2⟩ := hn
      obtain ⟨rfl, rfl⟩ : v = v' ∧ [] = vs' := by simpa using e1
      obtain ⟨tt, x, rfl⟩ := hnv.iface
      refine (node_sub q b off c tt x w h5 hbl hc0).mono ?_
      rintro e w' ⟨rfl, hb⟩
      exact ⟨hb, .inl ⟨_, rfl, .sub h5 tt x, .inr (.inr (.inl ⟨.inl h5, k, rfl⟩))⟩⟩
    · refine (nono_5 q a vs.length c w h5 h0).mono ?_
      rintro e w' ⟨rfl, hb⟩
      refine ⟨hb, .inr ⟨_, rfl, ?_⟩⟩
      intro hs
      unfold shape at hs
      simp only [pl, h5] at hs
      simp at hs
      obtain ⟨k, rfl⟩ := hs
      exact h0 (by simpa using hl)
  by_cases h6 : q.kd = 6
  · by_cases h0 : vs.length = 1
    · obtain ⟨v, rfl⟩ := len1 h0
      obtain ⟨k, rfl⟩ := len1 (hl.symm.trans h0)
      obtain ⟨b, off, rfl, hbl, hc⟩ := hv.cell (by simp)
      have hc0 : w.cell? ⟨b, off, none⟩ = some v := hc 0 (by simp)
      obtain ⟨v', vs', e1, hnv, e2⟩ := hn
      obtain ⟨rfl, rfl⟩ : v = v' ∧ [] = vs' := by simpa using e1
      obtain ⟨tt, x, rfl⟩ := hnv.iface
      refine (node_neg q b off c tt x w h6 hbl hc0).mono ?_
      rintro e w' ⟨rfl, hb⟩
      exact ⟨hb, .inl ⟨_, rfl, .neg h6 tt x, .inr (.inr (.inl ⟨.inr h6, k, rfl⟩))⟩⟩
    · refine (nono_6 q a vs.length c w h6 h0).mono ?_
      rintro e w' ⟨rfl, hb⟩
      refine ⟨hb, .inr ⟨_, rfl, ?_⟩⟩
      intro hs
      unfold shape at hs
      simp only [pl, h6] at hs
      simp at hs
      obtain ⟨k, rfl⟩ := hs
      exact h0 (by simpa using hl)
  by_cases h7 : q.kd = 7
  · by_cases h0 : vs.length = 2
    · obtain ⟨v, u, rfl⟩ := len2.1 h0
      obtain ⟨k, l, rfl⟩ := len2.1 (hl.symm.trans h0)
      obtain ⟨b, off, rfl, hbl, hc⟩ := hv.cell (by simp)
      have hc0 : w.cell? ⟨b, off, none⟩ = some v := hc 0 (by simp)
      have hc1 : w.cell? ⟨b, off + 1, none⟩ = some u := hc 1 (by simp)
      obtain ⟨v', vs', e1, hnv, u', vs2, e2, hnu, e3⟩ := hn
      obtain ⟨rfl, rfl⟩ : v = v' ∧ [u] = vs' := by simpa using e1
      obtain ⟨rfl, rfl⟩ : u = u' ∧ [] = vs2 := by simpa using e2
      obtain ⟨tt, x, rfl⟩ := hnv.iface
      obtain ⟨uu, y, rfl⟩ := hnu.iface
      refine (node_op q b off c tt x uu y w h7 hbl hc0 hc1).mono ?_
      rintro e w' ⟨rfl, hb⟩
      exact ⟨hb, .inl ⟨_, rfl, .op h7 tt x uu y, .inr (.inr (.inr (.inl ⟨h7, k, l, rfl⟩)))⟩⟩
    · refine (nono_7 q a vs.length c w h7 h0).mono ?_
      rintro e w' ⟨rfl, hb⟩
      refine ⟨hb, .inr ⟨_, rfl, ?_⟩⟩
      intro hs
      unfold shape at hs
      simp only [pl, h7] at hs
      simp at hs
      obtain ⟨k, l, rfl⟩ := hs
      exact h0 (by simpa using hl)
  by_cases h8 : q.kd = 8
  · refine (node_agg q a vs.length c w h8).mono ?_
    rintro e w' ⟨rfl, hb⟩
    exact ⟨hb, .inl ⟨_, rfl, .agg h8 vs a c hv, .inr (.inr (.inr (.inr (.inl h8))))⟩⟩
  by_cases h9 : q.kd = 9
  · refine (node_call q a vs.length c w h9).mono ?_
    rintro e w' ⟨rfl, hb⟩
    exact ⟨hb, .inl ⟨_, rfl, .call h9 vs a c hv, .inr (.inr (.inr (.inr (.inr h9))))⟩⟩
  · refine (nono_0 q a vs.length c w (by omega)).mono ?_
    rintro e w' ⟨rfl, hb⟩
    refine ⟨hb, .inr ⟨_, rfl, ?_⟩⟩
    intro hs
    unfold shape at hs
    simp only [pl] at hs
    omega
end Go.Proofs.YtbdlahhejfamhaaGreatDoor.Qry
