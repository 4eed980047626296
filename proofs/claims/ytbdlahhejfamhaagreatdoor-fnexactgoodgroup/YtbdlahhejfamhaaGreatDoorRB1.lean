/- What the program makes of a row and its kids (numbers, texts, selections, aggregates, calls). -/
import Derived.Test.YtbdlahhejfamhaaGreatDoorRA8
import Derived.Deep.RegionHeld3
namespace Go.Proofs.YtbdlahhejfamhaaGreatDoor.Qry
open Go.RowKit
open Go.Proofs.YtbdlahhejfamhaaGreatDoor.Pat (ret_bool)
theorem bdn_num (q : R) (w : World) : (Instr.build 110 #[(0, .agg #[.int .i64 q.kd, .int .i64 q.nu, .int .i64 q.st, .string q.tx, .int .i64 q.op, .slice q.ma q.ms.length q.mc, .int .i64 q.off, .bool q.fx, .int .i64 q.att, .bool q.bo, .int .i64 q.byy, .slice q.na q.ns.length q.nc, .int .i64 q.sd, .slice q.ea q.es.length q.ec, .int .i64 q.kc])]).run Tryz.prog w = .ok (.agg #[.int .i64 q.kd, .int .i64 q.nu, .int .i64 q.st, .string q.tx, .int .i64 q.op, .slice q.ma q.ms.length q.mc, .int .i64 q.off, .bool q.fx, .int .i64 q.att, .bool q.bo, .int .i64 q.byy, .slice q.na q.ns.length q.nc, .int .i64 q.sd, .slice q.ea q.es.length q.ec, .int .i64 q.kc]) w := by kernel_rfl
theorem bdn_text (q : R) (w : World) : (Instr.build 111 #[(0, .agg #[.int .i64 q.kd, .int .i64 q.nu, .int .i64 q.st, .string q.tx, .int .i64 q.op, .slice q.ma q.ms.length q.mc, .int .i64 q.off, .bool q.fx, .int .i64 q.att, .bool q.bo, .int .i64 q.byy, .slice q.na q.ns.length q.nc, .int .i64 q.sd, .slice q.ea q.es.length q.ec, .int .i64 q.kc])]).run Tryz.prog w = .ok (.agg #[.int .i64 q.kd, .int .i64 q.nu, .int .i64 q.st, .string q.tx, .int .i64 q.op, .slice q.ma q.ms.length q.mc, .int .i64 q.off, .bool q.fx, .int .i64 q.att, .bool q.bo, .int .i64 q.byy, .slice q.na q.ns.length q.nc, .int .i64 q.sd, .slice q.ea q.es.length q.ec, .int .i64 q.kc]) w := by kernel_rfl
theorem bdn_sel (q : R) (w : World) : (Instr.build 112 #[(0, .agg #[.int .i64 q.kd, .int .i64 q.nu, .int .i64 q.st, .string q.tx, .int .i64 q.op, .slice q.ma q.ms.length q.mc, .int .i64 q.off, .bool q.fx, .int .i64 q.att, .bool q.bo, .int .i64 q.byy, .slice q.na q.ns.length q.nc, .int .i64 q.sd, .slice q.ea q.es.length q.ec, .int .i64 q.kc])]).run Tryz.prog w = .ok (.agg #[.int .i64 q.kd, .int .i64 q.nu, .int .i64 q.st, .string q.tx, .int .i64 q.op, .slice q.ma q.ms.length q.mc, .int .i64 q.off, .bool q.fx, .int .i64 q.att, .bool q.bo, .int .i64 q.byy, .slice q.na q.ns.length q.nc, .int .i64 q.sd, .slice q.ea q.es.length q.ec, .int .i64 q.kc]) w := by kernel_rfl
theorem bdn_range (q : R) (p : R) (w : World) : (Instr.build 114 #[(0, .agg #[.int .i64 q.kd, .int .i64 q.nu, .int .i64 q.st, .string q.tx, .int .i64 q.op, .slice q.ma q.ms.length q.mc, .int .i64 q.off, .bool q.fx, .int .i64 q.att, .bool q.bo, .int .i64 q.byy, .slice q.na q.ns.length q.nc, .int .i64 q.sd, .slice q.ea q.es.length q.ec, .int .i64 q.kc]), (1, .agg #[.int .i64 p.kd, .int .i64 p.nu, .int .i64 p.st, .string p.tx, .int .i64 p.op, .slice p.ma p.ms.length p.mc, .int .i64 p.off, .bool p.fx, .int .i64 p.att, .bool p.bo, .int .i64 p.byy, .slice p.na p.ns.length p.nc, .int .i64 p.sd, .slice p.ea p.es.length p.ec, .int .i64 p.kc])]).run Tryz.prog w = .ok (.agg #[.int .i64 q.kd, .int .i64 q.nu, .int .i64 q.st, .string q.tx, .int .i64 q.op, .slice q.ma q.ms.length q.mc, .int .i64 q.off, .bool q.fx, .int .i64 q.att, .bool q.bo, .int .i64 q.byy, .slice q.na q.ns.length q.nc, .int .i64 q.sd, .slice q.ea q.es.length q.ec, .int .i64 q.kc, .int .i64 p.kd, .int .i64 p.nu, .int .i64 p.st, .string p.tx, .int .i64 p.op, .slice p.ma p.ms.length p.mc, .int .i64 p.off, .bool p.fx, .int .i64 p.att, .bool p.bo, .int .i64 p.byy, .slice p.na p.ns.length p.nc, .int .i64 p.sd, .slice p.ea p.es.length p.ec, .int .i64 p.kc]) w := by kernel_rfl
theorem bdn_sub (q : R) (tt : TypeId) (x : Value) (w : World) : (Instr.build 116 #[(0, .agg #[.int .i64 q.kd, .int .i64 q.nu, .int .i64 q.st, .string q.tx, .int .i64 q.op, .slice q.ma q.ms.length q.mc, .int .i64 q.off, .bool q.fx, .int .i64 q.att, .bool q.bo, .int .i64 q.byy, .slice q.na q.ns.length q.nc, .int .i64 q.sd, .slice q.ea q.es.length q.ec, .int .i64 q.kc]), (1, .iface tt x)]).run Tryz.prog w = .ok (.agg #[.int .i64 q.kd, .int .i64 q.nu, .int .i64 q.st, .string q.tx, .int .i64 q.op, .slice q.ma q.ms.length q.mc, .int .i64 q.off, .bool q.fx, .int .i64 q.att, .bool q.bo, .int .i64 q.byy, .slice q.na q.ns.length q.nc, .int .i64 q.sd, .slice q.ea q.es.length q.ec, .int .i64 q.kc, .iface tt x]) w := by kernel_rfl
theorem bdn_neg (q : R) (tt : TypeId) (x : Value) (w : World) : (Instr.build 118 #[(0, .agg #[.int .i64 q.kd, .int .i64 q.nu, .int .i64 q.st, .string q.tx, .int .i64 q.op, .slice q.ma q.ms.length q.mc, .int .i64 q.off, .bool q.fx, .int .i64 q.att, .bool q.bo, .int .i64 q.byy, .slice q.na q.ns.length q.nc, .int .i64 q.sd, .slice q.ea q.es.length q.ec, .int .i64 q.kc]), (1, .iface tt x)]).run Tryz.prog w = .ok (.agg #[.int .i64 q.kd, .int .i64 q.nu, .int .i64 q.st, .string q.tx, .int .i64 q.op, .slice q.ma q.ms.length q.mc, .int .i64 q.off, .bool q.fx, .int .i64 q.att, .bool q.bo, .int .i64 q.byy, .slice q.na q.ns.length q.nc, .int .i64 q.sd, .slice q.ea q.es.length q.ec, .int .i64 q.kc, .iface tt x]) w := by kernel_rfl
theorem bdn_op (q : R) (tt : TypeId) (x : Value) (uu : TypeId) (y : Value) (w : World) : (Instr.build 120 #[(0, .agg #[.int .i64 q.kd, .int .i64 q.nu, .int .i64 q.st, .string q.tx, .int .i64 q.op, .slice q.ma q.ms.length q.mc, .int .i64 q.off, .bool q.fx, .int .i64 q.att, .bool q.bo, .int .i64 q.byy, .slice q.na q.ns.length q.nc, .int .i64 q.sd, .slice q.ea q.es.length q.ec, .int .i64 q.kc]), (1, .iface tt x), (2, .iface uu y)]).run Tryz.prog w = .ok (.agg #[.int .i64 q.kd, .int .i64 q.nu, .int .i64 q.st, .string q.tx, .int .i64 q.op, .slice q.ma q.ms.length q.mc, .int .i64 q.off, .bool q.fx, .int .i64 q.att, .bool q.bo, .int .i64 q.byy, .slice q.na q.ns.length q.nc, .int .i64 q.sd, .slice q.ea q.es.length q.ec, .int .i64 q.kc, .iface tt x, .iface uu y]) w := by kernel_rfl
theorem bdn_agg (q : R) (a : Option Addr) (n c : Nat) (w : World) : (Instr.build 123 #[(0, .agg #[.int .i64 q.kd, .int .i64 q.nu, .int .i64 q.st, .string q.tx, .int .i64 q.op, .slice q.ma q.ms.length q.mc, .int .i64 q.off, .bool q.fx, .int .i64 q.att, .bool q.bo, .int .i64 q.byy, .slice q.na q.ns.length q.nc, .int .i64 q.sd, .slice q.ea q.es.length q.ec, .int .i64 q.kc]), (1, .slice a n c)]).run Tryz.prog w = .ok (.agg #[.int .i64 q.kd, .int .i64 q.nu, .int .i64 q.st, .string q.tx, .int .i64 q.op, .slice q.ma q.ms.length q.mc, .int .i64 q.off, .bool q.fx, .int .i64 q.att, .bool q.bo, .int .i64 q.byy, .slice q.na q.ns.length q.nc, .int .i64 q.sd, .slice q.ea q.es.length q.ec, .int .i64 q.kc, .slice a n c]) w := by kernel_rfl
theorem bdn_call (q : R) (a : Option Addr) (n c : Nat) (w : World) : (Instr.build 128 #[(0, .agg #[.int .i64 q.kd, .int .i64 q.nu, .int .i64 q.st, .string q.tx, .int .i64 q.op, .slice q.ma q.ms.length q.mc, .int .i64 q.off, .bool q.fx, .int .i64 q.att, .bool q.bo, .int .i64 q.byy, .slice q.na q.ns.length q.nc, .int .i64 q.sd, .slice q.ea q.es.length q.ec, .int .i64 q.kc]), (1, .slice a n c)]).run Tryz.prog w = .ok (.agg #[.int .i64 q.kd, .int .i64 q.nu, .int .i64 q.st, .string q.tx, .int .i64 q.op, .slice q.ma q.ms.length q.mc, .int .i64 q.off, .bool q.fx, .int .i64 q.att, .bool q.bo, .int .i64 q.byy, .slice q.na q.ns.length q.nc, .int .i64 q.sd, .slice q.ea q.es.length q.ec, .int .i64 q.kc, .slice a n c]) w := by kernel_rfl

set_option maxHeartbeats 8000000 in
set_option maxRecDepth 100000 in
theorem node_num (q : R) (a : Option Addr) (c : Nat) (w : World) (h : q.kd = 1) : Calls Tryz.prog 80 #[.agg #[.int .i64 q.kd, .int .i64 q.nu, .int .i64 q.st, .string q.tx, .int .i64 q.op, .slice q.ma q.ms.length q.mc, .int .i64 q.off, .bool q.fx, .int .i64 q.att, .bool q.bo, .int .i64 q.byy, .slice q.na q.ns.length q.nc, .int .i64 q.sd, .slice q.ea q.es.length q.ec, .int .i64 q.kc], .slice a 0 c] w fun e w' => e = .returned (.tuple #[vnumNode q, .bool true]) ∧ Below w.heap.size w w' := by
  have g1 : (q.kd == 1) = true := by simp [h]
  have hbd := bdn_num q
  obtain ⟨X, hX⟩ : ∃ X, X = w.alloc (.cells #[.int .i64 q.kd, .int .i64 q.nu, .int .i64 q.st, .string q.tx, .int .i64 q.op, .slice q.ma q.ms.length q.mc, .int .i64 q.off, .bool q.fx, .int .i64 q.att, .bool q.bo, .int .i64 q.byy, .slice q.na q.ns.length q.nc, .int .i64 q.sd, .slice q.ea q.es.length q.ec, .int .i64 q.kc] 55) := ⟨_, rfl⟩
  have h1 : X.heap[w.heap.size]? = some (.cells #[.int .i64 q.kd, .int .i64 q.nu, .int .i64 q.st, .string q.tx, .int .i64 q.op, .slice q.ma q.ms.length q.mc, .int .i64 q.off, .bool q.fx, .int .i64 q.att, .bool q.bo, .int .i64 q.byy, .slice q.na q.ns.length q.nc, .int .i64 q.sd, .slice q.ea q.es.length q.ec, .int .i64 q.kc] 55) := by rw [hX]; exact heap_alloc_new w _
  have hbx : Below w.heap.size w X := by rw [hX]; exact (Below.refl _ _).alloc (Nat.le_refl _) _
  obtain ⟨a0, a1, a2, a3, a4, a5, a6, a7, a8, a9, a10, a11, a12, a13, a14⟩ := fifteen h1
  have HX := hid hX
  have HBX := hid hbx
  clear hX hbx h
  clear h1
  go_enter Tryz.func80, Tryz.ntmps80
  go_upto_region 1 with fail
  rw [← HX.out]
  go_wp2
  (try simp only [Exit.inBlock, Exit.then])
  go_ret2
  exact ⟨rfl, HBX.out⟩

set_option maxHeartbeats 8000000 in
set_option maxRecDepth 100000 in
theorem node_text (q : R) (a : Option Addr) (c : Nat) (w : World) (h : q.kd = 2) : Calls Tryz.prog 80 #[.agg #[.int .i64 q.kd, .int .i64 q.nu, .int .i64 q.st, .string q.tx, .int .i64 q.op, .slice q.ma q.ms.length q.mc, .int .i64 q.off, .bool q.fx, .int .i64 q.att, .bool q.bo, .int .i64 q.byy, .slice q.na q.ns.length q.nc, .int .i64 q.sd, .slice q.ea q.es.length q.ec, .int .i64 q.kc], .slice a 0 c] w fun e w' => e = .returned (.tuple #[vtextNode q, .bool true]) ∧ Below w.heap.size w w' := by
  have g1 : (q.kd == 1) = false := by simp [h]
  have g2 : (q.kd == 2) = true := by simp [h]
  have hbd := bdn_text q
  obtain ⟨X, hX⟩ : ∃ X, X = w.alloc (.cells #[.int .i64 q.kd, .int .i64 q.nu, .int .i64 q.st, .string q.tx, .int .i64 q.op, .slice q.ma q.ms.length q.mc, .int .i64 q.off, .bool q.fx, .int .i64 q.att, .bool q.bo, .int .i64 q.byy, .slice q.na q.ns.length q.nc, .int .i64 q.sd, .slice q.ea q.es.length q.ec, .int .i64 q.kc] 55) := ⟨_, rfl⟩
  have h1 : X.heap[w.heap.size]? = some (.cells #[.int .i64 q.kd, .int .i64 q.nu, .int .i64 q.st, .string q.tx, .int .i64 q.op, .slice q.ma q.ms.length q.mc, .int .i64 q.off, .bool q.fx, .int .i64 q.att, .bool q.bo, .int .i64 q.byy, .slice q.na q.ns.length q.nc, .int .i64 q.sd, .slice q.ea q.es.length q.ec, .int .i64 q.kc] 55) := by rw [hX]; exact heap_alloc_new w _
  have hbx : Below w.heap.size w X := by rw [hX]; exact (Below.refl _ _).alloc (Nat.le_refl _) _
  obtain ⟨a0, a1, a2, a3, a4, a5, a6, a7, a8, a9, a10, a11, a12, a13, a14⟩ := fifteen h1
  have HX := hid hX
  have HBX := hid hbx
  clear hX hbx h
  clear h1
  go_enter Tryz.func80, Tryz.ntmps80
  go_upto_region 1 with fail
  rw [← HX.out]
  go_wp2
  (try simp only [Exit.inBlock, Exit.then])
  go_ret2
  exact ⟨rfl, HBX.out⟩

set_option maxHeartbeats 8000000 in
set_option maxRecDepth 100000 in
theorem node_sel (q : R) (a : Option Addr) (c : Nat) (w : World) (h : q.kd = 3) : Calls Tryz.prog 80 #[.agg #[.int .i64 q.kd, .int .i64 q.nu, .int .i64 q.st, .string q.tx, .int .i64 q.op, .slice q.ma q.ms.length q.mc, .int .i64 q.off, .bool q.fx, .int .i64 q.att, .bool q.bo, .int .i64 q.byy, .slice q.na q.ns.length q.nc, .int .i64 q.sd, .slice q.ea q.es.length q.ec, .int .i64 q.kc], .slice a 0 c] w fun e w' => e = .returned (.tuple #[vselectNode q, .bool true]) ∧ Below w.heap.size w w' := by
  have g1 : (q.kd == 1) = false := by simp [h]
  have g2 : (q.kd == 2) = false := by simp [h]
  have g3 : (q.kd == 3) = true := by simp [h]
  have hbd := bdn_sel q
  obtain ⟨X, hX⟩ : ∃ X, X = w.alloc (.cells #[.int .i64 q.kd, .int .i64 q.nu, .int .i64 q.st, .string q.tx, .int .i64 q.op, .slice q.ma q.ms.length q.mc, .int .i64 q.off, .bool q.fx, .int .i64 q.att, .bool q.bo, .int .i64 q.byy, .slice q.na q.ns.length q.nc, .int .i64 q.sd, .slice q.ea q.es.length q.ec, .int .i64 q.kc] 55) := ⟨_, rfl⟩
  have h1 : X.heap[w.heap.size]? = some (.cells #[.int .i64 q.kd, .int .i64 q.nu, .int .i64 q.st, .string q.tx, .int .i64 q.op, .slice q.ma q.ms.length q.mc, .int .i64 q.off, .bool q.fx, .int .i64 q.att, .bool q.bo, .int .i64 q.byy, .slice q.na q.ns.length q.nc, .int .i64 q.sd, .slice q.ea q.es.length q.ec, .int .i64 q.kc] 55) := by rw [hX]; exact heap_alloc_new w _
  have hbx : Below w.heap.size w X := by rw [hX]; exact (Below.refl _ _).alloc (Nat.le_refl _) _
  obtain ⟨a0, a1, a2, a3, a4, a5, a6, a7, a8, a9, a10, a11, a12, a13, a14⟩ := fifteen h1
  have HX := hid hX
  have HBX := hid hbx
  clear hX hbx h
  clear h1
  go_enter Tryz.func80, Tryz.ntmps80
  go_upto_region 1 with fail
  rw [← HX.out]
  go_wp2
  (try simp only [Exit.inBlock, Exit.then])
  go_ret2
  exact ⟨rfl, HBX.out⟩

set_option maxHeartbeats 8000000 in
set_option maxRecDepth 100000 in
theorem node_agg (q : R) (a : Option Addr) (n : Nat) (c : Nat) (w : World) (h : q.kd = 8) : Calls Tryz.prog 80 #[.agg #[.int .i64 q.kd, .int .i64 q.nu, .int .i64 q.st, .string q.tx, .int .i64 q.op, .slice q.ma q.ms.length q.mc, .int .i64 q.off, .bool q.fx, .int .i64 q.att, .bool q.bo, .int .i64 q.byy, .slice q.na q.ns.length q.nc, .int .i64 q.sd, .slice q.ea q.es.length q.ec, .int .i64 q.kc], .slice a n c] w fun e w' => e = .returned (.tuple #[vaggNode q a n c, .bool true]) ∧ Below w.heap.size w w' := by
  have g1 : (q.kd == 1) = false := by simp [h]
  have g2 : (q.kd == 2) = false := by simp [h]
  have g3 : (q.kd == 3) = false := by simp [h]
  have g4 : (q.kd == 4) = false := by simp [h]
  have g5 : (q.kd == 5) = false := by simp [h]
  have g6 : (q.kd == 6) = false := by simp [h]
  have g7 : (q.kd == 7) = false := by simp [h]
  have g8 : (q.kd == 8) = true := by simp [h]
  have hbd := bdn_agg q a n c
  obtain ⟨X, hX⟩ : ∃ X, X = w.alloc (.cells #[.int .i64 q.kd, .int .i64 q.nu, .int .i64 q.st, .string q.tx, .int .i64 q.op, .slice q.ma q.ms.length q.mc, .int .i64 q.off, .bool q.fx, .int .i64 q.att, .bool q.bo, .int .i64 q.byy, .slice q.na q.ns.length q.nc, .int .i64 q.sd, .slice q.ea q.es.length q.ec, .int .i64 q.kc] 55) := ⟨_, rfl⟩
  have h1 : X.heap[w.heap.size]? = some (.cells #[.int .i64 q.kd, .int .i64 q.nu, .int .i64 q.st, .string q.tx, .int .i64 q.op, .slice q.ma q.ms.length q.mc, .int .i64 q.off, .bool q.fx, .int .i64 q.att, .bool q.bo, .int .i64 q.byy, .slice q.na q.ns.length q.nc, .int .i64 q.sd, .slice q.ea q.es.length q.ec, .int .i64 q.kc] 55) := by rw [hX]; exact heap_alloc_new w _
  have hbx : Below w.heap.size w X := by rw [hX]; exact (Below.refl _ _).alloc (Nat.le_refl _) _
  obtain ⟨a0, a1, a2, a3, a4, a5, a6, a7, a8, a9, a10, a11, a12, a13, a14⟩ := fifteen h1
  have HX := hid hX
  have HBX := hid hbx
  clear hX hbx h
  clear h1
  go_enter Tryz.func80, Tryz.ntmps80
  go_upto_region 1 with fail
  rw [← HX.out]
  go_wp2
  (try simp only [Exit.inBlock, Exit.then])
  go_ret2
  exact ⟨rfl, HBX.out⟩

set_option maxHeartbeats 8000000 in
set_option maxRecDepth 100000 in
theorem node_call (q : R) (a : Option Addr) (n : Nat) (c : Nat) (w : World) (h : q.kd = 9) : Calls Tryz.prog 80 #[.agg #[.int .i64 q.kd, .int .i64 q.nu, .int .i64 q.st, .string q.tx, .int .i64 q.op, .slice q.ma q.ms.length q.mc, .int .i64 q.off, .bool q.fx, .int .i64 q.att, .bool q.bo, .int .i64 q.byy, .slice q.na q.ns.length q.nc, .int .i64 q.sd, .slice q.ea q.es.length q.ec, .int .i64 q.kc], .slice a n c] w fun e w' => e = .returned (.tuple #[vcallNode q a n c, .bool true]) ∧ Below w.heap.size w w' := by
  have g1 : (q.kd == 1) = false := by simp [h]
  have g2 : (q.kd == 2) = false := by simp [h]
  have g3 : (q.kd == 3) = false := by simp [h]
  have g4 : (q.kd == 4) = false := by simp [h]
  have g5 : (q.kd == 5) = false := by simp [h]
  have g6 : (q.kd == 6) = false := by simp [h]
  have g7 : (q.kd == 7) = false := by simp [h]
  have g8 : (q.kd == 8) = false := by simp [h]
  have g9 : (q.kd == 9) = true := by simp [h]
  have hbd := bdn_call q a n c
  obtain ⟨X, hX⟩ : ∃ X, X = w.alloc (.cells #[.int .i64 q.kd, .int .i64 q.nu, .int .i64 q.st, .string q.tx, .int .i64 q.op, .slice q.ma q.ms.length q.mc, .int .i64 q.off, .bool q.fx, .int .i64 q.att, .bool q.bo, .int .i64 q.byy, .slice q.na q.ns.length q.nc, .int .i64 q.sd, .slice q.ea q.es.length q.ec, .int .i64 q.kc] 55) := ⟨_, rfl⟩
  have h1 : X.heap[w.heap.size]? = some (.cells #[.int .i64 q.kd, .int .i64 q.nu, .int .i64 q.st, .string q.tx, .int .i64 q.op, .slice q.ma q.ms.length q.mc, .int .i64 q.off, .bool q.fx, .int .i64 q.att, .bool q.bo, .int .i64 q.byy, .slice q.na q.ns.length q.nc, .int .i64 q.sd, .slice q.ea q.es.length q.ec, .int .i64 q.kc] 55) := by rw [hX]; exact heap_alloc_new w _
  have hbx : Below w.heap.size w X := by rw [hX]; exact (Below.refl _ _).alloc (Nat.le_refl _) _
  obtain ⟨a0, a1, a2, a3, a4, a5, a6, a7, a8, a9, a10, a11, a12, a13, a14⟩ := fifteen h1
  have HX := hid hX
  have HBX := hid hbx
  clear hX hbx h
  clear h1
  go_enter Tryz.func80, Tryz.ntmps80
  go_upto_region 1 with fail
  rw [← HX.out]
  go_wp2
  (try simp only [Exit.inBlock, Exit.then])
  go_ret2
  exact ⟨rfl, HBX.out⟩
end Go.Proofs.YtbdlahhejfamhaaGreatDoor.Qry
/- What the program makes of a row and its kids (sub-questions, negations, operations). -/
namespace Go.Proofs.YtbdlahhejfamhaaGreatDoor.Qry
open Go.RowKit
open Go.Proofs.YtbdlahhejfamhaaGreatDoor.Pat (ret_bool)

set_option maxHeartbeats 8000000 in
set_option maxRecDepth 100000 in
theorem node_sub (q : R) (b off c : Nat) (tt : TypeId) (x : Value) (w : World) (h : q.kd = 5) (hb : b < w.heap.size) (hk : w.cell? ⟨b, off, none⟩ = some (.iface tt x)) : Calls Tryz.prog 80 #[.agg #[.int .i64 q.kd, .int .i64 q.nu, .int .i64 q.st, .string q.tx, .int .i64 q.op, .slice q.ma q.ms.length q.mc, .int .i64 q.off, .bool q.fx, .int .i64 q.att, .bool q.bo, .int .i64 q.byy, .slice q.na q.ns.length q.nc, .int .i64 q.sd, .slice q.ea q.es.length q.ec, .int .i64 q.kc], .slice (some ⟨b, off, none⟩) 1 c] w fun e w' => e = .returned (.tuple #[vsubNode q (.iface tt x), .bool true]) ∧ Below w.heap.size w w' := by
  have g1 : (q.kd == 1) = false := by simp [h]
  have g2 : (q.kd == 2) = false := by simp [h]
  have g3 : (q.kd == 3) = false := by simp [h]
  have g4 : (q.kd == 4) = false := by simp [h]
  have g5 : (q.kd == 5) = true := by simp [h]
  have hbd := bdn_sub q tt x
  obtain ⟨X, hX⟩ : ∃ X, X = w.alloc (.cells #[.int .i64 q.kd, .int .i64 q.nu, .int .i64 q.st, .string q.tx, .int .i64 q.op, .slice q.ma q.ms.length q.mc, .int .i64 q.off, .bool q.fx, .int .i64 q.att, .bool q.bo, .int .i64 q.byy, .slice q.na q.ns.length q.nc, .int .i64 q.sd, .slice q.ea q.es.length q.ec, .int .i64 q.kc] 55) := ⟨_, rfl⟩
  have h1 : X.heap[w.heap.size]? = some (.cells #[.int .i64 q.kd, .int .i64 q.nu, .int .i64 q.st, .string q.tx, .int .i64 q.op, .slice q.ma q.ms.length q.mc, .int .i64 q.off, .bool q.fx, .int .i64 q.att, .bool q.bo, .int .i64 q.byy, .slice q.na q.ns.length q.nc, .int .i64 q.sd, .slice q.ea q.es.length q.ec, .int .i64 q.kc] 55) := by rw [hX]; exact heap_alloc_new w _
  have hbx : Below w.heap.size w X := by rw [hX]; exact (Below.refl _ _).alloc (Nat.le_refl _) _
  obtain ⟨a0, a1, a2, a3, a4, a5, a6, a7, a8, a9, a10, a11, a12, a13, a14⟩ := fifteen h1
  have HX := hid hX
  have HBX := hid hbx
  clear hX hbx h
  have k0 : X.cell? ⟨b, off, none⟩ = some (.iface tt x) := (HBX.out.cell (p := ⟨b, off, none⟩) hb).trans hk
  clear h1 hk
  go_enter Tryz.func80, Tryz.ntmps80
  go_upto_region 1 with fail
  rw [← HX.out]
  go_upto_region 12 with fail
  have HS : ((fun w' => w'.cell? ⟨w.heap.size, 0, none⟩ = some (.int .i64 q.kd) ∧ w'.cell? ⟨w.heap.size, 1, none⟩ = some (.int .i64 q.nu) ∧ w'.cell? ⟨w.heap.size, 2, none⟩ = some (.int .i64 q.st) ∧ w'.cell? ⟨w.heap.size, 3, none⟩ = some (.string q.tx) ∧ w'.cell? ⟨w.heap.size, 4, none⟩ = some (.int .i64 q.op) ∧ w'.cell? ⟨w.heap.size, 5, none⟩ = some (.slice q.ma q.ms.length q.mc) ∧ w'.cell? ⟨w.heap.size, 6, none⟩ = some (.int .i64 q.off) ∧ w'.cell? ⟨w.heap.size, 7, none⟩ = some (.bool q.fx) ∧ w'.cell? ⟨w.heap.size, 8, none⟩ = some (.int .i64 q.att) ∧ w'.cell? ⟨w.heap.size, 9, none⟩ = some (.bool q.bo) ∧ w'.cell? ⟨w.heap.size, 10, none⟩ = some (.int .i64 q.byy) ∧ w'.cell? ⟨w.heap.size, 11, none⟩ = some (.slice q.na q.ns.length q.nc) ∧ w'.cell? ⟨w.heap.size, 12, none⟩ = some (.int .i64 q.sd) ∧ w'.cell? ⟨w.heap.size, 13, none⟩ = some (.slice q.ea q.es.length q.ec) ∧ w'.cell? ⟨w.heap.size, 14, none⟩ = some (.int .i64 q.kc) ∧ w'.cell? ⟨b, off, none⟩ = some (.iface tt x))) X.drew := ⟨a0, a1, a2, a3, a4, a5, a6, a7, a8, a9, a10, a11, a12, a13, a14, k0⟩
  go_region_held3 (fun w' => w'.cell? ⟨w.heap.size, 0, none⟩ = some (.int .i64 q.kd) ∧ w'.cell? ⟨w.heap.size, 1, none⟩ = some (.int .i64 q.nu) ∧ w'.cell? ⟨w.heap.size, 2, none⟩ = some (.int .i64 q.st) ∧ w'.cell? ⟨w.heap.size, 3, none⟩ = some (.string q.tx) ∧ w'.cell? ⟨w.heap.size, 4, none⟩ = some (.int .i64 q.op) ∧ w'.cell? ⟨w.heap.size, 5, none⟩ = some (.slice q.ma q.ms.length q.mc) ∧ w'.cell? ⟨w.heap.size, 6, none⟩ = some (.int .i64 q.off) ∧ w'.cell? ⟨w.heap.size, 7, none⟩ = some (.bool q.fx) ∧ w'.cell? ⟨w.heap.size, 8, none⟩ = some (.int .i64 q.att) ∧ w'.cell? ⟨w.heap.size, 9, none⟩ = some (.bool q.bo) ∧ w'.cell? ⟨w.heap.size, 10, none⟩ = some (.int .i64 q.byy) ∧ w'.cell? ⟨w.heap.size, 11, none⟩ = some (.slice q.na q.ns.length q.nc) ∧ w'.cell? ⟨w.heap.size, 12, none⟩ = some (.int .i64 q.sd) ∧ w'.cell? ⟨w.heap.size, 13, none⟩ = some (.slice q.ea q.es.length q.ec) ∧ w'.cell? ⟨w.heap.size, 14, none⟩ = some (.int .i64 q.kc) ∧ w'.cell? ⟨b, off, none⟩ = some (.iface tt x)) (first | exact HS | assumption) (first | fail)
  have HBD : Below w.heap.size w X.drew := HBX.out.drew
  go_wp2
  (try simp only [Exit.inBlock, Exit.then])
  go_ret2
  exact ⟨rfl, HBD⟩

set_option maxHeartbeats 8000000 in
set_option maxRecDepth 100000 in
theorem node_neg (q : R) (b off c : Nat) (tt : TypeId) (x : Value) (w : World) (h : q.kd = 6) (hb : b < w.heap.size) (hk : w.cell? ⟨b, off, none⟩ = some (.iface tt x)) : Calls Tryz.prog 80 #[.agg #[.int .i64 q.kd, .int .i64 q.nu, .int .i64 q.st, .string q.tx, .int .i64 q.op, .slice q.ma q.ms.length q.mc, .int .i64 q.off, .bool q.fx, .int .i64 q.att, .bool q.bo, .int .i64 q.byy, .slice q.na q.ns.length q.nc, .int .i64 q.sd, .slice q.ea q.es.length q.ec, .int .i64 q.kc], .slice (some ⟨b, off, none⟩) 1 c] w fun e w' => e = .returned (.tuple #[vnegNode q (.iface tt x), .bool true]) ∧ Below w.heap.size w w' := by
  have g1 : (q.kd == 1) = false := by simp [h]
  have g2 : (q.kd == 2) = false := by simp [h]
  have g3 : (q.kd == 3) = false := by simp [h]
  have g4 : (q.kd == 4) = false := by simp [h]
  have g5 : (q.kd == 5) = false := by simp [h]
  have g6 : (q.kd == 6) = true := by simp [h]
  have hbd := bdn_neg q tt x
  obtain ⟨X, hX⟩ : ∃ X, X = w.alloc (.cells #[.int .i64 q.kd, .int .i64 q.nu, .int .i64 q.st, .string q.tx, .int .i64 q.op, .slice q.ma q.ms.length q.mc, .int .i64 q.off, .bool q.fx, .int .i64 q.att, .bool q.bo, .int .i64 q.byy, .slice q.na q.ns.length q.nc, .int .i64 q.sd, .slice q.ea q.es.length q.ec, .int .i64 q.kc] 55) := ⟨_, rfl⟩
  have h1 : X.heap[w.heap.size]? = some (.cells #[.int .i64 q.kd, .int .i64 q.nu, .int .i64 q.st, .string q.tx, .int .i64 q.op, .slice q.ma q.ms.length q.mc, .int .i64 q.off, .bool q.fx, .int .i64 q.att, .bool q.bo, .int .i64 q.byy, .slice q.na q.ns.length q.nc, .int .i64 q.sd, .slice q.ea q.es.length q.ec, .int .i64 q.kc] 55) := by rw [hX]; exact heap_alloc_new w _
  have hbx : Below w.heap.size w X := by rw [hX]; exact (Below.refl _ _).alloc (Nat.le_refl _) _
  obtain ⟨a0, a1, a2, a3, a4, a5, a6, a7, a8, a9, a10, a11, a12, a13, a14⟩ := fifteen h1
  have HX := hid hX
  have HBX := hid hbx
  clear hX hbx h
  have k0 : X.cell? ⟨b, off, none⟩ = some (.iface tt x) := (HBX.out.cell (p := ⟨b, off, none⟩) hb).trans hk
  clear h1 hk
  go_enter Tryz.func80, Tryz.ntmps80
  go_upto_region 1 with fail
  rw [← HX.out]
  go_upto_region 14 with fail
  have HS : ((fun w' => w'.cell? ⟨w.heap.size, 0, none⟩ = some (.int .i64 q.kd) ∧ w'.cell? ⟨w.heap.size, 1, none⟩ = some (.int .i64 q.nu) ∧ w'.cell? ⟨w.heap.size, 2, none⟩ = some (.int .i64 q.st) ∧ w'.cell? ⟨w.heap.size, 3, none⟩ = some (.string q.tx) ∧ w'.cell? ⟨w.heap.size, 4, none⟩ = some (.int .i64 q.op) ∧ w'.cell? ⟨w.heap.size, 5, none⟩ = some (.slice q.ma q.ms.length q.mc) ∧ w'.cell? ⟨w.heap.size, 6, none⟩ = some (.int .i64 q.off) ∧ w'.cell? ⟨w.heap.size, 7, none⟩ = some (.bool q.fx) ∧ w'.cell? ⟨w.heap.size, 8, none⟩ = some (.int .i64 q.att) ∧ w'.cell? ⟨w.heap.size, 9, none⟩ = some (.bool q.bo) ∧ w'.cell? ⟨w.heap.size, 10, none⟩ = some (.int .i64 q.byy) ∧ w'.cell? ⟨w.heap.size, 11, none⟩ = some (.slice q.na q.ns.length q.nc) ∧ w'.cell? ⟨w.heap.size, 12, none⟩ = some (.int .i64 q.sd) ∧ w'.cell? ⟨w.heap.size, 13, none⟩ = some (.slice q.ea q.es.length q.ec) ∧ w'.cell? ⟨w.heap.size, 14, none⟩ = some (.int .i64 q.kc) ∧ w'.cell? ⟨b, off, none⟩ = some (.iface tt x))) X.drew := ⟨a0, a1, a2, a3, a4, a5, a6, a7, a8, a9, a10, a11, a12, a13, a14, k0⟩
  go_region_held3 (fun w' => w'.cell? ⟨w.heap.size, 0, none⟩ = some (.int .i64 q.kd) ∧ w'.cell? ⟨w.heap.size, 1, none⟩ = some (.int .i64 q.nu) ∧ w'.cell? ⟨w.heap.size, 2, none⟩ = some (.int .i64 q.st) ∧ w'.cell? ⟨w.heap.size, 3, none⟩ = some (.string q.tx) ∧ w'.cell? ⟨w.heap.size, 4, none⟩ = some (.int .i64 q.op) ∧ w'.cell? ⟨w.heap.size, 5, none⟩ = some (.slice q.ma q.ms.length q.mc) ∧ w'.cell? ⟨w.heap.size, 6, none⟩ = some (.int .i64 q.off) ∧ w'.cell? ⟨w.heap.size, 7, none⟩ = some (.bool q.fx) ∧ w'.cell? ⟨w.heap.size, 8, none⟩ = some (.int .i64 q.att) ∧ w'.cell? ⟨w.heap.size, 9, none⟩ = some (.bool q.bo) ∧ w'.cell? ⟨w.heap.size, 10, none⟩ = some (.int .i64 q.byy) ∧ w'.cell? ⟨w.heap.size, 11, none⟩ = some (.slice q.na q.ns.length q.nc) ∧ w'.cell? ⟨w.heap.size, 12, none⟩ = some (.int .i64 q.sd) ∧ w'.cell? ⟨w.heap.size, 13, none⟩ = some (.slice q.ea q.es.length q.ec) ∧ w'.cell? ⟨w.heap.size, 14, none⟩ = some (.int .i64 q.kc) ∧ w'.cell? ⟨b, off, none⟩ = some (.iface tt x)) (first | exact HS | assumption) (first | fail)
  have HBD : Below w.heap.size w X.drew := HBX.out.drew
  go_wp2
  (try simp only [Exit.inBlock, Exit.then])
  go_ret2
  exact ⟨rfl, HBD⟩

set_option maxHeartbeats 8000000 in
set_option maxRecDepth 100000 in
theorem node_op (q : R) (b off c : Nat) (tt : TypeId) (x : Value) (uu : TypeId) (y : Value) (w : World) (h : q.kd = 7) (hb : b < w.heap.size) (hk : w.cell? ⟨b, off, none⟩ = some (.iface tt x)) (hl : w.cell? ⟨b, off + 1, none⟩ = some (.iface uu y)) : Calls Tryz.prog 80 #[.agg #[.int .i64 q.kd, .int .i64 q.nu, .int .i64 q.st, .string q.tx, .int .i64 q.op, .slice q.ma q.ms.length q.mc, .int .i64 q.off, .bool q.fx, .int .i64 q.att, .bool q.bo, .int .i64 q.byy, .slice q.na q.ns.length q.nc, .int .i64 q.sd, .slice q.ea q.es.length q.ec, .int .i64 q.kc], .slice (some ⟨b, off, none⟩) 2 c] w fun e w' => e = .returned (.tuple #[vopNode q (.iface tt x) (.iface uu y), .bool true]) ∧ Below w.heap.size w w' := by
  have g1 : (q.kd == 1) = false := by simp [h]
  have g2 : (q.kd == 2) = false := by simp [h]
  have g3 : (q.kd == 3) = false := by simp [h]
  have g4 : (q.kd == 4) = false := by simp [h]
  have g5 : (q.kd == 5) = false := by simp [h]
  have g6 : (q.kd == 6) = false := by simp [h]
  have g7 : (q.kd == 7) = true := by simp [h]
  have hbd := bdn_op q tt x uu y
  obtain ⟨X, hX⟩ : ∃ X, X = w.alloc (.cells #[.int .i64 q.kd, .int .i64 q.nu, .int .i64 q.st, .string q.tx, .int .i64 q.op, .slice q.ma q.ms.length q.mc, .int .i64 q.off, .bool q.fx, .int .i64 q.att, .bool q.bo, .int .i64 q.byy, .slice q.na q.ns.length q.nc, .int .i64 q.sd, .slice q.ea q.es.length q.ec, .int .i64 q.kc] 55) := ⟨_, rfl⟩
  have h1 : X.heap[w.heap.size]? = some (.cells #[.int .i64 q.kd, .int .i64 q.nu, .int .i64 q.st, .string q.tx, .int .i64 q.op, .slice q.ma q.ms.length q.mc, .int .i64 q.off, .bool q.fx, .int .i64 q.att, .bool q.bo, .int .i64 q.byy, .slice q.na q.ns.length q.nc, .int .i64 q.sd, .slice q.ea q.es.length q.ec, .int .i64 q.kc] 55) := by rw [hX]; exact heap_alloc_new w _
  have hbx : Below w.heap.size w X := by rw [hX]; exact (Below.refl _ _).alloc (Nat.le_refl _) _
  obtain ⟨a0, a1, a2, a3, a4, a5, a6, a7, a8, a9, a10, a11, a12, a13, a14⟩ := fifteen h1
  have HX := hid hX
  have HBX := hid hbx
  clear hX hbx h
  have k0 : X.cell? ⟨b, off, none⟩ = some (.iface tt x) := (HBX.out.cell (p := ⟨b, off, none⟩) hb).trans hk
  have k1 : X.cell? ⟨b, off + 1, none⟩ = some (.iface uu y) := (HBX.out.cell (p := ⟨b, off + 1, none⟩) hb).trans hl
  clear h1 hk hl
  go_enter Tryz.func80, Tryz.ntmps80
  go_upto_region 1 with fail
  rw [← HX.out]
  go_upto_region 16 with fail
  have HS : ((fun w' => w'.cell? ⟨w.heap.size, 0, none⟩ = some (.int .i64 q.kd) ∧ w'.cell? ⟨w.heap.size, 1, none⟩ = some (.int .i64 q.nu) ∧ w'.cell? ⟨w.heap.size, 2, none⟩ = some (.int .i64 q.st) ∧ w'.cell? ⟨w.heap.size, 3, none⟩ = some (.string q.tx) ∧ w'.cell? ⟨w.heap.size, 4, none⟩ = some (.int .i64 q.op) ∧ w'.cell? ⟨w.heap.size, 5, none⟩ = some (.slice q.ma q.ms.length q.mc) ∧ w'.cell? ⟨w.heap.size, 6, none⟩ = some (.int .i64 q.off) ∧ w'.cell? ⟨w.heap.size, 7, none⟩ = some (.bool q.fx) ∧ w'.cell? ⟨w.heap.size, 8, none⟩ = some (.int .i64 q.att) ∧ w'.cell? ⟨w.heap.size, 9, none⟩ = some (.bool q.bo) ∧ w'.cell? ⟨w.heap.size, 10, none⟩ = some (.int .i64 q.byy) ∧ w'.cell? ⟨w.heap.size, 11, none⟩ = some (.slice q.na q.ns.length q.nc) ∧ w'.cell? ⟨w.heap.size, 12, none⟩ = some (.int .i64 q.sd) ∧ w'.cell? ⟨w.heap.size, 13, none⟩ = some (.slice q.ea q.es.length q.ec) ∧ w'.cell? ⟨w.heap.size, 14, none⟩ = some (.int .i64 q.kc) ∧ w'.cell? ⟨b, off, none⟩ = some (.iface tt x) ∧ w'.cell? ⟨b, off + 1, none⟩ = some (.iface uu y))) X.drew := ⟨a0, a1, a2, a3, a4, a5, a6, a7, a8, a9, a10, a11, a12, a13, a14, k0, k1⟩
  go_region_held3 (fun w' => w'.cell? ⟨w.heap.size, 0, none⟩ = some (.int .i64 q.kd) ∧ w'.cell? ⟨w.heap.size, 1, none⟩ = some (.int .i64 q.nu) ∧ w'.cell? ⟨w.heap.size, 2, none⟩ = some (.int .i64 q.st) ∧ w'.cell? ⟨w.heap.size, 3, none⟩ = some (.string q.tx) ∧ w'.cell? ⟨w.heap.size, 4, none⟩ = some (.int .i64 q.op) ∧ w'.cell? ⟨w.heap.size, 5, none⟩ = some (.slice q.ma q.ms.length q.mc) ∧ w'.cell? ⟨w.heap.size, 6, none⟩ = some (.int .i64 q.off) ∧ w'.cell? ⟨w.heap.size, 7, none⟩ = some (.bool q.fx) ∧ w'.cell? ⟨w.heap.size, 8, none⟩ = some (.int .i64 q.att) ∧ w'.cell? ⟨w.heap.size, 9, none⟩ = some (.bool q.bo) ∧ w'.cell? ⟨w.heap.size, 10, none⟩ = some (.int .i64 q.byy) ∧ w'.cell? ⟨w.heap.size, 11, none⟩ = some (.slice q.na q.ns.length q.nc) ∧ w'.cell? ⟨w.heap.size, 12, none⟩ = some (.int .i64 q.sd) ∧ w'.cell? ⟨w.heap.size, 13, none⟩ = some (.slice q.ea q.es.length q.ec) ∧ w'.cell? ⟨w.heap.size, 14, none⟩ = some (.int .i64 q.kc) ∧ w'.cell? ⟨b, off, none⟩ = some (.iface tt x) ∧ w'.cell? ⟨b, off + 1, none⟩ = some (.iface uu y)) (first | exact HS | assumption) (first | fail)
  have HBD : Below w.heap.size w X.drew := HBX.out.drew
  go_wp2
  (try simp only [Exit.inBlock, Exit.then])
  go_ret2
  exact ⟨rfl, HBD⟩
end Go.Proofs.YtbdlahhejfamhaaGreatDoor.Qry
