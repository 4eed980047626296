/- What the program asks of ranges. -/
import Derived.Test.YtbdlahhejfamhaaGreatDoorRC0
import Derived.Deep.WholeRow
import Derived.Test.YtbdlahhejfamhaaGreatDoorRC6
namespace Go.Proofs.YtbdlahhejfamhaaGreatDoor.Qry
open Go.RowKit
open Go.Proofs.YtbdlahhejfamhaaGreatDoor.Pat (Mt m0 nameL printL goodM HasM FitM ret_bool)
open Go.Proofs.YtbdlahhejfamhaaGreatDoor.Fil (HasT FitT)

theorem inf_range : (Tryz.prog.info? 114).map (fun i => (i.zero, i.size)) = some (some (.agg #[.int .i64 0, .int .i64 0, .int .i64 0, .string ⟨#[]⟩, .int .i64 0, .slice none 0 0, .int .i64 0, .bool false, .int .i64 0, .bool false, .int .i64 0, .slice none 0 0, .int .i64 0, .slice none 0 0, .int .i64 0, .int .i64 0, .int .i64 0, .int .i64 0, .string ⟨#[]⟩, .int .i64 0, .slice none 0 0, .int .i64 0, .bool false, .int .i64 0, .bool false, .int .i64 0, .slice none 0 0, .int .i64 0, .slice none 0 0, .int .i64 0]), 30) := by kernel_rfl
theorem exec_allocR (w : World) (a : Act) (o : Oper) (ho : o.op = .alloc 114) : (execOp a.eval o).run Tryz.prog w = .ok (.value (.pointer (some ⟨w.heap.size, 0, none⟩))) (w.alloc (.cells #[.int .i64 0, .int .i64 0, .int .i64 0, .string ⟨#[]⟩, .int .i64 0, .slice none 0 0, .int .i64 0, .bool false, .int .i64 0, .bool false, .int .i64 0, .slice none 0 0, .int .i64 0, .slice none 0 0, .int .i64 0, .int .i64 0, .int .i64 0, .int .i64 0, .string ⟨#[]⟩, .int .i64 0, .slice none 0 0, .int .i64 0, .bool false, .int .i64 0, .bool false, .int .i64 0, .slice none 0 0, .int .i64 0, .slice none 0 0, .int .i64 0] 114)) := by
  unfold execOp
  simp only [ho, Sem.run_bind, Instr.alloc, (zero_of_info inf_range).1, Result.andThen]
  rfl
theorem exec_storeR (w : World) (c : Array Value) (hc : c.size = 30) (h1 : c.all (·.oneCell') = true) (a : Act) (o : Oper) (p v : Operand) (ho : o.op = .store 114 p v) (hp : a.eval p = .pointer (some ⟨w.heap.size, 0, none⟩)) (hv : a.eval v = .agg c) :
    (execOp a.eval o).run Tryz.prog (w.alloc (.cells #[.int .i64 0, .int .i64 0, .int .i64 0, .string ⟨#[]⟩, .int .i64 0, .slice none 0 0, .int .i64 0, .bool false, .int .i64 0, .bool false, .int .i64 0, .slice none 0 0, .int .i64 0, .slice none 0 0, .int .i64 0, .int .i64 0, .int .i64 0, .int .i64 0, .string ⟨#[]⟩, .int .i64 0, .slice none 0 0, .int .i64 0, .bool false, .int .i64 0, .bool false, .int .i64 0, .slice none 0 0, .int .i64 0, .slice none 0 0, .int .i64 0] 114)) = .ok .skip (w.alloc (.cells c 114)) := by
  have h := run_storeAt_new (P := Tryz.prog) w 114 #[.int .i64 0, .int .i64 0, .int .i64 0, .string ⟨#[]⟩, .int .i64 0, .slice none 0 0, .int .i64 0, .bool false, .int .i64 0, .bool false, .int .i64 0, .slice none 0 0, .int .i64 0, .slice none 0 0, .int .i64 0, .int .i64 0, .int .i64 0, .int .i64 0, .string ⟨#[]⟩, .int .i64 0, .slice none 0 0, .int .i64 0, .bool false, .int .i64 0, .bool false, .int .i64 0, .slice none 0 0, .int .i64 0, .slice none 0 0, .int .i64 0] c (by rw [hc]; exact (zero_of_info inf_range).2) (by rw [hc]; rfl) h1
  unfold execOp
  simp only [ho, hp, hv, Sem.run_bind, h, Result.andThen]
  rfl

set_option maxHeartbeats 8000000 in
set_option maxRecDepth 100000 in
theorem rightn_rangea (q p : R) (w : World) (h0 : 1 ≤ q.nu) (h1 : q.nu ≤ 1000000000000) : Calls Tryz.prog 105 #[vrangeNode q p] w fun e w' => e = .returned (.bool true) ∧ Below w.heap.size w w' := by
  have tnum := ty_range_num
  have ttext := ty_range_text
  have tsel := ty_range_sel
  have trange := ty_range_range
  go_enter Tryz.func105, Tryz.ntmps105
  go_upto_region 12 with fail
  refine wp_region_lit ?_
  refine wpList_plain rfl (fun K hK => ?_)
  unfold Oper.wp
  rw [exec_allocR w _ _ rfl]
  refine hK _ _ ?_
  clear hK K
  refine wpList_plain rfl (fun K hK => ?_)
  unfold Oper.wp
  rw [exec_storeR w _ (by rfl) (by simp [Value.oneCell']) _ _ _ _ rfl rfl rfl]
  refine hK _ _ ?_
  clear hK K
  go_wp2
  go_ret
  exact ⟨rfl, (Below.refl _ _).alloc (Nat.le_refl _) _⟩

set_option maxHeartbeats 8000000 in
set_option maxRecDepth 100000 in
theorem rightn_rangeb (q p : R) (w : World) (h0 : 1 ≤ q.nu) (h1 : ¬ q.nu ≤ 1000000000000) : Calls Tryz.prog 105 #[vrangeNode q p] w fun e w' => e = .returned (.bool false) ∧ Below w.heap.size w w' := by
  have tnum := ty_range_num
  have ttext := ty_range_text
  have tsel := ty_range_sel
  have trange := ty_range_range
  go_enter Tryz.func105, Tryz.ntmps105
  go_upto_region 12 with fail
  refine wp_region_lit ?_
  refine wpList_plain rfl (fun K hK => ?_)
  unfold Oper.wp
  rw [exec_allocR w _ _ rfl]
  refine hK _ _ ?_
  clear hK K
  refine wpList_plain rfl (fun K hK => ?_)
  unfold Oper.wp
  rw [exec_storeR w _ (by rfl) (by simp [Value.oneCell']) _ _ _ _ rfl rfl rfl]
  refine hK _ _ ?_
  clear hK K
  go_wp2
  go_ret
  exact ⟨rfl, (Below.refl _ _).alloc (Nat.le_refl _) _⟩

set_option maxHeartbeats 8000000 in
set_option maxRecDepth 100000 in
theorem rightn_rangec (q p : R) (w : World) (h0 : ¬ 1 ≤ q.nu) : Calls Tryz.prog 105 #[vrangeNode q p] w fun e w' => e = .returned (.bool false) ∧ Below w.heap.size w w' := by
  have tnum := ty_range_num
  have ttext := ty_range_text
  have tsel := ty_range_sel
  have trange := ty_range_range
  go_enter Tryz.func105, Tryz.ntmps105
  go_upto_region 12 with fail
  refine wp_region_lit ?_
  refine wpList_plain rfl (fun K hK => ?_)
  unfold Oper.wp
  rw [exec_allocR w _ _ rfl]
  refine hK _ _ ?_
  clear hK K
  refine wpList_plain rfl (fun K hK => ?_)
  unfold Oper.wp
  rw [exec_storeR w _ (by rfl) (by simp [Value.oneCell']) _ _ _ _ rfl rfl rfl]
  refine hK _ _ ?_
  clear hK K
  go_wp2
  go_ret
  exact ⟨rfl, (Below.refl _ _).alloc (Nat.le_refl _) _⟩

set_option maxHeartbeats 8000000 in
set_option maxRecDepth 100000 in
theorem rightn_range (q p : R) (w : World) (h : q.kd = 4) (_ : Tabs w) (_ : Lst w q) (_ : Ft q) (_ : wt q ≤ 1048576) :
    Calls Tryz.prog 105 #[vrangeNode q p] w fun e w' => e = .returned (.bool (right (pl q))) ∧ Below w.heap.size w w' := by
  by_cases h0 : 1 ≤ q.nu
  · by_cases h1 : q.nu ≤ 1000000000000
    · rw [← r4_t (q := q) h ⟨h0, h1⟩]; exact rightn_rangea q p w h0 h1
    · rw [← r4_f (q := q) h (by omega)]; exact rightn_rangeb q p w h0 h1
  · rw [← r4_f (q := q) h (by omega)]; exact rightn_rangec q p w h0
end Go.Proofs.YtbdlahhejfamhaaGreatDoor.Qry
/- What the program asks of a node by itself. -/
namespace Go.Proofs.YtbdlahhejfamhaaGreatDoor.Qry
open Go.RowKit
open Go.Proofs.YtbdlahhejfamhaaGreatDoor.Pat (Mt m0 nameL printL goodM HasM FitM ret_bool)
open Go.Proofs.YtbdlahhejfamhaaGreatDoor.Fil (HasT FitT)

theorem f105 {S : Nat → Prop} {q : R} {vs : List Value} {v : Value} {w : World} (hsh : Sh S w q vs v) (ht : Tabs w) (hl : Lst w q) (hf : Ft q) (hs : wt q ≤ 1048576) :
    Calls Tryz.prog 105 #[v] w fun e w' => e = .returned (.bool (right (pl q))) ∧ Below w.heap.size w w' := by
  cases hsh with
  | num h => exact rightn_num q w h ht hl hf hs
  | text h => exact rightn_text q w h ht hl hf hs
  | sel h => exact rightn_sel q w h ht hl hf hs
  | range h p => exact rightn_range q p w h ht hl hf hs
  | sub h tt x => exact rightn_sub q tt x w h ht hl hf hs
  | neg h tt x => exact rightn_neg q tt x w h ht hl hf hs
  | op h tt x uu y => exact rightn_op q tt x uu y w h ht hl hf hs
  | agg h _ a c hv => exact rightn_agg q a _ c w h ht hl hf hs
  | call h _ a c hv => exact rightn_call q a _ c w h ht hl hf hs
end Go.Proofs.YtbdlahhejfamhaaGreatDoor.Qry
