/- The given card of FnExactMutedAt holds: for every input the program answers as the model does, its tables reading as their texts lay them; the call returns true and nothing that came in is written. -/
import Derived.Test.YthcogkoleiejgaaGreatDoorCards
import Derived.Test.YthcogkoleiejgaaGreatDoorTie
import Derived.WalkKit
import Derived.ProofKit
import Derived.OpenShut
import Derived.ShutString
import Derived.ChangeOld
import Derived.Below
import Derived.WalkSmall
import Derived.Deep.DeepHandedRow
import Derived.MakeChecks
import Derived.Test.YthcogkoleiejgaaGreatDoorRCA
import Derived.Test.YthcogkoleiejgaaGreatDoorRNcg
namespace Go.Proofs.YthcogkoleiejgaaGreatDoor.fnExactMutedAt
open Go.ChangeShapes Go.WideShapes Go.ChangeAt Go.RowKit
open Go.ChangeMaps (open_string shut_string)
set_option linter.unusedVariables false

theorem own : ownKnob Tryz.prog.godebug = none := by kernel_rfl
theorem laidOut : laidOutB Tryz.prog = true := by kernel_rfl
theorem plainL (W : World) : laidMetH Tryz.prog Rows.fnExactMutedAtRow.laid W = laidMet Tryz.prog Rows.fnExactMutedAtRow.laid W := Go.MakeChecks.laidMetH_plain _ _ _ (by kernel_rfl)
theorem isMon {W : World} (h : laidMetH Tryz.prog Rows.fnExactMutedAtRow.laid W) : Cal.Mon W := by
  rw [plainL] at h
  exact Cal.mon_of h
theorem isRgl {W : World} (h : laidMetH Tryz.prog Rows.fnExactMutedAtRow.laid W) : Cal.Rgl W := by
  rw [plainL] at h
  exact Cal.rgl_of (Cal.laid_tail h)

set_option maxRecDepth 100000 in
theorem contract (H : Type) (enc : TypeId × Value → H) (W : World) (base : Nat) (args : Array Value) (ds gs : List (DataW H)) (before : List MemPlace)
    (hval : ∀ (j : Nat) t v, Tryz.f5.params[j]? = some t → args[j]? = some v → Value.okWide Tryz.prog W .any base t v)
    (hW : DataW.Whole enc Tryz.prog Tryz.f5.params.toList Rows.fnExactMutedAtSpec.vars false W args.toList ds gs before) (hL : laidMetH Tryz.prog Rows.fnExactMutedAtRow.laid W) :
    Calls Tryz.prog 5 args W fun e W' => ∃ v, e = .returned v ∧ Rows.fnExactMutedAtSpec.post enc Tryz.prog Tryz.f5 false true false false W args v W' := by
  have hW' := hW
  obtain ⟨p, q, hA0, hV, rfl, hfz, hnd⟩ := hW
  have hA : DataW.TrodAll enc Tryz.prog W 0 (fun _ => true) true Tryz.f5.params.toList args.toList ds p := hA0
  rw [Tryz.params5] at hA hval
  obtain ⟨v0, vs0, d0, ds0, p0, q0, hargs, rfl, rfl, h0, r0⟩ := trodAll_cons hA
  obtain ⟨v1, vs1, d1, ds1, p1, q1, rfl, rfl, rfl, h1, r1⟩ := trodAll_cons r0
  obtain ⟨v2, vs2, d2, ds2, p2, q2, rfl, rfl, rfl, h2, r2⟩ := trodAll_cons r1
  obtain ⟨rfl, rfl, rfl⟩ := trodAll_nil r2
  obtain rfl : args = #[v0, v1, v2] := by cases args; simp_all
  obtain ⟨g0, t0, cs0, fu0, e0, x0, g1, t1, cs1, fu1, e1, x1, rfl, hg0, ht0, hvar0, hd0, hg1, ht1, hvar1, hd1, rfl⟩ := trodVars_two hV
  obtain rfl := Option.some.inj (Cal.gR.symm.trans hg0)
  obtain rfl := Option.some.inj (Cal.gRType.symm.trans ht0)
  have ltg0 : ∀ x ∈ x0, x.block < W.heap.size := DataW.trod_lt fu0 _ _ _ hd0
  have kg0 : DataW.Trod enc Tryz.prog W 0 (fun _ => true) true 185 (.agg cs0) e0 x0 := ⟨fu0, by simpa [Value.cells] using hd0⟩
  obtain rfl := Option.some.inj (Cal.gM.symm.trans hg1)
  obtain rfl := Option.some.inj (Cal.gMType.symm.trans ht1)
  have ltg1 : ∀ x ∈ x1, x.block < W.heap.size := DataW.trod_lt fu1 _ _ _ hd1
  have kg1 : DataW.Trod enc Tryz.prog W 0 (fun _ => true) true 186 (.agg cs1) e1 x1 := ⟨fu1, by simpa [Value.cells] using hd1⟩
  have k0 := h0
  have lt0 : ∀ x ∈ p0, x.block < W.heap.size := by obtain ⟨m, hm⟩ := k0; exact DataW.trod_lt m _ _ _ hm
  obtain ⟨cf0, rfl, hcf0, hfit0⟩ := Ntf.open_conf (hval 0 27 v0 rfl rfl) h0
  obtain ⟨a1, rfl, rfl, rfl, w1⟩ := open_int Tryz.underlying3 (hval 1 3 v1 rfl rfl) h1
  obtain ⟨lo1, hi1⟩ := bounds_i64 w1
  obtain ⟨a2, rfl, rfl, rfl, w2⟩ := open_int Tryz.underlying3 (hval 2 3 v2 rfl rfl) h2
  obtain ⟨lo2, hi2⟩ := bounds_i64 w2
  have hM := isMon hL
  have hR := isRgl hL
  clear hA0
  refine (Ntf.walkMutedAt cf0 a1 a2 W hcf0 hfit0 hM hR).mono fun e W' ⟨he, bel⟩ => ?_
  subst he
  obtain ⟨fw0, hg0'⟩ := Below.trod laidOut (by kernel_rfl) (of_decide_eq_true (by kernel_rfl)) kg0 bel ltg0
  obtain ⟨fw1, hg1'⟩ := Below.trod laidOut (by kernel_rfl) (of_decide_eq_true (by kernel_rfl)) kg1 bel ltg1
  have hv' : DataW.TrodVars enc Tryz.prog W' (fun b => decide (b < W.heap.size)) ["loop.example/g00039/impl.rangeLimits", "loop.example/g00039/impl.monthDays"] [e0, e1] _ := ⟨_, _, _, _, _, _, Cal.gR, Cal.gRType, var?_below bel Cal.gR hR.lt hvar0, (by simpa [Value.cells] using hg0'), trodVars_mk1 (enc := enc) (spare := fun b => decide (b < W.heap.size)) Cal.gM Cal.gMType (var?_below bel Cal.gM hM.lt hvar1) (by simpa [Value.cells] using hg1'), rfl⟩
  exact ⟨_, rfl, _, _, _, [], _, _, hW', trodAll_mk1 (shut_bool Tryz.underlying4 _), (trodAll_cons_mk (Below.trod laidOut (by kernel_rfl) (of_decide_eq_true (by kernel_rfl)) k0 bel lt0) (trodAll_cons_mk (shut_int Tryz.underlying3 w1) (trodAll_cons_mk (shut_int Tryz.underlying3 w2) trodAll_mk0))), hv', bel.frame _, fun h => by cases h⟩

theorem laid_met (os : Os) : laidMet Tryz.prog Rows.fnExactMutedAtRow.laid (({ World.holding Tryz.prog os ⟨#[], #[], []⟩ with heap := ((World.holding Tryz.prog os ⟨#[], #[], []⟩).heap.modify 2 (fun | .cells _ t frozen => .cells #[.int .i64 31, .int .i64 28, .int .i64 31, .int .i64 30, .int .i64 31, .int .i64 30, .int .i64 31, .int .i64 31, .int .i64 30, .int .i64 31, .int .i64 30, .int .i64 31] t frozen | o => o)).modify 0 (fun | .cells _ t frozen => .cells #[.int .i64 0, .int .i64 1439, .int .i64 0, .int .i64 6, .int .i64 (-31), .int .i64 31, .int .i64 1, .int .i64 12, .int .i64 1970, .int .i64 40000] t frozen | o => o) } : World).forCall (fun _ _ => 0) ⟨#[], #[.agg #[.slice none 0 0, .slice none 0 0, .slice none 0 0, .slice none 0 0], .int .i64 0, .int .i64 0], []⟩).memory :=
  laidMet_of_run' 8 (by kernel_rfl) (by kernel_rfl)
theorem reads (os : Os) {H : Type} (enc : TypeId × Value → H) : ∃ gs places, DataW.whole enc Tryz.prog (({ World.holding Tryz.prog os ⟨#[], #[], []⟩ with heap := ((World.holding Tryz.prog os ⟨#[], #[], []⟩).heap.modify 2 (fun | .cells _ t frozen => .cells #[.int .i64 31, .int .i64 28, .int .i64 31, .int .i64 30, .int .i64 31, .int .i64 30, .int .i64 31, .int .i64 31, .int .i64 30, .int .i64 31, .int .i64 30, .int .i64 31] t frozen | o => o)).modify 0 (fun | .cells _ t frozen => .cells #[.int .i64 0, .int .i64 1439, .int .i64 0, .int .i64 6, .int .i64 (-31), .int .i64 31, .int .i64 1, .int .i64 12, .int .i64 1970, .int .i64 40000] t frozen | o => o) } : World).forCall (fun _ _ => 0) ⟨#[], #[.agg #[.slice none 0 0, .slice none 0 0, .slice none 0 0, .slice none 0 0], .int .i64 0, .int .i64 0], []⟩).memory Tryz.f5.params.toList Rows.fnExactMutedAtSpec.vars false #[Value.agg #[.slice none 0 0, .slice none 0 0, .slice none 0 0, .slice none 0 0], .int .i64 0, .int .i64 0].toList 8 = some ([.agg [.nil, .nil, .nil, .nil], .lit (.int .i64 0), .lit (.int .i64 0)], gs, places) :=
  ⟨[.agg [.agg [.lit (.int .i64 0), .lit (.int .i64 1439)], .agg [.lit (.int .i64 0), .lit (.int .i64 6)], .agg [.lit (.int .i64 (-31)), .lit (.int .i64 31)], .agg [.lit (.int .i64 1), .lit (.int .i64 12)], .agg [.lit (.int .i64 1970), .lit (.int .i64 40000)]], .agg [.lit (.int .i64 31), .lit (.int .i64 28), .lit (.int .i64 31), .lit (.int .i64 30), .lit (.int .i64 31), .lit (.int .i64 30), .lit (.int .i64 31), .lit (.int .i64 31), .lit (.int .i64 30), .lit (.int .i64 31), .lit (.int .i64 30), .lit (.int .i64 31)]], [.cell 0 0, .cell 0 1, .cell 0 2, .cell 0 3, .cell 0 4, .cell 0 5, .cell 0 6, .cell 0 7, .cell 0 8, .cell 0 9, .cell 2 0, .cell 2 1, .cell 2 2, .cell 2 3, .cell 2 4, .cell 2 5, .cell 2 6, .cell 2 7, .cell 2 8, .cell 2 9, .cell 2 10, .cell 2 11], by kernel_rfl⟩

set_option maxRecDepth 100000 in
theorem lifted (os : Os) (started : os.Started) (H : Type) (enc : TypeId × Value → H) (F : Stop.Interp) :
    ReturnsInHanded {} Tryz.checked os 5 .any ((OpenSpec.ofChange Rows.fnExactMutedAtSpec).preRow enc Tryz.prog Tryz.f5 Rows.fnExactMutedAtRow.domain false Rows.fnExactMutedAtRow.laid) (((OpenSpec.ofChange Rows.fnExactMutedAtSpec).at F).post enc Tryz.prog Tryz.f5 false true false false) := by
  obtain ⟨gs, places, hx⟩ := reads os enc
  refine returnsInHanded_of_row (C := Tryz.checked) (s := OpenSpec.ofChange Rows.fnExactMutedAtSpec) own started (by kernel_rfl) Tryz.func5
    (witness_row_at (enc := enc) (C := Tryz.checked) false { World.holding Tryz.prog os ⟨#[], #[], []⟩ with heap := ((World.holding Tryz.prog os ⟨#[], #[], []⟩).heap.modify 2 (fun | .cells _ t frozen => .cells #[.int .i64 31, .int .i64 28, .int .i64 31, .int .i64 30, .int .i64 31, .int .i64 30, .int .i64 31, .int .i64 31, .int .i64 30, .int .i64 31, .int .i64 30, .int .i64 31] t frozen | o => o)).modify 0 (fun | .cells _ t frozen => .cells #[.int .i64 0, .int .i64 1439, .int .i64 0, .int .i64 6, .int .i64 (-31), .int .i64 31, .int .i64 1, .int .i64 12, .int .i64 1970, .int .i64 40000] t frozen | o => o) }  #[.agg #[.slice none 0 0, .slice none 0 0, .slice none 0 0, .slice none 0 0], .int .i64 0, .int .i64 0] rfl (by kernel_rfl) (by kernel_rfl) (by kernel_rfl)
      (OpenSpec.preRow_of_cond 8 hx (by kernel_rfl) (fun k hk => by cases hk) (by kernel_rfl) (laid_met os))) ?_
  intro W base args ds gs before hval hW _ _ _ hL _ _
  exact contract H enc W base args ds gs before hval hW hL

theorem said : Rows.FnExactMutedAtSaid :=
  OpenClaim.holds_of_cond 5 Tryz.f5 rfl rfl rfl rfl rfl rfl rfl ⟨rfl, rfl, rfl, rfl, rfl⟩ rfl rfl rfl rfl rfl (by kernel_rfl) Tryz.func5 (by kernel_rfl)
    (of_decide_eq_true (by kernel_rfl)) (by unfold Func.isWrapper; first | (rw [if_pos (by decide +kernel)]; kernel_rfl) | (rw [if_neg (by decide +kernel)]; exact ⟨rfl, rfl⟩))
    (fun os started H enc _ F => by rw [OpenClaim.pre_eq_preRow]; exact lifted os started H enc F)

theorem plain (f : FuncId) (fn : Func) (hf : Tryz.pinned.checked.prog.funcNamed "loop.example/g00039/laws.FnExactMutedAt" = some f) (hfn : Tryz.pinned.checked.prog.funcs[f]? = some fn) :
    false = Tryz.pinned.checked.prog.looks [] ∧ ∀ (j : Nat) t, fn.params[j]? = some t → Tryz.pinned.checked.prog.wantsStandIn t = false := by
  obtain rfl : f = 5 := Option.some.inj ((show Tryz.prog.funcNamed "loop.example/g00039/laws.FnExactMutedAt" = some 5 by kernel_rfl).symm.trans hf) |>.symm
  obtain rfl : fn = Tryz.f5 := (Option.some.inj (Tryz.func5.symm.trans hfn)).symm
  refine ⟨by kernel_rfl, fun j t ht => ?_⟩
  rw [Tryz.params5] at ht
  obtain rfl | rfl : t = 27 ∨ t = 3 := by simpa using Array.mem_of_getElem? ht
  · exact (show Tryz.prog.wantsStandIn 27 = false by kernel_rfl)
  · exact (show Tryz.prog.wantsStandIn 3 = false by kernel_rfl)
end Go.Proofs.YthcogkoleiejgaaGreatDoor.fnExactMutedAt
namespace Go.Proofs.YthcogkoleiejgaaGreatDoor
theorem fnExactMutedAt_holds : Rows.FnExactMutedAtCardSaid :=
  Claim7.holds_tied_plain_at .later [] _ _ _ _ fnExactMutedAt.said (fun _ h => by cases h) (by kernel_rfl) (fun _ h => by cases h) fnExactMutedAt_row_tie rfl ⟨rfl, rfl⟩ (by kernel_rfl) rfl fnExactMutedAt.plain (by kernel_rfl)
end Go.Proofs.YthcogkoleiejgaaGreatDoor
