/- The given card of FnIntervals holds: a drawn interval in which a time is has it no more when that day is free; the call returns true and nothing that came in is written. -/
import Derived.Test.YtcnilidckicccaaDoorCards
import Derived.Test.YtcnilidckicccaaDoorTie
import Derived.WalkKit
import Derived.ProofKit
import Derived.OpenShut
import Derived.ShutString
import Derived.ChangeOld
import Derived.Below
import Derived.WalkSmall
import Derived.Deep.DeepHandedRow
import Derived.MakeChecks
import Derived.Test.YtcnilidckicccaaDoorClt
import Derived.Test.YtcnilidckicccaaDoorIwh
namespace Go.Proofs.YtcnilidckicccaaDoor.fnIntervals
open Go.ChangeShapes Go.WideShapes Go.ChangeAt Go.RowKit
open Go.ChangeMaps (open_string shut_string)
set_option linter.unusedVariables false

theorem own : ownKnob Tryd.prog.godebug = none := by kernel_rfl
theorem laidOut : laidOutB Tryd.prog = true := by kernel_rfl
theorem plainL (W : World) : laidMetH Tryd.prog Rows.fnIntervalsRow.laid W = laidMet Tryd.prog Rows.fnIntervalsRow.laid W := Go.MakeChecks.laidMetH_plain _ _ _ (by kernel_rfl)
theorem isMon {W : World} (h : laidMetH Tryd.prog Rows.fnIntervalsRow.laid W) : Cal.Mon W := by
  rw [plainL] at h
  exact Cal.mon_of h
theorem isRgl {W : World} (h : laidMetH Tryd.prog Rows.fnIntervalsRow.laid W) : Cal.Rgl W := by
  rw [plainL] at h
  exact Cal.rgl_of (Cal.laid_tail h)

theorem contract (H : Type) (enc : TypeId × Value → H) (W : World) (base : Nat) (args : Array Value) (ds gs : List (DataW H)) (before : List MemPlace)
    (hval : ∀ (j : Nat) t v, Tryd.f3.params[j]? = some t → args[j]? = some v → Value.okWide Tryd.prog W .any base t v)
    (hW : DataW.Whole enc Tryd.prog Tryd.f3.params.toList Rows.fnIntervalsSpec.vars false W args.toList ds gs before) (hL : laidMetH Tryd.prog Rows.fnIntervalsRow.laid W) :
    Calls Tryd.prog 3 args W fun e W' => ∃ v, e = .returned v ∧ Rows.fnIntervalsSpec.post enc Tryd.prog Tryd.f3 false true false false W args v W' := by
  have hW' := hW
  obtain ⟨p, q, hA0, hV, rfl, hfz, hnd⟩ := hW
  have hA : DataW.TrodAll enc Tryd.prog W 0 (fun _ => true) true Tryd.f3.params.toList args.toList ds p := hA0
  rw [Tryd.params3] at hA hval
  obtain ⟨v0, vs0, d0, ds0, p0, q0, hargs, rfl, rfl, h0, r0⟩ := trodAll_cons hA
  obtain ⟨rfl, rfl, rfl⟩ := trodAll_nil r0
  obtain rfl : args = #[v0] := by cases args; simp_all
  obtain ⟨g0, t0, cs0, fu0, e0, x0, g1, t1, cs1, fu1, e1, x1, rfl, hg0, ht0, hvar0, hd0, hg1, ht1, hvar1, hd1, rfl⟩ := trodVars_two hV
  obtain rfl := Option.some.inj (Cal.gR.symm.trans hg0)
  obtain rfl := Option.some.inj (Cal.gRType.symm.trans ht0)
  have ltg0 : ∀ x ∈ x0, x.block < W.heap.size := DataW.trod_lt fu0 _ _ _ hd0
  have kg0 : DataW.Trod enc Tryd.prog W 0 (fun _ => true) true 80 (.agg cs0) e0 x0 := ⟨fu0, by simpa [Value.cells] using hd0⟩
  obtain rfl := Option.some.inj (Cal.gM.symm.trans hg1)
  obtain rfl := Option.some.inj (Cal.gMType.symm.trans ht1)
  have ltg1 : ∀ x ∈ x1, x.block < W.heap.size := DataW.trod_lt fu1 _ _ _ hd1
  have kg1 : DataW.Trod enc Tryd.prog W 0 (fun _ => true) true 82 (.agg cs1) e1 x1 := ⟨fu1, by simpa [Value.cells] using hd1⟩
  have k0 := h0
  have lt0 : ∀ x ∈ p0, x.block < W.heap.size := by obtain ⟨m, hm⟩ := k0; exact DataW.trod_lt m _ _ _ hm
  obtain ⟨ad0, len0, cap0, rfl⟩ := okWide_slice Tryd.underlying22 (hval 0 22 v0 rfl rfl)
  obtain ⟨hm0, hr0⟩ := Cur.open_bytes h0
  have hM := isMon hL
  have hR := isRgl hL
  clear hA0
  refine (Rng.walkIntervals ad0 len0 cap0 W hr0 hM hR).mono fun e W' ⟨he, bel⟩ => ?_
  subst he
  obtain ⟨fw0, hg0'⟩ := Below.trod laidOut (by kernel_rfl) (of_decide_eq_true (by kernel_rfl)) kg0 bel ltg0
  obtain ⟨fw1, hg1'⟩ := Below.trod laidOut (by kernel_rfl) (of_decide_eq_true (by kernel_rfl)) kg1 bel ltg1
  have hv' : DataW.TrodVars enc Tryd.prog W' (fun b => decide (b < W.heap.size)) ["loop.example/g00039/impl.rangeLimits", "loop.example/g00039/impl.monthDays"] [e0, e1] _ := ⟨_, _, _, _, _, _, Cal.gR, Cal.gRType, var?_below bel Cal.gR hR.lt hvar0, (by simpa [Value.cells] using hg0'), trodVars_mk1 (enc := enc) (spare := fun b => decide (b < W.heap.size)) Cal.gM Cal.gMType (var?_below bel Cal.gM hM.lt hvar1) (by simpa [Value.cells] using hg1'), rfl⟩
  exact ⟨_, rfl, _, _, _, [], _, _, hW', trodAll_mk1 (shut_bool Tryd.underlying4 _), (trodAll_cons_mk (Below.trod laidOut (by kernel_rfl) (of_decide_eq_true (by kernel_rfl)) k0 bel lt0) trodAll_mk0), hv', bel.frame _, fun h => by cases h⟩

theorem laid_met (os : Os) : laidMet Tryd.prog Rows.fnIntervalsRow.laid (({ World.holding Tryd.prog os ⟨#[], #[], []⟩ with heap := ((World.holding Tryd.prog os ⟨#[], #[], []⟩).heap.modify 1 (fun | .cells _ t frozen => .cells #[.int .i64 31, .int .i64 28, .int .i64 31, .int .i64 30, .int .i64 31, .int .i64 30, .int .i64 31, .int .i64 31, .int .i64 30, .int .i64 31, .int .i64 30, .int .i64 31] t frozen | o => o)).modify 0 (fun | .cells _ t frozen => .cells #[.int .i64 0, .int .i64 1439, .int .i64 0, .int .i64 6, .int .i64 (-31), .int .i64 31, .int .i64 1, .int .i64 12, .int .i64 1970, .int .i64 40000] t frozen | o => o) } : World).forCall (fun _ _ => 0) ⟨#[], #[.slice none 0 0], []⟩).memory :=
  laidMet_of_run' 8 (by kernel_rfl) (by kernel_rfl)
theorem reads (os : Os) {H : Type} (enc : TypeId × Value → H) : ∃ gs places, DataW.whole enc Tryd.prog (({ World.holding Tryd.prog os ⟨#[], #[], []⟩ with heap := ((World.holding Tryd.prog os ⟨#[], #[], []⟩).heap.modify 1 (fun | .cells _ t frozen => .cells #[.int .i64 31, .int .i64 28, .int .i64 31, .int .i64 30, .int .i64 31, .int .i64 30, .int .i64 31, .int .i64 31, .int .i64 30, .int .i64 31, .int .i64 30, .int .i64 31] t frozen | o => o)).modify 0 (fun | .cells _ t frozen => .cells #[.int .i64 0, .int .i64 1439, .int .i64 0, .int .i64 6, .int .i64 (-31), .int .i64 31, .int .i64 1, .int .i64 12, .int .i64 1970, .int .i64 40000] t frozen | o => o) } : World).forCall (fun _ _ => 0) ⟨#[], #[.slice none 0 0], []⟩).memory Tryd.f3.params.toList Rows.fnIntervalsSpec.vars false #[Value.slice none 0 0].toList 8 = some ([.nil], gs, places) :=
  ⟨[.agg [.agg [.lit (.int .i64 0), .lit (.int .i64 1439)], .agg [.lit (.int .i64 0), .lit (.int .i64 6)], .agg [.lit (.int .i64 (-31)), .lit (.int .i64 31)], .agg [.lit (.int .i64 1), .lit (.int .i64 12)], .agg [.lit (.int .i64 1970), .lit (.int .i64 40000)]], .agg [.lit (.int .i64 31), .lit (.int .i64 28), .lit (.int .i64 31), .lit (.int .i64 30), .lit (.int .i64 31), .lit (.int .i64 30), .lit (.int .i64 31), .lit (.int .i64 31), .lit (.int .i64 30), .lit (.int .i64 31), .lit (.int .i64 30), .lit (.int .i64 31)]], [.cell 0 0, .cell 0 1, .cell 0 2, .cell 0 3, .cell 0 4, .cell 0 5, .cell 0 6, .cell 0 7, .cell 0 8, .cell 0 9, .cell 1 0, .cell 1 1, .cell 1 2, .cell 1 3, .cell 1 4, .cell 1 5, .cell 1 6, .cell 1 7, .cell 1 8, .cell 1 9, .cell 1 10, .cell 1 11], by kernel_rfl⟩

set_option maxRecDepth 100000 in
theorem lifted (os : Os) (started : os.Started) (H : Type) (enc : TypeId × Value → H) (F : Stop.Interp) :
    ReturnsInHanded {} Tryd.checked os 3 .any ((OpenSpec.ofChange Rows.fnIntervalsSpec).preRow enc Tryd.prog Tryd.f3 Rows.fnIntervalsRow.domain false Rows.fnIntervalsRow.laid) (((OpenSpec.ofChange Rows.fnIntervalsSpec).at F).post enc Tryd.prog Tryd.f3 false true false false) := by
  obtain ⟨gs, places, hx⟩ := reads os enc
  refine returnsInHanded_of_row (C := Tryd.checked) (s := OpenSpec.ofChange Rows.fnIntervalsSpec) own started (by kernel_rfl) Tryd.func3
    (witness_row_at (enc := enc) (C := Tryd.checked) false { World.holding Tryd.prog os ⟨#[], #[], []⟩ with heap := ((World.holding Tryd.prog os ⟨#[], #[], []⟩).heap.modify 1 (fun | .cells _ t frozen => .cells #[.int .i64 31, .int .i64 28, .int .i64 31, .int .i64 30, .int .i64 31, .int .i64 30, .int .i64 31, .int .i64 31, .int .i64 30, .int .i64 31, .int .i64 30, .int .i64 31] t frozen | o => o)).modify 0 (fun | .cells _ t frozen => .cells #[.int .i64 0, .int .i64 1439, .int .i64 0, .int .i64 6, .int .i64 (-31), .int .i64 31, .int .i64 1, .int .i64 12, .int .i64 1970, .int .i64 40000] t frozen | o => o) }  #[.slice none 0 0] rfl (by kernel_rfl) (by kernel_rfl) (by kernel_rfl)
      (OpenSpec.preRow_of_cond 8 hx (by kernel_rfl) (fun k hk => by cases hk) (by kernel_rfl) (laid_met os))) ?_
  intro W base args ds gs before hval hW _ _ _ hL _ _
  exact contract H enc W base args ds gs before hval hW hL

theorem said : Rows.FnIntervalsSaid :=
  OpenClaim.holds_of_cond 3 Tryd.f3 rfl rfl rfl rfl rfl rfl rfl ⟨rfl, rfl, rfl, rfl, rfl⟩ rfl rfl rfl rfl rfl (by kernel_rfl) Tryd.func3 (by kernel_rfl)
    (of_decide_eq_true (by kernel_rfl)) (by unfold Func.isWrapper; first | (rw [if_pos (by decide +kernel)]; kernel_rfl) | (rw [if_neg (by decide +kernel)]; exact ⟨rfl, rfl⟩))
    (fun os started H enc _ F => by rw [OpenClaim.pre_eq_preRow]; exact lifted os started H enc F)

theorem plain (f : FuncId) (fn : Func) (hf : Tryd.pinned.checked.prog.funcNamed "loop.example/g00039/laws.FnIntervals" = some f) (hfn : Tryd.pinned.checked.prog.funcs[f]? = some fn) :
    false = Tryd.pinned.checked.prog.looks [] ∧ ∀ (j : Nat) t, fn.params[j]? = some t → Tryd.pinned.checked.prog.wantsStandIn t = false := by
  obtain rfl : f = 3 := Option.some.inj ((show Tryd.prog.funcNamed "loop.example/g00039/laws.FnIntervals" = some 3 by kernel_rfl).symm.trans hf) |>.symm
  obtain rfl : fn = Tryd.f3 := (Option.some.inj (Tryd.func3.symm.trans hfn)).symm
  refine ⟨by kernel_rfl, fun j t ht => ?_⟩
  rw [Tryd.params3] at ht
  obtain rfl : t = 22 := by simpa using Array.mem_of_getElem? ht
  exact (show Tryd.prog.wantsStandIn 22 = false by kernel_rfl)
end Go.Proofs.YtcnilidckicccaaDoor.fnIntervals
namespace Go.Proofs.YtcnilidckicccaaDoor
theorem fnIntervals_holds : Rows.FnIntervalsCardSaid :=
  Claim7.holds_tied_plain_at .later [] _ _ _ _ fnIntervals.said (fun _ h => by cases h) (by kernel_rfl) (fun _ h => by cases h) fnIntervals_row_tie rfl ⟨rfl, rfl⟩ (by kernel_rfl) rfl fnIntervals.plain (by kernel_rfl)
end Go.Proofs.YtcnilidckicccaaDoor
