import Derived.Test.YtooackaijhpohaaGreatDoorCards
import Derived.Test.YtooackaijhpohaaGreatDoorTie
import Derived.WalkKit
import Derived.ProofKit
import Derived.OpenShut
import Derived.ShutString
import Derived.ChangeOld
import Derived.Below
import Derived.WalkSmall
import Derived.LaidMore
import Derived.Lay
import Derived.SevenTiedAt
import Derived.Stop.Joined
import Derived.MakeChecks
import Derived.Test.YtooackaijhpohaaGreatDoorPtOne
import Derived.Test.YtooackaijhpohaaGreatDoorQm
import Derived.Test.YtooackaijhpohaaGreatDoorTb
/- The given card of FnExactPullTimes holds: for every target and every two times PullTimes of the program (by its table of shapes, which reads as its text lays it) answers as the model does; the call returns true and nothing that came in is written. -/
namespace Go.Proofs.YtooackaijhpohaaGreatDoor.fnExactPullTimes
open Go.ChangeShapes Go.WideShapes Go.ChangeAt Go.RowKit
set_option linter.unusedVariables false

theorem own : ownKnob Tryz.prog.godebug = none := by kernel_rfl
theorem laidOut : laidOutB Tryz.prog = true := by kernel_rfl
/-- What a list gives, its tail gives. -/
theorem laid_tail {P : Program} {W : World} {x : String × DataW Unit} {rest : List (String × DataW Unit)} (h : laidMet P (x :: rest) W) : laidMet P rest W := by
  obtain ⟨n, d⟩ := x
  obtain ⟨ps, ⟨g, t, cs, fuel, p, q, _, _, _, _, hq, rfl⟩, hnd, hall⟩ := h
  exact ⟨q, hq, (List.nodup_append.1 hnd).2.1, fun b off hm => hall b off (List.mem_append_right _ hm)⟩
theorem plainL (W : World) : laidMetH Tryz.prog Rows.fnExactPullTimesRow.laid W = laidMet Tryz.prog Rows.fnExactPullTimesRow.laid W := Go.MakeChecks.laidMetH_plain _ _ _ (by kernel_rfl)
/-- What the row's list gives: the variable's cells hold the shapes. -/
theorem table {W : World} (h : laidMetH Tryz.prog Rows.fnExactPullTimesRow.laid W) : Rel.Tab W := by
  rw [plainL] at h
  exact Rel.tab_of (laid_tail (laid_tail (laid_tail (laid_tail h))))

set_option maxRecDepth 100000 in
theorem lifted (os : Os) (started : os.Started) (H : Type) (enc : TypeId × Value → H) :
    ReturnsInHanded {} Tryz.checked os 5 .any (fun w args => (Rows.fnExactPullTimesSpec.pre enc Tryz.prog Tryz.f5 Rows.fnExactPullTimesRow.domain false w args ∧ laidMetH Tryz.prog Rows.fnExactPullTimesRow.laid w) ∧ sizedMet enc Tryz.prog Tryz.f5 (OpenSpec.ofChange Rows.fnExactPullTimesSpec) false w args)
      (Rows.fnExactPullTimesSpec.post enc Tryz.prog Tryz.f5 false true false false) := by
  refine returnsInHanded_of_change_and (C := Tryz.checked) (X := fun w _ => laidMetH Tryz.prog Rows.fnExactPullTimesRow.laid w) (fun _ _ _ hh h => h.of_heap hh) own started (by kernel_rfl) Tryz.func5
    (ChangeSpec.witness_shaped (enc := enc) (C := Tryz.checked) (os := os) (X := fun w _ => laidMetH Tryz.prog Rows.fnExactPullTimesRow.laid w) false (World.laidAll Tryz.prog os Rows.fnExactPullTimesRow.laid) #[.agg #[.slice none 0 0, .int .i64 0, .int .i64 0, .bool false, .slice none 0 0], .int .i64 0, .int .i64 0] 8 (World.laidAll_os _ _ _)
      (World.shaped_of_ZipB (by kernel_rfl) (by kernel_rfl)) (by kernel_rfl) (by kernel_rfl) (by kernel_rfl)
      (by rw [plainL]; exact laidMet_laidAll _ (by kernel_rfl) (by kernel_rfl))) ?_
  intro W base args ds gs before hval0 hW hc _ hL _
  have hval : ∀ (j : Nat) t v, Tryz.f5.params[j]? = some t → args[j]? = some v → Value.okWide Tryz.prog W .any base t v := hval0
  have hW' := hW
  obtain ⟨p, q, hA0, hV, rfl, hfz, hnd⟩ := hW
  have hA : DataW.TrodAll enc Tryz.prog W 0 (fun _ => true) true Tryz.f5.params.toList args.toList ds p := hA0
  rw [Tryz.params5] at hA hval
  obtain ⟨v0, vs0, d0, ds0, p0, q0, hargs, rfl, rfl, h0, r0⟩ := trodAll_cons hA
  obtain ⟨v1, vs1, d1, ds1, p1, q1, rfl, rfl, rfl, h1, r1⟩ := trodAll_cons r0
  obtain ⟨v2, vs2, d2, ds2, p2, q2, rfl, rfl, rfl, h2, r2⟩ := trodAll_cons r1
  obtain ⟨rfl, rfl, rfl⟩ := trodAll_nil r2
  obtain rfl : args = #[v0, v1, v2] := by cases args; simp_all
  obtain ⟨g, t, cs, fuel, dg, pg, rfl, hg, ht, hvar, hd, rfl⟩ := trodVars_one hV
  obtain rfl := Option.some.inj (Rel.gTab.symm.trans hg)
  obtain rfl := Option.some.inj (Rel.gTabType.symm.trans ht)
  have k0 := h0
  have lt0 : ∀ x ∈ p0, x.block < W.heap.size := by obtain ⟨m, hm⟩ := k0; exact DataW.trod_lt m _ _ _ hm
  have ltg : ∀ x ∈ pg, x.block < W.heap.size := DataW.trod_lt fuel _ _ _ hd
  have kg : DataW.Trod enc Tryz.prog W 0 (fun _ => true) true 105 (.agg cs) dg pg := ⟨fuel, by
    have hd2 : DataW.trod enc Tryz.prog W 0 (fun _ => true) true fuel 105 cs.toList = some (dg, pg) := hd
    simpa [Value.cells] using hd2⟩
  obtain ⟨t0, rfl, q1, q2⟩ := Tgt.open_target (hval 0 25 v0 rfl rfl) h0
  obtain ⟨a1, rfl, rfl, rfl, w1⟩ := open_int Tryz.underlying3 (hval 1 3 v1 rfl rfl) h1
  obtain ⟨a2, rfl, rfl, rfl, w2⟩ := open_int Tryz.underlying3 (hval 2 3 v2 rfl rfl) h2
  have htab := table hL
  have h0lt : 0 < W.heap.size := htab.1
  clear hA0 hval0
  refine (Tgt.walk5 t0 a1 a2 W q1 q2 htab).mono fun e W' ⟨he, bel⟩ => ?_
  subst he
  obtain ⟨fu, hg'⟩ := Below.trod laidOut (by kernel_rfl) (of_decide_eq_true (by kernel_rfl)) kg bel ltg
  have hv' := trodVars_mk1 (enc := enc) (spare := fun b => decide (b < W.heap.size)) Rel.gTab Rel.gTabType (var?_below bel Rel.gTab h0lt hvar) (by simpa [Value.cells] using hg')
  exact ⟨_, rfl, _, _, _, [], _, _, hW', trodAll_mk1 (shut_bool Tryz.underlying4 _), (trodAll_cons_mk (Below.trod laidOut (by kernel_rfl) (of_decide_eq_true (by kernel_rfl)) k0 bel lt0) (trodAll_cons_mk (shut_int Tryz.underlying3 w1) (trodAll_cons_mk (shut_int Tryz.underlying3 w2) trodAll_mk0))), hv', bel.frame _, fun h => by cases h⟩

theorem said : Rows.FnExactPullTimesSaid :=
  OpenClaim.holds_of_wide 5 Tryz.f5 rfl rfl rfl rfl rfl rfl rfl ⟨rfl, rfl, rfl, rfl, rfl⟩ rfl rfl rfl rfl rfl (by kernel_rfl) Tryz.func5 (by kernel_rfl)
    (of_decide_eq_true (by kernel_rfl)) (by unfold Func.isWrapper; first | (rw [if_pos (by decide +kernel)]; kernel_rfl) | (rw [if_neg (by decide +kernel)]; exact ⟨rfl, rfl⟩))
    (fun os started H enc _ => lifted os started H enc)

theorem plain (f : FuncId) (fn : Func) (hf : Tryz.pinned.checked.prog.funcNamed "loop.example/g00039/laws.FnExactPullTimes" = some f) (hfn : Tryz.pinned.checked.prog.funcs[f]? = some fn) :
    false = Tryz.pinned.checked.prog.looks [] ∧ ∀ (j : Nat) t, fn.params[j]? = some t → Tryz.pinned.checked.prog.wantsStandIn t = false := by
  obtain rfl : f = 5 := Option.some.inj ((show Tryz.prog.funcNamed "loop.example/g00039/laws.FnExactPullTimes" = some 5 by kernel_rfl).symm.trans hf) |>.symm
  obtain rfl : fn = Tryz.f5 := (Option.some.inj (Tryz.func5.symm.trans hfn)).symm
  refine ⟨by kernel_rfl, fun j t ht => ?_⟩
  rw [Tryz.params5] at ht
  have hm : t = 25 ∨ t = 3 := by simpa using Array.mem_of_getElem? ht
  rcases hm with rfl | rfl
  · exact (show Tryz.prog.wantsStandIn 25 = false by kernel_rfl)
  · exact (show Tryz.prog.wantsStandIn 3 = false by kernel_rfl)
end Go.Proofs.YtooackaijhpohaaGreatDoor.fnExactPullTimes
namespace Go.Proofs.YtooackaijhpohaaGreatDoor
theorem pullTimes_holds : Rows.FnExactPullTimesCardSaid :=
  Claim7.holds_tied_plain_at .later [] _ _ _ _ fnExactPullTimes.said (fun _ h => by cases h) (by kernel_rfl) (fun _ h => by cases h) fnExactPullTimes_row_tie rfl ⟨rfl, rfl⟩ (by kernel_rfl) rfl fnExactPullTimes.plain (by kernel_rfl)
end Go.Proofs.YtooackaijhpohaaGreatDoor
