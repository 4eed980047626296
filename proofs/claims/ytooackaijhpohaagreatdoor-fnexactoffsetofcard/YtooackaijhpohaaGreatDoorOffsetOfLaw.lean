/- The given card of FnExactOffsetOf holds: for every target OffsetOf of the program (by its table of shapes, which reads as its text lays it) answers as the model does; the call returns true and nothing that came in is written. -/
import Derived.Test.YtooackaijhpohaaGreatDoorCards
import Derived.Test.YtooackaijhpohaaGreatDoorTie
import Derived.WalkKit
import Derived.ProofKit
import Derived.OpenShut
import Derived.ShutString
import Derived.ChangeOld
import Derived.Below
import Derived.WalkSmall
import Derived.LaidMore
import Derived.Lay
import Derived.SevenTiedAt
import Derived.Stop.Joined
import Derived.MakeChecks
import Derived.Test.YtooackaijhpohaaGreatDoorQn
import Derived.Test.YtooackaijhpohaaGreatDoorQm
import Derived.Test.YtooackaijhpohaaGreatDoorTb
namespace Go.Proofs.YtooackaijhpohaaGreatDoor.fnExactOffsetOf
open Go.ChangeShapes Go.WideShapes Go.ChangeAt Go.RowKit
set_option linter.unusedVariables false

theorem own : ownKnob Tryz.prog.godebug = none := by kernel_rfl
theorem laidOut : laidOutB Tryz.prog = true := by kernel_rfl
/-- What a list gives, its tail gives. -/
theorem laid_tail {P : Program} {W : World} {x : String × DataW Unit} {rest : List (String × DataW Unit)} (h : laidMet P (x :: rest) W) : laidMet P rest W := by
  obtain ⟨n, d⟩ := x
  obtain ⟨ps, ⟨g, t, cs, fuel, p, q, _, _, _, _, hq, rfl⟩, hnd, hall⟩ := h
  exact ⟨q, hq, (List.nodup_append.1 hnd).2.1, fun b off hm => hall b off (List.mem_append_right _ hm)⟩
theorem plainL (W : World) : laidMetH Tryz.prog Rows.fnExactOffsetOfRow.laid W = laidMet Tryz.prog Rows.fnExactOffsetOfRow.laid W := Go.MakeChecks.laidMetH_plain _ _ _ (by kernel_rfl)
/-- What the row's list gives: the variable's cells hold the shapes. -/
theorem table {W : World} (h : laidMetH Tryz.prog Rows.fnExactOffsetOfRow.laid W) : Rel.Tab W := by
  rw [plainL] at h
  exact Rel.tab_of (laid_tail (laid_tail (laid_tail (laid_tail h))))

set_option maxRecDepth 100000 in
theorem lifted (os : Os) (started : os.Started) (H : Type) (enc : TypeId × Value → H) :
    ReturnsInHanded {} Tryz.checked os 4 .any (fun w args => (Rows.fnExactOffsetOfSpec.pre enc Tryz.prog Tryz.f4 Rows.fnExactOffsetOfRow.domain false w args ∧ laidMetH Tryz.prog Rows.fnExactOffsetOfRow.laid w) ∧ sizedMet enc Tryz.prog Tryz.f4 (OpenSpec.ofChange Rows.fnExactOffsetOfSpec) false w args)
      (Rows.fnExactOffsetOfSpec.post enc Tryz.prog Tryz.f4 false true false false) := by
  refine returnsInHanded_of_change_and (C := Tryz.checked) (X := fun w _ => laidMetH Tryz.prog Rows.fnExactOffsetOfRow.laid w) (fun _ _ _ hh h => h.of_heap hh) own started (by kernel_rfl) Tryz.func4
    (ChangeSpec.witness_shaped (enc := enc) (C := Tryz.checked) (os := os) (X := fun w _ => laidMetH Tryz.prog Rows.fnExactOffsetOfRow.laid w) false (World.laidAll Tryz.prog os Rows.fnExactOffsetOfRow.laid) #[.agg #[.slice none 0 0, .int .i64 0, .int .i64 0, .bool false, .slice none 0 0]] 8 (World.laidAll_os _ _ _)
      (World.shaped_of_ZipB (by kernel_rfl) (by kernel_rfl)) (by kernel_rfl) (by kernel_rfl) (by kernel_rfl)
      (by rw [plainL]; exact laidMet_laidAll _ (by kernel_rfl) (by kernel_rfl))) ?_
  intro W base args ds gs before hval0 hW hc _ hL _
  have hval : ∀ (j : Nat) t v, Tryz.f4.params[j]? = some t → args[j]? = some v → Value.okWide Tryz.prog W .any base t v := hval0
  have hW' := hW
  obtain ⟨p, q, hA0, hV, rfl, hfz, hnd⟩ := hW
  have hA : DataW.TrodAll enc Tryz.prog W 0 (fun _ => true) true Tryz.f4.params.toList args.toList ds p := hA0
  rw [Tryz.params4] at hA hval
  obtain ⟨v0, vs0, d0, ds0, p0, q0, hargs, rfl, rfl, h0, r0⟩ := trodAll_cons hA
  obtain ⟨rfl, rfl, rfl⟩ := trodAll_nil r0
  obtain rfl : args = #[v0] := by cases args; simp_all
  obtain ⟨g, t, cs, fuel, dg, pg, rfl, hg, ht, hvar, hd, rfl⟩ := trodVars_one hV
  obtain rfl := Option.some.inj (Rel.gTab.symm.trans hg)
  obtain rfl := Option.some.inj (Rel.gTabType.symm.trans ht)
  have k0 := h0
  have lt0 : ∀ x ∈ p0, x.block < W.heap.size := by obtain ⟨m, hm⟩ := k0; exact DataW.trod_lt m _ _ _ hm
  have ltg : ∀ x ∈ pg, x.block < W.heap.size := DataW.trod_lt fuel _ _ _ hd
  have kg : DataW.Trod enc Tryz.prog W 0 (fun _ => true) true 105 (.agg cs) dg pg := ⟨fuel, by
    have hd2 : DataW.trod enc Tryz.prog W 0 (fun _ => true) true fuel 105 cs.toList = some (dg, pg) := hd
    simpa [Value.cells] using hd2⟩
  obtain ⟨t0, rfl, q1, q2⟩ := Tgt.open_target (hval 0 25 v0 rfl rfl) h0
  have htab := table hL
  have h0lt : 0 < W.heap.size := htab.1
  clear hA0 hval0
  refine (Tgt.walk4 t0 W q1 q2 htab).mono fun e W' ⟨he, bel⟩ => ?_
  subst he
  obtain ⟨fu, hg'⟩ := Below.trod laidOut (by kernel_rfl) (of_decide_eq_true (by kernel_rfl)) kg bel ltg
  have hv' := trodVars_mk1 (enc := enc) (spare := fun b => decide (b < W.heap.size)) Rel.gTab Rel.gTabType (var?_below bel Rel.gTab h0lt hvar) (by simpa [Value.cells] using hg')
  exact ⟨_, rfl, _, _, _, [], _, _, hW', trodAll_mk1 (shut_bool Tryz.underlying4 _), (trodAll_cons_mk (Below.trod laidOut (by kernel_rfl) (of_decide_eq_true (by kernel_rfl)) k0 bel lt0) trodAll_mk0), hv', bel.frame _, fun h => by cases h⟩

theorem said : Rows.FnExactOffsetOfSaid :=
  OpenClaim.holds_of_wide 4 Tryz.f4 rfl rfl rfl rfl rfl rfl rfl ⟨rfl, rfl, rfl, rfl, rfl⟩ rfl rfl rfl rfl rfl (by kernel_rfl) Tryz.func4 (by kernel_rfl)
    (of_decide_eq_true (by kernel_rfl)) (by unfold Func.isWrapper; first | (rw [if_pos (by decide +kernel)]; kernel_rfl) | (rw [if_neg (by decide +kernel)]; exact ⟨rfl, rfl⟩))
    (fun os started H enc _ => lifted os started H enc)

theorem plain (f : FuncId) (fn : Func) (hf : Tryz.pinned.checked.prog.funcNamed "loop.example/g00039/laws.FnExactOffsetOf" = some f) (hfn : Tryz.pinned.checked.prog.funcs[f]? = some fn) :
    false = Tryz.pinned.checked.prog.looks [] ∧ ∀ (j : Nat) t, fn.params[j]? = some t → Tryz.pinned.checked.prog.wantsStandIn t = false := by
  obtain rfl : f = 4 := Option.some.inj ((show Tryz.prog.funcNamed "loop.example/g00039/laws.FnExactOffsetOf" = some 4 by kernel_rfl).symm.trans hf) |>.symm
  obtain rfl : fn = Tryz.f4 := (Option.some.inj (Tryz.func4.symm.trans hfn)).symm
  refine ⟨by kernel_rfl, fun j t ht => ?_⟩
  rw [Tryz.params4] at ht
  obtain rfl : t = 25 := by simpa using Array.mem_of_getElem? ht
  exact (show Tryz.prog.wantsStandIn 25 = false by kernel_rfl)
end Go.Proofs.YtooackaijhpohaaGreatDoor.fnExactOffsetOf
namespace Go.Proofs.YtooackaijhpohaaGreatDoor
theorem offsetOf_holds : Rows.FnExactOffsetOfCardSaid :=
  Claim7.holds_tied_plain_at .later [] _ _ _ _ fnExactOffsetOf.said (fun _ h => by cases h) (by kernel_rfl) (fun _ h => by cases h) fnExactOffsetOf_row_tie rfl ⟨rfl, rfl⟩ (by kernel_rfl) rfl fnExactOffsetOf.plain (by kernel_rfl)
end Go.Proofs.YtooackaijhpohaaGreatDoor
