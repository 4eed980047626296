/- The given card of FnExactGoodGroup holds: for every group of rules GoodGroup of the program (by its three tables and the library's table of blanks, which read as their texts lay them) answers as the model does; the call returns true and nothing that came in is written. -/
import Derived.Test.YtbdlahhejfamhaaGreatDoorCards
import Derived.Test.YtbdlahhejfamhaaGreatDoorTie
import Derived.WalkKit
import Derived.ProofKit
import Derived.OpenShut
import Derived.ShutString
import Derived.ChangeOld
import Derived.Below
import Derived.WalkSmall
import Derived.LaidMore
import Derived.Lay
import Derived.SevenTiedAt
import Derived.Stop.Joined
import Derived.MakeChecks
import Derived.Test.YtbdlahhejfamhaaGreatDoorRG5
import Derived.Test.YtbdlahhejfamhaaGreatDoorRQpt
namespace Go.Proofs.YtbdlahhejfamhaaGreatDoor.fnExactGoodGroup
open Go.ChangeShapes Go.WideShapes Go.ChangeAt Go.RowKit
set_option linter.unusedVariables false

theorem own : ownKnob Tryz.prog.godebug = none := by kernel_rfl
theorem laidOut : laidOutB Tryz.prog = true := by kernel_rfl
/-- What a list gives, its tail gives. -/
theorem laid_tail {P : Program} {W : World} {x : String × DataW Unit} {rest : List (String × DataW Unit)} (h : laidMet P (x :: rest) W) : laidMet P rest W := by
  obtain ⟨n, d⟩ := x
  obtain ⟨ps, ⟨g, t, cs, fuel, p, q, _, _, _, _, hq, rfl⟩, hnd, hall⟩ := h
  exact ⟨q, hq, (List.nodup_append.1 hnd).2.1, fun b off hm => hall b off (List.mem_append_right _ hm)⟩
theorem plainL (W : World) : laidMetH Tryz.prog Rows.fnExactGoodGroupRow.laid W = laidMet Tryz.prog Rows.fnExactGoodGroupRow.laid W := Go.MakeChecks.laidMetH_plain _ _ _ (by kernel_rfl)
theorem trodVars_three {H : Type} {enc : TypeId × Value → H} {P : Program} {w : World} {spare : Nat → Bool} {n0 n1 n2 : String} {gs : List (DataW H)} {ps : List MemPlace} (h : DataW.TrodVars enc P w spare [n0, n1, n2] gs ps) :
    ∃ g0 t0 cs0 f0 x0 e0 g1 t1 cs1 f1 x1 e1 g2 t2 cs2 f2 x2 e2, gs = [e0, e1, e2] ∧ P.globalNamed n0 = some g0 ∧ (P.globals[g0]?).map (·.type) = some t0 ∧ w.var? P n0 = some cs0 ∧ DataW.trod enc P w 0 spare true f0 t0 cs0.toList = some (e0, x0) ∧
      P.globalNamed n1 = some g1 ∧ (P.globals[g1]?).map (·.type) = some t1 ∧ w.var? P n1 = some cs1 ∧ DataW.trod enc P w 0 spare true f1 t1 cs1.toList = some (e1, x1) ∧
      P.globalNamed n2 = some g2 ∧ (P.globals[g2]?).map (·.type) = some t2 ∧ w.var? P n2 = some cs2 ∧ DataW.trod enc P w 0 spare true f2 t2 cs2.toList = some (e2, x2) ∧
      ps = MemPlace.row ⟨g0, 0, none⟩ cs0.size ++ x0 ++ (MemPlace.row ⟨g1, 0, none⟩ cs1.size ++ x1 ++ (MemPlace.row ⟨g2, 0, none⟩ cs2.size ++ x2 ++ [])) := by
  match gs, h with
  | [e0, e1, e2], ⟨g0, t0, cs0, f0, x0, q0, h1, h2, h3, h4, ⟨g1, t1, cs1, f1, x1, q1, h5, h6, h7, h8, ⟨g2, t2, cs2, f2, x2, q2, h9, h10, h11, h12, hn, hq2⟩, hq1⟩, hq0⟩ =>
    have hn' : q2 = [] := hn
    exact ⟨g0, t0, cs0, f0, x0, e0, g1, t1, cs1, f1, x1, e1, g2, t2, cs2, f2, x2, e2, rfl, h1, h2, h3, h4, h5, h6, h7, h8, h9, h10, h11, h12, by rw [hq0, hq1, hq2, hn']⟩
/-- What the row's list gives: all tables. -/
theorem tables {W : World} (h : laidMetH Tryz.prog Rows.fnExactGoodGroupRow.laid W) : Qry.Tabs W := by
  rw [plainL] at h
  have h1 := laid_tail h
  have h2 := laid_tail h1
  have h3 := laid_tail h2
  have h4 := laid_tail h3
  exact ⟨Qry.tabFn_of h4, Qry.tabAg_of h3, Qry.tabOp_of h2, Qry.tabSp_of h1⟩

set_option maxRecDepth 100000 in
theorem lifted (os : Os) (started : os.Started) (H : Type) (enc : TypeId × Value → H) :
    ReturnsInHanded {} Tryz.checked os 7 .any (fun w args => (Rows.fnExactGoodGroupSpec.pre enc Tryz.prog Tryz.f7 Rows.fnExactGoodGroupRow.domain false w args ∧ laidMetH Tryz.prog Rows.fnExactGoodGroupRow.laid w) ∧ sizedMet enc Tryz.prog Tryz.f7 (OpenSpec.ofChange Rows.fnExactGoodGroupSpec) false w args)
      (Rows.fnExactGoodGroupSpec.post enc Tryz.prog Tryz.f7 false true false false) := by
  refine returnsInHanded_of_change_and (C := Tryz.checked) (X := fun w _ => laidMetH Tryz.prog Rows.fnExactGoodGroupRow.laid w) (fun _ _ _ hh h => h.of_heap hh) own started (by kernel_rfl) Tryz.func7
    (ChangeSpec.witness_shaped (enc := enc) (C := Tryz.checked) (os := os) (X := fun w _ => laidMetH Tryz.prog Rows.fnExactGoodGroupRow.laid w) false (World.laidAll Tryz.prog os Rows.fnExactGoodGroupRow.laid) #[.agg #[.int .i64 0, .slice none 0 0]] 8 (World.laidAll_os _ _ _)
      (World.shaped_of_ZipB (by kernel_rfl) (by kernel_rfl)) (by kernel_rfl) (by kernel_rfl) (by kernel_rfl)
      (by rw [plainL]; exact laidMet_laidAll _ (by kernel_rfl) (by kernel_rfl))) ?_
  intro W base args ds gs before hval0 hW hc _ hL _
  have hval : ∀ (j : Nat) t v, Tryz.f7.params[j]? = some t → args[j]? = some v → Value.okWide Tryz.prog W .any base t v := hval0
  have hW' := hW
  obtain ⟨p, q, hA0, hV, rfl, hfz, hnd⟩ := hW
  have hA : DataW.TrodAll enc Tryz.prog W 0 (fun _ => true) true Tryz.f7.params.toList args.toList ds p := hA0
  rw [Tryz.params7] at hA hval
  obtain ⟨v0, vs0, d0, ds0, p0, q0, hargs, rfl, rfl, h0, r0⟩ := trodAll_cons hA
  obtain ⟨rfl, rfl, rfl⟩ := trodAll_nil r0
  obtain rfl : args = #[v0] := by cases args; simp_all
  obtain ⟨g0, t0, cs0, fu0, x0, e0, g1, t1, cs1, fu1, x1, e1, g2, t2, cs2, fu2, x2, e2, rfl, hg0, ht0, hvar0, hd0, hg1, ht1, hvar1, hd1, hg2, ht2, hvar2, hd2, rfl⟩ := trodVars_three hV
  obtain rfl := Option.some.inj (Qry.numFn.symm.trans hg0)
  obtain rfl := Option.some.inj (Qry.typeFn.symm.trans ht0)
  have ltg0 : ∀ x ∈ x0, x.block < W.heap.size := DataW.trod_lt fu0 _ _ _ hd0
  have kg0 : DataW.Trod enc Tryz.prog W 0 (fun _ => true) true 169 (.agg cs0) e0 x0 := ⟨fu0, by
    have hd' : DataW.trod enc Tryz.prog W 0 (fun _ => true) true fu0 169 cs0.toList = some (e0, x0) := hd0
    simpa [Value.cells] using hd'⟩
  obtain rfl := Option.some.inj (Qry.numAg.symm.trans hg1)
  obtain rfl := Option.some.inj (Qry.typeAg.symm.trans ht1)
  have ltg1 : ∀ x ∈ x1, x.block < W.heap.size := DataW.trod_lt fu1 _ _ _ hd1
  have kg1 : DataW.Trod enc Tryz.prog W 0 (fun _ => true) true 126 (.agg cs1) e1 x1 := ⟨fu1, by
    have hd' : DataW.trod enc Tryz.prog W 0 (fun _ => true) true fu1 126 cs1.toList = some (e1, x1) := hd1
    simpa [Value.cells] using hd'⟩
  obtain rfl := Option.some.inj (Qry.numOp.symm.trans hg2)
  obtain rfl := Option.some.inj (Qry.typeOp.symm.trans ht2)
  have ltg2 : ∀ x ∈ x2, x.block < W.heap.size := DataW.trod_lt fu2 _ _ _ hd2
  have kg2 : DataW.Trod enc Tryz.prog W 0 (fun _ => true) true 167 (.agg cs2) e2 x2 := ⟨fu2, by
    have hd' : DataW.trod enc Tryz.prog W 0 (fun _ => true) true fu2 167 cs2.toList = some (e2, x2) := hd2
    simpa [Value.cells] using hd'⟩
  have k0 := h0
  have lt0 : ∀ x ∈ p0, x.block < W.heap.size := by obtain ⟨m, hm⟩ := k0; exact DataW.trod_lt m _ _ _ hm
  obtain ⟨cg, rfl, hr0, hf0⟩ := Grp.open_conf (hval 0 39 v0 rfl rfl) h0
  have htab := tables hL
  clear hA0 hval0
  refine (Grp.walkGroup cg W hr0 hf0 htab).mono fun e W' ⟨he, bel⟩ => ?_
  subst he
  obtain ⟨fw0, hg0'⟩ := Below.trod laidOut (by kernel_rfl) (of_decide_eq_true (by kernel_rfl)) kg0 bel ltg0
  obtain ⟨fw1, hg1'⟩ := Below.trod laidOut (by kernel_rfl) (of_decide_eq_true (by kernel_rfl)) kg1 bel ltg1
  obtain ⟨fw2, hg2'⟩ := Below.trod laidOut (by kernel_rfl) (of_decide_eq_true (by kernel_rfl)) kg2 bel ltg2
  have hv' : DataW.TrodVars enc Tryz.prog W' (fun b => decide (b < W.heap.size)) ["loop.example/g00039/impl.functionShapes", "loop.example/g00039/impl.aggShapes", "loop.example/g00039/impl.opShapes"] [e0, e1, e2] _ := ⟨_, _, _, _, _, _, Qry.numFn, Qry.typeFn, var?_below bel Qry.numFn htab.fn.1 hvar0, (by simpa [Value.cells] using hg0'), ⟨_, _, _, _, _, _, Qry.numAg, Qry.typeAg, var?_below bel Qry.numAg htab.ag.1 hvar1, (by simpa [Value.cells] using hg1'), ⟨_, _, _, _, _, _, Qry.numOp, Qry.typeOp, var?_below bel Qry.numOp htab.op.1 hvar2, (by simpa [Value.cells] using hg2'), rfl, rfl⟩, rfl⟩, rfl⟩
  exact ⟨_, rfl, _, _, _, [], _, _, hW', trodAll_mk1 (shut_bool Tryz.underlying4 _), (trodAll_cons_mk (Below.trod laidOut (by kernel_rfl) (of_decide_eq_true (by kernel_rfl)) k0 bel lt0) trodAll_mk0), hv', bel.frame _, fun h => by cases h⟩

theorem said : Rows.FnExactGoodGroupSaid :=
  OpenClaim.holds_of_wide 7 Tryz.f7 rfl rfl rfl rfl rfl rfl rfl ⟨rfl, rfl, rfl, rfl, rfl⟩ rfl rfl rfl rfl rfl (by kernel_rfl) Tryz.func7 (by kernel_rfl)
    (of_decide_eq_true (by kernel_rfl)) (by unfold Func.isWrapper; first | (rw [if_pos (by decide +kernel)]; kernel_rfl) | (rw [if_neg (by decide +kernel)]; exact ⟨rfl, rfl⟩))
    (fun os started H enc _ => lifted os started H enc)

theorem plain (f : FuncId) (fn : Func) (hf : Tryz.pinned.checked.prog.funcNamed "loop.example/g00039/laws.FnExactGoodGroup" = some f) (hfn : Tryz.pinned.checked.prog.funcs[f]? = some fn) :
    true = Tryz.pinned.checked.prog.looks [] ∧ ∀ (j : Nat) t, fn.params[j]? = some t → Tryz.pinned.checked.prog.wantsStandIn t = false := by
  obtain rfl : f = 7 := Option.some.inj ((show Tryz.prog.funcNamed "loop.example/g00039/laws.FnExactGoodGroup" = some 7 by kernel_rfl).symm.trans hf) |>.symm
  obtain rfl : fn = Tryz.f7 := (Option.some.inj (Tryz.func7.symm.trans hfn)).symm
  refine ⟨by kernel_rfl, fun j t ht => ?_⟩
  rw [Tryz.params7] at ht
  obtain rfl : t = 39 := by simpa using Array.mem_of_getElem? ht
  exact (show Tryz.prog.wantsStandIn 39 = false by kernel_rfl)
end Go.Proofs.YtbdlahhejfamhaaGreatDoor.fnExactGoodGroup
namespace Go.Proofs.YtbdlahhejfamhaaGreatDoor
theorem goodGroup_holds : Rows.FnExactGoodGroupCardSaid :=
  Claim7.holds_tied_plain_at .later [] _ _ _ _ fnExactGoodGroup.said (fun _ h => by cases h) (by kernel_rfl) (fun _ h => by cases h) fnExactGoodGroup_row_tie rfl ⟨rfl, rfl⟩ (by kernel_rfl) rfl fnExactGoodGroup.plain (by kernel_rfl)
end Go.Proofs.YtbdlahhejfamhaaGreatDoor
