/- The given card of FnExactReadRelabel holds: for every text ReadRelabel of the program (by its table of shapes, the library's table of powers of ten and its two errors, which read as their texts lay them) answers as the model does, at a second call too; its answer owns its memory; the call returns true and the text is as it was. -/
import Derived.Test.YtbijhkbmgljjiaaGreatDoorCards
import Derived.Test.YtbijhkbmgljjiaaGreatDoorTie
import Derived.WalkKit
import Derived.ProofKit
import Derived.OpenShut
import Derived.ShutString
import Derived.ChangeOld
import Derived.Below
import Derived.WalkSmall
import Derived.Deep.DeepHandedRow
import Derived.Test.YtbijhkbmgljjiaaGreatDoorWc
import Derived.MakeChecks
import Derived.Stop.LaidErr
import Derived.Test.YtbijhkbmgljjiaaGreatDoorTb
namespace Go.Proofs.YtbijhkbmgljjiaaGreatDoor.fnExactReadRelabel
open Go.ChangeShapes Go.WideShapes Go.ChangeAt Go.RowKit
open Go.ChangeMaps (open_string shut_string)
set_option linter.unusedVariables false

theorem own : ownKnob Tryz.prog.godebug = none := by kernel_rfl
theorem laidOut : laidOutB Tryz.prog = true := by kernel_rfl
/-- What a list gives, its tail gives. -/
theorem laid_tail {P : Program} {W : World} {x : String × DataW Unit} {rest : List (String × DataW Unit)} (h : laidMet P (x :: rest) W) : laidMet P rest W := by
  obtain ⟨n, d⟩ := x
  obtain ⟨ps, ⟨g, t, cs, fuel, p, q, _, _, _, _, hq, rfl⟩, hnd, hall⟩ := h
  exact ⟨q, hq, (List.nodup_append.1 hnd).2.1, fun b off hm => hall b off (List.mem_append_right _ hm)⟩
theorem gPowType : (Tryz.prog.globals[4]?).map (·.type) = some 115 := by kernel_rfl
theorem cellsPow : Tryz.prog.cellsOf 115 = 20 := by kernel_rfl
theorem cellsU64 : Tryz.prog.cellsOf 102 = 1 := by kernel_rfl
theorem gES : Tryz.prog.globalNamed "strconv.ErrSyntax" = some 1 := by kernel_rfl
theorem gESType : (Tryz.prog.globals[1]?).map (·.type) = some 67 := by kernel_rfl
theorem gER : Tryz.prog.globalNamed "strconv.ErrRange" = some 2 := by kernel_rfl
theorem gERType : (Tryz.prog.globals[2]?).map (·.type) = some 67 := by kernel_rfl
theorem cells122 : Tryz.prog.cellsOf 123 = 1 := by kernel_rfl
theorem cells9 : Tryz.prog.cellsOf 9 = 1 := by kernel_rfl
theorem star : "*" ++ "errors.errorString" = "*errors.errorString" := by decide
/-- The one type of that name. -/
theorem row120 (u : TypeId) (h : Tryz.prog.typeName? 3 u = some "*errors.errorString") : u = 121 :=
  typeName_ptr_named (nm := "errors.errorString") (by rw [star]; kernel_rfl) (by kernel_rfl) (by decide) u (by rw [star]; exact h)
theorem plainL (W : World) : laidMetH Tryz.prog Rows.fnExactReadRelabelRow.laid W = laidMet Tryz.prog Rows.fnExactReadRelabelRow.laid W := Go.MakeChecks.laidMetH_plain _ _ _ (by kernel_rfl)
theorem powData : (Rows.laid_internal_strconv_uint64pow10 : DataW Unit) = Lib.tabData .u64 Lib.pow10Tab := by rfl
/-- What the row's list gives: the variable's cells hold the shapes. -/
theorem table {W : World} (h : laidMetH Tryz.prog Rows.fnExactReadRelabelRow.laid W) : Rel.Tab W := by
  rw [plainL] at h
  exact Rel.tab_of (rest := []) (laid_tail (laid_tail (laid_tail (laid_tail (laid_tail h)))))
theorem powers {W : World} (h : laidMetH Tryz.prog Rows.fnExactReadRelabelRow.laid W) : Rel.Pow W := by
  rw [plainL] at h
  have h2 := laid_tail (laid_tail h)
  have h3 : laidMet Tryz.prog (("internal/strconv.uint64pow10", Lib.tabData .u64 Lib.pow10Tab) :: [("strconv.ErrRange", Rows.laid_strconv_ErrRange), ("strconv.ErrSyntax", Rows.laid_strconv_ErrSyntax), ("loop.example/g00039/impl.relabelShapes", Rows.laid_loop_example_g00039_impl_relabelShapes)]) W := by rw [← powData]; exact h2
  have h4 := Lib.tabIs_of_head Rel.gPow gPowType Tryz.underlying115 Tryz.underlying102 cellsU64 cellsPow h3
  exact ⟨World.block_lt_of_cell? W ⟨4, 0, none⟩ (Lib.TabIs.cell h4 Rel.gPow 0 (by decide)), h4⟩
theorem errors {W : World} (h : laidMetH Tryz.prog Rows.fnExactReadRelabelRow.laid W) : Rel.Ers W := by
  rw [plainL] at h
  have hr := laid_tail (laid_tail (laid_tail h))
  have hs := laid_tail hr
  obtain ⟨a0, s0, hv0, -, -, -⟩ := laid_sentinel hr gER gERType Tryz.underlying67 row120 Tryz.underlying121 Tryz.underlying123 rfl rfl Tryz.underlying9 cells122 cells9
  obtain ⟨a1, s1, hv1, -, -, -⟩ := laid_sentinel hs gES gESType Tryz.underlying67 row120 Tryz.underlying121 Tryz.underlying123 rfl rfl Tryz.underlying9 cells122 cells9
  have c2 : W.cell? ⟨2, 0, none⟩ = some (.iface 121 (.pointer (some a0))) := by have h0 := World.var?_cell gER hv0 0; simpa using h0
  have c1 : W.cell? ⟨1, 0, none⟩ = some (.iface 121 (.pointer (some a1))) := by have h0 := World.var?_cell gES hv1 0; simpa using h0
  exact ⟨World.block_lt_of_cell? W ⟨2, 0, none⟩ c2, ⟨_, _, c1⟩, _, _, c2⟩

set_option maxRecDepth 100000 in
theorem contract (H : Type) (enc : TypeId × Value → H) (W : World) (base : Nat) (args : Array Value) (ds gs : List (DataW H)) (before : List MemPlace)
    (hval : ∀ (j : Nat) t v, Tryz.f3.params[j]? = some t → args[j]? = some v → Value.okWide Tryz.prog W .any base t v)
    (hW : DataW.Whole enc Tryz.prog Tryz.f3.params.toList Rows.fnExactReadRelabelSpec.vars false W args.toList ds gs before) (hL : laidMetH Tryz.prog Rows.fnExactReadRelabelRow.laid W) :
    Calls Tryz.prog 3 args W fun e W' => ∃ v, e = .returned v ∧ Rows.fnExactReadRelabelSpec.post enc Tryz.prog Tryz.f3 false true false false W args v W' := by
  have hW' := hW
  obtain ⟨p, q, hA0, hV, rfl, hfz, hnd⟩ := hW
  have hA : DataW.TrodAll enc Tryz.prog W 0 (fun _ => true) true Tryz.f3.params.toList args.toList ds p := hA0
  rw [Tryz.params3] at hA hval
  obtain ⟨v0, vs0, d0, ds0, p0, q0, hargs, rfl, rfl, h0, r0⟩ := trodAll_cons hA
  obtain ⟨rfl, rfl, rfl⟩ := trodAll_nil r0
  obtain rfl : args = #[v0] := by cases args; simp_all
  obtain ⟨g, t, cs, fuel, dg, pg, rfl, hg, ht, hvar, hd, rfl⟩ := trodVars_one hV
  obtain rfl := Option.some.inj (Rel.gTab.symm.trans hg)
  obtain rfl := Option.some.inj (Rel.gTabType.symm.trans ht)
  have k0 := h0
  have lt0 : ∀ x ∈ p0, x.block < W.heap.size := by obtain ⟨m, hm⟩ := k0; exact DataW.trod_lt m _ _ _ hm
  have ltg : ∀ x ∈ pg, x.block < W.heap.size := DataW.trod_lt fuel _ _ _ hd
  have kg : DataW.Trod enc Tryz.prog W 0 (fun _ => true) true 58 (.agg cs) dg pg := ⟨fuel, by simpa [Value.cells] using hd⟩
  obtain ⟨s0, rfl, _, _, ws0⟩ := open_string Tryz.underlying9 (hval 0 9 v0 rfl rfl) h0
  have htab := table hL
  have h0lt : 0 < W.heap.size := htab.1
  clear hA0
  refine (Rdd.walk3 s0 W ws0 ⟨htab, powers hL, errors hL⟩).mono fun e W' ⟨he, bel⟩ => ?_
  subst he
  obtain ⟨fu, hg'⟩ := Below.trod laidOut (by kernel_rfl) (of_decide_eq_true (by kernel_rfl)) kg bel ltg
  have hv' := trodVars_mk1 (enc := enc) (spare := fun b => decide (b < W.heap.size)) Rel.gTab Rel.gTabType (var?_below bel Rel.gTab h0lt hvar) (by simpa [Value.cells] using hg')
  exact ⟨_, rfl, _, _, _, [], _, _, hW', trodAll_mk1 (shut_bool Tryz.underlying4 _), (trodAll_cons_mk (Below.trod laidOut (by kernel_rfl) (of_decide_eq_true (by kernel_rfl)) k0 bel lt0) trodAll_mk0), hv', bel.frame _, fun h => by cases h⟩

noncomputable def low : Nat := (World.holding Tryz.prog default ⟨#[], #[], []⟩).heap.size
/-- One start that fits: the variables as their texts lay them. -/
noncomputable def laidWorld (os : Os) : World :=
  let w0 := World.holding Tryz.prog os ⟨#[.cells #[.string ⟨#[105, 110, 118, 97, 108, 105, 100, 32, 115, 121, 110, 116, 97, 120]⟩] 123, .cells #[.string ⟨#[118, 97, 108, 117, 101, 32, 111, 117, 116, 32, 111, 102, 32, 114, 97, 110, 103, 101]⟩] 123], #[], []⟩
  { w0 with heap := (((((w0.heap.modify 0 (fun | .cells _ t frozen => .cells #[.string ⟨#[]⟩, .bool false, .bool false, .bool false, .bool false, .bool false, .string ⟨#[107, 101, 101, 112]⟩, .bool true, .bool true, .bool false, .bool false, .bool false, .string ⟨#[100, 114, 111, 112]⟩, .bool true, .bool true, .bool false, .bool false, .bool false, .string ⟨#[115, 101, 116]⟩, .bool true, .bool true, .bool true, .bool true, .bool false, .string ⟨#[109, 111, 100]⟩, .bool true, .bool false, .bool true, .bool false, .bool true, .string ⟨#[109, 97, 112]⟩, .bool false, .bool true, .bool false, .bool true, .bool false, .string ⟨#[107, 101, 101, 112, 110, 97, 109, 101, 115]⟩, .bool false, .bool true, .bool false, .bool false, .bool false, .string ⟨#[100, 114, 111, 112, 110, 97, 109, 101, 115]⟩, .bool false, .bool true, .bool false, .bool false, .bool false, .string ⟨#[108, 111, 119, 101, 114]⟩, .bool true, .bool false, .bool true, .bool false, .bool false] t frozen | o => o)).modify 1 (fun | .cells _ t frozen => .cells #[.iface 121 (.pointer (some ⟨low, 0, none⟩))] t frozen | o => o)).modify 2 (fun | .cells _ t frozen => .cells #[.iface 121 (.pointer (some ⟨low + 1, 0, none⟩))] t frozen | o => o)).modify 4 (fun | .cells _ t frozen => .cells #[.int .u64 1, .int .u64 10, .int .u64 100, .int .u64 1000, .int .u64 10000, .int .u64 100000, .int .u64 1000000, .int .u64 10000000, .int .u64 100000000, .int .u64 1000000000, .int .u64 10000000000, .int .u64 100000000000, .int .u64 1000000000000, .int .u64 10000000000000, .int .u64 100000000000000, .int .u64 1000000000000000, .int .u64 10000000000000000, .int .u64 100000000000000000, .int .u64 1000000000000000000, .int .u64 10000000000000000000] t frozen | o => o)).modify 5 (fun | .cells _ t frozen => .cells #[.int .u8 0, .int .u8 1, .int .u8 28, .int .u8 2, .int .u8 29, .int .u8 14, .int .u8 24, .int .u8 3, .int .u8 30, .int .u8 22, .int .u8 20, .int .u8 15, .int .u8 25, .int .u8 17, .int .u8 4, .int .u8 8, .int .u8 31, .int .u8 27, .int .u8 13, .int .u8 23, .int .u8 21, .int .u8 19, .int .u8 16, .int .u8 7, .int .u8 26, .int .u8 12, .int .u8 18, .int .u8 6, .int .u8 11, .int .u8 5, .int .u8 10, .int .u8 9] t frozen | o => o)).modify 6 (fun | .cells _ t frozen => .cells #[.int .u8 0, .int .u8 1, .int .u8 56, .int .u8 2, .int .u8 57, .int .u8 49, .int .u8 28, .int .u8 3, .int .u8 61, .int .u8 58, .int .u8 42, .int .u8 50, .int .u8 38, .int .u8 29, .int .u8 17, .int .u8 4, .int .u8 62, .int .u8 47, .int .u8 59, .int .u8 36, .int .u8 45, .int .u8 43, .int .u8 51, .int .u8 22, .int .u8 53, .int .u8 39, .int .u8 33, .int .u8 30, .int .u8 24, .int .u8 18, .int .u8 12, .int .u8 5, .int .u8 63, .int .u8 55, .int .u8 48, .int .u8 27, .int .u8 60, .int .u8 41, .int .u8 37, .int .u8 16, .int .u8 46, .int .u8 35, .int .u8 44, .int .u8 21, .int .u8 52, .int .u8 32, .int .u8 23, .int .u8 11, .int .u8 54, .int .u8 26, .int .u8 40, .int .u8 15, .int .u8 34, .int .u8 20, .int .u8 31, .int .u8 10, .int .u8 25, .int .u8 14, .int .u8 19, .int .u8 9, .int .u8 13, .int .u8 8, .int .u8 7, .int .u8 6] t frozen | o => o) }
set_option maxRecDepth 100000 in
theorem laid_met (os : Os) : laidMet Tryz.prog Rows.fnExactReadRelabelRow.laid ((laidWorld os).forCall (fun _ _ => 0) ⟨#[], #[.string ByteArray.empty], []⟩).memory :=
  laidMet_of_run' 8 (by kernel_rfl) (by kernel_rfl)
set_option maxRecDepth 100000 in
theorem reads (os : Os) {H : Type} (enc : TypeId × Value → H) : ∃ gs places, DataW.whole enc Tryz.prog ((laidWorld os).forCall (fun _ _ => 0) ⟨#[], #[.string ByteArray.empty], []⟩).memory Tryz.f3.params.toList Rows.fnExactReadRelabelSpec.vars false #[Value.string ByteArray.empty].toList 8 = some ([.lit (.string [])], gs, places) :=
  ⟨[.agg [.agg [.lit (.string []), .lit (.bool false), .lit (.bool false), .lit (.bool false), .lit (.bool false), .lit (.bool false)], .agg [.lit (.string [107, 101, 101, 112]), .lit (.bool true), .lit (.bool true), .lit (.bool false), .lit (.bool false), .lit (.bool false)], .agg [.lit (.string [100, 114, 111, 112]), .lit (.bool true), .lit (.bool true), .lit (.bool false), .lit (.bool false), .lit (.bool false)], .agg [.lit (.string [115, 101, 116]), .lit (.bool true), .lit (.bool true), .lit (.bool true), .lit (.bool true), .lit (.bool false)], .agg [.lit (.string [109, 111, 100]), .lit (.bool true), .lit (.bool false), .lit (.bool true), .lit (.bool false), .lit (.bool true)], .agg [.lit (.string [109, 97, 112]), .lit (.bool false), .lit (.bool true), .lit (.bool false), .lit (.bool true), .lit (.bool false)], .agg [.lit (.string [107, 101, 101, 112, 110, 97, 109, 101, 115]), .lit (.bool false), .lit (.bool true), .lit (.bool false), .lit (.bool false), .lit (.bool false)], .agg [.lit (.string [100, 114, 111, 112, 110, 97, 109, 101, 115]), .lit (.bool false), .lit (.bool true), .lit (.bool false), .lit (.bool false), .lit (.bool false)], .agg [.lit (.string [108, 111, 119, 101, 114]), .lit (.bool true), .lit (.bool false), .lit (.bool true), .lit (.bool false), .lit (.bool false)]]], [.cell 0 0, .cell 0 1, .cell 0 2, .cell 0 3, .cell 0 4, .cell 0 5, .cell 0 6, .cell 0 7, .cell 0 8, .cell 0 9, .cell 0 10, .cell 0 11, .cell 0 12, .cell 0 13, .cell 0 14, .cell 0 15, .cell 0 16, .cell 0 17, .cell 0 18, .cell 0 19, .cell 0 20, .cell 0 21, .cell 0 22, .cell 0 23, .cell 0 24, .cell 0 25, .cell 0 26, .cell 0 27, .cell 0 28, .cell 0 29, .cell 0 30, .cell 0 31, .cell 0 32, .cell 0 33, .cell 0 34, .cell 0 35, .cell 0 36, .cell 0 37, .cell 0 38, .cell 0 39, .cell 0 40, .cell 0 41, .cell 0 42, .cell 0 43, .cell 0 44, .cell 0 45, .cell 0 46, .cell 0 47, .cell 0 48, .cell 0 49, .cell 0 50, .cell 0 51, .cell 0 52, .cell 0 53], by kernel_rfl⟩

set_option maxRecDepth 100000 in
theorem lifted (os : Os) (started : os.Started) (H : Type) (enc : TypeId × Value → H) (F : Stop.Interp) :
    ReturnsInHanded {} Tryz.checked os 3 .any ((OpenSpec.ofChange Rows.fnExactReadRelabelSpec).preRow enc Tryz.prog Tryz.f3 Rows.fnExactReadRelabelRow.domain false Rows.fnExactReadRelabelRow.laid) (((OpenSpec.ofChange Rows.fnExactReadRelabelSpec).at F).post enc Tryz.prog Tryz.f3 false true false false) := by
  obtain ⟨gs, places, hx⟩ := reads os enc
  refine returnsInHanded_of_row (C := Tryz.checked) (s := OpenSpec.ofChange Rows.fnExactReadRelabelSpec) own started (by kernel_rfl) Tryz.func3
    (witness_row_at (enc := enc) (C := Tryz.checked) false (laidWorld os) #[.string ByteArray.empty] rfl (by kernel_rfl) (by kernel_rfl) (by kernel_rfl)
      (OpenSpec.preRow_of_cond 8 hx (by kernel_rfl) (fun k hk => by cases hk) (by kernel_rfl) (laid_met os))) ?_
  intro W base args ds gs before hval hW _ _ _ hL _ _
  exact contract H enc W base args ds gs before hval hW hL

theorem said : Rows.FnExactReadRelabelSaid :=
  OpenClaim.holds_of_cond 3 Tryz.f3 rfl rfl rfl rfl rfl rfl rfl ⟨rfl, rfl, rfl, rfl, rfl⟩ rfl rfl rfl rfl rfl (by kernel_rfl) Tryz.func3 (by kernel_rfl)
    (of_decide_eq_true (by kernel_rfl)) (by unfold Func.isWrapper; first | (rw [if_pos (by decide +kernel)]; kernel_rfl) | (rw [if_neg (by decide +kernel)]; exact ⟨rfl, rfl⟩))
    (fun os started H enc _ F => by rw [OpenClaim.pre_eq_preRow]; exact lifted os started H enc F)

theorem plain (f : FuncId) (fn : Func) (hf : Tryz.pinned.checked.prog.funcNamed "loop.example/g00039/laws.FnExactReadRelabel" = some f) (hfn : Tryz.pinned.checked.prog.funcs[f]? = some fn) :
    true = Tryz.pinned.checked.prog.looks [] ∧ ∀ (j : Nat) t, fn.params[j]? = some t → Tryz.pinned.checked.prog.wantsStandIn t = false := by
  obtain rfl : f = 3 := Option.some.inj ((show Tryz.prog.funcNamed "loop.example/g00039/laws.FnExactReadRelabel" = some 3 by kernel_rfl).symm.trans hf) |>.symm
  obtain rfl : fn = Tryz.f3 := (Option.some.inj (Tryz.func3.symm.trans hfn)).symm
  refine ⟨by kernel_rfl, fun j t ht => ?_⟩
  rw [Tryz.params3] at ht
  obtain rfl : t = 9 := by simpa using Array.mem_of_getElem? ht
  exact (show Tryz.prog.wantsStandIn 9 = false by kernel_rfl)
end Go.Proofs.YtbijhkbmgljjiaaGreatDoor.fnExactReadRelabel
namespace Go.Proofs.YtbijhkbmgljjiaaGreatDoor
theorem readRelabel_holds : Rows.FnExactReadRelabelCardSaid :=
  Claim7.holds_tied_plain_at .later [] _ _ _ _ fnExactReadRelabel.said (fun _ h => by cases h) (by kernel_rfl) (fun _ h => by cases h) fnExactReadRelabel_row_tie rfl ⟨rfl, rfl⟩ (by kernel_rfl) rfl fnExactReadRelabel.plain (by kernel_rfl)
end Go.Proofs.YtbijhkbmgljjiaaGreatDoor
