/- The variables bendClasses and deBruijn64tab: what their cells hold where they read as their text lays them. -/
import Derived.Test.YteblbcbfaomdmaaDoorVb
import Derived.Test.YteblbcbfaomdmaaDoorRows
import Derived.OpenShut
import Derived.ChangeArms
import Derived.Lib.LaidTab
import Derived.Deep.SlicePairs
namespace Go.Proofs.YteblbcbfaomdmaaDoor.Chk
open Go.ChangeShapes Go.WideShapes Go.ChangeAt Go.RowKit Go.Deep Go.Lib

noncomputable def fs98 : Array Field := match Tryd.prog.underlying 98 with | some (.struct fs) => fs | _ => #[]
theorem u98 : Tryd.prog.underlying 98 = some (.struct fs98) := by kernel_rfl
theorem u105 : Tryd.prog.underlying 105 = some (.array 5 98) := by kernel_rfl
theorem c98 : Tryd.prog.cellsOf 98 = 4 := by kernel_rfl
theorem c3 : Tryd.prog.cellsOf 3 = 1 := by kernel_rfl
theorem f98 : ∀ i, i < 4 → ∃ f : Field, fs98[i]? = some f ∧ f.type = 3 ∧ f.offset = i := by
  have key : ∀ i, (fs98[i]?).map (fun f : Field => (f.type, f.offset)) = some (3, i) → ∃ f : Field, fs98[i]? = some f ∧ f.type = 3 ∧ f.offset = i := by
    intro i h
    obtain ⟨f, hf, he⟩ := Option.map_eq_some_iff.1 h
    simp only [Prod.mk.injEq] at he
    exact ⟨f, hf, he.1, he.2⟩
  intro i hi
  match i, hi with
  | 0, _ => exact key 0 (by kernel_rfl)
  | 1, _ => exact key 1 (by kernel_rfl)
  | 2, _ => exact key 2 (by kernel_rfl)
  | 3, _ => exact key 3 (by kernel_rfl)
theorem cls_cell {H : Type} {enc : TypeId × Value → H} {W : World} {base : Nat} {sp : Nat → Bool} {held : Bool} {n : Nat} {l : List Value} {zs : List Int} {p : List MemPlace}
    (h : DataW.trod enc Tryd.prog W base sp held n 98 l = some (.agg (zs.map fun z => .lit (.int .i64 z)), p)) (i : Nat) (hi : i < 4) {z : Int} (hz : zs[i]? = some z) : l[i]? = some (.int .i64 z) := by
  obtain ⟨xs, m, _, hx, hl, hlen, hg⟩ := DataW.trod_struct u98 h
  obtain ⟨f, hf, ht, ho⟩ := f98 i hi
  have g := hg i f hf
  rw [ht, ho, c3] at g
  have hxs : zs.map (fun z => (DataW.lit (.int .i64 z) : DataW H)) = xs.map (·.1) := by
    have := congrArg Prod.fst hx
    simpa using this
  have h2 : (xs.map (·.1))[i]? = some (DataW.lit (.int .i64 z)) := by rw [← hxs]; simp [hz]
  rw [List.getElem?_map, Option.map_eq_some_iff] at h2
  obtain ⟨y, hy, hy1⟩ := h2
  rw [hy] at g
  obtain ⟨z', hc, hx', _⟩ := DataW.trod_int Tryd.underlying3 g
  rw [hx'] at hy1
  simp at hy1
  have := congrArg (·[0]?) hc
  simp [List.getElem?_drop] at this
  rw [this, hy1]
theorem laid_cls {H : Type} : (Rows.laid_loop_example_g00039_impl_bendClasses : DataW H) = .agg (clsT.map fun q => .agg ([q.1, q.2.1, q.2.2.1, q.2.2.2].map fun z => .lit (.int .i64 z))) := rfl
theorem cls_cells {H : Type} {enc : TypeId × Value → H} {W : World} {base : Nat} {sp : Nat → Bool} {held : Bool} {n : Nat} {cs : List Value} {p : List MemPlace}
    (h : DataW.trod enc Tryd.prog W base sp held n 105 cs = some (Rows.laid_loop_example_g00039_impl_bendClasses, p)) (i j : Nat) (hi : i < 5) (hj : j < 4) {z : Int} (hz : [(cls i).1, (cls i).2.1, (cls i).2.2.1, (cls i).2.2.2][j]? = some z) : cs[i * 4 + j]? = some (.int .i64 z) := by
  rw [laid_cls] at h
  obtain ⟨xs, m, _, hx, hl, hlen, hg⟩ := DataW.trod_array u105 h
  have g := hg i hi
  rw [c98] at g
  have hxs : clsT.map (fun q => (DataW.agg ([q.1, q.2.1, q.2.2.1, q.2.2.2].map fun z => .lit (.int .i64 z)) : DataW H)) = xs.map (·.1) := by
    have := congrArg Prod.fst hx
    simpa using this
  have hq : clsT[i]? = some (cls i) := by
    unfold cls
    rw [List.getD_eq_getElem?_getD, List.getElem?_eq_getElem (show i < clsT.length from hi)]
    rfl
  have h2 : (xs.map (·.1))[i]? = some (DataW.agg ([(cls i).1, (cls i).2.1, (cls i).2.2.1, (cls i).2.2.2].map fun z => .lit (.int .i64 z))) := by rw [← hxs, List.getElem?_map, hq]; rfl
  rw [List.getElem?_map, Option.map_eq_some_iff] at h2
  obtain ⟨y, hy, hy1⟩ := h2
  rw [hy, show y = (y.1, y.2) from rfl, hy1] at g
  have := cls_cell g j hj hz
  rw [List.getElem?_take, if_pos hj, List.getElem?_drop] at this
  exact this
theorem gCls : Tryd.prog.globalNamed "loop.example/g00039/impl.bendClasses" = some 0 := by kernel_rfl
theorem gClsType : (Tryd.prog.globals[0]?).map (·.type) = some 105 := by kernel_rfl
theorem cls_of {W : World} {rest : List (String × DataW Unit)} (h : laidMet Tryd.prog (("loop.example/g00039/impl.bendClasses", Rows.laid_loop_example_g00039_impl_bendClasses) :: rest) W) : Cls W := by
  obtain ⟨ps, ⟨g', t', cs, fuel, p, q, hg', ht', hvar, hd, _, _⟩, _⟩ := h
  obtain rfl := Option.some.inj (gCls.symm.trans hg')
  obtain rfl := Option.some.inj (gClsType.symm.trans ht')
  have key : ∀ i j, i < 5 → j < 4 → ∀ z, [(cls i).1, (cls i).2.1, (cls i).2.2.1, (cls i).2.2.2][j]? = some z → W.cell? ⟨0, i * 4 + j, none⟩ = some (.int .i64 z) := by
    intro i j hi hj z hz
    have h1 := World.var?_cell gCls hvar (i * 4 + j)
    rw [h1, ← cls_cells hd i j hi hj hz]
    simp
  exact fun i hi => ⟨key i 0 hi (by omega) _ rfl, key i 1 hi (by omega) _ rfl, key i 2 hi (by omega) _ rfl, key i 3 hi (by omega) _ rfl⟩
theorem tab_of {W : World} {rest : List (String × DataW Unit)} (h : laidMet Tryd.prog (("math/bits.deBruijn64tab", Rows.laid_math_bits_deBruijn64tab) :: rest) W) : Tab W := by
  have t := tabIs_of_head (k := .u8) (zs := Lib.deBruijn64tab.map fun n : Nat => (n : Int)) (g := 1) (t := 108) (e := 5) (n := 64) (by kernel_rfl) (by kernel_rfl) (by kernel_rfl) (by kernel_rfl) (by kernel_rfl) (by kernel_rfl) h
  intro j hj
  have c := t.cell (g := 1) (by kernel_rfl) j (by rw [List.length_map]; exact hj)
  rw [c]
  congr 2
  rw [List.getD_eq_getElem?_getD, List.getD_eq_getElem?_getD, List.getElem?_map]
  cases Lib.deBruijn64tab[j]? <;> rfl
end Go.Proofs.YteblbcbfaomdmaaDoor.Chk
