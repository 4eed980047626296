/- The names of the functions: the program's table, both Functions. -/
import Derived.Test.YtbkagiddfblmnaaDoorFps
import Derived.Lib.LaidTab
import Derived.OpenShut
import Derived.ChangeArms
import Derived.Deep.SlicePairs
import Derived.Maps.AppendAt
import Derived.OwnWalk
namespace Go.Proofs.YtbkagiddfblmnaaDoor.Fns
open Go.ChangeShapes Go.WideShapes Go.ChangeAt Go.RowKit Go.Deep Go.Lib
open Go.Proofs.YtbkagiddfblmnaaDoor.Pat

def tabL : List Value := [.string ⟨#[97, 98, 115]⟩, .string ⟨#[118, 101, 99, 116, 111, 114]⟩, .string ⟨#[118, 101, 99, 116, 111, 114]⟩, .bool false, .string ⟨#[97, 98, 115, 101, 110, 116]⟩, .string ⟨#[118, 101, 99, 116, 111, 114]⟩, .string ⟨#[118, 101, 99, 116, 111, 114]⟩, .bool false, .string ⟨#[97, 118, 103, 95, 111, 118, 101, 114]⟩, .string ⟨#[114, 97, 110, 103, 101]⟩, .string ⟨#[118, 101, 99, 116, 111, 114]⟩, .bool false, .string ⟨#[99, 104, 97, 110, 103, 101, 115]⟩, .string ⟨#[114, 97, 110, 103, 101]⟩, .string ⟨#[118, 101, 99, 116, 111, 114]⟩, .bool false, .string ⟨#[99, 108, 97, 109, 112]⟩, .string ⟨#[118, 101, 99, 116, 111, 114, 32, 110, 117, 109, 98, 101, 114, 32, 110, 117, 109, 98, 101, 114]⟩, .string ⟨#[118, 101, 99, 116, 111, 114]⟩, .bool false, .string ⟨#[99, 111, 117, 110, 116, 95, 111, 118, 101, 114]⟩, .string ⟨#[114, 97, 110, 103, 101]⟩, .string ⟨#[118, 101, 99, 116, 111, 114]⟩, .bool false, .string ⟨#[100, 101, 108, 116, 97]⟩, .string ⟨#[114, 97, 110, 103, 101]⟩, .string ⟨#[118, 101, 99, 116, 111, 114]⟩, .bool false, .string ⟨#[104, 105, 115, 116, 95, 113, 117, 97, 110, 116, 105, 108, 101]⟩, .string ⟨#[110, 117, 109, 98, 101, 114, 32, 118, 101, 99, 116, 111, 114]⟩, .string ⟨#[118, 101, 99, 116, 111, 114]⟩, .bool false, .string ⟨#[108, 97, 98, 101, 108, 95, 106, 111, 105, 110]⟩, .string ⟨#[118, 101, 99, 116, 111, 114, 32, 116, 101, 120, 116, 32, 116, 101, 120, 116, 32, 116, 101, 120, 116]⟩, .string ⟨#[118, 101, 99, 116, 111, 114]⟩, .bool true, .string ⟨#[108, 97, 98, 101, 108, 95, 115, 101, 116]⟩, .string ⟨#[118, 101, 99, 116, 111, 114, 32, 116, 101, 120, 116, 32, 116, 101, 120, 116, 32, 116, 101, 120, 116, 32, 116, 101, 120, 116]⟩, .string ⟨#[118, 101, 99, 116, 111, 114]⟩, .bool false, .string ⟨#[108, 97, 115, 116, 95, 111, 118, 101, 114]⟩, .string ⟨#[114, 97, 110, 103, 101]⟩, .string ⟨#[118, 101, 99, 116, 111, 114]⟩, .bool false, .string ⟨#[109, 97, 120, 95, 111, 118, 101, 114]⟩, .string ⟨#[114, 97, 110, 103, 101]⟩, .string ⟨#[118, 101, 99, 116, 111, 114]⟩, .bool false, .string ⟨#[109, 105, 110, 95, 111, 118, 101, 114]⟩, .string ⟨#[114, 97, 110, 103, 101]⟩, .string ⟨#[118, 101, 99, 116, 111, 114]⟩, .bool false, .string ⟨#[112, 114, 101, 100, 105, 99, 116]⟩, .string ⟨#[114, 97, 110, 103, 101, 32, 110, 117, 109, 98, 101, 114]⟩, .string ⟨#[118, 101, 99, 116, 111, 114]⟩, .bool false, .string ⟨#[113, 117, 97, 110, 116, 105, 108, 101, 95, 111, 118, 101, 114]⟩, .string ⟨#[110, 117, 109, 98, 101, 114, 32, 114, 97, 110, 103, 101]⟩, .string ⟨#[118, 101, 99, 116, 111, 114]⟩, .bool false, .string ⟨#[114, 97, 116, 101]⟩, .string ⟨#[114, 97, 110, 103, 101]⟩, .string ⟨#[118, 101, 99, 116, 111, 114]⟩, .bool false, .string ⟨#[114, 101, 115, 101, 116, 115]⟩, .string ⟨#[114, 97, 110, 103, 101]⟩, .string ⟨#[118, 101, 99, 116, 111, 114]⟩, .bool false, .string ⟨#[114, 105, 115, 101]⟩, .string ⟨#[114, 97, 110, 103, 101]⟩, .string ⟨#[118, 101, 99, 116, 111, 114]⟩, .bool false, .string ⟨#[115, 99, 97, 108, 97, 114]⟩, .string ⟨#[118, 101, 99, 116, 111, 114]⟩, .string ⟨#[110, 117, 109, 98, 101, 114]⟩, .bool false, .string ⟨#[115, 117, 109, 95, 111, 118, 101, 114]⟩, .string ⟨#[114, 97, 110, 103, 101]⟩, .string ⟨#[118, 101, 99, 116, 111, 114]⟩, .bool false, .string ⟨#[116, 105, 109, 101]⟩, .string ⟨#[]⟩, .string ⟨#[110, 117, 109, 98, 101, 114]⟩, .bool false, .string ⟨#[116, 105, 109, 101, 115, 116, 97, 109, 112]⟩, .string ⟨#[118, 101, 99, 116, 111, 114]⟩, .string ⟨#[118, 101, 99, 116, 111, 114]⟩, .bool false, .string ⟨#[118, 101, 99, 116, 111, 114]⟩, .string ⟨#[110, 117, 109, 98, 101, 114]⟩, .string ⟨#[118, 101, 99, 116, 111, 114]⟩, .bool false]
def nms : List ByteArray := [⟨#[97, 98, 115]⟩, ⟨#[97, 98, 115, 101, 110, 116]⟩, ⟨#[97, 118, 103, 95, 111, 118, 101, 114]⟩, ⟨#[99, 104, 97, 110, 103, 101, 115]⟩, ⟨#[99, 108, 97, 109, 112]⟩, ⟨#[99, 111, 117, 110, 116, 95, 111, 118, 101, 114]⟩, ⟨#[100, 101, 108, 116, 97]⟩, ⟨#[104, 105, 115, 116, 95, 113, 117, 97, 110, 116, 105, 108, 101]⟩, ⟨#[108, 97, 98, 101, 108, 95, 106, 111, 105, 110]⟩, ⟨#[108, 97, 98, 101, 108, 95, 115, 101, 116]⟩, ⟨#[108, 97, 115, 116, 95, 111, 118, 101, 114]⟩, ⟨#[109, 97, 120, 95, 111, 118, 101, 114]⟩, ⟨#[109, 105, 110, 95, 111, 118, 101, 114]⟩, ⟨#[112, 114, 101, 100, 105, 99, 116]⟩, ⟨#[113, 117, 97, 110, 116, 105, 108, 101, 95, 111, 118, 101, 114]⟩, ⟨#[114, 97, 116, 101]⟩, ⟨#[114, 101, 115, 101, 116, 115]⟩, ⟨#[114, 105, 115, 101]⟩, ⟨#[115, 99, 97, 108, 97, 114]⟩, ⟨#[115, 117, 109, 95, 111, 118, 101, 114]⟩, ⟨#[116, 105, 109, 101]⟩, ⟨#[116, 105, 109, 101, 115, 116, 97, 109, 112]⟩, ⟨#[118, 101, 99, 116, 111, 114]⟩]
theorem nms_len : nms.length = 23 := rfl
theorem tab_len : tabL.length = 92 := rfl
/-- What the table's cells hold. -/
def Tab (w : World) : Prop := 0 < w.heap.size ∧ ∀ i, i < 92 → w.cell? ⟨0, i, none⟩ = tabL[i]?
theorem Tab.below {w w' : World} (h : Tab w) (hb : Below w.heap.size w w') : Tab w' := ⟨Nat.lt_of_lt_of_le h.1 hb.size, fun i hi => (hb.cell (p := ⟨0, i, none⟩) h.1).trans (h.2 i hi)⟩
def shD {H : Type} (a b c : List UInt8) (d : Bool) : DataW H := .agg [.lit (.string a), .lit (.string b), .lit (.string c), .lit (.bool d)]
theorem list4 {α : Type} {l : List α} (h : l.length = 4) : ∃ c0 c1 c2 c3, l = [c0, c1, c2, c3] := by
  match l, h with
  | [c0, c1, c2, c3], _ => exact ⟨c0, c1, c2, c3, rfl⟩
theorem cellsS : Tryd.prog.cellsOf 28 = 4 := by kernel_rfl
theorem bool_cell {H : Type} {enc : TypeId × Value → H} {W : World} {base : Nat} {sp : Nat → Bool} {held : Bool} {n : Nat} {c : Value} {b : Bool} {p : List MemPlace} (h : DataW.trod enc Tryd.prog W base sp held n 4 [c] = some (.lit (.bool b), p)) : c = .bool b := by
  obtain ⟨b', e, hx⟩ := DataW.trod_bool Tryd.underlying4 h
  simp only [List.cons.injEq, and_true] at e
  simp at hx
  rw [e, hx.1]
theorem str_cell {H : Type} {enc : TypeId × Value → H} {W : World} {base : Nat} {sp : Nat → Bool} {held : Bool} {n : Nat} {c : Value} {z : List UInt8} {p : List MemPlace} (h : DataW.trod enc Tryd.prog W base sp held n 9 [c] = some (.lit (.string z), p)) : c = .string ⟨z.toArray⟩ := by
  obtain ⟨s, e, hx, _⟩ := DataW.trod_string Tryd.underlying9 h
  simp only [List.cons.injEq, and_true] at e
  simp at hx
  rw [e, hx.1]
theorem k9 : Tryd.prog.cellsOf 9 = 1 := by kernel_rfl
theorem k4 : Tryd.prog.cellsOf 4 = 1 := by kernel_rfl
theorem shape_cells {H : Type} {enc : TypeId × Value → H} {W : World} {base : Nat} {sp : Nat → Bool} {held : Bool} {n : Nat} {l : List Value} {a b c : List UInt8} {d : Bool} {p : List MemPlace}
    (h : DataW.trod enc Tryd.prog W base sp held n 28 l = some (shD a b c d, p)) : l = [.string ⟨a.toArray⟩, .string ⟨b.toArray⟩, .string ⟨c.toArray⟩, .bool d] := by
  obtain ⟨xs, m, _, hx, hl, hlen, hg⟩ := DataW.trod_struct Tryd.underlying28 h
  obtain ⟨c0, c1, c2, c3, rfl⟩ := list4 (hl.trans cellsS)
  match xs, hlen with
  | [y0, y1, y2, y3], _ =>
    simp only [shD, Prod.mk.injEq, DataW.agg.injEq, List.map_cons, List.map_nil, List.cons.injEq, and_true] at hx
    obtain ⟨⟨e0, e1, e2, e3⟩, _⟩ := hx
    have g0 : DataW.trod enc Tryd.prog W base sp held m 9 (List.take (Tryd.prog.cellsOf 9) (List.drop 0 [c0, c1, c2, c3])) = _ := hg 0 _ rfl
    rw [k9] at g0
    have g1 : DataW.trod enc Tryd.prog W base sp held m 9 (List.take (Tryd.prog.cellsOf 9) (List.drop 1 [c0, c1, c2, c3])) = _ := hg 1 _ rfl
    rw [k9] at g1
    have g2 : DataW.trod enc Tryd.prog W base sp held m 9 (List.take (Tryd.prog.cellsOf 9) (List.drop 2 [c0, c1, c2, c3])) = _ := hg 2 _ rfl
    rw [k9] at g2
    have g3 : DataW.trod enc Tryd.prog W base sp held m 4 (List.take (Tryd.prog.cellsOf 4) (List.drop 3 [c0, c1, c2, c3])) = _ := hg 3 _ rfl
    rw [k4] at g3
    obtain ⟨y0a, y0b⟩ := y0
    obtain ⟨y1a, y1b⟩ := y1
    obtain ⟨y2a, y2b⟩ := y2
    obtain ⟨y3a, y3b⟩ := y3
    simp only at e0 e1 e2 e3
    subst e0 e1 e2 e3
    rw [str_cell (c := c0) g0, str_cell (c := c1) g1, str_cell (c := c2) g2, bool_cell (c := c3) g3]
/-- The table's rows. -/
def shs : List (List UInt8 × List UInt8 × List UInt8 × Bool) := [([97, 98, 115], [118, 101, 99, 116, 111, 114], [118, 101, 99, 116, 111, 114], false), ([97, 98, 115, 101, 110, 116], [118, 101, 99, 116, 111, 114], [118, 101, 99, 116, 111, 114], false), ([97, 118, 103, 95, 111, 118, 101, 114], [114, 97, 110, 103, 101], [118, 101, 99, 116, 111, 114], false), ([99, 104, 97, 110, 103, 101, 115], [114, 97, 110, 103, 101], [118, 101, 99, 116, 111, 114], false), ([99, 108, 97, 109, 112], [118, 101, 99, 116, 111, 114, 32, 110, 117, 109, 98, 101, 114, 32, 110, 117, 109, 98, 101, 114], [118, 101, 99, 116, 111, 114], false), ([99, 111, 117, 110, 116, 95, 111, 118, 101, 114], [114, 97, 110, 103, 101], [118, 101, 99, 116, 111, 114], false), ([100, 101, 108, 116, 97], [114, 97, 110, 103, 101], [118, 101, 99, 116, 111, 114], false), ([104, 105, 115, 116, 95, 113, 117, 97, 110, 116, 105, 108, 101], [110, 117, 109, 98, 101, 114, 32, 118, 101, 99, 116, 111, 114], [118, 101, 99, 116, 111, 114], false), ([108, 97, 98, 101, 108, 95, 106, 111, 105, 110], [118, 101, 99, 116, 111, 114, 32, 116, 101, 120, 116, 32, 116, 101, 120, 116, 32, 116, 101, 120, 116], [118, 101, 99, 116, 111, 114], true), ([108, 97, 98, 101, 108, 95, 115, 101, 116], [118, 101, 99, 116, 111, 114, 32, 116, 101, 120, 116, 32, 116, 101, 120, 116, 32, 116, 101, 120, 116, 32, 116, 101, 120, 116], [118, 101, 99, 116, 111, 114], false), ([108, 97, 115, 116, 95, 111, 118, 101, 114], [114, 97, 110, 103, 101], [118, 101, 99, 116, 111, 114], false), ([109, 97, 120, 95, 111, 118, 101, 114], [114, 97, 110, 103, 101], [118, 101, 99, 116, 111, 114], false), ([109, 105, 110, 95, 111, 118, 101, 114], [114, 97, 110, 103, 101], [118, 101, 99, 116, 111, 114], false), ([112, 114, 101, 100, 105, 99, 116], [114, 97, 110, 103, 101, 32, 110, 117, 109, 98, 101, 114], [118, 101, 99, 116, 111, 114], false), ([113, 117, 97, 110, 116, 105, 108, 101, 95, 111, 118, 101, 114], [110, 117, 109, 98, 101, 114, 32, 114, 97, 110, 103, 101], [118, 101, 99, 116, 111, 114], false), ([114, 97, 116, 101], [114, 97, 110, 103, 101], [118, 101, 99, 116, 111, 114], false), ([114, 101, 115, 101, 116, 115], [114, 97, 110, 103, 101], [118, 101, 99, 116, 111, 114], false), ([114, 105, 115, 101], [114, 97, 110, 103, 101], [118, 101, 99, 116, 111, 114], false), ([115, 99, 97, 108, 97, 114], [118, 101, 99, 116, 111, 114], [110, 117, 109, 98, 101, 114], false), ([115, 117, 109, 95, 111, 118, 101, 114], [114, 97, 110, 103, 101], [118, 101, 99, 116, 111, 114], false), ([116, 105, 109, 101], [], [110, 117, 109, 98, 101, 114], false), ([116, 105, 109, 101, 115, 116, 97, 109, 112], [118, 101, 99, 116, 111, 114], [118, 101, 99, 116, 111, 114], false), ([118, 101, 99, 116, 111, 114], [110, 117, 109, 98, 101, 114], [118, 101, 99, 116, 111, 114], false)]
theorem laid_shs {H : Type} : (Rows.laid_loop_example_g00039_impl_functionShapes : DataW H) = .agg (shs.map fun r => shD r.1 r.2.1 r.2.2.1 r.2.2.2) := rfl
def rowV (r : List UInt8 × List UInt8 × List UInt8 × Bool) : List Value := [.string ⟨r.1.toArray⟩, .string ⟨r.2.1.toArray⟩, .string ⟨r.2.2.1.toArray⟩, .bool r.2.2.2]
theorem tab_rows : ∀ k, k < 23 → (tabL.drop (k * 4)).take 4 = rowV (shs.getD k ([], [], [], false)) := by
  intro k hk
  match k, hk with
  | 0, _ => rfl
  | 1, _ => rfl
  | 2, _ => rfl
  | 3, _ => rfl
  | 4, _ => rfl
  | 5, _ => rfl
  | 6, _ => rfl
  | 7, _ => rfl
  | 8, _ => rfl
  | 9, _ => rfl
  | 10, _ => rfl
  | 11, _ => rfl
  | 12, _ => rfl
  | 13, _ => rfl
  | 14, _ => rfl
  | 15, _ => rfl
  | 16, _ => rfl
  | 17, _ => rfl
  | 18, _ => rfl
  | 19, _ => rfl
  | 20, _ => rfl
  | 21, _ => rfl
  | 22, _ => rfl
  | (n + 23), h => omega
theorem tab_cells {H : Type} {enc : TypeId × Value → H} {W : World} {base : Nat} {sp : Nat → Bool} {held : Bool} {n : Nat} {cs : List Value} {p : List MemPlace}
    (h : DataW.trod enc Tryd.prog W base sp held n 29 cs = some (Rows.laid_loop_example_g00039_impl_functionShapes, p)) (i : Nat) (hi : i < 92) : cs[i]? = tabL[i]? := by
  rw [laid_shs] at h
  obtain ⟨xs, m, _, hx, hl, hlen, hg⟩ := DataW.trod_array Tryd.underlying29 h
  have hxs : shs.map (fun r => (shD r.1 r.2.1 r.2.2.1 r.2.2.2 : DataW H)) = xs.map (·.1) := by
    have := congrArg Prod.fst hx
    simpa using this
  have key : ∀ k, k < 23 → (cs.drop (k * 4)).take 4 = (tabL.drop (k * 4)).take 4 := by
    intro k hk
    have g := hg k hk
    rw [cellsS] at g
    have hq : shs[k]? = some (shs.getD k ([], [], [], false)) := by
      rw [List.getD_eq_getElem?_getD, List.getElem?_eq_getElem (show k < shs.length from hk)]
      rfl
    have h2 : (xs.map (·.1))[k]? = some (shD (shs.getD k ([], [], [], false)).1 (shs.getD k ([], [], [], false)).2.1 (shs.getD k ([], [], [], false)).2.2.1 (shs.getD k ([], [], [], false)).2.2.2) := by rw [← hxs, List.getElem?_map, hq]; rfl
    rw [List.getElem?_map, Option.map_eq_some_iff] at h2
    obtain ⟨y, hy, hy1⟩ := h2
    rw [hy, show y = (y.1, y.2) from rfl, hy1] at g
    rw [shape_cells g, tab_rows k hk]
    rfl
  have hk := key (i / 4) (by omega)
  have := congrArg (fun l => l[i % 4]?) hk
  simp only [List.getElem?_take, List.getElem?_drop] at this
  rw [if_pos (by omega), if_pos (by omega), show i / 4 * 4 + i % 4 = i from by omega] at this
  exact this
theorem gTab : Tryd.prog.globalNamed "loop.example/g00039/impl.functionShapes" = some 0 := by kernel_rfl
theorem gTabType : (Tryd.prog.globals[0]?).map (·.type) = some 29 := by kernel_rfl
theorem tab_of {W : World} {rest : List (String × DataW Unit)} (h : laidMet Tryd.prog (("loop.example/g00039/impl.functionShapes", Rows.laid_loop_example_g00039_impl_functionShapes) :: rest) W) : Tab W := by
  obtain ⟨ps, ⟨g', t', cs, fuel, p, q, hg', ht', hvar, hd, _, _⟩, _⟩ := h
  obtain rfl := Option.some.inj (gTab.symm.trans hg')
  obtain rfl := Option.some.inj (gTabType.symm.trans ht')
  have key : ∀ i, i < 92 → W.cell? ⟨0, i, none⟩ = tabL[i]? := by
    intro i hi
    have h1 := World.var?_cell gTab hvar i
    rw [h1, ← tab_cells hd i hi]
    simp
  refine ⟨?_, key⟩
  exact World.block_lt_of_cell? W ⟨0, 0, none⟩ (u := .string ⟨#[97, 98, 115]⟩) (key 0 (by omega))
end Go.Proofs.YtbkagiddfblmnaaDoor.Fns
