/- The tables of questions: what the program's three tables hold. -/
import Derived.Test.YtbdlahhejfamhaaGreatDoorRQpa
import Derived.Lib.LaidTab
import Derived.OpenShut
import Derived.ChangeArms
import Derived.Deep.SlicePairs
import Derived.Shelf.Strings.Fields
namespace Go.Proofs.YtbdlahhejfamhaaGreatDoor.Qry
open Go.ChangeShapes Go.WideShapes Go.ChangeAt Go.RowKit Go.Deep Go.Lib

/-- A row of a table of calls; one of the table of operations. -/
abbrev Cs := List UInt8 × List UInt8 × List UInt8 × Bool
abbrev Os := List UInt8 × Int
def csV (r : Cs) : List Value := [.string ⟨r.1.toArray⟩, .string ⟨r.2.1.toArray⟩, .string ⟨r.2.2.1.toArray⟩, .bool r.2.2.2]
def osV (r : Os) : List Value := [.string ⟨r.1.toArray⟩, .int .i64 r.2]
def cs0 : Cs := ([], [], [], false)
def os0 : Os := ([], 0)
def csD {H : Type} (r : Cs) : DataW H := .agg [.lit (.string r.1), .lit (.string r.2.1), .lit (.string r.2.2.1), .lit (.bool r.2.2.2)]
def osD {H : Type} (r : Os) : DataW H := .agg [.lit (.string r.1), .lit (.int .i64 r.2)]
theorem list4 {α : Type} {l : List α} (h : l.length = 4) : ∃ c0 c1 c2 c3, l = [c0, c1, c2, c3] := by
  match l, h with
  | [c0, c1, c2, c3], _ => exact ⟨c0, c1, c2, c3, rfl⟩
theorem list2 {α : Type} {l : List α} (h : l.length = 2) : ∃ c0 c1, l = [c0, c1] := by
  match l, h with
  | [c0, c1], _ => exact ⟨c0, c1, rfl⟩
theorem cellsC : Tryz.prog.cellsOf 125 = 4 := by kernel_rfl
theorem cellsO : Tryz.prog.cellsOf 166 = 2 := by kernel_rfl
theorem bool_cell {H : Type} {enc : TypeId × Value → H} {W : World} {base : Nat} {sp : Nat → Bool} {held : Bool} {n : Nat} {c : Value} {b : Bool} {p : List MemPlace} (h : DataW.trod enc Tryz.prog W base sp held n 4 [c] = some (.lit (.bool b), p)) : c = .bool b := by
  obtain ⟨b', e, hx⟩ := DataW.trod_bool Tryz.underlying4 h
  simp only [List.cons.injEq, and_true] at e
  simp at hx
  rw [e, hx.1]
theorem str_cell {H : Type} {enc : TypeId × Value → H} {W : World} {base : Nat} {sp : Nat → Bool} {held : Bool} {n : Nat} {c : Value} {z : List UInt8} {p : List MemPlace} (h : DataW.trod enc Tryz.prog W base sp held n 9 [c] = some (.lit (.string z), p)) : c = .string ⟨z.toArray⟩ := by
  obtain ⟨s, e, hx, _⟩ := DataW.trod_string Tryz.underlying9 h
  simp only [List.cons.injEq, and_true] at e
  simp at hx
  rw [e, hx.1]
theorem int_cell {H : Type} {enc : TypeId × Value → H} {W : World} {base : Nat} {sp : Nat → Bool} {held : Bool} {n : Nat} {c : Value} {z : Int} {p : List MemPlace} (h : DataW.trod enc Tryz.prog W base sp held n 3 [c] = some (.lit (.int .i64 z), p)) : c = .int .i64 z := by
  obtain ⟨b', e, hx⟩ := DataW.trod_int Tryz.underlying3 h
  simp only [List.cons.injEq, and_true] at e
  simp at hx
  rw [e, hx.1.1]
theorem kS : Tryz.prog.cellsOf 9 = 1 := by kernel_rfl
theorem kB : Tryz.prog.cellsOf 4 = 1 := by kernel_rfl
theorem kI : Tryz.prog.cellsOf 3 = 1 := by kernel_rfl
theorem cs_cells {H : Type} {enc : TypeId × Value → H} {W : World} {base : Nat} {sp : Nat → Bool} {held : Bool} {n : Nat} {l : List Value} {r : Cs} {p : List MemPlace}
    (h : DataW.trod enc Tryz.prog W base sp held n 125 l = some (csD r, p)) : l = csV r := by
  obtain ⟨a, b, c, d⟩ := r
  obtain ⟨xs, m, _, hx, hl, hlen, hg⟩ := DataW.trod_struct Tryz.underlying125 h
  obtain ⟨c0, c1, c2, c3, rfl⟩ := list4 (hl.trans cellsC)
  match xs, hlen with
  | [y0, y1, y2, y3], _ =>
    simp only [csD, Prod.mk.injEq, DataW.agg.injEq, List.map_cons, List.map_nil, List.cons.injEq, and_true] at hx
    obtain ⟨⟨e0, e1, e2, e3⟩, _⟩ := hx
    have g0 : DataW.trod enc Tryz.prog W base sp held m 9 (List.take (Tryz.prog.cellsOf 9) (List.drop 0 [c0, c1, c2, c3])) = _ := hg 0 _ rfl
    rw [kS] at g0
    have g1 : DataW.trod enc Tryz.prog W base sp held m 9 (List.take (Tryz.prog.cellsOf 9) (List.drop 1 [c0, c1, c2, c3])) = _ := hg 1 _ rfl
    rw [kS] at g1
    have g2 : DataW.trod enc Tryz.prog W base sp held m 9 (List.take (Tryz.prog.cellsOf 9) (List.drop 2 [c0, c1, c2, c3])) = _ := hg 2 _ rfl
    rw [kS] at g2
    have g3 : DataW.trod enc Tryz.prog W base sp held m 4 (List.take (Tryz.prog.cellsOf 4) (List.drop 3 [c0, c1, c2, c3])) = _ := hg 3 _ rfl
    rw [kB] at g3
    obtain ⟨y0a, y0b⟩ := y0
    obtain ⟨y1a, y1b⟩ := y1
    obtain ⟨y2a, y2b⟩ := y2
    obtain ⟨y3a, y3b⟩ := y3
    simp only at e0 e1 e2 e3
    subst e0 e1 e2 e3
    rw [str_cell (c := c0) g0, str_cell (c := c1) g1, str_cell (c := c2) g2, bool_cell (c := c3) g3]
    rfl
theorem os_cells {H : Type} {enc : TypeId × Value → H} {W : World} {base : Nat} {sp : Nat → Bool} {held : Bool} {n : Nat} {l : List Value} {r : Os} {p : List MemPlace}
    (h : DataW.trod enc Tryz.prog W base sp held n 166 l = some (osD r, p)) : l = osV r := by
  obtain ⟨a, b⟩ := r
  obtain ⟨xs, m, _, hx, hl, hlen, hg⟩ := DataW.trod_struct Tryz.underlying166 h
  obtain ⟨c0, c1, rfl⟩ := list2 (hl.trans cellsO)
  match xs, hlen with
  | [y0, y1], _ =>
    simp only [osD, Prod.mk.injEq, DataW.agg.injEq, List.map_cons, List.map_nil, List.cons.injEq, and_true] at hx
    obtain ⟨⟨e0, e1⟩, _⟩ := hx
    have g0 : DataW.trod enc Tryz.prog W base sp held m 9 (List.take (Tryz.prog.cellsOf 9) (List.drop 0 [c0, c1])) = _ := hg 0 _ rfl
    rw [kS] at g0
    have g1 : DataW.trod enc Tryz.prog W base sp held m 3 (List.take (Tryz.prog.cellsOf 3) (List.drop 1 [c0, c1])) = _ := hg 1 _ rfl
    rw [kI] at g1
    obtain ⟨y0a, y0b⟩ := y0
    obtain ⟨y1a, y1b⟩ := y1
    simp only at e0 e1
    subst e0 e1
    rw [str_cell (c := c0) g0, int_cell (c := c1) g1]
    rfl
theorem load_from {P : Program} (w : World) (b : Nat) : ∀ (n i : Nat) (L : List Value) (acc : Array Value), L.length = n → (∀ j, j < n → w.cell? ⟨b, i + j, none⟩ = L[j]?) → (loadCellsFrom ⟨b, 0, none⟩ i n acc).run P w = .ok (acc ++ L.toArray) w
  | 0, i, L, acc, hl, _ => by
    obtain rfl : L = [] := List.eq_nil_of_length_eq_zero hl
    simp [loadCellsFrom, go_sem]
  | n + 1, i, L, acc, hl, h => by
    match L, hl with
    | v :: L, hl =>
      have h0 := h 0 (by omega)
      simp only [Nat.add_zero, List.getElem?_cons_zero] at h0
      have ih := load_from (P := P) w b n (i + 1) L (acc.push v) (by simpa using hl) (fun j hj => by
        have := h (j + 1) (by omega)
        rw [List.getElem?_cons_succ] at this
        rw [← this, show i + 1 + j = i + (j + 1) by omega])
      simp only [loadCellsFrom, go_sem]
      simp [h0, ih]

/-! The table functionShapes. -/
def tabFn : List Value := [.string ⟨#[97, 98, 115]⟩, .string ⟨#[118, 101, 99, 116, 111, 114]⟩, .string ⟨#[118, 101, 99, 116, 111, 114]⟩, .bool false, .string ⟨#[97, 98, 115, 101, 110, 116]⟩, .string ⟨#[118, 101, 99, 116, 111, 114]⟩, .string ⟨#[118, 101, 99, 116, 111, 114]⟩, .bool false, .string ⟨#[97, 118, 103, 95, 111, 118, 101, 114]⟩, .string ⟨#[114, 97, 110, 103, 101]⟩, .string ⟨#[118, 101, 99, 116, 111, 114]⟩, .bool false, .string ⟨#[99, 104, 97, 110, 103, 101, 115]⟩, .string ⟨#[114, 97, 110, 103, 101]⟩, .string ⟨#[118, 101, 99, 116, 111, 114]⟩, .bool false, .string ⟨#[99, 108, 97, 109, 112]⟩, .string ⟨#[118, 101, 99, 116, 111, 114, 32, 110, 117, 109, 98, 101, 114, 32, 110, 117, 109, 98, 101, 114]⟩, .string ⟨#[118, 101, 99, 116, 111, 114]⟩, .bool false, .string ⟨#[99, 111, 117, 110, 116, 95, 111, 118, 101, 114]⟩, .string ⟨#[114, 97, 110, 103, 101]⟩, .string ⟨#[118, 101, 99, 116, 111, 114]⟩, .bool false, .string ⟨#[100, 101, 108, 116, 97]⟩, .string ⟨#[114, 97, 110, 103, 101]⟩, .string ⟨#[118, 101, 99, 116, 111, 114]⟩, .bool false, .string ⟨#[104, 105, 115, 116, 95, 113, 117, 97, 110, 116, 105, 108, 101]⟩, .string ⟨#[110, 117, 109, 98, 101, 114, 32, 118, 101, 99, 116, 111, 114]⟩, .string ⟨#[118, 101, 99, 116, 111, 114]⟩, .bool false, .string ⟨#[108, 97, 98, 101, 108, 95, 106, 111, 105, 110]⟩, .string ⟨#[118, 101, 99, 116, 111, 114, 32, 116, 101, 120, 116, 32, 116, 101, 120, 116, 32, 116, 101, 120, 116]⟩, .string ⟨#[118, 101, 99, 116, 111, 114]⟩, .bool true, .string ⟨#[108, 97, 98, 101, 108, 95, 115, 101, 116]⟩, .string ⟨#[118, 101, 99, 116, 111, 114, 32, 116, 101, 120, 116, 32, 116, 101, 120, 116, 32, 116, 101, 120, 116, 32, 116, 101, 120, 116]⟩, .string ⟨#[118, 101, 99, 116, 111, 114]⟩, .bool false, .string ⟨#[108, 97, 115, 116, 95, 111, 118, 101, 114]⟩, .string ⟨#[114, 97, 110, 103, 101]⟩, .string ⟨#[118, 101, 99, 116, 111, 114]⟩, .bool false, .string ⟨#[109, 97, 120, 95, 111, 118, 101, 114]⟩, .string ⟨#[114, 97, 110, 103, 101]⟩, .string ⟨#[118, 101, 99, 116, 111, 114]⟩, .bool false, .string ⟨#[109, 105, 110, 95, 111, 118, 101, 114]⟩, .string ⟨#[114, 97, 110, 103, 101]⟩, .string ⟨#[118, 101, 99, 116, 111, 114]⟩, .bool false, .string ⟨#[112, 114, 101, 100, 105, 99, 116]⟩, .string ⟨#[114, 97, 110, 103, 101, 32, 110, 117, 109, 98, 101, 114]⟩, .string ⟨#[118, 101, 99, 116, 111, 114]⟩, .bool false, .string ⟨#[113, 117, 97, 110, 116, 105, 108, 101, 95, 111, 118, 101, 114]⟩, .string ⟨#[110, 117, 109, 98, 101, 114, 32, 114, 97, 110, 103, 101]⟩, .string ⟨#[118, 101, 99, 116, 111, 114]⟩, .bool false, .string ⟨#[114, 97, 116, 101]⟩, .string ⟨#[114, 97, 110, 103, 101]⟩, .string ⟨#[118, 101, 99, 116, 111, 114]⟩, .bool false, .string ⟨#[114, 101, 115, 101, 116, 115]⟩, .string ⟨#[114, 97, 110, 103, 101]⟩, .string ⟨#[118, 101, 99, 116, 111, 114]⟩, .bool false, .string ⟨#[114, 105, 115, 101]⟩, .string ⟨#[114, 97, 110, 103, 101]⟩, .string ⟨#[118, 101, 99, 116, 111, 114]⟩, .bool false, .string ⟨#[115, 99, 97, 108, 97, 114]⟩, .string ⟨#[118, 101, 99, 116, 111, 114]⟩, .string ⟨#[110, 117, 109, 98, 101, 114]⟩, .bool false, .string ⟨#[115, 117, 109, 95, 111, 118, 101, 114]⟩, .string ⟨#[114, 97, 110, 103, 101]⟩, .string ⟨#[118, 101, 99, 116, 111, 114]⟩, .bool false, .string ⟨#[116, 105, 109, 101]⟩, .string ⟨#[]⟩, .string ⟨#[110, 117, 109, 98, 101, 114]⟩, .bool false, .string ⟨#[116, 105, 109, 101, 115, 116, 97, 109, 112]⟩, .string ⟨#[118, 101, 99, 116, 111, 114]⟩, .string ⟨#[118, 101, 99, 116, 111, 114]⟩, .bool false, .string ⟨#[118, 101, 99, 116, 111, 114]⟩, .string ⟨#[110, 117, 109, 98, 101, 114]⟩, .string ⟨#[118, 101, 99, 116, 111, 114]⟩, .bool false]
def rowFn : List Cs := [([97, 98, 115], [118, 101, 99, 116, 111, 114], [118, 101, 99, 116, 111, 114], false), ([97, 98, 115, 101, 110, 116], [118, 101, 99, 116, 111, 114], [118, 101, 99, 116, 111, 114], false), ([97, 118, 103, 95, 111, 118, 101, 114], [114, 97, 110, 103, 101], [118, 101, 99, 116, 111, 114], false), ([99, 104, 97, 110, 103, 101, 115], [114, 97, 110, 103, 101], [118, 101, 99, 116, 111, 114], false), ([99, 108, 97, 109, 112], [118, 101, 99, 116, 111, 114, 32, 110, 117, 109, 98, 101, 114, 32, 110, 117, 109, 98, 101, 114], [118, 101, 99, 116, 111, 114], false), ([99, 111, 117, 110, 116, 95, 111, 118, 101, 114], [114, 97, 110, 103, 101], [118, 101, 99, 116, 111, 114], false), ([100, 101, 108, 116, 97], [114, 97, 110, 103, 101], [118, 101, 99, 116, 111, 114], false), ([104, 105, 115, 116, 95, 113, 117, 97, 110, 116, 105, 108, 101], [110, 117, 109, 98, 101, 114, 32, 118, 101, 99, 116, 111, 114], [118, 101, 99, 116, 111, 114], false), ([108, 97, 98, 101, 108, 95, 106, 111, 105, 110], [118, 101, 99, 116, 111, 114, 32, 116, 101, 120, 116, 32, 116, 101, 120, 116, 32, 116, 101, 120, 116], [118, 101, 99, 116, 111, 114], true), ([108, 97, 98, 101, 108, 95, 115, 101, 116], [118, 101, 99, 116, 111, 114, 32, 116, 101, 120, 116, 32, 116, 101, 120, 116, 32, 116, 101, 120, 116, 32, 116, 101, 120, 116], [118, 101, 99, 116, 111, 114], false), ([108, 97, 115, 116, 95, 111, 118, 101, 114], [114, 97, 110, 103, 101], [118, 101, 99, 116, 111, 114], false), ([109, 97, 120, 95, 111, 118, 101, 114], [114, 97, 110, 103, 101], [118, 101, 99, 116, 111, 114], false), ([109, 105, 110, 95, 111, 118, 101, 114], [114, 97, 110, 103, 101], [118, 101, 99, 116, 111, 114], false), ([112, 114, 101, 100, 105, 99, 116], [114, 97, 110, 103, 101, 32, 110, 117, 109, 98, 101, 114], [118, 101, 99, 116, 111, 114], false), ([113, 117, 97, 110, 116, 105, 108, 101, 95, 111, 118, 101, 114], [110, 117, 109, 98, 101, 114, 32, 114, 97, 110, 103, 101], [118, 101, 99, 116, 111, 114], false), ([114, 97, 116, 101], [114, 97, 110, 103, 101], [118, 101, 99, 116, 111, 114], false), ([114, 101, 115, 101, 116, 115], [114, 97, 110, 103, 101], [118, 101, 99, 116, 111, 114], false), ([114, 105, 115, 101], [114, 97, 110, 103, 101], [118, 101, 99, 116, 111, 114], false), ([115, 99, 97, 108, 97, 114], [118, 101, 99, 116, 111, 114], [110, 117, 109, 98, 101, 114], false), ([115, 117, 109, 95, 111, 118, 101, 114], [114, 97, 110, 103, 101], [118, 101, 99, 116, 111, 114], false), ([116, 105, 109, 101], [], [110, 117, 109, 98, 101, 114], false), ([116, 105, 109, 101, 115, 116, 97, 109, 112], [118, 101, 99, 116, 111, 114], [118, 101, 99, 116, 111, 114], false), ([118, 101, 99, 116, 111, 114], [110, 117, 109, 98, 101, 114], [118, 101, 99, 116, 111, 114], false)]
def gFn : Nat := 2
def TabFn (w : World) : Prop := 2 < w.heap.size ∧ ∀ i, i < 92 → w.cell? ⟨2, i, none⟩ = tabFn[i]?
theorem TabFn.below {w w' : World} (h : TabFn w) (hb : Below w.heap.size w w') : TabFn w' := ⟨Nat.lt_of_lt_of_le h.1 hb.size, fun i hi => (hb.cell (p := ⟨2, i, none⟩) h.1).trans (h.2 i hi)⟩
theorem laidFn {H : Type} : (Rows.laid_loop_example_g00039_impl_functionShapes : DataW H) = .agg (rowFn.map csD) := rfl
theorem tabFn_rows : ∀ k, k < 23 → (tabFn.drop (k * 4)).take 4 = csV (rowFn.getD k cs0) := by
  intro k hk
  match k, hk with
  | 0, _ => rfl
  | 1, _ => rfl
  | 2, _ => rfl
  | 3, _ => rfl
  | 4, _ => rfl
  | 5, _ => rfl
  | 6, _ => rfl
  | 7, _ => rfl
  | 8, _ => rfl
  | 9, _ => rfl
  | 10, _ => rfl
  | 11, _ => rfl
  | 12, _ => rfl
  | 13, _ => rfl
  | 14, _ => rfl
  | 15, _ => rfl
  | 16, _ => rfl
  | 17, _ => rfl
  | 18, _ => rfl
  | 19, _ => rfl
  | 20, _ => rfl
  | 21, _ => rfl
  | 22, _ => rfl
  | (n + 23), h => omega
theorem tabFn_cells {H : Type} {enc : TypeId × Value → H} {W : World} {base : Nat} {sp : Nat → Bool} {held : Bool} {n : Nat} {cs : List Value} {p : List MemPlace}
    (h : DataW.trod enc Tryz.prog W base sp held n 169 cs = some (Rows.laid_loop_example_g00039_impl_functionShapes, p)) (i : Nat) (hi : i < 92) : cs[i]? = tabFn[i]? := by
  rw [laidFn] at h
  obtain ⟨xs, m, _, hx, hl, hlen, hg⟩ := DataW.trod_array Tryz.underlying169 h
  have hxs : rowFn.map (fun r => (csD r : DataW H)) = xs.map (·.1) := by
    have := congrArg Prod.fst hx
    simpa using this
  have key : ∀ k, k < 23 → (cs.drop (k * 4)).take 4 = (tabFn.drop (k * 4)).take 4 := by
    intro k hk
    have g := hg k hk
    rw [cellsC] at g
    have hq : rowFn[k]? = some (rowFn.getD k cs0) := by
      rw [List.getD_eq_getElem?_getD, List.getElem?_eq_getElem (show k < rowFn.length from hk)]
      rfl
    have h2 : (xs.map (·.1))[k]? = some (csD (rowFn.getD k cs0)) := by rw [← hxs, List.getElem?_map, hq]; rfl
    rw [List.getElem?_map, Option.map_eq_some_iff] at h2
    obtain ⟨y, hy, hy1⟩ := h2
    rw [hy, show y = (y.1, y.2) from rfl, hy1] at g
    rw [cs_cells g, tabFn_rows k hk]
  have hk := key (i / 4) (by omega)
  have := congrArg (fun l => l[i % 4]?) hk
  simp only [List.getElem?_take, List.getElem?_drop] at this
  rw [if_pos (by omega), if_pos (by omega), show i / 4 * 4 + i % 4 = i from by omega] at this
  exact this
theorem numFn : Tryz.prog.globalNamed "loop.example/g00039/impl.functionShapes" = some 2 := by kernel_rfl
theorem typeFn : (Tryz.prog.globals[2]?).map (·.type) = some 169 := by kernel_rfl
theorem tabFn_of {W : World} {rest : List (String × DataW Unit)} (h : laidMet Tryz.prog (("loop.example/g00039/impl.functionShapes", Rows.laid_loop_example_g00039_impl_functionShapes) :: rest) W) : TabFn W := by
  obtain ⟨ps, ⟨g', t', cs, fuel, p, q, hg', ht', hvar, hd, _, _⟩, _⟩ := h
  obtain rfl := Option.some.inj (numFn.symm.trans hg')
  obtain rfl := Option.some.inj (typeFn.symm.trans ht')
  have key : ∀ i, i < 92 → W.cell? ⟨2, i, none⟩ = tabFn[i]? := by
    intro i hi
    have h1 := World.var?_cell numFn hvar i
    rw [h1, ← tabFn_cells hd i hi]
    simp
  refine ⟨?_, key⟩
  exact World.block_lt_of_cell? W ⟨2, 0, none⟩ (u := .string ⟨#[97, 98, 115]⟩) (key 0 (by omega))
theorem loadFn {w : World} (h : TabFn w) : (loadCells ⟨2, 0, none⟩ 92).run Tryz.prog w = .ok tabFn.toArray w := by
  have := load_from (P := Tryz.prog) w 2 92 0 tabFn #[] rfl (fun j hj => by rw [Nat.zero_add]; exact h.2 j hj)
  simpa [loadCells] using this
theorem sizeFn (w : World) : (sizeOf 169).run Tryz.prog w = .ok 92 w := by kernel_rfl
theorem aggFn (w : World) : (isAgg 169).run Tryz.prog w = .ok true w := by kernel_rfl
theorem loadAtFn {w : World} (h : TabFn w) : (Instr.loadAt 169 (.pointer (some ⟨2, 0, none⟩))).run Tryz.prog w = .ok (.agg tabFn.toArray) w := by
  unfold Instr.loadAt loadVar
  simp only [Instr.sureAddr, Sem.run_bind, Sem.run_pure, aggFn, sizeFn, loadFn h, if_true, Result.andThen]
theorem execTFn {w : World} (h : TabFn w) (a : Act) (o : Oper) (ho : o.op = .load 169 (.global 2)) : (execOp a.eval o).run Tryz.prog w = .ok (.value (.agg tabFn.toArray)) w := by
  have e : a.eval (.global 2) = .pointer (some ⟨2, 0, none⟩) := rfl
  unfold execOp
  simp only [ho, e, Sem.run_bind, Sem.run_pure, loadAtFn h, Result.andThen]
def arrFn (k : Nat) : Array Value := (csV (rowFn.getD k cs0)).toArray
set_option maxRecDepth 1000000 in
theorem indexFn : ∀ k : Nat, k < 23 → ∀ w : World, (Instr.index 169 (.agg tabFn.toArray) (.int .i64 (k : Int))).run Tryz.prog w = .ok (.agg (arrFn k)) w := by
  intro k hk
  match k, hk with
  | 0, _ => exact fun _ => by kernel_rfl
  | 1, _ => exact fun _ => by kernel_rfl
  | 2, _ => exact fun _ => by kernel_rfl
  | 3, _ => exact fun _ => by kernel_rfl
  | 4, _ => exact fun _ => by kernel_rfl
  | 5, _ => exact fun _ => by kernel_rfl
  | 6, _ => exact fun _ => by kernel_rfl
  | 7, _ => exact fun _ => by kernel_rfl
  | 8, _ => exact fun _ => by kernel_rfl
  | 9, _ => exact fun _ => by kernel_rfl
  | 10, _ => exact fun _ => by kernel_rfl
  | 11, _ => exact fun _ => by kernel_rfl
  | 12, _ => exact fun _ => by kernel_rfl
  | 13, _ => exact fun _ => by kernel_rfl
  | 14, _ => exact fun _ => by kernel_rfl
  | 15, _ => exact fun _ => by kernel_rfl
  | 16, _ => exact fun _ => by kernel_rfl
  | 17, _ => exact fun _ => by kernel_rfl
  | 18, _ => exact fun _ => by kernel_rfl
  | 19, _ => exact fun _ => by kernel_rfl
  | 20, _ => exact fun _ => by kernel_rfl
  | 21, _ => exact fun _ => by kernel_rfl
  | 22, _ => exact fun _ => by kernel_rfl
  | (n + 23), h => omega

/-! The table aggShapes. -/
def tabAg : List Value := [.string ⟨#[]⟩, .string ⟨#[]⟩, .string ⟨#[]⟩, .bool false, .string ⟨#[115, 117, 109]⟩, .string ⟨#[118, 101, 99, 116, 111, 114]⟩, .string ⟨#[118, 101, 99, 116, 111, 114]⟩, .bool false, .string ⟨#[109, 105, 110]⟩, .string ⟨#[118, 101, 99, 116, 111, 114]⟩, .string ⟨#[118, 101, 99, 116, 111, 114]⟩, .bool false, .string ⟨#[109, 97, 120]⟩, .string ⟨#[118, 101, 99, 116, 111, 114]⟩, .string ⟨#[118, 101, 99, 116, 111, 114]⟩, .bool false, .string ⟨#[97, 118, 103]⟩, .string ⟨#[118, 101, 99, 116, 111, 114]⟩, .string ⟨#[118, 101, 99, 116, 111, 114]⟩, .bool false, .string ⟨#[99, 111, 117, 110, 116]⟩, .string ⟨#[118, 101, 99, 116, 111, 114]⟩, .string ⟨#[118, 101, 99, 116, 111, 114]⟩, .bool false, .string ⟨#[116, 111, 112, 107]⟩, .string ⟨#[110, 117, 109, 98, 101, 114, 32, 118, 101, 99, 116, 111, 114]⟩, .string ⟨#[118, 101, 99, 116, 111, 114]⟩, .bool false, .string ⟨#[98, 111, 116, 116, 111, 109, 107]⟩, .string ⟨#[110, 117, 109, 98, 101, 114, 32, 118, 101, 99, 116, 111, 114]⟩, .string ⟨#[118, 101, 99, 116, 111, 114]⟩, .bool false, .string ⟨#[113, 117, 97, 110, 116, 105, 108, 101]⟩, .string ⟨#[110, 117, 109, 98, 101, 114, 32, 118, 101, 99, 116, 111, 114]⟩, .string ⟨#[118, 101, 99, 116, 111, 114]⟩, .bool false]
def rowAg : List Cs := [([], [], [], false), ([115, 117, 109], [118, 101, 99, 116, 111, 114], [118, 101, 99, 116, 111, 114], false), ([109, 105, 110], [118, 101, 99, 116, 111, 114], [118, 101, 99, 116, 111, 114], false), ([109, 97, 120], [118, 101, 99, 116, 111, 114], [118, 101, 99, 116, 111, 114], false), ([97, 118, 103], [118, 101, 99, 116, 111, 114], [118, 101, 99, 116, 111, 114], false), ([99, 111, 117, 110, 116], [118, 101, 99, 116, 111, 114], [118, 101, 99, 116, 111, 114], false), ([116, 111, 112, 107], [110, 117, 109, 98, 101, 114, 32, 118, 101, 99, 116, 111, 114], [118, 101, 99, 116, 111, 114], false), ([98, 111, 116, 116, 111, 109, 107], [110, 117, 109, 98, 101, 114, 32, 118, 101, 99, 116, 111, 114], [118, 101, 99, 116, 111, 114], false), ([113, 117, 97, 110, 116, 105, 108, 101], [110, 117, 109, 98, 101, 114, 32, 118, 101, 99, 116, 111, 114], [118, 101, 99, 116, 111, 114], false)]
def gAg : Nat := 0
def TabAg (w : World) : Prop := 0 < w.heap.size ∧ ∀ i, i < 36 → w.cell? ⟨0, i, none⟩ = tabAg[i]?
theorem TabAg.below {w w' : World} (h : TabAg w) (hb : Below w.heap.size w w') : TabAg w' := ⟨Nat.lt_of_lt_of_le h.1 hb.size, fun i hi => (hb.cell (p := ⟨0, i, none⟩) h.1).trans (h.2 i hi)⟩
theorem laidAg {H : Type} : (Rows.laid_loop_example_g00039_impl_aggShapes : DataW H) = .agg (rowAg.map csD) := rfl
theorem tabAg_rows : ∀ k, k < 9 → (tabAg.drop (k * 4)).take 4 = csV (rowAg.getD k cs0) := by
  intro k hk
  match k, hk with
  | 0, _ => rfl
  | 1, _ => rfl
  | 2, _ => rfl
  | 3, _ => rfl
  | 4, _ => rfl
  | 5, _ => rfl
  | 6, _ => rfl
  | 7, _ => rfl
  | 8, _ => rfl
  | (n + 9), h => omega
theorem tabAg_cells {H : Type} {enc : TypeId × Value → H} {W : World} {base : Nat} {sp : Nat → Bool} {held : Bool} {n : Nat} {cs : List Value} {p : List MemPlace}
    (h : DataW.trod enc Tryz.prog W base sp held n 126 cs = some (Rows.laid_loop_example_g00039_impl_aggShapes, p)) (i : Nat) (hi : i < 36) : cs[i]? = tabAg[i]? := by
  rw [laidAg] at h
  obtain ⟨xs, m, _, hx, hl, hlen, hg⟩ := DataW.trod_array Tryz.underlying126 h
  have hxs : rowAg.map (fun r => (csD r : DataW H)) = xs.map (·.1) := by
    have := congrArg Prod.fst hx
    simpa using this
  have key : ∀ k, k < 9 → (cs.drop (k * 4)).take 4 = (tabAg.drop (k * 4)).take 4 := by
    intro k hk
    have g := hg k hk
    rw [cellsC] at g
    have hq : rowAg[k]? = some (rowAg.getD k cs0) := by
      rw [List.getD_eq_getElem?_getD, List.getElem?_eq_getElem (show k < rowAg.length from hk)]
      rfl
    have h2 : (xs.map (·.1))[k]? = some (csD (rowAg.getD k cs0)) := by rw [← hxs, List.getElem?_map, hq]; rfl
    rw [List.getElem?_map, Option.map_eq_some_iff] at h2
    obtain ⟨y, hy, hy1⟩ := h2
    rw [hy, show y = (y.1, y.2) from rfl, hy1] at g
    rw [cs_cells g, tabAg_rows k hk]
  have hk := key (i / 4) (by omega)
  have := congrArg (fun l => l[i % 4]?) hk
  simp only [List.getElem?_take, List.getElem?_drop] at this
  rw [if_pos (by omega), if_pos (by omega), show i / 4 * 4 + i % 4 = i from by omega] at this
  exact this
theorem numAg : Tryz.prog.globalNamed "loop.example/g00039/impl.aggShapes" = some 0 := by kernel_rfl
theorem typeAg : (Tryz.prog.globals[0]?).map (·.type) = some 126 := by kernel_rfl
theorem tabAg_of {W : World} {rest : List (String × DataW Unit)} (h : laidMet Tryz.prog (("loop.example/g00039/impl.aggShapes", Rows.laid_loop_example_g00039_impl_aggShapes) :: rest) W) : TabAg W := by
  obtain ⟨ps, ⟨g', t', cs, fuel, p, q, hg', ht', hvar, hd, _, _⟩, _⟩ := h
  obtain rfl := Option.some.inj (numAg.symm.trans hg')
  obtain rfl := Option.some.inj (typeAg.symm.trans ht')
  have key : ∀ i, i < 36 → W.cell? ⟨0, i, none⟩ = tabAg[i]? := by
    intro i hi
    have h1 := World.var?_cell numAg hvar i
    rw [h1, ← tabAg_cells hd i hi]
    simp
  refine ⟨?_, key⟩
  exact World.block_lt_of_cell? W ⟨0, 0, none⟩ (u := .string ⟨#[]⟩) (key 0 (by omega))
theorem loadAg {w : World} (h : TabAg w) : (loadCells ⟨0, 0, none⟩ 36).run Tryz.prog w = .ok tabAg.toArray w := by
  have := load_from (P := Tryz.prog) w 0 36 0 tabAg #[] rfl (fun j hj => by rw [Nat.zero_add]; exact h.2 j hj)
  simpa [loadCells] using this
theorem sizeAg (w : World) : (sizeOf 126).run Tryz.prog w = .ok 36 w := by kernel_rfl
theorem aggAg (w : World) : (isAgg 126).run Tryz.prog w = .ok true w := by kernel_rfl
theorem loadAtAg {w : World} (h : TabAg w) : (Instr.loadAt 126 (.pointer (some ⟨0, 0, none⟩))).run Tryz.prog w = .ok (.agg tabAg.toArray) w := by
  unfold Instr.loadAt loadVar
  simp only [Instr.sureAddr, Sem.run_bind, Sem.run_pure, aggAg, sizeAg, loadAg h, if_true, Result.andThen]
theorem execTAg {w : World} (h : TabAg w) (a : Act) (o : Oper) (ho : o.op = .load 126 (.global 0)) : (execOp a.eval o).run Tryz.prog w = .ok (.value (.agg tabAg.toArray)) w := by
  have e : a.eval (.global 0) = .pointer (some ⟨0, 0, none⟩) := rfl
  unfold execOp
  simp only [ho, e, Sem.run_bind, Sem.run_pure, loadAtAg h, Result.andThen]
def arrAg (k : Nat) : Array Value := (csV (rowAg.getD k cs0)).toArray
set_option maxRecDepth 1000000 in
theorem indexAg : ∀ k : Nat, k < 9 → ∀ w : World, (Instr.index 126 (.agg tabAg.toArray) (.int .i64 (k : Int))).run Tryz.prog w = .ok (.agg (arrAg k)) w := by
  intro k hk
  match k, hk with
  | 0, _ => exact fun _ => by kernel_rfl
  | 1, _ => exact fun _ => by kernel_rfl
  | 2, _ => exact fun _ => by kernel_rfl
  | 3, _ => exact fun _ => by kernel_rfl
  | 4, _ => exact fun _ => by kernel_rfl
  | 5, _ => exact fun _ => by kernel_rfl
  | 6, _ => exact fun _ => by kernel_rfl
  | 7, _ => exact fun _ => by kernel_rfl
  | 8, _ => exact fun _ => by kernel_rfl
  | (n + 9), h => omega

/-! The table opShapes. -/
def tabOp : List Value := [.string ⟨#[]⟩, .int .i64 0, .string ⟨#[43]⟩, .int .i64 4, .string ⟨#[45]⟩, .int .i64 4, .string ⟨#[42]⟩, .int .i64 5, .string ⟨#[47]⟩, .int .i64 5, .string ⟨#[37]⟩, .int .i64 5, .string ⟨#[61, 61]⟩, .int .i64 3, .string ⟨#[33, 61]⟩, .int .i64 3, .string ⟨#[62]⟩, .int .i64 3, .string ⟨#[60]⟩, .int .i64 3, .string ⟨#[62, 61]⟩, .int .i64 3, .string ⟨#[60, 61]⟩, .int .i64 3, .string ⟨#[97, 110, 100]⟩, .int .i64 2, .string ⟨#[117, 110, 108, 101, 115, 115]⟩, .int .i64 2, .string ⟨#[111, 114]⟩, .int .i64 1]
def rowOp : List Os := [([], 0), ([43], 4), ([45], 4), ([42], 5), ([47], 5), ([37], 5), ([61, 61], 3), ([33, 61], 3), ([62], 3), ([60], 3), ([62, 61], 3), ([60, 61], 3), ([97, 110, 100], 2), ([117, 110, 108, 101, 115, 115], 2), ([111, 114], 1)]
def gOp : Nat := 1
def TabOp (w : World) : Prop := 1 < w.heap.size ∧ ∀ i, i < 30 → w.cell? ⟨1, i, none⟩ = tabOp[i]?
theorem TabOp.below {w w' : World} (h : TabOp w) (hb : Below w.heap.size w w') : TabOp w' := ⟨Nat.lt_of_lt_of_le h.1 hb.size, fun i hi => (hb.cell (p := ⟨1, i, none⟩) h.1).trans (h.2 i hi)⟩
theorem laidOp {H : Type} : (Rows.laid_loop_example_g00039_impl_opShapes : DataW H) = .agg (rowOp.map osD) := rfl
theorem tabOp_rows : ∀ k, k < 15 → (tabOp.drop (k * 2)).take 2 = osV (rowOp.getD k os0) := by
  intro k hk
  match k, hk with
  | 0, _ => rfl
  | 1, _ => rfl
  | 2, _ => rfl
  | 3, _ => rfl
  | 4, _ => rfl
  | 5, _ => rfl
  | 6, _ => rfl
  | 7, _ => rfl
  | 8, _ => rfl
  | 9, _ => rfl
  | 10, _ => rfl
  | 11, _ => rfl
  | 12, _ => rfl
  | 13, _ => rfl
  | 14, _ => rfl
  | (n + 15), h => omega
theorem tabOp_cells {H : Type} {enc : TypeId × Value → H} {W : World} {base : Nat} {sp : Nat → Bool} {held : Bool} {n : Nat} {cs : List Value} {p : List MemPlace}
    (h : DataW.trod enc Tryz.prog W base sp held n 167 cs = some (Rows.laid_loop_example_g00039_impl_opShapes, p)) (i : Nat) (hi : i < 30) : cs[i]? = tabOp[i]? := by
  rw [laidOp] at h
  obtain ⟨xs, m, _, hx, hl, hlen, hg⟩ := DataW.trod_array Tryz.underlying167 h
  have hxs : rowOp.map (fun r => (osD r : DataW H)) = xs.map (·.1) := by
    have := congrArg Prod.fst hx
    simpa using this
  have key : ∀ k, k < 15 → (cs.drop (k * 2)).take 2 = (tabOp.drop (k * 2)).take 2 := by
    intro k hk
    have g := hg k hk
    rw [cellsO] at g
    have hq : rowOp[k]? = some (rowOp.getD k os0) := by
      rw [List.getD_eq_getElem?_getD, List.getElem?_eq_getElem (show k < rowOp.length from hk)]
      rfl
    have h2 : (xs.map (·.1))[k]? = some (osD (rowOp.getD k os0)) := by rw [← hxs, List.getElem?_map, hq]; rfl
    rw [List.getElem?_map, Option.map_eq_some_iff] at h2
    obtain ⟨y, hy, hy1⟩ := h2
    rw [hy, show y = (y.1, y.2) from rfl, hy1] at g
    rw [os_cells g, tabOp_rows k hk]
  have hk := key (i / 2) (by omega)
  have := congrArg (fun l => l[i % 2]?) hk
  simp only [List.getElem?_take, List.getElem?_drop] at this
  rw [if_pos (by omega), if_pos (by omega), show i / 2 * 2 + i % 2 = i from by omega] at this
  exact this
theorem numOp : Tryz.prog.globalNamed "loop.example/g00039/impl.opShapes" = some 1 := by kernel_rfl
theorem typeOp : (Tryz.prog.globals[1]?).map (·.type) = some 167 := by kernel_rfl
theorem tabOp_of {W : World} {rest : List (String × DataW Unit)} (h : laidMet Tryz.prog (("loop.example/g00039/impl.opShapes", Rows.laid_loop_example_g00039_impl_opShapes) :: rest) W) : TabOp W := by
  obtain ⟨ps, ⟨g', t', cs, fuel, p, q, hg', ht', hvar, hd, _, _⟩, _⟩ := h
  obtain rfl := Option.some.inj (numOp.symm.trans hg')
  obtain rfl := Option.some.inj (typeOp.symm.trans ht')
  have key : ∀ i, i < 30 → W.cell? ⟨1, i, none⟩ = tabOp[i]? := by
    intro i hi
    have h1 := World.var?_cell numOp hvar i
    rw [h1, ← tabOp_cells hd i hi]
    simp
  refine ⟨?_, key⟩
  exact World.block_lt_of_cell? W ⟨1, 0, none⟩ (u := .string ⟨#[]⟩) (key 0 (by omega))
theorem loadOp {w : World} (h : TabOp w) : (loadCells ⟨1, 0, none⟩ 30).run Tryz.prog w = .ok tabOp.toArray w := by
  have := load_from (P := Tryz.prog) w 1 30 0 tabOp #[] rfl (fun j hj => by rw [Nat.zero_add]; exact h.2 j hj)
  simpa [loadCells] using this
theorem sizeOp (w : World) : (sizeOf 167).run Tryz.prog w = .ok 30 w := by kernel_rfl
theorem aggOp (w : World) : (isAgg 167).run Tryz.prog w = .ok true w := by kernel_rfl
theorem loadAtOp {w : World} (h : TabOp w) : (Instr.loadAt 167 (.pointer (some ⟨1, 0, none⟩))).run Tryz.prog w = .ok (.agg tabOp.toArray) w := by
  unfold Instr.loadAt loadVar
  simp only [Instr.sureAddr, Sem.run_bind, Sem.run_pure, aggOp, sizeOp, loadOp h, if_true, Result.andThen]
theorem execTOp {w : World} (h : TabOp w) (a : Act) (o : Oper) (ho : o.op = .load 167 (.global 1)) : (execOp a.eval o).run Tryz.prog w = .ok (.value (.agg tabOp.toArray)) w := by
  have e : a.eval (.global 1) = .pointer (some ⟨1, 0, none⟩) := rfl
  unfold execOp
  simp only [ho, e, Sem.run_bind, Sem.run_pure, loadAtOp h, Result.andThen]
def arrOp (k : Nat) : Array Value := (osV (rowOp.getD k os0)).toArray
set_option maxRecDepth 1000000 in
theorem indexOp : ∀ k : Nat, k < 15 → ∀ w : World, (Instr.index 167 (.agg tabOp.toArray) (.int .i64 (k : Int))).run Tryz.prog w = .ok (.agg (arrOp k)) w := by
  intro k hk
  match k, hk with
  | 0, _ => exact fun _ => by kernel_rfl
  | 1, _ => exact fun _ => by kernel_rfl
  | 2, _ => exact fun _ => by kernel_rfl
  | 3, _ => exact fun _ => by kernel_rfl
  | 4, _ => exact fun _ => by kernel_rfl
  | 5, _ => exact fun _ => by kernel_rfl
  | 6, _ => exact fun _ => by kernel_rfl
  | 7, _ => exact fun _ => by kernel_rfl
  | 8, _ => exact fun _ => by kernel_rfl
  | 9, _ => exact fun _ => by kernel_rfl
  | 10, _ => exact fun _ => by kernel_rfl
  | 11, _ => exact fun _ => by kernel_rfl
  | 12, _ => exact fun _ => by kernel_rfl
  | 13, _ => exact fun _ => by kernel_rfl
  | 14, _ => exact fun _ => by kernel_rfl
  | (n + 15), h => omega

/-! The library's table of spaces. -/
theorem numSp : Tryz.prog.globalNamed "strings.asciiSpace" = some 3 := by kernel_rfl
theorem typeSp : (Tryz.prog.globals[3]?).map (·.type) = some 215 := by kernel_rfl
theorem cellsSp : Tryz.prog.cellsOf 215 = 256 := by kernel_rfl
theorem cellsU8 : Tryz.prog.cellsOf 5 = 1 := by kernel_rfl
def TabSp (w : World) : Prop := 3 < w.heap.size ∧ Lib.TabIs Tryz.prog w "strings.asciiSpace" .u8 Lib.asciiSpaceTab
theorem TabSp.below {w w' : World} (h : TabSp w) (hb : Below w.heap.size w w') : TabSp w' := by
  refine ⟨Nat.lt_of_lt_of_le h.1 hb.size, ?_⟩
  have h2 := h.2
  unfold Lib.TabIs World.var? at h2 ⊢
  rw [numSp] at h2 ⊢
  simp only [Option.bind_some] at h2 ⊢
  rw [hb.block 3 h.1]
  exact h2
set_option maxRecDepth 100000 in
theorem laidSp {H : Type} : (Rows.laid_strings_asciiSpace : DataW H) = Lib.tabData .u8 Lib.asciiSpaceTab := rfl
theorem tabSp_of {W : World} {rest : List (String × DataW Unit)} (h : laidMet Tryz.prog (("strings.asciiSpace", Rows.laid_strings_asciiSpace) :: rest) W) : TabSp W := by
  rw [laidSp] at h
  have ht := Lib.tabIs_of_head numSp typeSp Tryz.underlying215 Tryz.underlying5 cellsU8 cellsSp h
  have hc := ht.cell numSp 0 (by rw [Lib.asciiSpaceTab_length]; omega)
  exact ⟨World.block_lt_of_cell? W ⟨3, 0, none⟩ hc, ht⟩
/-- All the tables. -/
structure Tabs (w : World) : Prop where
  fn : TabFn w
  ag : TabAg w
  op : TabOp w
  sp : TabSp w
theorem Tabs.below {w w' : World} (h : Tabs w) (hb : Below w.heap.size w w') : Tabs w' := ⟨h.fn.below hb, h.ag.below hb, h.op.below hb, h.sp.below hb⟩
end Go.Proofs.YtbdlahhejfamhaaGreatDoor.Qry
