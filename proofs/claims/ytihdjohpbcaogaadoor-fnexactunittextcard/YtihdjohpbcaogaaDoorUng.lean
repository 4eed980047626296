/- The variable timeUnits: what its cells hold where it reads as its text lays it. -/
import Derived.Test.YtihdjohpbcaogaaDoorUnd
import Derived.Test.YtihdjohpbcaogaaDoorRows
import Derived.Lib.LaidTab
import Derived.Deep.Fields
import Derived.ChangeArms
namespace Go.Proofs.YtihdjohpbcaogaaDoor.Unt
open Go.ChangeShapes Go.WideShapes Go.ChangeAt Go.RowKit Go.Deep Go.Lib

theorem list2 {α : Type} {l : List α} (h : l.length = 2) : ∃ c0 c1, l = [c0, c1] := by
  match l, h with
  | [c0, c1], _ => exact ⟨c0, c1, rfl⟩
theorem one33 : ∀ fs, Tryd.prog.underlying 33 = some (.struct fs) → oneCellFields Tryd.prog fs = true := by
  intro fs h
  obtain rfl := TypeDesc.struct.inj (Option.some.inj (Tryd.underlying33.symm.trans h))
  kernel_rfl
theorem cells33 : Tryd.prog.cellsOf 33 = 2 := by kernel_rfl
def tuD {H : Type} (n : Int) (z : List UInt8) : DataW H := .agg [.lit (.int .i64 n), .lit (.string z)]
theorem int_cell {H : Type} {enc : TypeId × Value → H} {W : World} {base : Nat} {sp : Nat → Bool} {held : Bool} {m : Nat} {c : Value} {n : Int} {p : List MemPlace} (h : DataW.trod enc Tryd.prog W base sp held m 3 [c] = some (.lit (.int .i64 n), p)) : c = .int .i64 n := by
  obtain ⟨n', e, hx, _⟩ := DataW.trod_int Tryd.underlying3 h
  simp only [List.cons.injEq, and_true] at e
  simp at hx
  rw [e, hx.1]
theorem str_cell {H : Type} {enc : TypeId × Value → H} {W : World} {base : Nat} {sp : Nat → Bool} {held : Bool} {n : Nat} {c : Value} {z : List UInt8} {p : List MemPlace} (h : DataW.trod enc Tryd.prog W base sp held n 9 [c] = some (.lit (.string z), p)) : c = .string ⟨z.toArray⟩ := by
  obtain ⟨s, e, hx, _⟩ := DataW.trod_string Tryd.underlying9 h
  simp only [List.cons.injEq, and_true] at e
  simp at hx
  rw [e, hx.1]
theorem unit_cells {H : Type} {enc : TypeId × Value → H} {W : World} {base : Nat} {sp : Nat → Bool} {held : Bool} {m : Nat} {l : List Value} {n : Int} {z : List UInt8} {p : List MemPlace}
    (h : DataW.trod enc Tryd.prog W base sp held m 33 l = some (tuD n z, p)) : l = [.int .i64 n, .string ⟨z.toArray⟩] := by
  obtain ⟨xs, m, _, hx, hl, hlen, hg⟩ := DataW.trod_struct Tryd.underlying33 h
  obtain ⟨c0, c1, rfl⟩ := list2 (hl.trans cells33)
  have hone := one33 _ Tryd.underlying33
  match xs, hlen with
  | [y0, y1], _ =>
    simp only [tuD, Prod.mk.injEq, DataW.agg.injEq, List.map_cons, List.map_nil, List.cons.injEq, and_true] at hx
    obtain ⟨⟨e0, e1⟩, _⟩ := hx
    have g0 := hg 0 _ rfl
    have g1 := hg 1 _ rfl
    obtain ⟨o0, k0⟩ := hone_of hone 0 _ rfl
    obtain ⟨o1, k1⟩ := hone_of hone 1 _ rfl
    obtain ⟨y0a, y0b⟩ := y0
    obtain ⟨y1a, y1b⟩ := y1
    simp only at e0 e1
    subst e0 e1
    rw [int_cell (c := c0) (by rw [o0, k0] at g0; exact g0), str_cell (c := c1) (by rw [o1, k1] at g1; exact g1)]
def tabL : List Value := [.int .i64 86400, .string (mkS [100]), .int .i64 3600, .string (mkS [104]), .int .i64 60, .string (mkS [109]), .int .i64 1, .string (mkS [115])]
theorem tab_cells {H : Type} {enc : TypeId × Value → H} {W : World} {base : Nat} {sp : Nat → Bool} {held : Bool} {n : Nat} {cs : List Value} {p : List MemPlace}
    (h : DataW.trod enc Tryd.prog W base sp held n 34 cs = some (Rows.laid_loop_example_g00039_impl_timeUnits, p)) (i : Nat) (hi : i < 8) : cs[i]? = tabL[i]? := by
  obtain ⟨xs, m, _, hx, hl, hlen, hg⟩ := DataW.trod_array Tryd.underlying34 h
  have key : ∀ k, k < 4 → (cs.drop (k * 2)).take 2 = (tabL.drop (k * 2)).take 2 := by
    match xs, hlen with
    | [y0, y1, y2, y3], _ =>
      simp only [Rows.laid_loop_example_g00039_impl_timeUnits, Prod.mk.injEq, DataW.agg.injEq, List.map_cons, List.map_nil, List.cons.injEq, and_true] at hx
      obtain ⟨⟨e0, e1, e2, e3⟩, _⟩ := hx
      intro k hk
      have g := hg k hk
      rw [cells33] at g
      rcases (show k = 0 ∨ k = 1 ∨ k = 2 ∨ k = 3 by omega) with rfl | rfl | rfl | rfl
      · exact unit_cells (n := 86400) (z := [100]) (p := y0.2) (g.trans (by show some y0 = _; rw [show y0 = (y0.1, y0.2) from rfl, ← e0]; rfl))
      · exact unit_cells (n := 3600) (z := [104]) (p := y1.2) (g.trans (by show some y1 = _; rw [show y1 = (y1.1, y1.2) from rfl, ← e1]; rfl))
      · exact unit_cells (n := 60) (z := [109]) (p := y2.2) (g.trans (by show some y2 = _; rw [show y2 = (y2.1, y2.2) from rfl, ← e2]; rfl))
      · exact unit_cells (n := 1) (z := [115]) (p := y3.2) (g.trans (by show some y3 = _; rw [show y3 = (y3.1, y3.2) from rfl, ← e3]; rfl))
  have hk := key (i / 2) (by omega)
  have := congrArg (fun l => l[i % 2]?) hk
  simp only [List.getElem?_take, List.getElem?_drop] at this
  rw [if_pos (by omega), if_pos (by omega), show i / 2 * 2 + i % 2 = i from by omega] at this
  exact this
theorem gTab : Tryd.prog.globalNamed "loop.example/g00039/impl.timeUnits" = some 0 := by kernel_rfl
theorem gTabType : (Tryd.prog.globals[0]?).map (·.type) = some 34 := by kernel_rfl
theorem tab_of {W : World} {rest : List (String × DataW Unit)} (h : laidMet Tryd.prog (("loop.example/g00039/impl.timeUnits", Rows.laid_loop_example_g00039_impl_timeUnits) :: rest) W) : Tun W := by
  obtain ⟨ps, ⟨g', t', cs, fuel, p, q, hg', ht', hvar, hd, _, _⟩, _⟩ := h
  obtain rfl := Option.some.inj (gTab.symm.trans hg')
  obtain rfl := Option.some.inj (gTabType.symm.trans ht')
  have key : ∀ i, i < 8 → W.cell? ⟨0, i, none⟩ = tabL[i]? := by
    intro i hi
    have h1 := World.var?_cell gTab hvar i
    rw [h1, ← tab_cells hd i hi]
    simp
  exact ⟨World.block_lt_of_cell? W ⟨0, 0, none⟩ (u := .int .i64 86400) (key 0 (by omega)), key 0 (by omega), key 1 (by omega), key 2 (by omega), key 3 (by omega), key 4 (by omega), key 5 (by omega), key 6 (by omega), key 7 (by omega)⟩
end Go.Proofs.YtihdjohpbcaogaaDoor.Unt
