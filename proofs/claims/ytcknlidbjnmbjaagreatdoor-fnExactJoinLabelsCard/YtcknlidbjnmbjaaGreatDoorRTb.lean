/- The variable relabelShapes: what its cells hold where it reads as its text lays it. -/
import Derived.Test.YtcknlidbjnmbjaaGreatDoorRQF
import Derived.Test.YtcknlidbjnmbjaaGreatDoorROP
import Derived.Lib.LaidTab
namespace Go.Proofs.YtcknlidbjnmbjaaGreatDoor.Rel
open Go.ChangeShapes Go.WideShapes Go.ChangeAt Go.RowKit Go.Deep Go.WideElems Go.Maps Go.Proofs.YtcknlidbjnmbjaaGreatDoor.Fil Go.Lib

theorem list6 {α : Type} {l : List α} (h : l.length = 6) : ∃ c0 c1 c2 c3 c4 c5, l = [c0, c1, c2, c3, c4, c5] := by
  match l, h with
  | [c0, c1, c2, c3, c4, c5], _ => exact ⟨c0, c1, c2, c3, c4, c5, rfl⟩
theorem one109 : ∀ fs, Tryz.prog.underlying 103 = some (.struct fs) → oneCellFields Tryz.prog fs = true := by
  intro fs h
  obtain rfl := TypeDesc.struct.inj (Option.some.inj (Tryz.underlying103.symm.trans h))
  kernel_rfl
theorem cells109 : Tryz.prog.cellsOf 103 = 6 := by kernel_rfl
theorem cells110 : Tryz.prog.cellsOf 104 = 54 := by kernel_rfl
def shD {H : Type} (z : List UInt8) (b1 b2 b3 b4 b5 : Bool) : DataW H := .agg [.lit (.string z), .lit (.bool b1), .lit (.bool b2), .lit (.bool b3), .lit (.bool b4), .lit (.bool b5)]
theorem bool_cell {H : Type} {enc : TypeId × Value → H} {W : World} {base : Nat} {sp : Nat → Bool} {held : Bool} {n : Nat} {c : Value} {b : Bool} {p : List MemPlace} (h : DataW.trod enc Tryz.prog W base sp held n 4 [c] = some (.lit (.bool b), p)) : c = .bool b := by
  obtain ⟨b', e, hx⟩ := DataW.trod_bool Tryz.underlying4 h
  simp only [List.cons.injEq, and_true] at e
  simp at hx
  rw [e, hx.1]
theorem str_cell {H : Type} {enc : TypeId × Value → H} {W : World} {base : Nat} {sp : Nat → Bool} {held : Bool} {n : Nat} {c : Value} {z : List UInt8} {p : List MemPlace} (h : DataW.trod enc Tryz.prog W base sp held n 9 [c] = some (.lit (.string z), p)) : c = .string ⟨z.toArray⟩ := by
  obtain ⟨s, e, hx, _⟩ := DataW.trod_string Tryz.underlying9 h
  simp only [List.cons.injEq, and_true] at e
  simp at hx
  rw [e, hx.1]
theorem shape_cells {H : Type} {enc : TypeId × Value → H} {W : World} {base : Nat} {sp : Nat → Bool} {held : Bool} {n : Nat} {l : List Value} {z : List UInt8} {b1 b2 b3 b4 b5 : Bool} {p : List MemPlace}
    (h : DataW.trod enc Tryz.prog W base sp held n 103 l = some (shD z b1 b2 b3 b4 b5, p)) : l = [.string ⟨z.toArray⟩, .bool b1, .bool b2, .bool b3, .bool b4, .bool b5] := by
  obtain ⟨xs, m, _, hx, hl, hlen, hg⟩ := DataW.trod_struct Tryz.underlying103 h
  obtain ⟨c0, c1, c2, c3, c4, c5, rfl⟩ := list6 (hl.trans cells109)
  have hone := one109 _ Tryz.underlying103
  match xs, hlen with
  | [y0, y1, y2, y3, y4, y5], _ =>
    simp only [shD, Prod.mk.injEq, DataW.agg.injEq, List.map_cons, List.map_nil, List.cons.injEq, and_true] at hx
    obtain ⟨⟨e0, e1, e2, e3, e4, e5⟩, _⟩ := hx
    have g0 := hg 0 _ rfl
    have g1 := hg 1 _ rfl
    have g2 := hg 2 _ rfl
    have g3 := hg 3 _ rfl
    have g4 := hg 4 _ rfl
    have g5 := hg 5 _ rfl
    obtain ⟨o0, k0⟩ := hone_of hone 0 _ rfl
    obtain ⟨o1, k1⟩ := hone_of hone 1 _ rfl
    obtain ⟨o2, k2⟩ := hone_of hone 2 _ rfl
    obtain ⟨o3, k3⟩ := hone_of hone 3 _ rfl
    obtain ⟨o4, k4⟩ := hone_of hone 4 _ rfl
    obtain ⟨o5, k5⟩ := hone_of hone 5 _ rfl
    obtain ⟨y0a, y0b⟩ := y0
    obtain ⟨y1a, y1b⟩ := y1
    obtain ⟨y2a, y2b⟩ := y2
    obtain ⟨y3a, y3b⟩ := y3
    obtain ⟨y4a, y4b⟩ := y4
    obtain ⟨y5a, y5b⟩ := y5
    simp only at e0 e1 e2 e3 e4 e5
    subst e0 e1 e2 e3 e4 e5
    rw [str_cell (c := c0) (by rw [o0, k0] at g0; exact g0), bool_cell (c := c1) (by rw [o1, k1] at g1; exact g1), bool_cell (c := c2) (by rw [o2, k2] at g2; exact g2), bool_cell (c := c3) (by rw [o3, k3] at g3; exact g3), bool_cell (c := c4) (by rw [o4, k4] at g4; exact g4), bool_cell (c := c5) (by rw [o5, k5] at g5; exact g5)]
theorem tab_cells {H : Type} {enc : TypeId × Value → H} {W : World} {base : Nat} {sp : Nat → Bool} {held : Bool} {n : Nat} {cs : List Value} {p : List MemPlace}
    (h : DataW.trod enc Tryz.prog W base sp held n 104 cs = some (Rows.laid_loop_example_g00039_impl_relabelShapes, p)) (i : Nat) (hi : i < 54) : cs[i]? = tabL[i]? := by
  obtain ⟨xs, m, _, hx, hl, hlen, hg⟩ := DataW.trod_array Tryz.underlying104 h
  have key : ∀ k, k < 9 → (cs.drop (k * 6)).take 6 = (tabL.drop (k * 6)).take 6 := by
    match xs, hlen with
    | [y0, y1, y2, y3, y4, y5, y6, y7, y8], _ =>
      simp only [Rows.laid_loop_example_g00039_impl_relabelShapes, Prod.mk.injEq, DataW.agg.injEq, List.map_cons, List.map_nil, List.cons.injEq, and_true] at hx
      obtain ⟨⟨e0, e1, e2, e3, e4, e5, e6, e7, e8⟩, _⟩ := hx
      intro k hk
      have g := hg k hk
      rw [cells109] at g
      rcases (show k = 0 ∨ k = 1 ∨ k = 2 ∨ k = 3 ∨ k = 4 ∨ k = 5 ∨ k = 6 ∨ k = 7 ∨ k = 8 by omega) with rfl | rfl | rfl | rfl | rfl | rfl | rfl | rfl | rfl
      · exact shape_cells (z := []) (b1 := false) (b2 := false) (b3 := false) (b4 := false) (b5 := false) (p := y0.2) (g.trans (by show some y0 = _; rw [show y0 = (y0.1, y0.2) from rfl, ← e0]; rfl))
      · exact shape_cells (z := [107, 101, 101, 112]) (b1 := true) (b2 := true) (b3 := false) (b4 := false) (b5 := false) (p := y1.2) (g.trans (by show some y1 = _; rw [show y1 = (y1.1, y1.2) from rfl, ← e1]; rfl))
      · exact shape_cells (z := [100, 114, 111, 112]) (b1 := true) (b2 := true) (b3 := false) (b4 := false) (b5 := false) (p := y2.2) (g.trans (by show some y2 = _; rw [show y2 = (y2.1, y2.2) from rfl, ← e2]; rfl))
      · exact shape_cells (z := [115, 101, 116]) (b1 := true) (b2 := true) (b3 := true) (b4 := true) (b5 := false) (p := y3.2) (g.trans (by show some y3 = _; rw [show y3 = (y3.1, y3.2) from rfl, ← e3]; rfl))
      · exact shape_cells (z := [109, 111, 100]) (b1 := true) (b2 := false) (b3 := true) (b4 := false) (b5 := true) (p := y4.2) (g.trans (by show some y4 = _; rw [show y4 = (y4.1, y4.2) from rfl, ← e4]; rfl))
      · exact shape_cells (z := [109, 97, 112]) (b1 := false) (b2 := true) (b3 := false) (b4 := true) (b5 := false) (p := y5.2) (g.trans (by show some y5 = _; rw [show y5 = (y5.1, y5.2) from rfl, ← e5]; rfl))
      · exact shape_cells (z := [107, 101, 101, 112, 110, 97, 109, 101, 115]) (b1 := false) (b2 := true) (b3 := false) (b4 := false) (b5 := false) (p := y6.2) (g.trans (by show some y6 = _; rw [show y6 = (y6.1, y6.2) from rfl, ← e6]; rfl))
      · exact shape_cells (z := [100, 114, 111, 112, 110, 97, 109, 101, 115]) (b1 := false) (b2 := true) (b3 := false) (b4 := false) (b5 := false) (p := y7.2) (g.trans (by show some y7 = _; rw [show y7 = (y7.1, y7.2) from rfl, ← e7]; rfl))
      · exact shape_cells (z := [108, 111, 119, 101, 114]) (b1 := true) (b2 := false) (b3 := true) (b4 := false) (b5 := false) (p := y8.2) (g.trans (by show some y8 = _; rw [show y8 = (y8.1, y8.2) from rfl, ← e8]; rfl))
  have hk := key (i / 6) (by omega)
  have := congrArg (fun l => l[i % 6]?) hk
  simp only [List.getElem?_take, List.getElem?_drop] at this
  rw [if_pos (by omega), if_pos (by omega), show i / 6 * 6 + i % 6 = i from by omega] at this
  exact this
theorem gTab : Tryz.prog.globalNamed "loop.example/g00039/impl.relabelShapes" = some 0 := by kernel_rfl
theorem gTabType : (Tryz.prog.globals[0]?).map (·.type) = some 104 := by kernel_rfl
theorem tab_of {W : World} {rest : List (String × DataW Unit)} (h : laidMet Tryz.prog (("loop.example/g00039/impl.relabelShapes", Rows.laid_loop_example_g00039_impl_relabelShapes) :: rest) W) : Tab W := by
  obtain ⟨ps, ⟨g', t', cs, fuel, p, q, hg', ht', hvar, hd, _, _⟩, _⟩ := h
  obtain rfl := Option.some.inj (gTab.symm.trans hg')
  obtain rfl := Option.some.inj (gTabType.symm.trans ht')
  have key : ∀ i, i < 54 → W.cell? ⟨0, i, none⟩ = tabL[i]? := by
    intro i hi
    have h1 := World.var?_cell gTab hvar i
    rw [h1, ← tab_cells hd i hi]
    simp
  refine ⟨?_, key⟩
  exact World.block_lt_of_cell? W ⟨0, 0, none⟩ (u := .string ⟨#[]⟩) (key 0 (by omega))
end Go.Proofs.YtcknlidbjnmbjaaGreatDoor.Rel
