/- The variables monthDays and rangeLimits: what their cells hold where they read as their texts lay them. -/
import Derived.Test.YtcnilidckicccaaDoorCle
import Derived.Test.YtcnilidckicccaaDoorRows
import Derived.Lib.LaidTab
import Derived.Deep.Fields
import Derived.ChangeArms
namespace Go.Proofs.YtcnilidckicccaaDoor.Cal
open Go.ChangeShapes Go.WideShapes Go.ChangeAt Go.RowKit Go.Deep Go.Lib

/-- What a list gives, its tail gives. -/
theorem laid_tail {P : Program} {W : World} {x : String × DataW Unit} {rest : List (String × DataW Unit)} (h : laidMet P (x :: rest) W) : laidMet P rest W := by
  obtain ⟨n, d⟩ := x
  obtain ⟨ps, ⟨g, t, cs, fuel, p, q, _, _, _, _, hq, rfl⟩, hnd, hall⟩ := h
  exact ⟨q, hq, (List.nodup_append.1 hnd).2.1, fun b off hm => hall b off (List.mem_append_right _ hm)⟩
theorem gM : Tryd.prog.globalNamed "loop.example/g00039/impl.monthDays" = some 1 := by kernel_rfl
theorem gMType : (Tryd.prog.globals[1]?).map (·.type) = some 82 := by kernel_rfl
theorem cellsM : Tryd.prog.cellsOf 82 = 12 := by kernel_rfl
theorem cellsI : Tryd.prog.cellsOf 3 = 1 := by kernel_rfl
theorem monData : (Rows.laid_loop_example_g00039_impl_monthDays : DataW Unit) = Lib.tabData .i64 mt := by rfl
theorem mon_of {W : World} {rest : List (String × DataW Unit)} (h : laidMet Tryd.prog (("loop.example/g00039/impl.monthDays", Rows.laid_loop_example_g00039_impl_monthDays) :: rest) W) : Mon W := by
  rw [monData] at h
  have h4 := Lib.tabIs_of_head gM gMType Tryd.underlying82 Tryd.underlying3 cellsI cellsM h
  exact ⟨World.block_lt_of_cell? W ⟨1, 0, none⟩ (Lib.TabIs.cell h4 gM 0 (by decide)), fun k hk => by
    have := Lib.TabIs.cell h4 gM k (by simpa [mt] using hk)
    rw [this]⟩
theorem gR : Tryd.prog.globalNamed "loop.example/g00039/impl.rangeLimits" = some 0 := by kernel_rfl
theorem gRType : (Tryd.prog.globals[0]?).map (·.type) = some 80 := by kernel_rfl
theorem list2 {α : Type} {l : List α} (h : l.length = 2) : ∃ c0 c1, l = [c0, c1] := by
  match l, h with
  | [c0, c1], _ => exact ⟨c0, c1, rfl⟩
theorem oneR : ∀ fs, Tryd.prog.underlying 55 = some (.struct fs) → oneCellFields Tryd.prog fs = true := by
  intro fs h
  obtain rfl := TypeDesc.struct.inj (Option.some.inj (Tryd.underlying55.symm.trans h))
  kernel_rfl
theorem cellsR : Tryd.prog.cellsOf 55 = 2 := by kernel_rfl
def rgD {H : Type} (a b : Int) : DataW H := .agg [.lit (.int .i64 a), .lit (.int .i64 b)]
theorem int_cell {H : Type} {enc : TypeId × Value → H} {W : World} {base : Nat} {sp : Nat → Bool} {held : Bool} {m : Nat} {c : Value} {n : Int} {p : List MemPlace} (h : DataW.trod enc Tryd.prog W base sp held m 3 [c] = some (.lit (.int .i64 n), p)) : c = .int .i64 n := by
  obtain ⟨n', e, hx, _⟩ := DataW.trod_int Tryd.underlying3 h
  simp only [List.cons.injEq, and_true] at e
  simp at hx
  rw [e, hx.1]
theorem range_cells {H : Type} {enc : TypeId × Value → H} {W : World} {base : Nat} {sp : Nat → Bool} {held : Bool} {m : Nat} {l : List Value} {a b : Int} {p : List MemPlace}
    (h : DataW.trod enc Tryd.prog W base sp held m 55 l = some (rgD a b, p)) : l = [.int .i64 a, .int .i64 b] := by
  obtain ⟨xs, m, _, hx, hl, hlen, hg⟩ := DataW.trod_struct Tryd.underlying55 h
  obtain ⟨c0, c1, rfl⟩ := list2 (hl.trans cellsR)
  have hone := oneR _ Tryd.underlying55
  match xs, hlen with
  | [y0, y1], _ =>
    simp only [rgD, Prod.mk.injEq, DataW.agg.injEq, List.map_cons, List.map_nil, List.cons.injEq, and_true] at hx
    obtain ⟨⟨e0, e1⟩, _⟩ := hx
    have g0 := hg 0 _ rfl
    have g1 := hg 1 _ rfl
    obtain ⟨o0, k0⟩ := hone_of hone 0 _ rfl
    obtain ⟨o1, k1⟩ := hone_of hone 1 _ rfl
    obtain ⟨y0a, y0b⟩ := y0
    obtain ⟨y1a, y1b⟩ := y1
    simp only at e0 e1
    subst e0 e1
    rw [int_cell (c := c0) (by rw [o0, k0] at g0; exact g0), int_cell (c := c1) (by rw [o1, k1] at g1; exact g1)]
def rlV : List Value := rl.map fun z => .int .i64 z
theorem lim_cells {H : Type} {enc : TypeId × Value → H} {W : World} {base : Nat} {sp : Nat → Bool} {held : Bool} {n : Nat} {cs : List Value} {p : List MemPlace}
    (h : DataW.trod enc Tryd.prog W base sp held n 80 cs = some (Rows.laid_loop_example_g00039_impl_rangeLimits, p)) (i : Nat) (hi : i < 10) : cs[i]? = rlV[i]? := by
  obtain ⟨xs, m, _, hx, hl, hlen, hg⟩ := DataW.trod_array Tryd.underlying80 h
  have key : ∀ k, k < 5 → (cs.drop (k * 2)).take 2 = (rlV.drop (k * 2)).take 2 := by
    match xs, hlen with
    | [y0, y1, y2, y3, y4], _ =>
      simp only [Rows.laid_loop_example_g00039_impl_rangeLimits, Prod.mk.injEq, DataW.agg.injEq, List.map_cons, List.map_nil, List.cons.injEq, and_true] at hx
      obtain ⟨⟨e0, e1, e2, e3, e4⟩, _⟩ := hx
      intro k hk
      have g := hg k hk
      rw [cellsR] at g
      rcases (show k = 0 ∨ k = 1 ∨ k = 2 ∨ k = 3 ∨ k = 4 by omega) with rfl | rfl | rfl | rfl | rfl
      · exact range_cells (a := 0) (b := 1439) (p := y0.2) (g.trans (by show some y0 = _; rw [show y0 = (y0.1, y0.2) from rfl, ← e0]; rfl))
      · exact range_cells (a := 0) (b := 6) (p := y1.2) (g.trans (by show some y1 = _; rw [show y1 = (y1.1, y1.2) from rfl, ← e1]; rfl))
      · exact range_cells (a := -31) (b := 31) (p := y2.2) (g.trans (by show some y2 = _; rw [show y2 = (y2.1, y2.2) from rfl, ← e2]; rfl))
      · exact range_cells (a := 1) (b := 12) (p := y3.2) (g.trans (by show some y3 = _; rw [show y3 = (y3.1, y3.2) from rfl, ← e3]; rfl))
      · exact range_cells (a := 1970) (b := 40000) (p := y4.2) (g.trans (by show some y4 = _; rw [show y4 = (y4.1, y4.2) from rfl, ← e4]; rfl))
  have hk := key (i / 2) (by omega)
  have := congrArg (fun l => l[i % 2]?) hk
  simp only [List.getElem?_take, List.getElem?_drop] at this
  rw [if_pos (by omega), if_pos (by omega), show i / 2 * 2 + i % 2 = i from by omega] at this
  exact this
theorem rgl_of {W : World} {rest : List (String × DataW Unit)} (h : laidMet Tryd.prog (("loop.example/g00039/impl.rangeLimits", Rows.laid_loop_example_g00039_impl_rangeLimits) :: rest) W) : Rgl W := by
  obtain ⟨ps, ⟨g', t', cs, fuel, p, q, hg', ht', hvar, hd, _, _⟩, _⟩ := h
  obtain rfl := Option.some.inj (gR.symm.trans hg')
  obtain rfl := Option.some.inj (gRType.symm.trans ht')
  have key : ∀ i, i < 10 → W.cell? ⟨0, i, none⟩ = rlV[i]? := by
    intro i hi
    have h1 := World.var?_cell gR hvar i
    rw [h1, ← lim_cells hd i hi]
    simp
  refine ⟨World.block_lt_of_cell? W ⟨0, 0, none⟩ (u := .int .i64 0) (key 0 (by omega)), fun k hk => ?_⟩
  rw [key k hk]
  rcases (show k = 0 ∨ k = 1 ∨ k = 2 ∨ k = 3 ∨ k = 4 ∨ k = 5 ∨ k = 6 ∨ k = 7 ∨ k = 8 ∨ k = 9 by omega) with rfl | rfl | rfl | rfl | rfl | rfl | rfl | rfl | rfl | rfl <;> rfl
end Go.Proofs.YtcnilidckicccaaDoor.Cal
