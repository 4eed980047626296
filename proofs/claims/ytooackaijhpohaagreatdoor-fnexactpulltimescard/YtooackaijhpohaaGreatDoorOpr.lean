/- Rules that came in. -/
import Derived.Test.YtooackaijhpohaaGreatDoorOpt
import Derived.Test.YtooackaijhpohaaGreatDoorRa
import Derived.Lib.SmallJoins
namespace Go.Proofs.YtooackaijhpohaaGreatDoor.Rel
open Go.ChangeShapes Go.WideShapes Go.ChangeAt Go.RowKit Go.Deep Go.WideElems Go.Maps Go.Proofs.YtooackaijhpohaaGreatDoor.Fil

theorem array7 {α : Type} {cs : Array α} (h : cs.size = 7) : ∃ c0 c1 c2 c3 c4 c5 c6, cs = #[c0, c1, c2, c3, c4, c5, c6] := by
  obtain ⟨l⟩ := cs
  match l, h with
  | [c0, c1, c2, c3, c4, c5, c6], _ => exact ⟨c0, c1, c2, c3, c4, c5, c6, rfl⟩
theorem open_agg7 {H : Type} {enc : TypeId × Value → H} {P : Program} {w : World} {base : Nat} {spare : Nat → Bool} {held : Bool} {r : Reach} {b0 : Nat} {t : TypeId} {lf0 lf1 lf2 lf3 lf4 lf5 lf6 : Field} {v : Value} {d : DataW H} {p : List MemPlace} (hs : P.underlying t = some (.struct #[lf0, lf1, lf2, lf3, lf4, lf5, lf6])) (hone : oneCellFields P #[lf0, lf1, lf2, lf3, lf4, lf5, lf6] = true) (hC : P.cellsOf t = 7)
    (hv : Value.okWide P w r b0 t v) (h : DataW.Trod enc P w base spare held t v d p) :
    ∃ (v0 v1 v2 v3 v4 v5 v6 : Value) (y0 y1 y2 y3 y4 y5 y6 : DataW H × List MemPlace) (n : Nat), v = .agg #[v0, v1, v2, v3, v4, v5, v6] ∧
      DataW.trod enc P w base spare held n lf0.type [v0] = some y0 ∧ DataW.trod enc P w base spare held n lf1.type [v1] = some y1 ∧ DataW.trod enc P w base spare held n lf2.type [v2] = some y2 ∧ DataW.trod enc P w base spare held n lf3.type [v3] = some y3 ∧ DataW.trod enc P w base spare held n lf4.type [v4] = some y4 ∧ DataW.trod enc P w base spare held n lf5.type [v5] = some y5 ∧ DataW.trod enc P w base spare held n lf6.type [v6] = some y6 := by
  obtain ⟨cs, rfl, hsz⟩ := okWide_struct hs hv
  obtain ⟨c0, c1, c2, c3, c4, c5, c6, rfl⟩ := array7 (hsz.trans hC)
  obtain ⟨fuel, hf⟩ := h
  obtain ⟨xs, n, _, _, hl, hlen, hg⟩ := DataW.trod_struct hs hf
  match xs, hlen with
  | [y0, y1, y2, y3, y4, y5, y6], _ =>
    obtain ⟨o0, k0⟩ := hone_of hone 0 lf0 rfl
    obtain ⟨o1, k1⟩ := hone_of hone 1 lf1 rfl
    obtain ⟨o2, k2⟩ := hone_of hone 2 lf2 rfl
    obtain ⟨o3, k3⟩ := hone_of hone 3 lf3 rfl
    obtain ⟨o4, k4⟩ := hone_of hone 4 lf4 rfl
    obtain ⟨o5, k5⟩ := hone_of hone 5 lf5 rfl
    obtain ⟨o6, k6⟩ := hone_of hone 6 lf6 rfl
    exact ⟨c0, c1, c2, c3, c4, c5, c6, y0, y1, y2, y3, y4, y5, y6, n, rfl, by simpa [Value.cells, o0, k0] using hg 0 lf0 rfl, by simpa [Value.cells, o1, k1] using hg 1 lf1 rfl, by simpa [Value.cells, o2, k2] using hg 2 lf2 rfl, by simpa [Value.cells, o3, k3] using hg 3 lf3 rfl, by simpa [Value.cells, o4, k4] using hg 4 lf4 rfl, by simpa [Value.cells, o5, k5] using hg 5 lf5 rfl, by simpa [Value.cells, o6, k6] using hg 6 lf6 rfl⟩

set_option maxRecDepth 100000 in
theorem open_rule {H : Type} {enc : TypeId × Value → H} {W : World} {base : Nat} {v : Value} {d : DataW H} {p : List MemPlace} (hv : Value.okWide Tryz.prog W .any base 64 v) (h : DataW.Trod enc Tryz.prog W 0 (fun _ => true) true 64 v d p) :
    ∃ (r : Rule) (a : Option Addr) (n c : Nat), v = agR r a n c ∧ r.from'.length = n ∧ n ≤ maxLen ∧ HasT W a r.from' ∧ FitT r.from' ∧ FitR r := by
  obtain ⟨v0, v1, v2, v3, v4, v5, v6, y0, y1, y2, y3, y4, y5, y6, n, rfl, h0, h1, h2, h3, h4, h5, h6⟩ := open_agg7 Tryz.underlying64 (by kernel_rfl) (by kernel_rfl) hv h
  obtain ⟨A, e0, _, ws0⟩ := DataW.trod_int Tryz.underlying3 h0
  obtain ⟨s2, e2, _, ws2⟩ := DataW.trod_string Tryz.underlying9 h2
  obtain ⟨s3, e3, _, ws3⟩ := DataW.trod_string Tryz.underlying9 h3
  obtain ⟨s4, e4, _, ws4⟩ := DataW.trod_string Tryz.underlying9 h4
  obtain ⟨s5, e5, _, ws5⟩ := DataW.trod_string Tryz.underlying9 h5
  obtain ⟨M, e6, _, ws6⟩ := DataW.trod_int Tryz.underlying3 h6
  simp only [List.cons.injEq, and_true] at e0 e2 e3 e4 e5 e6
  subst e0 e2 e3 e4 e5 e6
  obtain ⟨a, len, cap, rfl⟩ : ∃ a len cap, v1 = .slice a len cap := by
    rcases Deep.open_strs Tryz.underlying62 Tryz.underlying9 (by kernel_rfl) h1 with ⟨hcs, _⟩ | ⟨a, len, cap, m, Sx, hcs, _⟩
    · simp only [List.cons.injEq, and_true] at hcs; exact ⟨_, _, _, hcs⟩
    · simp only [List.cons.injEq, and_true] at hcs; exact ⟨_, _, _, hcs⟩
  obtain ⟨ss, q1, q2, q3, q4⟩ := open_texts (enc := enc) (a0 := a) (len0 := len) (cap0 := cap) (W := W) (d := y1.1) (p := y1.2) ⟨n, by simpa [Value.cells] using h1⟩
  simp only [Lit.wf, Bool.and_eq_true, decide_eq_true_eq] at ws0 ws6
  exact ⟨⟨A, ss, s2, s3, s4, s5, M⟩, a, len, cap, rfl, q1, q2, q3, q4, ⟨ws0.1, ws0.2, ws6.1, ws6.2, ws2, ws3, ws4, ws5⟩⟩
end Go.Proofs.YtooackaijhpohaaGreatDoor.Rel
