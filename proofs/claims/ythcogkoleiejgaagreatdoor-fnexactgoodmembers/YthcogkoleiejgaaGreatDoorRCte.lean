/- Aggs that came in. -/
import Derived.Test.YthcogkoleiejgaaGreatDoorRCta
import Derived.WalkKit
import Derived.ProofKit
import Derived.OpenShut
import Derived.ChangeOld
import Derived.Deep.Fields
namespace Go.Proofs.YthcogkoleiejgaaGreatDoor.Ctl
open Go.ChangeShapes Go.WideShapes Go.ChangeAt Go.RowKit Go.Deep Go.WideElems

theorem add_none (b off j : Nat) : (⟨b, off, none⟩ : Addr).add j = ⟨b, off + j, none⟩ := by
  by_cases h : j = 0
  · subst h; simp [Addr.add]
  · simp [Addr.add, h]
instance : Inhabited Ag := ⟨a0⟩
theorem in64_zero : In64 0 := ⟨by omega, by omega⟩
theorem fit_a0 : FitA a0 := ⟨in64_zero, in64_zero, in64_zero, in64_zero⟩
section
variable {H : Type} {enc : TypeId × Value → H} {P : Program} {w : World} {base : Nat} {held : Bool}
/-- A slice whose elements are structs of eight one-cell fields. -/
theorem open_eights {t e : TypeId} {g0 g1 g2 g3 : Field} {fuel : Nat} {cs : List Value} {x : DataW H × List MemPlace} (ht : P.underlying t = some (.slice e)) (he : P.underlying e = some (.struct #[g0, g1, g2, g3]))
    (ce : P.cellsOf e = 4) (o0 : g0.offset = 0) (o1 : g1.offset = 1) (o2 : g2.offset = 2) (o3 : g3.offset = 3) (c0 : P.cellsOf g0.type = 1) (c1 : P.cellsOf g1.type = 1) (c2 : P.cellsOf g2.type = 1) (c3 : P.cellsOf g3.type = 1)
    (h : DataW.trod enc P w base (fun _ => true) held fuel t cs = some x) :
    cs = [.slice none 0 0] ∨ ∃ (a : Addr) (len cap n : Nat), cs = [.slice (some a) len cap] ∧ len ≤ cap ∧ cap ≤ maxLen ∧ ∀ i, i < len → ∃ v0 v1 v2 v3 y0 y1 y2 y3, (w.cell? (a.add (i * 4)) = some v0 ∧ w.cell? (a.add (i * 4 + 1)) = some v1 ∧ w.cell? (a.add (i * 4 + 2)) = some v2 ∧ w.cell? (a.add (i * 4 + 3)) = some v3) ∧
      DataW.trod enc P w base (fun _ => true) held n g0.type [v0] = some y0 ∧ DataW.trod enc P w base (fun _ => true) held n g1.type [v1] = some y1 ∧ DataW.trod enc P w base (fun _ => true) held n g2.type [v2] = some y2 ∧ DataW.trod enc P w base (fun _ => true) held n g3.type [v3] = some y3 := by
  rcases Deep.open_slice ht h with h0 | ⟨a, len, cap, m, n, D, Pl, rfl, hb, hl, hm, hmm, rfl, hx⟩
  · exact .inl h0.1
  right
  refine ⟨a, len, cap, n - 1, rfl, hl, hm, fun i hi => ?_⟩
  simp only [if_true] at hmm
  obtain ⟨cs', h1, h2⟩ := hx i (by omega)
  rw [ce] at h1
  obtain ⟨_, hlen, hcell⟩ := World.cells?_some h1
  obtain ⟨xs, k, hk, hxy, _, hxl, hf⟩ := DataW.trod_struct he h2
  have hk' : k = n - 1 := by omega
  subst hk'
  match xs, hxl, cs', hlen with
  | [y0, y1, y2, y3], _, [v0, v1, v2, v3], _ =>
    have q0 := hf 0 g0 rfl
    have q1 := hf 1 g1 rfl
    have q2 := hf 2 g2 rfl
    have q3 := hf 3 g3 rfl
    simp [o0, c0, o1, c1, o2, c2, o3, c3] at q0 q1 q2 q3
    have e0 := hcell 0 (by omega)
    have e1 := hcell 1 (by omega)
    have e2 := hcell 2 (by omega)
    have e3 := hcell 3 (by omega)
    rw [Deep.add_add] at e0 e1 e2 e3
    exact ⟨v0, v1, v2, v3, y0, y1, y2, y3, ⟨by simpa using e0, by simpa using e1, by simpa using e2, by simpa using e3⟩, q0, q1, q2, q3⟩
end
theorem open_cuts {H : Type} {enc : TypeId × Value → H} {W : World} {a1 : Option Addr} {len0 cap0 : Nat} {d : DataW H} {p : List MemPlace} (h : DataW.Trod enc Tryz.prog W 0 (fun _ => true) true 39 (.slice a1 len0 cap0) d p) :
    ∃ ls : List Ag, ls.length = len0 ∧ len0 ≤ maxLen ∧ HasA W a1 ls ∧ Fit ls := by
  obtain ⟨fuel, hf⟩ := h
  rcases open_eights Tryz.underlying39 Tryz.underlying130 (by kernel_rfl) rfl rfl rfl rfl (by kernel_rfl) (by kernel_rfl) (by kernel_rfl) (by kernel_rfl) hf with hcs | ⟨a, len, cap, n, hcs, hl, hm, hx⟩
  · simp [Value.cells] at hcs
    obtain ⟨rfl, rfl, rfl⟩ := hcs
    exact ⟨[], rfl, Nat.zero_le _, .inl rfl, fun i => fit_a0⟩
  · simp [Value.cells] at hcs
    obtain ⟨rfl, rfl, rfl⟩ := hcs
    have key : ∀ i, i < len0 → ∃ q : Ag, (W.cell? (a.add (i * 4)) = some (.int .i64 q.a) ∧ W.cell? (a.add (i * 4 + 1)) = some (.int .i64 q.b) ∧ W.cell? (a.add (i * 4 + 2)) = some (.int .i64 q.f) ∧ W.cell? (a.add (i * 4 + 3)) = some (.int .i64 q.t)) ∧ FitA q := by
      intro i hi
      obtain ⟨v0, v1, v2, v3, y0, y1, y2, y3, ⟨e0, e1, e2, e3⟩, g0, g1, g2, g3⟩ := hx i hi
      obtain ⟨A0, ea0, _, w0⟩ := DataW.trod_int Tryz.underlying3 g0
      obtain ⟨A1, ea1, _, w1⟩ := DataW.trod_int Tryz.underlying3 g1
      obtain ⟨A2, ea2, _, w2⟩ := DataW.trod_int Tryz.underlying3 g2
      obtain ⟨A3, ea3, _, w3⟩ := DataW.trod_int Tryz.underlying3 g3
      simp only [List.cons.injEq, and_true] at ea0 ea1 ea2 ea3
      subst ea0 ea1 ea2 ea3
      simp only [Lit.wf, Bool.and_eq_true, decide_eq_true_eq] at w0 w1 w2 w3
      exact ⟨⟨A0, A1, A2, A3⟩, ⟨e0, e1, e2, e3⟩, ⟨w0.1, w0.2⟩, ⟨w1.1, w1.2⟩, ⟨w2.1, w2.2⟩, ⟨w3.1, w3.2⟩⟩
    obtain ⟨q, hq⟩ := Deep.choose_lt (α := Ag) key
    have hg : ∀ i, i < len0 → ((List.range len0).map q).getD i a0 = q i := fun i hi => by simp [hi]
    refine ⟨(List.range len0).map q, by simp, by omega, ?_, ?_⟩
    · by_cases h0 : len0 = 0
      · subst h0; exact .inl rfl
      · obtain ⟨b, off, spot⟩ := a
        have h1 := (hq 0 (by omega)).1.1
        have hs : spot = none := by simpa [Addr.add] using World.cell?_spot h1
        subst hs
        refine .inr ⟨b, off, rfl, World.block_lt_of_cell? W _ h1, fun i hi => ?_⟩
        have hi' : i < len0 := by simpa using hi
        obtain ⟨⟨k0, k1, k2, k3⟩, _⟩ := hq i hi'
        rw [add_none] at k0 k1 k2 k3
        rw [hg i hi']
        exact ⟨k0, k1, k2, k3⟩
    · intro i
      by_cases hi : i < len0
      · rw [hg i hi]; exact (hq i hi).2
      · rw [List.getD_eq_getElem?_getD, List.getElem?_eq_none (by simp; omega)]; exact fit_a0
theorem array8 {α : Type} {cs : Array α} (h : cs.size = 4) : ∃ c0 c1 c2 c3, cs = #[c0, c1, c2, c3] := by
  obtain ⟨l⟩ := cs
  match l, h with
  | [c0, c1, c2, c3], _ => exact ⟨c0, c1, c2, c3, rfl⟩
set_option maxRecDepth 100000 in
theorem open_cut {H : Type} {enc : TypeId × Value → H} {W : World} {base : Nat} {v : Value} {d : DataW H} {p : List MemPlace} (hv : Value.okWide Tryz.prog W .any base 130 v) (h : DataW.Trod enc Tryz.prog W 0 (fun _ => true) true 130 v d p) :
    ∃ t : Ag, v = valA t ∧ FitA t := by
  obtain ⟨cs, rfl, hsz⟩ := okWide_struct Tryz.underlying130 hv
  obtain ⟨c0, c1, c2, c3, rfl⟩ := array8 (hsz.trans (by kernel_rfl))
  obtain ⟨fuel, hf⟩ := h
  obtain ⟨xs, n, _, _, hl, hlen, hg⟩ := DataW.trod_struct Tryz.underlying130 hf
  match xs, hlen with
  | [y0, y1, y2, y3], _ =>
    have h0 := hg 0 _ rfl
    have h1 := hg 1 _ rfl
    have h2 := hg 2 _ rfl
    have h3 := hg 3 _ rfl
    obtain ⟨A0, ea0, _, w0⟩ := DataW.trod_int (cs := [c0]) Tryz.underlying3 h0
    obtain ⟨A1, ea1, _, w1⟩ := DataW.trod_int (cs := [c1]) Tryz.underlying3 h1
    obtain ⟨A2, ea2, _, w2⟩ := DataW.trod_int (cs := [c2]) Tryz.underlying3 h2
    obtain ⟨A3, ea3, _, w3⟩ := DataW.trod_int (cs := [c3]) Tryz.underlying3 h3
    simp only [List.cons.injEq, and_true] at ea0 ea1 ea2 ea3
    subst ea0 ea1 ea2 ea3
    simp only [Lit.wf, Bool.and_eq_true, decide_eq_true_eq] at w0 w1 w2 w3
    exact ⟨⟨A0, A1, A2, A3⟩, rfl, ⟨w0.1, w0.2⟩, ⟨w1.1, w1.2⟩, ⟨w2.1, w2.2⟩, ⟨w3.1, w3.2⟩⟩
end Go.Proofs.YthcogkoleiejgaaGreatDoor.Ctl
