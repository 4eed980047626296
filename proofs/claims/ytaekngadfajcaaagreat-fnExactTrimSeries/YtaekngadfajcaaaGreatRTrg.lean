/- Needs that came in. -/
import Derived.Test.YtaekngadfajcaaaGreatRND
import Derived.Test.YtaekngadfajcaaaGreatROpn
import Derived.WalkKit
import Derived.ProofKit
import Derived.OpenShut
import Derived.ChangeOld
import Derived.Deep.Fields
namespace Go.Proofs.YtaekngadfajcaaaGreat.Ned
open Go.ChangeShapes Go.WideShapes Go.ChangeAt Go.RowKit Go.Deep Go.WideElems Go.Maps

theorem add_none (b off j : Nat) : (⟨b, off, none⟩ : Addr).add j = ⟨b, off + j, none⟩ := by
  simp [Addr.add]
section
variable {H : Type} {enc : TypeId × Value → H} {P : Program} {w : World} {base : Nat} {held : Bool}
/-- A slice whose elements are structs of three one-cell fields. -/
theorem open_threes {t e : TypeId} {g0 g1 g2 : Field} {fuel : Nat} {cs : List Value} {x : DataW H × List MemPlace} (ht : P.underlying t = some (.slice e)) (he : P.underlying e = some (.struct #[g0, g1, g2]))
    (ce : P.cellsOf e = 3) (o0 : g0.offset = 0) (o1 : g1.offset = 1) (o2 : g2.offset = 2) (c0 : P.cellsOf g0.type = 1) (c1 : P.cellsOf g1.type = 1) (c2 : P.cellsOf g2.type = 1)
    (h : DataW.trod enc P w base (fun _ => true) held fuel t cs = some x) :
    cs = [.slice none 0 0] ∨ ∃ (a : Addr) (len cap n : Nat), cs = [.slice (some a) len cap] ∧ len ≤ cap ∧ cap ≤ maxLen ∧ ∀ i, i < len → ∃ v0 v1 v2 y0 y1 y2, (w.cell? (a.add (i * 3)) = some v0 ∧ w.cell? (a.add (i * 3 + 1)) = some v1 ∧ w.cell? (a.add (i * 3 + 2)) = some v2) ∧
      DataW.trod enc P w base (fun _ => true) held n g0.type [v0] = some y0 ∧ DataW.trod enc P w base (fun _ => true) held n g1.type [v1] = some y1 ∧ DataW.trod enc P w base (fun _ => true) held n g2.type [v2] = some y2 := by
  rcases Deep.open_slice ht h with h0 | ⟨a, len, cap, m, n, D, Pl, rfl, hb, hl, hm, hmm, rfl, hx⟩
  · exact .inl h0.1
  right
  refine ⟨a, len, cap, n - 1, rfl, hl, hm, fun i hi => ?_⟩
  simp only [if_true] at hmm
  obtain ⟨cs', h1, h2⟩ := hx i (by omega)
  rw [ce] at h1
  obtain ⟨_, hlen, hcell⟩ := World.cells?_some h1
  obtain ⟨xs, k, hk, hxy, _, hxl, hf⟩ := DataW.trod_struct he h2
  have hk' : k = n - 1 := by omega
  subst hk'
  match xs, hxl, cs', hlen with
  | [y0, y1, y2], _, [v0, v1, v2], _ =>
    have q0 := hf 0 g0 rfl
    have q1 := hf 1 g1 rfl
    have q2 := hf 2 g2 rfl
    simp [o0, o1, o2, c0, c1, c2] at q0 q1 q2
    have e0 := hcell 0 (by omega)
    have e1 := hcell 1 (by omega)
    have e2 := hcell 2 (by omega)
    rw [Deep.add_add] at e0 e1 e2
    exact ⟨v0, v1, v2, y0, y1, y2, ⟨by simpa using e0, by simpa using e1, by simpa using e2⟩, q0, q1, q2⟩
end
theorem open_needs {H : Type} {enc : TypeId × Value → H} {W : World} {a0 : Option Addr} {len0 cap0 : Nat} {d : DataW H} {p : List MemPlace} (h : DataW.Trod enc Tryz.prog W 0 (fun _ => true) true 23 (.slice a0 len0 cap0) d p) :
    ∃ ts : List T, ts.length = len0 ∧ len0 ≤ maxLen ∧ HasT W a0 ts ∧ FitT ts := by
  obtain ⟨fuel, hf⟩ := h
  rcases open_threes Tryz.underlying23 Tryz.underlying44 (by kernel_rfl) rfl rfl rfl (by kernel_rfl) (by kernel_rfl) (by kernel_rfl) hf with hcs | ⟨a, len, cap, n, hcs, hl, hm, hx⟩
  · simp [Value.cells] at hcs
    obtain ⟨rfl, rfl, rfl⟩ := hcs
    exact ⟨[], rfl, Nat.zero_le _, .inl rfl, fun i => fit_t0⟩
  · simp [Value.cells] at hcs
    obtain ⟨rfl, rfl, rfl⟩ := hcs
    have key : ∀ i, i < len0 → ∃ q : T, (W.cell? (a.add (i * 3)) = some (.slice q.a q.l.length q.c) ∧ W.cell? (a.add (i * 3 + 1)) = some (.int .i64 q.f) ∧ W.cell? (a.add (i * 3 + 2)) = some (.int .i64 q.t)) ∧ Pat.HasM W q.a q.l ∧ Ft q := by
      intro i hi
      obtain ⟨v0, v1, v2, y0, y1, y2, ⟨e0, e1, e2⟩, g0, g1, g2⟩ := hx i hi
      obtain ⟨la, ll, lc, rfl⟩ : ∃ a l c, v0 = .slice a l c := by
        rcases Deep.open_slice Tryz.underlying42 g0 with ⟨hq, _⟩ | ⟨a, l, c, m, n', D, Pl, hq, _⟩
        · simp only [List.cons.injEq, and_true] at hq; exact ⟨_, _, _, hq⟩
        · simp only [List.cons.injEq, and_true] at hq; exact ⟨_, _, _, hq⟩
      obtain ⟨A, ea, _, w1⟩ := DataW.trod_int Tryz.underlying3 g1
      obtain ⟨B, eb, _, w2⟩ := DataW.trod_int Tryz.underlying3 g2
      simp only [List.cons.injEq, and_true] at ea eb
      subst ea eb
      obtain ⟨ls, q1, q2, q3, q4⟩ := Lab.open_labels (enc := enc) (a0 := la) (len0 := ll) (cap0 := lc) (W := W) (d := y0.1) (p := y0.2) ⟨n, by simpa [Value.cells] using g0⟩
      simp only [Lit.wf, Bool.and_eq_true, decide_eq_true_eq] at w1 w2
      subst q1
      exact ⟨⟨ls, la, lc, A, B⟩, ⟨e0, e1, e2⟩, q3, q4, q2, ⟨w1.1, w1.2⟩, ⟨w2.1, w2.2⟩⟩
    obtain ⟨q, hq⟩ := Deep.choose_lt (α := T) key
    have hg : ∀ i, i < len0 → ((List.range len0).map q).getD i t0 = q i := fun i hi => by simp [hi]
    refine ⟨(List.range len0).map q, by simp, by omega, ?_, ?_⟩
    · by_cases h0 : len0 = 0
      · subst h0; exact .inl rfl
      · obtain ⟨b, off, spot⟩ := a
        have h1 := (hq 0 (by omega)).1.1
        have hs : spot = none := by simpa [Addr.add] using World.cell?_spot h1
        subst hs
        refine .inr ⟨b, off, rfl, World.block_lt_of_cell? W _ h1, fun i hi => ?_⟩
        have hi' : i < len0 := by simpa using hi
        obtain ⟨⟨k0, k1, k2⟩, k7, _⟩ := hq i hi'
        rw [add_none] at k0 k1 k2
        rw [hg i hi']
        exact ⟨⟨k0, k1, k2⟩, k7⟩
    · intro i
      by_cases hi : i < len0
      · rw [hg i hi]; exact (hq i hi).2.2
      · rw [List.getD_eq_getElem?_getD, List.getElem?_eq_none (by simp; omega)]; exact fit_t0
end Go.Proofs.YtaekngadfajcaaaGreat.Ned
