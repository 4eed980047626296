/- Lists of series that came in. -/
import Derived.Test.YtaekngadfajcaaaGreatRXa
import Derived.Test.YtaekngadfajcaaaGreatROpl
import Derived.Test.YtaekngadfajcaaaGreatRTb
namespace Go.Proofs.YtaekngadfajcaaaGreat.Srs
open Go.ChangeShapes Go.WideShapes Go.ChangeAt Go.RowKit Go.Deep Go.WideElems

section
variable {H : Type} {enc : TypeId × Value → H} {P : Program} {w : World} {base : Nat} {held : Bool}
/-- A slice whose elements are structs of two one-cell fields. -/
theorem open_twos {t e : TypeId} {g0 g1 : Field} {fuel : Nat} {cs : List Value} {x : DataW H × List MemPlace} (ht : P.underlying t = some (.slice e)) (he : P.underlying e = some (.struct #[g0, g1]))
    (ce : P.cellsOf e = 2) (o0 : g0.offset = 0) (o1 : g1.offset = 1) (c0 : P.cellsOf g0.type = 1) (c1 : P.cellsOf g1.type = 1)
    (h : DataW.trod enc P w base (fun _ => true) held fuel t cs = some x) :
    cs = [.slice none 0 0] ∨ ∃ (a : Addr) (len cap n : Nat), cs = [.slice (some a) len cap] ∧ len ≤ cap ∧ cap ≤ maxLen ∧ ∀ i, i < len → ∃ v0 v1 y0 y1, (w.cell? (a.add (i * 2)) = some v0 ∧ w.cell? (a.add (i * 2 + 1)) = some v1) ∧
      DataW.trod enc P w base (fun _ => true) held n g0.type [v0] = some y0 ∧ DataW.trod enc P w base (fun _ => true) held n g1.type [v1] = some y1 := by
  rcases Deep.open_slice ht h with h0 | ⟨a, len, cap, m, n, D, Pl, rfl, hb, hl, hm, hmm, rfl, hx⟩
  · exact .inl h0.1
  right
  refine ⟨a, len, cap, n - 1, rfl, hl, hm, fun i hi => ?_⟩
  simp only [if_true] at hmm
  obtain ⟨cs', h1, h2⟩ := hx i (by omega)
  rw [ce] at h1
  obtain ⟨_, hlen, hcell⟩ := World.cells?_some h1
  obtain ⟨xs, k, hk, hxy, _, hxl, hf⟩ := DataW.trod_struct he h2
  have hk' : k = n - 1 := by omega
  subst hk'
  match xs, hxl, cs', hlen with
  | [y0, y1], _, [v0, v1], _ =>
    have q0 := hf 0 g0 rfl
    have q1 := hf 1 g1 rfl
    simp [o0, o1, c0, c1] at q0 q1
    have e0 := hcell 0 (by omega)
    have e1 := hcell 1 (by omega)
    rw [Deep.add_add] at e0 e1
    exact ⟨v0, v1, y0, y1, ⟨by simpa using e0, by simpa using e1⟩, q0, q1⟩
end
theorem add_none (b off j : Nat) : (⟨b, off, none⟩ : Addr).add j = ⟨b, off + j, none⟩ := by
  simp [Addr.add]
theorem open_series {H : Type} {enc : TypeId × Value → H} {W : World} {a0 : Option Addr} {len0 cap0 : Nat} {d : DataW H} {p : List MemPlace} (h : DataW.Trod enc Tryz.prog W 0 (fun _ => true) true 22 (.slice a0 len0 cap0) d p) :
    ∃ qs : List Q, qs.length = len0 ∧ len0 ≤ maxLen ∧ HasQ W a0 qs ∧ FitQ qs := by
  obtain ⟨fuel, hf⟩ := h
  rcases open_twos Tryz.underlying22 Tryz.underlying40 (by kernel_rfl) rfl rfl (by kernel_rfl) (by kernel_rfl) hf with hcs | ⟨a, len, cap, n, hcs, hl, hm, hx⟩
  · simp [Value.cells] at hcs
    obtain ⟨rfl, rfl, rfl⟩ := hcs
    exact ⟨[], rfl, Nat.zero_le _, .inl rfl, fun i => fit_q0⟩
  · simp [Value.cells] at hcs
    obtain ⟨rfl, rfl, rfl⟩ := hcs
    have key : ∀ i, i < len0 → ∃ q : Q, (W.cell? (a.add (i * 2)) = some (.slice q.a q.l.length q.c) ∧ W.cell? (a.add (i * 2 + 1)) = some (.slice q.b q.s.length q.d)) ∧ (Lab.HasL W q.a q.l ∧ Smp.HasS W q.b q.s) ∧ Fq q := by
      intro i hi
      obtain ⟨v0, v1, y0, y1, ⟨e0, e1⟩, g0, g1⟩ := hx i hi
      obtain ⟨la, ll, lc, rfl⟩ : ∃ a l c, v0 = .slice a l c := by
        rcases Deep.open_slice Tryz.underlying37 g0 with ⟨hq, _⟩ | ⟨a, l, c, m, n', D, Pl, hq, _⟩
        · simp only [List.cons.injEq, and_true] at hq; exact ⟨_, _, _, hq⟩
        · simp only [List.cons.injEq, and_true] at hq; exact ⟨_, _, _, hq⟩
      obtain ⟨sa, sl, sc, rfl⟩ : ∃ a l c, v1 = .slice a l c := by
        rcases Deep.open_slice Tryz.underlying38 g1 with ⟨hq, _⟩ | ⟨a, l, c, m, n', D, Pl, hq, _⟩
        · simp only [List.cons.injEq, and_true] at hq; exact ⟨_, _, _, hq⟩
        · simp only [List.cons.injEq, and_true] at hq; exact ⟨_, _, _, hq⟩
      obtain ⟨ls, q1, q2, q3, q4⟩ := Lbo.open_labels (enc := enc) (a0 := la) (len0 := ll) (cap0 := lc) (W := W) (d := y0.1) (p := y0.2) ⟨n, by simpa [Value.cells] using g0⟩
      obtain ⟨ss, k1, k2, k3, k4⟩ := Smp.open_samples (enc := enc) (a0 := sa) (len0 := sl) (cap0 := sc) (W := W) (d := y1.1) (p := y1.2) ⟨n, by simpa [Value.cells] using g1⟩
      subst q1 k1
      exact ⟨⟨ls, la, lc, ss, sa, sc⟩, ⟨e0, e1⟩, ⟨q3, k3⟩, q4, q2, k4, k2⟩
    obtain ⟨q, hq⟩ := Deep.choose_lt (α := Q) key
    have hg : ∀ i, i < len0 → ((List.range len0).map q).getD i q0 = q i := fun i hi => by simp [hi]
    refine ⟨(List.range len0).map q, by simp, by omega, ?_, ?_⟩
    · by_cases h0 : len0 = 0
      · subst h0; exact .inl rfl
      · obtain ⟨b, off, spot⟩ := a
        have h1 := (hq 0 (by omega)).1.1
        have hs : spot = none := by simpa [Addr.add] using World.cell?_spot h1
        subst hs
        refine .inr ⟨b, off, rfl, World.block_lt_of_cell? W _ h1, fun i hi => ?_⟩
        have hi' : i < len0 := by simpa using hi
        obtain ⟨⟨k0, k1⟩, k7, _⟩ := hq i hi'
        rw [add_none] at k0 k1
        rw [hg i hi']
        exact ⟨k0, k1, k7⟩
    · intro i
      by_cases hi : i < len0
      · rw [hg i hi]; exact (hq i hi).2.2
      · rw [List.getD_eq_getElem?_getD, List.getElem?_eq_none (by simp; omega)]; exact fit_q0
end Go.Proofs.YtaekngadfajcaaaGreat.Srs
