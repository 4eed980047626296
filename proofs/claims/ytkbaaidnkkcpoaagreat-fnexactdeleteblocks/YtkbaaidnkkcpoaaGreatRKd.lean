/- Lists of blocks that came in. -/
import Derived.Test.YtkbaaidnkkcpoaaGreatRJi
import Derived.Test.YtkbaaidnkkcpoaaGreatRGK
namespace Go.Proofs.YtkbaaidnkkcpoaaGreat.Blk
open Go.ChangeShapes Go.WideShapes Go.ChangeAt Go.RowKit Go.Deep Go.WideElems Go.Maps

section
variable {H : Type} {enc : TypeId × Value → H} {P : Program} {w : World} {base : Nat} {held : Bool}
/-- A slice whose elements are structs of five one-cell fields. -/
theorem open_fives {t e : TypeId} {g0 g1 g2 g3 g4 : Field} {fuel : Nat} {cs : List Value} {x : DataW H × List MemPlace} (ht : P.underlying t = some (.slice e)) (he : P.underlying e = some (.struct #[g0, g1, g2, g3, g4]))
    (ce : P.cellsOf e = 5) (o0 : g0.offset = 0) (o1 : g1.offset = 1) (o2 : g2.offset = 2) (o3 : g3.offset = 3) (o4 : g4.offset = 4) (c0 : P.cellsOf g0.type = 1) (c1 : P.cellsOf g1.type = 1) (c2 : P.cellsOf g2.type = 1) (c3 : P.cellsOf g3.type = 1) (c4 : P.cellsOf g4.type = 1)
    (h : DataW.trod enc P w base (fun _ => true) held fuel t cs = some x) :
    cs = [.slice none 0 0] ∨ ∃ (a : Addr) (len cap n : Nat), cs = [.slice (some a) len cap] ∧ len ≤ cap ∧ cap ≤ maxLen ∧ ∀ i, i < len → ∃ v0 v1 v2 v3 v4 y0 y1 y2 y3 y4, (w.cell? (a.add (i * 5)) = some v0 ∧ w.cell? (a.add (i * 5 + 1)) = some v1 ∧ w.cell? (a.add (i * 5 + 2)) = some v2 ∧ w.cell? (a.add (i * 5 + 3)) = some v3 ∧ w.cell? (a.add (i * 5 + 4)) = some v4) ∧
      DataW.trod enc P w base (fun _ => true) held n g0.type [v0] = some y0 ∧ DataW.trod enc P w base (fun _ => true) held n g1.type [v1] = some y1 ∧ DataW.trod enc P w base (fun _ => true) held n g2.type [v2] = some y2 ∧ DataW.trod enc P w base (fun _ => true) held n g3.type [v3] = some y3 ∧ DataW.trod enc P w base (fun _ => true) held n g4.type [v4] = some y4 := by
  rcases Deep.open_slice ht h with h0 | ⟨a, len, cap, m, n, D, Pl, rfl, hb, hl, hm, hmm, rfl, hx⟩
  · exact .inl h0.1
  right
  refine ⟨a, len, cap, n - 1, rfl, hl, hm, fun i hi => ?_⟩
  simp only [if_true] at hmm
  obtain ⟨cs', h1, h2⟩ := hx i (by omega)
  rw [ce] at h1
  obtain ⟨_, hlen, hcell⟩ := World.cells?_some h1
  obtain ⟨xs, k, hk, hxy, _, hxl, hf⟩ := DataW.trod_struct he h2
  have hk' : k = n - 1 := by omega
  subst hk'
  match xs, hxl, cs', hlen with
  | [y0, y1, y2, y3, y4], _, [v0, v1, v2, v3, v4], _ =>
    have q0 := hf 0 g0 rfl
    have q1 := hf 1 g1 rfl
    have q2 := hf 2 g2 rfl
    have q3 := hf 3 g3 rfl
    have q4 := hf 4 g4 rfl
    simp [o0, o1, o2, o3, o4, c0, c1, c2, c3, c4] at q0 q1 q2 q3 q4
    have e0 := hcell 0 (by omega)
    have e1 := hcell 1 (by omega)
    have e2 := hcell 2 (by omega)
    have e3 := hcell 3 (by omega)
    have e4 := hcell 4 (by omega)
    rw [Deep.add_add] at e0 e1 e2 e3 e4
    exact ⟨v0, v1, v2, v3, v4, y0, y1, y2, y3, y4, ⟨by simpa using e0, by simpa using e1, by simpa using e2, by simpa using e3, by simpa using e4⟩, q0, q1, q2, q3, q4⟩
end
set_option maxRecDepth 100000 in
theorem open_blocks {H : Type} {enc : TypeId × Value → H} {W : World} {a0 : Option Addr} {len0 cap0 : Nat} {d : DataW H} {p : List MemPlace} (h : DataW.Trod enc Tryz.prog W 0 (fun _ => true) true 22 (.slice a0 len0 cap0) d p) :
    ∃ bs : List Bk, bs.length = len0 ∧ len0 ≤ maxLen ∧ HasK W a0 bs ∧ FitK bs := by
  obtain ⟨fuel, hf⟩ := h
  rcases open_fives Tryz.underlying22 Tryz.underlying39 (by kernel_rfl) rfl rfl rfl rfl rfl (by kernel_rfl) (by kernel_rfl) (by kernel_rfl) (by kernel_rfl) (by kernel_rfl) hf with hcs | ⟨a, len, cap, n, hcs, hl, hm, hx⟩
  · simp [Value.cells] at hcs
    obtain ⟨rfl, rfl, rfl⟩ := hcs
    exact ⟨[], rfl, Nat.zero_le _, .inl rfl, fun i => fit_k0⟩
  · simp [Value.cells] at hcs
    obtain ⟨rfl, rfl, rfl⟩ := hcs
    have key : ∀ i, i < len0 → ∃ q : Bk, (W.cell? (a.add (i * 5)) = some (.int .i64 q.F) ∧ W.cell? (a.add (i * 5 + 1)) = some (.int .i64 q.T) ∧ W.cell? (a.add (i * 5 + 2)) = some (.int .i64 q.L) ∧ W.cell? (a.add (i * 5 + 3)) = some (.slice q.a q.qs.length q.c) ∧ W.cell? (a.add (i * 5 + 4)) = some (.slice q.b q.ts.length q.d)) ∧ HasB W q ∧ FitB q := by
      intro i hi
      obtain ⟨v0, v1, v2, v3, v4, y0, y1, y2, y3, y4, ⟨e0, e1, e2, e3, e4⟩, h0, h1, h2, h3, h4⟩ := hx i hi
      obtain ⟨A, f0, _, w0⟩ := DataW.trod_int Tryz.underlying3 h0
      obtain ⟨B, f1, _, w1⟩ := DataW.trod_int Tryz.underlying3 h1
      obtain ⟨C, f2, _, w2⟩ := DataW.trod_int Tryz.underlying3 h2
      simp only [List.cons.injEq, and_true] at f0 f1 f2
      subst f0 f1 f2
      obtain ⟨ra, rl, rc, rfl⟩ : ∃ a l c, v3 = .slice a l c := by
        rcases Deep.open_slice Tryz.underlying36 h3 with ⟨hq, _⟩ | ⟨a, l, c, m, n', D, Pl, hq, _⟩
        · simp only [List.cons.injEq, and_true] at hq; exact ⟨_, _, _, hq⟩
        · simp only [List.cons.injEq, and_true] at hq; exact ⟨_, _, _, hq⟩
      obtain ⟨sa, sl, sc, rfl⟩ : ∃ a l c, v4 = .slice a l c := by
        rcases Deep.open_slice Tryz.underlying37 h4 with ⟨hq, _⟩ | ⟨a, l, c, m, n', D, Pl, hq, _⟩
        · simp only [List.cons.injEq, and_true] at hq; exact ⟨_, _, _, hq⟩
        · simp only [List.cons.injEq, and_true] at hq; exact ⟨_, _, _, hq⟩
      obtain ⟨qs, k1, k2, k3, k4⟩ := Srs.open_series (enc := enc) (a0 := ra) (len0 := rl) (cap0 := rc) (W := W) (d := y3.1) (p := y3.2) ⟨n, by simpa [Value.cells] using h3⟩
      obtain ⟨ts, j1, j2, j3, j4⟩ := open_stones (enc := enc) (a0 := sa) (len0 := sl) (cap0 := sc) (W := W) (d := y4.1) (p := y4.2) ⟨n, by simpa [Value.cells] using h4⟩
      simp only [Lit.wf, Bool.and_eq_true, decide_eq_true_eq] at w0 w1 w2
      subst k1 j1
      exact ⟨⟨A, B, C, qs, ra, rc, ts, sa, sc⟩, ⟨e0, e1, e2, e3, e4⟩, ⟨k3, j3⟩, ⟨w0.1, w0.2⟩, ⟨w1.1, w1.2⟩, ⟨w2.1, w2.2⟩, k4, k2, j4, j2⟩
    obtain ⟨q, hq⟩ := Deep.choose_lt (α := Bk) key
    have hg : ∀ i, i < len0 → ((List.range len0).map q).getD i k0 = q i := fun i hi => by simp [hi]
    refine ⟨(List.range len0).map q, by simp, by omega, ?_, ?_⟩
    · by_cases h0 : len0 = 0
      · subst h0; exact .inl rfl
      · obtain ⟨b, off, spot⟩ := a
        have h1 := (hq 0 (by omega)).1.1
        have hs : spot = none := by simpa [Addr.add] using World.cell?_spot h1
        subst hs
        refine .inr ⟨b, off, rfl, World.block_lt_of_cell? W _ h1, fun i hi => ?_⟩
        have hi' : i < len0 := by simpa using hi
        obtain ⟨⟨k0, k1, k2, k3, k4⟩, k7, _⟩ := hq i hi'
        rw [Srs.add_none] at k0 k1 k2 k3 k4
        rw [hg i hi']
        exact ⟨⟨k0, k1, k2, k3, k4⟩, k7⟩
    · intro i
      by_cases hi : i < len0
      · rw [hg i hi]; exact (hq i hi).2.2
      · rw [List.getD_eq_getElem?_getD, List.getElem?_eq_none (by simp; omega)]; exact fit_k0
end Go.Proofs.YtkbaaidnkkcpoaaGreat.Blk
