/- Lists of streams that came in. -/
import Derived.Test.YtaanafejhgijnaaStq
import Derived.Test.YtaanafejhgijnaaOpl
import Derived.Test.YtaanafejhgijnaaLip
import Derived.Deep.SlicePairs
import Derived.OpenShut
import Derived.ChangeOld
namespace Go.Proofs.Ytaanafejhgijnaa.Stm
open Go.ChangeShapes Go.WideShapes Go.ChangeAt Go.RowKit Go.Deep Go.WideElems Go.Maps
open Go.Proofs.Ytaanafejhgijnaa.Rwc

section
variable {H : Type} {enc : TypeId × Value → H} {P : Program} {w : World} {base : Nat} {held : Bool}
theorem open_rows {t e : TypeId} {g0 g1 : Field} {fuel : Nat} {cs : List Value} {x : DataW H × List MemPlace} (ht : P.underlying t = some (.slice e)) (he : P.underlying e = some (.struct #[g0, g1]))
    (ce : P.cellsOf e = 2) (o0 : g0.offset = 0) (o1 : g1.offset = 1) (c0 : P.cellsOf g0.type = 1) (c1 : P.cellsOf g1.type = 1)
    (h : DataW.trod enc P w base (fun _ => true) held fuel t cs = some x) :
    cs = [.slice none 0 0] ∨ ∃ (a : Addr) (len cap n : Nat), cs = [.slice (some a) len cap] ∧ len ≤ cap ∧ cap ≤ maxLen ∧ ∀ i, i < len → ∃ v0 v1 y0 y1, (w.cell? (a.add (i * 2)) = some v0 ∧ w.cell? (a.add (i * 2 + 1)) = some v1) ∧
      DataW.trod enc P w base (fun _ => true) held n g0.type [v0] = some y0 ∧ DataW.trod enc P w base (fun _ => true) held n g1.type [v1] = some y1 := by
  rcases Deep.open_slice ht h with h0 | ⟨a, len, cap, m, n, D, Pl, rfl, hb, hl, hm, hmm, rfl, hx⟩
  · exact .inl h0.1
  right
  refine ⟨a, len, cap, n - 1, rfl, hl, hm, fun i hi => ?_⟩
  simp only [if_true] at hmm
  obtain ⟨cs', h1, h2⟩ := hx i (by omega)
  rw [ce] at h1
  obtain ⟨_, hlen, hcell⟩ := World.cells?_some h1
  obtain ⟨xs, k, hk, hxy, _, hxl, hf⟩ := DataW.trod_struct he h2
  have hk' : k = n - 1 := by omega
  subst hk'
  match xs, hxl, cs', hlen with
  | [y0, y1], _, [v0, v1], _ =>
    have q0 := hf 0 g0 rfl
    have q1 := hf 1 g1 rfl
    simp [o0, o1, c0, c1] at q0 q1
    have e0 := hcell 0 (by omega)
    have e1 := hcell 1 (by omega)
    rw [Deep.add_add] at e0 e1
    exact ⟨v0, v1, y0, y1, ⟨by simpa using e0, by simpa using e1⟩, q0, q1⟩
end

theorem fit_t0 : Ft t0 := ⟨⟨fun i => by simp [t0, Lab.e0, maxLen], Nat.zero_le _⟩, ⟨fun i => by simp [t0, Lin.e0, maxLen, In64], Nat.zero_le _⟩⟩
theorem ft_pl {q q' : T} (h : pl q' = pl q) (hf : Ft q) : Ft q' := by
  obtain ⟨ls, la, lc, ns, na, nc⟩ := q
  obtain ⟨ls', la', lc', ns', na', nc'⟩ := q'
  simp only [pl, Pl.mk.injEq] at h
  obtain ⟨rfl, rfl⟩ := h
  exact ⟨hf.l, hf.n⟩
theorem wt_pl {q q' : T} (h : pl q' = pl q) : wt q' = wt q := by
  obtain ⟨ls, la, lc, ns, na, nc⟩ := q
  obtain ⟨ls', la', lc', ns', na', nc'⟩ := q'
  simp only [pl, Pl.mk.injEq] at h
  obtain ⟨rfl, rfl⟩ := h
  rfl
theorem Same.fit {n : Nat} {ts ts' : List T} (h : Same n ts ts') (hn' : ts'.length = n) (hf : Fit ts) : Fit ts' := by
  intro i
  by_cases hi : i < n
  · exact ft_pl (h i hi) (hf i)
  · rw [List.getD_eq_getElem?_getD, List.getElem?_eq_none (by omega)]; exact fit_t0
theorem Same.sml {n : Nat} {ts ts' : List T} (h : Same n ts ts') (hn : ts.length = n) (hn' : ts'.length = n) (hz : Sml ts) : Sml ts' := by
  intro i hi
  rw [wt_pl (h i (by omega))]
  exact hz i (by omega)
theorem Same.trans' {n : Nat} {ts d e : List T} (s : Same n ts d) (r : Same n ts e) : Same n d e := fun i hi => (r i hi).trans (s i hi).symm
theorem add_none (b off j : Nat) : (⟨b, off, none⟩ : Addr).add j = ⟨b, off + j, none⟩ := by
  by_cases h : j = 0
  · subst h; simp [Addr.add]
  · simp [Addr.add, h]
set_option maxRecDepth 100000 in
theorem open_list {H : Type} {enc : TypeId × Value → H} {W : World} {a0 : Option Addr} {len0 cap0 : Nat} {d : DataW H} {p : List MemPlace} (h : DataW.Trod enc Try.prog W 0 (fun _ => true) true 22 (.slice a0 len0 cap0) d p) :
    ∃ ts : List T, ts.length = len0 ∧ len0 ≤ maxLen ∧ Has W a0 ts ∧ Fit ts := by
  obtain ⟨fuel, hf⟩ := h
  rcases open_rows Try.underlying22 Try.underlying33 (by kernel_rfl) rfl rfl (by kernel_rfl) (by kernel_rfl) hf with hcs | ⟨a, len, cap, n, hcs, hl, hm, hx⟩
  · simp [Value.cells] at hcs
    obtain ⟨rfl, rfl, rfl⟩ := hcs
    exact ⟨[], rfl, Nat.zero_le _, .inl rfl, fun i => fit_t0⟩
  · simp [Value.cells] at hcs
    obtain ⟨rfl, rfl, rfl⟩ := hcs
    have key : ∀ i, i < len0 → ∃ q : T, (W.cell? (a.add (i * 2)) = some (.slice q.la q.ls.length q.lc) ∧ W.cell? (a.add (i * 2 + 1)) = some (.slice q.na q.ns.length q.nc)) ∧ Lst W q ∧ Ft q := by
      intro i hi
      obtain ⟨v0, v1, y0, y1, ⟨e0, e1⟩, b0, b1⟩ := hx i hi
      obtain ⟨la0, ll0, lc0, rfl⟩ : ∃ a l c, v0 = .slice a l c := by
        rcases Deep.open_slice Try.underlying30 b0 with ⟨hq, _⟩ | ⟨a, l, c, m, n', D, Pl, hq, _⟩
        · simp only [List.cons.injEq, and_true] at hq; exact ⟨_, _, _, hq⟩
        · simp only [List.cons.injEq, and_true] at hq; exact ⟨_, _, _, hq⟩
      obtain ⟨ls0, p0, r0, s0, t0⟩ := Lbo.open_labels (enc := enc) (a0 := la0) (len0 := ll0) (cap0 := lc0) (W := W) (d := y0.1) (p := y0.2) ⟨n, by simpa [Value.cells] using b0⟩
      subst p0
      obtain ⟨la1, ll1, lc1, rfl⟩ : ∃ a l c, v1 = .slice a l c := by
        rcases Deep.open_slice Try.underlying31 b1 with ⟨hq, _⟩ | ⟨a, l, c, m, n', D, Pl, hq, _⟩
        · simp only [List.cons.injEq, and_true] at hq; exact ⟨_, _, _, hq⟩
        · simp only [List.cons.injEq, and_true] at hq; exact ⟨_, _, _, hq⟩
      obtain ⟨ls1, p1, r1, s1, t1⟩ := Lio.open_lines (enc := enc) (a0 := la1) (len0 := ll1) (cap0 := lc1) (W := W) (d := y1.1) (p := y1.2) ⟨n, by simpa [Value.cells] using b1⟩
      subst p1
      exact ⟨⟨ls0, la0, lc0, ls1, la1, lc1⟩, ⟨e0, e1⟩, ⟨s0, s1⟩, ⟨⟨t0, r0⟩, ⟨t1, r1⟩⟩⟩
    obtain ⟨q, hq⟩ := Deep.choose_lt (α := T) key
    have hg : ∀ i, i < len0 → ((List.range len0).map q).getD i t0 = q i := fun i hi => by simp [hi]
    refine ⟨(List.range len0).map q, by simp, by omega, ?_, ?_⟩
    · by_cases h0 : len0 = 0
      · subst h0; exact .inl rfl
      · obtain ⟨b, off, spot⟩ := a
        have h1 := (hq 0 (by omega)).1.1
        have hs : spot = none := by simpa [Addr.add] using World.cell?_spot h1
        subst hs
        refine .inr ⟨b, off, rfl, World.block_lt_of_cell? W _ h1, fun i hi => ?_⟩
        have hi' : i < len0 := by simpa using hi
        obtain ⟨⟨k0_, k1_⟩, k7, _⟩ := hq i hi'
        rw [add_none] at k0_ k1_
        rw [hg i hi']
        refine ⟨fun j hj => ?_, k7⟩
        rcases (show j = 0 ∨ j = 1 by omega) with rfl | rfl
        · exact k0_
        · exact k1_
    · intro i
      by_cases hi : i < len0
      · rw [hg i hi]; exact (hq i hi).2.2
      · rw [List.getD_eq_getElem?_getD, List.getElem?_eq_none (by simp; omega)]; exact fit_t0
end Go.Proofs.Ytaanafejhgijnaa.Stm
