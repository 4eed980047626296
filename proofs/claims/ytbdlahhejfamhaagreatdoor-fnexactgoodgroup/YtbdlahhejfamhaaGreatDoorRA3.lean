/- Lists of matchers that came in. -/
import Derived.Test.YtbdlahhejfamhaaGreatDoorRC5
import Derived.Deep.SlicePairs
import Derived.WalkKit
import Derived.ProofKit
import Derived.OpenShut
import Derived.ShutString
import Derived.ChangeOld
import Derived.Below
import Derived.Handy
import Derived.WalkSmall
import Derived.Test.YtbdlahhejfamhaaGreatDoorRA2
import Derived.Deep.Strs
import Derived.Test.YtbdlahhejfamhaaGreatDoorRQyc
namespace Go.Proofs.YtbdlahhejfamhaaGreatDoor.Lab
open Go.ChangeShapes Go.WideShapes Go.ChangeAt Go.RowKit Go.Proofs.YtbdlahhejfamhaaGreatDoor.Pat

theorem add_none (b off j : Nat) : (⟨b, off, none⟩ : Addr).add j = ⟨b, off + j, none⟩ := by
  by_cases h : j = 0
  · subst h; simp [Addr.add]
  · simp [Addr.add, h]
theorem int_bd {n : Int} (h : (Lit.int .i64 n).wf = true) : -9223372036854775808 ≤ n ∧ n ≤ 9223372036854775807 := bounds_i64 h

section
variable {H : Type} {enc : TypeId × Value → H} {P : Program} {w : World} {base : Nat} {held : Bool}
/-- A slice whose elements are structs of three one-cell fields. -/
theorem open_triples {t e : TypeId} {f0 f1 f2 : Field} {fuel : Nat} {cs : List Value} {x : DataW H × List MemPlace} (ht : P.underlying t = some (.slice e)) (he : P.underlying e = some (.struct #[f0, f1, f2]))
    (ce : P.cellsOf e = 3) (o0 : f0.offset = 0) (o1 : f1.offset = 1) (o2 : f2.offset = 2) (c0 : P.cellsOf f0.type = 1) (c1 : P.cellsOf f1.type = 1) (c2 : P.cellsOf f2.type = 1)
    (h : DataW.trod enc P w base (fun _ => true) held fuel t cs = some x) :
    cs = [.slice none 0 0] ∨ ∃ (a : Addr) (len cap n : Nat), cs = [.slice (some a) len cap] ∧ len ≤ cap ∧ cap ≤ maxLen ∧ ∀ i, i < len → ∃ v0 v1 v2 y0 y1 y2, w.cell? (a.add (i * 3)) = some v0 ∧ w.cell? (a.add (i * 3 + 1)) = some v1 ∧ w.cell? (a.add (i * 3 + 2)) = some v2 ∧
      DataW.trod enc P w base (fun _ => true) held n f0.type [v0] = some y0 ∧ DataW.trod enc P w base (fun _ => true) held n f1.type [v1] = some y1 ∧ DataW.trod enc P w base (fun _ => true) held n f2.type [v2] = some y2 := by
  rcases Deep.open_slice ht h with h0 | ⟨a, len, cap, m, n, D, Pl, rfl, hb, hl, hm, hmm, rfl, hx⟩
  · exact .inl h0.1
  right
  refine ⟨a, len, cap, n - 1, rfl, hl, hm, fun i hi => ?_⟩
  simp only [if_true] at hmm
  obtain ⟨cs', h1, h2⟩ := hx i (by omega)
  rw [ce] at h1
  obtain ⟨_, hlen, hcell⟩ := World.cells?_some h1
  obtain ⟨xs, k, hk, hxy, _, hxl, hf⟩ := DataW.trod_struct he h2
  have hk' : k = n - 1 := by omega
  subst hk'
  match xs, hxl, cs', hlen with
  | [y0, y1, y2], _, [v0, v1, v2], _ =>
    have g0 := hf 0 f0 rfl
    have g1 := hf 1 f1 rfl
    have g2 := hf 2 f2 rfl
    simp [o0, o1, o2, c0, c1, c2] at g0 g1 g2
    have e0 := hcell 0 (by omega)
    have e1 := hcell 1 (by omega)
    have e2 := hcell 2 (by omega)
    rw [Deep.add_add] at e0 e1 e2
    exact ⟨v0, v1, v2, y0, y1, y2, by simpa using e0, by simpa using e1, by simpa using e2, g0, g1, g2⟩
end

theorem open_labels {H : Type} {enc : TypeId × Value → H} {W : World} {a0 : Option Addr} {len0 cap0 : Nat} {d : DataW H} {p : List MemPlace} (h : DataW.Trod enc Tryz.prog W 0 (fun _ => true) true 49 (.slice a0 len0 cap0) d p) :
    ∃ ms : List Mt, ms.length = len0 ∧ len0 ≤ maxLen ∧ HasM W a0 ms ∧ FitM ms := by
  obtain ⟨fuel, hf⟩ := h
  rcases open_triples Tryz.underlying49 Tryz.underlying161 (by kernel_rfl) rfl rfl rfl (by kernel_rfl) (by kernel_rfl) (by kernel_rfl) hf with hcs | ⟨a, len, cap, n, hcs, hl, hm, hx⟩
  · simp [Value.cells] at hcs
    obtain ⟨rfl, rfl, rfl⟩ := hcs
    exact ⟨[], rfl, Nat.zero_le _, .inl rfl, fun i => by simp [m0, maxLen]⟩
  · simp [Value.cells] at hcs
    obtain ⟨rfl, rfl, rfl⟩ := hcs
    have key : ∀ i, i < len0 → ∃ q : Mt, W.cell? (a.add (i * 3)) = some (.string q.1) ∧ W.cell? (a.add (i * 3 + 1)) = some (.int .i64 q.2.1) ∧ W.cell? (a.add (i * 3 + 2)) = some (.string q.2.2) ∧ q.1.size ≤ maxLen ∧ q.2.2.size ≤ maxLen ∧ -9223372036854775808 ≤ q.2.1 ∧ q.2.1 ≤ 9223372036854775807 := by
      intro i hi
      obtain ⟨v0, v1, v2, y0, y1, y2, e0, e1, e2, g0, g1, g2⟩ := hx i hi
      obtain ⟨s, hs, _, hs1⟩ := DataW.trod_string Tryz.underlying9 g0
      obtain ⟨o, ho, _, ho1⟩ := DataW.trod_int Tryz.underlying3 g1
      obtain ⟨t, ht, _, ht1⟩ := DataW.trod_string Tryz.underlying9 g2
      simp only [List.cons.injEq, and_true] at hs ho ht
      obtain ⟨b0, b1⟩ := int_bd ho1
      exact ⟨(s, o, t), by rw [e0, hs], by rw [e1, ho], by rw [e2, ht], hs1, ht1, b0, b1⟩
    obtain ⟨q, hq⟩ := Deep.choose_lt (α := Mt) key
    have hg : ∀ i, i < len0 → ((List.range len0).map q).getD i m0 = q i := fun i hi => by simp [hi]
    refine ⟨(List.range len0).map q, by simp, by omega, ?_, ?_⟩
    · by_cases h0 : len0 = 0
      · subst h0; exact .inl rfl
      · obtain ⟨b, off, spot⟩ := a
        have h1 := (hq 0 (by omega)).1
        have hs : spot = none := by simpa [Addr.add] using World.cell?_spot h1
        subst hs
        refine .inr ⟨b, off, rfl, World.block_lt_of_cell? W _ h1, fun i hi => ?_⟩
        have hi' : i < len0 := by simpa using hi
        obtain ⟨g1, g2, g3, _⟩ := hq i hi'
        rw [add_none] at g1 g2 g3
        rw [hg i hi']
        exact ⟨g1, g2, g3⟩
    · intro i
      by_cases hi : i < len0
      · rw [hg i hi]; exact (hq i hi).2.2.2
      · rw [List.getD_eq_getElem?_getD, List.getElem?_eq_none (by simp; omega)]; simp [m0, maxLen]
end Go.Proofs.YtbdlahhejfamhaaGreatDoor.Lab
/- Lists of texts that came in. -/
namespace Go.Proofs.YtbdlahhejfamhaaGreatDoor.Fil
open Go.ChangeShapes Go.WideShapes Go.ChangeAt Go.RowKit

theorem add_none (b off j : Nat) : (⟨b, off, none⟩ : Addr).add j = ⟨b, off + j, none⟩ := by
  by_cases h : j = 0
  · subst h; simp [Addr.add]
  · simp [Addr.add, h]
theorem open_texts {H : Type} {enc : TypeId × Value → H} {W : World} {a0 : Option Addr} {len0 cap0 : Nat} {d : DataW H} {p : List MemPlace} (h : DataW.Trod enc Tryz.prog W 0 (fun _ => true) true 50 (.slice a0 len0 cap0) d p) :
    ∃ ss : List ByteArray, ss.length = len0 ∧ len0 ≤ maxLen ∧ HasT W a0 ss ∧ FitT ss := by
  obtain ⟨fuel, hf⟩ := h
  rcases Deep.open_strs Tryz.underlying50 Tryz.underlying9 (by kernel_rfl) hf with ⟨hcs, _⟩ | ⟨a, len, cap, m, Sx, hcs, _, hl, hm, hmm, _, hx⟩
  · simp [Value.cells] at hcs
    obtain ⟨rfl, rfl, rfl⟩ := hcs
    exact ⟨[], rfl, Nat.zero_le _, .inl rfl, fun i => by simp [maxLen]⟩
  · simp [Value.cells] at hcs
    obtain ⟨rfl, rfl, rfl⟩ := hcs
    simp only [if_true] at hmm
    have hg : ∀ i, i < len0 → ((List.range len0).map Sx).getD i ByteArray.empty = Sx i := fun i hi => by simp [hi]
    refine ⟨(List.range len0).map Sx, by simp, by omega, ?_, ?_⟩
    · by_cases h0 : len0 = 0
      · subst h0; exact .inl rfl
      · obtain ⟨b, off, spot⟩ := a
        have h1 := (hx 0 (by omega)).1
        have hs : spot = none := by simpa [Addr.add] using World.cell?_spot h1
        subst hs
        refine .inr ⟨b, off, rfl, World.block_lt_of_cell? W _ h1, fun i hi => ?_⟩
        have hi' : i < len0 := by simpa using hi
        have g1 := (hx i (by omega)).1
        rw [add_none] at g1
        rw [hg i hi']
        exact g1
    · intro i
      by_cases hi : i < len0
      · rw [hg i hi]; exact (hx i (by omega)).2
      · rw [List.getD_eq_getElem?_getD, List.getElem?_eq_none (by simp; omega)]; simp [maxLen]
end Go.Proofs.YtbdlahhejfamhaaGreatDoor.Fil
/- Lists of questions that came in. -/
namespace Go.Proofs.YtbdlahhejfamhaaGreatDoor.Qry
open Go.ChangeShapes Go.WideShapes Go.ChangeAt Go.RowKit Go.Deep Go.WideElems Go.Maps

section
variable {H : Type} {enc : TypeId × Value → H} {P : Program} {w : World} {base : Nat} {held : Bool}
theorem open_rows {t e : TypeId} {g0 g1 g2 g3 g4 g5 g6 g7 g8 g9 g10 g11 g12 g13 g14 : Field} {fuel : Nat} {cs : List Value} {x : DataW H × List MemPlace} (ht : P.underlying t = some (.slice e)) (he : P.underlying e = some (.struct #[g0, g1, g2, g3, g4, g5, g6, g7, g8, g9, g10, g11, g12, g13, g14]))
    (ce : P.cellsOf e = 15) (o0 : g0.offset = 0) (o1 : g1.offset = 1) (o2 : g2.offset = 2) (o3 : g3.offset = 3) (o4 : g4.offset = 4) (o5 : g5.offset = 5) (o6 : g6.offset = 6) (o7 : g7.offset = 7) (o8 : g8.offset = 8) (o9 : g9.offset = 9) (o10 : g10.offset = 10) (o11 : g11.offset = 11) (o12 : g12.offset = 12) (o13 : g13.offset = 13) (o14 : g14.offset = 14) (c0 : P.cellsOf g0.type = 1) (c1 : P.cellsOf g1.type = 1) (c2 : P.cellsOf g2.type = 1) (c3 : P.cellsOf g3.type = 1) (c4 : P.cellsOf g4.type = 1) (c5 : P.cellsOf g5.type = 1) (c6 : P.cellsOf g6.type = 1) (c7 : P.cellsOf g7.type = 1) (c8 : P.cellsOf g8.type = 1) (c9 : P.cellsOf g9.type = 1) (c10 : P.cellsOf g10.type = 1) (c11 : P.cellsOf g11.type = 1) (c12 : P.cellsOf g12.type = 1) (c13 : P.cellsOf g13.type = 1) (c14 : P.cellsOf g14.type = 1)
    (h : DataW.trod enc P w base (fun _ => true) held fuel t cs = some x) :
    cs = [.slice none 0 0] ∨ ∃ (a : Addr) (len cap n : Nat), cs = [.slice (some a) len cap] ∧ len ≤ cap ∧ cap ≤ maxLen ∧ ∀ i, i < len → ∃ v0 v1 v2 v3 v4 v5 v6 v7 v8 v9 v10 v11 v12 v13 v14 y0 y1 y2 y3 y4 y5 y6 y7 y8 y9 y10 y11 y12 y13 y14, (w.cell? (a.add (i * 15)) = some v0 ∧ w.cell? (a.add (i * 15 + 1)) = some v1 ∧ w.cell? (a.add (i * 15 + 2)) = some v2 ∧ w.cell? (a.add (i * 15 + 3)) = some v3 ∧ w.cell? (a.add (i * 15 + 4)) = some v4 ∧ w.cell? (a.add (i * 15 + 5)) = some v5 ∧ w.cell? (a.add (i * 15 + 6)) = some v6 ∧ w.cell? (a.add (i * 15 + 7)) = some v7 ∧ w.cell? (a.add (i * 15 + 8)) = some v8 ∧ w.cell? (a.add (i * 15 + 9)) = some v9 ∧ w.cell? (a.add (i * 15 + 10)) = some v10 ∧ w.cell? (a.add (i * 15 + 11)) = some v11 ∧ w.cell? (a.add (i * 15 + 12)) = some v12 ∧ w.cell? (a.add (i * 15 + 13)) = some v13 ∧ w.cell? (a.add (i * 15 + 14)) = some v14) ∧
      DataW.trod enc P w base (fun _ => true) held n g0.type [v0] = some y0 ∧ DataW.trod enc P w base (fun _ => true) held n g1.type [v1] = some y1 ∧ DataW.trod enc P w base (fun _ => true) held n g2.type [v2] = some y2 ∧ DataW.trod enc P w base (fun _ => true) held n g3.type [v3] = some y3 ∧ DataW.trod enc P w base (fun _ => true) held n g4.type [v4] = some y4 ∧ DataW.trod enc P w base (fun _ => true) held n g5.type [v5] = some y5 ∧ DataW.trod enc P w base (fun _ => true) held n g6.type [v6] = some y6 ∧ DataW.trod enc P w base (fun _ => true) held n g7.type [v7] = some y7 ∧ DataW.trod enc P w base (fun _ => true) held n g8.type [v8] = some y8 ∧ DataW.trod enc P w base (fun _ => true) held n g9.type [v9] = some y9 ∧ DataW.trod enc P w base (fun _ => true) held n g10.type [v10] = some y10 ∧ DataW.trod enc P w base (fun _ => true) held n g11.type [v11] = some y11 ∧ DataW.trod enc P w base (fun _ => true) held n g12.type [v12] = some y12 ∧ DataW.trod enc P w base (fun _ => true) held n g13.type [v13] = some y13 ∧ DataW.trod enc P w base (fun _ => true) held n g14.type [v14] = some y14 := by
  rcases Deep.open_slice ht h with h0 | ⟨a, len, cap, m, n, D, Pl, rfl, hb, hl, hm, hmm, rfl, hx⟩
  · exact .inl h0.1
  right
  refine ⟨a, len, cap, n - 1, rfl, hl, hm, fun i hi => ?_⟩
  simp only [if_true] at hmm
  obtain ⟨cs', h1, h2⟩ := hx i (by omega)
  rw [ce] at h1
  obtain ⟨_, hlen, hcell⟩ := World.cells?_some h1
  obtain ⟨xs, k, hk, hxy, _, hxl, hf⟩ := DataW.trod_struct he h2
  have hk' : k = n - 1 := by omega
  subst hk'
  match xs, hxl, cs', hlen with
  | [y0, y1, y2, y3, y4, y5, y6, y7, y8, y9, y10, y11, y12, y13, y14], _, [v0, v1, v2, v3, v4, v5, v6, v7, v8, v9, v10, v11, v12, v13, v14], _ =>
    have q0 := hf 0 g0 rfl
    have q1 := hf 1 g1 rfl
    have q2 := hf 2 g2 rfl
    have q3 := hf 3 g3 rfl
    have q4 := hf 4 g4 rfl
    have q5 := hf 5 g5 rfl
    have q6 := hf 6 g6 rfl
    have q7 := hf 7 g7 rfl
    have q8 := hf 8 g8 rfl
    have q9 := hf 9 g9 rfl
    have q10 := hf 10 g10 rfl
    have q11 := hf 11 g11 rfl
    have q12 := hf 12 g12 rfl
    have q13 := hf 13 g13 rfl
    have q14 := hf 14 g14 rfl
    simp [o0, o1, o2, o3, o4, o5, o6, o7, o8, o9, o10, o11, o12, o13, o14, c0, c1, c2, c3, c4, c5, c6, c7, c8, c9, c10, c11, c12, c13, c14] at q0 q1 q2 q3 q4 q5 q6 q7 q8 q9 q10 q11 q12 q13 q14
    have e0 := hcell 0 (by omega)
    have e1 := hcell 1 (by omega)
    have e2 := hcell 2 (by omega)
    have e3 := hcell 3 (by omega)
    have e4 := hcell 4 (by omega)
    have e5 := hcell 5 (by omega)
    have e6 := hcell 6 (by omega)
    have e7 := hcell 7 (by omega)
    have e8 := hcell 8 (by omega)
    have e9 := hcell 9 (by omega)
    have e10 := hcell 10 (by omega)
    have e11 := hcell 11 (by omega)
    have e12 := hcell 12 (by omega)
    have e13 := hcell 13 (by omega)
    have e14 := hcell 14 (by omega)
    rw [Deep.add_add] at e0 e1 e2 e3 e4 e5 e6 e7 e8 e9 e10 e11 e12 e13 e14
    exact ⟨v0, v1, v2, v3, v4, v5, v6, v7, v8, v9, v10, v11, v12, v13, v14, y0, y1, y2, y3, y4, y5, y6, y7, y8, y9, y10, y11, y12, y13, y14, ⟨by simpa using e0, by simpa using e1, by simpa using e2, by simpa using e3, by simpa using e4, by simpa using e5, by simpa using e6, by simpa using e7, by simpa using e8, by simpa using e9, by simpa using e10, by simpa using e11, by simpa using e12, by simpa using e13, by simpa using e14⟩, q0, q1, q2, q3, q4, q5, q6, q7, q8, q9, q10, q11, q12, q13, q14⟩
end

theorem fit_r0 : Ft r0 := ⟨by simp [r0, In64], by simp [r0, In64], by simp [r0, In64], by simp [r0, maxLen], by simp [r0, In64], ⟨fun i => by simp [r0, Pat.m0, maxLen], Nat.zero_le _⟩, by simp [r0, In64], by simp [r0, In64], by simp [r0, In64], ⟨fun i => by simp [r0, maxLen], Nat.zero_le _⟩, by simp [r0, In64], ⟨fun i => by simp [r0, maxLen], Nat.zero_le _⟩, by simp [r0, In64]⟩
theorem ft_pl {q q' : R} (h : pl q' = pl q) (hf : Ft q) : Ft q' := by
  obtain ⟨kd, nu, st, tx, op, ms, ma, mc, off, fx, att, bo, byy, ns, na, nc, sd, es, ea, ec, kc⟩ := q
  obtain ⟨kd', nu', st', tx', op', ms', ma', mc', off', fx', att', bo', byy', ns', na', nc', sd', es', ea', ec', kc'⟩ := q'
  simp only [pl, Pl.mk.injEq] at h
  obtain ⟨rfl, rfl, rfl, rfl, rfl, rfl, rfl, rfl, rfl, rfl, rfl, rfl, rfl, rfl, rfl⟩ := h
  exact ⟨hf.kd, hf.nu, hf.st, hf.tx, hf.op, hf.ms, hf.off, hf.att, hf.byy, hf.ns, hf.sd, hf.es, hf.kc⟩
theorem wt_pl {q q' : R} (h : pl q' = pl q) : wt q' = wt q := by
  obtain ⟨kd, nu, st, tx, op, ms, ma, mc, off, fx, att, bo, byy, ns, na, nc, sd, es, ea, ec, kc⟩ := q
  obtain ⟨kd', nu', st', tx', op', ms', ma', mc', off', fx', att', bo', byy', ns', na', nc', sd', es', ea', ec', kc'⟩ := q'
  simp only [pl, Pl.mk.injEq] at h
  obtain ⟨rfl, rfl, rfl, rfl, rfl, rfl, rfl, rfl, rfl, rfl, rfl, rfl, rfl, rfl, rfl⟩ := h
  rfl
theorem Same.fit {n : Nat} {ts ts' : List R} (h : Same n ts ts') (hn' : ts'.length = n) (hf : FitR ts) : FitR ts' := by
  intro i
  by_cases hi : i < n
  · exact ft_pl (h i hi) (hf i)
  · rw [List.getD_eq_getElem?_getD, List.getElem?_eq_none (by omega)]; exact fit_r0
theorem Same.sml {n : Nat} {ts ts' : List R} (h : Same n ts ts') (hn : ts.length = n) (hn' : ts'.length = n) (hz : SmlR ts) : SmlR ts' := by
  intro i hi
  rw [wt_pl (h i (by omega))]
  exact hz i (by omega)
theorem Same.trans' {n : Nat} {ts d e : List R} (s : Same n ts d) (r : Same n ts e) : Same n d e := fun i hi => (r i hi).trans (s i hi).symm
theorem add_none (b off j : Nat) : (⟨b, off, none⟩ : Addr).add j = ⟨b, off + j, none⟩ := by
  by_cases h : j = 0
  · subst h; simp [Addr.add]
  · simp [Addr.add, h]
set_option maxRecDepth 100000 in
theorem open_list {H : Type} {enc : TypeId × Value → H} {W : World} {a0 : Option Addr} {len0 cap0 : Nat} {d : DataW H} {p : List MemPlace} (h : DataW.Trod enc Tryz.prog W 0 (fun _ => true) true 22 (.slice a0 len0 cap0) d p) :
    ∃ ts : List R, ts.length = len0 ∧ len0 ≤ maxLen ∧ HasR W a0 ts ∧ FitR ts := by
  obtain ⟨fuel, hf⟩ := h
  rcases open_rows Tryz.underlying22 Tryz.underlying52 (by kernel_rfl) rfl rfl rfl rfl rfl rfl rfl rfl rfl rfl rfl rfl rfl rfl rfl (by kernel_rfl) (by kernel_rfl) (by kernel_rfl) (by kernel_rfl) (by kernel_rfl) (by kernel_rfl) (by kernel_rfl) (by kernel_rfl) (by kernel_rfl) (by kernel_rfl) (by kernel_rfl) (by kernel_rfl) (by kernel_rfl) (by kernel_rfl) (by kernel_rfl) hf with hcs | ⟨a, len, cap, n, hcs, hl, hm, hx⟩
  · simp [Value.cells] at hcs
    obtain ⟨rfl, rfl, rfl⟩ := hcs
    exact ⟨[], rfl, Nat.zero_le _, .inl rfl, fun i => fit_r0⟩
  · simp [Value.cells] at hcs
    obtain ⟨rfl, rfl, rfl⟩ := hcs
    have key : ∀ i, i < len0 → ∃ q : R, (W.cell? (a.add (i * 15)) = some (.int .i64 q.kd) ∧ W.cell? (a.add (i * 15 + 1)) = some (.int .i64 q.nu) ∧ W.cell? (a.add (i * 15 + 2)) = some (.int .i64 q.st) ∧ W.cell? (a.add (i * 15 + 3)) = some (.string q.tx) ∧ W.cell? (a.add (i * 15 + 4)) = some (.int .i64 q.op) ∧ W.cell? (a.add (i * 15 + 5)) = some (.slice q.ma q.ms.length q.mc) ∧ W.cell? (a.add (i * 15 + 6)) = some (.int .i64 q.off) ∧ W.cell? (a.add (i * 15 + 7)) = some (.bool q.fx) ∧ W.cell? (a.add (i * 15 + 8)) = some (.int .i64 q.att) ∧ W.cell? (a.add (i * 15 + 9)) = some (.bool q.bo) ∧ W.cell? (a.add (i * 15 + 10)) = some (.int .i64 q.byy) ∧ W.cell? (a.add (i * 15 + 11)) = some (.slice q.na q.ns.length q.nc) ∧ W.cell? (a.add (i * 15 + 12)) = some (.int .i64 q.sd) ∧ W.cell? (a.add (i * 15 + 13)) = some (.slice q.ea q.es.length q.ec) ∧ W.cell? (a.add (i * 15 + 14)) = some (.int .i64 q.kc)) ∧ Lst W q ∧ Ft q := by
      intro i hi
      obtain ⟨v0, v1, v2, v3, v4, v5, v6, v7, v8, v9, v10, v11, v12, v13, v14, y0, y1, y2, y3, y4, y5, y6, y7, y8, y9, y10, y11, y12, y13, y14, ⟨e0, e1, e2, e3, e4, e5, e6, e7, e8, e9, e10, e11, e12, e13, e14⟩, b0, b1, b2, b3, b4, b5, b6, b7, b8, b9, b10, b11, b12, b13, b14⟩ := hx i hi
      obtain ⟨A0, ea0, _, w0⟩ := DataW.trod_int Tryz.underlying3 b0
      simp only [List.cons.injEq, and_true] at ea0
      subst ea0
      simp only [Lit.wf, Bool.and_eq_true, decide_eq_true_eq] at w0
      obtain ⟨A1, ea1, _, w1⟩ := DataW.trod_int Tryz.underlying3 b1
      simp only [List.cons.injEq, and_true] at ea1
      subst ea1
      simp only [Lit.wf, Bool.and_eq_true, decide_eq_true_eq] at w1
      obtain ⟨A2, ea2, _, w2⟩ := DataW.trod_int Tryz.underlying3 b2
      simp only [List.cons.injEq, and_true] at ea2
      subst ea2
      simp only [Lit.wf, Bool.and_eq_true, decide_eq_true_eq] at w2
      obtain ⟨A3, ea3, _, w3⟩ := DataW.trod_string Tryz.underlying9 b3
      simp only [List.cons.injEq, and_true] at ea3
      subst ea3
      obtain ⟨A4, ea4, _, w4⟩ := DataW.trod_int Tryz.underlying3 b4
      simp only [List.cons.injEq, and_true] at ea4
      subst ea4
      simp only [Lit.wf, Bool.and_eq_true, decide_eq_true_eq] at w4
      obtain ⟨la5, ll5, lc5, rfl⟩ : ∃ a l c, v5 = .slice a l c := by
        rcases Deep.open_slice Tryz.underlying49 b5 with ⟨hq, _⟩ | ⟨a, l, c, m, n', D, Pl, hq, _⟩
        · simp only [List.cons.injEq, and_true] at hq; exact ⟨_, _, _, hq⟩
        · simp only [List.cons.injEq, and_true] at hq; exact ⟨_, _, _, hq⟩
      obtain ⟨ls5, p5, r5, s5, t5⟩ := Lab.open_labels (enc := enc) (a0 := la5) (len0 := ll5) (cap0 := lc5) (W := W) (d := y5.1) (p := y5.2) ⟨n, by simpa [Value.cells] using b5⟩
      subst p5
      obtain ⟨A6, ea6, _, w6⟩ := DataW.trod_int Tryz.underlying3 b6
      simp only [List.cons.injEq, and_true] at ea6
      subst ea6
      simp only [Lit.wf, Bool.and_eq_true, decide_eq_true_eq] at w6
      obtain ⟨A7, ea7, _⟩ := DataW.trod_bool Tryz.underlying4 b7
      simp only [List.cons.injEq, and_true] at ea7
      subst ea7
      obtain ⟨A8, ea8, _, w8⟩ := DataW.trod_int Tryz.underlying3 b8
      simp only [List.cons.injEq, and_true] at ea8
      subst ea8
      simp only [Lit.wf, Bool.and_eq_true, decide_eq_true_eq] at w8
      obtain ⟨A9, ea9, _⟩ := DataW.trod_bool Tryz.underlying4 b9
      simp only [List.cons.injEq, and_true] at ea9
      subst ea9
      obtain ⟨A10, ea10, _, w10⟩ := DataW.trod_int Tryz.underlying3 b10
      simp only [List.cons.injEq, and_true] at ea10
      subst ea10
      simp only [Lit.wf, Bool.and_eq_true, decide_eq_true_eq] at w10
      obtain ⟨la11, ll11, lc11, rfl⟩ : ∃ a l c, v11 = .slice a l c := by
        rcases Deep.open_slice Tryz.underlying50 b11 with ⟨hq, _⟩ | ⟨a, l, c, m, n', D, Pl, hq, _⟩
        · simp only [List.cons.injEq, and_true] at hq; exact ⟨_, _, _, hq⟩
        · simp only [List.cons.injEq, and_true] at hq; exact ⟨_, _, _, hq⟩
      obtain ⟨ls11, p11, r11, s11, t11⟩ := Fil.open_texts (enc := enc) (a0 := la11) (len0 := ll11) (cap0 := lc11) (W := W) (d := y11.1) (p := y11.2) ⟨n, by simpa [Value.cells] using b11⟩
      subst p11
      obtain ⟨A12, ea12, _, w12⟩ := DataW.trod_int Tryz.underlying3 b12
      simp only [List.cons.injEq, and_true] at ea12
      subst ea12
      simp only [Lit.wf, Bool.and_eq_true, decide_eq_true_eq] at w12
      obtain ⟨la13, ll13, lc13, rfl⟩ : ∃ a l c, v13 = .slice a l c := by
        rcases Deep.open_slice Tryz.underlying50 b13 with ⟨hq, _⟩ | ⟨a, l, c, m, n', D, Pl, hq, _⟩
        · simp only [List.cons.injEq, and_true] at hq; exact ⟨_, _, _, hq⟩
        · simp only [List.cons.injEq, and_true] at hq; exact ⟨_, _, _, hq⟩
      obtain ⟨ls13, p13, r13, s13, t13⟩ := Fil.open_texts (enc := enc) (a0 := la13) (len0 := ll13) (cap0 := lc13) (W := W) (d := y13.1) (p := y13.2) ⟨n, by simpa [Value.cells] using b13⟩
      subst p13
      obtain ⟨A14, ea14, _, w14⟩ := DataW.trod_int Tryz.underlying3 b14
      simp only [List.cons.injEq, and_true] at ea14
      subst ea14
      simp only [Lit.wf, Bool.and_eq_true, decide_eq_true_eq] at w14
      exact ⟨⟨A0, A1, A2, A3, A4, ls5, la5, lc5, A6, A7, A8, A9, A10, ls11, la11, lc11, A12, ls13, la13, lc13, A14⟩, ⟨e0, e1, e2, e3, e4, e5, e6, e7, e8, e9, e10, e11, e12, e13, e14⟩, ⟨s5, s11, s13⟩, ⟨⟨w0.1, w0.2⟩, ⟨w1.1, w1.2⟩, ⟨w2.1, w2.2⟩, w3, ⟨w4.1, w4.2⟩, ⟨t5, r5⟩, ⟨w6.1, w6.2⟩, ⟨w8.1, w8.2⟩, ⟨w10.1, w10.2⟩, ⟨t11, r11⟩, ⟨w12.1, w12.2⟩, ⟨t13, r13⟩, ⟨w14.1, w14.2⟩⟩⟩
    obtain ⟨q, hq⟩ := Deep.choose_lt (α := R) key
    have hg : ∀ i, i < len0 → ((List.range len0).map q).getD i r0 = q i := fun i hi => by simp [hi]
    refine ⟨(List.range len0).map q, by simp, by omega, ?_, ?_⟩
    · by_cases h0 : len0 = 0
      · subst h0; exact .inl rfl
      · obtain ⟨b, off, spot⟩ := a
        have h1 := (hq 0 (by omega)).1.1
        have hs : spot = none := by simpa [Addr.add] using World.cell?_spot h1
        subst hs
        refine .inr ⟨b, off, rfl, World.block_lt_of_cell? W _ h1, fun i hi => ?_⟩
        have hi' : i < len0 := by simpa using hi
        obtain ⟨⟨k0_, k1_, k2_, k3_, k4_, k5_, k6_, k7_, k8_, k9_, k10_, k11_, k12_, k13_, k14_⟩, k7, _⟩ := hq i hi'
        rw [add_none] at k0_ k1_ k2_ k3_ k4_ k5_ k6_ k7_ k8_ k9_ k10_ k11_ k12_ k13_ k14_
        rw [hg i hi']
        refine ⟨fun j hj => ?_, k7⟩
        rcases (show j = 0 ∨ j = 1 ∨ j = 2 ∨ j = 3 ∨ j = 4 ∨ j = 5 ∨ j = 6 ∨ j = 7 ∨ j = 8 ∨ j = 9 ∨ j = 10 ∨ j = 11 ∨ j = 12 ∨ j = 13 ∨ j = 14 by omega) with rfl | rfl | rfl | rfl | rfl | rfl | rfl | rfl | rfl | rfl | rfl | rfl | rfl | rfl | rfl
        · exact k0_
        · exact k1_
        · exact k2_
        · exact k3_
        · exact k4_
        · exact k5_
        · exact k6_
        · exact k7_
        · exact k8_
        · exact k9_
        · exact k10_
        · exact k11_
        · exact k12_
        · exact k13_
        · exact k14_
    · intro i
      by_cases hi : i < len0
      · rw [hg i hi]; exact (hq i hi).2.2
      · rw [List.getD_eq_getElem?_getD, List.getElem?_eq_none (by simp; omega)]; exact fit_r0
end Go.Proofs.YtbdlahhejfamhaaGreatDoor.Qry
