/- Lists of routes that came in. -/
import Derived.Test.YthcogkoleiejgaaGreatDoorRRoa
import Derived.Test.YthcogkoleiejgaaGreatDoorROpn
import Derived.Test.YthcogkoleiejgaaGreatDoorROpt
import Derived.Deep.SlicePairs
import Derived.OpenShut
import Derived.ChangeOld
namespace Go.Proofs.YthcogkoleiejgaaGreatDoor.Rou
open Go.ChangeShapes Go.WideShapes Go.ChangeAt Go.RowKit Go.Deep Go.WideElems Go.Maps
open Go.Proofs.YthcogkoleiejgaaGreatDoor.Rwc

section
variable {H : Type} {enc : TypeId × Value → H} {P : Program} {w : World} {base : Nat} {held : Bool}
theorem open_rows {t e : TypeId} {g0 g1 g2 g3 g4 g5 g6 g7 g8 : Field} {fuel : Nat} {cs : List Value} {x : DataW H × List MemPlace} (ht : P.underlying t = some (.slice e)) (he : P.underlying e = some (.struct #[g0, g1, g2, g3, g4, g5, g6, g7, g8]))
    (ce : P.cellsOf e = 9) (o0 : g0.offset = 0) (o1 : g1.offset = 1) (o2 : g2.offset = 2) (o3 : g3.offset = 3) (o4 : g4.offset = 4) (o5 : g5.offset = 5) (o6 : g6.offset = 6) (o7 : g7.offset = 7) (o8 : g8.offset = 8) (c0 : P.cellsOf g0.type = 1) (c1 : P.cellsOf g1.type = 1) (c2 : P.cellsOf g2.type = 1) (c3 : P.cellsOf g3.type = 1) (c4 : P.cellsOf g4.type = 1) (c5 : P.cellsOf g5.type = 1) (c6 : P.cellsOf g6.type = 1) (c7 : P.cellsOf g7.type = 1) (c8 : P.cellsOf g8.type = 1)
    (h : DataW.trod enc P w base (fun _ => true) held fuel t cs = some x) :
    cs = [.slice none 0 0] ∨ ∃ (a : Addr) (len cap n : Nat), cs = [.slice (some a) len cap] ∧ len ≤ cap ∧ cap ≤ maxLen ∧ ∀ i, i < len → ∃ v0 v1 v2 v3 v4 v5 v6 v7 v8 y0 y1 y2 y3 y4 y5 y6 y7 y8, (w.cell? (a.add (i * 9)) = some v0 ∧ w.cell? (a.add (i * 9 + 1)) = some v1 ∧ w.cell? (a.add (i * 9 + 2)) = some v2 ∧ w.cell? (a.add (i * 9 + 3)) = some v3 ∧ w.cell? (a.add (i * 9 + 4)) = some v4 ∧ w.cell? (a.add (i * 9 + 5)) = some v5 ∧ w.cell? (a.add (i * 9 + 6)) = some v6 ∧ w.cell? (a.add (i * 9 + 7)) = some v7 ∧ w.cell? (a.add (i * 9 + 8)) = some v8) ∧
      DataW.trod enc P w base (fun _ => true) held n g0.type [v0] = some y0 ∧ DataW.trod enc P w base (fun _ => true) held n g1.type [v1] = some y1 ∧ DataW.trod enc P w base (fun _ => true) held n g2.type [v2] = some y2 ∧ DataW.trod enc P w base (fun _ => true) held n g3.type [v3] = some y3 ∧ DataW.trod enc P w base (fun _ => true) held n g4.type [v4] = some y4 ∧ DataW.trod enc P w base (fun _ => true) held n g5.type [v5] = some y5 ∧ DataW.trod enc P w base (fun _ => true) held n g6.type [v6] = some y6 ∧ DataW.trod enc P w base (fun _ => true) held n g7.type [v7] = some y7 ∧ DataW.trod enc P w base (fun _ => true) held n g8.type [v8] = some y8 := by
  rcases Deep.open_slice ht h with h0 | ⟨a, len, cap, m, n, D, Pl, rfl, hb, hl, hm, hmm, rfl, hx⟩
  · exact .inl h0.1
  right
  refine ⟨a, len, cap, n - 1, rfl, hl, hm, fun i hi => ?_⟩
  simp only [if_true] at hmm
  obtain ⟨cs', h1, h2⟩ := hx i (by omega)
  rw [ce] at h1
  obtain ⟨_, hlen, hcell⟩ := World.cells?_some h1
  obtain ⟨xs, k, hk, hxy, _, hxl, hf⟩ := DataW.trod_struct he h2
  have hk' : k = n - 1 := by omega
  subst hk'
  match xs, hxl, cs', hlen with
  | [y0, y1, y2, y3, y4, y5, y6, y7, y8], _, [v0, v1, v2, v3, v4, v5, v6, v7, v8], _ =>
    have q0 := hf 0 g0 rfl
    have q1 := hf 1 g1 rfl
    have q2 := hf 2 g2 rfl
    have q3 := hf 3 g3 rfl
    have q4 := hf 4 g4 rfl
    have q5 := hf 5 g5 rfl
    have q6 := hf 6 g6 rfl
    have q7 := hf 7 g7 rfl
    have q8 := hf 8 g8 rfl
    simp [o0, o1, o2, o3, o4, o5, o6, o7, o8, c0, c1, c2, c3, c4, c5, c6, c7, c8] at q0 q1 q2 q3 q4 q5 q6 q7 q8
    have e0 := hcell 0 (by omega)
    have e1 := hcell 1 (by omega)
    have e2 := hcell 2 (by omega)
    have e3 := hcell 3 (by omega)
    have e4 := hcell 4 (by omega)
    have e5 := hcell 5 (by omega)
    have e6 := hcell 6 (by omega)
    have e7 := hcell 7 (by omega)
    have e8 := hcell 8 (by omega)
    rw [Deep.add_add] at e0 e1 e2 e3 e4 e5 e6 e7 e8
    exact ⟨v0, v1, v2, v3, v4, v5, v6, v7, v8, y0, y1, y2, y3, y4, y5, y6, y7, y8, ⟨by simpa using e0, by simpa using e1, by simpa using e2, by simpa using e3, by simpa using e4, by simpa using e5, by simpa using e6, by simpa using e7, by simpa using e8⟩, q0, q1, q2, q3, q4, q5, q6, q7, q8⟩
end

theorem fit_t0 : Ft t0 := ⟨by simp [t0, maxLen], ⟨fun i => by simp [t0, Pat.m0, maxLen], Nat.zero_le _⟩, ⟨fun i => by simp [t0, maxLen], Nat.zero_le _⟩, by simp [t0, In64], by simp [t0, In64], by simp [t0, In64], ⟨fun i => by simp [t0], Nat.zero_le _⟩, by simp [t0, In64]⟩
theorem ft_pl {q q' : T} (h : pl q' = pl q) (hf : Ft q) : Ft q' := by
  obtain ⟨rv, ms, ma, mc, ds, da, dc, wa, ev, ag, us, ua, uc, on, kd⟩ := q
  obtain ⟨rv', ms', ma', mc', ds', da', dc', wa', ev', ag', us', ua', uc', on', kd'⟩ := q'
  simp only [pl, Pl.mk.injEq] at h
  obtain ⟨rfl, rfl, rfl, rfl, rfl, rfl, rfl, rfl, rfl⟩ := h
  exact ⟨hf.rv, hf.m, hf.d, hf.wa, hf.ev, hf.ag, hf.u, hf.kd⟩
theorem wt_pl {q q' : T} (h : pl q' = pl q) : wt q' = wt q := by
  obtain ⟨rv, ms, ma, mc, ds, da, dc, wa, ev, ag, us, ua, uc, on, kd⟩ := q
  obtain ⟨rv', ms', ma', mc', ds', da', dc', wa', ev', ag', us', ua', uc', on', kd'⟩ := q'
  simp only [pl, Pl.mk.injEq] at h
  obtain ⟨rfl, rfl, rfl, rfl, rfl, rfl, rfl, rfl, rfl⟩ := h
  rfl
theorem Same.fit {n : Nat} {ts ts' : List T} (h : Same n ts ts') (hn' : ts'.length = n) (hf : Fit ts) : Fit ts' := by
  intro i
  by_cases hi : i < n
  · exact ft_pl (h i hi) (hf i)
  · rw [List.getD_eq_getElem?_getD, List.getElem?_eq_none (by omega)]; exact fit_t0
theorem Same.sml {n : Nat} {ts ts' : List T} (h : Same n ts ts') (hn : ts.length = n) (hn' : ts'.length = n) (hz : Sml ts) : Sml ts' := by
  intro i hi
  rw [wt_pl (h i (by omega))]
  exact hz i (by omega)
theorem Same.trans' {n : Nat} {ts d e : List T} (s : Same n ts d) (r : Same n ts e) : Same n d e := fun i hi => (r i hi).trans (s i hi).symm
theorem add_none (b off j : Nat) : (⟨b, off, none⟩ : Addr).add j = ⟨b, off + j, none⟩ := by
  by_cases h : j = 0
  · subst h; simp [Addr.add]
  · simp [Addr.add, h]
set_option maxRecDepth 100000 in
theorem open_list {H : Type} {enc : TypeId × Value → H} {W : World} {a0 : Option Addr} {len0 cap0 : Nat} {d : DataW H} {p : List MemPlace} (h : DataW.Trod enc Tryz.prog W 0 (fun _ => true) true 22 (.slice a0 len0 cap0) d p) :
    ∃ ts : List T, ts.length = len0 ∧ len0 ≤ maxLen ∧ Has W a0 ts ∧ Fit ts := by
  obtain ⟨fuel, hf⟩ := h
  rcases open_rows Tryz.underlying22 Tryz.underlying88 (by kernel_rfl) rfl rfl rfl rfl rfl rfl rfl rfl rfl (by kernel_rfl) (by kernel_rfl) (by kernel_rfl) (by kernel_rfl) (by kernel_rfl) (by kernel_rfl) (by kernel_rfl) (by kernel_rfl) (by kernel_rfl) hf with hcs | ⟨a, len, cap, n, hcs, hl, hm, hx⟩
  · simp [Value.cells] at hcs
    obtain ⟨rfl, rfl, rfl⟩ := hcs
    exact ⟨[], rfl, Nat.zero_le _, .inl rfl, fun i => fit_t0⟩
  · simp [Value.cells] at hcs
    obtain ⟨rfl, rfl, rfl⟩ := hcs
    have key : ∀ i, i < len0 → ∃ q : T, (W.cell? (a.add (i * 9)) = some (.string q.rv) ∧ W.cell? (a.add (i * 9 + 1)) = some (.slice q.ma q.ms.length q.mc) ∧ W.cell? (a.add (i * 9 + 2)) = some (.slice q.da q.ds.length q.dc) ∧ W.cell? (a.add (i * 9 + 3)) = some (.int .i64 q.wa) ∧ W.cell? (a.add (i * 9 + 4)) = some (.int .i64 q.ev) ∧ W.cell? (a.add (i * 9 + 5)) = some (.int .i64 q.ag) ∧ W.cell? (a.add (i * 9 + 6)) = some (.slice q.ua q.us.length q.uc) ∧ W.cell? (a.add (i * 9 + 7)) = some (.bool q.on) ∧ W.cell? (a.add (i * 9 + 8)) = some (.int .i64 q.kd)) ∧ Lst W q ∧ Ft q := by
      intro i hi
      obtain ⟨v0, v1, v2, v3, v4, v5, v6, v7, v8, y0, y1, y2, y3, y4, y5, y6, y7, y8, ⟨e0, e1, e2, e3, e4, e5, e6, e7, e8⟩, b0, b1, b2, b3, b4, b5, b6, b7, b8⟩ := hx i hi
      obtain ⟨A0, ea0, _, w0⟩ := DataW.trod_string Tryz.underlying9 b0
      simp only [List.cons.injEq, and_true] at ea0
      subst ea0
      obtain ⟨la1, ll1, lc1, rfl⟩ : ∃ a l c, v1 = .slice a l c := by
        rcases Deep.open_slice Tryz.underlying86 b1 with ⟨hq, _⟩ | ⟨a, l, c, m, n', D, Pl, hq, _⟩
        · simp only [List.cons.injEq, and_true] at hq; exact ⟨_, _, _, hq⟩
        · simp only [List.cons.injEq, and_true] at hq; exact ⟨_, _, _, hq⟩
      obtain ⟨ls1, p1, r1, s1, t1⟩ := Lab.open_labels (enc := enc) (a0 := la1) (len0 := ll1) (cap0 := lc1) (W := W) (d := y1.1) (p := y1.2) ⟨n, by simpa [Value.cells] using b1⟩
      subst p1
      obtain ⟨la2, ll2, lc2, rfl⟩ : ∃ a l c, v2 = .slice a l c := by
        rcases Deep.open_slice Tryz.underlying65 b2 with ⟨hq, _⟩ | ⟨a, l, c, m, n', D, Pl, hq, _⟩
        · simp only [List.cons.injEq, and_true] at hq; exact ⟨_, _, _, hq⟩
        · simp only [List.cons.injEq, and_true] at hq; exact ⟨_, _, _, hq⟩
      obtain ⟨ls2, p2, r2, s2, t2⟩ := Fil.open_texts (enc := enc) (a0 := la2) (len0 := ll2) (cap0 := lc2) (W := W) (d := y2.1) (p := y2.2) ⟨n, by simpa [Value.cells] using b2⟩
      subst p2
      obtain ⟨A3, ea3, _, w3⟩ := DataW.trod_int Tryz.underlying3 b3
      simp only [List.cons.injEq, and_true] at ea3
      subst ea3
      simp only [Lit.wf, Bool.and_eq_true, decide_eq_true_eq] at w3
      obtain ⟨A4, ea4, _, w4⟩ := DataW.trod_int Tryz.underlying3 b4
      simp only [List.cons.injEq, and_true] at ea4
      subst ea4
      simp only [Lit.wf, Bool.and_eq_true, decide_eq_true_eq] at w4
      obtain ⟨A5, ea5, _, w5⟩ := DataW.trod_int Tryz.underlying3 b5
      simp only [List.cons.injEq, and_true] at ea5
      subst ea5
      simp only [Lit.wf, Bool.and_eq_true, decide_eq_true_eq] at w5
      obtain ⟨la6, ll6, lc6, rfl⟩ : ∃ a l c, v6 = .slice a l c := by
        rcases Deep.open_slice Tryz.underlying60 b6 with ⟨hq, _⟩ | ⟨a, l, c, m, n', D, Pl, hq, _⟩
        · simp only [List.cons.injEq, and_true] at hq; exact ⟨_, _, _, hq⟩
        · simp only [List.cons.injEq, and_true] at hq; exact ⟨_, _, _, hq⟩
      obtain ⟨ls6, p6, r6, s6, t6⟩ := Ino.open_ints1 (enc := enc) (a0 := la6) (len0 := ll6) (cap0 := lc6) (W := W) (d := y6.1) (p := y6.2) ⟨n, by simpa [Value.cells] using b6⟩
      subst p6
      obtain ⟨A7, ea7, _⟩ := DataW.trod_bool Tryz.underlying4 b7
      simp only [List.cons.injEq, and_true] at ea7
      subst ea7
      obtain ⟨A8, ea8, _, w8⟩ := DataW.trod_int Tryz.underlying3 b8
      simp only [List.cons.injEq, and_true] at ea8
      subst ea8
      simp only [Lit.wf, Bool.and_eq_true, decide_eq_true_eq] at w8
      exact ⟨⟨A0, ls1, la1, lc1, ls2, la2, lc2, A3, A4, A5, ls6, la6, lc6, A7, A8⟩, ⟨e0, e1, e2, e3, e4, e5, e6, e7, e8⟩, ⟨s1, s2, s6⟩, ⟨w0, ⟨t1, r1⟩, ⟨t2, r2⟩, ⟨w3.1, w3.2⟩, ⟨w4.1, w4.2⟩, ⟨w5.1, w5.2⟩, ⟨t6, r6⟩, ⟨w8.1, w8.2⟩⟩⟩
    obtain ⟨q, hq⟩ := Deep.choose_lt (α := T) key
    have hg : ∀ i, i < len0 → ((List.range len0).map q).getD i t0 = q i := fun i hi => by simp [hi]
    refine ⟨(List.range len0).map q, by simp, by omega, ?_, ?_⟩
    · by_cases h0 : len0 = 0
      · subst h0; exact .inl rfl
      · obtain ⟨b, off, spot⟩ := a
        have h1 := (hq 0 (by omega)).1.1
        have hs : spot = none := by simpa [Addr.add] using World.cell?_spot h1
        subst hs
        refine .inr ⟨b, off, rfl, World.block_lt_of_cell? W _ h1, fun i hi => ?_⟩
        have hi' : i < len0 := by simpa using hi
        obtain ⟨⟨k0_, k1_, k2_, k3_, k4_, k5_, k6_, k7_, k8_⟩, k7, _⟩ := hq i hi'
        rw [add_none] at k0_ k1_ k2_ k3_ k4_ k5_ k6_ k7_ k8_
        rw [hg i hi']
        refine ⟨fun j hj => ?_, k7⟩
        rcases (show j = 0 ∨ j = 1 ∨ j = 2 ∨ j = 3 ∨ j = 4 ∨ j = 5 ∨ j = 6 ∨ j = 7 ∨ j = 8 by omega) with rfl | rfl | rfl | rfl | rfl | rfl | rfl | rfl | rfl
        · exact k0_
        · exact k1_
        · exact k2_
        · exact k3_
        · exact k4_
        · exact k5_
        · exact k6_
        · exact k7_
        · exact k8_
    · intro i
      by_cases hi : i < len0
      · rw [hg i hi]; exact (hq i hi).2.2
      · rw [List.getD_eq_getElem?_getD, List.getElem?_eq_none (by simp; omega)]; exact fit_t0
end Go.Proofs.YthcogkoleiejgaaGreatDoor.Rou
