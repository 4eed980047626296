/- Lists of rules that came in. -/
import Derived.Test.YtbdlahhejfamhaaGreatDoorRG2
import Derived.Test.YtbdlahhejfamhaaGreatDoorRG1
import Derived.Test.YtbdlahhejfamhaaGreatDoorRA3
import Derived.Deep.SlicePairs
import Derived.OpenShut
import Derived.ChangeOld
namespace Go.Proofs.YtbdlahhejfamhaaGreatDoor.Rul
open Go.ChangeShapes Go.WideShapes Go.ChangeAt Go.RowKit Go.Deep Go.WideElems Go.Maps
open Go.Proofs.YtbdlahhejfamhaaGreatDoor.Rwc
open Go.Proofs.YtbdlahhejfamhaaGreatDoor.Qry (R)

section
variable {H : Type} {enc : TypeId × Value → H} {P : Program} {w : World} {base : Nat} {held : Bool}
theorem open_rows {t e : TypeId} {g0 g1 g2 g3 g4 g5 g6 : Field} {fuel : Nat} {cs : List Value} {x : DataW H × List MemPlace} (ht : P.underlying t = some (.slice e)) (he : P.underlying e = some (.struct #[g0, g1, g2, g3, g4, g5, g6]))
    (ce : P.cellsOf e = 7) (o0 : g0.offset = 0) (o1 : g1.offset = 1) (o2 : g2.offset = 2) (o3 : g3.offset = 3) (o4 : g4.offset = 4) (o5 : g5.offset = 5) (o6 : g6.offset = 6) (c0 : P.cellsOf g0.type = 1) (c1 : P.cellsOf g1.type = 1) (c2 : P.cellsOf g2.type = 1) (c3 : P.cellsOf g3.type = 1) (c4 : P.cellsOf g4.type = 1) (c5 : P.cellsOf g5.type = 1) (c6 : P.cellsOf g6.type = 1)
    (h : DataW.trod enc P w base (fun _ => true) held fuel t cs = some x) :
    cs = [.slice none 0 0] ∨ ∃ (a : Addr) (len cap n : Nat), cs = [.slice (some a) len cap] ∧ len ≤ cap ∧ cap ≤ maxLen ∧ ∀ i, i < len → ∃ v0 v1 v2 v3 v4 v5 v6 y0 y1 y2 y3 y4 y5 y6, (w.cell? (a.add (i * 7)) = some v0 ∧ w.cell? (a.add (i * 7 + 1)) = some v1 ∧ w.cell? (a.add (i * 7 + 2)) = some v2 ∧ w.cell? (a.add (i * 7 + 3)) = some v3 ∧ w.cell? (a.add (i * 7 + 4)) = some v4 ∧ w.cell? (a.add (i * 7 + 5)) = some v5 ∧ w.cell? (a.add (i * 7 + 6)) = some v6) ∧
      DataW.trod enc P w base (fun _ => true) held n g0.type [v0] = some y0 ∧ DataW.trod enc P w base (fun _ => true) held n g1.type [v1] = some y1 ∧ DataW.trod enc P w base (fun _ => true) held n g2.type [v2] = some y2 ∧ DataW.trod enc P w base (fun _ => true) held n g3.type [v3] = some y3 ∧ DataW.trod enc P w base (fun _ => true) held n g4.type [v4] = some y4 ∧ DataW.trod enc P w base (fun _ => true) held n g5.type [v5] = some y5 ∧ DataW.trod enc P w base (fun _ => true) held n g6.type [v6] = some y6 := by
  rcases Deep.open_slice ht h with h0 | ⟨a, len, cap, m, n, D, Pl, rfl, hb, hl, hm, hmm, rfl, hx⟩
  · exact .inl h0.1
  right
  refine ⟨a, len, cap, n - 1, rfl, hl, hm, fun i hi => ?_⟩
  simp only [if_true] at hmm
  obtain ⟨cs', h1, h2⟩ := hx i (by omega)
  rw [ce] at h1
  obtain ⟨_, hlen, hcell⟩ := World.cells?_some h1
  obtain ⟨xs, k, hk, hxy, _, hxl, hf⟩ := DataW.trod_struct he h2
  have hk' : k = n - 1 := by omega
  subst hk'
  match xs, hxl, cs', hlen with
  | [y0, y1, y2, y3, y4, y5, y6], _, [v0, v1, v2, v3, v4, v5, v6], _ =>
    have q0 := hf 0 g0 rfl
    have q1 := hf 1 g1 rfl
    have q2 := hf 2 g2 rfl
    have q3 := hf 3 g3 rfl
    have q4 := hf 4 g4 rfl
    have q5 := hf 5 g5 rfl
    have q6 := hf 6 g6 rfl
    simp [o0, o1, o2, o3, o4, o5, o6, c0, c1, c2, c3, c4, c5, c6] at q0 q1 q2 q3 q4 q5 q6
    have e0 := hcell 0 (by omega)
    have e1 := hcell 1 (by omega)
    have e2 := hcell 2 (by omega)
    have e3 := hcell 3 (by omega)
    have e4 := hcell 4 (by omega)
    have e5 := hcell 5 (by omega)
    have e6 := hcell 6 (by omega)
    rw [Deep.add_add] at e0 e1 e2 e3 e4 e5 e6
    exact ⟨v0, v1, v2, v3, v4, v5, v6, y0, y1, y2, y3, y4, y5, y6, ⟨by simpa using e0, by simpa using e1, by simpa using e2, by simpa using e3, by simpa using e4, by simpa using e5, by simpa using e6⟩, q0, q1, q2, q3, q4, q5, q6⟩
end

theorem fit_nilQ : Qry.FitR [] := fun _ => Qry.fit_r0
theorem fitQ_of {rs rs' : List R} (h : rs'.map Qry.pl = rs.map Qry.pl) (hf : Qry.FitR rs) : Qry.FitR rs' := (same_of_map h).fit (same_len h) hf
theorem totQ : ∀ (k : Nat) (rs rs' : List R), (∀ i, i < k → Qry.pl (rs'.getD i Qry.r0) = Qry.pl (rs.getD i Qry.r0)) → Qry.tot rs' k = Qry.tot rs k := by
  intro k
  induction k with
  | zero => intro rs rs' _; rfl
  | succ k ih =>
    intro rs rs' h
    simp only [Qry.tot]
    rw [ih rs rs' (fun i hi => h i (by omega)), Qry.wt_pl (h k (by omega))]
theorem fit_t0 : Ft t0 := ⟨by simp [t0, maxLen], ⟨fit_nilQ, Nat.zero_le _⟩, by simp [t0, In64], by simp [t0, In64], ⟨fun i => by simp [t0, Lab.e0, maxLen], Nat.zero_le _⟩, by simp [t0, maxLen]⟩
theorem ft_pl {q q' : T} (h : pl q' = pl q) (hf : Ft q) : Ft q' := by
  obtain ⟨n, al, es, ea, ec, fo, ke, ls, la, lc, tx⟩ := q
  obtain ⟨n', al', es', ea', ec', fo', ke', ls', la', lc', tx'⟩ := q'
  simp only [pl, Pl.mk.injEq] at h
  obtain ⟨rfl, rfl, hq, rfl, rfl, rfl, rfl⟩ := h
  exact ⟨hf.n, ⟨fitQ_of hq hf.e.1, by have h1 := hf.e.2; have h2 := same_len hq; simp only at h1 ⊢; omega⟩, hf.fo, hf.ke, hf.l, hf.tx⟩
theorem wt_pl {q q' : T} (h : pl q' = pl q) : wt q' = wt q := by
  obtain ⟨n, al, es, ea, ec, fo, ke, ls, la, lc, tx⟩ := q
  obtain ⟨n', al', es', ea', ec', fo', ke', ls', la', lc', tx'⟩ := q'
  simp only [pl, Pl.mk.injEq] at h
  obtain ⟨rfl, rfl, hq, rfl, rfl, rfl, rfl⟩ := h
  unfold wt
  simp only
  rw [same_len hq, totQ _ _ _ (same_of_map hq)]
theorem Same.fit {n : Nat} {ts ts' : List T} (h : Same n ts ts') (hn' : ts'.length = n) (hf : Fit ts) : Fit ts' := by
  intro i
  by_cases hi : i < n
  · exact ft_pl (h i hi) (hf i)
  · rw [List.getD_eq_getElem?_getD, List.getElem?_eq_none (by omega)]; exact fit_t0
theorem Same.sml {n : Nat} {ts ts' : List T} (h : Same n ts ts') (hn : ts.length = n) (hn' : ts'.length = n) (hz : Sml ts) : Sml ts' := by
  intro i hi
  rw [wt_pl (h i (by omega))]
  exact hz i (by omega)
theorem Same.trans' {n : Nat} {ts d e : List T} (s : Same n ts d) (r : Same n ts e) : Same n d e := fun i hi => (r i hi).trans (s i hi).symm
theorem add_none (b off j : Nat) : (⟨b, off, none⟩ : Addr).add j = ⟨b, off + j, none⟩ := by
  by_cases h : j = 0
  · subst h; simp [Addr.add]
  · simp [Addr.add, h]
set_option maxRecDepth 100000 in
theorem open_list {H : Type} {enc : TypeId × Value → H} {W : World} {a0 : Option Addr} {len0 cap0 : Nat} {d : DataW H} {p : List MemPlace} (h : DataW.Trod enc Tryz.prog W 0 (fun _ => true) true 37 (.slice a0 len0 cap0) d p) :
    ∃ ts : List T, ts.length = len0 ∧ len0 ≤ maxLen ∧ Has W a0 ts ∧ Fit ts := by
  obtain ⟨fuel, hf⟩ := h
  rcases open_rows Tryz.underlying37 Tryz.underlying155 (by kernel_rfl) rfl rfl rfl rfl rfl rfl rfl (by kernel_rfl) (by kernel_rfl) (by kernel_rfl) (by kernel_rfl) (by kernel_rfl) (by kernel_rfl) (by kernel_rfl) hf with hcs | ⟨a, len, cap, n, hcs, hl, hm, hx⟩
  · simp [Value.cells] at hcs
    obtain ⟨rfl, rfl, rfl⟩ := hcs
    exact ⟨[], rfl, Nat.zero_le _, .inl rfl, fun i => fit_t0⟩
  · simp [Value.cells] at hcs
    obtain ⟨rfl, rfl, rfl⟩ := hcs
    have key : ∀ i, i < len0 → ∃ q : T, (W.cell? (a.add (i * 7)) = some (.string q.n) ∧ W.cell? (a.add (i * 7 + 1)) = some (.bool q.al) ∧ W.cell? (a.add (i * 7 + 2)) = some (.slice q.ea q.es.length q.ec) ∧ W.cell? (a.add (i * 7 + 3)) = some (.int .i64 q.fo) ∧ W.cell? (a.add (i * 7 + 4)) = some (.int .i64 q.ke) ∧ W.cell? (a.add (i * 7 + 5)) = some (.slice q.la q.ls.length q.lc) ∧ W.cell? (a.add (i * 7 + 6)) = some (.string q.tx)) ∧ Lst W q ∧ Ft q := by
      intro i hi
      obtain ⟨v0, v1, v2, v3, v4, v5, v6, y0, y1, y2, y3, y4, y5, y6, ⟨e0, e1, e2, e3, e4, e5, e6⟩, b0, b1, b2, b3, b4, b5, b6⟩ := hx i hi
      obtain ⟨A0, ea0, _, w0⟩ := DataW.trod_string Tryz.underlying9 b0
      simp only [List.cons.injEq, and_true] at ea0
      subst ea0
      obtain ⟨A1, ea1, _⟩ := DataW.trod_bool Tryz.underlying4 b1
      simp only [List.cons.injEq, and_true] at ea1
      subst ea1
      obtain ⟨la2, ll2, lc2, rfl⟩ : ∃ a l c, v2 = .slice a l c := by
        rcases Deep.open_slice Tryz.underlying22 b2 with ⟨hq, _⟩ | ⟨a, l, c, m, n', D, Pl, hq, _⟩
        · simp only [List.cons.injEq, and_true] at hq; exact ⟨_, _, _, hq⟩
        · simp only [List.cons.injEq, and_true] at hq; exact ⟨_, _, _, hq⟩
      obtain ⟨ls2, p2, r2, s2, t2⟩ := Qry.open_list (enc := enc) (a0 := la2) (len0 := ll2) (cap0 := lc2) (W := W) (d := y2.1) (p := y2.2) ⟨n, by simpa [Value.cells] using b2⟩
      subst p2
      obtain ⟨A3, ea3, _, w3⟩ := DataW.trod_int Tryz.underlying3 b3
      simp only [List.cons.injEq, and_true] at ea3
      subst ea3
      simp only [Lit.wf, Bool.and_eq_true, decide_eq_true_eq] at w3
      obtain ⟨A4, ea4, _, w4⟩ := DataW.trod_int Tryz.underlying3 b4
      simp only [List.cons.injEq, and_true] at ea4
      subst ea4
      simp only [Lit.wf, Bool.and_eq_true, decide_eq_true_eq] at w4
      obtain ⟨la5, ll5, lc5, rfl⟩ : ∃ a l c, v5 = .slice a l c := by
        rcases Deep.open_slice Tryz.underlying153 b5 with ⟨hq, _⟩ | ⟨a, l, c, m, n', D, Pl, hq, _⟩
        · simp only [List.cons.injEq, and_true] at hq; exact ⟨_, _, _, hq⟩
        · simp only [List.cons.injEq, and_true] at hq; exact ⟨_, _, _, hq⟩
      obtain ⟨ls5, p5, r5, s5, t5⟩ := Lbo.open_labels (enc := enc) (a0 := la5) (len0 := ll5) (cap0 := lc5) (W := W) (d := y5.1) (p := y5.2) ⟨n, by simpa [Value.cells] using b5⟩
      subst p5
      obtain ⟨A6, ea6, _, w6⟩ := DataW.trod_string Tryz.underlying9 b6
      simp only [List.cons.injEq, and_true] at ea6
      subst ea6
      exact ⟨⟨A0, A1, ls2, la2, lc2, A3, A4, ls5, la5, lc5, A6⟩, ⟨e0, e1, e2, e3, e4, e5, e6⟩, ⟨s2, s5⟩, ⟨w0, ⟨t2, r2⟩, ⟨w3.1, w3.2⟩, ⟨w4.1, w4.2⟩, ⟨t5, r5⟩, w6⟩⟩
    obtain ⟨q, hq⟩ := Deep.choose_lt (α := T) key
    have hg : ∀ i, i < len0 → ((List.range len0).map q).getD i t0 = q i := fun i hi => by simp [hi]
    refine ⟨(List.range len0).map q, by simp, by omega, ?_, ?_⟩
    · by_cases h0 : len0 = 0
      · subst h0; exact .inl rfl
      · obtain ⟨b, off, spot⟩ := a
        have h1 := (hq 0 (by omega)).1.1
        have hs : spot = none := by simpa [Addr.add] using World.cell?_spot h1
        subst hs
        refine .inr ⟨b, off, rfl, World.block_lt_of_cell? W _ h1, fun i hi => ?_⟩
        have hi' : i < len0 := by simpa using hi
        obtain ⟨⟨k0_, k1_, k2_, k3_, k4_, k5_, k6_⟩, k7, _⟩ := hq i hi'
        rw [add_none] at k0_ k1_ k2_ k3_ k4_ k5_ k6_
        rw [hg i hi']
        refine ⟨fun j hj => ?_, k7⟩
        rcases (show j = 0 ∨ j = 1 ∨ j = 2 ∨ j = 3 ∨ j = 4 ∨ j = 5 ∨ j = 6 by omega) with rfl | rfl | rfl | rfl | rfl | rfl | rfl
        · exact k0_
        · exact k1_
        · exact k2_
        · exact k3_
        · exact k4_
        · exact k5_
        · exact k6_
    · intro i
      by_cases hi : i < len0
      · rw [hg i hi]; exact (hq i hi).2.2
      · rw [List.getD_eq_getElem?_getD, List.getElem?_eq_none (by simp; omega)]; exact fit_t0
end Go.Proofs.YtbdlahhejfamhaaGreatDoor.Rul
/- Groups of rules: how they lie in memory; measured, copied, compared. -/
namespace Go.Proofs.YtbdlahhejfamhaaGreatDoor.Rul
open Go.RowKit Go.Proofs.YtbdlahhejfamhaaGreatDoor.Rwc
theorem OwnT.setl {X g n b o : Nat} {ts : List T} {w : World} (h : OwnT X g n ts w) (hc : b < g) (v : Value) : OwnT X g n ts (w.setCell ⟨b, o, none⟩ v) := by
  obtain ⟨Z, hZ⟩ := h.kin
  exact ⟨own_set h.row (by simp only; omega) v, Z, hZ.len, hZ.low, hZ.up, fun i hi => (hZ.own i hi).set (.inl (by have := hZ.low; have := hZ.zle i 0 (Nat.zero_le _) (by omega); omega)) v, by simpa using hZ.top⟩
end Go.Proofs.YtbdlahhejfamhaaGreatDoor.Rul
namespace Go.Proofs.YtbdlahhejfamhaaGreatDoor.Grp
open Go.RowKit
open Go.Proofs.YtbdlahhejfamhaaGreatDoor.Rwc

structure C where
  ev : Int
  r : List Rul.T
  ra : Option Addr
  rc : Nat
abbrev arC (c : C) : Array Value := #[.int .i64 c.ev, .slice c.ra c.r.length c.rc]
abbrev agC (c : C) : Value := .agg #[.int .i64 c.ev, .slice c.ra c.r.length c.rc]
structure Has (w : World) (c : C) : Prop where
  r : Rul.Has w c.ra c.r
theorem Has.below {w w' : World} {c : C} (h : Has w c) (hb : Below w.heap.size w w') : Has w' c := ⟨h.r.below hb⟩
structure Fit (c : C) : Prop where
  ev : -9223372036854775808 ≤ c.ev ∧ c.ev ≤ 9223372036854775807
  r : Rul.Fit c.r ∧ c.r.length ≤ maxLen
structure Sml (c : C) : Prop where
  r : c.r.length ≤ 1048576 ∧ Rul.Sml c.r
structure Same (c d : C) : Prop where
  ev : d.ev = c.ev
  r : d.r.length = c.r.length ∧ Rul.Same c.r.length c.r d.r
theorem Same.fit {c d : C} (h : Same c d) (g : Fit c) : Fit d := ⟨by rw [h.ev]; exact g.ev, ⟨h.r.2.fit h.r.1 g.r.1, by rw [h.r.1]; exact g.r.2⟩⟩
theorem Same.sml {c d : C} (h : Same c d) (g : Sml c) : Sml d := ⟨⟨by rw [h.r.1]; exact g.r.1, h.r.2.sml rfl h.r.1 g.r.2⟩⟩
theorem Same.trans' {c d e : C} (h : Same c d) (g : Same c e) : Same d e := ⟨g.ev.trans h.ev.symm, ⟨g.r.1.trans h.r.1.symm, by rw [h.r.1]; exact h.r.2.trans' g.r.2⟩⟩
theorem cellsC {x : World} {b : Nat} {v0 v1 : Value} {t : TypeId} (h : x.heap[b]? = some (.cells #[v0, v1] t)) : x.cell? ⟨b, 0, none⟩ = some v0 ∧ x.cell? ⟨b, 1, none⟩ = some v1 :=
  ⟨cell_at h 0, cell_at h 1⟩
theorem frozC {x : World} {b : Nat} {v0 v1 : Value} {t : TypeId} (h : x.heap[b]? = some (.cells #[v0, v1] t)) : x.frozen? ⟨b, 0, none⟩ = false ∧ x.frozen? ⟨b, 1, none⟩ = false :=
  ⟨froz_at h 0, froz_at h 1⟩

set_option maxHeartbeats 4000000 in
theorem f24 (c : C) (L : Int) (w : World) (hL0 : 0 ≤ L) (hL1 : L ≤ 1048576) (hr : Has w c) (hf : Fit c) :
    Calls Tryz.prog 24 #[agC c, .int .i64 L] w fun e w' => ∃ y : Int, e = .returned (.int .i64 y) ∧ -1 ≤ y ∧ y ≤ L ∧ (0 ≤ y → Sml c) ∧ Below w.heap.size w w' := by
  have HB0 := hid ((Below.refl w.heap.size w).alloc (Nat.le_refl _) (.cells (arC c) 39))
  have HX0 := hid (heap_alloc_new w (.cells (arC c) 39))
  have HR := hid hr
  have HF := hid hf
  have HNO : Hid (∀ y : Int, y < 0 → 0 ≤ y → Sml c) := fun y h1 h2 => by omega
  clear hr hf
  obtain ⟨W0, hW⟩ : ∃ W, W = w.alloc (.cells (arC c) 39) := ⟨_, rfl⟩
  rw [← hW] at HB0 HX0
  have HW := hid hW
  clear hW
  simp only [agC]
  go_enter Tryz.func24, Tryz.ntmps24
  go_upto_region 1 with fail
  rw [← HW.out]
  clear HW
  obtain ⟨y, hy⟩ : ∃ y : Int, y = L := ⟨_, rfl⟩
  have hy0 : 0 ≤ y := by omega
  have hyL : y ≤ L := by omega
  rw [← hy]
  clear hy
  obtain ⟨x0, x1⟩ := cellsC HX0.out
  go_wp2_with fail
  refine (Rul.f54 c.ra c.r.length c.rc y c.r _ (by omega) (by omega) rfl (HR.out.r.below HB0.out) HF.out.r.1 HF.out.r.2).mono ?_
  rintro e w1 ⟨u0, rfl, u0l, u0h, hu, hb⟩
  have HB1 := hid (HB0.out.trans (hb.mono HB0.out.size))
  have HX1 := hid (kept HX0.out hb)
  have HU0 := hid hu
  clear hb hu x0 x1
  by_cases g0 : u0 < 0
  · go_wp2
    go_ret
    exact ⟨-1, rfl, by omega, by omega, HNO.out _ (by omega), HB1.out⟩
  have HV0 := hid (HU0.out (by omega))
  have HS : Hid (Sml c) := by
    have a0 := HV0.out
    exact ⟨⟨by omega, Rul.sml_tot (by omega)⟩⟩
  go_wp2
  go_ret
  exact ⟨_, rfl, by omega, by omega, fun _ => HS.out, HB1.out⟩

structure Ti (w : World) (c : C) (m0 m1 : Value) (W : World) : Prop where
  arg : W.heap[w.heap.size]? = some (.cells (arC c) 39)
  res : W.heap[w.heap.size + 1]? = some (.cells #[.int .i64 0, .slice none 0 0] 44)
  out : W.heap[w.heap.size + 2]? = some (.cells #[m0, m1] 44)
  bel : Below w.heap.size w W
theorem Ti.mv {w W W' : World} {c : C} {m0 m1 : Value} (h : Ti w c m0 m1 W) (hb : Below W.heap.size W W') : Ti w c m0 m1 W' :=
  ⟨kept h.arg hb, kept h.res hb, kept h.out hb, h.bel.trans (hb.mono h.bel.size)⟩
theorem Ti.s0 {w W : World} {c : C} {m0 m1 : Value} (h : Ti w c m0 m1 W) (x : Value) : Ti w c x m1 (W.setCell ⟨w.heap.size + 2, 0, none⟩ x) := ⟨set_else h.arg (by simp only; omega), set_else h.res (by simp only; omega), set_at h.out, h.bel.setCell (by simp) _⟩
theorem Ti.s1 {w W : World} {c : C} {m0 m1 : Value} (h : Ti w c m0 m1 W) (x : Value) : Ti w c m0 x (W.setCell ⟨w.heap.size + 2, 1, none⟩ x) := ⟨set_else h.arg (by simp only; omega), set_else h.res (by simp only; omega), set_at h.out, h.bel.setCell (by simp) _⟩
theorem Ti.first (w : World) (c : C) : Ti w c (.int .i64 0) (.slice none 0 0) (((w.alloc (.cells (arC c) 39)).alloc (.cells #[.int .i64 0, .slice none 0 0] 44)).alloc (.cells #[.int .i64 0, .slice none 0 0] 44)) := by
  have b1 := fun (W : World) o => (Below.refl W.heap.size W).alloc (Nat.le_refl _) o
  refine ⟨kept (kept (heap_alloc_new w _) (b1 _ _)) (b1 _ _), ?_, ?_, ((b1 w _).alloc (by simp) _).alloc (by simp; omega) _⟩
  · have := kept (heap_alloc_new (w.alloc (.cells (arC c) 39)) (.cells #[.int .i64 0, .slice none 0 0] 44)) (b1 _ (.cells #[.int .i64 0, .slice none 0 0] 44))
    simpa using this
  · have := heap_alloc_new ((w.alloc (.cells (arC c) 39)).alloc (.cells #[.int .i64 0, .slice none 0 0] 44)) (.cells #[.int .i64 0, .slice none 0 0] 44)
    simpa using this

set_option maxRecDepth 100000 in
set_option maxHeartbeats 8000000 in
theorem f26 (c : C) (w : World) (hr : Has w c) (hs : Sml c) :
    Calls Tryz.prog 26 #[agC c] w fun e w' => ∃ d : C, e = .returned (agC d) ∧ Same c d ∧ Rul.Tight d.r ∧ Has w' d ∧ Below w.heap.size w w' := by
  have HR := hid hr
  have HS := hid hs
  clear hr hs
  have HT := hid (Ti.first w c)
  obtain ⟨W0, hW0⟩ : ∃ W, W = ((w.alloc (.cells (arC c) 39)).alloc (.cells #[.int .i64 0, .slice none 0 0] 44)).alloc (.cells #[.int .i64 0, .slice none 0 0] 44) := ⟨_, rfl⟩
  rw [← hW0] at HT
  have HW := hid hW0
  clear hW0
  simp only [agC]
  go_enter Tryz.func26, Tryz.ntmps26
  go_upto_region 2 with fail
  rw [← HW.out]
  clear HW
  obtain ⟨y0, y1⟩ := cellsC HT.out.arg
  have HU := HT
  clear HT
  obtain ⟨x0, x1⟩ := cellsC HU.out.out
  obtain ⟨f0, f1⟩ := frozC HU.out.out
  have HT := hid (HU.out.s0 (.int .i64 c.ev))
  obtain ⟨W1, hW⟩ : ∃ W, W = W0.setCell ⟨w.heap.size + 2, 0, none⟩ (.int .i64 c.ev) := ⟨_, rfl⟩
  rw [← hW] at HT 
  have HW := hid hW
  clear hW HU
  go_upto_region 3 with fail
  rw [← HW.out]
  clear HW x0 x1 f0 f1 y0 y1
  obtain ⟨x0, x1⟩ := cellsC HT.out.arg
  go_wp2_with fail
  refine (Rul.f56 c.ra c.r.length c.rc c.r _ rfl HS.out.r.1 (HR.out.r.below HT.out.bel) HS.out.r.2).mono ?_
  rintro e v1 ⟨r', rfl, hsm, ho, hb⟩
  have hlt : w.heap.size + 2 < W1.heap.size := lt_at HT.out.out
  have HQr := hid ho
  have HMr := hid hsm
  have HGr := hid hlt
  have HU := hid (HT.out.mv hb)
  clear HT x0 x1 ho hb hlt hsm
  obtain ⟨Sr, hS⟩ : ∃ S, S = W1.heap.size := ⟨_, rfl⟩
  rw [← hS] at HQr HGr ⊢
  clear hS
  obtain ⟨x0, x1⟩ := cellsC HU.out.out
  obtain ⟨f0, f1⟩ := frozC HU.out.out
  have HT := hid (HU.out.s1 (.slice (some ⟨Sr, 0, none⟩) c.r.length c.r.length))
  have HQr' := hid (HQr.out.setl (o := 1) HGr.out (.slice (some ⟨Sr, 0, none⟩) c.r.length c.r.length))
  clear HQr
  obtain ⟨W2, hW⟩ : ∃ W, W = v1.setCell ⟨w.heap.size + 2, 1, none⟩ (.slice (some ⟨Sr, 0, none⟩) c.r.length c.r.length) := ⟨_, rfl⟩
  rw [← hW] at HT HQr'
  have HQr := HQr'
  clear HQr'
  have HW := hid hW
  clear hW HU
  go_upto_region 4 with fail
  rw [← HW.out]
  clear HW x0 x1 f0 f1
  obtain ⟨x0, x1⟩ := cellsC HT.out.out
  obtain ⟨y0, y1⟩ := cellsC HT.out.res
  obtain ⟨f0, f1⟩ := frozC HT.out.res
  have HE : Hid (∀ x, x = (W2.setCell ⟨w.heap.size + 1, 0, none⟩ (.int .i64 c.ev)).setCell ⟨w.heap.size + 1, 1, none⟩ (.slice (some ⟨Sr, 0, none⟩) c.r.length c.r.length) → x.heap[w.heap.size + 1]? = some (.cells #[.int .i64 c.ev, .slice (some ⟨Sr, 0, none⟩) c.r.length c.r.length] 44) ∧ Below w.heap.size w x ∧ Rul.Has x (some ⟨Sr, 0, none⟩) r') := by
    rintro x rfl
    refine ⟨?_, Below.setCell (Below.setCell (HT.out.bel) (by simp) _) (by simp) _, (Rul.OwnT.setl (Rul.OwnT.setl (HQr.out) (by have := HGr.out; omega) _) (by have := HGr.out; omega) _).has⟩
    have h0 : (W2.setCell ⟨w.heap.size + 1, 0, none⟩ (.int .i64 c.ev)).heap[w.heap.size + 1]? = some (.cells #[.int .i64 c.ev, .slice none 0 0] 44) := set_at HT.out.res
    have h1 : ((W2.setCell ⟨w.heap.size + 1, 0, none⟩ (.int .i64 c.ev)).setCell ⟨w.heap.size + 1, 1, none⟩ (.slice (some ⟨Sr, 0, none⟩) c.r.length c.r.length)).heap[w.heap.size + 1]? = some (.cells #[.int .i64 c.ev, .slice (some ⟨Sr, 0, none⟩) c.r.length c.r.length] 44) := set_at h0
    exact h1
  have HN : Hid (agC ⟨c.ev, r', some ⟨Sr, 0, none⟩, c.r.length⟩ = .agg #[.int .i64 c.ev, .slice (some ⟨Sr, 0, none⟩) c.r.length c.r.length]) := by unfold Hid agC; simp only [HQr.out.len]
  go_wp2
  revert HE
  generalize hwf : World.setCell _ _ _ = wf
  intro HE
  obtain ⟨k1, k2, kr⟩ := HE.out wf (by rw [← hwf])
  obtain ⟨r0, r1⟩ := cellsC k1
  refine bodyPost_ret (v := .agg #[.int .i64 c.ev, .slice (some ⟨Sr, 0, none⟩) c.r.length c.r.length]) (by simp [results, Tryz.results26, go_sem, r0, r1]) rfl ⟨⟨c.ev, r', some ⟨Sr, 0, none⟩, c.r.length⟩, congrArg _ HN.out.symm, ⟨rfl, ⟨HQr.out.len, HMr.out⟩⟩, HQr.out.tight, ⟨kr⟩, k2⟩

set_option maxHeartbeats 4000000 in
theorem f28 (c d : C) (w : World) (hr : Has w c) (hr' : Has w d) (hs : Sml c) (he : Same c d) :
    Calls Tryz.prog 28 #[agC c, agC d] w fun e w' => e = .returned (.bool true) ∧ Below w.heap.size w w' := by
  have HB := hid (((Below.refl w.heap.size w).alloc (Nat.le_refl _) (.cells (arC c) 44)).alloc (by simp) (.cells (arC d) 44))
  have HA : Hid (((w.alloc (.cells (arC c) 44)).alloc (.cells (arC d) 44)).heap[w.heap.size]? = some (.cells (arC c) 44)) := kept (heap_alloc_new w _) ((Below.refl _ _).alloc (Nat.le_refl _) _)
  have HC : Hid (((w.alloc (.cells (arC c) 44)).alloc (.cells (arC d) 44)).heap[w.heap.size + 1]? = some (.cells (arC d) 44)) := by
    have := heap_alloc_new (w.alloc (.cells (arC c) 44)) (.cells (arC d) 44)
    unfold Hid
    simpa using this
  have HR := hid hr
  have HR' := hid hr'
  have HS := hid hs
  have HE := hid he
  have nev : (c.ev != d.ev) = false := by rw [he.ev]; simp
  clear hr hr' hs he
  obtain ⟨W0, hW⟩ : ∃ W, W = ((w.alloc (.cells (arC c) 44)).alloc (.cells (arC d) 44)) := ⟨_, rfl⟩
  rw [← hW] at HA HC HB
  have HW := hid hW
  clear hW
  simp only [agC]
  go_enter Tryz.func28, Tryz.ntmps28
  go_upto_region 1 with fail
  rw [← HW.out]
  clear HW
  obtain ⟨x0, x1⟩ := cellsC HA.out
  obtain ⟨y0, y1⟩ := cellsC HC.out
  have HL := hid HE.out.r.1
  go_wp2_with fail
  rw [HL.out]
  refine (Rul.f58 c.ra d.ra c.r.length c.rc d.rc c.r d.r _ rfl HL.out HS.out.r.1 (HR.out.r.below HB.out) (HR'.out.r.below HB.out) HE.out.r.2 HS.out.r.2).mono ?_
  rintro e W1 ⟨rfl, hb⟩
  have HA' := hid (kept HA.out hb)
  have HC' := hid (kept HC.out hb)
  have HB' := hid (HB.out.trans (hb.mono HB.out.size))
  clear HA HC HB HL hb x0 x1 y0 y1
  have HA := HA'
  have HC := HC'
  have HB := HB'
  clear HA' HC' HB'
  obtain ⟨x0, x1⟩ := cellsC HA.out
  obtain ⟨y0, y1⟩ := cellsC HC.out
  go_wp2
  go_ret
  exact ⟨rfl, HB.out⟩
end Go.Proofs.YtbdlahhejfamhaaGreatDoor.Grp
