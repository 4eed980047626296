/- The walk of FnExactGoodBlock. -/
import Derived.Test.YtjhdmghpklagkaaGreatD11
namespace Go.Proofs.YtjhdmghpklagkaaGreat.Blk
open Go.RowKit
open Go.Proofs.YtjhdmghpklagkaaGreat.Smp (In64 ret_bool)
open Go.Proofs.YtjhdmghpklagkaaGreat.Srs (hid lt_at kept Q HasQ FitQ SmlQ GoodQ gdQ_iff gdQ_congr q0)
open Go.Proofs.YtjhdmghpklagkaaGreat.Stn (T HasT FitT SmlT t0 fit_t0)

theorem getD_out {ts : List T} {i : Nat} (h : ¬ i < ts.length) : ts.getD i t0 = t0 := by
  rw [List.getD_eq_getElem?_getD, List.getElem?_eq_none (by omega)]; rfl
theorem same_l {p q : T} (h : Stn.pl p = Stn.pl q) : p.l = q.l ∧ p.f = q.f ∧ p.t = q.t := by
  simp only [Stn.pl, Prod.mk.injEq] at h; exact h
structure SameB (h h' : Bk) : Prop where
  eF : h'.F = h.F
  eT : h'.T = h.T
  eL : h'.L = h.L
  lq : h'.qs.length = h.qs.length
  lt : h'.ts.length = h.ts.length
  sq : Srs.Same h.qs.length h.qs h'.qs
  st : Stn.Same h.ts.length h.ts h'.ts
theorem SameB.symm {h h' : Bk} (s : SameB h h') : SameB h' h :=
  ⟨s.eF.symm, s.eT.symm, s.eL.symm, s.lq.symm, s.lt.symm, fun i hi => (s.sq i (by rw [← s.lq]; exact hi)).symm, fun i hi => (s.st i (by rw [← s.lt]; exact hi)).symm⟩
theorem SameB.trans {h h' h'' : Bk} (s : SameB h h') (r : SameB h h'') : SameB h' h'' :=
  ⟨r.eF.trans s.eF.symm, r.eT.trans s.eT.symm, r.eL.trans s.eL.symm, r.lq.trans s.lq.symm, r.lt.trans s.lt.symm,
    fun i hi => (r.sq i (by rw [← s.lq]; exact hi)).trans (s.sq i (by rw [← s.lq]; exact hi)).symm, fun i hi => (r.st i (by rw [← s.lt]; exact hi)).trans (s.st i (by rw [← s.lt]; exact hi)).symm⟩
theorem OwnB.same {X g k S : Nat} {h h' : Bk} {w : World} (o : OwnB X g k S h h' w) : SameB h h' :=
  ⟨o.eF, o.eT, o.eL, o.lq, o.lt, fun i hi => (o.sq i hi).1, fun i hi => (o.st i hi).1⟩
theorem SameB.lb {h h' : Bk} (s : SameB h h') {i : Nat} (hi : i < h.qs.length) : lb h'.qs i = lb h.qs i := congrArg Prod.fst (s.sq i hi)
theorem SameB.smp {h h' : Bk} (s : SameB h h') {i : Nat} (hi : i < h.qs.length) : (h'.qs.getD i q0).s = (h.qs.getD i q0).s := congrArg Prod.snd (s.sq i hi)
theorem SameB.inq {h h' : Bk} (s : SameB h h') {l : List Lab.Lb} (g : InQ h.qs l) : InQ h'.qs l := by
  obtain ⟨i, h1, h2⟩ := g
  exact ⟨i, by rw [s.lq]; exact h1, by rw [s.lb h1]; exact h2⟩
theorem SameB.good {h h' : Bk} (s : SameB h h') (g : GoodB h) : GoodB h' := by
  obtain ⟨⟨g1, g2, g3, g4, g5⟩, gq, gs, gl, gt, gr⟩ := g
  refine ⟨?_, ?_, fun i hi => ?_, by rw [s.lt]; exact gl, fun i hi => ?_, fun i hi h0 => ?_⟩
  · unfold Head; rw [s.eF, s.eT, s.eL]; exact ⟨g1, g2, g3, g4, g5⟩
  · rw [← gdQ_iff, gdQ_congr rfl s.lq s.sq, gdQ_iff]; exact gq
  · have hi' : i < h.qs.length := by rw [← s.lq]; exact hi
    unfold SerAt
    rw [s.eF, s.eT, s.smp hi']
    exact gs i hi'
  · have hi' : i < h.ts.length := by rw [← s.lt]; exact hi
    obtain ⟨e1, e2, e3⟩ := same_l (s.st i hi')
    obtain ⟨u1, u2, u3, u4⟩ := gt i hi'
    unfold StoAt
    rw [s.eF, s.eT, e1, e2, e3]
    exact ⟨s.inq u1, u2, u3, u4⟩
  · have hi' : i < h.ts.length := by rw [← s.lt]; exact hi
    obtain ⟨e1, e2, e3⟩ := same_l (s.st i hi')
    obtain ⟨d1, d2, d3⟩ := same_l (s.st (i - 1) (by omega))
    unfold Ahead
    rw [e1, e2, d1, d3]
    exact gr i hi' h0
theorem SameB.gd {h h' : Bk} (s : SameB h h') : gdB h' = gdB h := by
  unfold gdB
  rw [decide_eq_decide]
  exact ⟨fun g => s.symm.good g, fun g => s.good g⟩
theorem SameB.fit {h h' : Bk} (s : SameB h h') (hf : FitB h) : FitB h' := by
  obtain ⟨f1, f2, f3, f4, f5, f6, f7⟩ := hf
  refine ⟨by rw [s.eF]; exact f1, by rw [s.eT]; exact f2, by rw [s.eL]; exact f3, f4.same s.lq s.sq, by rw [s.lq]; exact f5, fun i => ?_, by rw [s.lt]; exact f7⟩
  by_cases hi : i < h'.ts.length
  · obtain ⟨e1, e2, e3⟩ := same_l (s.st i (by rw [← s.lt]; exact hi))
    unfold Stn.Ft
    rw [e1, e2, e3]
    exact f6 i
  · rw [getD_out hi]; exact fit_t0
theorem SameB.sml {h h' : Bk} (s : SameB h h') (hz : SmlB h) : SmlB h' := by
  obtain ⟨z1, z2, z3, z4⟩ := hz
  refine ⟨by rw [s.lq]; exact z1, z2.same rfl s.lq s.sq, by rw [s.lt]; exact z3, fun i hi => ?_⟩
  have hi' : i < h.ts.length := by rw [← s.lt]; exact hi
  rw [(same_l (s.st i hi')).1]
  exact z4 i hi'
structure Wx (w : World) (h h' : Bk) (B : Nat) (x : World) : Prop where
  one : x.heap[w.heap.size]? = some (.cells (clB h) 55)
  two : x.heap[B]? = some (.cells (clB h') 36)
  arg : HasB x h
  has : HasB x h'
  bel : Below w.heap.size w x
abbrev WS (w : World) (h h' : Bk) (B : Nat) (x : World) : Prop :=
  x.cell? ⟨w.heap.size, 0, none⟩ = some (.int .i64 h.F) ∧ x.cell? ⟨w.heap.size, 1, none⟩ = some (.int .i64 h.T) ∧ x.cell? ⟨w.heap.size, 2, none⟩ = some (.int .i64 h.L) ∧ x.cell? ⟨w.heap.size, 3, none⟩ = some (.slice h.a h.qs.length h.c) ∧ x.cell? ⟨w.heap.size, 4, none⟩ = some (.slice h.b h.ts.length h.d) ∧
  x.cell? ⟨B, 0, none⟩ = some (.int .i64 h'.F) ∧ x.cell? ⟨B, 1, none⟩ = some (.int .i64 h'.T) ∧ x.cell? ⟨B, 2, none⟩ = some (.int .i64 h'.L) ∧ x.cell? ⟨B, 3, none⟩ = some (.slice h'.a h'.qs.length h'.c) ∧ x.cell? ⟨B, 4, none⟩ = some (.slice h'.b h'.ts.length h'.d) ∧ Wx w h h' B x
theorem WS.wx {w : World} {h h' : Bk} {B : Nat} {x : World} (g : WS w h h' B x) : Wx w h h' B x := g.2.2.2.2.2.2.2.2.2.2
theorem below_drew (w : World) : Below w.heap.size w w.drew := (Below.refl _ _).drew
end Go.Proofs.YtjhdmghpklagkaaGreat.Blk
