/- The program's joinBlocks: what its loop over the heap's series keeps. -/
import Derived.Test.YtjhdmghpklagkaaGreatD20
import Derived.Test.YtjhdmghpklagkaaGreatD24
import Derived.Test.YtjhdmghpklagkaaGreatRows
import Derived.RangeFuncNested
import Derived.RangeFuncBound
import Derived.RangeFuncCalls
import Derived.RangeFuncLeaves
import Derived.RangeFuncBox
import Derived.Shelf.Abstract
import Derived.Shelf.RegionOpen
import Derived.WalkKit
import Derived.OwnWalkIn
import Derived.TacticsInMore
import Derived.LoopNIn
import Derived.LoopIn
import Derived.OrdersIn
import Derived.OrdersHeld
import Derived.Deep.RegionHeld3
namespace Go.Proofs.YtjhdmghpklagkaaGreat.Hpl
open Go.RowKit
open Go.Proofs.YtjhdmghpklagkaaGreat.Stb
open Go.Proofs.YtjhdmghpklagkaaGreat.Lab (HasL cmpList)
open Go.Proofs.YtjhdmghpklagkaaGreat.Smp (Sm HasS)
open Go.Proofs.YtjhdmghpklagkaaGreat.Srs (Q q0 pl Pl Own2 Kin Dsj blk flat flat_append jb jb_snoc snoc_of OwnO own_below)

def Fb (B0 B1 : Nat) (rows : Nat → Prop) (b : Nat) : Prop := (b < B0 ∧ ¬ rows b) ∨ B1 ≤ b
structure Js (w : World) (B0 B1 : Nat) (rows : Nat → Prop) (T : List Q) : Prop where
  one : ∀ q ∈ T, q.l ≠ [] ∧ q.s ≠ [] ∧ q.l.length ≤ 20 ∧ q.s.length ≤ 2000 ∧ blk q.a < B0 ∧ q.a = some ⟨blk q.a, 0, none⟩
  len : T.length ≤ 20000
  row : ∀ b, rows b → b < B0
  lo : w.heap.size ≤ B0
  hi : B0 ≤ B1
structure Jc (w W0 : World) (B0 B1 : Nat) (rows : Nat → Prop) (T pre : List Q) (a : Option Addr) (m c : Nat) (R rest : List Q) (W : World) : Prop where
  bel : Below w.heap.size w W
  siz : B1 ≤ W.heap.size
  tot : T = pre ++ rest
  rws : ∀ b, rows b → W.heap[b]? = W0.heap[b]?
  lab : ∀ q ∈ T, W.ownsRow w.heap.size 117 2 (.slice (some ⟨blk q.a, 0, none⟩) q.l.length q.c) q.l.length (Lab.flat q.l)
  len : R.length = m
  row : W.ownsRow w.heap.size 80 2 (.slice a m c) m (flat R)
  kin : Kin w.heap.size a (R ++ rest) W
  is : R.map pl = (pre.map pl).foldl (upd ltP jCat) []
  far : ∀ p ∈ R ++ rest, Fb B0 B1 rows (blk p.a) ∧ Fb B0 B1 rows (blk p.b)
  fro : ∀ g, a = some ⟨g, 0, none⟩ → B1 ≤ g
  one : ∀ p ∈ R, p.s ≠ [] ∧ p.l.length ≤ 20 ∧ p.s.length ≤ 2000 * pre.length
section
variable {w W0 : World} {B0 B1 : Nat} {rows : Nat → Prop} {T pre : List Q} {a : Option Addr} {m c : Nat} {R rest : List Q} {W W' : World}
theorem Jc.below (h : Jc w W0 B0 B1 rows T pre a m c R rest W) (S : Js w B0 B1 rows T) (hb : Below W.heap.size W W') : Jc w W0 B0 B1 rows T pre a m c R rest W' where
  bel := h.bel.trans (hb.mono h.bel.size)
  siz := Nat.le_trans h.siz hb.size
  tot := h.tot
  rws b hr := (hb.block b (Nat.lt_of_lt_of_le (S.row b hr) (Nat.le_trans S.hi h.siz))).trans (h.rws b hr)
  lab q hq := own_below (h.lab q hq) hb
  len := h.len
  row := own_below h.row hb
  kin := h.kin.below hb
  is := h.is
  far := h.far
  fro := h.fro
  one := h.one
theorem own_blk {X n c : Nat} {a : Option Addr} {xs : List Value} {E : Nat} (h : W.ownsRow X E 2 (.slice a n c) n xs) {g : Nat} (hg : (Value.slice a n c).ownBlock = some g) : a = some ⟨g, 0, none⟩ := by
  rcases h.2 with ⟨h4, _⟩ | ⟨g', cap, cur, h4, _⟩
  · simp only [Value.slice.injEq] at h4; rw [h4.1] at hg; cases hg
  · simp only [Value.slice.injEq] at h4
    rw [h4.1] at hg
    have : g' = g := Option.some.inj hg
    rw [this] at h4
    exact h4.1
theorem Jc.mid (h : Jc w W0 B0 B1 rows T pre a m c R rest W) (S : Js w B0 B1 rows T) {k : Nat} (hg : W.grownBy W' (some k)) (h0 : B0 ≤ k) (h1 : k < B1) : Jc w W0 B0 B1 rows T pre a m c R rest W' where
  bel := h.bel.grown hg h.bel.size (fun j e => by have := Option.some.inj e; have := S.lo; omega)
  siz := Nat.le_trans h.siz hg.size
  tot := h.tot
  rws b hr := (hg.block b (Nat.lt_of_lt_of_le (S.row b hr) (Nat.le_trans S.hi h.siz)) (fun e => by have := Option.some.inj e; have := S.row b hr; omega)).trans (h.rws b hr)
  lab q hq := World.ownsRow.kept (h.lab q hq) hg (.inr (fun e => by have e2 : blk q.a = k := Option.some.inj e; have := (S.one q hq).2.2.2.2.1; omega))
  len := h.len
  row := World.ownsRow.kept h.row hg (.inr (fun e => by have := h.fro k (own_blk h.row e); omega))
  kin := by
    refine ⟨fun p hp => ?_, h.kin.nea, h.kin.dis⟩
    have hf := h.far p hp
    refine (h.kin.own p hp).grown hg (fun e => ?_) (fun e => ?_)
    · rcases hf.1 with ⟨h2, _⟩ | h2 <;> omega
    · rcases hf.2 with ⟨h2, _⟩ | h2 <;> omega
  is := h.is
  far := h.far
  fro := h.fro
  one := h.one
theorem Jc.more {q : Q} {a' : Option Addr} {c' : Nat} (h : Jc w W0 B0 B1 rows T pre a m c R (q :: rest) W) (S : Js w B0 B1 rows T) (hj : jb R q = false) (hg : W.grownBy W' (Value.slice a m c).ownBlock) (hr : W'.ownsRow w.heap.size 80 2 (.slice a' (m + 1) c') (m + 1) (flat (R ++ [q])))
    (hv : (Value.slice a' (m + 1) c').ownBlock = (Value.slice a m c).ownBlock ∨ (Value.slice a' (m + 1) c').ownBlock = some W.heap.size) : Jc w W0 B0 B1 rows T (pre ++ [q]) a' (m + 1) c' (R ++ [q]) rest W' := by
  have hob : ∀ g, (Value.slice a m c).ownBlock = some g → B1 ≤ g := fun g e => h.fro g (own_blk h.row e)
  have hq := S.one q (by rw [h.tot]; simp)
  refine ⟨h.bel.grown hg h.bel.size (fun j e => (h.row.lt j e).1), Nat.le_trans h.siz hg.size, by rw [h.tot]; simp, fun b hb => ?_, fun p hp => ?_, by simp [h.len], hr, ?_, ?_, ?_, ?_, ?_⟩
  · have hb0 := S.row b hb
    refine (hg.block b (Nat.lt_of_lt_of_le hb0 (Nat.le_trans S.hi h.siz)) (fun e => ?_)).trans (h.rws b hb)
    have := hob b e.symm; have := S.hi; omega
  · refine World.ownsRow.kept (h.lab p hp) hg (.inr (fun e => ?_))
    have e2 : some (blk p.a) = (Value.slice a m c).ownBlock := e
    have := hob _ e2.symm; have := (S.one p hp).2.2.2.2.1; have := S.hi; omega
  · have hk := h.kin.moved (a' := a') hg (fun g e => own_blk h.row e) (fun g e => by
      subst e
      rcases hv with e1 | e1
      · exact .inl (own_blk h.row e1.symm)
      · exact .inr (Nat.le_of_eq (Option.some.inj e1).symm))
    rw [show R ++ q :: rest = (R ++ [q]) ++ rest by simp] at hk
    exact hk
  · rw [List.map_append, List.map_append, List.foldl_append, ← h.is]
    simp only [List.map_cons, List.map_nil, List.foldl_cons, List.foldl_nil]
    by_cases h0 : R.length = 0
    · rw [List.eq_nil_of_length_eq_zero h0]; rfl
    · obtain ⟨R', p, rfl, _⟩ := snoc_of (R := R) (m := R.length - 1) (by omega)
      rw [jb_snoc] at hj
      rw [List.map_append, List.map_singleton, Stb.upd_ne (by rw [Stb.eqvP]; exact hj)]
  · intro p hp
    exact h.far p (by rw [show R ++ q :: rest = (R ++ [q]) ++ rest by simp]; exact hp)
  · intro g e
    subst e
    rcases hv with e1 | e1
    · exact hob g e1.symm
    · have e2 : g = W.heap.size := Option.some.inj e1
      have := h.siz; omega
  · intro p hp
    rw [List.length_append]
    rcases List.mem_append.1 hp with h1 | h1
    · have := h.one p h1
      exact ⟨this.1, this.2.1, by simp; omega⟩
    · obtain rfl : p = q := by simpa using h1
      exact ⟨hq.2.1, hq.2.2.1, by simp; omega⟩
theorem Jc.join {p q : Q} {g m' gb d' : Nat} {W1 : World} (h : Jc w W0 B0 B1 rows T pre (some ⟨g, 0, none⟩) (m' + 1) c (R ++ [p]) (q :: rest) W) (S : Js w B0 B1 rows T) (hc : cmpList p.l q.l = 0)
    (hg : W.grownBy W1 (some (blk p.b))) (hs : W1.ownsRow w.heap.size 119 2 (.slice (some ⟨gb, 0, none⟩) (p.s.length + q.s.length) d') (p.s.length + q.s.length) (Smp.flat p.s ++ Smp.flat q.s)) (hv : gb = blk p.b ∨ gb = W.heap.size) :
    Jc w W0 B0 B1 rows T (pre ++ [q]) (some ⟨g, 0, none⟩) (m' + 1) c (R ++ [⟨p.l, p.a, p.c, p.s ++ q.s, some ⟨gb, 0, none⟩, d'⟩]) rest (W1.setCell ⟨g, m' * 2 + 1, none⟩ (.slice (some ⟨gb, 0, none⟩) (p.s.length + q.s.length) d')) := by
  have hq := S.one q (by rw [h.tot]; simp)
  have hl : R.length = m' := by have := h.len; simp at this; omega
  have hpm : p ∈ (R ++ [p]) ++ q :: rest := by simp
  have hpo := h.kin.own p hpm
  have hpf := h.far p hpm
  have hpn := h.kin.nea g rfl p hpm
  have hpl := hpo.hi
  have hgB := h.fro g rfl
  have hgl : g < W.heap.size := (h.row.lt g rfl).2
  have hrow1 : W1.ownsRow w.heap.size 80 2 (.slice (some ⟨g, 0, none⟩) (m' + 1) c) (m' + 1) (flat (R ++ [p])) := World.ownsRow.kept h.row hg (.inr (fun e => hpn.2 (Option.some.inj e).symm))
  have hst := hrow1.stored (m' * 2 + 1) (.slice (some ⟨gb, 0, none⟩) (p.s.length + q.s.length) d')
  have hgbg : gb ≠ g := by rcases hv with e | e; (rw [e]; exact hpn.2); omega
  have hgbf : Fb B0 B1 rows gb := by
    rcases hv with e | e
    · rw [e]; exact hpf.2
    · right; rw [e]; exact h.siz
  have hgblo : w.heap.size ≤ gb := (hs.lt gb rfl).1
  obtain ⟨p', hp'⟩ : ∃ p' : Q, p' = ⟨p.l, p.a, p.c, p.s ++ q.s, some ⟨gb, 0, none⟩, d'⟩ := ⟨_, rfl⟩
  have e1 : p'.l = p.l := by rw [hp']
  have e2 : p'.a = p.a := by rw [hp']
  have e3 : p'.s = p.s ++ q.s := by rw [hp']
  have e4 : blk p'.b = gb := by rw [hp']; rfl
  have hsf : Smp.flat (p.s ++ q.s) = Smp.flat p.s ++ Smp.flat q.s := Smp.flat_append _ _
  have hq' : Own2 w.heap.size p' W1 := by
    rw [hp']
    refine ⟨hpo.ha, rfl, World.ownsRow.kept hpo.lab hg (.inr (fun e => hpo.ne (Option.some.inj e))), ?_, ?_⟩
    · show W1.ownsRow w.heap.size 119 2 (.slice (some ⟨gb, 0, none⟩) (p.s ++ q.s).length d') (p.s ++ q.s).length (Smp.flat (p.s ++ q.s))
      rw [hsf, List.length_append]; exact hs
    · show blk p.a ≠ gb
      rcases hv with e | e
      · rw [e]; exact hpo.ne
      · omega
  have hperm : (p :: (R ++ q :: rest)).Perm ((R ++ [p]) ++ q :: rest) := by
    rw [List.append_assoc]; exact List.perm_middle.symm
  have hk0 := h.kin.perm hperm.symm
  have hds := (List.pairwise_cons.1 hk0.dis).1
  have hoth : ∀ x ∈ R ++ rest, Own2 w.heap.size x W1 ∧ Dsj p' x := by
    intro x hx
    have hx' : x ∈ R ++ q :: rest := by
      rcases List.mem_append.1 hx with h1 | h1
      · simp [h1]
      · simp [h1]
    have hxo := hk0.own x (List.mem_cons_of_mem _ hx')
    have hd := hds x hx'
    refine ⟨hxo.grown hg (fun e => hd.2.2.1 e.symm) (fun e => hd.2.2.2 e.symm), ?_⟩
    have hxl := hxo.hi
    rcases hv with e | e
    · exact ⟨by rw [e2]; exact hd.1, by rw [e2]; exact hd.2.1, by rw [e4, e]; exact hd.2.2.1, by rw [e4, e]; exact hd.2.2.2⟩
    · exact ⟨by rw [e2]; exact hd.1, by rw [e2]; exact hd.2.1, by rw [e4]; omega, by rw [e4]; omega⟩
  have hdis : (R ++ rest).Pairwise Dsj := by
    have h1 := (List.pairwise_cons.1 hk0.dis).2
    exact List.Pairwise.sublist (List.Sublist.append (List.Sublist.refl R) (List.sublist_cons_self q rest)) h1
  have hnea : ∀ x ∈ R ++ rest, blk x.a ≠ g ∧ blk x.b ≠ g := by
    intro x hx
    refine h.kin.nea g rfl x ?_
    rcases List.mem_append.1 hx with h1 | h1
    · simp [h1]
    · simp [h1]
  have hk1 : Kin w.heap.size (some ⟨g, 0, none⟩) (p' :: (R ++ rest)) W1 := by
    refine ⟨fun x hx => ?_, fun g' hg' x hx => ?_, List.pairwise_cons.2 ⟨fun x hx => (hoth x hx).2, hdis⟩⟩
    · rcases List.mem_cons.1 hx with rfl | hx
      · exact hq'
      · exact (hoth x hx).1
    · cases hg'
      rcases List.mem_cons.1 hx with rfl | hx
      · exact ⟨by rw [e2]; exact hpn.1, by rw [e4]; exact hgbg⟩
      · exact hnea x hx
  have hk2 := (hk1.moved (a' := some ⟨g, 0, none⟩) hst.2 (fun g' e => by cases e; rfl) (fun g' e => .inl e)).perm (show (p' :: (R ++ rest)).Perm ((R ++ [p']) ++ rest) by rw [List.append_assoc]; exact List.perm_middle.symm)
  rw [← hp']
  have hX := S.lo
  have hY := S.hi
  refine ⟨?_, ?_, by rw [h.tot]; simp, fun b hb => ?_, fun x hx => ?_, by simp [hl], ?_, hk2, ?_, ?_, h.fro, ?_⟩
  · exact (h.bel.grown hg h.bel.size (fun j e => by have := Option.some.inj e; have := hpo.lo.2; omega)).setCell (p := ⟨g, m' * 2 + 1, none⟩) (by show w.heap.size ≤ g; omega) _
  · have := hg.size; have := h.siz; simp; omega
  · have hb0 := S.row b hb
    have hbb : b ≠ blk p.b := by
      rintro rfl
      rcases hpf.2 with ⟨_, h2⟩ | h2
      · exact h2 hb
      · omega
    refine (hst.2.block b (by have := hg.size; have := h.siz; omega) (fun e => by have := Option.some.inj e; omega)).trans ((hg.block b (by have := h.siz; omega) (fun e => hbb (Option.some.inj e))).trans (h.rws b hb))
  · have hx0 := (S.one x hx).2.2.2.2.1
    have hne : blk x.a ≠ blk p.b := by
      intro e
      rcases Pat.own_apart (h.lab x hx) hpo.smp (by decide) with h1 | h1
      · cases h1
      · exact h1 (by show some (blk x.a) = some (blk p.b); rw [e])
    exact World.ownsRow.kept (World.ownsRow.kept (h.lab x hx) hg (.inr (fun e => hne (Option.some.inj e)))) hst.2 (.inr (fun e => by have e2 : blk x.a = g := Option.some.inj e; omega))
  · have h1 := hst.1
    have e5 : Value.slice (some ⟨gb, 0, none⟩) (p.s.length + q.s.length) d' = .slice p'.b p'.s.length p'.d := by rw [hp']; simp
    rw [← hl, e5, Srs.flat_last R p p' (by rw [hp']; exact ⟨rfl, rfl, rfl⟩), hl] at h1
    rw [e5]
    exact h1
  · rw [show (pre ++ [q]).map pl = pre.map pl ++ [pl q] by simp, List.foldl_append, ← h.is]
    simp only [List.map_append, List.map_cons, List.map_nil, List.foldl_cons, List.foldl_nil]
    rw [Stb.upd_eq (by rw [Stb.eqvP]; exact decide_eq_true hc)]
    simp only [pl, jCat, e1, e3]
  · intro x hx
    rcases List.mem_append.1 hx with h1 | h1
    · rcases List.mem_append.1 h1 with h2 | h2
      · exact h.far x (by simp [h2])
      · obtain rfl : x = p' := by simpa using h2
        exact ⟨by rw [e2]; exact hpf.1, by rw [e4]; exact hgbf⟩
    · exact h.far x (by simp [h1])
  · intro x hx
    rw [List.length_append]
    rcases List.mem_append.1 hx with h1 | h1
    · have := h.one x (by simp [h1])
      exact ⟨this.1, this.2.1, by simp; omega⟩
    · obtain rfl : x = p' := by simpa using h1
      have := h.one p (by simp)
      rw [e1, e3]
      refine ⟨by intro e; exact this.1 (List.append_eq_nil_iff.1 e).1, this.2.1, ?_⟩
      rw [List.length_append]
      simp only [List.length_cons, List.length_nil]
      omega
end
end Go.Proofs.YtjhdmghpklagkaaGreat.Hpl
namespace Go.Proofs.YtjhdmghpklagkaaGreat.Rnd
open Go.RowKit

theorem op_in {l n : Nat} {P : Program} {ops : Array Oper} {Q : Exit → Act → World → Prop} {i : Nat} {K : Act → World → Prop} {a : Act} {w : World} (hnd : ∀ (o : Oper), ops[i]? = some o → ∀ c, o.op ≠ .defer c) (hno : ¬ LetsOut Q) (h : wpOp P ops Q i K a w) : wpOpIn (Fence.wide.inRound l) n P ops Q i K a w := by
  unfold wpOp at h
  unfold wpOpIn
  cases ho : ops[i]? with
  | none => rw [ho] at h; exact h
  | some o =>
    rw [ho] at h
    simp only at h ⊢
    by_cases hw : Region.wanted o (yielded ops a.tmps) = true
    · rw [if_pos hw] at h ⊢
      have h := h.resolve_right (fun e => hno e.2)
      unfold Oper.wp at h
      refine ⟨fun f _ => trivial, ?_⟩
      show o.uponIn (Fence.wide.inRound l) n P a K Q ((o.semAt (some l) a.eval).run P w)
      rw [Oper.semAt_some l a.eval o (hnd o ho)]
      generalize (execOp a.eval o).run P w = r at *
      cases r with
      | ok x w' =>
        cases x <;> first
          | exact h
          | exact ⟨by intro e; simp [Fence.inRound, Fence.wide] at e, (callsIn_wide.2 h).inRound l⟩
          | exact ⟨by intro e; simp [Fence.inRound, Fence.wide] at e, fun c cs _ => let ⟨v, w', r, s⟩ := h c cs; ⟨v, w', r, stepsIn_wide.2 s⟩⟩
          | exact h.elim
      | halt x w' => cases x <;> first | exact h | exact h.elim
    · rw [if_neg hw] at h ⊢
      exact ⟨fun f _ => trivial, h⟩
theorem any_in {l n : Nat} {P : Program} {md : Region.Mode} {ops : Array Oper} {Q : Exit → Act → World → Prop} (hnd : ∀ (i : Nat) (o : Oper), ops[i]? = some o → ∀ c, o.op ≠ .defer c) (hno : ¬ LetsOut Q) : ∀ (fuel : Nat) (listed : Array Bool) (a : Act) (w : World), wpAny P md ops Q fuel listed a w → wpAnyIn (Fence.wide.inRound l) n P md ops Q fuel listed a w
  | 0, _, _, _, h => h
  | fuel + 1, _, _, _, h => ⟨h.1, fun i hi => wpOpIn_mono (fun a' w' h' => any_in hnd hno fuel _ a' w' h') (op_in (hnd i) hno (h.2 i hi))⟩
def noDefer (ops : Array Oper) : Bool := ops.all fun o => match o.op with | .defer _ => false | _ => true
theorem noDefer_spec {ops : Array Oper} (h : noDefer ops = true) : ∀ (i : Nat) (o : Oper), ops[i]? = some o → ∀ c, o.op ≠ .defer c := by
  intro i o ho c e
  have := Array.all_eq_true.1 h i (Array.getElem?_eq_some_iff.1 ho).1
  rw [(Array.getElem?_eq_some_iff.1 ho).2, e] at this
  cases this
theorem region_in {l n id : Nat} {P : Program} {ops : Array Oper} {Q : Exit → Act → World → Prop} {S : World → Prop} {a : Act} {w : World} (hm : P.follows .mixedOrders = true) (hnd : noDefer ops = true) (hno : ¬ LetsOut Q) (hS : S w.drew)
    (h : S w.drew → wpAnyH P .any ops Q S ops.size (Array.replicate ops.size false) a w.drew) : (Code.region id ops true).wpIn (Fence.wide.inRound l) n P Q a w :=
  wpIn_region_any hm (any_in (noDefer_spec hnd) hno _ _ _ _ (wpAny_of_held _ _ _ _ (h hS)))
end Go.Proofs.YtjhdmghpklagkaaGreat.Rnd
