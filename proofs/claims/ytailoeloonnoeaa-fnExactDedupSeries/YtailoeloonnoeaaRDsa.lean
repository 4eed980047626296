/- Lists of series whose labels may be none, put together: what is owned; what DedupSeries tells. -/
import Derived.Test.YtailoeloonnoeaaRMM
import Derived.Test.YtailoeloonnoeaaRDD
import Derived.Test.YtailoeloonnoeaaRLX
namespace Go.Proofs.Ytailoeloonnoeaa.Srs
open Go.RowKit
open Go.Proofs.Ytailoeloonnoeaa.Lab (Lb HasL cmpList)
open Go.Proofs.Ytailoeloonnoeaa.Smp (Sm HasS dedT Tml TimeP)
open Go.Proofs.Ytailoeloonnoeaa.Stb (isort ltP ltQ runs upd eqv isort_mem puts put ordP jnP)

/-- Only blocks of which P tells are written. -/
structure Fw (P : Nat → Prop) (w x : World) : Prop where
  os : x.os = w.os
  tape : x.tape = w.tape
  output : x.output = w.output
  size : w.heap.size ≤ x.heap.size
  block : ∀ k, k < w.heap.size → ¬ P k → x.heap[k]? = w.heap[k]?
theorem Fw.trans {P : Nat → Prop} {w x y : World} (h : Fw P w x) (g : Fw P x y) : Fw P w y :=
  ⟨g.os.trans h.os, g.tape.trans h.tape, g.output.trans h.output, Nat.le_trans h.size g.size, fun k hk hne => (g.block k (Nat.lt_of_lt_of_le hk h.size) hne).trans (h.block k hk hne)⟩
theorem Fw.mono {P P' : Nat → Prop} {w x : World} (h : Fw P w x) (hp : ∀ k, P k → P' k) : Fw P' w x := ⟨h.os, h.tape, h.output, h.size, fun k hk hne => h.block k hk fun e => hne (hp k e)⟩
theorem Fw.grown {P : Nat → Prop} {r : Nat} {w x : World} (h : w.grownBy x (some r)) (hr : P r) : Fw P w x :=
  ⟨h.os, h.tape, h.output, h.size, fun k hk hne => h.block k hk fun e => hne (by rw [Option.some.inj e]; exact hr)⟩
theorem Fw.ofBelow {P : Nat → Prop} {w x : World} (h : Below w.heap.size w x) : Fw P w x := ⟨h.os, h.tape, h.output, h.size, fun k hk _ => h.block k hk⟩
theorem Fw.set {P : Nat → Prop} {w : World} {p : Addr} (v : Value) (hp : P p.block) : Fw P w (w.setCell p v) :=
  ⟨rfl, rfl, rfl, by simp, fun k hk hne => Below.heap_setCell w p v k (fun e => hne (by rw [e]; exact hp))⟩
theorem Fw.grownO {r : Option Nat} {w x : World} (h : w.grownBy x r) : Fw (fun b => r = some b) w x := ⟨h.os, h.tape, h.output, h.size, fun k hk hne => h.block k hk fun e => hne e.symm⟩
theorem own_fw {P : Nat → Prop} {w x : World} {base e size n : Nat} {v : Value} {xs : List Value} (h : w.ownsRow base e size v n xs) (hf : Fw P w x) (hg : ∀ g, v.ownBlock = some g → ¬ P g) : x.ownsRow base e size v n xs := by
  refine ⟨h.1, ?_⟩
  rcases h.2 with h1 | ⟨g', cap, cur, h1, h2, h3, h4⟩
  · exact .inl h1
  · exact .inr ⟨g', cap, cur, h1, h2, (hf.block g' (Array.getElem?_eq_some_iff.1 h3).1 (hg g' (by rw [h1]; rfl))).trans h3, h4⟩
/-- Rows of unlike elements lie apart. -/
theorem apart {w : World} {b1 b2 e1 e2 s1 s2 n1 n2 : Nat} {v1 v2 : Value} {x1 x2 : List Value} (h1 : w.ownsRow b1 e1 s1 v1 n1 x1) (h2 : w.ownsRow b2 e2 s2 v2 n2 x2) (hne : e1 ≠ e2) {g : Nat} (hg1 : v1.ownBlock = some g) (hg2 : v2.ownBlock = some g) : False := by
  rcases h1.2 with ⟨rfl, _⟩ | ⟨g1, c1, cur1, rfl, _, k1, _⟩
  · cases hg1
  · rcases h2.2 with ⟨rfl, _⟩ | ⟨g2, c2, cur2, rfl, _, k2, _⟩
    · cases hg2
    · simp only [Value.ownBlock, Option.some.injEq] at hg1 hg2
      subst hg1 hg2
      rw [k1] at k2
      simp only [Option.some.injEq, Obj.cells.injEq] at k2
      exact hne k2.2.1
/-- Labels are none, or in memory of their own. -/
def OwnLb (X : Nat) (l : List Lb) (a : Option Addr) (c : Nat) (w : World) : Prop := l = [] ∨ ∃ g, a = some ⟨g, 0, none⟩ ∧ w.ownsRow X 64 2 (.slice (some ⟨g, 0, none⟩) l.length c) l.length (Lab.flat l)
/-- The block of the labels, where there are any. -/
def lbq (q : Q) : Option Nat := if q.l.length = 0 then none else (Value.slice q.a q.l.length q.c).ownBlock
theorem OwnLb.below {X c : Nat} {l : List Lb} {a : Option Addr} {w w' : World} (h : OwnLb X l a c w) (hb : Below w.heap.size w w') : OwnLb X l a c w' := by
  rcases h with h | ⟨g, h1, h2⟩
  · exact .inl h
  · exact .inr ⟨g, h1, own_below h2 hb⟩
theorem OwnLb.base {X Y c : Nat} {l : List Lb} {a : Option Addr} {w : World} (h : OwnLb X l a c w) (hy : Y ≤ X) : OwnLb Y l a c w := by
  rcases h with h | ⟨g, h1, h2⟩
  · exact .inl h
  · exact .inr ⟨g, h1, own_base h2 hy⟩
theorem OwnLb.has {X c : Nat} {l : List Lb} {a : Option Addr} {w : World} (h : OwnLb X l a c w) : HasL w a l := by
  rcases h with h | ⟨g, h1, h2⟩
  · rw [h]; exact .inl rfl
  · rw [h1]; exact Lab.HasL.own h2
theorem OwnLb.ofRow {X c n : Nat} {l : List Lb} {a : Option Addr} {w : World} (h : w.ownsRow X 64 2 (.slice a n c) n (Lab.flat l)) : n = l.length ∧ OwnLb X l a c w := by
  have hl := h.1
  rw [Lab.flat_len] at hl
  have hn : n = l.length := by omega
  refine ⟨hn, ?_⟩
  by_cases h0 : l.length = 0
  · exact .inl (List.eq_nil_of_length_eq_zero h0)
  · subst hn
    rcases h.2 with ⟨_, h2⟩ | ⟨g, cap, cur, h1, _⟩
    · exact absurd h2 h0
    · simp only [Value.slice.injEq] at h1
      rw [h1.1] at h
      exact .inr ⟨g, h1.1, h⟩
theorem OwnLb.blk {X g : Nat} {q : Q} {w : World} (h : OwnLb X q.l q.a q.c w) (hg : lbq q = some g) : q.a = some ⟨g, 0, none⟩ ∧ w.ownsRow X 64 2 (.slice (some ⟨g, 0, none⟩) q.l.length q.c) q.l.length (Lab.flat q.l) := by
  unfold lbq at hg
  rcases h with h | ⟨g', h1, h2⟩
  · rw [h] at hg; simp at hg
  · rw [h1] at hg
    split at hg
    · cases hg
    · simp only [Value.ownBlock, Option.some.injEq] at hg
      subst hg
      exact ⟨h1, h2⟩
theorem OwnLb.fw {P : Nat → Prop} {X : Nat} {q : Q} {w w' : World} (h : OwnLb X q.l q.a q.c w) (hf : Fw P w w') (hg : ∀ g, lbq q = some g → ¬ P g) : OwnLb X q.l q.a q.c w' := by
  rcases h with h | ⟨g, h1, h2⟩
  · exact .inl h
  · by_cases h0 : q.l.length = 0
    · exact .inl (List.eq_nil_of_length_eq_zero h0)
    · exact .inr ⟨g, h1, own_fw h2 hf fun g' e => hg g' (by unfold lbq; rw [if_neg h0, h1]; exact e)⟩
/-- A series in memory of its own; its labels may be none. -/
structure OwnW (X : Nat) (q : Q) (w : World) : Prop where
  lab : OwnLb X q.l q.a q.c w
  hb : q.b = some ⟨blk q.b, 0, none⟩
  smp : w.ownsRow X 53 2 (.slice (some ⟨blk q.b, 0, none⟩) q.s.length q.d) q.s.length (Smp.flat q.s)
theorem OwnW.below {X : Nat} {q : Q} {w w' : World} (h : OwnW X q w) (hb : Below w.heap.size w w') : OwnW X q w' := ⟨h.lab.below hb, h.hb, own_below h.smp hb⟩
theorem OwnW.base {X Y : Nat} {q : Q} {w : World} (h : OwnW X q w) (hy : Y ≤ X) : OwnW Y q w := ⟨h.lab.base hy, h.hb, own_base h.smp hy⟩
theorem OwnW.hasS {X : Nat} {q : Q} {w : World} (h : OwnW X q w) : HasS w q.b q.s := by rw [h.hb]; exact Smp.HasS.own h.smp
theorem OwnW.fw {P : Nat → Prop} {X : Nat} {q : Q} {w w' : World} (h : OwnW X q w) (hf : Fw P w w') (h1 : ∀ g, lbq q = some g → ¬ P g) (h2 : ¬ P (blk q.b)) : OwnW X q w' :=
  ⟨h.lab.fw hf h1, h.hb, own_fw h.smp hf fun g e => by rw [← Option.some.inj e]; exact h2⟩
theorem OwnW.hi {X : Nat} {q : Q} {w : World} (h : OwnW X q w) : blk q.b < w.heap.size ∧ ∀ g, lbq q = some g → g < w.heap.size := ⟨(h.smp.lt _ rfl).2, fun g hg => ((h.lab.blk hg).2.lt g rfl).2⟩
/-- No row of a series is a row of series. -/
theorem OwnW.noRow {X Y n : Nat} {q : Q} {v : Value} {xs : List Value} {w : World} (h : OwnW X q w) (hr : w.ownsRow Y 40 2 v n xs) : (∀ g, lbq q = some g → ¬ v.ownBlock = some g) ∧ ¬ v.ownBlock = some (blk q.b) :=
  ⟨fun g hg e => apart (g := g) hr (h.lab.blk hg).2 (by decide) e rfl, fun e => apart (g := blk q.b) hr h.smp (by decide) e rfl⟩
/-- Two series have no row in common. -/
def Aq (p q : Q) : Prop := (lbq p = none ∨ lbq p ≠ lbq q) ∧ blk p.b ≠ blk q.b
theorem Aq.symm {p q : Q} (h : Aq p q) : Aq q p := by
  refine ⟨?_, fun e => h.2 e.symm⟩
  by_cases e : lbq q = none
  · exact .inl e
  · rcases h.1 with h | h
    · exact .inr fun e2 => e (e2.trans h)
    · exact .inr fun e2 => h e2.symm
structure KinV (X : Nat) (qs : List Q) (w : World) : Prop where
  own : ∀ q ∈ qs, OwnW X q w
  dis : qs.Pairwise Aq
theorem KinV.below {X : Nat} {qs : List Q} {w w' : World} (h : KinV X qs w) (hb : Below w.heap.size w w') : KinV X qs w' := ⟨fun q hq => (h.own q hq).below hb, h.dis⟩
theorem KinV.perm {X : Nat} {L K : List Q} {w : World} (h : KinV X L w) (hp : L.Perm K) : KinV X K w := ⟨fun q hq => h.own q (hp.mem_iff.2 hq), (hp.pairwise_iff (fun h => Aq.symm h)).1 h.dis⟩
theorem KinV.cons {X : Nat} {L : List Q} {q : Q} {w : World} (h : KinV X L w) (h1 : OwnW X q w) (h2 : ∀ p ∈ L, Aq q p) : KinV X (q :: L) w := by
  refine ⟨fun p hp => ?_, List.pairwise_cons.2 ⟨h2, h.dis⟩⟩
  rcases List.mem_cons.1 hp with e | e
  · rw [e]; exact h1
  · exact h.own p e
theorem KinV.tail {X : Nat} {L : List Q} {q : Q} {w : World} (h : KinV X (q :: L) w) : KinV X L w := ⟨fun p hp => h.own p (by simp [hp]), (List.pairwise_cons.1 h.dis).2⟩
/-- The list's row is written, or lies elsewhere now. -/
theorem KinV.moved {X Y n : Nat} {qs : List Q} {v : Value} {xs : List Value} {w x : World} (h : KinV X qs w) (hr : w.ownsRow Y 40 2 v n xs) (hg : w.grownBy x v.ownBlock) : KinV X qs x :=
  ⟨fun q hq => (h.own q hq).fw (Fw.grownO hg) ((h.own q hq).noRow hr).1 ((h.own q hq).noRow hr).2, h.dis⟩
/-- A list of series that is the call's own. -/
structure OwnV (X : Nat) (a : Option Addr) (n c : Nat) (qs : List Q) (w : World) : Prop where
  len : qs.length = n
  row : w.ownsRow X 40 2 (.slice a n c) n (flat qs)
  kin : KinV X qs w
theorem OwnV.nil (X : Nat) (w : World) : OwnV X none 0 0 [] w := ⟨rfl, World.ownsRow_nil _ _ _ _, fun q hq => (by cases hq), List.Pairwise.nil⟩
theorem OwnV.below {X n c : Nat} {a : Option Addr} {qs : List Q} {w w' : World} (h : OwnV X a n c qs w) (hb : Below w.heap.size w w') : OwnV X a n c qs w' := ⟨h.len, own_below h.row hb, h.kin.below hb⟩
theorem OwnV.base {X Y n c : Nat} {a : Option Addr} {qs : List Q} {w : World} (h : OwnV X a n c qs w) (hy : Y ≤ X) : OwnV Y a n c qs w := ⟨h.len, own_base h.row hy, fun q hq => (h.kin.own q hq).base hy, h.kin.dis⟩
theorem OwnV.has {X n c : Nat} {a : Option Addr} {qs : List Q} {w : World} (h : OwnV X a n c qs w) : HasQ w a qs := own_hasO h.row fun q hq => ⟨(h.kin.own q hq).lab.has, (h.kin.own q hq).hasS⟩
/-- One more at its end. -/
theorem OwnV.push {X n c c' : Nat} {a a' : Option Addr} {qs : List Q} {q : Q} {w W x : World} (h : OwnV X a n c qs w) (hb : Below w.heap.size w W) (hq : OwnW X q W) (hap : ∀ p ∈ qs, Aq p q)
    (hg : W.grownBy x (Value.slice a n c).ownBlock) (ho : x.ownsRow X 40 2 (.slice a' (n + 1) c') (n + 1) (flat (qs ++ [q]))) : OwnV X a' (n + 1) c' (qs ++ [q]) x := by
  have hr := own_below h.row hb
  refine ⟨by simp [h.len], ho, fun p hp => ?_, List.pairwise_append.2 ⟨h.kin.dis, List.pairwise_singleton _ _, fun p hp r hr => by rw [List.mem_singleton.1 hr]; exact hap p hp⟩⟩
  have hw : OwnW X p W := by
    rcases List.mem_append.1 hp with e | e
    · exact (h.kin.own p e).below hb
    · rw [List.mem_singleton.1 e]; exact hq
  exact hw.fw (Fw.grownO hg) (hw.noRow hr).1 (hw.noRow hr).2
/-- One of a list has its samples put anew. -/
theorem OwnV.setAt {X g m c gb d' : Nat} {A B : List Q} {q : Q} {s' : List Sm} {w W : World} (h : OwnV X (some ⟨g, 0, none⟩) m c (A ++ q :: B) w) (hb : Below w.heap.size w W) (hX : X ≤ w.heap.size) (hs : W.ownsRow w.heap.size 53 2 (.slice (some ⟨gb, 0, none⟩) s'.length d') s'.length (Smp.flat s')) :
    OwnV X (some ⟨g, 0, none⟩) m c (A ++ ⟨q.l, q.a, q.c, s', some ⟨gb, 0, none⟩, d'⟩ :: B) (W.setCell ⟨g, A.length * 2 + 1, none⟩ (.slice (some ⟨gb, 0, none⟩) s'.length d')) := by
  have hrW := own_below h.row hb
  have hst := hrW.stored (A.length * 2 + 1) (.slice (some ⟨gb, 0, none⟩) s'.length d')
  have hgb : w.heap.size ≤ gb := (hs.lt gb rfl).1
  have hk := h.kin.perm (perm_mid A B q).symm
  have hq := hk.own q (by simp)
  have hq' : OwnW X ⟨q.l, q.a, q.c, s', some ⟨gb, 0, none⟩, d'⟩ W := ⟨hq.lab.below hb, rfl, own_base hs hX⟩
  have hk2 : KinV X (⟨q.l, q.a, q.c, s', some ⟨gb, 0, none⟩, d'⟩ :: (A ++ B)) W := by
    refine (hk.tail.below hb).cons hq' (fun p hp => ⟨((List.pairwise_cons.1 hk.dis).1 p hp).1, ?_⟩)
    have h2 := (hk.tail.own p hp).hi.1
    show gb ≠ _; omega
  have hk3 := (hk2.moved hrW hst.2).perm (perm_mid A B _)
  refine ⟨by have := h.len; simp at this ⊢; exact this, ?_, hk3⟩
  have e : (flat (A ++ q :: B)).set (A.length * 2 + 1) (.slice (some ⟨gb, 0, none⟩) s'.length d') = flat (A ++ ⟨q.l, q.a, q.c, s', some ⟨gb, 0, none⟩, d'⟩ :: B) := by
    rw [flat_mid, flat_mid, List.set_append_right _ _ (by rw [flat_len]; omega), flat_len, show A.length * 2 + 1 - A.length * 2 = 1 by omega]
    rfl
  rw [← e]
  exact hst.1
/-- Where none is without labels it is a list as merging gives. -/
theorem OwnV.ownO {X n c : Nat} {a : Option Addr} {qs : List Q} {w : World} (h : OwnV X a n c qs w) (hl : ∀ q ∈ qs, q.l ≠ []) : OwnO X a n c qs w := by
  have hlb : ∀ q ∈ qs, lbq q = some (blk q.a) ∧ q.a = some ⟨blk q.a, 0, none⟩ ∧ w.ownsRow X 64 2 (.slice (some ⟨blk q.a, 0, none⟩) q.l.length q.c) q.l.length (Lab.flat q.l) := fun q hq => by
    have h0 : ¬ q.l.length = 0 := fun e => hl q hq (List.eq_nil_of_length_eq_zero e)
    rcases (h.kin.own q hq).lab with e | ⟨g, e1, e2⟩
    · exact absurd e (hl q hq)
    · have eb : blk q.a = g := by rw [e1]; rfl
      refine ⟨?_, by rw [eb]; exact e1, by rw [eb]; exact e2⟩
      unfold lbq; rw [if_neg h0, e1]; rfl
  have hne : ∀ p ∈ qs, ∀ q ∈ qs, blk p.a ≠ blk q.b := fun p hp q hq e => apart (g := blk p.a) (hlb p hp).2.2 (h.kin.own q hq).smp (by decide) rfl (by rw [e]; rfl)
  refine Kin.ownO ⟨fun q hq => ⟨(hlb q hq).2.1, (h.kin.own q hq).hb, (hlb q hq).2.2, (h.kin.own q hq).smp, hne q hq q hq⟩, fun g hg q hq => ?_, ?_⟩ h.len h.row
  · have hr := h.row
    rw [hg] at hr
    exact ⟨fun e => apart (g := g) hr (hlb q hq).2.2 (by decide) rfl (by rw [e]; rfl), fun e => apart (g := g) hr (h.kin.own q hq).smp (by decide) rfl (by rw [e]; rfl)⟩
  · refine List.Pairwise.imp_of_mem (fun {p q} hp hq hpq => ?_) h.kin.dis
    refine ⟨fun e => ?_, hne p hp q hq, fun e => hne q hq p hp e.symm, hpq.2⟩
    rcases hpq.1 with e1 | e1
    · rw [(hlb p hp).1] at e1; cases e1
    · exact e1 (by rw [(hlb p hp).1, (hlb q hq).1, e])
/-- A series without the label of that name. -/
def drp (x : ByteArray) (p : Pl) : Pl := (Lab.selL [x] false p.1, p.2)
/-- Two series of one name, told as one. -/
def jD (gap : Int) (x y : Pl) : Pl := (x.1, dedT gap x.2 y.2)
theorem jnD (gap : Int) : Stb.Jn ltP (jD gap) := jnP (dedT gap)
def dsA (L : List Pl) (x : ByteArray) (gap : Int) : List Pl := runs ltP (jD gap) (isort ltP (L.map (drp x)))
theorem dsA_puts (L : List Pl) (x : ByteArray) (gap : Int) : dsA L x gap = puts ltP (jD gap) [] (L.map (drp x)) := Stb.runs_isort ordP (jnD gap) _
/-- What DedupSeries tells. -/
def dsL (L : List Pl) (x : ByteArray) (gap : Int) : List Pl := if gdL L = true ∧ Str.nameL x.data.toList = true ∧ (0 ≤ gap ∧ gap ≤ 1000000) ∧ gdL (dsA L x gap) = true then dsA L x gap else []
theorem dsL_a {L : List Pl} {x : ByteArray} {gap : Int} (h : ¬ gdL L = true) : dsL L x gap = [] := if_neg fun g => h g.1
theorem dsL_b {L : List Pl} {x : ByteArray} {gap : Int} (h : ¬ Str.nameL x.data.toList = true) : dsL L x gap = [] := if_neg fun g => h g.2.1
theorem dsL_c {L : List Pl} {x : ByteArray} {gap : Int} (h : ¬ (0 ≤ gap ∧ gap ≤ 1000000)) : dsL L x gap = [] := if_neg fun g => h g.2.2.1
theorem dsL_o {L : List Pl} {x : ByteArray} {gap : Int} (h : ¬ gdL (dsA L x gap) = true) : dsL L x gap = [] := if_neg fun g => h g.2.2.2
theorem dsL_y {L : List Pl} {x : ByteArray} {gap : Int} (h1 : gdL L = true) (h2 : Str.nameL x.data.toList = true) (h3 : 0 ≤ gap ∧ gap ≤ 1000000) (h4 : gdL (dsA L x gap) = true) : dsL L x gap = dsA L x gap := if_pos ⟨h1, h2, h3, h4⟩
theorem dsL_good (L : List Pl) (x : ByteArray) (gap : Int) : gdL (dsL L x gap) = true := by
  by_cases h : gdL L = true ∧ Str.nameL x.data.toList = true ∧ (0 ≤ gap ∧ gap ≤ 1000000) ∧ gdL (dsA L x gap) = true
  · rw [dsL_y h.1 h.2.1 h.2.2.1 h.2.2.2]; exact h.2.2.2
  · unfold dsL; rw [if_neg h]; exact gdL_nil
theorem dedT_emp {gap : Int} {xs ys : List Sm} : dedT gap xs ys = [] ↔ xs = [] ∧ ys = [] := by
  cases xs with
  | nil => cases ys <;> simp [dedT]
  | cons x X =>
    cases ys with
    | nil => simp [dedT]
    | cons y Y => simp only [dedT]; split <;> simp
theorem dd_mem (gap : Int) : ∀ (n : Nat) (last : Int) (g o : List Sm) (p : Sm), p ∈ Smp.dd gap n last g o → p ∈ g ∨ p ∈ o := by
  intro n
  induction n with
  | zero => intro last g o p h; cases h
  | succ n ih =>
    intro last g o p h
    rcases Smp.sw_cases gap last g o with ⟨rfl, rfl⟩ | ⟨a, G, rfl, hs⟩ | ⟨a, G, rfl, hs⟩
    · rw [Smp.dd_nil] at h; cases h
    · rw [Smp.dd_stay hs] at h
      rcases List.mem_cons.1 h with e | e
      · exact .inl (by simp [e])
      · rcases ih _ _ _ _ e with e | e
        · exact .inl (by simp [Smp.bh_mem e])
        · exact .inr (Smp.bh_mem e)
    · rw [Smp.dd_swap hs] at h
      rcases List.mem_cons.1 h with e | e
      · exact .inr (by simp [e])
      · rcases ih _ _ _ _ e with e | e
        · exact .inr (by simp [Smp.bh_mem e])
        · exact .inl (Smp.bh_mem e)
theorem dedT_mem {gap : Int} {xs ys : List Sm} (hy : ys.Pairwise (fun x y => x.1 < y.1)) {p : Sm} (h : p ∈ dedT gap xs ys) : p ∈ xs ∨ p ∈ ys := by
  cases e : Smp.dgo xs ys with
  | true => rw [Smp.dedT_yes hy e] at h; exact (dd_mem gap _ _ _ _ p h).symm
  | false => rw [Smp.dedT_no e] at h; exact dd_mem gap _ _ _ _ p h
/-- Series that can be told as one: what is asked of each of the first ones. -/
structure DQ (q : Q) : Prop where
  l2 : q.l.length ≤ 20
  lf : Lab.Fit q.l
  s1 : q.s ≠ []
  s2 : q.s.length ≤ 2000
  sf : Smp.Fit q.s
  st : ∀ p ∈ q.s, TimeP p.1
  sp : q.s.Pairwise (fun x y => x.1 < y.1)
/-- What is told of the first k of them. -/
structure DR (q : Q) (k : Nat) : Prop where
  l2 : q.l.length ≤ 20
  lf : Lab.Fit q.l
  s1 : q.s ≠ []
  s2 : q.s.length ≤ 2000 * k
  sf : Smp.Fit q.s
  st : ∀ p ∈ q.s, TimeP p.1
theorem DR.mono {q : Q} {k j : Nat} (h : DR q k) (hk : k ≤ j) : DR q j := ⟨h.l2, h.lf, h.s1, by have := h.s2; have := Nat.mul_le_mul_left 2000 hk; omega, h.sf, h.st⟩
theorem DQ.dr {q q' : Q} {k : Nat} (h : DQ q) (hl : q'.l = q.l) (hs : q'.s = q.s) : DR q' (k + 1) := ⟨by rw [hl]; exact h.l2, by rw [hl]; exact h.lf, by rw [hs]; exact h.s1, by rw [hs]; have := h.s2; omega, by rw [hs]; exact h.sf, by rw [hs]; exact h.st⟩
theorem fitS_mem {L : List Sm} (h : Smp.Fit L) {p : Sm} (hp : p ∈ L) : Smp.In64 p.1 ∧ Smp.In64 p.2 := fit_mem h hp
theorem DR.join {p q q' : Q} {k : Nat} {gap : Int} (h : DR p k) (hq : DQ q) (hl : q'.l = p.l) (hs : q'.s = dedT gap p.s q.s) : DR q' (k + 1) := by
  refine ⟨by rw [hl]; exact h.l2, by rw [hl]; exact h.lf, ?_, ?_, ?_, ?_⟩
  · rw [hs]; intro e; exact h.s1 (dedT_emp.1 e).1
  · rw [hs]; have h1 := Smp.dedT_len gap p.s q.s hq.sp; have := h.s2; have := hq.s2; omega
  · rw [hs]
    exact fit_of fun x hx => by
      rcases dedT_mem hq.sp hx with e | e
      · exact fit_mem h.sf e
      · exact fit_mem hq.sf e
  · rw [hs]
    intro x hx
    rcases dedT_mem hq.sp hx with e | e
    · exact h.st x e
    · exact hq.st x e
theorem DR.tml {q : Q} {k : Nat} (h : DR q k) (hk : k ≤ 500) : Tml q.s := ⟨by have := h.s2; omega, h.st⟩
theorem DR.fits {R : List Q} {k : Nat} (h : ∀ q ∈ R, DR q k) (hk : k ≤ 500) : FitQ R ∧ SmlQ R :=
  ⟨fitq_of fun q hq => by have := h q hq; exact ⟨this.lf, by have := this.l2; unfold maxLen; omega, this.sf, by have := this.s2; unfold maxLen; omega⟩, fun i hi => by have := h _ (get_mem' hi); exact ⟨by have := this.l2; omega, by have := this.s2; omega⟩⟩
theorem good_pairS {L : List Sm} (h : Smp.GoodP L) : L.Pairwise (fun x y => x.1 < y.1) := Smp.good_pw h
theorem dq_of {q : Q} (h : OkQ (pl q)) (hf : Fq q) : DQ q :=
  ⟨(good_goodP h.1.1).1, hf.1, h.2.2, (show Smp.GoodP q.s from of_decide_eq_true h.2.1).1, hf.2.2.1, Smp.good_mem (show Smp.GoodP q.s from of_decide_eq_true h.2.1), good_pairS (show Smp.GoodP q.s from of_decide_eq_true h.2.1)⟩
/-- Labels without one of them. -/
theorem sel_len (x : ByteArray) (l : List Lb) : (Lab.selL [x] false l).length ≤ l.length := List.length_filter_le _ _
theorem sel_fit {x : ByteArray} {l : List Lb} (h : Lab.Fit l) : Lab.Fit (Lab.selL [x] false l) := by
  intro i
  by_cases hi : i < (Lab.selL [x] false l).length
  · have e : (Lab.selL [x] false l).getD i Lab.e0 = (Lab.selL [x] false l)[i] := by simp [hi]
    rw [e]
    obtain ⟨j, hj, e2⟩ := List.getElem_of_mem (List.mem_filter.1 (show (Lab.selL [x] false l)[i] ∈ l.filter _ from List.getElem_mem hi)).1
    have := h j
    rw [show l.getD j Lab.e0 = (Lab.selL [x] false l)[i] by simp [hj, e2]] at this
    exact this
  · rw [show (Lab.selL [x] false l).getD i Lab.e0 = Lab.e0 by rw [List.getD_eq_getElem?_getD, List.getElem?_eq_none (by omega)]; rfl]
    simp [Lab.e0, maxLen]
theorem DQ.drop {q d : Q} (x : ByteArray) (h : DQ q) (hp : pl d = drp x (pl q)) : DQ d := by
  have hl : d.l = Lab.selL [x] false q.l := congrArg Prod.fst hp
  have hs : d.s = q.s := congrArg Prod.snd hp
  exact ⟨by rw [hl]; have := sel_len x q.l; have := h.l2; omega, by rw [hl]; exact sel_fit h.lf, by rw [hs]; exact h.s1, by rw [hs]; exact h.s2, by rw [hs]; exact h.sf, by rw [hs]; exact h.st, by rw [hs]; exact h.sp⟩
/-- A good answer has no series without labels. -/
theorem good_lab {R : List Q} (h : GoodQ R) : ∀ q ∈ R, q.l ≠ [] := fun _ hq => named_ne (okq_mem h hq).1
end Go.Proofs.Ytailoeloonnoeaa.Srs
