/- Lists of series that are being put together: one put anew at its place, one put in. -/
import Derived.Test.YtailoeloonnoeaaRMse
namespace Go.Proofs.Ytailoeloonnoeaa.Srs
open Go.RowKit
open Go.Proofs.Ytailoeloonnoeaa.Lab (Lb HasL)
open Go.Proofs.Ytailoeloonnoeaa.Smp (Sm HasS)

/-- Two series have no row in common. -/
def Dsj (p q : Q) : Prop := blk p.a ≠ blk q.a ∧ blk p.a ≠ blk q.b ∧ blk p.b ≠ blk q.a ∧ blk p.b ≠ blk q.b
theorem Dsj.symm {p q : Q} (h : Dsj p q) : Dsj q p := ⟨h.1.symm, h.2.2.1.symm, h.2.1.symm, h.2.2.2.symm⟩
/-- All series of a list are the call's own, none has a row in common with another or with the list's. -/
structure Kin (X : Nat) (a : Option Addr) (qs : List Q) (w : World) : Prop where
  own : ∀ q ∈ qs, Own2 X q w
  nea : ∀ g, a = some ⟨g, 0, none⟩ → ∀ q ∈ qs, blk q.a ≠ g ∧ blk q.b ≠ g
  dis : qs.Pairwise Dsj
theorem OwnO.kin {X n c : Nat} {a : Option Addr} {qs : List Q} {w : World} (h : OwnO X a n c qs w) : Kin X a qs w := by
  have hl := h.len
  have hg : ∀ i, (hi : i < qs.length) → qs.getD i q0 = qs[i] := fun i hi => by simp [hi]
  refine ⟨fun q hq => ?_, fun g hgg q hq => ?_, List.pairwise_iff_getElem.2 fun i j hi hj hij => ?_⟩
  · obtain ⟨i, hi, rfl⟩ := List.getElem_of_mem hq
    have := h.own i (by omega)
    rw [hg i hi] at this; exact this
  · obtain ⟨i, hi, rfl⟩ := List.getElem_of_mem hq
    have := h.nea g hgg i (by omega)
    rw [hg i hi] at this; exact this
  · have := h.dis i j (by omega) (by omega) (by omega)
    rw [hg i hi, hg j hj] at this; exact this
theorem Kin.ownO {X n c : Nat} {a : Option Addr} {qs : List Q} {w : World} (h : Kin X a qs w) (hn : qs.length = n) (hr : w.ownsRow X 40 2 (.slice a n c) n (flat qs)) : OwnO X a n c qs w := by
  have hg : ∀ i, (hi : i < qs.length) → qs.getD i q0 = qs[i] := fun i hi => by simp [hi]
  refine ⟨hn, hr, fun i hi => ?_, fun g hgg i hi => ?_, fun i j hi hj hij => ?_⟩
  · rw [hg i (by omega)]; exact h.own _ (List.getElem_mem _)
  · rw [hg i (by omega)]; exact h.nea g hgg _ (List.getElem_mem _)
  · rw [hg i (by omega), hg j (by omega)]
    rcases Nat.lt_or_gt_of_ne hij with e | e
    · exact List.pairwise_iff_getElem.1 h.dis i j (by omega) (by omega) e
    · exact (List.pairwise_iff_getElem.1 h.dis j i (by omega) (by omega) e).symm
theorem Kin.perm {X : Nat} {a : Option Addr} {L K : List Q} {w : World} (h : Kin X a L w) (hp : L.Perm K) : Kin X a K w :=
  ⟨fun q hq => h.own q (hp.mem_iff.2 hq), fun g hg q hq => h.nea g hg q (hp.mem_iff.2 hq), (hp.pairwise_iff (fun h => Dsj.symm h)).1 h.dis⟩
theorem Kin.cons {X : Nat} {a : Option Addr} {L : List Q} {q : Q} {w : World} (h : Kin X a L w) (h1 : Own2 X q w) (h2 : ∀ g, a = some ⟨g, 0, none⟩ → blk q.a ≠ g ∧ blk q.b ≠ g) (h3 : ∀ p ∈ L, Dsj q p) : Kin X a (q :: L) w := by
  refine ⟨fun p hp => ?_, fun g hg p hp => ?_, List.pairwise_cons.2 ⟨h3, h.dis⟩⟩
  · rcases List.mem_cons.1 hp with e | e
    · rw [e]; exact h1
    · exact h.own p e
  · rcases List.mem_cons.1 hp with e | e
    · rw [e]; exact h2 g hg
    · exact h.nea g hg p e
theorem Kin.tail {X : Nat} {a : Option Addr} {L : List Q} {q : Q} {w : World} (h : Kin X a (q :: L) w) : Kin X a L w := ⟨fun p hp => h.own p (by simp [hp]), fun g hg p hp => h.nea g hg p (by simp [hp]), (List.pairwise_cons.1 h.dis).2⟩
theorem Kin.below {X : Nat} {a : Option Addr} {L : List Q} {w w' : World} (h : Kin X a L w) (hb : Below w.heap.size w w') : Kin X a L w' := ⟨fun p hp => (h.own p hp).below hb, h.nea, h.dis⟩
/-- The list's row lies elsewhere now, or is written. -/
theorem Kin.moved {X : Nat} {a a' : Option Addr} {L : List Q} {w w' : World} {r : Option Nat} (h : Kin X a L w) (hg : w.grownBy w' r) (hr : ∀ g, r = some g → a = some ⟨g, 0, none⟩) (ha : ∀ g, a' = some ⟨g, 0, none⟩ → a = some ⟨g, 0, none⟩ ∨ w.heap.size ≤ g) : Kin X a' L w' := by
  refine ⟨fun p hp => ?_, fun g hg' p hp => ?_, h.dis⟩
  · refine (h.own p hp).kept hg (fun e => ?_) (fun e => ?_)
    · exact (h.nea _ (hr _ e.symm) p hp).1 rfl
    · exact (h.nea _ (hr _ e.symm) p hp).2 rfl
  · rcases ha g hg' with e | e
    · exact h.nea g e p hp
    · have := (h.own p hp).hi; constructor <;> omega
theorem perm_mid (A B : List Q) (q : Q) : (q :: (A ++ B)).Perm (A ++ q :: B) := List.perm_middle.symm
theorem flat_mid (A B : List Q) (q : Q) : flat (A ++ q :: B) = flat A ++ ([.slice q.a q.l.length q.c, .slice q.b q.s.length q.d] ++ flat B) := by rw [flat_append, flat_cons]; rfl
/-- One of a list has its samples put anew. -/
theorem OwnO.setAt {X g m c gb d' : Nat} {A B : List Q} {q : Q} {s' : List Sm} {w W : World} (h : OwnO X (some ⟨g, 0, none⟩) m c (A ++ q :: B) w) (hb : Below w.heap.size w W) (hX : X ≤ w.heap.size) (hs : W.ownsRow w.heap.size 53 2 (.slice (some ⟨gb, 0, none⟩) s'.length d') s'.length (Smp.flat s')) :
    OwnO X (some ⟨g, 0, none⟩) m c (A ++ ⟨q.l, q.a, q.c, s', some ⟨gb, 0, none⟩, d'⟩ :: B) (W.setCell ⟨g, A.length * 2 + 1, none⟩ (.slice (some ⟨gb, 0, none⟩) s'.length d')) := by
  have hst := (own_below h.row hb).stored (A.length * 2 + 1) (.slice (some ⟨gb, 0, none⟩) s'.length d')
  have hg : g < w.heap.size := (h.row.lt g rfl).2
  have hgb : w.heap.size ≤ gb := (hs.lt gb rfl).1
  have hk := h.kin.perm (perm_mid A B q).symm
  have hq := hk.own q (by simp)
  have hqn := hk.nea g rfl q (by simp)
  have hqa := hq.hi
  have hq' : Own2 X ⟨q.l, q.a, q.c, s', some ⟨gb, 0, none⟩, d'⟩ W := ⟨hq.ha, rfl, own_below hq.lab hb, own_base hs hX, by show blk q.a ≠ gb; omega⟩
  have hk2 : Kin X (some ⟨g, 0, none⟩) (⟨q.l, q.a, q.c, s', some ⟨gb, 0, none⟩, d'⟩ :: (A ++ B)) W := by
    refine (hk.tail.below hb).cons hq' (fun g' hg' => by cases hg'; exact ⟨hqn.1, by show gb ≠ g; omega⟩) (fun p hp => ?_)
    have h1 := (List.pairwise_cons.1 hk.dis).1 p hp
    have h2 := (hk.tail.own p hp).hi
    exact ⟨h1.1, h1.2.1, by show gb ≠ _; omega, by show gb ≠ _; omega⟩
  have hk3 := (hk2.moved (a' := some ⟨g, 0, none⟩) hst.2 (fun g' e => by cases e; rfl) (fun g' e => .inl e)).perm (perm_mid A B _)
  refine hk3.ownO (by have := h.len; simp at this ⊢; exact this) ?_
  have e : (flat (A ++ q :: B)).set (A.length * 2 + 1) (.slice (some ⟨gb, 0, none⟩) s'.length d') = flat (A ++ ⟨q.l, q.a, q.c, s', some ⟨gb, 0, none⟩, d'⟩ :: B) := by
    rw [flat_mid, flat_mid, List.set_append_right _ _ (by rw [flat_len]; omega), flat_len, show A.length * 2 + 1 - A.length * 2 = 1 by omega]
    rfl
  rw [← e]
  exact hst.1
end Go.Proofs.Ytailoeloonnoeaa.Srs
