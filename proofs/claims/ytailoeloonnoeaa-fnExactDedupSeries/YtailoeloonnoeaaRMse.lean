/- Lists of series that are being joined: the last one's samples put anew. -/
import Derived.Test.YtailoeloonnoeaaRMsd
import Derived.Test.YtailoeloonnoeaaRTk
namespace Go.Proofs.Ytailoeloonnoeaa.Srs
open Go.RowKit
open Go.Proofs.Ytailoeloonnoeaa.Lab (Lb HasL)
open Go.Proofs.Ytailoeloonnoeaa.Smp (Sm HasS)

theorem Own2.base {X Y : Nat} {q : Q} {w : World} (h : Own2 X q w) (hy : Y ≤ X) : Own2 Y q w := ⟨h.ha, h.hb, own_base h.lab hy, own_base h.smp hy, h.ne⟩
theorem OwnO.base {X Y n c : Nat} {a : Option Addr} {qs : List Q} {w : World} (h : OwnO X a n c qs w) (hy : Y ≤ X) : OwnO Y a n c qs w := ⟨h.len, own_base h.row hy, fun i hi => (h.own i hi).base hy, h.nea, h.dis⟩
theorem flat_last (R : List Q) (q q' : Q) (h : q'.a = q.a ∧ q'.l = q.l ∧ q'.c = q.c) : (flat (R ++ [q])).set (R.length * 2 + 1) (.slice q'.b q'.s.length q'.d) = flat (R ++ [q']) := by
  rw [flat_append, flat_append, List.set_append_right _ _ (by rw [flat_len]; omega), flat_len, show R.length * 2 + 1 - R.length * 2 = 1 by omega]
  obtain ⟨h1, h2, h3⟩ := h
  show flat R ++ List.set [Value.slice q.a q.l.length q.c, Value.slice q.b q.s.length q.d] 1 _ = flat R ++ [Value.slice q'.a q'.l.length q'.c, Value.slice q'.b q'.s.length q'.d]
  rw [h1, h2, h3]
  rfl
theorem OwnO.setLast {X g m c gb d' : Nat} {R : List Q} {q : Q} {s' : List Sm} {w W : World} (h : OwnO X (some ⟨g, 0, none⟩) (m + 1) c (R ++ [q]) w) (hb : Below w.heap.size w W) (hX : X ≤ w.heap.size) (hs : W.ownsRow w.heap.size 53 2 (.slice (some ⟨gb, 0, none⟩) s'.length d') s'.length (Smp.flat s')) :
    OwnO X (some ⟨g, 0, none⟩) (m + 1) c (R ++ [⟨q.l, q.a, q.c, s', some ⟨gb, 0, none⟩, d'⟩]) (W.setCell ⟨g, m * 2 + 1, none⟩ (.slice (some ⟨gb, 0, none⟩) s'.length d')) := by
  have hl : R.length = m := by have := h.len; simp at this; omega
  have hR := own_below h.row hb
  have hst := hR.stored (m * 2 + 1) (.slice (some ⟨gb, 0, none⟩) s'.length d')
  have hg : g < w.heap.size := (h.row.lt g rfl).2
  have hgb : w.heap.size ≤ gb := (hs.lt gb rfl).1
  have hget : ∀ (p : Q) i, (R ++ [p]).getD i q0 = if i = m then p else R.getD i q0 := fun p i => by rw [getD_snoc, hl]
  have hold : ∀ i, i < m → Own2 X (R.getD i q0) w ∧ blk (R.getD i q0).a ≠ g ∧ blk (R.getD i q0).b ≠ g := fun i hi => by
    have h1 := h.own i (by omega)
    have h2 := h.nea g rfl i (by omega)
    rw [hget, if_neg (by omega)] at h1 h2
    exact ⟨h1, h2⟩
  have hq := h.own m (by omega)
  have hqn := h.nea g rfl m (by omega)
  rw [hget, if_pos rfl] at hq hqn
  have hqa : blk q.a < w.heap.size := hq.hi.1
  refine ⟨by simp [hl], ?_, fun i hi => ?_, fun g' hg' i hi => ?_, fun i j hi hj hij => ?_⟩
  · have := hst.1
    rw [← hl, flat_last R q ⟨q.l, q.a, q.c, s', some ⟨gb, 0, none⟩, d'⟩ ⟨rfl, rfl, rfl⟩, hl] at this
    exact this
  · rw [hget]
    by_cases e : i = m
    · rw [if_pos e]
      have : Own2 X ⟨q.l, q.a, q.c, s', some ⟨gb, 0, none⟩, d'⟩ W := ⟨hq.ha, rfl, own_below hq.lab hb, own_base hs hX, by show blk q.a ≠ gb; omega⟩
      exact this.grown hst.2 hqn.1 (by show gb ≠ g; omega)
    · rw [if_neg e]
      obtain ⟨h1, h2, h3⟩ := hold i (by omega)
      exact (h1.below hb).grown hst.2 h2 h3
  · cases hg'
    rw [hget]
    by_cases e : i = m
    · rw [if_pos e]; exact ⟨hqn.1, by show gb ≠ g; omega⟩
    · rw [if_neg e]; exact (hold i (by omega)).2
  · have hd := h.dis i j hi hj hij
    rw [hget, hget] at hd ⊢
    by_cases e : i = m
    · have ej : ¬ j = m := by omega
      rw [if_pos e, if_neg ej] at hd ⊢
      have hj' := (hold j (by omega)).1.hi
      exact ⟨hd.1, hd.2.1, by show gb ≠ _; omega, by show gb ≠ _; omega⟩
    · by_cases ej : j = m
      · rw [if_neg e, if_pos ej] at hd ⊢
        have hi' := (hold i (by omega)).1.hi
        exact ⟨hd.1, by show _ ≠ gb; omega, hd.2.2.1, by show _ ≠ gb; omega⟩
      · rw [if_neg e, if_neg ej] at hd ⊢
        exact hd
end Go.Proofs.Ytailoeloonnoeaa.Srs
