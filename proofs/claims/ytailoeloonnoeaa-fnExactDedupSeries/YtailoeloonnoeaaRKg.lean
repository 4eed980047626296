/- Series copied: the program's copySeries. -/
import Derived.Test.YtailoeloonnoeaaRKf
import Derived.Test.YtailoeloonnoeaaRGb
namespace Go.Proofs.Ytailoeloonnoeaa.Srs
open Go.RowKit
open Go.Proofs.Ytailoeloonnoeaa.Lab (Lb HasL)
open Go.Proofs.Ytailoeloonnoeaa.Smp (Sm HasS)

theorem q_cells {w : World} {b off : Nat} {L : List Q} (hr : HasQ w (some ⟨b, off, none⟩) L) : ∀ j u, (flat L)[j]? = some u → w.cell? ((⟨b, off, none⟩ : Addr).add j) = some u := by
  intro j u hj
  have hjl : j < L.length * 2 := by
    have := (List.getElem?_eq_some_iff.1 hj).1
    rw [flat_len] at this; exact this
  rcases hr with h | ⟨b', off', hbo, hb, hc⟩
  · rw [h] at hjl; simp at hjl
  · simp only [Option.some.injEq, Addr.mk.injEq, and_true] at hbo
    obtain ⟨rfl, rfl⟩ := hbo
    obtain ⟨i, hi⟩ : ∃ i, i = j / 2 := ⟨_, rfl⟩
    obtain ⟨g0, g1⟩ := flat_get L i (by omega)
    obtain ⟨c0, c1, _⟩ := hc i (by omega)
    rw [Smp.add_none]
    rcases (show j = i * 2 ∨ j = i * 2 + 1 by omega) with h | h
    · subst h
      rw [c0, ← g0]; exact hj
    · subst h
      rw [show off + (i * 2 + 1) = off + i * 2 + 1 from by omega, c1, ← g1]; exact hj
theorem own_formC {w : World} {base e size n : Nat} {v : Value} {xs : List Value} (h : w.ownsRow base e size v n xs) (hp : 0 < n) : ∃ g c, v = .slice (some ⟨g, 0, none⟩) n c := by
  rcases h.2 with ⟨_, h2⟩ | ⟨g, cap, cur, h1, _⟩
  · omega
  · exact ⟨g, cap, h1⟩
theorem q_one (L : List Q) : ∀ u ∈ flat L, u.oneCell' = true := by
  intro u hu
  unfold flat at hu
  obtain ⟨q, _, hq⟩ := List.mem_flatMap.1 hu
  simp [cl] at hq
  rcases hq with rfl | rfl <;> rfl
/-- The first k are copied, one behind the other. -/
structure KinS (X g k : Nat) (d : List Q) (w : World) : Prop where
  len : d.length = k
  own : ∀ i, i < k → Own2 X (d.getD i q0) w
  off : ∀ i, i < k → g < blk (d.getD i q0).a
  lt : ∀ i, i < k → blk (d.getD i q0).a < blk (d.getD i q0).b
  dis : ∀ i j, i < j → j < k → blk (d.getD i q0).b < blk (d.getD j q0).a
theorem KinS.nil {X g : Nat} {w : World} : KinS X g 0 [] w := ⟨rfl, fun i hi => by omega, fun i hi => by omega, fun i hi => by omega, fun i j h1 h2 => by omega⟩
theorem KinS.below {X g k : Nat} {d : List Q} {w w' : World} (h : KinS X g k d w) (hb : Below w.heap.size w w') : KinS X g k d w' := ⟨h.len, fun i hi => (h.own i hi).below hb, h.off, h.lt, h.dis⟩
theorem KinS.grown {X g k : Nat} {d : List Q} {w w' : World} (h : KinS X g k d w) (hg : w.grownBy w' (some g)) : KinS X g k d w' := ⟨h.len, fun i hi => (h.own i hi).grown hg (by have := h.off i hi; omega) (by have := h.off i hi; have := h.lt i hi; omega), h.off, h.lt, h.dis⟩
theorem KinS.snoc {X g k : Nat} {d : List Q} {w : World} {q : Q} (h : KinS X g k d w) (h1 : Own2 X q w) (h2 : g < blk q.a) (h3 : blk q.a < blk q.b) (h4 : ∀ i, i < k → blk (d.getD i q0).b < blk q.a) : KinS X g (k + 1) (d ++ [q]) w := by
  have hl := h.len
  refine ⟨by simp [hl], fun i hi => ?_, fun i hi => ?_, fun i hi => ?_, fun i j hij hj => ?_⟩
  · rw [getD_snoc]
    by_cases e : i = d.length
    · rw [if_pos e]; exact h1
    · rw [if_neg e]; exact h.own i (by omega)
  · rw [getD_snoc]
    by_cases e : i = d.length
    · rw [if_pos e]; exact h2
    · rw [if_neg e]; exact h.off i (by omega)
  · rw [getD_snoc]
    by_cases e : i = d.length
    · rw [if_pos e]; exact h3
    · rw [if_neg e]; exact h.lt i (by omega)
  · rw [getD_snoc, getD_snoc, if_neg (show ¬ i = d.length by omega)]
    by_cases e : j = d.length
    · rw [if_pos e]; exact h4 i (by omega)
    · rw [if_neg e]; exact h.dis i j hij (by omega)
theorem KinS.apart {X g k : Nat} {d : List Q} {w : World} (h : KinS X g k d w) : Apart g k (fun i => d.getD i q0) := by
  refine ⟨fun i hi => ⟨by have := h.off i hi; omega, by have := h.off i hi; have := h.lt i hi; omega⟩, fun i j hi hj hne => ?_⟩
  have a1 := h.lt i hi
  have a2 := h.lt j hj
  rcases Nat.lt_or_gt_of_ne hne with e | e
  · have := h.dis i j e hj; refine ⟨?_, ?_, ?_, ?_⟩ <;> omega
  · have := h.dis j i e hi; refine ⟨?_, ?_, ?_, ?_⟩ <;> omega
theorem mix_get {d qs : List Q} {k j : Nat} (hd : d.length = k) (hj : k ≤ j) : (d ++ qs.drop k).getD j q0 = qs.getD j q0 := by
  rw [List.getD_eq_getElem?_getD, List.getD_eq_getElem?_getD, List.getElem?_append_right (by omega), List.getElem?_drop, show k + (j - d.length) = j by omega]
theorem mix_set {d qs : List Q} {k : Nat} {q : Q} (hd : d.length = k) (hk : k < qs.length) : (d ++ qs.drop k).set k q = (d ++ [q]) ++ qs.drop (k + 1) := by
  rw [List.set_append_right _ _ (by omega), hd, Nat.sub_self, List.drop_eq_getElem_cons hk, List.set_cons_zero, List.append_assoc]
  rfl
/-- A series in its box. -/
abbrev SQ (q : Q) (B : Nat) (x : World) : Prop := x.cell? ⟨B, 0, none⟩ = some (.slice q.a q.l.length q.c) ∧ x.cell? ⟨B, 1, none⟩ = some (.slice q.b q.s.length q.d)
end Go.Proofs.Ytailoeloonnoeaa.Srs
