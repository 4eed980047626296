/- slices.Grow and slices.Concat at series. -/
import Derived.Test.YtailoeloonnoeaaRGb
import Derived.Lib.MinMax
import Derived.Maps.AppendAt
import Derived.Lib.AppendZeros
namespace Go.Proofs.Ytailoeloonnoeaa.Srs
open Go.RowKit
open Go.Proofs.Ytailoeloonnoeaa.Lab (Lb HasL cmpList)
open Go.Proofs.Ytailoeloonnoeaa.Smp (In64 own_form)

theorem infoQ'' : (Try.prog.info? 40).map (fun i => (i.zero, i.size, i.bytes)) = some (some (.agg #[.slice none 0 0, .slice none 0 0]), 2, 48) := by kernel_rfl
/-- The cells of a list of series lie there, or it is empty. -/
def Src (w : World) (v : Value) (L : List Q) : Prop := (v = .slice none 0 0 ∧ L = []) ∨ ∃ (ad : Addr) (c : Nat), v = .slice (some ad) L.length c ∧ ∀ j u, (flat L)[j]? = some u → w.cell? (ad.add j) = some u
theorem cell_lt {w : World} {p : Addr} {u : Value} (h : w.cell? p = some u) : p.block < w.heap.size := by
  unfold World.cell? at h
  by_cases e : p.block < w.heap.size
  · exact e
  · rw [Array.getElem?_eq_none (by omega)] at h; simp at h
theorem Src.below {w w' : World} {v : Value} {L : List Q} (h : Src w v L) (hb : Below w.heap.size w w') : Src w' v L := by
  rcases h with h | ⟨ad, c, h1, h2⟩
  · exact .inl h
  · exact .inr ⟨ad, c, h1, fun j u hj => by have := h2 j u hj; rw [hb.cell (cell_lt this)]; exact this⟩
theorem flatQ_cells {w : World} {b off : Nat} {L : List Q} (hr : HasQ w (some ⟨b, off, none⟩) L) : ∀ j u, (flat L)[j]? = some u → w.cell? ((⟨b, off, none⟩ : Addr).add j) = some u := by
  intro j u hj
  have hjl : j < L.length * 2 := by
    have := (List.getElem?_eq_some_iff.1 hj).1
    rw [flat_len] at this; exact this
  have hi : j / 2 < L.length := by omega
  obtain ⟨b', off', e, _, c0, c1, _⟩ := hr.at2 (j / 2) hi
  obtain ⟨g0, g1⟩ := flat_get L (j / 2) hi
  cases e
  rw [Smp.add_none]
  rcases (show j % 2 = 0 ∨ j % 2 = 1 by omega) with h | h
  · rw [show j = j / 2 * 2 by omega, g0] at hj
    cases hj
    rw [show off + j = off + j / 2 * 2 by omega]; exact c0
  · rw [show j = j / 2 * 2 + 1 by omega, g1] at hj
    cases hj
    rw [show off + j = off + j / 2 * 2 + 1 by omega]; exact c1
theorem flatQ_oneCell (L : List Q) : ∀ u ∈ flat L, u.oneCell' = true := by
  intro u hu
  unfold flat at hu
  obtain ⟨p, _, hp⟩ := List.mem_flatMap.1 hu
  simp only [cl, List.mem_cons, List.not_mem_nil, or_false] at hp
  rcases hp with rfl | rfl <;> rfl
theorem Src.of {w : World} {a : Option Addr} {c : Nat} {L : List Q} (h : HasQ w a L) (hc : a = none → c = 0) : Src w (.slice a L.length c) L := by
  cases a with
  | none =>
    rcases h with h | ⟨b, off, h1, _⟩
    · exact .inl ⟨by rw [h, hc rfl]; rfl, h⟩
    · cases h1
  | some ad =>
    rcases h with h | ⟨b, off, h1, h2, h3⟩
    · refine .inr ⟨ad, c, rfl, fun j u hj => ?_⟩
      rw [h] at hj; simp [flat] at hj
    · cases h1
      exact .inr ⟨_, c, rfl, flatQ_cells (.inr ⟨b, off, rfl, h2, h3⟩)⟩

/-- Lists of series, one behind the other. -/
abbrev Pc := Value × List Q
def pz : Pc := (.slice none 0 0, [])
def joined (Ls : List Pc) (k : Nat) : List Q := (Ls.take k).flatMap fun p => p.2
theorem joined_succ {Ls : List Pc} {k : Nat} (hk : k < Ls.length) : joined Ls (k + 1) = joined Ls k ++ (Ls.getD k pz).2 := by
  unfold joined
  rw [List.take_succ_eq_append_getElem hk, List.flatMap_append]
  simp [hk]
theorem joined_le {Ls : List Pc} : ∀ {j k : Nat}, j ≤ k → k ≤ Ls.length → (joined Ls j).length ≤ (joined Ls k).length := by
  intro j k
  induction k with
  | zero => intro h _; rw [show j = 0 by omega]; exact Nat.le_refl _
  | succ k ih =>
    intro h hk
    by_cases e : j = k + 1
    · rw [e]; exact Nat.le_refl _
    · have := ih (by omega) (by omega)
      rw [joined_succ (by omega), List.length_append]
      omega
def Pcs (w : World) (b : Nat) (Ls : List Pc) : Prop := ∀ i, i < Ls.length → w.cell? ⟨b, i, none⟩ = some (Ls.getD i pz).1 ∧ Src w (Ls.getD i pz).1 (Ls.getD i pz).2
theorem Pcs.below {w w' : World} {b : Nat} {Ls : List Pc} (h : Pcs w b Ls) (hb : Below w.heap.size w w') : Pcs w' b Ls := fun i hi => by
  obtain ⟨h1, h2⟩ := h i hi
  exact ⟨by rw [hb.cell (cell_lt h1)]; exact h1, h2.below hb⟩
end Go.Proofs.Ytailoeloonnoeaa.Srs
