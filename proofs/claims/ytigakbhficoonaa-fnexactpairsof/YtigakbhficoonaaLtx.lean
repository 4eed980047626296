/- Lists of texts: szStringS, toStringS, eqStringS, l2Has, slices.Contains. -/
import Derived.Test.YtigakbhficoonaaMh
namespace Go.Proofs.Ytigakbhficoonaa.Lab
open Go.RowKit Go.Proofs.Ytigakbhficoonaa.Str

/-- The slice that begins at 'a' holds the texts 'ss' in the world 'w'. -/
def HasT (w : World) (a : Option Addr) (ss : List ByteArray) : Prop :=
  ss = [] ∨ ∃ b off, a = some ⟨b, off, none⟩ ∧ b < w.heap.size ∧ ∀ i, i < ss.length → w.cell? ⟨b, off + i, none⟩ = some (.string (ss.getD i ByteArray.empty))
theorem HasT.below {w w' : World} {a : Option Addr} {ss : List ByteArray} (h : HasT w a ss) (hb : Below w.heap.size w w') : HasT w' a ss := by
  rcases h with h | ⟨b, off, h1, h2, h3⟩
  · exact .inl h
  · exact .inr ⟨b, off, h1, Nat.lt_of_lt_of_le h2 hb.size, fun i hi => (hb.cell (by exact h2)).trans (h3 i hi)⟩
theorem HasT.own {w : World} {base g n c : Nat} {ss : List ByteArray} (h : w.ownsRow base 9 1 (.slice (some ⟨g, 0, none⟩) n c) n (ss.map Value.string)) : HasT w (some ⟨g, 0, none⟩) ss := by
  have hl := h.1
  rw [List.length_map, Nat.mul_one] at hl
  refine .inr ⟨g, 0, rfl, (h.lt g rfl).2, fun i hi => ?_⟩
  rw [Nat.zero_add, h.cellAt i (by omega)]
  simp [hi]
def FitT (ss : List ByteArray) : Prop := ∀ i, (ss.getD i ByteArray.empty).size ≤ maxLen
def hasB (ss : List ByteArray) (x : ByteArray) : Bool := decide (∃ i, i < ss.length ∧ ss.getD i ByteArray.empty = x)
theorem has_yes {ss : List ByteArray} {x : ByteArray} {i : Nat} (h : i < ss.length) (e : ss.getD i ByteArray.empty = x) : hasB ss x = true := decide_eq_true ⟨i, h, e⟩
theorem has_no {ss : List ByteArray} {x : ByteArray} (h : ∀ i, i < ss.length → ss.getD i ByteArray.empty ≠ x) : hasB ss x = false := decide_eq_false fun ⟨i, h1, h2⟩ => h i h1 h2

theorem info9 : (Try.prog.info? 9).map (fun i => (i.zero, i.size, i.bytes)) = some (some (.string ByteArray.empty), 1, 16) := by kernel_rfl
theorem stepT_set (ss : List ByteArray) (n k : Nat) (hn : ss.length = n) (hk : k < n) : (ss.take k ++ List.replicate (n - k) ByteArray.empty).set k (ss.getD k ByteArray.empty) = ss.take (k + 1) ++ List.replicate (n - (k + 1)) ByteArray.empty := by
  have hl : (ss.take k).length = k := by simp; omega
  rw [List.set_append_right _ _ (by omega), hl, Nat.sub_self, show n - k = (n - (k + 1)) + 1 from by omega, List.replicate_succ, List.set_cons_zero, List.take_succ_eq_append_getElem (by omega), List.append_assoc]
  congr 2
  simp [hn, hk]

end Go.Proofs.Ytigakbhficoonaa.Lab
