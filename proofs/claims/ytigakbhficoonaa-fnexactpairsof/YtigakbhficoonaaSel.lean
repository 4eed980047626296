/- Labels chosen by their names: l2Some, labelsAmong. -/
import Derived.Test.YtigakbhficoonaaLtx
namespace Go.Proofs.Ytigakbhficoonaa.Lab
open Go.RowKit Go.Proofs.Ytigakbhficoonaa.Str

def selL (ss : List ByteArray) (b : Bool) (l : List Lb) : List Lb := l.filter fun p => hasB ss p.1 == b
theorem flat_append (A B : List Lb) : flat (A ++ B) = flat A ++ flat B := by simp [flat]
theorem sel_yes {ls : List Lb} {ss : List ByteArray} {b : Bool} {k : Nat} (hk : k < ls.length) (h : (hasB ss (ls.getD k e0).1 == b) = true) : flat (selL ss b (ls.take (k + 1))) = flat (selL ss b (ls.take k)) ++ [.string (ls.getD k e0).1, .string (ls.getD k e0).2] := by
  have e : ls.getD k e0 = ls[k] := by simp [hk]
  rw [e] at h ⊢
  unfold selL
  rw [List.take_succ_eq_append_getElem hk, List.filter_append, flat_append]
  simp [h, flat]
theorem sel_no {ls : List Lb} {ss : List ByteArray} {b : Bool} {k : Nat} (hk : k < ls.length) (h : (hasB ss (ls.getD k e0).1 == b) = false) : flat (selL ss b (ls.take (k + 1))) = flat (selL ss b (ls.take k)) := by
  have e : ls.getD k e0 = ls[k] := by simp [hk]
  rw [e] at h
  unfold selL
  rw [List.take_succ_eq_append_getElem hk, List.filter_append]
  simp [h]
theorem sel_all {ls : List Lb} {ss : List ByteArray} {b : Bool} {k : Nat} (hk : ls.length ≤ k) : selL ss b (ls.take k) = selL ss b ls := by rw [List.take_of_length_le hk]
theorem two_new (w : World) (x y : Value) (t : TypeId) : ∀ j u, [x, y][j]? = some u → (w.alloc (.cells #[x, y] t)).cell? ((⟨w.heap.size, 0, none⟩ : Addr).add j) = some u := by
  intro j u hj
  have h := heap_alloc_new w (.cells #[x, y] t)
  match j, hj with
  | 0, hj =>
    simp at hj; subst hj
    have : (⟨w.heap.size, 0, none⟩ : Addr).add 0 = ⟨w.heap.size, 0, none⟩ := by simp [Addr.add]
    rw [this]; exact two0 h
  | 1, hj =>
    simp at hj; subst hj
    have : (⟨w.heap.size, 0, none⟩ : Addr).add 1 = ⟨w.heap.size, 1, none⟩ := by simp [Addr.add]
    rw [this]; exact two1 h
  | j + 2, hj => simp at hj
theorem own_form {w : World} {base e size n : Nat} {v : Value} {xs : List Value} (h : w.ownsRow base e size v n xs) : ∃ a c, v = .slice a n c := by
  rcases h.2 with ⟨h1, h2⟩ | ⟨g, cap, cur, h1, _⟩
  · subst h2; exact ⟨none, 0, h1⟩
  · exact ⟨_, _, h1⟩

end Go.Proofs.Ytigakbhficoonaa.Lab
