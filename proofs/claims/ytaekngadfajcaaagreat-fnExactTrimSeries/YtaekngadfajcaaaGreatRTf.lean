/- Both CutSamples. -/
import Derived.Test.YtaekngadfajcaaaGreatRTe
namespace Go.Proofs.YtaekngadfajcaaaGreat.Smp
open Go.RowKit

theorem two0 {w : World} {b t : Nat} {x y : Value} {q : Nat × Nat} (h : w.heap[b]? = some (.cells #[x, y] t q)) : w.cell? ⟨b, 0, none⟩ = some x := by
  unfold World.cell?; simp only [h]; rfl
theorem two1 {w : World} {b t : Nat} {x y : Value} {q : Nat × Nat} (h : w.heap[b]? = some (.cells #[x, y] t q)) : w.cell? ⟨b, 1, none⟩ = some y := by
  unfold World.cell?; simp only [h]; rfl
theorem two_new (w : World) (x y : Value) (t : TypeId) : ∀ j u, [x, y][j]? = some u → (w.alloc (.cells #[x, y] t)).cell? ((⟨w.heap.size, 0, none⟩ : Addr).add j) = some u := by
  intro j u hj
  have h := heap_alloc_new w (.cells #[x, y] t)
  match j, hj with
  | 0, hj =>
    simp at hj; subst hj
    have : (⟨w.heap.size, 0, none⟩ : Addr).add 0 = ⟨w.heap.size, 0, none⟩ := by simp [Addr.add]
    rw [this]; exact two0 h
  | 1, hj =>
    simp at hj; subst hj
    have : (⟨w.heap.size, 0, none⟩ : Addr).add 1 = ⟨w.heap.size, 1, none⟩ := by simp [Addr.add]
    rw [this]; exact two1 h
  | j + 2, hj => simp at hj
theorem own_form {w : World} {base e size n : Nat} {v : Value} {xs : List Value} (h : w.ownsRow base e size v n xs) : ∃ a c, v = .slice a n c := by
  rcases h.2 with ⟨h1, h2⟩ | ⟨g, cap, cur, h1, _⟩
  · subst h2; exact ⟨none, 0, h1⟩
  · exact ⟨_, _, h1⟩
/-- The value is a row of the call's own with these samples. -/
def Own (w : World) (base : Nat) (v : Value) (L : List Sm) : Prop := w.ownsRow base 78 2 v L.length (flat L)
theorem Own.nil (w : World) (base : Nat) : Own w base (.slice none 0 0) [] := World.ownsRow_nil w base 78 2
theorem Own.below {w w' : World} {base : Nat} {v : Value} {L : List Sm} (h : Own w base v L) (hb : Below w.heap.size w w') : Own w' base v L := own_below h hb
theorem flat_one (p : Sm) : flat [p] = [.int .i64 p.1, .int .i64 p.2] := rfl

theorem cut_yes {ls : List Sm} {x y : Int} {k : Nat} (hk : k < ls.length) (h1 : x ≤ (ls.getD k e0).1) (h2 : (ls.getD k e0).1 ≤ y) : cut (ls.take (k + 1)) x y = cut (ls.take k) x y ++ [ls.getD k e0] := by
  have e : ls.getD k e0 = ls[k] := by simp [hk]
  rw [e] at h1 h2 ⊢
  unfold cut
  rw [List.take_succ_eq_append_getElem hk, List.filter_append]
  simp [h1, h2]
theorem cut_no {ls : List Sm} {x y : Int} {k : Nat} (hk : k < ls.length) (h : ¬ (x ≤ (ls.getD k e0).1 ∧ (ls.getD k e0).1 ≤ y)) : cut (ls.take (k + 1)) x y = cut (ls.take k) x y := by
  have e : ls.getD k e0 = ls[k] := by simp [hk]
  rw [e] at h
  unfold cut
  rw [List.take_succ_eq_append_getElem hk, List.filter_append]
  simp
  omega
theorem cut_len (ls : List Sm) (x y : Int) : (cut ls x y).length ≤ ls.length := List.length_filter_le _ _
theorem cut_take_len (ls : List Sm) (x y : Int) (k : Nat) : (cut (ls.take k) x y).length ≤ k := Nat.le_trans (cut_len _ _ _) (by simp; omega)
theorem cut_all {ls : List Sm} {x y : Int} {k : Nat} (hk : ls.length ≤ k) : cut (ls.take k) x y = cut ls x y := by rw [List.take_of_length_le hk]

/-- What CutSamples gives. -/
def cutA (ls : List Sm) (x y : Int) : List Sm := if GoodP ls then cut ls x y else []

theorem flat_cells {w : World} {b off : Nat} {L : List Sm} (hr : HasS w (some ⟨b, off, none⟩) L) : ∀ j u, (flat L)[j]? = some u → w.cell? ((⟨b, off, none⟩ : Addr).add j) = some u := by
  intro j u hj
  have hjl : j < L.length * 2 := by
    have := (List.getElem?_eq_some_iff.1 hj).1
    rw [flat_len] at this; exact this
  rcases hr with h | ⟨b', off', hbo, hb, hc⟩
  · rw [h] at hjl; simp at hjl
  · simp only [Option.some.injEq, Addr.mk.injEq, and_true] at hbo
    obtain ⟨rfl, rfl⟩ := hbo
    obtain ⟨i, hi⟩ : ∃ i, i = j / 2 := ⟨_, rfl⟩
    obtain ⟨g0, g1⟩ := flat_get L i (by omega)
    obtain ⟨c0, c1⟩ := hc i (by omega)
    rw [add_none]
    rcases (show j = i * 2 ∨ j = i * 2 + 1 by omega) with h | h
    · subst h
      rw [c0, ← g0]; exact hj
    · subst h
      rw [show off + (i * 2 + 1) = off + i * 2 + 1 from by omega, c1, ← g1]; exact hj
theorem flat_oneCell (L : List Sm) : ∀ u ∈ flat L, u.oneCell' = true := by
  intro u hu
  unfold flat at hu
  simp only [List.mem_flatMap] at hu
  obtain ⟨p, _, hu⟩ := hu
  simp at hu
  rcases hu with rfl | rfl <;> rfl
theorem eqNil (w : World) (a : Option Addr) (l c : Nat) : (binOp .eql 51 (.slice a l c) (.slice none 0 0)).run Tryz.prog w = .ok (.bool a.isNone) w := Go.run_eql_slice_nil w _ _ a l c Tryz.underlying51

end Go.Proofs.YtaekngadfajcaaaGreat.Smp
