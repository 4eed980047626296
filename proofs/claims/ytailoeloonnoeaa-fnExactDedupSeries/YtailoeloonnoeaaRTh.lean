/- Both SampleAt, and the walk. -/
import Derived.Test.YtailoeloonnoeaaRTg
namespace Go.Proofs.Ytailoeloonnoeaa.Smp
open Go.RowKit

theorem twof {w : World} {b o : Nat} {u v : Value} {t : TypeId} {q : Nat × Nat} (h : w.heap[b]? = some (.cells #[u, v] t q)) (hq : q = (0, 0)) : w.frozen? ⟨b, o, none⟩ = false := by subst hq; simp [World.frozen?, h]
theorem box_below {w w' : World} {b : Nat} {o : Obj} (h : w.heap[b]? = some o) (hb : Below w.heap.size w w') : w'.heap[b]? = some o := by
  have : b < w.heap.size := (Array.getElem?_eq_some_iff.1 h).1
  rw [hb.block b this]; exact h

theorem good_pw {ls : List Sm} (h : GoodP ls) : ls.Pairwise (fun p q => p.1 < q.1) := by
  rw [List.pairwise_iff_getElem]
  intro i j hi hj hij
  have := rise_lt h hij hj
  simpa [List.getD_eq_getElem?_getD, hi, hj] using this
theorem good_mem {ls : List Sm} (h : GoodP ls) : ∀ p ∈ ls, TimeP p.1 := by
  intro p hp
  obtain ⟨i, hi, rfl⟩ := List.mem_iff_getElem.1 hp
  have := (h.2 i hi).1
  simpa [List.getD_eq_getElem?_getD, hi] using this
def lastS (L : List Sm) : Sm := L.getD (L.length - 1) e0
theorem lastS_append (L : List Sm) (p : Sm) : lastS (L ++ [p]) = p := by simp [lastS]
def stale : Int := -9223372036854775808
/-- The last one of those between x and y, if it does not say that the series ended. -/
def atS (ls : List Sm) (x y : Int) : Sm × Bool := if (cut ls x y).length = 0 ∨ (lastS (cut ls x y)).2 = stale then (e0, false) else (lastS (cut ls x y), true)
theorem eq_snoc (L : List Sm) : L = [] ∨ ∃ K p, L = K ++ [p] := by
  rcases List.eq_nil_or_concat L with h | ⟨K, p, h⟩
  · exact .inl h
  · exact .inr ⟨K, p, by rw [h, List.concat_eq_append]⟩
theorem cut_cut {ls : List Sm} (hg : GoodP ls) (x y : Int) : cut ls x y = (cut ls 0 y).filter fun p => decide (x ≤ p.1) := by
  unfold cut
  rw [List.filter_filter]
  apply List.filter_congr
  intro p hp
  have := (good_mem hg p hp).1
  rw [Bool.eq_iff_iff]
  simp
  omega
theorem cut_last {ls : List Sm} (hg : GoodP ls) (x y : Int) (h0 : (cut ls 0 y).length ≠ 0) : (x ≤ (lastS (cut ls 0 y)).1 → (cut ls x y).length ≠ 0 ∧ lastS (cut ls x y) = lastS (cut ls 0 y)) ∧ ((lastS (cut ls 0 y)).1 < x → (cut ls x y).length = 0) := by
  rw [cut_cut hg x y]
  have hp : (cut ls 0 y).Pairwise (fun p q => p.1 < q.1) := (good_pw hg).filter _
  generalize cut ls 0 y = S at *
  rcases eq_snoc S with rfl | ⟨K, p, rfl⟩
  · simp at h0
  · rw [lastS_append, List.filter_append]
    constructor
    · intro h
      have : [p].filter (fun p => decide (x ≤ p.1)) = [p] := by simp [h]
      rw [this]
      exact ⟨by simp, lastS_append _ _⟩
    · intro h
      have h1 : [p].filter (fun p => decide (x ≤ p.1)) = [] := by simp; omega
      rw [h1, List.append_nil]
      have : K.filter (fun p => decide (x ≤ p.1)) = [] := by
        rw [List.filter_eq_nil_iff]
        intro q hq
        have := (List.pairwise_append.1 hp).2.2 q hq p (by simp)
        simp; omega
      rw [this]; rfl
/-- What the model reckons. -/
def atM (ls : List Sm) (x y : Int) : Sm × Bool := if (cut ls 0 y).length = 0 ∨ (lastS (cut ls 0 y)).1 < x ∨ (lastS (cut ls 0 y)).2 = stale then (e0, false) else (lastS (cut ls 0 y), true)
theorem at_eq {ls : List Sm} (hg : GoodP ls) (x y : Int) : atM ls x y = atS ls x y := by
  unfold atM atS
  by_cases h0 : (cut ls 0 y).length = 0
  · have : (cut ls x y).length = 0 := by
      rw [cut_cut hg x y, List.eq_nil_of_length_eq_zero h0]; rfl
    rw [if_pos (.inl h0), if_pos (.inl this)]
  · obtain ⟨h1, h2⟩ := cut_last hg x y h0
    by_cases h3 : (lastS (cut ls 0 y)).1 < x
    · rw [if_pos (.inr (.inl h3)), if_pos (.inl (h2 h3))]
    · obtain ⟨h4, h5⟩ := h1 (by omega)
      rw [h5]
      by_cases h6 : (lastS (cut ls 0 y)).2 = stale
      · rw [if_pos (.inr (.inr h6)), if_pos (.inr h6)]
      · rw [if_neg (by intro h; rcases h with h | h | h <;> contradiction), if_neg (by intro h; rcases h with h | h <;> contradiction)]
def atA (ls : List Sm) (t l : Int) : Sm × Bool := if GoodP ls ∧ TimeP t ∧ TimeP l then atS ls (t - l) t else (e0, false)

theorem has_last {w : World} {a : Option Addr} {L : List Sm} (h : HasS w a L) (hp : 0 < L.length) : ∃ b off, a = some ⟨b, off, none⟩ ∧ b < w.heap.size ∧ w.cell? ⟨b, off + (L.length - 1) * 2, none⟩ = some (.int .i64 (lastS L).1) ∧ w.cell? ⟨b, off + (L.length - 1) * 2 + 1, none⟩ = some (.int .i64 (lastS L).2) := by
  rcases h with h | ⟨b, off, h1, h2, h3⟩
  · rw [h] at hp; simp at hp
  · exact ⟨b, off, h1, h2, (h3 (L.length - 1) (by omega)).1, (h3 (L.length - 1) (by omega)).2⟩
def tupS (r : Sm × Bool) : Value := .tuple #[.agg #[.int .i64 r.1.1, .int .i64 r.1.2], .bool r.2]

theorem two_set0 {w : World} {b t : Nat} {u v x : Value} (h : w.heap[b]? = some (.cells #[u, v] t (0, 0))) : (w.setCell ⟨b, 0, none⟩ x).heap[b]? = some (.cells #[x, v] t (0, 0)) := by
  have hlt : b < w.heap.size := (Array.getElem?_eq_some_iff.1 h).1
  have h' : w.heap[b] = .cells #[u, v] t (0, 0) := by simpa [Array.getElem?_eq_getElem hlt] using h
  show (w.heap.modify b _)[b]? = _
  rw [Array.getElem?_eq_getElem (by simpa using hlt), Array.getElem_modify_self, h']
  rfl
theorem two_set1 {w : World} {b t : Nat} {u v x : Value} (h : w.heap[b]? = some (.cells #[u, v] t (0, 0))) : (w.setCell ⟨b, 1, none⟩ x).heap[b]? = some (.cells #[u, x] t (0, 0)) := by
  have hlt : b < w.heap.size := (Array.getElem?_eq_some_iff.1 h).1
  have h' : w.heap[b] = .cells #[u, v] t (0, 0) := by simpa [Array.getElem?_eq_getElem hlt] using h
  show (w.heap.modify b _)[b]? = _
  rw [Array.getElem?_eq_getElem (by simpa using hlt), Array.getElem_modify_self, h']
  rfl
theorem two_set {w : World} {b t : Nat} {u v : Value} (x y : Value) (h : w.heap[b]? = some (.cells #[u, v] t (0, 0))) : ((w.setCell ⟨b, 0, none⟩ x).setCell ⟨b, 1, none⟩ y).heap[b]? = some (.cells #[x, y] t (0, 0)) := two_set1 (two_set0 h)
theorem below_two {w w1 : World} (x y : Value) (h : Below w.heap.size w w1) : Below w.heap.size w ((w1.setCell ⟨w.heap.size, 0, none⟩ x).setCell ⟨w.heap.size, 1, none⟩ y) := (h.setCell (p := ⟨w.heap.size, 0, none⟩) (Nat.le_refl _) x).setCell (p := ⟨w.heap.size, 1, none⟩) (Nat.le_refl _) y
theorem box_alloc {w : World} {b : Nat} {o : Obj} (h : w.heap[b]? = some o) (o' : Obj) : (w.alloc o').heap[b]? = some o := box_below h ((Below.refl _ _).alloc (Nat.le_refl _) o')

end Go.Proofs.Ytailoeloonnoeaa.Smp
