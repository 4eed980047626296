/- Intervals while they are drawn. -/
import Derived.Test.YtcnilidckicccaaDoorIwa
namespace Go.Proofs.YtcnilidckicccaaDoor.Cur
open Go.RowKit
open Go.Proofs.YtcnilidckicccaaDoor.Cal (hid)
open Go.Proofs.YtcnilidckicccaaDoor.Rng (Sm e0 HasS Fit flat In64)

/-- Rows that share no block. -/
abbrev Rl (a b : Value) : Prop := ∀ g, a.ownBlock = some g → b.ownBlock ≠ some g
theorem ap_set : ∀ (vs : List Value) (k : Nat) (v : Value), vs.Pairwise Rl → (∀ g, v.ownBlock = some g → (∃ u, vs[k]? = some u ∧ u.ownBlock = some g) ∨ ∀ u ∈ vs, u.ownBlock ≠ some g) → (vs.set k v).Pairwise Rl
  | [], k, v, _, _ => by simp
  | u :: us, 0, v, h, hv => by
    obtain ⟨h1, h2⟩ := List.pairwise_cons.1 h
    rw [List.set_cons_zero]
    refine List.pairwise_cons.2 ⟨fun b hb g hg => ?_, h2⟩
    rcases hv g hg with ⟨u', e, hu⟩ | hn
    · simp at e; subst e; exact h1 b hb g hu
    · exact hn b (by simp [hb])
  | u :: us, k + 1, v, h, hv => by
    obtain ⟨h1, h2⟩ := List.pairwise_cons.1 h
    rw [List.set_cons_succ]
    refine List.pairwise_cons.2 ⟨fun b hb g hg => ?_, ap_set us k v h2 (fun g hg => ?_)⟩
    · rcases List.mem_or_eq_of_mem_set hb with hb | rfl
      · exact h1 b hb g hg
      · intro hbg
        rcases hv g hbg with ⟨u', e, hu⟩ | hn
        · simp only [List.getElem?_cons_succ] at e
          exact h1 u' (List.mem_of_getElem? e) g hg hu
        · exact hn u (by simp) hg
    · rcases hv g hg with ⟨u', e, hu⟩ | hn
      · exact .inl ⟨u', by simpa using e, hu⟩
      · exact .inr fun u hu => hn u (by simp [hu])
/-- What lies in the box of an interval. -/
structure Bx (K X B : Nat) (z : Int) (v1 v2 v3 v4 v5 v6 : Value) (w : World) : Prop where
  box : w.heap[B]? = some (.cells #[.int .i64 z, v1, v2, v3, v4, v5, v6] 26)
  z : In64 z
  r1 : RowR K X w v1
  r2 : RowR K X w v2
  r3 : RowR K X w v3
  r4 : RowR K X w v4
  r5 : RowR K X w v5
  r6 : RowI K X w v6
  ap : [v1, v2, v3, v4, v5, v6].Pairwise Rl
  nb : ∀ v ∈ [v1, v2, v3, v4, v5, v6], v.ownBlock ≠ some B
theorem RowR.of {K X : Nat} {w w' : World} {v : Value} {row : Option Nat} (h : RowR K X w v) (hg : w.grownBy w' row) (hr : ∀ g, v.ownBlock = some g → row ≠ some g) : RowR K X w' v := by
  obtain ⟨a, n, c, l, rfl, h1, h2, h3, h4⟩ := h
  exact ⟨a, n, c, l, rfl, h1, h2, h3.kept hg (by
    cases hv : (Value.slice a n c).ownBlock with
    | none => exact .inl rfl
    | some k => exact .inr (fun e => hr k hv e.symm)), h4⟩
theorem RowI.of {K X : Nat} {w w' : World} {v : Value} {row : Option Nat} (h : RowI K X w v) (hg : w.grownBy w' row) (hr : ∀ g, v.ownBlock = some g → row ≠ some g) : RowI K X w' v := by
  obtain ⟨a, n, c, l, rfl, h1, h2, h3, h4⟩ := h
  exact ⟨a, n, c, l, rfl, h1, h2, h3.kept hg (by
    cases hv : (Value.slice a n c).ownBlock with
    | none => exact .inl rfl
    | some k => exact .inr (fun e => hr k hv e.symm)), h4⟩
theorem RowR.lt {K X : Nat} {w : World} {v : Value} (h : RowR K X w v) : ∀ g, v.ownBlock = some g → X ≤ g ∧ g < w.heap.size := by
  obtain ⟨a, n, c, l, rfl, _, _, h3, _⟩ := h; exact h3.lt
theorem RowI.lt {K X : Nat} {w : World} {v : Value} (h : RowI K X w v) : ∀ g, v.ownBlock = some g → X ≤ g ∧ g < w.heap.size := by
  obtain ⟨a, n, c, l, rfl, _, _, h3, _⟩ := h; exact h3.lt
theorem RowR.base {K X Y : Nat} {w : World} {v : Value} (h : RowR K X w v) (hb : Y ≤ X) : RowR K Y w v := by
  obtain ⟨a, n, c, l, rfl, h1, h2, h3, h4⟩ := h; exact ⟨a, n, c, l, rfl, h1, h2, h3.mono hb, h4⟩
theorem Bx.lts {K X B : Nat} {z : Int} {v1 v2 v3 v4 v5 v6 : Value} {w : World} (h : Bx K X B z v1 v2 v3 v4 v5 v6 w) : ∀ v ∈ [v1, v2, v3, v4, v5, v6], ∀ g, v.ownBlock = some g → X ≤ g ∧ g < w.heap.size := by
  intro v hv g hg
  simp only [List.mem_cons, List.not_mem_nil, or_false] at hv
  rcases hv with rfl | rfl | rfl | rfl | rfl | rfl
  · exact h.r1.lt g hg
  · exact h.r2.lt g hg
  · exact h.r3.lt g hg
  · exact h.r4.lt g hg
  · exact h.r5.lt g hg
  · exact h.r6.lt g hg
/-- The box and its rows stay where another block turns. -/
theorem Bx.of {K X B : Nat} {z : Int} {v1 v2 v3 v4 v5 v6 : Value} {w w' : World} {row : Option Nat} (h : Bx K X B z v1 v2 v3 v4 v5 v6 w) (hg : w.grownBy w' row) (hr : ∀ g, row = some g → g < X ∧ g ≠ B) : Bx K X B z v1 v2 v3 v4 v5 v6 w' := by
  have hx : ∀ v ∈ [v1, v2, v3, v4, v5, v6], ∀ g, v.ownBlock = some g → row ≠ some g := fun v hv g e he => by have := (h.lts v hv g e).1; have := (hr g he).1; omega
  exact ⟨(hg.block B (Cal.lt_block h.box) (fun e => (hr B e.symm).2 rfl)).trans h.box, h.z, h.r1.of hg (hx _ (by simp)), h.r2.of hg (hx _ (by simp)), h.r3.of hg (hx _ (by simp)), h.r4.of hg (hx _ (by simp)), h.r5.of hg (hx _ (by simp)), h.r6.of hg (hx _ (by simp)), h.ap, h.nb⟩
theorem Bx.new {K X B : Nat} {z : Int} {v1 v2 v3 v4 v5 v6 : Value} {w : World} (h : Bx K X B z v1 v2 v3 v4 v5 v6 w) (o : Obj) : Bx K X B z v1 v2 v3 v4 v5 v6 (w.alloc o) := h.of (row := none) (grown_alloc (World.grownBy.refl _ _) o) (fun g e => by cases e)
theorem Bx.drew {K X B : Nat} {z : Int} {v1 v2 v3 v4 v5 v6 : Value} {w : World} (h : Bx K X B z v1 v2 v3 v4 v5 v6 w) : Bx K X B z v1 v2 v3 v4 v5 v6 w.drew := h.of (row := none) ⟨rfl, rfl, rfl, Nat.le_refl _, fun _ _ _ => rfl⟩ (fun g e => by cases e)
theorem set_grown (w : World) (B o : Nat) (v : Value) : w.grownBy (w.setCell ⟨B, o, none⟩ v) (some B) := grown_setRow (World.grownBy.refl _ _) v
theorem own_one (w : World) (x : Value) (t B : Nat) (hB : B ≤ w.heap.size) : (w.alloc (.cells #[x] t)).ownsRow B t 1 (.slice (some ⟨w.heap.size, 0, none⟩) 1 1) 1 [x] :=
  ⟨rfl, .inr ⟨w.heap.size, 1, #[x], rfl, hB, heap_alloc_new w _, Nat.le_refl _, by unfold maxLen; omega, rfl, rfl⟩⟩
theorem own_pair (w : World) (x y : Value) (t B : Nat) (hB : B ≤ w.heap.size) : (w.alloc (.cells #[x, y] t)).ownsRow B t 2 (.slice (some ⟨w.heap.size, 0, none⟩) 1 1) 1 [x, y] :=
  ⟨rfl, .inr ⟨w.heap.size, 1, #[x, y], rfl, hB, heap_alloc_new w _, Nat.le_refl _, by unfold maxLen; omega, rfl, rfl⟩⟩
end Go.Proofs.YtcnilidckicccaaDoor.Cur
