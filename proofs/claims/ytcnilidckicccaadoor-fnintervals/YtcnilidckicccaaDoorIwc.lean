/- Stores into the box of an interval that is drawn. -/
import Derived.Test.YtcnilidckicccaaDoorIwb
namespace Go.Proofs.YtcnilidckicccaaDoor.Cur
open Go.RowKit
open Go.Proofs.YtcnilidckicccaaDoor.Cal (hid)
open Go.Proofs.YtcnilidckicccaaDoor.Rng (Sm e0 HasS Fit flat In64)

theorem set_box {x : World} {b i : Nat} {cs : Array Value} {t : TypeId} {v : Value} (h : x.heap[b]? = some (.cells cs t)) : (x.setCell ⟨b, i, none⟩ v).heap[b]? = some (.cells (cs.setIfInBounds i v) t) := by
  have hlt := Cal.lt_block h
  have h' : x.heap[b] = .cells cs t (0, 0) := by simpa [Array.getElem?_eq_getElem hlt] using h
  show (x.heap.modify b _)[b]? = _
  rw [Array.getElem?_eq_getElem (by simpa using hlt), Array.getElem_modify_self, h']
  rfl
theorem Bx.cells {K X B : Nat} {z : Int} {v1 v2 v3 v4 v5 v6 : Value} {w : World} (h : Bx K X B z v1 v2 v3 v4 v5 v6 w) : w.cell? ⟨B, 0, none⟩ = some (.int .i64 z) ∧ w.cell? ⟨B, 1, none⟩ = some v1 ∧ w.cell? ⟨B, 2, none⟩ = some v2 ∧ w.cell? ⟨B, 3, none⟩ = some v3 ∧ w.cell? ⟨B, 4, none⟩ = some v4 ∧ w.cell? ⟨B, 5, none⟩ = some v5 ∧ w.cell? ⟨B, 6, none⟩ = some v6 :=
  ⟨Cal.cell_at h.box 0, Cal.cell_at h.box 1, Cal.cell_at h.box 2, Cal.cell_at h.box 3, Cal.cell_at h.box 4, Cal.cell_at h.box 5, Cal.cell_at h.box 6⟩
theorem Bx.frz {K X B : Nat} {z : Int} {v1 v2 v3 v4 v5 v6 : Value} {w : World} (h : Bx K X B z v1 v2 v3 v4 v5 v6 w) (o : Nat) : w.frozen? ⟨B, o, none⟩ = false := by simp [World.frozen?, h.box]
/-- Field 1 anew. -/
theorem Bx.s1 {K X B : Nat} {z : Int} {v1 v2 v3 v4 v5 v6 v : Value} {w : World} (h : Bx K X B z v1 v2 v3 v4 v5 v6 w) (hv : RowR K X w v) (ha : ∀ g, v.ownBlock = some g → v1.ownBlock = some g ∨ ∀ u ∈ [v1, v2, v3, v4, v5, v6], u.ownBlock ≠ some g) (hB : v.ownBlock ≠ some B) : Bx K X B z v v2 v3 v4 v5 v6 (w.setCell ⟨B, 1, none⟩ v) := by
  have hg := set_grown w B 1 v
  have hx : ∀ u ∈ [v1, v2, v3, v4, v5, v6], ∀ g, u.ownBlock = some g → some B ≠ some g := fun u hu g e he => h.nb u hu (by rw [e, ← he])
  have hxv : ∀ g, v.ownBlock = some g → some B ≠ some g := fun g e he => hB (by rw [e, ← he])
  have hap : [v, v2, v3, v4, v5, v6].Pairwise Rl := ap_set [v1, v2, v3, v4, v5, v6] 0 v h.ap (fun g e => (ha g e).imp (fun h => ⟨v1, rfl, h⟩) id)
  refine ⟨set_box h.box, h.z, hv.of hg hxv, h.r2.of hg (hx _ (by simp)), h.r3.of hg (hx _ (by simp)), h.r4.of hg (hx _ (by simp)), h.r5.of hg (hx _ (by simp)), h.r6.of hg (hx _ (by simp)), hap, ?_⟩
  intro u hu
  simp only [List.mem_cons, List.not_mem_nil, or_false] at hu
  rcases hu with rfl | rfl | rfl | rfl | rfl | rfl
  all_goals first | exact hB | exact h.nb _ (by simp)
/-- Field 2 anew. -/
theorem Bx.s2 {K X B : Nat} {z : Int} {v1 v2 v3 v4 v5 v6 v : Value} {w : World} (h : Bx K X B z v1 v2 v3 v4 v5 v6 w) (hv : RowR K X w v) (ha : ∀ g, v.ownBlock = some g → v2.ownBlock = some g ∨ ∀ u ∈ [v1, v2, v3, v4, v5, v6], u.ownBlock ≠ some g) (hB : v.ownBlock ≠ some B) : Bx K X B z v1 v v3 v4 v5 v6 (w.setCell ⟨B, 2, none⟩ v) := by
  have hg := set_grown w B 2 v
  have hx : ∀ u ∈ [v1, v2, v3, v4, v5, v6], ∀ g, u.ownBlock = some g → some B ≠ some g := fun u hu g e he => h.nb u hu (by rw [e, ← he])
  have hxv : ∀ g, v.ownBlock = some g → some B ≠ some g := fun g e he => hB (by rw [e, ← he])
  have hap : [v1, v, v3, v4, v5, v6].Pairwise Rl := ap_set [v1, v2, v3, v4, v5, v6] 1 v h.ap (fun g e => (ha g e).imp (fun h => ⟨v2, rfl, h⟩) id)
  refine ⟨set_box h.box, h.z, h.r1.of hg (hx _ (by simp)), hv.of hg hxv, h.r3.of hg (hx _ (by simp)), h.r4.of hg (hx _ (by simp)), h.r5.of hg (hx _ (by simp)), h.r6.of hg (hx _ (by simp)), hap, ?_⟩
  intro u hu
  simp only [List.mem_cons, List.not_mem_nil, or_false] at hu
  rcases hu with rfl | rfl | rfl | rfl | rfl | rfl
  all_goals first | exact hB | exact h.nb _ (by simp)
/-- Field 3 anew. -/
theorem Bx.s3 {K X B : Nat} {z : Int} {v1 v2 v3 v4 v5 v6 v : Value} {w : World} (h : Bx K X B z v1 v2 v3 v4 v5 v6 w) (hv : RowR K X w v) (ha : ∀ g, v.ownBlock = some g → v3.ownBlock = some g ∨ ∀ u ∈ [v1, v2, v3, v4, v5, v6], u.ownBlock ≠ some g) (hB : v.ownBlock ≠ some B) : Bx K X B z v1 v2 v v4 v5 v6 (w.setCell ⟨B, 3, none⟩ v) := by
  have hg := set_grown w B 3 v
  have hx : ∀ u ∈ [v1, v2, v3, v4, v5, v6], ∀ g, u.ownBlock = some g → some B ≠ some g := fun u hu g e he => h.nb u hu (by rw [e, ← he])
  have hxv : ∀ g, v.ownBlock = some g → some B ≠ some g := fun g e he => hB (by rw [e, ← he])
  have hap : [v1, v2, v, v4, v5, v6].Pairwise Rl := ap_set [v1, v2, v3, v4, v5, v6] 2 v h.ap (fun g e => (ha g e).imp (fun h => ⟨v3, rfl, h⟩) id)
  refine ⟨set_box h.box, h.z, h.r1.of hg (hx _ (by simp)), h.r2.of hg (hx _ (by simp)), hv.of hg hxv, h.r4.of hg (hx _ (by simp)), h.r5.of hg (hx _ (by simp)), h.r6.of hg (hx _ (by simp)), hap, ?_⟩
  intro u hu
  simp only [List.mem_cons, List.not_mem_nil, or_false] at hu
  rcases hu with rfl | rfl | rfl | rfl | rfl | rfl
  all_goals first | exact hB | exact h.nb _ (by simp)
/-- Field 4 anew. -/
theorem Bx.s4 {K X B : Nat} {z : Int} {v1 v2 v3 v4 v5 v6 v : Value} {w : World} (h : Bx K X B z v1 v2 v3 v4 v5 v6 w) (hv : RowR K X w v) (ha : ∀ g, v.ownBlock = some g → v4.ownBlock = some g ∨ ∀ u ∈ [v1, v2, v3, v4, v5, v6], u.ownBlock ≠ some g) (hB : v.ownBlock ≠ some B) : Bx K X B z v1 v2 v3 v v5 v6 (w.setCell ⟨B, 4, none⟩ v) := by
  have hg := set_grown w B 4 v
  have hx : ∀ u ∈ [v1, v2, v3, v4, v5, v6], ∀ g, u.ownBlock = some g → some B ≠ some g := fun u hu g e he => h.nb u hu (by rw [e, ← he])
  have hxv : ∀ g, v.ownBlock = some g → some B ≠ some g := fun g e he => hB (by rw [e, ← he])
  have hap : [v1, v2, v3, v, v5, v6].Pairwise Rl := ap_set [v1, v2, v3, v4, v5, v6] 3 v h.ap (fun g e => (ha g e).imp (fun h => ⟨v4, rfl, h⟩) id)
  refine ⟨set_box h.box, h.z, h.r1.of hg (hx _ (by simp)), h.r2.of hg (hx _ (by simp)), h.r3.of hg (hx _ (by simp)), hv.of hg hxv, h.r5.of hg (hx _ (by simp)), h.r6.of hg (hx _ (by simp)), hap, ?_⟩
  intro u hu
  simp only [List.mem_cons, List.not_mem_nil, or_false] at hu
  rcases hu with rfl | rfl | rfl | rfl | rfl | rfl
  all_goals first | exact hB | exact h.nb _ (by simp)
/-- Field 5 anew. -/
theorem Bx.s5 {K X B : Nat} {z : Int} {v1 v2 v3 v4 v5 v6 v : Value} {w : World} (h : Bx K X B z v1 v2 v3 v4 v5 v6 w) (hv : RowR K X w v) (ha : ∀ g, v.ownBlock = some g → v5.ownBlock = some g ∨ ∀ u ∈ [v1, v2, v3, v4, v5, v6], u.ownBlock ≠ some g) (hB : v.ownBlock ≠ some B) : Bx K X B z v1 v2 v3 v4 v v6 (w.setCell ⟨B, 5, none⟩ v) := by
  have hg := set_grown w B 5 v
  have hx : ∀ u ∈ [v1, v2, v3, v4, v5, v6], ∀ g, u.ownBlock = some g → some B ≠ some g := fun u hu g e he => h.nb u hu (by rw [e, ← he])
  have hxv : ∀ g, v.ownBlock = some g → some B ≠ some g := fun g e he => hB (by rw [e, ← he])
  have hap : [v1, v2, v3, v4, v, v6].Pairwise Rl := ap_set [v1, v2, v3, v4, v5, v6] 4 v h.ap (fun g e => (ha g e).imp (fun h => ⟨v5, rfl, h⟩) id)
  refine ⟨set_box h.box, h.z, h.r1.of hg (hx _ (by simp)), h.r2.of hg (hx _ (by simp)), h.r3.of hg (hx _ (by simp)), h.r4.of hg (hx _ (by simp)), hv.of hg hxv, h.r6.of hg (hx _ (by simp)), hap, ?_⟩
  intro u hu
  simp only [List.mem_cons, List.not_mem_nil, or_false] at hu
  rcases hu with rfl | rfl | rfl | rfl | rfl | rfl
  all_goals first | exact hB | exact h.nb _ (by simp)
/-- Field 6 anew. -/
theorem Bx.s6 {K X B : Nat} {z : Int} {v1 v2 v3 v4 v5 v6 v : Value} {w : World} (h : Bx K X B z v1 v2 v3 v4 v5 v6 w) (hv : RowI K X w v) (ha : ∀ g, v.ownBlock = some g → v6.ownBlock = some g ∨ ∀ u ∈ [v1, v2, v3, v4, v5, v6], u.ownBlock ≠ some g) (hB : v.ownBlock ≠ some B) : Bx K X B z v1 v2 v3 v4 v5 v (w.setCell ⟨B, 6, none⟩ v) := by
  have hg := set_grown w B 6 v
  have hx : ∀ u ∈ [v1, v2, v3, v4, v5, v6], ∀ g, u.ownBlock = some g → some B ≠ some g := fun u hu g e he => h.nb u hu (by rw [e, ← he])
  have hxv : ∀ g, v.ownBlock = some g → some B ≠ some g := fun g e he => hB (by rw [e, ← he])
  have hap : [v1, v2, v3, v4, v5, v].Pairwise Rl := ap_set [v1, v2, v3, v4, v5, v6] 5 v h.ap (fun g e => (ha g e).imp (fun h => ⟨v6, rfl, h⟩) id)
  refine ⟨set_box h.box, h.z, h.r1.of hg (hx _ (by simp)), h.r2.of hg (hx _ (by simp)), h.r3.of hg (hx _ (by simp)), h.r4.of hg (hx _ (by simp)), h.r5.of hg (hx _ (by simp)), hv.of hg hxv, hap, ?_⟩
  intro u hu
  simp only [List.mem_cons, List.not_mem_nil, or_false] at hu
  rcases hu with rfl | rfl | rfl | rfl | rfl | rfl
  all_goals first | exact hB | exact h.nb _ (by simp)
/-- The zone anew. -/
theorem Bx.s0 {K X B : Nat} {z y : Int} {v1 v2 v3 v4 v5 v6 : Value} {w : World} (h : Bx K X B z v1 v2 v3 v4 v5 v6 w) (hy : In64 y) : Bx K X B y v1 v2 v3 v4 v5 v6 (w.setCell ⟨B, 0, none⟩ (.int .i64 y)) := by
  have hg := set_grown w B 0 (.int .i64 y)
  have hx : ∀ u ∈ [v1, v2, v3, v4, v5, v6], ∀ g, u.ownBlock = some g → some B ≠ some g := fun u hu g e he => h.nb u hu (by rw [e, ← he])
  exact ⟨set_box h.box, hy, h.r1.of hg (hx _ (by simp)), h.r2.of hg (hx _ (by simp)), h.r3.of hg (hx _ (by simp)), h.r4.of hg (hx _ (by simp)), h.r5.of hg (hx _ (by simp)), h.r6.of hg (hx _ (by simp)), h.ap, h.nb⟩
/-- A new row is apart from what was there. -/
theorem Bx.far {K X B Y : Nat} {z : Int} {v1 v2 v3 v4 v5 v6 v : Value} {w : World} (h : Bx K X B z v1 v2 v3 v4 v5 v6 w) (hY : w.heap.size ≤ Y) (hv : ∀ g, v.ownBlock = some g → Y ≤ g) (k : Value) : (∀ g, v.ownBlock = some g → k.ownBlock = some g ∨ ∀ u ∈ [v1, v2, v3, v4, v5, v6], u.ownBlock ≠ some g) ∧ v.ownBlock ≠ some B := by
  refine ⟨fun g e => .inr fun u hu he => ?_, fun e => ?_⟩
  · have := (h.lts u hu g he).2; have := hv g e; omega
  · have := hv B e; have := Cal.lt_block h.box; omega
theorem RowR.form {K X : Nat} {w : World} {v : Value} (h : RowR K X w v) : ∃ a n c, v = .slice a n c := by obtain ⟨a, n, c, l, e, _⟩ := h; exact ⟨a, n, c, e⟩
theorem RowI.form {K X : Nat} {w : World} {v : Value} (h : RowI K X w v) : ∃ a n c, v = .slice a n c := by obtain ⟨a, n, c, l, e, _⟩ := h; exact ⟨a, n, c, e⟩
/-- A row of one range, laid as a whole. -/
theorem RowR.one (w : World) (x y : Int) (hx : In64 x) (hy : In64 y) (X : Nat) (hX : X ≤ w.heap.size) : RowR 2 X (w.alloc (.cells #[.int .i64 x, .int .i64 y] 55)) (.slice (some ⟨w.heap.size, 0, none⟩) 1 1) :=
  ⟨_, 1, 1, [(x, y)], rfl, by omega, rfl, own_pair w _ _ _ _ hX, by intro p hp; simp at hp; subst hp; exact ⟨hx, hy⟩⟩
theorem RowI.one (w : World) (x : Int) (hx : In64 x) (X : Nat) (hX : X ≤ w.heap.size) : RowI 2 X (w.alloc (.cells #[.int .i64 x] 3)) (.slice (some ⟨w.heap.size, 0, none⟩) 1 1) :=
  ⟨_, 1, 1, [x], rfl, by omega, rfl, own_one w _ _ _ hX, by intro p hp; simp at hp; subst hp; exact hx⟩
theorem own_two (w : World) (x y : Value) (t B : Nat) (hB : B ≤ w.heap.size) : (w.alloc (.cells #[x, y] t)).ownsRow B t 1 (.slice (some ⟨w.heap.size, 0, none⟩) 2 2) 2 [x, y] :=
  ⟨rfl, .inr ⟨w.heap.size, 2, #[x, y], rfl, hB, heap_alloc_new w _, Nat.le_refl _, by unfold maxLen; omega, rfl, rfl⟩⟩
theorem RowI.two (w : World) (x y : Int) (hx : In64 x) (hy : In64 y) (X : Nat) (hX : X ≤ w.heap.size) : RowI 2 X (w.alloc (.cells #[.int .i64 x, .int .i64 y] 3)) (.slice (some ⟨w.heap.size, 0, none⟩) 2 2) :=
  ⟨_, 2, 2, [x, y], rfl, by omega, rfl, own_two w _ _ _ _ hX, by intro p hp; simp at hp; rcases hp with rfl | rfl <;> assumption⟩
end Go.Proofs.YtcnilidckicccaaDoor.Cur
