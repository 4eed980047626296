/- The model's AggOver. -/
import Derived.Test.YtaedgekdhpiieaaAd
import Derived.Test.YtaedgekdhpiieaaBd
import Derived.Test.YtaedgekdhpiieaaBe
namespace Go.Proofs.Ytaedgekdhpiieaa.Agl
open Go.RowKit Go.Shelf

/-- All of them together, as the model does it. -/
def allM (L : List Ag) : Ag := L.foldl (fun m p => if m.n = 0 then p else mrg m p) a0
theorem allM_snoc (L : List Ag) (p : Ag) : allM (L ++ [p]) = if (allM L).n = 0 then p else mrg (allM L) p := by unfold allM; rw [List.foldl_append]; rfl
def telM (o : Int) (m : Ag) : Int × Bool := if m.n < 1 then (0, false) else match ovr o m with
  | some v => (v, true)
  | none => (0, false)
def SpanP (fr to_ : Int) : Prop := -1 ≤ fr ∧ fr ≤ to_ ∧ to_ ≤ 1000000000000
instance (fr to_ : Int) : Decidable (SpanP fr to_) := by unfold SpanP; infer_instance
/-- The span's ends fit the windows. -/
def EndsP (res fr to_ : Int) : Prop := (0 ≤ fr → fr % res = 0) ∧ to_.tmod res = 0
instance (res fr to_ : Int) : Decidable (EndsP res fr to_) := by unfold EndsP; infer_instance
def aggOv (res : Int) (ls : List Ag) (fr to_ o : Int) : Int × Bool := if goodA res ls = true ∧ SpanP fr to_ ∧ EndsP res fr to_ then telM o (allM (within fr to_ ls)) else (0, false)

theorem f40 (fr to_ : Int) (w : World) : Calls Try.prog 40 #[.int .i64 fr, .int .i64 to_] w fun e w' => e = .returned (.bool (decide (SpanP fr to_))) ∧ w' = w := by
  by_cases h1 : -1 ≤ fr
  · by_cases h3 : fr ≤ to_
    · go_enter Try.func40, Try.ntmps40
      go_wp2
      go_ret
      exact ⟨ret_bool (by unfold SpanP; rw [Bool.eq_iff_iff]; simp [h1, h3]), rfl⟩
    · go_enter Try.func40, Try.ntmps40
      go_wp2
      go_ret
      exact ⟨ret_bool (by symm; exact decide_eq_false fun h => absurd h.2.1 (by omega)), rfl⟩
  · go_enter Try.func40, Try.ntmps40
    go_wp2
    go_ret
    exact ⟨ret_bool (by symm; exact decide_eq_false fun h => absurd h.1 (by omega)), rfl⟩
theorem bx_set0 {w1 w : World} {b : Nat} {z0 z1 z2 z3 z4 z5 z6 z7 u0 u1 u2 u3 u4 u5 u6 u7 : Int} (h : w.heap[b]? = some (.cells #[.int .i64 u0, .int .i64 u1, .int .i64 u2, .int .i64 u3, .int .i64 u4, .int .i64 u5, .int .i64 u6, .int .i64 u7] 33 (0, 0))) (hl : w1.heap.size ≤ b) (hb : Below w1.heap.size w1 w) : Bx w1 b z0 z1 z2 z3 z4 z5 z6 z7 ((((((((w.setCell ⟨b, 0, none⟩ (.int .i64 z0)).setCell ⟨b, 1, none⟩ (.int .i64 z1)).setCell ⟨b, 2, none⟩ (.int .i64 z2)).setCell ⟨b, 3, none⟩ (.int .i64 z3)).setCell ⟨b, 4, none⟩ (.int .i64 z4)).setCell ⟨b, 5, none⟩ (.int .i64 z5)).setCell ⟨b, 6, none⟩ (.int .i64 z6)).setCell ⟨b, 7, none⟩ (.int .i64 z7)) :=
  ⟨by have := (set_cell (o := 7) (x := .int .i64 z7) (set_cell (o := 6) (x := .int .i64 z6) (set_cell (o := 5) (x := .int .i64 z5) (set_cell (o := 4) (x := .int .i64 z4) (set_cell (o := 3) (x := .int .i64 z3) (set_cell (o := 2) (x := .int .i64 z2) (set_cell (o := 1) (x := .int .i64 z1) (set_cell (o := 0) (x := .int .i64 z0) h)))))))); simpa using this, hl, ((((((((hb.setCell (p := ⟨b, 0, none⟩) hl _).setCell (p := ⟨b, 1, none⟩) hl _).setCell (p := ⟨b, 2, none⟩) hl _).setCell (p := ⟨b, 3, none⟩) hl _).setCell (p := ⟨b, 4, none⟩) hl _).setCell (p := ⟨b, 5, none⟩) hl _).setCell (p := ⟨b, 6, none⟩) hl _).setCell (p := ⟨b, 7, none⟩) hl _)⟩
theorem allM_pos {L : List Ag} (h : ∀ p ∈ L, 1 ≤ p.n ∧ p.n ≤ 2000) (hl : L.length ≤ 2000) : (L = [] → (allM L).n = 0) ∧ (L ≠ [] → 1 ≤ (allM L).n) ∧ 0 ≤ (allM L).n ∧ (allM L).n ≤ 2000 * (L.length : Int) := by
  suffices H : ∀ (K : List Ag) (m : Ag) (c : Nat), (∀ p ∈ K, 1 ≤ p.n ∧ p.n ≤ 2000) → c + K.length ≤ 2000 → 0 ≤ m.n → m.n ≤ 2000 * (c : Int) → (K = [] → (K.foldl (fun m p => if m.n = 0 then p else mrg m p) m).n = m.n) ∧ (K ≠ [] ∨ 1 ≤ m.n → 1 ≤ (K.foldl (fun m p => if m.n = 0 then p else mrg m p) m).n) ∧ 0 ≤ (K.foldl (fun m p => if m.n = 0 then p else mrg m p) m).n ∧ (K.foldl (fun m p => if m.n = 0 then p else mrg m p) m).n ≤ 2000 * ((c + K.length : Nat) : Int) by
    have := H L a0 0 h (by omega) (by simp [a0]) (by simp [a0])
    refine ⟨this.1, fun e => this.2.1 (.inl e), this.2.2.1, ?_⟩
    have h2 := this.2.2.2
    rw [Nat.zero_add] at h2
    exact h2
  intro K
  induction K with
  | nil => intro m c _ _ h0 h1; exact ⟨fun _ => rfl, fun e => e.elim (fun e => absurd rfl e) (fun e => e), h0, by simpa using h1⟩
  | cons p K ih =>
    intro m c hK hc h0 h1
    have hp := hK p List.mem_cons_self
    simp only [List.length_cons] at hc
    have key : 1 ≤ (if m.n = 0 then p else mrg m p).n ∧ (if m.n = 0 then p else mrg m p).n ≤ 2000 * ((c + 1 : Nat) : Int) := by
      by_cases e : m.n = 0
      · rw [if_pos e]; exact ⟨hp.1, by omega⟩
      · rw [if_neg e]
        show 1 ≤ wrap64 (m.n + p.n) ∧ wrap64 (m.n + p.n) ≤ _
        have hw : wrap64 (m.n + p.n) = m.n + p.n := by unfold wrap64; omega
        rw [hw]
        omega
    have := ih (if m.n = 0 then p else mrg m p) (c + 1) (fun q hq => hK q (List.mem_cons_of_mem _ hq)) (by omega) (by omega) key.2
    simp only [List.foldl_cons, List.length_cons]
    refine ⟨fun e => (by cases e), fun _ => this.2.1 (.inr key.1), this.2.2.1, ?_⟩
    rw [show c + (K.length + 1) = c + 1 + K.length by omega]
    exact this.2.2.2
theorem good_n {res : Int} {ls : List Ag} (h : goodA res ls = true) : ls.length ≤ 2000 ∧ ResP res ∧ ∀ p ∈ ls, 1 ≤ p.n ∧ p.n ≤ 2000 := by
  have hg : GoodP res ls := of_decide_eq_true h
  refine ⟨hg.2.1, hg.1, fun p hp => ?_⟩
  obtain ⟨i, hi, rfl⟩ := List.mem_iff_getElem.1 hp
  have := (hg.2.2 i hi).2
  rw [show ls.getD i a0 = ls[i] by simp [hi]] at this
  exact ⟨this.1, this.2.1⟩
theorem within_n {res fr to_ : Int} {ls : List Ag} (h : goodA res ls = true) : (within fr to_ ls).length ≤ 2000 ∧ ∀ p ∈ within fr to_ ls, 1 ≤ p.n ∧ p.n ≤ 2000 := by
  obtain ⟨h1, _, h2⟩ := good_n h
  exact ⟨Nat.le_trans (List.length_filter_le _ _) h1, fun p hp => h2 p ((List.mem_filter.1 hp).1)⟩

end Go.Proofs.Ytaedgekdhpiieaa.Agl
