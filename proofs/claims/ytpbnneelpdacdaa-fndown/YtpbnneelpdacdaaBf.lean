/- The model's AggOver. -/
import Derived.Test.YtpbnneelpdacdaaAd
import Derived.Test.YtpbnneelpdacdaaBd
import Derived.Test.YtpbnneelpdacdaaBe
namespace Go.Proofs.Ytpbnneelpdacdaa.Agl
open Go.RowKit Go.Shelf

/-- All of them together, as the model does it. -/
def allM (L : List Ag) : Ag := L.foldl (fun m p => if m.n = 0 then p else mrg m p) a0
theorem allM_snoc (L : List Ag) (p : Ag) : allM (L ++ [p]) = if (allM L).n = 0 then p else mrg (allM L) p := by unfold allM; rw [List.foldl_append]; rfl
def telM (o : Int) (m : Ag) : Int × Bool := if m.n < 1 then (0, false) else match ovr o m with
  | some v => (v, true)
  | none => (0, false)
def SpanP (fr to_ : Int) : Prop := -1 ≤ fr ∧ fr ≤ to_ ∧ to_ ≤ 1000000000000
instance (fr to_ : Int) : Decidable (SpanP fr to_) := by unfold SpanP; infer_instance
/-- The span's ends fit the windows. -/
def EndsP (res fr to_ : Int) : Prop := (0 ≤ fr → fr % res = 0) ∧ to_.tmod res = 0
instance (res fr to_ : Int) : Decidable (EndsP res fr to_) := by unfold EndsP; infer_instance
def aggOv (res : Int) (ls : List Ag) (fr to_ o : Int) : Int × Bool := if goodA res ls = true ∧ SpanP fr to_ ∧ EndsP res fr to_ then telM o (allM (within fr to_ ls)) else (0, false)

theorem f68 (a b : Int) (w : World) (hb : 0 < b) : Calls Try.prog 68 #[.int .i64 a, .int .i64 b] w fun e w' => e = .returned (.int .i64 (fl a b)) ∧ w' = w := by
  have hb0 : b ≠ 0 := by omega
  by_cases h : a.tmod b < 0
  · go_enter Try.func68, Try.ntmps68
    go_wp2
    go_ret
    exact ⟨ret_int (by unfold fl; rw [if_pos h]), rfl⟩
  · go_enter Try.func68, Try.ntmps68
    go_wp2
    go_ret
    exact ⟨ret_int (by unfold fl; rw [if_neg (by omega)]), rfl⟩
theorem f42 (fr to_ : Int) (w : World) : Calls Try.prog 42 #[.int .i64 fr, .int .i64 to_] w fun e w' => e = .returned (.bool (decide (SpanP fr to_))) ∧ w' = w := by
  by_cases h1 : -1 ≤ fr
  · by_cases h2 : -1 ≤ to_
    · by_cases h3 : fr ≤ to_
      · go_enter Try.func42, Try.ntmps42
        go_wp2
        go_ret
        exact ⟨ret_bool (by unfold SpanP; rw [Bool.eq_iff_iff]; simp [h1, h3]), rfl⟩
      · go_enter Try.func42, Try.ntmps42
        go_wp2
        go_ret
        exact ⟨ret_bool (by symm; exact decide_eq_false fun h => absurd h.2.1 (by omega)), rfl⟩
    · go_enter Try.func42, Try.ntmps42
      go_wp2
      go_ret
      exact ⟨ret_bool (by symm; exact decide_eq_false fun h => by have := h.1; have := h.2.1; omega), rfl⟩
  · go_enter Try.func42, Try.ntmps42
    go_wp2
    go_ret
    exact ⟨ret_bool (by symm; exact decide_eq_false fun h => absurd h.1 (by omega)), rfl⟩
theorem f38 (fr to_ : Int) (w : World) : Calls Try.prog 38 #[.int .i64 fr, .int .i64 to_] w fun e w' => e = .returned (.bool (decide (SpanP fr to_))) ∧ w' = w := by
  by_cases h1 : -1 ≤ fr
  · by_cases h3 : fr ≤ to_
    · go_enter Try.func38, Try.ntmps38
      go_wp2
      go_ret
      exact ⟨ret_bool (by unfold SpanP; rw [Bool.eq_iff_iff]; simp [h1, h3]), rfl⟩
    · go_enter Try.func38, Try.ntmps38
      go_wp2
      go_ret
      exact ⟨ret_bool (by symm; exact decide_eq_false fun h => absurd h.2.1 (by omega)), rfl⟩
  · go_enter Try.func38, Try.ntmps38
    go_wp2
    go_ret
    exact ⟨ret_bool (by symm; exact decide_eq_false fun h => absurd h.1 (by omega)), rfl⟩
theorem over1 (x0 x1 x2 x3 x4 x5 x6 x7 : Int) (w : World) (_hb : 0 < x1) : Calls Try.prog 45 #[.agg #[.int .i64 x0, .int .i64 x1, .int .i64 x2, .int .i64 x3, .int .i64 x4, .int .i64 x5, .int .i64 x6, .int .i64 x7], .int .i64 1] w fun e w' => e = .returned (.tuple #[.int .i64 x1, .bool true]) ∧ Below w.heap.size w w' := by
  have HB := hid ((Below.refl w.heap.size w).alloc (Nat.le_refl _) (.cells #[.int .i64 x0, .int .i64 x1, .int .i64 x2, .int .i64 x3, .int .i64 x4, .int .i64 x5, .int .i64 x6, .int .i64 x7] 33))
  go_enter Try.func45, Try.ntmps45
  go_wp2
  refine bodyPost_ret (v := .tuple #[.int .i64 x1, .bool true]) (by simp [results, Try.results45, go_sem]) rfl ⟨rfl, HB.out⟩
theorem over2 (x0 x1 x2 x3 x4 x5 x6 x7 : Int) (w : World) (_hb : 0 < x1) : Calls Try.prog 45 #[.agg #[.int .i64 x0, .int .i64 x1, .int .i64 x2, .int .i64 x3, .int .i64 x4, .int .i64 x5, .int .i64 x6, .int .i64 x7], .int .i64 2] w fun e w' => e = .returned (.tuple #[.int .i64 x2, .bool true]) ∧ Below w.heap.size w w' := by
  have HB := hid ((Below.refl w.heap.size w).alloc (Nat.le_refl _) (.cells #[.int .i64 x0, .int .i64 x1, .int .i64 x2, .int .i64 x3, .int .i64 x4, .int .i64 x5, .int .i64 x6, .int .i64 x7] 33))
  go_enter Try.func45, Try.ntmps45
  go_wp2
  refine bodyPost_ret (v := .tuple #[.int .i64 x2, .bool true]) (by simp [results, Try.results45, go_sem]) rfl ⟨rfl, HB.out⟩
theorem over3 (x0 x1 x2 x3 x4 x5 x6 x7 : Int) (w : World) (_hb : 0 < x1) : Calls Try.prog 45 #[.agg #[.int .i64 x0, .int .i64 x1, .int .i64 x2, .int .i64 x3, .int .i64 x4, .int .i64 x5, .int .i64 x6, .int .i64 x7], .int .i64 3] w fun e w' => e = .returned (.tuple #[.int .i64 x3, .bool true]) ∧ Below w.heap.size w w' := by
  have HB := hid ((Below.refl w.heap.size w).alloc (Nat.le_refl _) (.cells #[.int .i64 x0, .int .i64 x1, .int .i64 x2, .int .i64 x3, .int .i64 x4, .int .i64 x5, .int .i64 x6, .int .i64 x7] 33))
  go_enter Try.func45, Try.ntmps45
  go_wp2
  refine bodyPost_ret (v := .tuple #[.int .i64 x3, .bool true]) (by simp [results, Try.results45, go_sem]) rfl ⟨rfl, HB.out⟩
theorem over4 (x0 x1 x2 x3 x4 x5 x6 x7 : Int) (w : World) (_hb : 0 < x1) : Calls Try.prog 45 #[.agg #[.int .i64 x0, .int .i64 x1, .int .i64 x2, .int .i64 x3, .int .i64 x4, .int .i64 x5, .int .i64 x6, .int .i64 x7], .int .i64 4] w fun e w' => e = .returned (.tuple #[.int .i64 x4, .bool true]) ∧ Below w.heap.size w w' := by
  have HB := hid ((Below.refl w.heap.size w).alloc (Nat.le_refl _) (.cells #[.int .i64 x0, .int .i64 x1, .int .i64 x2, .int .i64 x3, .int .i64 x4, .int .i64 x5, .int .i64 x6, .int .i64 x7] 33))
  go_enter Try.func45, Try.ntmps45
  go_wp2
  refine bodyPost_ret (v := .tuple #[.int .i64 x4, .bool true]) (by simp [results, Try.results45, go_sem]) rfl ⟨rfl, HB.out⟩
theorem over5 (x0 x1 x2 x3 x4 x5 x6 x7 : Int) (w : World) (hb : 0 < x1) : Calls Try.prog 45 #[.agg #[.int .i64 x0, .int .i64 x1, .int .i64 x2, .int .i64 x3, .int .i64 x4, .int .i64 x5, .int .i64 x6, .int .i64 x7], .int .i64 5] w fun e w' => e = .returned (.tuple #[.int .i64 (fl x2 x1), .bool true]) ∧ Below w.heap.size w w' := by
  have HF := fun x => hid (f68 x2 x1 x hb)
  have HB := hid ((Below.refl w.heap.size w).alloc (Nat.le_refl _) (.cells #[.int .i64 x0, .int .i64 x1, .int .i64 x2, .int .i64 x3, .int .i64 x4, .int .i64 x5, .int .i64 x6, .int .i64 x7] 33))
  go_enter Try.func45, Try.ntmps45
  go_wp2_with (go_at_call 68; refine (HF _).out.mono ?_; rintro e w2 ⟨rfl, rfl⟩)
  refine bodyPost_ret (v := .tuple #[.int .i64 (fl x2 x1), .bool true]) (by simp [results, Try.results45, go_sem]) rfl ⟨rfl, HB.out⟩
theorem over6 (x0 x1 x2 x3 x4 x5 x6 x7 : Int) (w : World) (_hb : 0 < x1) : Calls Try.prog 45 #[.agg #[.int .i64 x0, .int .i64 x1, .int .i64 x2, .int .i64 x3, .int .i64 x4, .int .i64 x5, .int .i64 x6, .int .i64 x7], .int .i64 6] w fun e w' => e = .returned (.tuple #[.int .i64 x7, .bool true]) ∧ Below w.heap.size w w' := by
  have HB := hid ((Below.refl w.heap.size w).alloc (Nat.le_refl _) (.cells #[.int .i64 x0, .int .i64 x1, .int .i64 x2, .int .i64 x3, .int .i64 x4, .int .i64 x5, .int .i64 x6, .int .i64 x7] 33))
  go_enter Try.func45, Try.ntmps45
  go_wp2
  refine bodyPost_ret (v := .tuple #[.int .i64 x7, .bool true]) (by simp [results, Try.results45, go_sem]) rfl ⟨rfl, HB.out⟩
theorem over7 (x0 x1 x2 x3 x4 x5 x6 x7 : Int) (w : World) (_hb : 0 < x1) : Calls Try.prog 45 #[.agg #[.int .i64 x0, .int .i64 x1, .int .i64 x2, .int .i64 x3, .int .i64 x4, .int .i64 x5, .int .i64 x6, .int .i64 x7], .int .i64 7] w fun e w' => e = .returned (.tuple #[.int .i64 x5, .bool true]) ∧ Below w.heap.size w w' := by
  have HB := hid ((Below.refl w.heap.size w).alloc (Nat.le_refl _) (.cells #[.int .i64 x0, .int .i64 x1, .int .i64 x2, .int .i64 x3, .int .i64 x4, .int .i64 x5, .int .i64 x6, .int .i64 x7] 33))
  go_enter Try.func45, Try.ntmps45
  go_wp2
  refine bodyPost_ret (v := .tuple #[.int .i64 x5, .bool true]) (by simp [results, Try.results45, go_sem]) rfl ⟨rfl, HB.out⟩
theorem over8 (x0 x1 x2 x3 x4 x5 x6 x7 : Int) (w : World) (_hb : 0 < x1) : Calls Try.prog 45 #[.agg #[.int .i64 x0, .int .i64 x1, .int .i64 x2, .int .i64 x3, .int .i64 x4, .int .i64 x5, .int .i64 x6, .int .i64 x7], .int .i64 8] w fun e w' => e = .returned (.tuple #[.int .i64 x6, .bool true]) ∧ Below w.heap.size w w' := by
  have HB := hid ((Below.refl w.heap.size w).alloc (Nat.le_refl _) (.cells #[.int .i64 x0, .int .i64 x1, .int .i64 x2, .int .i64 x3, .int .i64 x4, .int .i64 x5, .int .i64 x6, .int .i64 x7] 33))
  go_enter Try.func45, Try.ntmps45
  go_wp2
  refine bodyPost_ret (v := .tuple #[.int .i64 x6, .bool true]) (by simp [results, Try.results45, go_sem]) rfl ⟨rfl, HB.out⟩
theorem over0 (x0 x1 x2 x3 x4 x5 x6 x7 o : Int) (w : World) (h1 : o ≠ 1) (h2 : o ≠ 2) (h3 : o ≠ 3) (h4 : o ≠ 4) (h5 : o ≠ 5) (h6 : o ≠ 6) (h7 : o ≠ 7) (h8 : o ≠ 8) : Calls Try.prog 45 #[.agg #[.int .i64 x0, .int .i64 x1, .int .i64 x2, .int .i64 x3, .int .i64 x4, .int .i64 x5, .int .i64 x6, .int .i64 x7], .int .i64 o] w fun e w' => e = .returned (.tuple #[.int .i64 0, .bool false]) ∧ Below w.heap.size w w' := by
  have b1 : (o == 1) = false := by rw [beq_eq_false_iff_ne]; exact h1
  have b2 : (o == 2) = false := by rw [beq_eq_false_iff_ne]; exact h2
  have b3 : (o == 3) = false := by rw [beq_eq_false_iff_ne]; exact h3
  have b4 : (o == 4) = false := by rw [beq_eq_false_iff_ne]; exact h4
  have b5 : (o == 5) = false := by rw [beq_eq_false_iff_ne]; exact h5
  have b6 : (o == 6) = false := by rw [beq_eq_false_iff_ne]; exact h6
  have b7 : (o == 7) = false := by rw [beq_eq_false_iff_ne]; exact h7
  have b8 : (o == 8) = false := by rw [beq_eq_false_iff_ne]; exact h8
  have HB := hid ((Below.refl w.heap.size w).alloc (Nat.le_refl _) (.cells #[.int .i64 x0, .int .i64 x1, .int .i64 x2, .int .i64 x3, .int .i64 x4, .int .i64 x5, .int .i64 x6, .int .i64 x7] 33))
  go_enter Try.func45, Try.ntmps45
  go_wp2
  refine bodyPost_ret (v := .tuple #[.int .i64 0, .bool false]) (by simp [results, Try.results45, go_sem]) rfl ⟨rfl, HB.out⟩
theorem f45 (p : Ag) (o : Int) (w : World) (hb : 0 < p.n) : Calls Try.prog 45 #[valA p, .int .i64 o] w fun e w' => e = .returned (.tuple #[.int .i64 (telM o p).1, .bool (telM o p).2]) ∧ Below w.heap.size w w' := by
  have ht : telM o p = match ovr o p with | some v => (v, true) | none => (0, false) := if_neg (by omega)
  rw [ht]
  obtain ⟨x0, x1, x2, x3, x4, x5, x6, x7⟩ := p
  by_cases h1 : o = 1
  · subst h1; exact over1 x0 x1 x2 x3 x4 x5 x6 x7 w hb
  by_cases h2 : o = 2
  · subst h2; exact over2 x0 x1 x2 x3 x4 x5 x6 x7 w hb
  by_cases h3 : o = 3
  · subst h3; exact over3 x0 x1 x2 x3 x4 x5 x6 x7 w hb
  by_cases h4 : o = 4
  · subst h4; exact over4 x0 x1 x2 x3 x4 x5 x6 x7 w hb
  by_cases h5 : o = 5
  · subst h5; exact over5 x0 x1 x2 x3 x4 x5 x6 x7 w hb
  by_cases h6 : o = 6
  · subst h6; exact over6 x0 x1 x2 x3 x4 x5 x6 x7 w hb
  by_cases h7 : o = 7
  · subst h7; exact over7 x0 x1 x2 x3 x4 x5 x6 x7 w hb
  by_cases h8 : o = 8
  · subst h8; exact over8 x0 x1 x2 x3 x4 x5 x6 x7 w hb
  rw [show ovr o ⟨x0, x1, x2, x3, x4, x5, x6, x7⟩ = none by simp [ovr, h1, h2, h3, h4, h5, h6, h7, h8]]
  exact over0 x0 x1 x2 x3 x4 x5 x6 x7 o w h1 h2 h3 h4 h5 h6 h7 h8

theorem bx_set0 {w1 w : World} {b : Nat} {z0 z1 z2 z3 z4 z5 z6 z7 u0 u1 u2 u3 u4 u5 u6 u7 : Int} (h : w.heap[b]? = some (.cells #[.int .i64 u0, .int .i64 u1, .int .i64 u2, .int .i64 u3, .int .i64 u4, .int .i64 u5, .int .i64 u6, .int .i64 u7] 33 (0, 0))) (hl : w1.heap.size ≤ b) (hb : Below w1.heap.size w1 w) : Bx w1 b z0 z1 z2 z3 z4 z5 z6 z7 ((((((((w.setCell ⟨b, 0, none⟩ (.int .i64 z0)).setCell ⟨b, 1, none⟩ (.int .i64 z1)).setCell ⟨b, 2, none⟩ (.int .i64 z2)).setCell ⟨b, 3, none⟩ (.int .i64 z3)).setCell ⟨b, 4, none⟩ (.int .i64 z4)).setCell ⟨b, 5, none⟩ (.int .i64 z5)).setCell ⟨b, 6, none⟩ (.int .i64 z6)).setCell ⟨b, 7, none⟩ (.int .i64 z7)) :=
  ⟨by have := (set_cell (o := 7) (x := .int .i64 z7) (set_cell (o := 6) (x := .int .i64 z6) (set_cell (o := 5) (x := .int .i64 z5) (set_cell (o := 4) (x := .int .i64 z4) (set_cell (o := 3) (x := .int .i64 z3) (set_cell (o := 2) (x := .int .i64 z2) (set_cell (o := 1) (x := .int .i64 z1) (set_cell (o := 0) (x := .int .i64 z0) h)))))))); simpa using this, hl, ((((((((hb.setCell (p := ⟨b, 0, none⟩) hl _).setCell (p := ⟨b, 1, none⟩) hl _).setCell (p := ⟨b, 2, none⟩) hl _).setCell (p := ⟨b, 3, none⟩) hl _).setCell (p := ⟨b, 4, none⟩) hl _).setCell (p := ⟨b, 5, none⟩) hl _).setCell (p := ⟨b, 6, none⟩) hl _).setCell (p := ⟨b, 7, none⟩) hl _)⟩
theorem allM_pos {L : List Ag} (h : ∀ p ∈ L, 1 ≤ p.n ∧ p.n ≤ 2000) (hl : L.length ≤ 2000) : (L = [] → (allM L).n = 0) ∧ (L ≠ [] → 1 ≤ (allM L).n) ∧ 0 ≤ (allM L).n ∧ (allM L).n ≤ 2000 * (L.length : Int) := by
  suffices H : ∀ (K : List Ag) (m : Ag) (c : Nat), (∀ p ∈ K, 1 ≤ p.n ∧ p.n ≤ 2000) → c + K.length ≤ 2000 → 0 ≤ m.n → m.n ≤ 2000 * (c : Int) → (K = [] → (K.foldl (fun m p => if m.n = 0 then p else mrg m p) m).n = m.n) ∧ (K ≠ [] ∨ 1 ≤ m.n → 1 ≤ (K.foldl (fun m p => if m.n = 0 then p else mrg m p) m).n) ∧ 0 ≤ (K.foldl (fun m p => if m.n = 0 then p else mrg m p) m).n ∧ (K.foldl (fun m p => if m.n = 0 then p else mrg m p) m).n ≤ 2000 * ((c + K.length : Nat) : Int) by
    have := H L a0 0 h (by omega) (by simp [a0]) (by simp [a0])
    refine ⟨this.1, fun e => this.2.1 (.inl e), this.2.2.1, ?_⟩
    have h2 := this.2.2.2
    rw [Nat.zero_add] at h2
    exact h2
  intro K
  induction K with
  | nil => intro m c _ _ h0 h1; exact ⟨fun _ => rfl, fun e => e.elim (fun e => absurd rfl e) (fun e => e), h0, by simpa using h1⟩
  | cons p K ih =>
    intro m c hK hc h0 h1
    have hp := hK p List.mem_cons_self
    simp only [List.length_cons] at hc
    have key : 1 ≤ (if m.n = 0 then p else mrg m p).n ∧ (if m.n = 0 then p else mrg m p).n ≤ 2000 * ((c + 1 : Nat) : Int) := by
      by_cases e : m.n = 0
      · rw [if_pos e]; exact ⟨hp.1, by omega⟩
      · rw [if_neg e]
        show 1 ≤ wrap64 (m.n + p.n) ∧ wrap64 (m.n + p.n) ≤ _
        have hw : wrap64 (m.n + p.n) = m.n + p.n := by unfold wrap64; omega
        rw [hw]
        omega
    have := ih (if m.n = 0 then p else mrg m p) (c + 1) (fun q hq => hK q (List.mem_cons_of_mem _ hq)) (by omega) (by omega) key.2
    simp only [List.foldl_cons, List.length_cons]
    refine ⟨fun e => (by cases e), fun _ => this.2.1 (.inr key.1), this.2.2.1, ?_⟩
    rw [show c + (K.length + 1) = c + 1 + K.length by omega]
    exact this.2.2.2
theorem good_n {res : Int} {ls : List Ag} (h : goodA res ls = true) : ls.length ≤ 2000 ∧ ResP res ∧ ∀ p ∈ ls, 1 ≤ p.n ∧ p.n ≤ 2000 := by
  have hg : GoodP res ls := of_decide_eq_true h
  refine ⟨hg.2.1, hg.1, fun p hp => ?_⟩
  obtain ⟨i, hi, rfl⟩ := List.mem_iff_getElem.1 hp
  have := (hg.2.2 i hi).2
  rw [show ls.getD i a0 = ls[i] by simp [hi]] at this
  exact ⟨this.1, this.2.1⟩
theorem within_n {res fr to_ : Int} {ls : List Ag} (h : goodA res ls = true) : (within fr to_ ls).length ≤ 2000 ∧ ∀ p ∈ within fr to_ ls, 1 ≤ p.n ∧ p.n ≤ 2000 := by
  obtain ⟨h1, _, h2⟩ := good_n h
  exact ⟨Nat.le_trans (List.length_filter_le _ _) h1, fun p hp => h2 p ((List.mem_filter.1 hp).1)⟩

set_option maxRecDepth 100000 in
set_option maxHeartbeats 4000000 in
theorem f20 (a : Option Addr) (c : Nat) (res fr to_ o : Int) (ls : List Ag) (w : World) (hmax : ls.length ≤ 1048576) (hr : HasA w a ls) :
    Calls Try.prog 20 #[.slice a ls.length c, .int .i64 res, .int .i64 fr, .int .i64 to_, .int .i64 o] w fun e w' => e = .returned (.tuple #[.int .i64 (aggOv res ls fr to_ o).1, .bool (aggOv res ls fr to_ o).2]) ∧ Below w.heap.size w w' := by
  have HGd := hid (f10 a c res ls w hmax hr)
  by_cases hg : goodA res ls = true
  rotate_left
  · have hg' : goodA res ls = false := by simpa using hg
    have HA : Hid (aggOv res ls fr to_ o = (0, false)) := if_neg fun h => hg h.1
    have HSp : Hid (decide (SpanP fr to_) = decide (SpanP fr to_)) := rfl
    rw [hg'] at HGd
    go_enter Try.func20, Try.ntmps20
    go_wp2_with (first | (go_at_call 10; refine HGd.out.mono ?_; rintro e w2 ⟨rfl, hb2⟩) | (go_at_call 42; refine (f42 fr to_ _).mono ?_; rw [HSp.out]; rintro e w3 ⟨rfl, rfl⟩))
    refine bodyPost_ret (v := .tuple #[.int .i64 0, .bool false]) (by simp [results, Try.results20, go_sem]) rfl ⟨by rw [HA.out], hb2⟩
  have HGood := hid hg
  rw [hg] at HGd
  obtain ⟨hn2, ⟨r1, r2⟩, _⟩ := good_n hg
  have hn0 : res ≠ 0 := by omega
  clear hg
  by_cases hs : SpanP fr to_
  rotate_left
  · have HSp := hid (decide_eq_false hs)
    have HA : Hid (aggOv res ls fr to_ o = (0, false)) := if_neg fun h => hs h.2.1
    clear hs
    go_enter Try.func20, Try.ntmps20
    go_wp2_with (first | (go_at_call 10; refine HGd.out.mono ?_; rintro e w2 ⟨rfl, hb2⟩) | (go_at_call 42; refine (f42 fr to_ _).mono ?_; rw [HSp.out]; rintro e w3 ⟨rfl, rfl⟩))
    refine bodyPost_ret (v := .tuple #[.int .i64 0, .bool false]) (by simp [results, Try.results20, go_sem]) rfl ⟨by rw [HA.out], hb2⟩
  have HSp := hid (decide_eq_true hs)
  have HSpan := hid hs
  obtain ⟨s1, s2, s3⟩ := hs
  by_cases he : 0 ≤ fr → fr % res = 0
  rotate_left
  · have HA : Hid (aggOv res ls fr to_ o = (0, false)) := if_neg fun h => he h.2.2.1
    have hf0 : 0 ≤ fr := by
      by_cases h : 0 ≤ fr
      · exact h
      · exact absurd (fun h' => absurd h' h) he
    have n1 : (fr % res != 0) = true := by rw [bne_iff_ne]; exact fun h => he fun _ => h
    have et : fr.tmod res = fr % res := Int.tmod_eq_emod_of_nonneg hf0
    clear he
    go_enter Try.func20, Try.ntmps20
    go_wp2_with (first | (go_at_call 10; refine HGd.out.mono ?_; rintro e w2 ⟨rfl, hb2⟩) | (go_at_call 42; refine (f42 fr to_ _).mono ?_; rw [HSp.out]; rintro e w3 ⟨rfl, rfl⟩))
    refine bodyPost_ret (v := .tuple #[.int .i64 0, .bool false]) (by simp [results, Try.results20, go_sem]) rfl ⟨by rw [HA.out], hb2⟩
  have HFr := hid he
  clear he
  by_cases ht : to_.tmod res = 0
  rotate_left
  · have HA : Hid (aggOv res ls fr to_ o = (0, false)) := if_neg fun h => ht h.2.2.2
    have n2 : (to_.tmod res != 0) = true := by rw [bne_iff_ne]; exact ht
    clear ht
    by_cases hf0 : 0 ≤ fr
    · have ht0 : to_.tmod res = to_ % res := Int.tmod_eq_emod_of_nonneg (by omega)
      have n1 : (fr % res != 0) = false := by rw [HFr.out hf0]; rfl
      have et : fr.tmod res = fr % res := Int.tmod_eq_emod_of_nonneg hf0
      rw [ht0] at n2
      go_enter Try.func20, Try.ntmps20
      go_wp2_with (first | (go_at_call 10; refine HGd.out.mono ?_; rintro e w2 ⟨rfl, hb2⟩) | (go_at_call 42; refine (f42 fr to_ _).mono ?_; rw [HSp.out]; rintro e w3 ⟨rfl, rfl⟩))
      refine bodyPost_ret (v := .tuple #[.int .i64 0, .bool false]) (by simp [results, Try.results20, go_sem]) rfl ⟨by rw [HA.out], hb2⟩
    · go_enter Try.func20, Try.ntmps20
      go_wp2_with (first | (go_at_call 10; refine HGd.out.mono ?_; rintro e w2 ⟨rfl, hb2⟩) | (go_at_call 42; refine (f42 fr to_ _).mono ?_; rw [HSp.out]; rintro e w3 ⟨rfl, rfl⟩))
      refine bodyPost_ret (v := .tuple #[.int .i64 0, .bool false]) (by simp [results, Try.results20, go_sem]) rfl ⟨by rw [HA.out], hb2⟩
  have HTo := hid ht
  have n2 : (to_.tmod res != 0) = false := by rw [ht]; rfl
  clear ht
  have HA : Hid (aggOv res ls fr to_ o = telM o (allM (within fr to_ ls))) := if_pos ⟨HGood.out, HSpan.out, HFr.out, HTo.out⟩
  have HPos := hid (fun k => allM_pos (L := within fr to_ (ls.take k)) (fun p hp => (within_n HGood.out (fr := fr) (to_ := to_)).2 p ((within_pre fr to_ ls k).subset hp)) (Nat.le_trans (within_pre fr to_ ls k).length_le (within_n HGood.out).1))
  generalize hn' : ls.length = n at *
  have HN := hid hn'
  clear hn'
  have HR := hid hr
  clear hr
  have nf : 0 ≤ fr → (fr % res != 0) = false ∧ fr.tmod res = fr % res := fun h => ⟨by rw [HFr.out h]; rfl, Int.tmod_eq_emod_of_nonneg h⟩
  by_cases hf0 : 0 ≤ fr
  · obtain ⟨n1, et⟩ := nf hf0
    have ht0 : to_.tmod res = to_ % res := Int.tmod_eq_emod_of_nonneg (by omega)
    rw [ht0] at n2
    clear nf
    go_enter Try.func20, Try.ntmps20
    go_wp2_with (first | (go_at_call 10; refine HGd.out.mono ?_; rintro e w2 ⟨rfl, hb2⟩) | (go_at_call 42; refine (f42 fr to_ _).mono ?_; rw [HSp.out]; rintro e w3 ⟨rfl, rfl⟩))
    have HB2 := hid hb2
    have hw3 := hb2.size
    have HB3 := hid (hb2.alloc hw3 (.cells #[.int .i64 0, .int .i64 0, .int .i64 0, .int .i64 0, .int .i64 0, .int .i64 0, .int .i64 0, .int .i64 0] 33))
    have HX3 := hid (heap_new w3 (.cells #[.int .i64 0, .int .i64 0, .int .i64 0, .int .i64 0, .int .i64 0, .int .i64 0, .int .i64 0, .int .i64 0] 33))
    clear hb2 n2 HGd HSp
    go_loopw [44] (fun si wr => ∃ k : Nat, k ≤ n ∧ si = .int .i64 k ∧ Hid (wr.heap[w3.heap.size]? = some (.cells (cells (allM (within fr to_ (ls.take k)))).toArray 33 (0, 0))) ∧ Hid (Below w.heap.size w wr)) (fun si _ => n - (intOf si).toNat)
    case atStart => exact ⟨0, Nat.zero_le _, rfl, HX3.out, HB3.out⟩
    case round =>
      obtain ⟨k, hk, rfl, HX, HB⟩ := hrel
      clear HX3 HB3 HB2
      have HPk := hid (HPos.out k)
      by_cases hlt : k < n
      rotate_left
      · obtain rfl : k = n := by omega
        have e0 : ls.take k = ls := List.take_of_length_le (by rw [HN.out]; exact Nat.le_refl _)
        rw [e0] at HX HPk
        have HT := hid (fun hb x => f45 (allM (within fr to_ ls)) o x hb)
        generalize allM (within fr to_ ls) = m at *
        obtain ⟨m0, m1, m2, m3, m4, m5, m6, m7⟩ := m
        simp only [cells] at HX
        simp only [valA] at HT
        have c0 := cell_at HX.out 0
        have c1 := cell_at HX.out 1
        have c2 := cell_at HX.out 2
        have c3 := cell_at HX.out 3
        have c4 := cell_at HX.out 4
        have c5 := cell_at HX.out 5
        have c6 := cell_at HX.out 6
        have c7 := cell_at HX.out 7
        by_cases hp : m1 < 1
        · have HM : Hid (telM o ⟨m0, m1, m2, m3, m4, m5, m6, m7⟩ = (0, false)) := if_pos hp
          go_wp2
          refine bodyPost_ret (v := .tuple #[.int .i64 0, .bool false]) (by simp [results, Try.results20, go_sem]) rfl ⟨by rw [HA.out, HM.out], HB.out⟩
        · have HT2 := fun x => hid (HT.out (show 0 < m1 by omega) x)
          clear HT
          generalize telM o ⟨m0, m1, m2, m3, m4, m5, m6, m7⟩ = tt at *
          go_wp2_with (go_at_call 45; refine (HT2 _).out.mono ?_; rintro e w4 ⟨rfl, hb4⟩)
          have HB4 := hid (HB.out.trans (hb4.mono HB.out.size))
          go_wp2
          refine bodyPost_ret (v := .tuple #[.int .i64 tt.1, .bool tt.2]) (by simp [results, Try.results20, go_sem]) rfl ⟨by rw [HA.out], HB4.out⟩
      rcases HR.out with hr | ⟨b, off, rfl, hbl, hc⟩
      · exact absurd HN.out (by rw [hr]; simp; omega)
      obtain ⟨d0, d1, d2, d3, d4, d5, d6, d7⟩ := (hc k (by rw [HN.out]; exact hlt)).below HB.out hbl
      have HHit := hid (within_hit (fr := fr) (to_ := to_) (ls := ls) (k := k) (by rw [HN.out]; exact hlt))
      have HMiss := hid (within_miss (fr := fr) (to_ := to_) (ls := ls) (k := k) (by rw [HN.out]; exact hlt))
      have HSn := hid (allM_snoc (within fr to_ (ls.take k)) (ls.getD k a0))
      have HIn : Hid (∀ p : Ag, inSp fr to_ p = (decide (fr < p.t) && decide (p.t ≤ to_))) := fun _ => rfl
      clear hc HPos
      generalize ls.getD k a0 = p at *
      obtain ⟨x0, x1, x2, x3, x4, x5, x6, x7⟩ := p
      simp only at d0 d1 d2 d3 d4 d5 d6 d7
      have i1 : (k : Int) < (n : Int) := by omega
      have hwr := HB.out.size
      have lb : b < wr.heap.size := by omega
      have HXa := hid (box_below HX.out ((Below.refl _ wr).alloc (Nat.le_refl _) (.cells #[.int .i64 x0, .int .i64 x1, .int .i64 x2, .int .i64 x3, .int .i64 x4, .int .i64 x5, .int .i64 x6, .int .i64 x7] 33)))
      have HNw := hid (heap_new wr (.cells #[.int .i64 x0, .int .i64 x1, .int .i64 x2, .int .i64 x3, .int .i64 x4, .int .i64 x5, .int .i64 x6, .int .i64 x7] 33))
      have HBa := hid (HB.out.alloc hwr (.cells #[.int .i64 x0, .int .i64 x1, .int .i64 x2, .int .i64 x3, .int .i64 x4, .int .i64 x5, .int .i64 x6, .int .i64 x7] 33))
      have lX := lt_block HX.out
      by_cases h1 : x0 ≤ fr
      · have HM := hid (HMiss.out (by rw [HIn.out]; simp [show ¬ fr < x0 by omega]))
        go_wp2
        go_roundw
        case rel => exact ⟨k + 1, by omega, by go_num, by unfold Hid; rw [HM.out]; exact HXa.out, HBa⟩
        case measure => simp [intOf]; omega
      by_cases h2 : to_ < x0
      · have HM := hid (HMiss.out (by rw [HIn.out]; simp [show ¬ x0 ≤ to_ by omega]))
        go_wp2
        go_roundw
        case rel => exact ⟨k + 1, by omega, by go_num, by unfold Hid; rw [HM.out]; exact HXa.out, HBa⟩
        case measure => simp [intOf]; omega
      have HH := hid (HHit.out (by rw [HIn.out]; simp [show fr < x0 by omega, show x0 ≤ to_ by omega]))
      clear HHit HMiss
      generalize allM (within fr to_ (ls.take k)) = m at *
      obtain ⟨m0, m1, m2, m3, m4, m5, m6, m7⟩ := m
      simp only [cells] at HX HXa
      simp only at HSn
      have c0 := cell_at HXa.out 0
      have c1 := cell_at HXa.out 1
      have c2 := cell_at HXa.out 2
      have c3 := cell_at HXa.out 3
      have c4 := cell_at HXa.out 4
      have c5 := cell_at HXa.out 5
      have c6 := cell_at HXa.out 6
      have c7 := cell_at HXa.out 7
      have f0 := froz_at HXa.out 0
      have f1 := froz_at HXa.out 1
      have f2 := froz_at HXa.out 2
      have f3 := froz_at HXa.out 3
      have f4 := froz_at HXa.out 4
      have f5 := froz_at HXa.out 5
      have f6 := froz_at HXa.out 6
      have f7 := froz_at HXa.out 7
      have g0 := cell_at HNw.out 0
      have g1 := cell_at HNw.out 1
      have g2 := cell_at HNw.out 2
      have g3 := cell_at HNw.out 3
      have g4 := cell_at HNw.out 4
      have g5 := cell_at HNw.out 5
      have g6 := cell_at HNw.out 6
      have g7 := cell_at HNw.out 7
      by_cases h3 : m1 = 0
      · have HM : Hid (allM (within fr to_ (ls.take (k + 1))) = ⟨x0, x1, x2, x3, x4, x5, x6, x7⟩) := by unfold Hid; rw [HH.out, HSn.out, if_pos h3]
        have HBx := hid (bx_set0 (w1 := w) (z0 := x0) (z1 := x1) (z2 := x2) (z3 := x3) (z4 := x4) (z5 := x5) (z6 := x6) (z7 := x7) HXa.out hw3 HBa.out)
        subst h3
        clear HXa
        go_upto_region 7 with fail
        generalize wr.alloc (.cells #[.int .i64 x0, .int .i64 x1, .int .i64 x2, .int .i64 x3, .int .i64 x4, .int .i64 x5, .int .i64 x6, .int .i64 x7] 33) = W1 at *
        generalize wr.heap.size = A at *
        go_wp2
        go_roundw
        case rel => exact ⟨k + 1, by omega, by go_num, by unfold Hid; rw [HM.out]; exact HBx.out.x, HBx.out.bel⟩
        case measure => simp [intOf]; omega
      · have h3' : (m1 == 0) = false := by rw [beq_eq_false_iff_ne]; exact h3
        have HF := hid (f49 m0 m1 m2 m3 m4 m5 m6 m7 x0 x1 x2 x3 x4 x5 x6 x7)
        have HM : Hid (allM (within fr to_ (ls.take (k + 1))) = mrg ⟨m0, m1, m2, m3, m4, m5, m6, m7⟩ ⟨x0, x1, x2, x3, x4, x5, x6, x7⟩) := by unfold Hid; rw [HH.out, HSn.out, if_neg h3]
        generalize mrg ⟨m0, m1, m2, m3, m4, m5, m6, m7⟩ ⟨x0, x1, x2, x3, x4, x5, x6, x7⟩ = q at *
        obtain ⟨z0, z1, z2, z3, z4, z5, z6, z7⟩ := q
        simp only [valA] at HF
        clear h3
        go_wp2_with (go_at_call 49; refine (HF.out _).mono ?_; rintro e w4 ⟨rfl, hb4⟩; have HX4 := hid (box_below HXa.out hb4); clear c0 f0 c1 f1 c2 f2 c3 f3 c4 f4 c5 f5 c6 f6 c7 f7; have c0 := cell_at HX4.out 0; have c1 := cell_at HX4.out 1; have c2 := cell_at HX4.out 2; have c3 := cell_at HX4.out 3; have c4 := cell_at HX4.out 4; have c5 := cell_at HX4.out 5; have c6 := cell_at HX4.out 6; have c7 := cell_at HX4.out 7; have f0 := froz_at HX4.out 0; have f1 := froz_at HX4.out 1; have f2 := froz_at HX4.out 2; have f3 := froz_at HX4.out 3; have f4 := froz_at HX4.out 4; have f5 := froz_at HX4.out 5; have f6 := froz_at HX4.out 6; have f7 := froz_at HX4.out 7)
        have HB4 := hid (HBa.out.trans (hb4.mono HBa.out.size))
        have HBx := hid (bx_set0 (w1 := w) (z0 := z0) (z1 := z1) (z2 := z2) (z3 := z3) (z4 := z4) (z5 := z5) (z6 := z6) (z7 := z7) HX4.out hw3 HB4.out)
        go_wp2
        go_roundw
        case rel => exact ⟨k + 1, by omega, by go_num, by unfold Hid; rw [HM.out]; exact HBx.out.x, HBx.out.bel⟩
        case measure => simp [intOf]; omega
  · clear nf
    go_enter Try.func20, Try.ntmps20
    go_wp2_with (first | (go_at_call 10; refine HGd.out.mono ?_; rintro e w2 ⟨rfl, hb2⟩) | (go_at_call 42; refine (f42 fr to_ _).mono ?_; rw [HSp.out]; rintro e w3 ⟨rfl, rfl⟩))
    have HB2 := hid hb2
    have hw3 := hb2.size
    have HB3 := hid (hb2.alloc hw3 (.cells #[.int .i64 0, .int .i64 0, .int .i64 0, .int .i64 0, .int .i64 0, .int .i64 0, .int .i64 0, .int .i64 0] 33))
    have HX3 := hid (heap_new w3 (.cells #[.int .i64 0, .int .i64 0, .int .i64 0, .int .i64 0, .int .i64 0, .int .i64 0, .int .i64 0, .int .i64 0] 33))
    clear hb2 n2 HGd HSp
    go_loopw [44] (fun si wr => ∃ k : Nat, k ≤ n ∧ si = .int .i64 k ∧ Hid (wr.heap[w3.heap.size]? = some (.cells (cells (allM (within fr to_ (ls.take k)))).toArray 33 (0, 0))) ∧ Hid (Below w.heap.size w wr)) (fun si _ => n - (intOf si).toNat)
    case atStart => exact ⟨0, Nat.zero_le _, rfl, HX3.out, HB3.out⟩
    case round =>
      obtain ⟨k, hk, rfl, HX, HB⟩ := hrel
      clear HX3 HB3 HB2
      have HPk := hid (HPos.out k)
      by_cases hlt : k < n
      rotate_left
      · obtain rfl : k = n := by omega
        have e0 : ls.take k = ls := List.take_of_length_le (by rw [HN.out]; exact Nat.le_refl _)
        rw [e0] at HX HPk
        have HT := hid (fun hb x => f45 (allM (within fr to_ ls)) o x hb)
        generalize allM (within fr to_ ls) = m at *
        obtain ⟨m0, m1, m2, m3, m4, m5, m6, m7⟩ := m
        simp only [cells] at HX
        simp only [valA] at HT
        have c0 := cell_at HX.out 0
        have c1 := cell_at HX.out 1
        have c2 := cell_at HX.out 2
        have c3 := cell_at HX.out 3
        have c4 := cell_at HX.out 4
        have c5 := cell_at HX.out 5
        have c6 := cell_at HX.out 6
        have c7 := cell_at HX.out 7
        by_cases hp : m1 < 1
        · have HM : Hid (telM o ⟨m0, m1, m2, m3, m4, m5, m6, m7⟩ = (0, false)) := if_pos hp
          go_wp2
          refine bodyPost_ret (v := .tuple #[.int .i64 0, .bool false]) (by simp [results, Try.results20, go_sem]) rfl ⟨by rw [HA.out, HM.out], HB.out⟩
        · have HT2 := fun x => hid (HT.out (show 0 < m1 by omega) x)
          clear HT
          generalize telM o ⟨m0, m1, m2, m3, m4, m5, m6, m7⟩ = tt at *
          go_wp2_with (go_at_call 45; refine (HT2 _).out.mono ?_; rintro e w4 ⟨rfl, hb4⟩)
          have HB4 := hid (HB.out.trans (hb4.mono HB.out.size))
          go_wp2
          refine bodyPost_ret (v := .tuple #[.int .i64 tt.1, .bool tt.2]) (by simp [results, Try.results20, go_sem]) rfl ⟨by rw [HA.out], HB4.out⟩
      rcases HR.out with hr | ⟨b, off, rfl, hbl, hc⟩
      · exact absurd HN.out (by rw [hr]; simp; omega)
      obtain ⟨d0, d1, d2, d3, d4, d5, d6, d7⟩ := (hc k (by rw [HN.out]; exact hlt)).below HB.out hbl
      have HHit := hid (within_hit (fr := fr) (to_ := to_) (ls := ls) (k := k) (by rw [HN.out]; exact hlt))
      have HMiss := hid (within_miss (fr := fr) (to_ := to_) (ls := ls) (k := k) (by rw [HN.out]; exact hlt))
      have HSn := hid (allM_snoc (within fr to_ (ls.take k)) (ls.getD k a0))
      have HIn : Hid (∀ p : Ag, inSp fr to_ p = (decide (fr < p.t) && decide (p.t ≤ to_))) := fun _ => rfl
      clear hc HPos
      generalize ls.getD k a0 = p at *
      obtain ⟨x0, x1, x2, x3, x4, x5, x6, x7⟩ := p
      simp only at d0 d1 d2 d3 d4 d5 d6 d7
      have i1 : (k : Int) < (n : Int) := by omega
      have hwr := HB.out.size
      have lb : b < wr.heap.size := by omega
      have HXa := hid (box_below HX.out ((Below.refl _ wr).alloc (Nat.le_refl _) (.cells #[.int .i64 x0, .int .i64 x1, .int .i64 x2, .int .i64 x3, .int .i64 x4, .int .i64 x5, .int .i64 x6, .int .i64 x7] 33)))
      have HNw := hid (heap_new wr (.cells #[.int .i64 x0, .int .i64 x1, .int .i64 x2, .int .i64 x3, .int .i64 x4, .int .i64 x5, .int .i64 x6, .int .i64 x7] 33))
      have HBa := hid (HB.out.alloc hwr (.cells #[.int .i64 x0, .int .i64 x1, .int .i64 x2, .int .i64 x3, .int .i64 x4, .int .i64 x5, .int .i64 x6, .int .i64 x7] 33))
      have lX := lt_block HX.out
      by_cases h1 : x0 ≤ fr
      · have HM := hid (HMiss.out (by rw [HIn.out]; simp [show ¬ fr < x0 by omega]))
        go_wp2
        go_roundw
        case rel => exact ⟨k + 1, by omega, by go_num, by unfold Hid; rw [HM.out]; exact HXa.out, HBa⟩
        case measure => simp [intOf]; omega
      by_cases h2 : to_ < x0
      · have HM := hid (HMiss.out (by rw [HIn.out]; simp [show ¬ x0 ≤ to_ by omega]))
        go_wp2
        go_roundw
        case rel => exact ⟨k + 1, by omega, by go_num, by unfold Hid; rw [HM.out]; exact HXa.out, HBa⟩
        case measure => simp [intOf]; omega
      have HH := hid (HHit.out (by rw [HIn.out]; simp [show fr < x0 by omega, show x0 ≤ to_ by omega]))
      clear HHit HMiss
      generalize allM (within fr to_ (ls.take k)) = m at *
      obtain ⟨m0, m1, m2, m3, m4, m5, m6, m7⟩ := m
      simp only [cells] at HX HXa
      simp only at HSn
      have c0 := cell_at HXa.out 0
      have c1 := cell_at HXa.out 1
      have c2 := cell_at HXa.out 2
      have c3 := cell_at HXa.out 3
      have c4 := cell_at HXa.out 4
      have c5 := cell_at HXa.out 5
      have c6 := cell_at HXa.out 6
      have c7 := cell_at HXa.out 7
      have f0 := froz_at HXa.out 0
      have f1 := froz_at HXa.out 1
      have f2 := froz_at HXa.out 2
      have f3 := froz_at HXa.out 3
      have f4 := froz_at HXa.out 4
      have f5 := froz_at HXa.out 5
      have f6 := froz_at HXa.out 6
      have f7 := froz_at HXa.out 7
      have g0 := cell_at HNw.out 0
      have g1 := cell_at HNw.out 1
      have g2 := cell_at HNw.out 2
      have g3 := cell_at HNw.out 3
      have g4 := cell_at HNw.out 4
      have g5 := cell_at HNw.out 5
      have g6 := cell_at HNw.out 6
      have g7 := cell_at HNw.out 7
      by_cases h3 : m1 = 0
      · have HM : Hid (allM (within fr to_ (ls.take (k + 1))) = ⟨x0, x1, x2, x3, x4, x5, x6, x7⟩) := by unfold Hid; rw [HH.out, HSn.out, if_pos h3]
        have HBx := hid (bx_set0 (w1 := w) (z0 := x0) (z1 := x1) (z2 := x2) (z3 := x3) (z4 := x4) (z5 := x5) (z6 := x6) (z7 := x7) HXa.out hw3 HBa.out)
        subst h3
        clear HXa
        go_upto_region 7 with fail
        generalize wr.alloc (.cells #[.int .i64 x0, .int .i64 x1, .int .i64 x2, .int .i64 x3, .int .i64 x4, .int .i64 x5, .int .i64 x6, .int .i64 x7] 33) = W1 at *
        generalize wr.heap.size = A at *
        go_wp2
        go_roundw
        case rel => exact ⟨k + 1, by omega, by go_num, by unfold Hid; rw [HM.out]; exact HBx.out.x, HBx.out.bel⟩
        case measure => simp [intOf]; omega
      · have h3' : (m1 == 0) = false := by rw [beq_eq_false_iff_ne]; exact h3
        have HF := hid (f49 m0 m1 m2 m3 m4 m5 m6 m7 x0 x1 x2 x3 x4 x5 x6 x7)
        have HM : Hid (allM (within fr to_ (ls.take (k + 1))) = mrg ⟨m0, m1, m2, m3, m4, m5, m6, m7⟩ ⟨x0, x1, x2, x3, x4, x5, x6, x7⟩) := by unfold Hid; rw [HH.out, HSn.out, if_neg h3]
        generalize mrg ⟨m0, m1, m2, m3, m4, m5, m6, m7⟩ ⟨x0, x1, x2, x3, x4, x5, x6, x7⟩ = q at *
        obtain ⟨z0, z1, z2, z3, z4, z5, z6, z7⟩ := q
        simp only [valA] at HF
        clear h3
        go_wp2_with (go_at_call 49; refine (HF.out _).mono ?_; rintro e w4 ⟨rfl, hb4⟩; have HX4 := hid (box_below HXa.out hb4); clear c0 f0 c1 f1 c2 f2 c3 f3 c4 f4 c5 f5 c6 f6 c7 f7; have c0 := cell_at HX4.out 0; have c1 := cell_at HX4.out 1; have c2 := cell_at HX4.out 2; have c3 := cell_at HX4.out 3; have c4 := cell_at HX4.out 4; have c5 := cell_at HX4.out 5; have c6 := cell_at HX4.out 6; have c7 := cell_at HX4.out 7; have f0 := froz_at HX4.out 0; have f1 := froz_at HX4.out 1; have f2 := froz_at HX4.out 2; have f3 := froz_at HX4.out 3; have f4 := froz_at HX4.out 4; have f5 := froz_at HX4.out 5; have f6 := froz_at HX4.out 6; have f7 := froz_at HX4.out 7)
        have HB4 := hid (HBa.out.trans (hb4.mono HBa.out.size))
        have HBx := hid (bx_set0 (w1 := w) (z0 := z0) (z1 := z1) (z2 := z2) (z3 := z3) (z4 := z4) (z5 := z5) (z6 := z6) (z7 := z7) HX4.out hw3 HB4.out)
        go_wp2
        go_roundw
        case rel => exact ⟨k + 1, by omega, by go_num, by unfold Hid; rw [HM.out]; exact HBx.out.x, HBx.out.bel⟩
        case measure => simp [intOf]; omega
end Go.Proofs.Ytpbnneelpdacdaa.Agl
