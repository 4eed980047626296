/- Lists of labels compared, in the model and in the program. -/
import Derived.Test.YtaanafejhgijnaaGi
namespace Go.Proofs.Ytaanafejhgijnaa.Lab
open Go.RowKit Go.Proofs.Ytaanafejhgijnaa.Str

def orC (x y : Int) : Int := if x = 0 then y else x
def cmpV (p q : Lb) : Int := Lib.compareBytes p.2.data.toList q.2.data.toList
def cmpL (p q : Lb) : Int := orC (cmpN p q) (cmpV p q)
def cmpList : List Lb → List Lb → Int
  | [], [] => 0
  | [], _ :: _ => -1
  | _ :: _, [] => 1
  | p :: a, q :: b => orC (cmpL p q) (cmpList a b)

theorem lst_at : ∀ (k : Nat) (a b : List Lb), k < a.length → k < b.length → (∀ i, i < k → cmpL (a.getD i e0) (b.getD i e0) = 0) → cmpL (a.getD k e0) (b.getD k e0) ≠ 0 → cmpList a b = cmpL (a.getD k e0) (b.getD k e0) := by
  intro k
  induction k with
  | zero =>
    intro a b ha hb _ hne
    match a, b, ha, hb with
    | x :: a, y :: b, _, _ =>
      simp only [List.getD_cons_zero] at hne ⊢
      unfold cmpList; conv => lhs; unfold orC
      rw [if_neg hne]
  | succ k ih =>
    intro a b ha hb he hne
    match a, b, ha, hb with
    | x :: a, y :: b, ha, hb =>
      have h0 := he 0 (by omega)
      simp only [List.getD_cons_zero] at h0
      simp only [List.getD_cons_succ] at hne ⊢
      rw [← ih a b (by simpa using ha) (by simpa using hb) (fun i hi => by have := he (i + 1) (by omega); simpa using this) hne]
      conv => lhs; unfold cmpList; unfold orC
      rw [if_pos h0]
theorem lst_end : ∀ (k : Nat) (a b : List Lb), (∀ i, i < k → cmpL (a.getD i e0) (b.getD i e0) = 0) → k ≤ a.length → k ≤ b.length → (a.length ≤ k ∨ b.length ≤ k) → cmpList a b = numC a.length b.length := by
  intro k
  induction k with
  | zero =>
    intro a b _ _ _ h
    cases a with
    | nil =>
      cases b with
      | nil => rfl
      | cons y b => unfold cmpList numC; rw [if_pos (by simp)]
    | cons x a =>
      cases b with
      | nil => unfold cmpList numC; rw [if_neg (by simp; omega), if_pos (by simp)]
      | cons y b => simp at h
  | succ k ih =>
    intro a b he ha hb h
    match a, b, ha, hb with
    | x :: a, y :: b, ha, hb =>
      have h0 := he 0 (by omega)
      simp only [List.getD_cons_zero] at h0
      have e := ih a b (fun i hi => by have := he (i + 1) (by omega); simpa using this) (by simpa using ha) (by simpa using hb) (by simpa using h)
      have e2 : numC ((x :: a).length : Nat) ((y :: b).length : Nat) = numC a.length b.length := by
        unfold numC; simp
      rw [e2, ← e]
      conv => lhs; unfold cmpList; unfold orC
      rw [if_pos h0]

theorem f57 (x : Int) (w : World) : Calls Try.prog 57 #[.int .i64 x] w fun e w' => e = .returned (.bool false) ∧ w' = w := by
  go_enter Try.func57, Try.ntmps57
  go_wp2
  go_ret
  exact ⟨rfl, rfl⟩
theorem f54 (x y : Int) (w : World) : Calls Try.prog 54 #[.int .i64 x, .int .i64 y] w fun e w' => e = .returned (.int .i64 (numC x y)) ∧ w' = w := by
  by_cases h1 : x < y
  · go_enter Try.func54, Try.ntmps54
    go_wp2_with (go_at_call 57; refine (f57 _ _).mono ?_; rintro e w' ⟨rfl, rfl⟩)
    go_ret
    exact ⟨ret_int (by unfold numC; rw [if_pos h1]), rfl⟩
  · by_cases h2 : y < x
    · go_enter Try.func54, Try.ntmps54
      go_wp2_with (go_at_call 57; refine (f57 _ _).mono ?_; rintro e w' ⟨rfl, rfl⟩)
      go_ret
      exact ⟨ret_int (by unfold numC; rw [if_neg (by omega), if_pos h2]), rfl⟩
    · go_enter Try.func54, Try.ntmps54
      go_wp2_with (go_at_call 57; refine (f57 _ _).mono ?_; rintro e w' ⟨rfl, rfl⟩)
      go_ret
      exact ⟨ret_int (by unfold numC; rw [if_neg (by omega), if_neg (by omega)]), rfl⟩

theorem f55 (g : Nat) (x y : Int) (w : World) (c0 : w.cell? ⟨g, 0, none⟩ = some (.int .i64 x)) (c1 : w.cell? ⟨g, 1, none⟩ = some (.int .i64 y)) :
    Calls Try.prog 55 #[.slice (some ⟨g, 0, none⟩) 2 2] w fun e w' => e = .returned (.int .i64 (orC x y)) ∧ w' = w := by
  go_enter Try.func55, Try.ntmps55
  go_wp2
  go_loop [8] (fun i => ∃ k : Nat, k ≤ 2 ∧ i = .int .i64 k ∧ Hid (0 < k → x = 0) ∧ Hid (1 < k → y = 0)) (fun i => 2 - (intOf i).toNat)
  case atStart => exact ⟨0, by omega, rfl, fun h => by omega, fun h => by omega⟩
  case round =>
    obtain ⟨k, hk, rfl, h1, h2⟩ := hrel
    by_cases hk0 : k = 0
    · subst hk0
      by_cases hx : x = 0
      · have HX := hid hx
        have hx' : (x != 0) = false := by simp [hx]
        clear hx
        go_wp2
        go_round
        case rel => exact ⟨1, by omega, by go_num, fun _ => HX.out, fun h => by omega⟩
        case measure => simp [intOf]
      · have HX := hid hx
        have hx' : (x != 0) = true := by simp [hx]
        clear hx
        go_wp2
        go_ret
        exact ⟨ret_int (by unfold orC; rw [if_neg HX.out]), rfl⟩
    · by_cases hk1 : k = 1
      · subst hk1
        by_cases hy : y = 0
        · have HY := hid hy
          have hy' : (y != 0) = false := by simp [hy]
          clear hy
          go_wp2
          go_round
          case rel => exact ⟨2, by omega, by go_num, fun _ => h1.out (by omega), fun _ => HY.out⟩
          case measure => simp [intOf]
        · have HY := hid hy
          have hy' : (y != 0) = true := by simp [hy]
          clear hy
          go_wp2
          go_ret
          exact ⟨ret_int (by unfold orC; rw [if_pos (h1.out (by omega))]), rfl⟩
      · obtain rfl : k = 2 := by omega
        go_wp2
        go_ret
        exact ⟨ret_int (by unfold orC; rw [if_pos (h1.out (by omega)), h2.out (by omega)]), rfl⟩
end Go.Proofs.Ytaanafejhgijnaa.Lab
