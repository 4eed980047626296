/- Rows of labels of the call's own, or none: marked, held. -/
import Derived.Test.YtigakbhficoonaaMh
namespace Go.Proofs.Ytigakbhficoonaa.Lab
open Go.RowKit Go.Proofs.Ytigakbhficoonaa.Str

theorem own_cases {w : World} {base e size n c : Nat} {a : Option Addr} {xs : List Value} (h : w.ownsRow base e size (.slice a n c) n xs) : (a = none ∧ n = 0 ∧ c = 0) ∨ ∃ g, a = some ⟨g, 0, none⟩ := by
  rcases h.2 with ⟨h1, _⟩ | ⟨g, cap, cur, h1, _⟩
  · simp only [Value.slice.injEq] at h1; exact .inl ⟨h1.1, h1.2.1, h1.2.2⟩
  · simp only [Value.slice.injEq] at h1; exact .inr ⟨g, h1.1⟩
theorem own_len {w : World} {base n c : Nat} {a : Option Addr} {ls : List Lb} (h : w.ownsRow base 33 2 (.slice a n c) n (flat ls)) : ls.length = n := by
  have := h.1; rw [flat_len] at this; omega
theorem HasL.owno {w : World} {base n c : Nat} {a : Option Addr} {ls : List Lb} (h : w.ownsRow base 33 2 (.slice a n c) n (flat ls)) : HasL w a ls := by
  rcases own_cases h with ⟨rfl, rfl, rfl⟩ | ⟨g, rfl⟩
  · exact .inl (List.eq_nil_of_length_eq_zero (own_len h))
  · exact HasL.own h
theorem grown_refl (w : World) (r : Option Nat) : w.grownBy w r := ⟨rfl, rfl, rfl, Nat.le_refl _, fun _ _ _ => rfl⟩
theorem f8o (a : Option Addr) (n c base k : Nat) (ls : List Lb) (w : World) (hk : k + 2 * n ≤ 100000000) (hown : w.ownsRow base 33 2 (.slice a n c) n (flat ls)) :
    Calls Try.prog 8 #[.slice a n c, .int .i64 k] w fun e w' => e = .returned (.int .i64 ((k + 2 * n : Nat) : Int)) ∧ w'.ownsRow base 33 2 (.slice a n c) n (flat (markL k n)) ∧ w.grownBy w' (Value.slice a n c).ownBlock := by
  rcases own_cases hown with ⟨rfl, rfl, rfl⟩ | ⟨g, rfl⟩
  · refine (f8n k w).mono ?_
    rintro e w' ⟨rfl, rfl⟩
    exact ⟨rfl, World.ownsRow_nil _ _ _ _, grown_refl _ _⟩
  · exact f8 g n c base k ls w (own_len hown) hk hown
theorem f9o (a : Option Addr) (n c base k : Nat) (w : World) (hk : k + 2 * n ≤ 100000000) (hown : w.ownsRow base 33 2 (.slice a n c) n (flat (markL k n))) :
    Calls Try.prog 9 #[.slice a n c, .int .i64 k] w fun e w' => e = .returned (.int .i64 ((k + 2 * n : Nat) : Int)) ∧ Below w.heap.size w w' := by
  rcases own_cases hown with ⟨rfl, rfl, rfl⟩ | ⟨g, rfl⟩
  · refine (f9n k w).mono ?_
    rintro e w' ⟨rfl, rfl⟩
    exact ⟨rfl, Below.refl _ _⟩
  · exact f9 g n c k w hk (HasL.own hown)
end Go.Proofs.Ytigakbhficoonaa.Lab
