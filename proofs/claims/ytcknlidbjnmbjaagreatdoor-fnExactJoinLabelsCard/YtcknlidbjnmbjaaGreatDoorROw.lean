/- Rows of labels of the call's own: plain facts. -/
import Derived.Test.YtcknlidbjnmbjaaGreatDoorRLA
namespace Go.Proofs.YtcknlidbjnmbjaaGreatDoor.Lab
open Go.RowKit
theorem own_cases {w : World} {base e size n c : Nat} {a : Option Addr} {xs : List Value} (h : w.ownsRow base e size (.slice a n c) n xs) : (a = none ∧ n = 0 ∧ c = 0) ∨ ∃ g, a = some ⟨g, 0, none⟩ := by
  rcases h.2 with ⟨h1, _⟩ | ⟨g, cap, cur, h1, _⟩
  · simp only [Value.slice.injEq] at h1; exact .inl ⟨h1.1, h1.2.1, h1.2.2⟩
  · simp only [Value.slice.injEq] at h1; exact .inr ⟨g, h1.1⟩
theorem own_len {w : World} {base n c : Nat} {a : Option Addr} {ls : List Lb} (h : w.ownsRow base 48 2 (.slice a n c) n (flat ls)) : ls.length = n := by
  have := h.1; rw [flat_len] at this; omega
theorem HasL.owno {w : World} {base n c : Nat} {a : Option Addr} {ls : List Lb} (h : w.ownsRow base 48 2 (.slice a n c) n (flat ls)) : HasL w a ls := by
  rcases own_cases h with ⟨rfl, rfl, rfl⟩ | ⟨g, rfl⟩
  · exact .inl (List.eq_nil_of_length_eq_zero (own_len h))
  · exact HasL.own h
theorem grown_refl (w : World) (r : Option Nat) : w.grownBy w r := ⟨rfl, rfl, rfl, Nat.le_refl _, fun _ _ _ => rfl⟩
theorem own_based {w : World} {base base' e size n : Nat} {v : Value} {xs : List Value} (h : w.ownsRow base e size v n xs) (hb : base' ≤ base) : w.ownsRow base' e size v n xs := by
  refine ⟨h.1, ?_⟩
  rcases h.2 with h2 | ⟨g, cap, cur, h1, h2, h3⟩
  · exact .inl h2
  · exact .inr ⟨g, cap, cur, h1, by omega, h3⟩
end Go.Proofs.YtcknlidbjnmbjaaGreatDoor.Lab
