/- The walks of FnExactKeepLabels and FnExactDropLabels. -/
import Derived.Test.YtbjlnaaheahhnaaDoorKd
namespace Go.Proofs.YtbjlnaaheahhnaaDoor.Lab
open Go.RowKit Go.Proofs.YtbjlnaaheahhnaaDoor.Str

theorem own_cases {w : World} {base e size n c : Nat} {a : Option Addr} {xs : List Value} (h : w.ownsRow base e size (.slice a n c) n xs) : (a = none ∧ n = 0 ∧ c = 0) ∨ ∃ g, a = some ⟨g, 0, none⟩ := by
  rcases h.2 with ⟨h1, _⟩ | ⟨g, cap, cur, h1, _⟩
  · simp only [Value.slice.injEq] at h1; exact .inl ⟨h1.1, h1.2.1, h1.2.2⟩
  · simp only [Value.slice.injEq] at h1; exact .inr ⟨g, h1.1⟩
theorem grown_refl (w : World) (r : Option Nat) : w.grownBy w r := ⟨rfl, rfl, rfl, Nat.le_refl _, fun _ _ _ => rfl⟩
theorem selR_len (ls : List Lb) (ss : List ByteArray) (b : Bool) : (selR ls ss b).length ≤ 20 := by
  unfold selR
  split
  · rename_i h
    have h1 := (good_iff h.1).1
    have h2 := List.length_filter_le (fun p : Lb => hasB ss p.1 == b) ls
    unfold selL
    omega
  · simp

end Go.Proofs.YtbjlnaaheahhnaaDoor.Lab
