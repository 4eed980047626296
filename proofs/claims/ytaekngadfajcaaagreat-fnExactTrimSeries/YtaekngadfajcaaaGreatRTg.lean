/- Rows of the call's own: compared, marked, held; the walk of FnExactCutSamples. -/
import Derived.Test.YtaekngadfajcaaaGreatRTf
namespace Go.Proofs.YtaekngadfajcaaaGreat.Smp
open Go.RowKit

theorem Own.cases {w : World} {base : Nat} {v : Value} {L : List Sm} (h : Own w base v L) : (L = [] ∧ v = .slice none 0 0) ∨ ∃ g c, v = .slice (some ⟨g, 0, none⟩) L.length c := by
  unfold Own at h
  rcases h.2 with ⟨h1, h2⟩ | ⟨g, cap, cur, h1, _⟩
  · exact .inl ⟨List.eq_nil_of_length_eq_zero h2, h1⟩
  · exact .inr ⟨g, cap, h1⟩
theorem Own.has {w : World} {base : Nat} {a : Option Addr} {n c : Nat} {L : List Sm} (h : Own w base (.slice a n c) L) : n = L.length ∧ HasS w a L := by
  obtain ⟨a', c', h1⟩ := own_form h
  simp only [Value.slice.injEq] at h1
  obtain ⟨rfl, rfl, rfl⟩ := h1
  exact ⟨rfl, HasS.own h⟩
theorem Own.kept {w w' : World} {base : Nat} {r : Option Nat} {v : Value} {L : List Sm} (h : Own w base v L) (hg : w.grownBy w' r) (hne : ∀ k, v.ownBlock = some k → r ≠ some k) : Own w' base v L :=
  World.ownsRow.kept h hg (by
    cases hv : v.ownBlock with
    | none => exact .inl rfl
    | some k => exact .inr (fun e => hne k hv e.symm))
theorem Own.lt {w : World} {base : Nat} {v : Value} {L : List Sm} (h : Own w base v L) : ∀ k, v.ownBlock = some k → base ≤ k ∧ k < w.heap.size := World.ownsRow.lt h
theorem Own.mono {w : World} {base base' : Nat} {v : Value} {L : List Sm} (h : Own w base v L) (hb : base' ≤ base) : Own w base' v L := World.ownsRow.mono h hb
theorem grown_refl (w : World) (r : Option Nat) : w.grownBy w r := ⟨rfl, rfl, rfl, Nat.le_refl _, fun _ _ _ => rfl⟩

theorem eqO {w : World} {b b' : Nat} {v v' : Value} {L : List Sm} (hb : L.length ≤ 1048576) (h : Own w b v L) (h' : Own w b' v' L) :
    Calls Tryz.prog 58 #[v, v'] w fun e w' => e = .returned (.bool true) ∧ Below w.heap.size w w' := by
  obtain ⟨a, c, rfl⟩ := own_form h
  obtain ⟨a', c', rfl⟩ := own_form h'
  exact f58 a a' c c' L w hb h.has.2 h'.has.2
theorem markO {w : World} {base : Nat} {v : Value} {L : List Sm} (k : Nat) (hk : k + 2 * L.length ≤ 100000000) (h : Own w base v L) :
    Calls Tryz.prog 30 #[v, .int .i64 k] w fun e w' => e = .returned (.int .i64 ((k + 2 * L.length : Nat) : Int)) ∧ Own w' base v (markL k L.length) ∧ w.grownBy w' v.ownBlock := by
  rcases h.cases with ⟨rfl, rfl⟩ | ⟨g, c, rfl⟩
  · refine (f30n k w).mono ?_
    rintro e w' ⟨rfl, rfl⟩
    exact ⟨rfl, Own.nil _ _, grown_refl _ _⟩
  · refine (f30 g c base k L w hk h).mono ?_
    rintro e w' ⟨rfl, ho, hg⟩
    exact ⟨rfl, by unfold Own; rw [markL_len]; exact ho, hg⟩
theorem heldO {w : World} {base n : Nat} {v : Value} (k : Nat) (hk : k + 2 * n ≤ 100000000) (h : Own w base v (markL k n)) :
    Calls Tryz.prog 33 #[v, .int .i64 k] w fun e w' => e = .returned (.int .i64 ((k + 2 * n : Nat) : Int)) ∧ w' = w := by
  obtain ⟨a, c, rfl⟩ := own_form h
  rw [markL_len] at h ⊢
  exact f33 a n c k w hk h.has.2
theorem Own.to {w : World} {g : Nat} {ls : List Sm} (h : w.ownsRow g 78 2 (.slice (some ⟨g, 0, none⟩) ls.length ls.length) ls.length (flat ls)) : Own w g (.slice (some ⟨g, 0, none⟩) ls.length ls.length) ls := h
theorem cutA_len (ls : List Sm) (x y : Int) : (cutA ls x y).length ≤ ls.length := by
  unfold cutA
  split
  · exact cut_len _ _ _
  · simp

end Go.Proofs.YtaekngadfajcaaaGreat.Smp
