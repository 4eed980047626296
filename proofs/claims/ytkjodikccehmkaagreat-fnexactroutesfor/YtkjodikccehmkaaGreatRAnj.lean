/- Answers that are lists of ints: compared, marked, held. -/
import Derived.Test.YtkjodikccehmkaaGreatRInw
import Derived.Test.YtkjodikccehmkaaGreatRFrw
namespace Go.Proofs.YtkjodikccehmkaaGreat.Anj
open Go.RowKit

abbrev E := Int
abbrev Own (w : World) (base : Nat) (v : Value) (R : List Int) : Prop := w.ownsRow base 3 1 v R.length (R.map (Value.int .i64))
theorem form {w : World} {base : Nat} {v : Value} {R : List Int} (h : Own w base v R) : ∃ a c, v = .slice a R.length c := by
  rcases h.2 with ⟨h1, h2⟩ | ⟨g, cap, cur, h1, _⟩
  · exact ⟨none, 0, by rw [h1, h2]⟩
  · exact ⟨_, _, h1⟩
theorem eqX {a a' : Option Addr} {c c' b b' : Nat} (R : List Int) (w : World) (hb : R.length ≤ 1048576) (h : Own w b (.slice a R.length c) R) (h' : Own w b' (.slice a' R.length c') R) :
    Calls Tryz.prog 10 #[.slice a R.length c, .slice a' R.length c'] w fun e w' => e = .returned (.bool true) ∧ Below w.heap.size w w' := by
  refine (Ino.eqO hb h h').mono ?_
  rintro e w' ⟨rfl, q, rfl⟩
  exact ⟨rfl, Ino.below_drewN (Below.refl _ _) q⟩
/-- What marks leave. -/
abbrev Marked (w : World) (base : Nat) (v : Value) (n k : Nat) : Prop := w.ownsRow base 3 1 v n ((Ino.marks (k : Int) n).map (Value.int .i64))
theorem markX {a : Option Addr} {c base : Nat} (k : Nat) (R : List Int) (w : World) (hk : k + 2 * R.length ≤ 100000000) (hb : R.length ≤ 1048576) (h : Own w base (.slice a R.length c) R) :
    Calls Tryz.prog 15 #[.slice a R.length c, .int .i64 k] w fun e w' => e = .returned (.int .i64 ((k + 1 * R.length : Nat) : Int)) ∧ Marked w' base (.slice a R.length c) R.length k ∧ w.grownBy w' (Value.slice a R.length c).ownBlock := by
  refine (Ino.markO (k : Int) (by omega) (by omega) hb h).mono ?_
  rintro e w' ⟨rfl, ho, hg⟩
  refine ⟨by congr 2; omega, ?_, hg⟩
  unfold Ino.Own at ho
  rw [Ino.marks_len] at ho
  exact ho
theorem heldX {a : Option Addr} {c base : Nat} (k n : Nat) (w : World) (hk : k + 2 * n ≤ 100000000) (hb : n ≤ 1048576) (h : Marked w base (.slice a n c) n k) :
    Calls Tryz.prog 16 #[.slice a n c, .int .i64 k] w fun e w' => e = .returned (.int .i64 ((k + 1 * n : Nat) : Int)) ∧ Below w.heap.size w w' := by
  refine (Ino.heldO (base := base) (n := n) (k : Int) (by omega) (by omega) hb (by unfold Ino.Own; rw [Ino.marks_len]; exact h)).mono ?_
  rintro e w' ⟨rfl, q, rfl⟩
  exact ⟨by congr 2; omega, Ino.below_drewN (Below.refl _ _) q⟩
end Go.Proofs.YtkjodikccehmkaaGreat.Anj
