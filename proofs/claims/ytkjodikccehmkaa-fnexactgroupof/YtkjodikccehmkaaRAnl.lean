/- Answers that are lists of labels: compared, marked, held. -/
import Derived.Test.YtkjodikccehmkaaRKdw
import Derived.Test.YtkjodikccehmkaaRMK
import Derived.Test.YtkjodikccehmkaaRFrw
namespace Go.Proofs.Ytkjodikccehmkaa.Anl
open Go.RowKit
open Go.Proofs.Ytkjodikccehmkaa.Lab (Lb HasL)

abbrev E := Lb
abbrev Own (w : World) (base : Nat) (v : Value) (R : List Lb) : Prop := w.ownsRow base 69 2 v R.length (Lab.flat R)
theorem form {w : World} {base : Nat} {v : Value} {R : List Lb} (h : Own w base v R) : ∃ a c, v = .slice a R.length c := by
  rcases h.2 with ⟨h1, h2⟩ | ⟨g, cap, cur, h1, _⟩
  · exact ⟨none, 0, by rw [h1, h2]⟩
  · exact ⟨_, _, h1⟩
theorem eqX {a a' : Option Addr} {c c' b b' : Nat} (R : List Lb) (w : World) (hb : R.length ≤ 1048576) (h : Own w b (.slice a R.length c) R) (h' : Own w b' (.slice a' R.length c') R) :
    Calls Try.prog 19 #[.slice a R.length c, .slice a' R.length c'] w fun e w' => e = .returned (.bool true) ∧ Below w.heap.size w w' :=
  Lab.f19 a a' R.length c c' R w rfl hb (Lab.HasL.owno h) (Lab.HasL.owno h')
/-- What marks leave. -/
abbrev Marked (w : World) (base : Nat) (v : Value) (n k : Nat) : Prop := w.ownsRow base 69 2 v n (Lab.flat (Lab.markL k n))
theorem markX {a : Option Addr} {c base : Nat} (k : Nat) (R : List Lb) (w : World) (hk : k + 2 * R.length ≤ 100000000) (h : Own w base (.slice a R.length c) R) :
    Calls Try.prog 28 #[.slice a R.length c, .int .i64 k] w fun e w' => e = .returned (.int .i64 ((k + 2 * R.length : Nat) : Int)) ∧ Marked w' base (.slice a R.length c) R.length k ∧ w.grownBy w' (Value.slice a R.length c).ownBlock :=
  Lab.f28o a R.length c base k R w hk h
theorem heldX {a : Option Addr} {c base : Nat} (k n : Nat) (w : World) (hk : k + 2 * n ≤ 100000000) (_hb : n ≤ 1048576) (h : Marked w base (.slice a n c) n k) :
    Calls Try.prog 29 #[.slice a n c, .int .i64 k] w fun e w' => e = .returned (.int .i64 ((k + 2 * n : Nat) : Int)) ∧ Below w.heap.size w w' :=
  Lab.f29o a n c base k w hk h
end Go.Proofs.Ytkjodikccehmkaa.Anl
