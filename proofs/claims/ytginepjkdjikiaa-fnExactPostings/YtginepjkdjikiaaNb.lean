/- Sets of numbers: choose goes through two of them at once. -/
import Derived.Test.YtginepjkdjikiaaNa
import Derived.Deep.CutRange
namespace Go.Proofs.Ytginepjkdjikiaa.Ino
open Go.RowKit

/-- What choose gives. -/
def ch (K : Bool → Bool → Bool) : List Int → List Int → List Int
  | [], [] => []
  | x :: s, [] => (if K true false then [x] else []) ++ ch K s []
  | [], y :: o => (if K false true then [y] else []) ++ ch K [] o
  | x :: s, y :: o =>
    if x < y then (if K true false then [x] else []) ++ ch K s (y :: o)
    else if y < x then (if K false true then [y] else []) ++ ch K (x :: s) o
    else (if K true true then [x] else []) ++ ch K s o
  termination_by s o => s.length + o.length
def mine (s o : List Int) : Bool := o.isEmpty || (!s.isEmpty && decide (s.headD 0 ≤ o.headD 0))
def others (s o : List Int) : Bool := s.isEmpty || (!o.isEmpty && decide (o.headD 0 ≤ s.headD 0))

/-- A round: which of them go on, and what is told. -/
theorem ch_step (K : Bool → Bool → Bool) (s o : List Int) (h : 0 < s.length + o.length) :
    (∃ x s' o', mine s o = true ∧ others s o = true ∧ s = x :: s' ∧ o = x :: o' ∧ ch K s o = (if K true true then [x] else []) ++ ch K s' o') ∨
    (∃ x s', mine s o = true ∧ others s o = false ∧ s = x :: s' ∧ ch K s o = (if K true false then [x] else []) ++ ch K s' o) ∨
    (∃ x o', mine s o = false ∧ others s o = true ∧ o = x :: o' ∧ ch K s o = (if K false true then [x] else []) ++ ch K s o') := by
  rcases s with _ | ⟨x, s⟩
  · rcases o with _ | ⟨y, o⟩
    · simp at h
    · exact .inr (.inr ⟨y, o, by simp [mine], by simp [others], rfl, by rw [ch]⟩)
  · rcases o with _ | ⟨y, o⟩
    · exact .inr (.inl ⟨x, s, by simp [mine], by simp [others], rfl, by rw [ch]⟩)
    · rcases Int.lt_trichotomy x y with h1 | h1 | h1
      · exact .inr (.inl ⟨x, s, by simp [mine]; omega, by simp [others]; omega, rfl, by rw [ch, if_pos h1]⟩)
      · subst h1
        exact .inl ⟨x, s, o, by simp [mine], by simp [others], rfl, rfl, by rw [ch, if_neg (by omega), if_neg (by omega)]⟩
      · exact .inr (.inr ⟨y, o, by simp [mine]; omega, by simp [others]; omega, rfl, by rw [ch, if_neg (by omega), if_pos h1]⟩)
theorem ch_nil (K : Bool → Bool → Bool) : ch K [] [] = [] := by rw [ch]

theorem Has.head {w : World} {a : Option Addr} {x : Int} {s : List Int} (h : Has w a (x :: s)) :
    ∃ b off, a = some ⟨b, off, none⟩ ∧ b < w.heap.size ∧ w.cell? ⟨b, off, none⟩ = some (.int .i64 x) ∧ Has w (some ⟨b, off + 1, none⟩) s := by
  rcases h with h | ⟨b, off, h1, h2, h3⟩
  · cases h
  · refine ⟨b, off, h1, h2, by simpa using h3 0 (by simp), .inr ⟨b, off + 1, rfl, h2, fun i hi => ?_⟩⟩
    have := h3 (i + 1) (by simp; omega)
    rw [Nat.add_assoc, Nat.add_comm 1 i, this]
    simp
theorem Has.nil {w : World} {a : Option Addr} : Has w a [] := .inl rfl
theorem own_form {w : World} {base n : Nat} {v : Value} {L : List Int} (h : w.ownsRow base 3 1 v n (L.map (Value.int .i64))) : ∃ a c, v = .slice a n c := by
  rcases h.2 with ⟨h1, h2⟩ | ⟨g, cap, cur, h1, _⟩
  · exact ⟨none, 0, by rw [h1, h2]⟩
  · exact ⟨_, _, h1⟩

def lenV : Value → Nat | .slice _ n _ => n | _ => 0
theorem one_row (w : World) (x : Value) (t : TypeId) : ∀ j u, [x][j]? = some u → (w.alloc (.cells #[x] t)).cell? ((⟨w.heap.size, 0, none⟩ : Addr).add j) = some u := by
  intro j u hj
  have h := heap_alloc_new w (.cells #[x] t)
  match j, hj with
  | 0, hj =>
    simp at hj; subst hj
    have : (⟨w.heap.size, 0, none⟩ : Addr).add 0 = ⟨w.heap.size, 0, none⟩ := by simp [Addr.add]
    rw [this]
    unfold World.cell?
    simp only [h]
    rfl
  | j + 1, hj => simp at hj
/-- The row by now, and all that was there ahead of it. -/
def Now (w : World) (a : Option Addr) (c : Nat) (L : List Int) (x : World) : Prop := Own x w.heap.size (.slice a L.length c) L ∧ Below w.heap.size w x
theorem Now.below {w x y : World} {a : Option Addr} {c : Nat} {L : List Int} (h : Now w a c L x) (hb : Below x.heap.size x y) : Now w a c L y :=
  ⟨h.1.below hb, h.2.trans (hb.mono h.2.size)⟩
theorem Now.app {w x y : World} {a a' : Option Addr} {c c' : Nat} {L : List Int} {z : Int} (h : Now w a c L x) (hg : x.grownBy y (Value.slice a L.length c).ownBlock) (ho : y.ownsRow w.heap.size 3 1 (.slice a' (L.length + 1) c') (L.length + 1) ((L.map (Value.int .i64)) ++ [.int .i64 z])) :
    Now w a' c' (L ++ [z]) y := by
  refine ⟨?_, h.2.grown hg h.2.size (fun k hk => (h.1.lt k hk).1)⟩
  unfold Own
  rw [List.length_append, List.map_append]
  exact ho

def kAnd : Bool → Bool → Bool := fun m q => m && q
def kOr : Bool → Bool → Bool := fun _ _ => true
def kMinus : Bool → Bool → Bool := fun _ q => !q
end Go.Proofs.Ytginepjkdjikiaa.Ino
