/- What the model's l2Rest comes to: of each place whether the items stand for the rest of the text. -/
import Derived.Test.YtpobpanmkdjkjaaPh
namespace Go.Proofs.Ytpobpanmkdjkjaa.Pat
open Go.RowKit

def bRow (f : Nat → Bool) (n : Nat) : List Value := (List.range n).map fun i => .bool (f i)
theorem bRow_get {f : Nat → Bool} {n i : Nat} (h : i < n) : (bRow f n)[i]? = some (.bool (f i)) := by simp [bRow, h]
theorem bRow_congr {f g : Nat → Bool} {n : Nat} (h : ∀ i, i < n → f i = g i) : bRow f n = bRow g n := by
  unfold bRow
  apply List.map_congr_left
  intro i hi
  rw [h i (by simpa using hi)]
theorem bRow_set (f : Nat → Bool) (n i : Nat) (b : Bool) : (bRow f n).set i (.bool b) = bRow (fun j => if j = i then b else f j) n := by
  apply List.ext_getElem?
  intro j
  by_cases hj : j < n
  · rw [bRow_get hj]
    by_cases hij : i = j
    · subst hij
      rw [List.getElem?_set_self (by simp [bRow]; exact hj)]; simp
    · rw [List.getElem?_set_ne hij, bRow_get hj, if_neg (fun h => hij h.symm)]
  · rw [List.getElem?_eq_none (by simp [bRow]; omega), List.getElem?_eq_none (by simp [bRow]; omega)]
theorem bRow_made (n : Nat) : List.replicate n (Value.bool false) = bRow (fun _ => false) n := by
  apply List.ext_getElem?
  intro j
  by_cases hj : j < n
  · rw [bRow_get hj]; simp [hj]
  · rw [List.getElem?_eq_none (by simp; omega), List.getElem?_eq_none (by simp [bRow]; omega)]
theorem bRow_len (f : Nat → Bool) (n : Nat) : (bRow f n).length = n := by simp [bRow]

/-- A slice of numbers. -/
def HasI (w : World) (a : Option Addr) (zs : List Int) : Prop :=
  zs = [] ∨ ∃ b off, a = some ⟨b, off, none⟩ ∧ b < w.heap.size ∧ ∀ i, i < zs.length → w.cell? ⟨b, off + i, none⟩ = some (.int .i64 (zs.getD i 0))
theorem HasI.below {w w' : World} {a : Option Addr} {zs : List Int} (h : HasI w a zs) (hb : Below w.heap.size w w') : HasI w' a zs := by
  rcases h with h | ⟨b, off, h1, h2, h3⟩
  · exact .inl h
  · exact .inr ⟨b, off, h1, Nat.lt_of_lt_of_le h2 hb.size, fun i hi => (hb.cell (p := ⟨b, off + i, none⟩) h2).trans (h3 i hi)⟩
theorem info4 : (Try.prog.info? 4).map (fun i => (i.zero, i.size, i.bytes)) = some (some (.bool false), 1, 1) := by kernel_rfl

def rst (a : List Int) (L : List UInt8) (i : Nat) : Bool := rest a (L.drop i)
theorem rst_nil (L : List UInt8) (i : Nat) (h : i < L.length + 1) : rst [] L i = if i = L.length then true else false := by
  unfold rst
  simp only [rest]
  by_cases h1 : i = L.length
  · subst h1; simp
  · rw [if_neg h1]
    cases hd : L.drop i with
    | nil => have := congrArg List.length hd; simp at this; omega
    | cons c r => rfl
theorem rst_star_end (a : List Int) (L : List UInt8) : rst (-1 :: a) L L.length = rst a L L.length := by
  unfold rst; simp [rest, starR]
theorem rst_star (a : List Int) (L : List UInt8) (i : Nat) (h : i < L.length) : rst (-1 :: a) L i = (rst a L i || rst (-1 :: a) L (i + 1)) := by
  unfold rst
  rw [List.drop_eq_getElem_cons h]
  simp only [rest, if_true, starR]
theorem rst_item_end {x : Int} (hx : x ≠ -1) (a : List Int) (L : List UInt8) : rst (x :: a) L L.length = false := by
  unfold rst; simp [rest, hx]
theorem rst_item {x : Int} (hx : x ≠ -1) (a : List Int) (L : List UInt8) (i : Nat) (h : i < L.length) : rst (x :: a) L i = (rst a L (i + 1) && fitI x L[i]) := by
  unfold rst
  rw [List.drop_eq_getElem_cons h]
  simp only [rest, if_neg hx]
  rw [Bool.and_comm]
/-- The row of an item while it is made, from the end on. -/
def half (f : Nat → Bool) (I : Nat) (j : Nat) : Bool := if I ≤ j then f j else false
theorem half_set (f : Nat → Bool) (I n : Nat) (b : Bool) (hb : f I = b) : (bRow (half f (I + 1)) n).set I (.bool b) = bRow (half f I) n := by
  rw [bRow_set]
  apply bRow_congr
  intro j _
  unfold half
  by_cases h1 : j = I
  · subst h1; simp [hb]
  · by_cases h2 : I ≤ j
    · rw [if_neg h1, if_pos h2, if_pos (by omega)]
    · rw [if_neg h1, if_neg h2, if_neg (by omega)]
theorem half_top (f : Nat → Bool) (n : Nat) : bRow (half f n) n = bRow (fun _ => false) n := bRow_congr fun i hi => by unfold half; rw [if_neg (by omega)]
theorem half_zero (f : Nat → Bool) (n : Nat) : bRow (half f 0) n = bRow f n := bRow_congr fun i _ => by unfold half; rw [if_pos (Nat.zero_le _)]

/-- Two rows, the one that is made lying behind the other. -/
structure Two (B : Nat) (w0 w : World) (g h n : Nat) (f : Nat → Bool) (q : Nat → Bool) : Prop where
  now : w.ownsRow B 4 1 (.slice (some ⟨g, 0, none⟩) n n) n (bRow f n)
  nxt : w.ownsRow B 4 1 (.slice (some ⟨h, 0, none⟩) n n) n (bRow q n)
  ne : g ≠ h
  bel : Below B w0 w
theorem Two.drew {B : Nat} {w0 w : World} {g h n : Nat} {f q : Nat → Bool} (t : Two B w0 w g h n f q) : Two B w0 w.drew g h n f q := ⟨t.now, t.nxt, t.ne, t.bel.drew⟩
theorem Two.set {B I : Nat} {w0 w : World} {g h n : Nat} {f q : Nat → Bool} (t : Two B w0 w g h n f (half q (I + 1))) (b : Bool) (hb : q I = b) : Two B w0 (w.setCell ⟨h, I, none⟩ (.bool b)) g h n f (half q I) := by
  have hst := t.nxt.stored I (.bool b)
  refine ⟨t.now.kept hst.2 (.inr (fun e => t.ne (Option.some.inj e))), ?_, t.ne, t.bel.setCell (t.nxt.lt h rfl).1 _⟩
  rw [half_set _ _ _ _ hb] at hst
  exact hst.1
end Go.Proofs.Ytpobpanmkdjkjaa.Pat
