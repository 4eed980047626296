/- What PutVar comes to, in the program and in its model: one plain list of bytes. -/
import Derived.Test.YteblbcbfaomdmaaDoorVarp
namespace Go.Proofs.YteblbcbfaomdmaaDoor.Put
open Go.RowKit Go.Proofs.YteblbcbfaomdmaaDoor.Byt
theorem hid {p : Prop} (h : p) : Hid p := h

def pieces : Nat → Int → List Int
  | 0, x => [x]
  | f + 1, x => if x < 128 then [x] else (x % 128 + 128) :: pieces f (x / 128)
def put (n : Int) : List Int := pieces 9 (IntKind.u64.wrap n)

/-- A number that f pieces and a last one of one bit can hold. -/
def Fits (f : Nat) (x : Int) : Prop := x < 2 * 128 ^ f
theorem fits_top (n : Int) : Fits 9 (IntKind.u64.wrap n) := by unfold Fits; rw [IntKind.wrap_u64]; omega
theorem fits_down (f : Nat) (x : Int) (h : Fits (f + 1) x) : Fits f (x / 128) := by
  unfold Fits at *; rw [Int.pow_succ] at h; omega
theorem fits_zero (x : Int) (h : Fits 0 x) : x < 128 := by unfold Fits at h; omega
theorem pieces_end (f : Nat) (x : Int) (h : x < 128) : pieces f x = [x] := by
  cases f with
  | zero => rfl
  | succ f => rw [pieces, if_pos h]
theorem pieces_on (f : Nat) (x : Int) (h : ¬ x < 128) : pieces (f + 1) x = (x % 128 + 128) :: pieces f (x / 128) := by
  rw [pieces, if_neg h]
theorem pieces_len (f : Nat) (x : Int) : (pieces f x).length ≤ f + 1 := by
  induction f generalizing x with
  | zero => simp [pieces]
  | succ f ih => rw [pieces]; split
                 · simp
                 · have := ih (x / 128); simp; omega
theorem pieces_pos (f : Nat) (x : Int) : 1 ≤ (pieces f x).length := by
  cases f with
  | zero => simp [pieces]
  | succ f => rw [pieces]; split <;> simp
theorem put_len (n : Int) : 1 ≤ (put n).length ∧ (put n).length ≤ 10 := ⟨pieces_pos _ _, pieces_len _ _⟩

theorem one_new (w : World) (x : Value) (t : TypeId) : ∀ j u, [x][j]? = some u → (w.alloc (.cells #[x] t)).cell? ((⟨w.heap.size, 0, none⟩ : Addr).add j) = some u := by
  intro j u hj
  match j, hj with
  | 0, hj => simp at hj; subst hj; simp [Addr.add]

theorem or_128 (x : Int) (h0 : 0 ≤ x) : bits .or .u8 (x % 256) 128 = x % 128 + 128 := by
  rw [u8_or (x % 256) 128 (by omega) (by omega) (by omega) (by omega)]
  obtain ⟨m, rfl⟩ := Int.eq_ofNat_of_zero_le h0
  rw [show ((m : Int) % 256).toNat = m % 256 from by omega, show (128 : Int).toNat = 128 from rfl]
  have h3 : m % 256 = (m % 256 / 128) * 128 + m % 128 := by omega
  have h4 : m % 256 / 128 = 0 ∨ m % 256 / 128 = 1 := by omega
  have h5 : m % 256 ||| 128 = m % 128 + 128 := by
    have h6 : ∀ y : Fin 256, y.val ||| 128 = y.val % 128 + 128 := by decide +kernel
    have := h6 ⟨m % 256, by omega⟩
    simp only at this
    omega
  rw [h5]
  omega

/-- What an append of one byte does to what is gathered. -/
theorem step_own {w wr w1 : World} {out v' : Value} {xs : List Int} {x : Int} (hown : wr.ownsRow w.heap.size 5 1 out xs.length (xs.map (Value.int .u8))) (hbel : Below w.heap.size w wr)
    (hown' : w1.ownsRow w.heap.size 5 1 v' (xs.length + 1) (xs.map (Value.int .u8) ++ [Value.int .u8 x])) (hgrow : (wr.alloc (.cells #[.int .u8 x] 5)).grownBy w1 out.ownBlock) :
    w1.ownsRow w.heap.size 5 1 v' (xs ++ [x]).length ((xs ++ [x]).map (Value.int .u8)) ∧ Below w.heap.size w w1 := by
  refine ⟨by simpa using hown', ?_⟩
  refine (hbel.alloc hbel.size _).grown hgrow ?_ ?_
  · have := hbel.size; simp; omega
  · intro k hk; exact (hown.lt k hk).1

end Go.Proofs.YteblbcbfaomdmaaDoor.Put
