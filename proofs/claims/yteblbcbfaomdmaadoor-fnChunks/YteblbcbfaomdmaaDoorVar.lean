/- What TakeVar comes to, in the program and in its model: one plain function. -/
import Derived.Test.YteblbcbfaomdmaaDoorByt
import Derived.Laws.BitsAllLaws
namespace Go.Proofs.YteblbcbfaomdmaaDoor.Var
open Go.RowKit Go.Proofs.YteblbcbfaomdmaaDoor.Byt

theorem ret_two {a b c d : Int} (h : a = c) (h' : b = d) : Ending.returned (.tuple #[.int .i64 a, .int .i64 b]) = .returned (.tuple #[.int .i64 c, .int .i64 d]) := by rw [h, h']
theorem hid {p : Prop} (h : p) : Hid p := h

/-- The word with one piece more. -/
def more (k : Nat) (x z : Int) : Int := IntKind.u64.wrap (x + IntKind.u64.wrap (z % 128 * 2 ^ (7 * k)))
def stop (k : Nat) (z : Int) : Bool := decide (0 < k ∧ z = 0 ∨ k = 9 ∧ 1 < z)
def go (zs : List Int) (t : Nat) : Nat → Nat → Int → Int × Int
  | 0, _, _ => (0, -1)
  | f + 1, k, x =>
    if t + k < zs.length then
      if zs.getD (t + k) 0 < 128 then
        if stop k (zs.getD (t + k) 0) then (0, -1) else (wrap64 (more k x (zs.getD (t + k) 0)), (t : Int) + k + 1)
      else go zs t f (k + 1) (more k x (zs.getD (t + k) 0))
    else (0, -1)
def tv (zs : List Int) (i : Int) : Int × Int := if 0 ≤ i ∧ i < zs.length then go zs i.toNat 10 0 0 else (0, -1)

theorem tv_out (zs : List Int) (i : Int) (h : ¬ (0 ≤ i ∧ i < zs.length)) : tv zs i = (0, -1) := by unfold tv; rw [if_neg h]
theorem tv_in (zs : List Int) (t : Nat) (h : t < zs.length) : tv zs t = go zs t 10 0 0 := by
  unfold tv; rw [if_pos (by omega)]; rw [Int.toNat_natCast]
theorem go_end (zs : List Int) (t f k : Nat) (x : Int) (h : f = 0 ∨ ¬ t + k < zs.length) : go zs t f k x = (0, -1) := by
  cases f with
  | zero => rfl
  | succ f => rcases h with h | h
              · omega
              · unfold go; rw [if_neg h]
theorem go_big (zs : List Int) (t f k : Nat) (x : Int) (h : t + k < zs.length) (hz : ¬ zs.getD (t + k) 0 < 128) :
    go zs t (f + 1) k x = go zs t f (k + 1) (more k x (zs.getD (t + k) 0)) := by
  rw [go, if_pos h, if_neg hz]
theorem go_bad (zs : List Int) (t f k : Nat) (x : Int) (h : t + k < zs.length) (hz : zs.getD (t + k) 0 < 128) (hs : stop k (zs.getD (t + k) 0) = true) :
    go zs t (f + 1) k x = (0, -1) := by
  rw [go, if_pos h, if_pos hz, if_pos hs]
theorem go_good (zs : List Int) (t f k : Nat) (x : Int) (h : t + k < zs.length) (hz : zs.getD (t + k) 0 < 128) (hs : stop k (zs.getD (t + k) 0) = false) :
    go zs t (f + 1) k x = (wrap64 (more k x (zs.getD (t + k) 0)), (t : Int) + k + 1) := by
  rw [go, if_pos h, if_pos hz, if_neg (by rw [hs]; simp)]

theorem more_lo (k : Nat) (x z : Int) : 0 ≤ more k x z := by unfold more; rw [IntKind.wrap_u64]; omega
theorem more_hi (k : Nat) (x z : Int) : more k x z ≤ 18446744073709551615 := by unfold more; rw [IntKind.wrap_u64]; omega

end Go.Proofs.YteblbcbfaomdmaaDoor.Var
