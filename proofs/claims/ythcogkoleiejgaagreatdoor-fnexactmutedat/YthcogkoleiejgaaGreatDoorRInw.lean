/- Lists of ints in structs: measured, copied, compared. -/
import Derived.Test.YthcogkoleiejgaaGreatDoorRIno
import Derived.Test.YthcogkoleiejgaaGreatDoorRRwc
namespace Go.Proofs.YthcogkoleiejgaaGreatDoor.Inw
open Go.RowKit
open Go.Proofs.YthcogkoleiejgaaGreatDoor.Ino (Has)

def FitJ (l : List Int) : Prop := ∀ j, -9223372036854775808 ≤ l.getD j 0 ∧ l.getD j 0 ≤ 9223372036854775807
theorem f84u (a : Option Addr) (n c : Nat) (L : Int) (zs : List Int) (w : World) (hL0 : 0 ≤ L) (hL1 : L ≤ 1048576) (_hn : zs.length = n) (_hr : Has w a zs) (_hf : FitJ zs) (hmax : n ≤ maxLen) :
    Calls Tryz.prog 84 #[.slice a n c, .int .i64 L] w fun e w' => ∃ y : Int, e = .returned (.int .i64 y) ∧ -1 ≤ y ∧ y ≤ L ∧ (0 ≤ y → n + y ≤ L) ∧ Below w.heap.size w w' := by
  unfold maxLen at hmax
  by_cases hbig : (n : Int) ≤ L
  · go_enter Tryz.func84, Tryz.ntmps84
    go_wp2
    go_ret
    exact ⟨L - n, rfl, by omega, by omega, fun _ => by omega, Below.refl _ _⟩
  · go_enter Tryz.func84, Tryz.ntmps84
    go_wp2
    go_ret
    exact ⟨-1, rfl, by omega, by omega, fun h => by omega, Below.refl _ _⟩
theorem f95 (a : Option Addr) (n c : Nat) (zs : List Int) (w : World) (hn : zs.length = n) (hb : n ≤ 1048576) (hr : Has w a zs) :
    Calls Tryz.prog 95 #[.slice a n c] w fun e w' => e = .returned (.slice (some ⟨w.heap.size, 0, none⟩) n n) ∧
      w'.ownsRow w.heap.size 3 1 (.slice (some ⟨w.heap.size, 0, none⟩) n n) n (zs.map (Value.int .i64)) ∧ Below w.heap.size w w' := Ino.f95 a n c zs w hn hb hr
theorem f111 (a a' : Option Addr) (n c c' : Nat) (zs : List Int) (w : World) (hn : zs.length = n) (hb : n ≤ 1048576) (hr : Has w a zs) (hr' : Has w a' zs) :
    Calls Tryz.prog 111 #[.slice a n c, .slice a' n c'] w fun e w' => e = .returned (.bool true) ∧ Below w.heap.size w w' := by
  refine (Ino.f111 a a' n n c c' zs w hn rfl hb hr hr').mono ?_
  rintro e w' ⟨rfl, q, rfl⟩
  exact ⟨rfl, Ino.below_drewN (Below.refl _ _) q⟩
end Go.Proofs.YthcogkoleiejgaaGreatDoor.Inw
