/- Lists of ranges in structs: measured, copied, compared. -/
import Derived.Test.YthcogkoleiejgaaGreatDoorRIva
import Derived.Test.YthcogkoleiejgaaGreatDoorRRwc
namespace Go.Proofs.YthcogkoleiejgaaGreatDoor.Rnw
open Go.RowKit
open Go.Proofs.YthcogkoleiejgaaGreatDoor.Rng (Sm HasS Fit flat)

theorem f85u (a : Option Addr) (n c : Nat) (L : Int) (zs : List Sm) (w : World) (hL0 : 0 ≤ L) (hL1 : L ≤ 1048576) (_hn : zs.length = n) (_hr : HasS w a zs) (_hf : Fit zs) (hmax : n ≤ maxLen) :
    Calls Tryz.prog 85 #[.slice a n c, .int .i64 L] w fun e w' => ∃ y : Int, e = .returned (.int .i64 y) ∧ -1 ≤ y ∧ y ≤ L ∧ (0 ≤ y → n + y ≤ L) ∧ Below w.heap.size w w' := by
  refine (Rng.f85 a n c L w hmax hL0 hL1).mono ?_
  rintro e w' ⟨rfl, rfl⟩
  by_cases h : L < (n : Int)
  · rw [if_pos h]; exact ⟨-1, rfl, by omega, by omega, fun h => by omega, Below.refl _ _⟩
  · rw [if_neg h]; exact ⟨L - n, rfl, by omega, by omega, fun _ => by omega, Below.refl _ _⟩
theorem f96 (a : Option Addr) (n c : Nat) (zs : List Sm) (w : World) (hn : zs.length = n) (hb : n ≤ 1048576) (hr : HasS w a zs) :
    Calls Tryz.prog 96 #[.slice a n c] w fun e w' => e = .returned (.slice (some ⟨w.heap.size, 0, none⟩) n n) ∧
      w'.ownsRow w.heap.size 109 2 (.slice (some ⟨w.heap.size, 0, none⟩) n n) n (flat zs) ∧ Below w.heap.size w w' := by
  subst hn
  exact Rng.f96 a c zs w hb hr
theorem f112 (a a' : Option Addr) (n c c' : Nat) (zs : List Sm) (w : World) (hn : zs.length = n) (hb : n ≤ 1048576) (hr : HasS w a zs) (hr' : HasS w a' zs) :
    Calls Tryz.prog 112 #[.slice a n c, .slice a' n c'] w fun e w' => e = .returned (.bool true) ∧ Below w.heap.size w w' := by
  subst hn
  exact Rng.f112 a a' c c' zs w hb hr hr'
end Go.Proofs.YthcogkoleiejgaaGreatDoor.Rnw
