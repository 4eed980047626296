/- Lists of cuts in structs: measured, copied, compared. -/
import Derived.Test.YthcogkoleiejgaaGreatDoorRCta
import Derived.Test.YthcogkoleiejgaaGreatDoorRRwc
namespace Go.Proofs.YthcogkoleiejgaaGreatDoor.Ctw
open Go.RowKit
open Go.Proofs.YthcogkoleiejgaaGreatDoor.Ctl (Ag HasA Fit flat)

theorem f39u (a : Option Addr) (n c : Nat) (L : Int) (zs : List Ag) (w : World) (hL0 : 0 ≤ L) (hL1 : L ≤ 1048576) (_hn : zs.length = n) (_hr : HasA w a zs) (_hf : Fit zs) (hmax : n ≤ maxLen) :
    Calls Tryz.prog 39 #[.slice a n c, .int .i64 L] w fun e w' => ∃ y : Int, e = .returned (.int .i64 y) ∧ -1 ≤ y ∧ y ≤ L ∧ (0 ≤ y → n + y ≤ L) ∧ Below w.heap.size w w' := by
  refine (Ctl.f39 a n c L w hmax hL0 hL1).mono ?_
  rintro e w' ⟨rfl, rfl⟩
  by_cases h : L < (n : Int)
  · rw [if_pos h]; exact ⟨-1, rfl, by omega, by omega, fun h => by omega, Below.refl _ _⟩
  · rw [if_neg h]; exact ⟨L - n, rfl, by omega, by omega, fun _ => by omega, Below.refl _ _⟩
theorem f42 (a : Option Addr) (n c : Nat) (zs : List Ag) (w : World) (hn : zs.length = n) (hb : n ≤ 1048576) (hr : HasA w a zs) :
    Calls Tryz.prog 42 #[.slice a n c] w fun e w' => e = .returned (.slice (some ⟨w.heap.size, 0, none⟩) n n) ∧
      w'.ownsRow w.heap.size 128 4 (.slice (some ⟨w.heap.size, 0, none⟩) n n) n (flat zs) ∧ Below w.heap.size w w' := by
  subst hn
  exact Ctl.f42 a c zs w hb hr
theorem f45 (a a' : Option Addr) (n c c' : Nat) (zs : List Ag) (w : World) (hn : zs.length = n) (hb : n ≤ 1048576) (hr : HasA w a zs) (hr' : HasA w a' zs) :
    Calls Tryz.prog 45 #[.slice a n c, .slice a' n c'] w fun e w' => e = .returned (.bool true) ∧ Below w.heap.size w w' := by
  subst hn
  exact Ctl.f45 a a' c c' zs w hb hr hr'
end Go.Proofs.YthcogkoleiejgaaGreatDoor.Ctw
