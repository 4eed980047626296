/- Names that rise, at most ten: areRisingNames. -/
import Derived.Test.YthcogkoleiejgaaGreatDoorRNmt
namespace Go.Proofs.YthcogkoleiejgaaGreatDoor.Nmt
open Go.RowKit
open Go.Proofs.YthcogkoleiejgaaGreatDoor.Pat (ret_bool)
open Go.Proofs.YthcogkoleiejgaaGreatDoor.Fil (HasT FitT)

set_option maxHeartbeats 2000000 in
theorem f104 (a : Option Addr) (c : Nat) (ss : List ByteArray) (w : World) (hb : ss.length ≤ 1048576) (hz : FitT ss) (hr : HasT w a ss) :
    Calls Tryz.prog 104 #[.slice a ss.length c] w fun e w' => e = .returned (.bool (namesL ss)) ∧ Below w.heap.size w w' := by
  have H3 := fun x a' => hid (f132 a ss.length c ss x rfl hb hz a')
  have H4 := fun x a' => hid (f133 a ss.length c ss x rfl hb a')
  have HR := hid hr
  have HO : Hid (namesL ss = (namesS ss && decide (ss.length ≤ 10) && riseS ss)) := rfl
  clear hz hr hb
  generalize namesL ss = R at *
  generalize namesS ss = b3 at *
  generalize riseS ss = b4 at *
  by_cases g : (ss.length : Int) ≤ 10
  rotate_left
  · have HY : Hid (R = false) := by unfold Hid; rw [HO.out, decide_eq_false (show ¬ ss.length ≤ 10 by omega)]; simp
    go_enter Tryz.func104, Tryz.ntmps104
    go_wp2
    go_ret
    exact ⟨by rw [HY.out]; first | rfl | simp | (simp; omega), Below.refl _ _⟩
  have HG := hid (decide_eq_true (show ss.length ≤ 10 by omega))
  go_enter Tryz.func104, Tryz.ntmps104
  cases b3
  · have HY : Hid (R = false) := by unfold Hid; rw [HO.out]; simp
    go_wp2_with fail
    refine (H3 _ HR.out).out.mono ?_
    rintro e w3 ⟨rfl, hw⟩
    have HB3 : Hid (Below w.heap.size w w3) := by rw [hw]; exact Below.refl _ _
    clear hw
    go_wp2
    go_ret
    exact ⟨by rw [HY.out]; first | rfl | simp, HB3.out⟩
  have HY : Hid (R = b4) := by unfold Hid; rw [HO.out, HG.out]; simp
  go_wp2_with fail
  refine (H3 _ HR.out).out.mono ?_
  rintro e w3 ⟨rfl, hw⟩
  have HB3 : Hid (Below w.heap.size w w3) := by rw [hw]; exact Below.refl _ _
  clear hw
  go_wp2_with fail
  refine (H4 _ (HR.out.below HB3.out)).out.mono ?_
  rintro e w4 ⟨rfl, hb⟩
  have HB4 := hid (HB3.out.trans (hb.mono HB3.out.size))
  clear hb
  go_wp2
  go_ret
  exact ⟨by rw [HY.out]; first | rfl | simp, HB4.out⟩
end Go.Proofs.YthcogkoleiejgaaGreatDoor.Nmt
