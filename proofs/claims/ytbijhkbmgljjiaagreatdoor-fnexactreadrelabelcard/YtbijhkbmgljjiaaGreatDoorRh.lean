/- Good rules: the program's GoodRelabel, and the walk of FnExactGoodRelabel. -/
import Derived.Test.YtbijhkbmgljjiaaGreatDoorRe
import Derived.Test.YtbijhkbmgljjiaaGreatDoorRga
import Derived.Test.YtbijhkbmgljjiaaGreatDoorRgb
import Derived.Test.YtbijhkbmgljjiaaGreatDoorRgc
import Derived.Test.YtbijhkbmgljjiaaGreatDoorRgd
namespace Go.Proofs.YtbijhkbmgljjiaaGreatDoor.Rel
open Go.RowKit Go.Proofs.YtbijhkbmgljjiaaGreatDoor.Fil

set_option maxHeartbeats 1000000 in
theorem f19 (r : Rule) (a : Option Addr) (n c : Nat) (w : World) (hn : r.from'.length = n) (hr : HasT w a r.from') (hz : SmlR r) (hf : FitR r) (ht : Tab w) :
    Calls Tryz.prog 19 #[agR r a n c] w fun e w' => e = .returned (.bool (goodR r)) ∧ Below w.heap.size w w' := by
  obtain ⟨A, ss, sep, pat, tgt, val, md⟩ := r
  obtain ⟨q0, q1, q2, q3, -, -, -, -⟩ := hf
  simp only at hn hr q0 q1 q2 q3
  by_cases hA : 1 ≤ A ∧ A ≤ 8
  · rcases (show A = 1 ∨ A = 2 ∨ A = 3 ∨ A = 4 ∨ A = 5 ∨ A = 6 ∨ A = 7 ∨ A = 8 by omega) with rfl | rfl | rfl | rfl | rfl | rfl | rfl | rfl
    · exact f8_1 ss sep pat tgt val md a n c w hn hr hz ht q2 q3
    · exact f8_2 ss sep pat tgt val md a n c w hn hr hz ht q2 q3
    · exact f8_3 ss sep pat tgt val md a n c w hn hr hz ht q2 q3
    · exact f8_4 ss sep pat tgt val md a n c w hn hr hz ht q2 q3
    · exact f8_5 ss sep pat tgt val md a n c w hn hr hz ht q2 q3
    · exact f8_6 ss sep pat tgt val md a n c w hn hr hz ht q2 q3
    · exact f8_7 ss sep pat tgt val md a n c w hn hr hz ht q2 q3
    · exact f8_8 ss sep pat tgt val md a n c w hn hr hz ht q2 q3
  · have HK := hid (good_out (r := ⟨A, ss, sep, pat, tgt, val, md⟩) hA)
    have HB := hid ((Below.refl w.heap.size w).alloc (Nat.le_refl _) (.cells #[.int .i64 A, .slice a n c, .string sep, .string pat, .string tgt, .string val, .int .i64 md] 24))
    clear hn hr
    simp only [agR]
    by_cases h1 : A < 1
    · go_enter Tryz.func19, Tryz.ntmps19
      go_wp2
      go_ret
      exact ⟨ret_bool HK.out.symm, HB.out⟩
    · have h8 : 8 < A := by omega
      clear hA
      go_enter Tryz.func19, Tryz.ntmps19
      go_wp2
      go_ret
      exact ⟨ret_bool HK.out.symm, HB.out⟩

theorem below_drew (w : World) : Below w.heap.size w w.drew := (Below.refl _ _).drew

end Go.Proofs.YtbijhkbmgljjiaaGreatDoor.Rel
