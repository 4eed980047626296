/- l2Of at lists of any length. -/
import Derived.Test.YtpeffjkagaegjaaDoorVo
namespace Go.Proofs.YtpeffjkagaegjaaDoor.Lab
open Go.RowKit Go.Proofs.YtpeffjkagaegjaaDoor.Str
set_option maxHeartbeats 1000000 in
theorem f23w (a : Option Addr) (n c : Nat) (ls : List Lb) (x : ByteArray) (w : World) (hn : ls.length = n) (h20 : n ≤ 1048576) (hr : HasL w a ls) :
    Calls Tryd.prog 23 #[.slice a n c, .string x] w fun e w' => ∃ v, OfV ls x v ∧ e = .returned (.string v) ∧ Below w.heap.size w w' := by
  have HN := hid hn
  clear hn
  go_enter Tryd.func23, Tryd.ntmps23
  go_wp2
  go_loopw [9] (fun i wr => ∃ k : Nat, k ≤ n ∧ i = .int .i64 k ∧ Hid (∀ i, i < k → (ls.getD i e0).1 ≠ x) ∧ Below w.heap.size w wr) (fun i _ => n - (intOf i).toNat)
  case atStart => exact ⟨0, Nat.zero_le _, rfl, fun i hi => by omega, Below.refl _ _⟩
  case round =>
    obtain ⟨k, hk, rfl, hu, hnx⟩ := hrel
    have HX := hid hnx
    by_cases hlt : k < n
    · rcases hr with hr | ⟨b, off, rfl, hbl, hc⟩
      · exact absurd HN.out (by rw [hr]; simp; omega)
      obtain ⟨c0, c1⟩ := hc k (by rw [HN.out]; exact hlt)
      have d0 := (hnx.cell (p := ⟨b, off + k * 2, none⟩) hbl).trans c0
      have d1 := (hnx.cell (p := ⟨b, off + k * 2 + 1, none⟩) hbl).trans c1
      by_cases he : (ls.getD k e0).1 = x
      · have HV : Hid (OfV ls x (ls.getD k e0).2) := .inl ⟨k, by rw [HN.out]; exact hlt, he, rfl, hu.out⟩
        have he' : ((ls.getD k e0).1.toList == x.toList) = true := str_eq he
        clear hc c0 c1 hnx he
        generalize (ls.getD k e0).1 = s at *
        generalize (ls.getD k e0).2 = t at *
        go_wp2
        go_ret
        exact ⟨t, HV.out, rfl, HX.out.alloc HX.out.size _⟩
      · have HU : Hid (∀ i, i < k + 1 → (ls.getD i e0).1 ≠ x) := by
          intro i hi
          by_cases e : i = k
          · subst e; exact he
          · exact hu.out i (by omega)
        have he' : ((ls.getD k e0).1.toList == x.toList) = false := str_ne he
        clear hc c0 c1 hnx he
        generalize (ls.getD k e0).1 = s at *
        generalize (ls.getD k e0).2 = t at *
        go_wp2
        go_roundw
        case rel => exact ⟨k + 1, by omega, by go_num, HU.out, HX.out.alloc HX.out.size _⟩
        case measure => simp [intOf]; omega
    · go_wp2
      go_ret
      exact ⟨_, .inr ⟨fun i hi => hu.out i (by have := HN.out; omega), rfl⟩, rfl, HX.out⟩

end Go.Proofs.YtpeffjkagaegjaaDoor.Lab
