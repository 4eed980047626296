/- The model's l2ReadNum: some number; of a small number's digits that number. -/
import Derived.Test.YtbijhkbmgljjiaaGreatDoorVn
import Derived.Test.YtbijhkbmgljjiaaGreatDoorIt
import Derived.Test.YtbijhkbmgljjiaaGreatDoorVh
namespace Go.Proofs.YtbijhkbmgljjiaaGreatDoor.Rel
open Go.RowKit Go.Proofs.YtbijhkbmgljjiaaGreatDoor.Fil

/-- The text is the digits of a number from 1 to 1000, and z is what its first k digits say. -/
def Pre (s : ByteArray) (k : Nat) (z : Int) : Prop := ∀ N : Int, 1 ≤ N → N ≤ 1000 → s.data.toList = Lib.itoa N → ∃ m : Nat, Lib.decFrom 0 (s.data.toList.take k) = some m ∧ z = m ∧ m < 10 ^ k
theorem it_len {s : ByteArray} {N : Int} (h0 : 1 ≤ N) (h1 : N ≤ 1000) (h : s.data.toList = Lib.itoa N) : 1 ≤ s.size ∧ s.size ≤ 4 ∧ Lib.decFrom 0 s.data.toList = some N.toNat := by
  have e : Lib.itoa N = Lib.decDigits N.toNat := by unfold Lib.itoa; rw [if_neg (by omega)]
  rw [e] at h
  have hl := congrArg List.length h
  rw [Lib.decDigits_length] at hl
  have hl2 : s.data.toList.length = s.size := by simp
  have := nd4 N.toNat (by omega)
  have := Lib.nDigits_pos N.toNat
  refine ⟨by omega, by omega, ?_⟩
  rw [h]; exact dec_back _
theorem it_dig {s : ByteArray} {N : Int} (h0 : 1 ≤ N) (h1 : N ≤ 1000) (h : s.data.toList = Lib.itoa N) (k : Nat) (hk : k < s.size) : ∃ d, Lib.digitVal s[k] = some d ∧ 48 ≤ s[k].toNat ∧ s[k].toNat ≤ 57 ∧ d = s[k].toNat - 48 := by
  obtain ⟨d, hd⟩ := Lib.digit_of_decFrom _ _ _ (it_len h0 h1 h).2.2 k s[k] (Rdd.at_byte s k hk)
  have := Lib.digitVal_eq hd
  exact ⟨d, hd, by omega, by omega, by omega⟩
theorem wrap_in (x : Int) : -9223372036854775808 ≤ wrap64 x ∧ wrap64 x ≤ 9223372036854775807 := by unfold wrap64; omega
theorem wrap_is {x : Int} (h0 : -9223372036854775808 ≤ x) (h1 : x ≤ 9223372036854775807) : wrap64 x = x := by unfold wrap64; omega
theorem Pre.start (s : ByteArray) : Pre s 0 0 := fun N _ _ _ => ⟨0, rfl, rfl, by decide⟩
theorem Pre.step {s : ByteArray} {k : Nat} {z : Int} (h : Pre s k z) (hk : k < s.size) : Pre s (k + 1) (wrap64 (wrap64 (z * 10) + ((s[k].toNat : Int) - 48) % 256)) := by
  intro N h0 h1 e
  obtain ⟨m, hm, rfl, hlt⟩ := h N h0 h1 e
  obtain ⟨d, hd, d0, d1, d2⟩ := it_dig h0 h1 e k hk
  have hl := (it_len h0 h1 e).2.1
  have hm3 : m < 1000 := Nat.lt_of_lt_of_le hlt (Nat.le_trans (Nat.pow_le_pow_right (by decide) (show k ≤ 3 by omega)) (by decide))
  refine ⟨m * 10 + d, Lib.decFrom_take _ k 0 m s[k] d hm (Rdd.at_byte s k hk) hd, ?_, ?_⟩
  · rw [wrap_is (x := (m : Int) * 10) (by omega) (by omega), wrap_is (by omega) (by omega)]
    omega
  · rw [Nat.pow_succ]; omega
theorem Pre.none {s : ByteArray} {k : Nat} (hk : k < s.size) (hd : Pat.digB (s[k].toNat : Int) = false) : ∀ N : Int, 1 ≤ N → N ≤ 1000 → s.data.toList ≠ Lib.itoa N := by
  intro N h0 h1 e
  obtain ⟨d, _, d0, d1, _⟩ := it_dig h0 h1 e k hk
  unfold Pat.digB at hd
  have := of_decide_eq_false hd
  omega
theorem f27c (N : Int) (w : World) (h0 : -9223372036854775808 ≤ N) (h1 : N ≤ 9223372036854775807) : Calls Tryz.prog 27 #[.int .i64 N] w fun e w' => (∃ t : ByteArray, e = .returned (.string t) ∧ (1 ≤ N → N ≤ 1000 → t = mkS (Lib.itoa N))) ∧ Below w.heap.size w w' := by
  by_cases h : 1 ≤ N ∧ N ≤ 1000
  · obtain ⟨M, rfl⟩ : ∃ M : Nat, N = M := ⟨N.toNat, by omega⟩
    refine (f27 M w (by omega) (by omega)).mono ?_
    rintro e w' ⟨rfl, hb⟩
    exact ⟨⟨_, rfl, fun _ _ => rfl⟩, hb⟩
  · refine (f27w N w h0 h1).mono ?_
    rintro e w' ⟨⟨t, rfl⟩, hb⟩
    exact ⟨⟨t, rfl, fun a b => absurd ⟨a, b⟩ h⟩, hb⟩
set_option maxRecDepth 100000 in
set_option maxHeartbeats 4000000 in
theorem f15 (s : ByteArray) (w : World) (hs : s.size ≤ 1048576) : Calls Tryz.prog 15 #[.string s] w (DgR s w) := by
  by_cases h1 : 1 ≤ s.size
  rotate_left
  · have h1' : (s.size : Int) < 1 := by omega
    go_enter Tryz.func15, Tryz.ntmps15
    go_wp2
    go_ret2
    exact ⟨Below.refl _ _, 0, false, rfl, by omega, by omega, fun N a b e => by have := (it_len a b e).1; omega⟩
  by_cases h20 : s.size ≤ 20
  rotate_left
  · have h20' : (20 : Int) < (s.size : Int) := by omega
    have h1' : ¬ (s.size : Int) < 1 := by omega
    go_enter Tryz.func15, Tryz.ntmps15
    go_wp2
    go_ret2
    exact ⟨Below.refl _ _, 0, false, rfl, by omega, by omega, fun N a b e => by have := (it_len a b e).2.1; omega⟩
  go_enter Tryz.func15, Tryz.ntmps15
  go_wp2
  go_loop [4, 5] (fun sn si => ∃ (k : Nat) (z : Int), k ≤ s.size ∧ sn = .int .i64 z ∧ si = .int .i64 k ∧ -9223372036854775808 ≤ z ∧ z ≤ 9223372036854775807 ∧ Hid (Pre s k z)) (fun _ si => s.size - (intOf si).toNat)
  case atStart => exact ⟨0, 0, by omega, rfl, rfl, by omega, by omega, Pre.start s⟩
  case round =>
    obtain ⟨k, z, hk, rfl, rfl, hz0, hz1, HP⟩ := hrel
    by_cases hlt : k < s.size
    · by_cases hdig : Pat.digB (s[k].toNat : Int) = true
      · have HS := hid (HP.out.step hlt)
        have HW := hid (wrap_in (wrap64 (z * 10) + ((s[k].toNat : Int) - 48) % 256))
        by_cases hk0 : k = 0
        · subst hk0
          have hne0 : ((s[0].toNat : Int) == 45) = false := by
            unfold Pat.digB at hdig
            simp at hdig ⊢
            omega
          go_wp2_with (first | (go_at_call 25; refine (Pat.f25 _ _).mono ?_; rintro e w' ⟨rfl, rfl⟩))
          go_round
          case rel => exact ⟨1, _, by omega, rfl, rfl, HW.out.1, HW.out.2, HS⟩
          case measure => simp [intOf]; omega
        · have hk0' : ((k : Int) == 0) = false := by simp; omega
          go_wp2_with (first | (go_at_call 25; refine (Pat.f25 _ _).mono ?_; rintro e w' ⟨rfl, rfl⟩))
          go_round
          case rel => exact ⟨k + 1, _, by omega, rfl, by go_num, HW.out.1, HW.out.2, HS⟩
          case measure => simp [intOf]; omega
      · have hdig' : Pat.digB (s[k].toNat : Int) = false := by simpa using hdig
        have HNo := hid (Pre.none hlt hdig')
        clear hdig
        by_cases hmin : k = 0 ∧ (s[k].toNat : Int) = 45
        · obtain ⟨rfl, h45⟩ := hmin
          have hne0 : ((s[0].toNat : Int) == 45) = true := by simp [h45]
          clear h45
          go_wp2_with (first | (go_at_call 25; refine (Pat.f25 _ _).mono ?_; rintro e w' ⟨rfl, rfl⟩))
          go_round
          case rel => exact ⟨1, z, by omega, rfl, rfl, hz0, hz1, fun N a b e => absurd e (HNo.out N a b)⟩
          case measure => simp [intOf]; omega
        · by_cases hk0 : k = 0
          · subst hk0
            have hne0 : ((s[0].toNat : Int) == 45) = false := by
              rw [beq_eq_false_iff_ne]; exact fun e => hmin ⟨rfl, e⟩
            clear hmin
            go_wp2_with (first | (go_at_call 25; refine (Pat.f25 _ _).mono ?_; rintro e w' ⟨rfl, rfl⟩))
            go_ret2
            exact ⟨Below.refl _ _, 0, false, rfl, by omega, by omega, fun N a b e => absurd e (HNo.out N a b)⟩
          · have hk0' : ((k : Int) == 0) = false := by simp; omega
            clear hmin
            go_wp2_with (first | (go_at_call 25; refine (Pat.f25 _ _).mono ?_; rintro e w' ⟨rfl, rfl⟩))
            go_ret2
            exact ⟨Below.refl _ _, 0, false, rfl, by omega, by omega, fun N a b e => absurd e (HNo.out N a b)⟩
    · obtain rfl : k = s.size := by omega
      have HV : Hid (∀ N : Int, 1 ≤ N → N ≤ 1000 → s.data.toList = Lib.itoa N → z = N) := fun N a b e => by
        obtain ⟨m, hm, rfl, _⟩ := HP.out N a b e
        rw [List.take_of_length_le (by simp), (it_len a b e).2.2] at hm
        have := Option.some.inj hm
        omega
      by_cases h45 : (s[0].toNat : Int) = 45
      · have HNo := hid (Pre.none (s := s) (k := 0) (by omega) (by rw [h45]; decide))
        have hne0 : ((s[0].toNat : Int) == 45) = true := by simp [h45]
        have HW := hid (wrap_in (-z))
        clear h45
        go_wp2_with (first | (go_at_call 27; refine (f27c _ _ (by first | exact HW.out.1 | omega) (by first | exact HW.out.2 | omega)).mono ?_; rintro e w1 ⟨⟨t, rfl, ht⟩, hb⟩; have HB := hid hb; clear hb))
        go_ret2
        exact ⟨HB.out, _, _, rfl, HW.out.1, HW.out.2, fun N a b e => absurd e (HNo.out N a b)⟩
      · have hne0 : ((s[0].toNat : Int) == 45) = false := by simpa using h45
        clear h45
        go_wp2_with (first | (go_at_call 27; refine (f27c _ _ hz0 hz1).mono ?_; rintro e w1 ⟨⟨t, rfl, ht⟩, hb⟩; have HB := hid hb; have HT := hid ht; clear hb ht))
        go_ret2
        refine ⟨HB.out, _, _, rfl, hz0, hz1, fun N a b e => ?_⟩
        have hz := HV.out N a b e
        have := HT.out (by omega) (by omega)
        refine ⟨hz, ?_⟩
        rw [this, hz, ← e, ByteArray.toList_eq]
        simp
end Go.Proofs.YtbijhkbmgljjiaaGreatDoor.Rel
