/- What GoodBits comes to, in the program and in its model: one plain test. -/
import Derived.Test.YteblbcbfaomdmaaDoorBts
import Derived.Laws.BitsAllLaws
namespace Go.Proofs.YteblbcbfaomdmaaDoor.Bts
open Go.RowKit Go.Proofs.YteblbcbfaomdmaaDoor.Byt

def good (zs : List Int) (s : Int) : Bool :=
  decide (0 ≤ s ∧ s ≤ 80000 ∧ (zs.length : Int) = (s + 7) / 8 ∧ (s % 8 = 0 ∨ zs.getD (zs.length - 1) 0 % 2 ^ (8 - (s % 8).toNat) = 0))

theorem good_out (zs : List Int) (s : Int) (h : ¬ (0 ≤ s ∧ s ≤ 80000 ∧ (zs.length : Int) = (s + 7) / 8)) : good zs s = false := by
  unfold good; rw [decide_eq_false_iff_not]; intro h'; exact h ⟨h'.1, h'.2.1, h'.2.2.1⟩
theorem good_in (zs : List Int) (s : Nat) (h : s ≤ 80000) (hl : zs.length = (s + 7) / 8) :
    good zs s = decide (s % 8 = 0 ∨ zs.getD (zs.length - 1) 0 % 2 ^ (8 - s % 8) = 0) := by
  unfold good
  rw [decide_eq_decide]
  have e1 : ((s : Int) % 8).toNat = s % 8 := by omega
  rw [e1]
  constructor
  · rintro ⟨_, _, _, h | h⟩
    · left; omega
    · right; exact h
  · intro h'
    refine ⟨by omega, by omega, by omega, ?_⟩
    rcases h' with h' | h'
    · left; omega
    · right; exact h'

theorem bit_step8 : ∀ (z : Fin 256) (u d : Fin 9), d.val ≤ u.val → 1 ≤ d.val → z.val % 2 ^ u.val < 2 ^ d.val → (z.val / 2 ^ (d.val - 1) % 2 = 0 → z.val % 2 ^ u.val < 2 ^ (d.val - 1)) ∧ (z.val / 2 ^ (d.val - 1) % 2 ≠ 0 → z.val % 2 ^ u.val ≠ 0) := by decide +kernel

theorem nat_of_byte (z : Int) (h0 : 0 ≤ z) (h1 : z ≤ 255) : ∃ y : Fin 256, z = (y.val : Int) := ⟨⟨z.toNat, by omega⟩, by simp; omega⟩

theorem bit_step (z : Int) (u d : Nat) (h0 : 0 ≤ z) (h1 : z ≤ 255) (hu : u ≤ 8) (hd : d ≤ u) (hd1 : 1 ≤ d) (h : z % 2 ^ u < 2 ^ d) :
    (z / 2 ^ (d - 1) % 2 = 0 → z % 2 ^ u < 2 ^ (d - 1)) ∧ (z / 2 ^ (d - 1) % 2 ≠ 0 → z % 2 ^ u ≠ 0) := by
  obtain ⟨y, rfl⟩ := nat_of_byte z h0 h1
  have := bit_step8 y ⟨u, by omega⟩ ⟨d, by omega⟩ hd hd1
  simp only at this
  have e1 : ∀ a b : Nat, ((a : Int) % 2 ^ b) = ((a % 2 ^ b : Nat) : Int) := fun a b => by rw [Int.natCast_emod, Int.natCast_pow]; rfl
  have e2 : ∀ a b : Nat, ((a : Int) / 2 ^ b) = ((a / 2 ^ b : Nat) : Int) := fun a b => by rw [Int.natCast_ediv, Int.natCast_pow]; rfl
  have e3 : ∀ b : Nat, ((2 : Int) ^ b) = ((2 ^ b : Nat) : Int) := fun b => by rw [Int.natCast_pow]; rfl
  rw [e1, e3] at h
  rw [e1, e2, e3]
  have h' := this (by omega)
  constructor
  · intro hz; have := h'.1 (by omega); omega
  · intro hz; have := h'.2 (by omega); omega

set_option maxHeartbeats 1000000 in
theorem f54 (a : Option Addr) (n c : Nat) (s : Int) (zs : List Int) (w : World) (hn : zs.length = n) (hb : n ≤ 1048576) (hr : Has w a zs) (h255 : ∀ j, 0 ≤ zs.getD j 0 ∧ zs.getD j 0 ≤ 255) :
    Calls Tryd.prog 54 #[.agg #[.slice a n c, .int .i64 s]] w fun e w' => e = .returned (.bool (good zs s)) ∧ Below w.heap.size w w' := by
  by_cases h0 : s < 0
  · have HG := hid (good_out zs s (by omega))
    clear hn h255
    go_enter Tryd.func54, Tryd.ntmps54
    go_wp2
    go_ret
    exact ⟨by rw [HG.out]; rfl, (Below.refl _ _).alloc (Nat.le_refl _) _⟩
  · by_cases h8 : 80000 < s
    · have HG := hid (good_out zs s (by omega))
      clear hn h255
      go_enter Tryd.func54, Tryd.ntmps54
      go_wp2
      go_ret
      exact ⟨by rw [HG.out]; rfl, (Below.refl _ _).alloc (Nat.le_refl _) _⟩
    · by_cases hl : (n : Int) = (s + 7) / 8
      · have hl' : ((n : Int) != (s + 7) / 8) = false := by simp [hl]
        obtain ⟨k, rfl⟩ := Int.eq_ofNat_of_zero_le (by omega : 0 ≤ s)
        have HK : Hid (n = (k + 7) / 8) := by unfold Hid; omega
        have HG := hid (good_in zs k (by omega) (by rw [hn]; exact HK.out))
        have b1 : k ≤ 8 * n := by have := HK.out; omega
        have b2 : 8 * n ≤ k + 7 := by have := HK.out; omega
        have HN := hid hn
        have HF := hid h255
        have hkk : k ≤ 80000 := by omega
        clear hn h255 hl h0 h8
        go_enter Tryd.func54, Tryd.ntmps54
        go_wp2
        go_loopw [3] (fun i wr => ∃ j : Nat, k ≤ j ∧ j ≤ 8 * n ∧ i = .int .i64 j ∧ Hid (zs.getD (n - 1) 0 % 2 ^ (8 * n - k) < 2 ^ (8 * n - j)) ∧ Below (w.heap.size + 1) (w.alloc (.cells #[.slice a n c, .int .i64 k] 26)) wr)
          (fun i _ => 8 * n - (intOf i).toNat)
        case atStart =>
          refine ⟨k, Nat.le_refl _, b1, rfl, ?_, Below.refl _ _⟩
          exact Int.emod_lt_of_pos _ (Int.pow_pos (by decide))
        case round =>
          obtain ⟨j, hj0, hj1, rfl, HI, hbel⟩ := hrel
          obtain ⟨hcl, hfz⟩ := bcell (W := w.alloc (.cells #[.slice a n c, .int .i64 k] 26)) (by simpa using hbel)
          simp only [World.size_alloc] at hcl hfz
          by_cases hlt : j < 8 * n
          · have hr1 : Has wr a zs := has_below (has_alloc hr _) (by simpa using hbel)
            have HD := hid (bit_step (zs.getD (n - 1) 0) (8 * n - k) (8 * n - j) (HF.out _).1 (HF.out _).2 (by omega) (by omega) (by omega) HI.out)
            have HV : Hid (bitOf zs j = zs.getD (n - 1) 0 / 2 ^ (8 * n - j - 1) % 2) := by
              unfold Hid bitOf
              rw [show j / 8 = n - 1 from by omega, show 7 - j % 8 = 8 * n - j - 1 from by omega]
            by_cases hbit : bitOf zs j = 0
            · have hb' : (bitOf zs j != 0) = false := by simp [hbit]
              have HZ := hid hbit
              clear hbit
              go_wp2_with (go_at_call 69; refine (f69 _ _ _ _ _ zs _ HN.out (by omega) hr1 (by omega) HF.out).mono ?_; rintro e w1 ⟨rfl, hb1⟩)
              go_roundw
              case rel =>
                refine ⟨j + 1, by omega, by omega, by go_num, ?_, hbel.trans (hb1.mono (by have := hbel.size; simpa using this))⟩
                have := HD.out.1 (by rw [← HV.out]; exact HZ.out)
                rw [show 8 * n - (j + 1) = 8 * n - j - 1 from by omega]
                exact this
              case measure => simp [intOf]; omega
            · have hb' : (bitOf zs j != 0) = true := by simp [hbit]
              have HZ := hid hbit
              clear hbit
              go_wp2_with (go_at_call 69; refine (f69 _ _ _ _ _ zs _ HN.out (by omega) hr1 (by omega) HF.out).mono ?_; rintro e w1 ⟨rfl, hb1⟩)
              go_ret
              have h1 := HD.out.2 (by rw [← HV.out]; exact HZ.out)
              rw [show 8 * n - k = 8 - k % 8 from by omega] at h1
              have h2 : good zs (k : Int) = false := by
                rw [HG.out, HN.out, decide_eq_false_iff_not]
                intro h
                rcases h with h | h
                · omega
                · exact h1 h
              refine ⟨by rw [h2]; rfl, ?_⟩
              exact ((Below.refl _ _).alloc (Nat.le_refl _) _).trans ((hbel.trans (hb1.mono (by have := hbel.size; simpa using this))).mono (by omega))
          · go_wp2
            go_ret
            have h2 : good zs (k : Int) = true := by
              rw [HG.out, HN.out, decide_eq_true_iff]
              by_cases h8 : k % 8 = 0
              · exact .inl h8
              · right
                have h1 := HI.out
                rw [show 8 * n - j = 0 from by omega, show 8 * n - k = 8 - k % 8 from by omega] at h1
                have h3 : (0 : Int) ≤ zs.getD (n - 1) 0 % 2 ^ (8 - k % 8) := Int.emod_nonneg _ (by have : (0 : Int) < 2 ^ (8 - k % 8) := Int.pow_pos (by decide); omega)
                rw [Int.pow_zero] at h1
                omega
            refine ⟨by rw [h2]; rfl, ?_⟩
            exact ((Below.refl _ _).alloc (Nat.le_refl _) _).trans (hbel.mono (by omega))
      · have hl' : ((n : Int) != (s + 7) / 8) = true := by simp [hl]
        have HG := hid (good_out zs s (by rw [hn]; omega))
        clear hn h255 hl
        go_enter Tryd.func54, Tryd.ntmps54
        go_wp2
        go_ret
        exact ⟨by rw [HG.out]; rfl, (Below.refl _ _).alloc (Nat.le_refl _) _⟩

theorem f47i (x : Int) (w : World) (h0 : 0 ≤ x) (h8 : x ≤ 8) :
    Calls Tryd.prog 47 #[.int .i64 x] w fun e w' => e = .returned (.int .u8 (2 ^ x.toNat - 1)) ∧ w' = w := by
  obtain ⟨k, rfl⟩ := Int.eq_ofNat_of_zero_le h0
  rw [Int.toNat_natCast]
  exact f47 k w (by omega)

theorem and_mask8 : ∀ (z : Fin 256) (k : Fin 9), z.val &&& (2 ^ k.val - 1) = z.val % 2 ^ k.val := by decide +kernel
theorem mask_le8 : ∀ (k : Fin 9), 2 ^ k.val - 1 < 256 := by decide +kernel
theorem and_mask (z : Int) (k : Nat) (h0 : 0 ≤ z) (h1 : z ≤ 255) (hk : k ≤ 8) : bits .and .u8 z (2 ^ k - 1) = z % 2 ^ k := by
  obtain ⟨y, rfl⟩ := nat_of_byte z h0 h1
  have e3 : ((2 : Int) ^ k - 1) = ((2 ^ k - 1 : Nat) : Int) := by
    have h : 1 ≤ 2 ^ k := Nat.one_le_two_pow
    have e : ((2 : Int) ^ k) = ((2 ^ k : Nat) : Int) := by rw [Int.natCast_pow]; rfl
    omega
  have h2 : 2 ^ k - 1 < 256 := mask_le8 ⟨k, by omega⟩
  rw [e3, u8_and_nat _ _ y.isLt h2, and_mask8 y ⟨k, by omega⟩, Int.natCast_emod, Int.natCast_pow]
  rfl

set_option maxHeartbeats 1000000 in
theorem f14 (a : Option Addr) (n c : Nat) (s : Int) (zs : List Int) (w : World) (hn : zs.length = n) (hb : n ≤ 1048576) (hr : Has w a zs) (h255 : ∀ j, 0 ≤ zs.getD j 0 ∧ zs.getD j 0 ≤ 255) :
    Calls Tryd.prog 14 #[.agg #[.slice a n c, .int .i64 s]] w fun e w' => e = .returned (.bool (good zs s)) ∧ Below w.heap.size w w' := by
  by_cases h0 : s < 0
  · have HG := hid (good_out zs s (by omega))
    clear hn h255
    go_enter Tryd.func14, Tryd.ntmps14
    go_wp2
    go_ret
    exact ⟨by rw [HG.out]; rfl, (Below.refl _ _).alloc (Nat.le_refl _) _⟩
  · by_cases h8 : 80000 < s
    · have HG := hid (good_out zs s (by omega))
      clear hn h255
      go_enter Tryd.func14, Tryd.ntmps14
      go_wp2
      go_ret
      exact ⟨by rw [HG.out]; rfl, (Below.refl _ _).alloc (Nat.le_refl _) _⟩
    · by_cases hl : (n : Int) = (s + 7) / 8
      · have hl' : ((n : Int) != (s + 7) / 8) = false := by simp [hl]
        obtain ⟨k, rfl⟩ := Int.eq_ofNat_of_zero_le (by omega : 0 ≤ s)
        have HK : Hid (n = (k + 7) / 8) := by unfold Hid; omega
        have HG := hid (good_in zs k (by omega) (by rw [hn]; exact HK.out))
        have HN := hid hn
        have HF := hid h255
        have hkk : k ≤ 80000 := by omega
        clear hn h255 hl h0 h8
        by_cases hu : k % 8 = 0
        · have hu' : ((k : Int) % 8 == 0) = true := by simp; omega
          have HU := hid hu
          clear hu
          go_enter Tryd.func14, Tryd.ntmps14
          go_wp2
          go_quiet (fail)
          go_wp2
          go_ret
          have h2 : good zs (k : Int) = true := by rw [HG.out, decide_eq_true_iff]; exact .inl HU.out
          exact ⟨by rw [h2]; rfl, below_drewN ((Below.refl _ _).alloc (Nat.le_refl _) _) _⟩
        · have hu' : ((k : Int) % 8 == 0) = false := by simp; omega
          have hn1 : 1 ≤ n := by have := HK.out; omega
          rcases hr with hr | ⟨b, off, rfl, hbl, hc⟩
          · exact absurd HN.out (by rw [hr]; simp; omega)
          have hcx := hc (n - 1) (by rw [HN.out]; omega)
          obtain ⟨z0, z1⟩ := HF.out (n - 1)
          obtain ⟨z, hz⟩ : ∃ z, z = zs.getD (n - 1) 0 := ⟨_, rfl⟩
          rw [← hz] at hcx z0 z1
          have HZ := hid hz
          have HU := hid hu
          clear hz hc hu
          go_enter Tryd.func14, Tryd.ntmps14
          go_wp2
          go_quiet ((go_at_call 47; exact Calls.quiet_of_same (f47i _ _ (by omega) (by omega))))
          go_wp2
          go_ret
          have h2 : good zs (k : Int) = (bits .and .u8 z (2 ^ (8 - k % 8) - 1) == 0) := by
            rw [HG.out, HN.out, ← HZ.out, and_mask z _ z0 z1 (by omega)]
            have h3 := HU.out
            rw [Bool.eq_iff_iff]
            simp [h3]
          exact ⟨by rw [h2]; rfl, below_drewN ((Below.refl _ _).alloc (Nat.le_refl _) _) _⟩
      · have hl' : ((n : Int) != (s + 7) / 8) = true := by simp [hl]
        have HG := hid (good_out zs s (by rw [hn]; omega))
        clear hn h255 hl
        go_enter Tryd.func14, Tryd.ntmps14
        go_wp2
        go_ret
        exact ⟨by rw [HG.out]; rfl, (Below.refl _ _).alloc (Nat.le_refl _) _⟩
end Go.Proofs.YteblbcbfaomdmaaDoor.Bts
