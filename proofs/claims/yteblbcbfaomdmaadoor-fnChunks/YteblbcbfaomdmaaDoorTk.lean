/- The number that some bits are, and what TakeBits of the model comes to. -/
import Derived.Test.YteblbcbfaomdmaaDoorGoodw
namespace Go.Proofs.YteblbcbfaomdmaaDoor.Bts
open Go.RowKit Go.Proofs.YteblbcbfaomdmaaDoor.Byt

def tk (zs : List Int) (t : Nat) : Nat → Int
  | 0 => 0
  | i + 1 => 2 * tk zs t i + bitOf zs (t + i)

theorem bitOf_lo (zs : List Int) (k : Nat) : 0 ≤ bitOf zs k := by unfold bitOf; omega
theorem bitOf_hi (zs : List Int) (k : Nat) : bitOf zs k ≤ 1 := by unfold bitOf; omega
theorem two_pow_succ (i : Nat) : (2 : Int) ^ (i + 1) = 2 * 2 ^ i := by rw [Int.pow_succ, Int.mul_comm]
theorem two_pow_pos (i : Nat) : (1 : Int) ≤ 2 ^ i := by
  have h : (0 : Int) < 2 ^ i := Int.pow_pos (by decide)
  omega
theorem tk_lo (zs : List Int) (t i : Nat) : 0 ≤ tk zs t i := by
  induction i with
  | zero => simp [tk]
  | succ i ih => rw [tk]; have := bitOf_lo zs (t + i); omega
theorem tk_hi (zs : List Int) (t i : Nat) : tk zs t i < 2 ^ i := by
  induction i with
  | zero => simp [tk]
  | succ i ih => rw [tk, two_pow_succ]; have := bitOf_hi zs (t + i); omega
theorem tk_add (zs : List Int) (t i m : Nat) : tk zs t (i + m) = tk zs t i * 2 ^ m + tk zs (t + i) m := by
  induction m with
  | zero => simp [tk]
  | succ m ih =>
    rw [← Nat.add_assoc, tk, tk, ih, two_pow_succ, Nat.add_assoc t i m]
    rw [Int.mul_add, ← Int.mul_assoc 2, ← Int.mul_assoc, Int.mul_comm 2 (tk zs t i), Int.add_assoc]

theorem split_mod (y : Int) (m : Nat) : 2 * (y / 2 % 2 ^ m) + y % 2 = y % 2 ^ (m + 1) := by
  rw [two_pow_succ]
  have hp := two_pow_pos m
  have e1 := Int.emod_add_mul_ediv (y / 2) (2 ^ m)
  have e2 : y = (2 * 2 ^ m) * (y / 2 / 2 ^ m) + (2 * (y / 2 % 2 ^ m) + y % 2) := by
    have h3 : 2 * (2 ^ m * (y / 2 / 2 ^ m)) = (2 * 2 ^ m) * (y / 2 / 2 ^ m) := by rw [Int.mul_assoc]
    omega
  have b0 : 0 ≤ y / 2 % 2 ^ m := Int.emod_nonneg _ (by omega)
  have b1 : y / 2 % 2 ^ m < 2 ^ m := Int.emod_lt_of_pos _ (by omega)
  generalize y / 2 / 2 ^ m = q at *
  generalize y / 2 % 2 ^ m = r at *
  generalize (2 : Int) ^ m = p at *
  have e3 : y % (2 * p) = (2 * r + y % 2 + 2 * p * q) % (2 * p) := by
    conv => lhs; rw [e2, Int.add_comm (2 * p * q) _]
  rw [e3, Int.add_mul_emod_self_left]
  exact (Int.emod_eq_of_lt (by omega) (by omega)).symm

/-- Bits within one byte. -/
theorem tk_byte (zs : List Int) (t : Nat) : ∀ m, t % 8 + m ≤ 8 → tk zs t m = zs.getD (t / 8) 0 / 2 ^ (8 - t % 8 - m) % 2 ^ m := by
  intro m
  induction m with
  | zero => intro _; simp [tk, Int.emod_one]
  | succ m ih =>
    intro h
    rw [tk, ih (by omega)]
    unfold bitOf
    have e1 : (t + m) / 8 = t / 8 := by omega
    have e2 : 7 - (t + m) % 8 = 8 - t % 8 - (m + 1) := by omega
    rw [e1, e2]
    generalize zs.getD (t / 8) 0 = z
    have e3 : 8 - t % 8 - m = (8 - t % 8 - (m + 1)) + 1 := by omega
    rw [e3]
    generalize 8 - t % 8 - (m + 1) = j
    rw [Int.pow_succ, ← Int.ediv_ediv_of_nonneg (by have := two_pow_pos j; omega), split_mod]

theorem or_bit (x v : Int) (h0 : 0 ≤ x) (h1 : x ≤ 9223372036854775807) (v0 : 0 ≤ v) (v1 : v ≤ 1) : bits .or .u64 (x * 2) v = 2 * x + v := by
  rw [u64_or (x * 2) v (by omega) (by omega) v0 (by omega)]
  have h : (x * 2).toNat ||| v.toNat = (x * 2).toNat + v.toNat := nat_join 1 _ _ (by omega) (by omega)
  rw [h]; omega

/-- What TakeBits answers of good bits of size s. -/
def takeOf (zs : List Int) (s i n : Int) : Int × Bool :=
  if 0 ≤ i ∧ 0 ≤ n ∧ n ≤ 64 ∧ i + n ≤ s then (wrap64 (tk zs i.toNat n.toNat), true) else (0, false)
theorem take_out (zs : List Int) (s i n : Int) (h : ¬ (0 ≤ i ∧ 0 ≤ n ∧ n ≤ 64 ∧ i + n ≤ s)) : takeOf zs s i n = (0, false) := by unfold takeOf; rw [if_neg h]
theorem take_in (zs : List Int) (s : Int) (t m : Nat) (h1 : m ≤ 64) (h2 : (t : Int) + m ≤ s) : takeOf zs s t m = (wrap64 (tk zs t m), true) := by
  unfold takeOf; rw [if_pos (by omega), Int.toNat_natCast, Int.toNat_natCast]

theorem f69i (a : Option Addr) (n c : Nat) (s x : Int) (zs : List Int) (w : World) (hn : zs.length = n) (hb : n ≤ 140737488351232) (hr : Has w a zs) (hx : 0 ≤ x) (hk : x.toNat / 8 < n) (h255 : ∀ j, 0 ≤ zs.getD j 0 ∧ zs.getD j 0 ≤ 255) :
    Calls Tryd.prog 69 #[.agg #[.slice a n c, .int .i64 s], .int .i64 x] w fun e w' => e = .returned (.int .i64 (bitOf zs x.toNat)) ∧ Below w.heap.size w w' := by
  obtain ⟨k, rfl⟩ := Int.eq_ofNat_of_zero_le hx
  rw [Int.toNat_natCast] at hk ⊢
  exact f69 a n c s k zs w hn hb hr hk h255

theorem p64 (k : Nat) (h : k < 64) : (2 : Int) ^ k ≤ 9223372036854775808 := by
  have h1 : (2 : Nat) ^ k ≤ 2 ^ 63 := Nat.pow_le_pow_right (by omega) (by omega)
  have e : ((2 : Int) ^ k) = ((2 ^ k : Nat) : Int) := by rw [Int.natCast_pow]; rfl
  omega

set_option maxHeartbeats 2000000 in
theorem f83 (a : Option Addr) (n c : Nat) (s i m : Int) (zs : List Int) (w : World) (hn : zs.length = n) (hb : n ≤ 1048576) (hr : Has w a zs) (h255 : ∀ j, 0 ≤ zs.getD j 0 ∧ zs.getD j 0 ≤ 255)
    (hs0 : 0 ≤ s) (hs1 : s ≤ 80000) (hs2 : s ≤ 8 * n) (hi0 : -9223372036854775808 ≤ i) (hi1 : i ≤ 9223372036854775807) (hm0 : -9223372036854775808 ≤ m) (hm1 : m ≤ 9223372036854775807) :
    Calls Tryd.prog 83 #[.agg #[.slice a n c, .int .i64 s], .int .i64 i, .int .i64 m] w fun e w' => e = .returned (.tuple #[.int .i64 (takeOf zs s i m).1, .bool (takeOf zs s i m).2]) ∧ Below w.heap.size w w' := by
  by_cases hin : 0 ≤ i ∧ 0 ≤ m ∧ m ≤ 64 ∧ i + m ≤ s
  · obtain ⟨a0, a1, a2, a3⟩ := hin
    obtain ⟨t, rfl⟩ := Int.eq_ofNat_of_zero_le a0
    obtain ⟨k, rfl⟩ := Int.eq_ofNat_of_zero_le a1
    have HT := hid (take_in zs s t k (by omega) (by omega))
    have HN := hid hn
    have HF := hid h255
    clear hn h255
    go_enter Tryd.func83, Tryd.ntmps83
    go_wp2
    go_loopw [8, 9] (fun x j wr => ∃ (y : Nat), y ≤ k ∧ j = .int .i64 y ∧ x = .int .u64 (tk zs t y) ∧ Below (w.heap.size + 1) (w.alloc (.cells #[.slice a n c, .int .i64 s] 26)) wr)
      (fun _ j _ => k - (intOf j).toNat)
    case atStart => exact ⟨0, Nat.zero_le _, rfl, rfl, Below.refl _ _⟩
    case round =>
      obtain ⟨y, hy, rfl, rfl, hbel⟩ := hrel
      have hbel' : Below (w.alloc (.cells #[.slice a n c, .int .i64 s] 26)).heap.size (w.alloc (.cells #[.slice a n c, .int .i64 s] 26)) wr := by simpa using hbel
      have c0 : wr.cell? ⟨w.heap.size, 0, none⟩ = some (.slice a n c) := (hbel'.cell (p := ⟨w.heap.size, 0, none⟩) (by simp)).trans (by simp)
      have c1 : wr.cell? ⟨w.heap.size, 1, none⟩ = some (.int .i64 s) := (hbel'.cell (p := ⟨w.heap.size, 1, none⟩) (by simp)).trans (by simp)
      have hr1 : Has wr a zs := has_below (has_alloc hr _) hbel'
      have x0 := tk_lo zs t y
      have HS : Hid (tk zs t (y + 1) = 2 * tk zs t y + bitOf zs (t + y)) := rfl
      by_cases hlt : y < k
      · have x1 : tk zs t y ≤ 9223372036854775807 := by have := tk_hi zs t y; have := p64 y (by omega); omega
        have v0 := bitOf_lo zs (t + y)
        have v1 := bitOf_hi zs (t + y)
        have HO := hid (or_bit (tk zs t y) (bitOf zs (t + y)) x0 x1 v0 v1)
        have het : ((t : Int) + (y : Int)).toNat = t + y := by omega
        generalize hX : tk zs t y = X at *
        have HX := hid hX
        clear hX
        go_wp2_with (go_at_call 69; refine (f69i _ _ _ _ _ zs _ HN.out (by omega) hr1 (by omega) (by omega) HF.out).mono ?_; rw [het]; rintro e w1 ⟨rfl, hb1⟩)
        go_roundw
        case rel => exact ⟨y + 1, by omega, by go_num, by rw [HO.out, HS.out], hbel.trans (hb1.mono (by have := hbel.size; simpa using this))⟩
        case measure => simp [intOf]; omega
      · go_wp2
        go_ret2
        have : y = k := by omega
        subst this
        exact ⟨by rw [HT.out]; rfl, ((Below.refl _ _).alloc (Nat.le_refl _) _).trans (hbel.mono (by omega))⟩
  · have HT := hid (take_out zs s i m hin)
    clear hn h255
    by_cases h1 : i < 0
    · clear hin
      go_enter Tryd.func83, Tryd.ntmps83
      go_wp2
      go_ret2
      exact ⟨by rw [HT.out]; rfl, (Below.refl _ _).alloc (Nat.le_refl _) _⟩
    · by_cases h2 : m < 0
      · clear hin
        go_enter Tryd.func83, Tryd.ntmps83
        go_wp2
        go_ret2
        exact ⟨by rw [HT.out]; rfl, (Below.refl _ _).alloc (Nat.le_refl _) _⟩
      · by_cases h3 : 64 < m
        · clear hin
          go_enter Tryd.func83, Tryd.ntmps83
          go_wp2
          go_ret2
          exact ⟨by rw [HT.out]; rfl, (Below.refl _ _).alloc (Nat.le_refl _) _⟩
        · by_cases h4 : s < i
          · clear hin
            go_enter Tryd.func83, Tryd.ntmps83
            go_wp2
            go_ret2
            exact ⟨by rw [HT.out]; rfl, (Below.refl _ _).alloc (Nat.le_refl _) _⟩
          · have h5 : s - i < m := by omega
            clear hin
            go_enter Tryd.func83, Tryd.ntmps83
            go_wp2
            go_ret2
            exact ⟨by rw [HT.out]; rfl, (Below.refl _ _).alloc (Nat.le_refl _) _⟩

/-- What TakeBits answers. -/
def takeB (zs : List Int) (s i n : Int) : Int × Bool := if good zs s then takeOf zs s i n else (0, false)
theorem takeB_good (zs : List Int) (s i n : Int) (h : good zs s = true) : takeB zs s i n = takeOf zs s i n := by unfold takeB; rw [if_pos h]
theorem takeB_bad (zs : List Int) (s i n : Int) (h : good zs s = false) : takeB zs s i n = (0, false) := by unfold takeB; rw [if_neg (by rw [h]; simp)]
theorem good_bd (zs : List Int) (s : Int) (h : good zs s = true) : 0 ≤ s ∧ s ≤ 80000 ∧ s ≤ 8 * zs.length ∧ (zs.length : Int) = (s + 7) / 8 := by
  unfold good at h
  rw [decide_eq_true_iff] at h
  obtain ⟨h1, h2, h3, _⟩ := h
  omega

end Go.Proofs.YteblbcbfaomdmaaDoor.Bts
