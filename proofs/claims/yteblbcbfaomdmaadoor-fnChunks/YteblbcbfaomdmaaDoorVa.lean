/- Zeros ahead of a word's first 1 and behind its last one: the library's, the program's frameOf, the model's l6Zeros. -/
import Derived.Test.YteblbcbfaomdmaaDoorTa
import Derived.Test.YteblbcbfaomdmaaDoorLz
import Derived.Lib.TrailingZeros
import Derived.Laws.BitsAllLaws
import Derived.Laws.Bits64b
namespace Go.Proofs.YteblbcbfaomdmaaDoor.Chk
open Go.RowKit Go.Proofs.YteblbcbfaomdmaaDoor.Smp

/-- a zeros ahead of the first 1 of x, b behind the last one. -/
structure Zr (x : Int) (a b : Nat) : Prop where
  a63 : a ≤ 63
  b63 : b ≤ 63
  hi : x < 2 ^ (64 - a)
  ge : 2 ^ (63 - a) ≤ x
  lo : x % 2 ^ b = 0
  odd : x / 2 ^ b % 2 = 1
theorem pow_pos' (k : Nat) : (0 : Int) < 2 ^ k := Int.pow_pos (by decide)
theorem pow_mono {i j : Nat} (h : i ≤ j) : (2 : Int) ^ i ≤ 2 ^ j := by
  have := Nat.pow_le_pow_right (show 0 < 2 by decide) h
  have e : ∀ k : Nat, (2 : Int) ^ k = ((2 ^ k : Nat) : Int) := fun k => by rw [Int.natCast_pow]; rfl
  rw [e, e]; omega
theorem zr_a {x : Int} {a b a' b' : Nat} (h : Zr x a b) (h' : Zr x a' b') : a = a' := by
  rcases Nat.lt_trichotomy a a' with e | e | e
  · have h1 := pow_mono (show 64 - a' ≤ 63 - a by have := h.a63; omega)
    have := h.ge; have := h'.hi; omega
  · exact e
  · have h1 := pow_mono (show 64 - a ≤ 63 - a' by have := h'.a63; omega)
    have := h'.ge; have := h.hi; omega
theorem lo_down {x : Int} {i j : Nat} (hij : i < j) (h : x % 2 ^ j = 0) : x / 2 ^ i % 2 = 0 := by
  obtain ⟨d, rfl⟩ : ∃ d, j = i + (d + 1) := ⟨j - i - 1, by omega⟩
  obtain ⟨q, hq⟩ := Int.dvd_of_emod_eq_zero h
  have hp := pow_pos' i
  rw [hq, Int.pow_add, Int.mul_assoc, Int.mul_ediv_cancel_left _ (by omega), Int.pow_succ, Int.mul_assoc, Int.mul_comm, Int.mul_assoc, Int.mul_emod_right]
theorem zr_b {x : Int} {a b a' b' : Nat} (h : Zr x a b) (h' : Zr x a' b') : b = b' := by
  rcases Nat.lt_trichotomy b b' with e | e | e
  · have := lo_down e h'.lo; have := h.odd; omega
  · exact e
  · have := lo_down e h.lo; have := h'.odd; omega
open Classical in
/-- The zeros of a word. -/
noncomputable def zr (x : Int) : Nat × Nat := if h : ∃ p : Nat × Nat, Zr x p.1 p.2 then Classical.choose h else (0, 0)
theorem zr_eq {x : Int} {a b : Nat} (h : Zr x a b) : zr x = (a, b) := by
  have hx : ∃ p : Nat × Nat, Zr x p.1 p.2 := ⟨(a, b), h⟩
  unfold zr
  rw [dif_pos hx]
  have h2 := Classical.choose_spec hx
  exact Prod.ext (zr_a h2 h) (zr_b h2 h)
theorem zr_sum {x : Int} {a b : Nat} (h : Zr x a b) : a + b ≤ 63 := by
  refine Classical.byContradiction fun hn => ?_
  have h1 := pow_mono (show 64 - a ≤ b by omega)
  have h2 := h.hi
  have h3 := h.ge
  have h4 := pow_pos' (63 - a)
  have h5 : x % 2 ^ b = x := Int.emod_eq_of_lt (by omega) (by omega)
  have := h.lo
  omega
theorem and_one64 (x : Int) (h0 : 0 ≤ x) (h1 : x ≤ 18446744073709551615) : bits .and .u64 x 1 = x % 2 := by
  rw [u64_and x 1 h0 (by omega) (by omega) (by omega), show (1 : Int).toNat = 1 from rfl, Nat.and_one_is_mod]
  omega
theorem hi_step {x : Int} {k : Nat} (h : x < 2 ^ (k + 1)) (h0 : 0 ≤ x) (hb : x / 2 ^ k % 2 = 0) : x < 2 ^ k := by
  have hp := pow_pos' k
  rw [Int.pow_succ] at h
  have h1 : x / 2 ^ k < 2 := by rw [Int.ediv_lt_iff_lt_mul hp]; omega
  have h2 : 0 ≤ x / 2 ^ k := Int.ediv_nonneg h0 (by omega)
  have h3 : x / 2 ^ k = 0 := by omega
  have := Int.lt_mul_ediv_self_add (x := x) hp
  rw [h3] at this; omega
theorem hi_stop {x : Int} {k : Nat} (h0 : 0 ≤ x) (hb : ¬ x / 2 ^ k % 2 = 0) : 2 ^ k ≤ x := by
  refine Classical.byContradiction fun hn => hb ?_
  rw [Int.ediv_eq_zero_of_lt h0 (by omega)]; rfl
theorem lo_step {x : Int} {k : Nat} (h : x % 2 ^ k = 0) (hb : x / 2 ^ k % 2 = 0) : x % 2 ^ (k + 1) = 0 := by
  obtain ⟨q, hq⟩ := Int.dvd_of_emod_eq_zero h
  have hp := pow_pos' k
  rw [hq, Int.mul_ediv_cancel_left _ (by omega)] at hb
  obtain ⟨r, hr⟩ := Int.dvd_of_emod_eq_zero hb
  rw [hq, hr, Int.pow_succ, ← Int.mul_assoc, Int.mul_emod_right]

set_option maxHeartbeats 2000000 in
theorem f68 (x : Int) (w : World) (h0 : 0 < x) (h1 : x ≤ 18446744073709551615) :
    Calls Tryd.prog 68 #[.int .u64 x] w fun e w' => ∃ a b : Nat, Zr x a b ∧ e = .returned (.tuple #[.int .i64 a, .int .i64 b]) ∧ w' = w := by
  go_enter Tryd.func68, Tryd.ntmps68
  go_wp2
  go_loop [4] (fun sa => ∃ k : Nat, k ≤ 64 ∧ sa = .int .i64 k ∧ Hid (x < 2 ^ (64 - k))) (fun sa => 64 - (intOf sa).toNat)
  case atStart => exact ⟨0, by omega, rfl, by unfold Hid; simp; omega⟩
  case round =>
    obtain ⟨k, hk, rfl, hx⟩ := hrel
    by_cases hlt : k < 64
    · have HA := and_one64 (x / 2 ^ (63 - k)) (Int.ediv_nonneg (by omega) (by have := pow_pos' (63 - k); omega)) (Int.le_trans (Int.ediv_le_self _ (by omega)) h1)
      by_cases hb : x / 2 ^ (63 - k) % 2 = 0
      · have hc : (bits .and .u64 (x / 2 ^ (63 - k)) 1 == 0) = true := by rw [HA, hb]; rfl
        have HS : Hid (x < 2 ^ (64 - (k + 1))) := by
          have := hi_step (k := 63 - k) (by rw [show 63 - k + 1 = 64 - k from by omega]; exact hx.out) (by omega) hb
          unfold Hid; rw [show 64 - (k + 1) = 63 - k from by omega]; exact this
        clear HA hb
        go_wp2
        go_round
        case rel => exact ⟨k + 1, by omega, by go_num, HS.out⟩
        case measure => simp [intOf]; omega
      · have hc : (bits .and .u64 (x / 2 ^ (63 - k)) 1 == 0) = false := by rw [HA]; exact beq_eq_false_iff_ne.2 hb
        have HS := hid (hi_stop (by omega) hb)
        clear HA hb
        go_wp2
        go_loop [5] (fun sb => ∃ j : Nat, j ≤ 64 ∧ sb = .int .i64 j ∧ Hid (x % 2 ^ j = 0)) (fun sb => 64 - (intOf sb).toNat)
        case atStart => exact ⟨0, by omega, rfl, by unfold Hid; simp⟩
        case round =>
          obtain ⟨j, hj, rfl, hy⟩ := hrel
          by_cases hjt : j < 64
          · have HA := and_one64 (x / 2 ^ j) (Int.ediv_nonneg (by omega) (by have := pow_pos' j; omega)) (Int.le_trans (Int.ediv_le_self _ (by omega)) h1)
            by_cases hb : x / 2 ^ j % 2 = 0
            · have hd : (bits .and .u64 (x / 2 ^ j) 1 == 0) = true := by rw [HA, hb]; rfl
              have HT := hid (lo_step hy.out hb)
              clear HA hb
              go_wp2
              go_round
              case rel => exact ⟨j + 1, by omega, by go_num, HT.out⟩
              case measure => simp [intOf]; omega
            · have hd : (bits .and .u64 (x / 2 ^ j) 1 == 0) = false := by rw [HA]; exact beq_eq_false_iff_ne.2 hb
              have HT : Hid (x / 2 ^ j % 2 = 1) := by unfold Hid; omega
              clear HA hb
              go_wp2
              go_ret2
              exact ⟨k, j, ⟨by omega, by omega, hx.out, HS.out, hy.out, HT.out⟩, rfl, rfl⟩
          · exfalso
            obtain rfl : j = 64 := by omega
            have := hy.out
            omega
    · exfalso
      have := hx.out
      rw [show 64 - k = 0 from by omega] at this
      simp at this; omega

/-- The library's table, where the program's text lays it. -/
def Tab (w : World) : Prop := ∀ j, j < 64 → w.cell? ⟨1, j, none⟩ = some (.int .u8 (Lib.deBruijn64tab.getD j 0))
theorem Tab.below {w w' : World} (h : Tab w) (hb : Below w.heap.size w w') : Tab w' := fun j hj =>
  (hb.cell (p := ⟨1, j, none⟩) (World.block_lt_of_cell? w _ (h j hj))).trans (h j hj)
theorem low_idx (x : Nat) (hx : x < 18446744073709551616) (h0 : x ≠ 0) :
    IntKind.u64.wrap (bits BinOp.and IntKind.u64 (x : Int) (IntKind.u64.wrap (-(x : Int))) * 285870213051353865) / 288230376151711744 = ((2 ^ Lib.ctz 64 x * 285870213051353865 % 18446744073709551616 / 288230376151711744 : Nat) : Int) := by
  have hl := (Lib.lowest_bit 64 x h0 (by omega)).1
  have e1 : IntKind.u64.wrap (-(x : Int)) = ((18446744073709551616 - x : Nat) : Int) := by rw [IntKind.wrap_u64]; omega
  rw [show (2 : Nat) ^ 64 = 18446744073709551616 from rfl] at hl
  rw [e1, u64_and_nat x _ hx (by omega), hl, IntKind.wrap_u64]
  generalize 2 ^ Lib.ctz 64 x = p
  omega
set_option maxHeartbeats 1000000 in
theorem tzWalk (x k i : Nat) (w : World) (hx0 : ((x : Int) == 0) = false)
    (key : IntKind.u64.wrap (bits BinOp.and IntKind.u64 (x : Int) (IntKind.u64.wrap (-(x : Int))) * 285870213051353865) / 288230376151711744 = (i : Int))
    (hi : i < 64) (hk : k < 64) (hc : w.cell? ⟨1, i, none⟩ = some (.int .u8 k)) :
    Calls Tryd.prog 87 #[.int .u64 x] w fun e w' => e = .returned (.int .i64 k) ∧ w' = w := by
  go_enter Tryd.func87, Tryd.ntmps87
  go_wp2_with (simp only [key])
  go_ret
  exact ⟨rfl, rfl⟩
theorem f87 (x : Nat) (w : World) (h0 : x ≠ 0) (h1 : x < 18446744073709551616) (ht : Tab w) :
    Calls Tryd.prog 87 #[.int .u64 x] w fun e w' => e = .returned (.int .i64 (Lib.ctz 64 x)) ∧ w' = w := by
  have hk := low_idx x h1 h0
  obtain ⟨_, hl2⟩ := Lib.lowest_bit 64 x h0 (by omega)
  obtain ⟨d1, d2⟩ := Lib.deBruijn64_at _ hl2
  have hc := ht _ d1
  rw [d2] at hc
  exact tzWalk x _ _ w (beq_eq_false_iff_ne.2 (by omega)) hk d1 hl2 hc
theorem bitLen_pow : ∀ (f x : Nat), x ≠ 0 → x < 2 ^ f → 2 ^ (Lib.bitLenAux f x - 1) ≤ x ∧ x < 2 ^ Lib.bitLenAux f x ∧ 1 ≤ Lib.bitLenAux f x := by
  intro f
  induction f with
  | zero => intro x h0 h; simp at h; omega
  | succ f ih =>
    intro x h0 h
    unfold Lib.bitLenAux
    rw [if_neg h0]
    by_cases h2 : x / 2 = 0
    · rw [h2]
      have : Lib.bitLenAux f 0 = 0 := by cases f <;> simp [Lib.bitLenAux]
      rw [this]
      have : x = 1 := by omega
      subst this
      simp
    · have h3 : x / 2 < 2 ^ f := by rw [Nat.pow_succ] at h; omega
      obtain ⟨a, b, c⟩ := ih (x / 2) h2 h3
      generalize Lib.bitLenAux f (x / 2) = L at *
      obtain ⟨M, rfl⟩ : ∃ M, L = M + 1 := ⟨L - 1, by omega⟩
      rw [show 1 + (M + 1) - 1 = M + 1 from by omega, show 1 + (M + 1) = M + 2 from by omega]
      rw [Nat.add_sub_cancel] at a
      rw [Nat.pow_succ] at b
      refine ⟨?_, ?_, by omega⟩
      · rw [Nat.pow_succ]; omega
      · rw [Nat.pow_succ, Nat.pow_succ]; omega
theorem pcast (k : Nat) : (2 : Int) ^ k = ((2 ^ k : Nat) : Int) := by rw [Int.natCast_pow]; rfl
theorem zr_lib (x : Nat) (h0 : x ≠ 0) (h1 : x < 18446744073709551616) : Lib.bitLen x ≤ 64 ∧ 1 ≤ Lib.bitLen x ∧ Zr (x : Int) (64 - Lib.bitLen x) (Lib.ctz 64 x) := by
  obtain ⟨a, b, c⟩ := bitLen_pow 64 x h0 (by omega)
  have hle := Lib.bitLen_le x 64 (Nat.le_refl _) (by omega)
  have e : Lib.bitLen x = Lib.bitLenAux 64 x := rfl
  rw [← e] at a b c
  obtain ⟨m, hm, hk⟩ := Lib.ctzFrom_spec 64 x (by omega) (by omega)
  have e2 : Lib.ctz 64 x = Lib.ctzFrom 64 x := by simp [Lib.ctz, h0]
  refine ⟨hle, c, by omega, by rw [e2]; omega, ?_, ?_, ?_, ?_⟩
  · rw [pcast, show 64 - (64 - Lib.bitLen x) = Lib.bitLen x from by omega]; omega
  · rw [pcast, show 63 - (64 - Lib.bitLen x) = Lib.bitLen x - 1 from by omega]; omega
  · rw [e2, pcast]
    have : x % 2 ^ Lib.ctzFrom 64 x = 0 := by rw (occs := [1]) [hm]; exact Nat.mul_mod_right _ _
    omega
  · rw [e2, pcast]
    have hp : 0 < 2 ^ Lib.ctzFrom 64 x := Nat.pow_pos (by decide)
    have : x / 2 ^ Lib.ctzFrom 64 x = 2 * m + 1 := by rw (occs := [1]) [hm]; exact Nat.mul_div_cancel_left _ hp
    rw [← Int.natCast_ediv, this]; omega
/-- The least frame of a turn. -/
def fr (a m : Int) : Value := .agg #[.int .i64 a, .int .i64 m]
theorem f76 (x : Int) (w : World) (h0 : 0 < x) (h1 : x ≤ 18446744073709551615) (ht : Tab w) :
    Calls Tryd.prog 76 #[.int .u64 x] w fun e w' => ∃ a b : Nat, Zr x a b ∧ e = .returned (fr a (64 - a - b)) ∧ Below w.heap.size w w' := by
  obtain ⟨X, rfl⟩ : ∃ X : Nat, x = (X : Int) := ⟨x.toNat, by omega⟩
  obtain ⟨z1, z2, z3⟩ := zr_lib X (by omega) (by omega)
  have HZ := hid z3
  have hsum := zr_sum z3
  have HB := hid ((Below.refl w.heap.size w).alloc (Nat.le_refl _) (.cells #[.int .i64 0, .int .i64 0] 66))
  have HT := hid (ht.below HB.out)
  clear z3 ht
  go_enter Tryd.func76, Tryd.ntmps76
  go_wp2_with fail
  refine (Tryd.bits_LeadingZeros64 (X : Int) _ (by omega) (by omega)).mono ?_
  rintro e w' ⟨rfl, rfl⟩
  rw [Int.toNat_natCast]
  go_wp2_with fail
  refine (f87 X _ (by omega) (by omega) HT.out).mono ?_
  rintro e w' ⟨rfl, rfl⟩
  generalize hL : Lib.bitLen X = L at *
  generalize hC : Lib.ctz 64 X = C at *
  clear hL hC
  have HE : Hid (fr (64 - (L : Int)) (64 - (64 - (L : Int)) - (C : Int)) = fr ((64 - L : Nat) : Int) (64 - ((64 - L : Nat) : Int) - (C : Int))) := by
    unfold Hid; rw [show ((64 - L : Nat) : Int) = 64 - (L : Int) from by omega]
  go_wp2
  refine bodyPost_ret (v := fr (64 - (L : Int)) (64 - (64 - (L : Int)) - (C : Int))) (by simp [results, Tryd.results76, go_sem, fr]) rfl ⟨64 - L, C, HZ.out, by rw [HE.out], ?_⟩
  exact (Below.refl w.heap.size w).alloc (Nat.le_refl _) _
end Go.Proofs.YteblbcbfaomdmaaDoor.Chk
