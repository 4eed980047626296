/- The width of a level: both WidthOfs. -/
import Derived.Test.YtjhdmghpklagkaaGreatRows
import Derived.WalkKit
import Derived.ProofKit
import Derived.WalkSmall
import Derived.Below
import Derived.Handy
namespace Go.Proofs.YtjhdmghpklagkaaGreat.Shf
open Go.RowKit

theorem hid {p : Prop} (h : p) : Hid p := h

def BadW (b l : Int) : Prop := b < 1 ∨ b > 1000000 ∨ l < 1 ∨ l > 4
instance (b l : Int) : Decidable (BadW b l) := by unfold BadW; infer_instance
/-- The width of a level of a base; 0 where there is none. -/
def wid (b l : Int) : Int := if BadW b l then 0 else if l = 1 then b else if l = 2 then b * 3 else if l = 3 then b * 9 else b * 27
/-- x is the base, so many times three, as k is below l. -/
def Wk (b l k x : Int) : Prop := (k = l ∧ x = b) ∨ (k + 1 = l ∧ x = b * 3) ∨ (k + 2 = l ∧ x = b * 9) ∨ (k + 3 = l ∧ x = b * 27)
theorem Wk.lim {b l k x : Int} (h : Wk b l k x) (hb : ¬ BadW b l) (_ : 1 ≤ k) : 1 ≤ x ∧ x ≤ 27000000 ∧ k ≤ l := by
  unfold BadW at hb; unfold Wk at h; omega
theorem Wk.next {b l k x : Int} (h : Wk b l k x) (hb : ¬ BadW b l) (hk : 1 < k) : Wk b l (k - 1) (x * 3) := by
  unfold BadW at hb; unfold Wk at h ⊢; omega
theorem Wk.last {b l x : Int} (h : Wk b l 1 x) (hb : ¬ BadW b l) : x = wid b l := by
  unfold wid; rw [if_neg hb]; unfold BadW at hb; unfold Wk at h
  split
  · omega
  · split
    · omega
    · split <;> omega
theorem wid_bad {b l : Int} (h : BadW b l) : wid b l = 0 := if_pos h
theorem wid_pos {b l : Int} (h : ¬ BadW b l) : 1 ≤ wid b l ∧ wid b l ≤ 27000000 := by
  unfold wid; rw [if_neg h]; unfold BadW at h
  split
  · omega
  · split
    · omega
    · split <;> omega

set_option maxHeartbeats 1000000 in
theorem f64 (b l : Int) (w : World) (hb0 : -9223372036854775808 ≤ b) (hb1 : b ≤ 9223372036854775807) (hl0 : -9223372036854775808 ≤ l) (hl1 : l ≤ 9223372036854775807) :
    Calls Tryz.prog 64 #[.int .i64 b, .int .i64 l] w fun e w' => e = .returned (.int .i64 (wid b l)) ∧ Below w.heap.size w w' := by
  by_cases hbad : BadW b l
  · have HW := hid (wid_bad hbad)
    unfold BadW at hbad
    go_enter Tryz.func64, Tryz.ntmps64
    by_cases h1 : b < 1
    · go_wp2
      go_ret
      exact ⟨by rw [HW.out]; rfl, Below.refl _ _⟩
    · by_cases h2 : b > 1000000
      · go_wp2
        go_ret
        exact ⟨by rw [HW.out]; rfl, Below.refl _ _⟩
      · by_cases h3 : l < 1
        · go_wp2
          go_ret
          exact ⟨by rw [HW.out]; rfl, Below.refl _ _⟩
        · have h4 : l > 4 := by omega
          go_wp2
          go_ret
          exact ⟨by rw [HW.out]; rfl, Below.refl _ _⟩
  · have HB := hid hbad
    have h1 : ¬ b < 1 := fun h => hbad (.inl h)
    have h2 : ¬ b > 1000000 := fun h => hbad (.inr (.inl h))
    have h3 : ¬ l < 1 := fun h => hbad (.inr (.inr (.inl h)))
    have h4 : ¬ l > 4 := fun h => hbad (.inr (.inr (.inr h)))
    clear hbad
    go_enter Tryz.func64, Tryz.ntmps64
    go_wp2
    go_loopw [0, 1] (fun sx i wr => ∃ (k x : Int), 1 ≤ k ∧ i = .int .i64 k ∧ sx = .int .i64 x ∧ Hid (Wk b l k x) ∧ Hid (Below w.heap.size w wr)) (fun _ i _ => (intOf i).toNat)
    case atStart => exact ⟨l, b, by omega, rfl, rfl, .inl ⟨rfl, rfl⟩, Below.refl _ _⟩
    case round =>
      obtain ⟨k, x, hk, rfl, rfl, HK, HX⟩ := hrel
      obtain ⟨x0, x1, k1⟩ := HK.out.lim HB.out hk
      by_cases hlt : 1 < k
      · have HN := hid (HK.out.next HB.out hlt)
        go_wp2
        go_roundw
        case rel => exact ⟨k - 1, x * 3, by omega, rfl, rfl, HN, HX⟩
        case measure => simp [intOf]; omega
      · obtain rfl : k = 1 := by omega
        have HL := hid (HK.out.last HB.out)
        go_wp2
        go_ret
        exact ⟨by rw [← HL.out]; rfl, HX.out⟩

theorem f68 (b : Int) (w : World) :
    Calls Tryz.prog 68 #[.int .i64 b] w fun e w' => e = .returned (.bool (decide (1 ≤ b ∧ b ≤ 1000000))) ∧ w' = w := by
  go_enter Tryz.func68, Tryz.ntmps68
  by_cases h1 : b ≥ 1
  · by_cases h2 : b ≤ 1000000
    · have h : decide (1 ≤ b ∧ b ≤ 1000000) = true := by simp; omega
      rw [h]
      go_wp2
      go_ret
      exact ⟨rfl, rfl⟩
    · have h : decide (1 ≤ b ∧ b ≤ 1000000) = false := by simp; omega
      rw [h]
      go_wp2
      go_ret
      exact ⟨rfl, rfl⟩
  · have h : decide (1 ≤ b ∧ b ≤ 1000000) = false := by simp; omega
    rw [h]
    go_wp2
    go_ret
    exact ⟨rfl, rfl⟩
theorem f69 (b : Int) (w : World) :
    Calls Tryz.prog 69 #[.int .i64 b] w fun e w' => e = .returned (.bool (decide (1 ≤ b ∧ b ≤ 4))) ∧ w' = w := by
  go_enter Tryz.func69, Tryz.ntmps69
  by_cases h1 : b ≥ 1
  · by_cases h2 : b ≤ 4
    · have h : decide (1 ≤ b ∧ b ≤ 4) = true := by simp; omega
      rw [h]
      go_wp2
      go_ret
      exact ⟨rfl, rfl⟩
    · have h : decide (1 ≤ b ∧ b ≤ 4) = false := by simp; omega
      rw [h]
      go_wp2
      go_ret
      exact ⟨rfl, rfl⟩
  · have h : decide (1 ≤ b ∧ b ≤ 4) = false := by simp; omega
    rw [h]
    go_wp2
    go_ret
    exact ⟨rfl, rfl⟩

set_option maxHeartbeats 1000000 in
theorem f71 (b l : Int) (w : World) (hb0 : -9223372036854775808 ≤ b) (hb1 : b ≤ 9223372036854775807) (hl0 : -9223372036854775808 ≤ l) (hl1 : l ≤ 9223372036854775807) :
    Calls Tryz.prog 71 #[.int .i64 b, .int .i64 l] w fun e w' => e = .returned (.int .i64 (wid b l)) ∧ Below w.heap.size w w' := by
  by_cases g1 : 1 ≤ b ∧ b ≤ 1000000
  · have e1 : decide (1 ≤ b ∧ b ≤ 1000000) = true := decide_eq_true g1
    by_cases g2 : 1 ≤ l ∧ l ≤ 4
    · have e2 : decide (1 ≤ l ∧ l ≤ 4) = true := decide_eq_true g2
      have HB : Hid (¬ BadW b l) := by unfold Hid BadW; omega
      obtain ⟨p1, p2⟩ := g1
      obtain ⟨p3, p4⟩ := g2
      go_enter Tryz.func71, Tryz.ntmps71
      go_wp2_with fail
      refine (f68 b _).mono ?_
      rw [e1]
      rintro e w1 ⟨rfl, hw⟩; subst w1
      go_wp2_with fail
      refine (f69 l _).mono ?_
      rw [e2]
      rintro e w1 ⟨rfl, hw⟩; subst w1
      clear e1 e2
      go_wp2
      go_loopw [5, 17] (fun sx i wr => ∃ (k x : Int), 0 ≤ k ∧ k ≤ l - 1 ∧ i = .int .i64 k ∧ sx = .int .i64 x ∧ Hid (Wk b l (l - k) x) ∧ Hid (Below w.heap.size w wr)) (fun _ i _ => (l - intOf i).toNat)
      case atStart => exact ⟨0, b, by omega, by omega, rfl, rfl, .inl ⟨by omega, rfl⟩, Below.refl _ _⟩
      case round =>
        obtain ⟨k, x, hk, hk2, rfl, rfl, HK, HX⟩ := hrel
        obtain ⟨x0, x1, k1⟩ := HK.out.lim HB.out (by omega)
        by_cases hlt : k < l - 1
        · have HN := hid (HK.out.next HB.out (by omega))
          go_wp2
          go_roundw
          case rel => exact ⟨k + 1, x * 3, by omega, by omega, by go_num, rfl, by have := HN.out; rw [show l - (k + 1) = l - k - 1 by omega]; exact this, HX⟩
          case measure => simp [intOf]; omega
        · have HL : Hid (x = wid b l) := by have h := HK.out; rw [show l - k = 1 by omega] at h; exact h.last HB.out
          go_wp2
          go_ret
          exact ⟨by rw [← HL.out]; rfl, HX.out⟩
    · have e2 : decide (1 ≤ l ∧ l ≤ 4) = false := decide_eq_false g2
      have HW : Hid (wid b l = 0) := wid_bad (by unfold BadW; omega)
      clear g1 g2
      go_enter Tryz.func71, Tryz.ntmps71
      go_wp2_with fail
      refine (f68 b _).mono ?_
      rw [e1]
      rintro e w1 ⟨rfl, hw⟩; subst w1
      go_wp2_with fail
      refine (f69 l _).mono ?_
      rw [e2]
      rintro e w1 ⟨rfl, hw⟩; subst w1
      go_wp2
      go_ret
      exact ⟨by rw [HW.out]; rfl, Below.refl _ _⟩
  · have e1 : decide (1 ≤ b ∧ b ≤ 1000000) = false := decide_eq_false g1
    have HW : Hid (wid b l = 0) := wid_bad (by unfold BadW; omega)
    clear g1
    go_enter Tryz.func71, Tryz.ntmps71
    go_wp2_with fail
    refine (f68 b _).mono ?_
    rw [e1]
    rintro e w1 ⟨rfl, hw⟩; subst w1
    go_wp2
    go_ret
    exact ⟨by rw [HW.out]; rfl, Below.refl _ _⟩
end Go.Proofs.YtjhdmghpklagkaaGreat.Shf
