/- Both GoodSamples. -/
import Derived.Test.YtaekngadfajcaaaGreatRTa
namespace Go.Proofs.YtaekngadfajcaaaGreat.Smp
open Go.RowKit

def TimeP (t : Int) : Prop := 0 ≤ t ∧ t ≤ 1000000000000
instance (t : Int) : Decidable (TimeP t) := by unfold TimeP; infer_instance
/-- The sample at i is as it should be. -/
def OkAt (ls : List Sm) (i : Nat) : Prop := TimeP (ls.getD i e0).1 ∧ (0 < i → (ls.getD (i - 1) e0).1 < (ls.getD i e0).1)
instance (ls : List Sm) (i : Nat) : Decidable (OkAt ls i) := by unfold OkAt; infer_instance
def GoodP (ls : List Sm) : Prop := ls.length ≤ 2000 ∧ ∀ i, i < ls.length → OkAt ls i
instance (ls : List Sm) : Decidable (GoodP ls) := by unfold GoodP; infer_instance
def goodS (ls : List Sm) : Bool := decide (GoodP ls)
def Upto (ls : List Sm) (k : Nat) : Prop := ∀ i, i < k → OkAt ls i
theorem Upto.succ {ls : List Sm} {k : Nat} (h : Upto ls k) (h1 : OkAt ls k) : Upto ls (k + 1) := by
  intro i hi
  by_cases e : i = k
  · subst e; exact h1
  · exact h i (by omega)
theorem good_no {ls : List Sm} {k : Nat} (hk : k < ls.length) (h : ¬ OkAt ls k) : goodS ls = false := decide_eq_false fun g => h (g.2 k hk)
theorem good_end {ls : List Sm} {k : Nat} (hk : ls.length ≤ k) (h : Upto ls k) : goodS ls = decide (ls.length ≤ 2000) := by
  unfold goodS
  rw [decide_eq_decide]
  exact ⟨fun g => g.1, fun g => ⟨g, fun i hi => h i (by omega)⟩⟩

theorem f65 (t : Int) (w : World) : Calls Tryz.prog 65 #[.int .i64 t] w fun e w' => e = .returned (.bool (decide (TimeP t))) ∧ w' = w := by
  by_cases h1 : 0 ≤ t
  · go_enter Tryz.func65, Tryz.ntmps65
    go_wp2
    go_ret
    exact ⟨ret_bool (by unfold TimeP; rw [Bool.eq_iff_iff]; simp [h1]), rfl⟩
  · go_enter Tryz.func65, Tryz.ntmps65
    go_wp2
    go_ret
    exact ⟨ret_bool (by symm; exact decide_eq_false fun h => absurd h.1 (by omega)), rfl⟩
set_option maxHeartbeats 2000000 in
theorem f38 (a : Option Addr) (c : Nat) (ls : List Sm) (w : World) (hmax : ls.length ≤ 1048576) (hr : HasS w a ls) :
    Calls Tryz.prog 38 #[.slice a ls.length c] w fun e w' => e = .returned (.bool (goodS ls)) ∧ Below w.heap.size w w' := by
  generalize hn : ls.length = n at *
  have HN := hid hn
  clear hn
  go_enter Tryz.func38, Tryz.ntmps38
  go_wp2
  go_loopw [7] (fun i wr => ∃ k : Nat, k ≤ n ∧ i = .int .i64 k ∧ Hid (Upto ls k) ∧ Below w.heap.size w wr) (fun i _ => n - (intOf i).toNat)
  case atStart => exact ⟨0, Nat.zero_le _, rfl, fun i hi => by omega, Below.refl _ _⟩
  case round =>
    obtain ⟨k, hk, rfl, hu, hnx⟩ := hrel
    have HX := hid hnx
    by_cases hlt : k < n
    · rcases hr with hr | ⟨b, off, rfl, hbl, hc⟩
      · exact absurd HN.out (by rw [hr]; simp; omega)
      obtain ⟨c0, c1⟩ := hc k (by rw [HN.out]; exact hlt)
      have d0 := (hnx.cell (p := ⟨b, off + k * 2, none⟩) hbl).trans c0
      have d1 := (hnx.cell (p := ⟨b, off + k * 2 + 1, none⟩) hbl).trans c1
      have HNo := hid (good_no (ls := ls) (k := k) (by rw [HN.out]; exact hlt))
      have HUs := hid (hu.out.succ (k := k))
      have lb : b < wr.heap.size := Nat.lt_of_lt_of_le hbl hnx.size
      have HQ : Hid (OkAt ls k ↔ TimeP (ls.getD k e0).1 ∧ (0 < k → (ls.getD (k - 1) e0).1 < (ls.getD k e0).1)) := Iff.rfl
      by_cases h1 : TimeP (ls.getD k e0).1
      · cases k with
        | zero =>
          clear hc c0 c1 hnx
          simp only [Nat.zero_mul, Nat.add_zero] at d0 d1
          generalize (ls.getD 0 e0).1 = s at *
          generalize (ls.getD 0 e0).2 = t at *
          have hd := decide_eq_true h1
          go_wp2
          go_quiet (first | (go_at_call 65; exact Calls.quiet_of_same (f65 s _)))
          go_wp2
          go_roundw
          case rel => exact ⟨1, by omega, by go_num, HUs.out (HQ.out.2 ⟨h1, fun h => by omega⟩), below_drewN (HX.out.alloc HX.out.size _) _⟩
          case measure => simp [intOf]; omega
        | succ j =>
          obtain ⟨p0, p1⟩ := hc j (by rw [HN.out]; omega)
          have q0 := (hnx.cell (p := ⟨b, off + j * 2, none⟩) hbl).trans p0
          simp only [Nat.add_sub_cancel] at HQ
          clear hc c0 c1 hnx p0 p1
          generalize (ls.getD (j + 1) e0).1 = s at *
          generalize (ls.getD (j + 1) e0).2 = t at *
          generalize (ls.getD j e0).1 = r at *
          have i1 : (j : Int) < (n : Int) := by omega
          have hd := decide_eq_true h1
          by_cases h3 : s ≤ r
          · go_wp2
            go_quiet (first | (go_at_call 65; exact Calls.quiet_of_same (f65 s _)))
            go_wp2
            go_ret
            exact ⟨ret_bool (HNo.out (fun h => by have := (HQ.out.1 h).2 (by omega); omega)).symm, below_drewN (HX.out.alloc HX.out.size _) _⟩
          · go_wp2
            go_quiet (first | (go_at_call 65; exact Calls.quiet_of_same (f65 s _)))
            go_wp2
            go_roundw
            case rel => exact ⟨j + 1 + 1, by omega, by go_num, HUs.out (HQ.out.2 ⟨h1, fun _ => by omega⟩), below_drewN (HX.out.alloc HX.out.size _) _⟩
            case measure => simp [intOf]; omega
      · clear hc c0 c1 hnx
        generalize (ls.getD k e0).1 = s at *
        generalize (ls.getD k e0).2 = t at *
        have hd := decide_eq_false h1
        go_wp2
        go_quiet (first | (go_at_call 65; exact Calls.quiet_of_same (f65 s _)))
        go_wp2
        go_ret
        exact ⟨ret_bool (HNo.out (fun h => h1 (HQ.out.1 h).1)).symm, below_drewN (HX.out.alloc HX.out.size _) _⟩
    · have HE := hid (good_end (k := k) (by rw [HN.out]; omega) hu.out)
      go_wp2
      go_ret
      exact ⟨ret_bool (by rw [HE.out, HN.out]; exact decide_eq_decide.2 (by omega)), HX.out⟩

/-- The last Time ahead of k, or -1. -/
def lastT (ls : List Sm) (k : Nat) : Int := if k = 0 then -1 else (ls.getD (k - 1) e0).1
theorem lastT_zero (ls : List Sm) : lastT ls 0 = -1 := rfl
theorem lastT_succ (ls : List Sm) (k : Nat) : lastT ls (k + 1) = (ls.getD k e0).1 := by simp [lastT]
theorem ok_last {ls : List Sm} {k : Nat} (h : Upto ls k) : OkAt ls k ↔ lastT ls k < (ls.getD k e0).1 ∧ (ls.getD k e0).1 ≤ 1000000000000 := by
  unfold OkAt TimeP
  cases k with
  | zero => rw [lastT_zero]; constructor <;> intro h <;> simp at * <;> omega
  | succ j =>
    rw [lastT_succ, Nat.add_sub_cancel]
    have := (h j (by omega)).1
    unfold TimeP at this
    constructor
    · intro g; exact ⟨g.2 (by omega), g.1.2⟩
    · intro g; exact ⟨⟨by omega, g.2⟩, fun _ => g.1⟩

set_option maxHeartbeats 2000000 in
theorem f49 (a : Option Addr) (c : Nat) (ls : List Sm) (w : World) (hmax : ls.length ≤ maxLen) (hr : HasS w a ls) :
    Calls Tryz.prog 49 #[.slice a ls.length c] w fun e w' => e = .returned (.bool (goodS ls)) ∧ Below w.heap.size w w' := by
  generalize hn : ls.length = n at *
  have HN := hid hn
  clear hn
  unfold maxLen at hmax
  by_cases h20 : n ≤ 2000
  · go_enter Tryz.func49, Tryz.ntmps49
    go_wp2
    go_loopw [3, 11] (fun sl i wr => ∃ (k : Nat) (l : Int), k ≤ n ∧ i = .int .i64 k ∧ sl = .int .i64 l ∧ Hid (l = lastT ls k) ∧ Hid (Upto ls k) ∧ Below w.heap.size w wr) (fun _ i _ => n - (intOf i).toNat)
    case atStart => exact ⟨0, -1, Nat.zero_le _, rfl, rfl, (lastT_zero ls).symm, fun i hi => by omega, Below.refl _ _⟩
    case round =>
      obtain ⟨k, l, hk, rfl, rfl, hl, hu, hnx⟩ := hrel
      have HX := hid hnx
      by_cases hlt : k < n
      · rcases hr with hr | ⟨b, off, rfl, hbl, hc⟩
        · exact absurd HN.out (by rw [hr]; simp; omega)
        obtain ⟨c0, c1⟩ := hc k (by rw [HN.out]; exact hlt)
        have d0 := (hnx.cell (p := ⟨b, off + k * 2, none⟩) hbl).trans c0
        have d1 := (hnx.cell (p := ⟨b, off + k * 2 + 1, none⟩) hbl).trans c1
        have HNo := hid (good_no (ls := ls) (k := k) (by rw [HN.out]; exact hlt))
        have HUs := hid (hu.out.succ (k := k))
        have HQ := hid (ok_last hu.out)
        have HL := hid (lastT_succ ls k)
        have lb : b < wr.heap.size := Nat.lt_of_lt_of_le hbl hnx.size
        clear hc c0 c1 hnx
        generalize (ls.getD k e0).1 = s at *
        generalize (ls.getD k e0).2 = t at *
        by_cases h1 : s ≤ l
        · go_wp2
          go_ret
          exact ⟨ret_bool (HNo.out (fun h => by have := (HQ.out.1 h).1; have := hl.out; omega)).symm, HX.out.alloc HX.out.size _⟩
        · by_cases h2 : 1000000000000 < s
          · go_wp2
            go_ret
            exact ⟨ret_bool (HNo.out (fun h => by have := (HQ.out.1 h).2; omega)).symm, HX.out.alloc HX.out.size _⟩
          · go_wp2
            go_roundw
            case rel => exact ⟨k + 1, s, by omega, by go_num, rfl, HL.out.symm, HUs.out (HQ.out.2 ⟨by have := hl.out; omega, by omega⟩), HX.out.alloc HX.out.size _⟩
            case measure => simp [intOf]; omega
      · have HE := hid (good_end (k := k) (by rw [HN.out]; omega) hu.out)
        go_wp2
        go_ret
        exact ⟨ret_bool (by rw [HE.out, HN.out]; simp [h20]), HX.out⟩
  · go_enter Tryz.func49, Tryz.ntmps49
    go_wp2
    go_ret
    exact ⟨ret_bool (by symm; exact decide_eq_false fun g => h20 (by rw [← HN.out]; exact g.1)), Below.refl _ _⟩
end Go.Proofs.YtaekngadfajcaaaGreat.Smp
