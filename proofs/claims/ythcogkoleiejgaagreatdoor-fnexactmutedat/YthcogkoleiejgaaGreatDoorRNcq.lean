/- Lists of numbers: the model's l9Numbers, l9In (out of Nc, for seats without sets). -/
import Derived.Test.YthcogkoleiejgaaGreatDoorRNa
namespace Go.Proofs.YthcogkoleiejgaaGreatDoor.Ino
open Go.RowKit

theorem num_long {l : List Int} (h : ¬ l.length ≤ 1000) : num l = false := by unfold num; rw [decide_eq_false h]; rfl
theorem num_short {l : List Int} (h : l.length ≤ 1000) : num l = riseI l := by unfold num; rw [decide_eq_true h]; rfl
set_option maxHeartbeats 1000000 in
theorem f57 (a : Option Addr) (n c : Nat) (ls : List Int) (w : World) (hn : ls.length = n) (hb : n ≤ 1048576) (hr : Has w a ls) :
    Calls Tryz.prog 57 #[.slice a n c] w fun e w' => e = .returned (.bool (num ls)) ∧ Below w.heap.size w w' := by
  have HN := hid hn
  clear hn
  go_enter Tryz.func57, Tryz.ntmps57
  go_wp2
  go_loopw [6] (fun i wr => ∃ k : Nat, k ≤ n ∧ i = .int .i64 (k : Int) ∧ Hid (∀ i, i < k → 0 < i → ls.getD (i - 1) 0 < ls.getD i 0) ∧ Below w.heap.size w wr) (fun i _ => n - (intOf i).toNat)
  case atStart => exact ⟨0, Nat.zero_le _, rfl, fun i hi h => by omega, Below.refl _ _⟩
  case round =>
    obtain ⟨k, hk, rfl, hu, hnx⟩ := hrel
    have HX := hid hnx
    by_cases hlt : k < n
    · rcases hr with hr | ⟨b, off, rfl, hbl, hc⟩
      · exact absurd HN.out (by rw [hr]; simp; omega)
      have i1 : (k : Int) < (n : Int) := by omega
      rcases k with _ | k
      · clear hnx
        go_wp2
        go_quiet (fail)
        go_wp2
        go_roundw
        case rel => exact ⟨1, by omega, by go_num, fun i hi h0 => by omega, below_drewN HX.out _⟩
        case measure => simp [intOf]; omega
      · have d0 := (hnx.cell (p := ⟨b, off + k, none⟩) hbl).trans (hc k (by rw [HN.out]; omega))
        have d2 := (hnx.cell (p := ⟨b, off + (k + 1), none⟩) hbl).trans (hc (k + 1) (by rw [HN.out]; exact hlt))
        have i2 : (k : Int) < (n : Int) := by omega
        have i3 : (k : Int) + 1 < (n : Int) := by omega
        have hw1 : IntKind.i64.wrap (k : Int) = (k : Int) := by rw [IntKind.wrap_i64]; omega
        have HNo : Hid (¬ ls.getD k 0 < ls.getD (k + 1) 0 → num ls = false) := fun h => by
          unfold num
          rw [show riseI ls = false from decide_eq_false fun g => h (g (k + 1) (by rw [HN.out]; exact hlt) (by omega)), Bool.and_false]
        have HUs : Hid (ls.getD k 0 < ls.getD (k + 1) 0 → ∀ i, i < k + 1 + 1 → 0 < i → ls.getD (i - 1) 0 < ls.getD i 0) := by
          intro h i hi h0
          by_cases e : i = k + 1
          · subst e; exact h
          · exact hu.out i (by omega) h0
        clear hc hnx
        generalize ls.getD k 0 = p at *
        generalize ls.getD (k + 1) 0 = q at *
        by_cases h3 : p < q
        · have h4 : ¬ p ≥ q := by omega
          go_wp2
          go_quiet (fail)
          go_wp2
          go_roundw
          case rel => exact ⟨k + 1 + 1, by omega, by go_num, HUs.out h3, below_drewN HX.out _⟩
          case measure => simp [intOf]; omega
        · have h4 : p ≥ q := by omega
          go_wp2
          go_quiet (fail)
          go_wp2
          go_ret
          exact ⟨ret_bool (HNo.out h3).symm, below_drewN HX.out _⟩
    · have hrs : Hid (riseI ls = true) := decide_eq_true fun i hi h0 => hu.out i (by have := HN.out; omega) h0
      by_cases h5 : n ≤ 1000
      · have e5 : Hid (num ls = true) := by have := HN.out; unfold Hid; rw [num_short (by omega)]; exact hrs.out
        go_wp2
        go_ret
        exact ⟨ret_bool (by rw [e5.out]; simp; omega), HX.out⟩
      · have e5 : Hid (num ls = false) := by have := HN.out; unfold Hid; rw [num_long (by omega)]
        go_wp2
        go_ret
        exact ⟨ret_bool (by rw [e5.out]; simp; omega), HX.out⟩

set_option maxHeartbeats 1000000 in
theorem f115 (a : Option Addr) (n c : Nat) (ls : List Int) (x : Int) (w : World) (hn : ls.length = n) (hb : n ≤ 1048576) (hr : Has w a ls) :
    Calls Tryz.prog 115 #[.slice a n c, .int .i64 x] w fun e w' => e = .returned (.bool (decide (x ∈ ls))) ∧ Below w.heap.size w w' := by
  have HN := hid hn
  clear hn
  go_enter Tryz.func115, Tryz.ntmps115
  go_wp2
  go_loopw [9] (fun i wr => ∃ k : Nat, k ≤ n ∧ i = .int .i64 (k : Int) ∧ Hid (x ∉ ls.take k) ∧ Below w.heap.size w wr) (fun i _ => n - (intOf i).toNat)
  case atStart => exact ⟨0, Nat.zero_le _, rfl, by simp [Hid], Below.refl _ _⟩
  case round =>
    obtain ⟨k, hk, rfl, hu, hnx⟩ := hrel
    have HX := hid hnx
    by_cases hlt : k < n
    · rcases hr with hr | ⟨b, off, rfl, hbl, hc⟩
      · exact absurd HN.out (by rw [hr]; simp; omega)
      have i1 : (k : Int) < (n : Int) := by omega
      have d0 := (hnx.cell (p := ⟨b, off + k, none⟩) hbl).trans (hc k (by rw [HN.out]; omega))
      have hkl : Hid (k < ls.length) := by have := HN.out; unfold Hid; omega
      have e1 : Hid (ls.take (k + 1) = ls.take k ++ [ls.getD k 0]) := by
        unfold Hid; rw [List.take_succ_eq_append_getElem hkl.out]; simp [hkl.out]
      have e2 : Hid (ls.getD k 0 ∈ ls) := by unfold Hid; simp [hkl.out]
      clear hc hnx
      generalize ls.getD k 0 = p at *
      by_cases h3 : p = x
      · subst h3
        have h4 : (p == p) = true := by simp
        go_wp2
        go_ret
        exact ⟨ret_bool (decide_eq_true e2.out).symm, HX.out⟩
      · have h4 : (p == x) = false := by rw [beq_eq_false_iff_ne]; exact h3
        have h5 := hid h3
        clear h3
        go_wp2
        go_roundw
        case rel => exact ⟨k + 1, by omega, by go_num, by unfold Hid; rw [e1.out]; intro hm; rcases List.mem_append.1 hm with hm | hm; exact hu.out hm; exact h5.out (List.mem_singleton.1 hm).symm, HX.out⟩
        case measure => simp [intOf]; omega
    · have e5 : Hid (x ∉ ls) := by have h1 := hu.out; have h2 := HN.out; rw [List.take_of_length_le (by omega)] at h1; exact h1
      go_wp2
      go_ret
      exact ⟨ret_bool (decide_eq_false e5.out).symm, HX.out⟩
end Go.Proofs.YthcogkoleiejgaaGreatDoor.Ino
