/- Quantiles lie between, and do not fall when more is asked for: plain facts. -/
import Derived.Test.YtilfelkbmmaabaaEvb
namespace Go.Proofs.Ytilfelkbmmaabaa.Quo
open Go.RowKit

/-- Numbers that are not too far from 0. -/
def Sml (zs : List Int) : Prop := ∀ z ∈ zs, -1099511627776 ≤ z ∧ z ≤ 1099511627776
theorem srt_sml {zs : List Int} (h : Sml zs) (i : Nat) : -1099511627776 ≤ (srt zs).getD i 0 ∧ (srt zs).getD i 0 ≤ 1099511627776 := by
  by_cases hi : i < (srt zs).length
  · have e : (srt zs).getD i 0 = (srt zs)[i] := by simp [hi]
    rw [e]
    exact h _ ((srt_perm zs).mem_iff.1 (List.getElem_mem hi))
  · have e : (srt zs).getD i 0 = 0 := by simp [List.getElem?_eq_none (Nat.le_of_not_lt hi)]
    rw [e]; omega
theorem wrap_id {x : Int} (h0 : -9223372036854775808 ≤ x) (h1 : x ≤ 9223372036854775807) : wrap64 x = x := by unfold wrap64; omega
/-- The quotient by 1000, down. -/
theorem qt_1000 {x : Int} (h0 : 0 ≤ x) (h1 : x ≤ 9223372036854775807) : qt x 1000 = x / 1000 := by
  have e1 : x.tmod 1000 = x % 1000 := Int.tmod_eq_emod_of_nonneg h0
  have e2 : x.tdiv 1000 = x / 1000 := Int.tdiv_eq_ediv_of_nonneg h0
  unfold qt
  rw [if_neg (by omega), if_neg (by unfold less; rw [e1]; omega), e2, wrap_id (by omega) (by omega)]
/-- What is told at a place, without wraps. -/
theorem at1_eq {zs : List Int} {r : Nat} (h : Sml zs) (hr : r % 1000 ≠ 0 → r / 1000 + 1 < zs.length) :
    at1 (srt zs) r = (srt zs).getD (r / 1000) 0 + (if r % 1000 = 0 then 0 else ((srt zs).getD (r / 1000 + 1) 0 - (srt zs).getD (r / 1000) 0) * ((r % 1000 : Nat) : Int) / 1000) := by
  unfold at1
  by_cases h0 : r % 1000 = 0
  · rw [if_pos h0, if_pos h0]; omega
  · rw [if_neg h0, if_neg h0]
    have hl := srt_len zs
    have hm := pw_get (srt_pw zs) (show r / 1000 ≤ r / 1000 + 1 by omega) (by have := hr h0; omega)
    have b1 := srt_sml h (r / 1000)
    have b2 := srt_sml h (r / 1000 + 1)
    generalize (srt zs).getD (r / 1000) 0 = x at *
    generalize (srt zs).getD (r / 1000 + 1) 0 = y at *
    have ht : r % 1000 < 1000 := Nat.mod_lt _ (by omega)
    generalize r % 1000 = t at *
    have p1 : 0 ≤ (y - x) * (t : Int) := Int.mul_nonneg (by omega) (by omega)
    have p2 : (y - x) * (t : Int) ≤ (y - x) * 1000 := Int.mul_le_mul_of_nonneg_left (by omega) (by omega)
    rw [wrap_id (x := y - x) (by omega) (by omega), wrap_id (x := (y - x) * (t : Int)) (by omega) (by omega), qt_1000 p1 (by omega)]
    have p3 : 0 ≤ (y - x) * (t : Int) / 1000 := Int.ediv_nonneg p1 (by omega)
    have p4 : (y - x) * (t : Int) / 1000 ≤ y - x := by
      generalize (y - x) * (t : Int) = z at *
      omega
    rw [wrap_id (by omega) (by omega)]
/-- It lies between the neighbours. -/
theorem at1_btw {zs : List Int} {r : Nat} (h : Sml zs) (_hr1 : r / 1000 < zs.length) (hr : r % 1000 ≠ 0 → r / 1000 + 1 < zs.length) :
    (srt zs).getD (r / 1000) 0 ≤ at1 (srt zs) r ∧ (r % 1000 ≠ 0 → at1 (srt zs) r ≤ (srt zs).getD (r / 1000 + 1) 0) := by
  rw [at1_eq h hr]
  by_cases h0 : r % 1000 = 0
  · rw [if_pos h0]; exact ⟨by omega, fun h => absurd h0 h⟩
  · rw [if_neg h0]
    have hl := srt_len zs
    have hm := pw_get (srt_pw zs) (show r / 1000 ≤ r / 1000 + 1 by omega) (by have := hr h0; omega)
    generalize (srt zs).getD (r / 1000) 0 = x at *
    generalize (srt zs).getD (r / 1000 + 1) 0 = y at *
    have ht : r % 1000 < 1000 := Nat.mod_lt _ (by omega)
    generalize r % 1000 = t at *
    have p1 : 0 ≤ (y - x) * (t : Int) := Int.mul_nonneg (by omega) (by omega)
    have p2 : (y - x) * (t : Int) ≤ (y - x) * 1000 := Int.mul_le_mul_of_nonneg_left (by omega) (by omega)
    generalize (y - x) * (t : Int) = z at *
    omega
/-- It does not fall. -/
theorem at1_mono {zs : List Int} {r s : Nat} (h : Sml zs) (hrs : r ≤ s) (hs1 : s / 1000 < zs.length) (hs : s % 1000 ≠ 0 → s / 1000 + 1 < zs.length) :
    at1 (srt zs) r ≤ at1 (srt zs) s := by
  have hl := srt_len zs
  have hr : r % 1000 ≠ 0 → r / 1000 + 1 < zs.length := by omega
  by_cases e : r / 1000 = s / 1000
  · rw [at1_eq h hr, at1_eq h hs, e]
    by_cases h0 : s % 1000 = 0
    · have h1 : r % 1000 = 0 := by omega
      rw [if_pos h0, if_pos h1]
      exact Int.le_refl _
    · rw [if_neg h0]
      have hm := pw_get (srt_pw zs) (show s / 1000 ≤ s / 1000 + 1 by omega) (by have := hs h0; omega)
      generalize (srt zs).getD (s / 1000) 0 = x at *
      generalize (srt zs).getD (s / 1000 + 1) 0 = y at *
      have ht : r % 1000 ≤ s % 1000 := by omega
      generalize s % 1000 = t at *
      generalize r % 1000 = u at *
      have p1 : 0 ≤ (y - x) * (t : Int) := Int.mul_nonneg (by omega) (by omega)
      have p2 : (y - x) * (u : Int) ≤ (y - x) * (t : Int) := Int.mul_le_mul_of_nonneg_left (by omega) (by omega)
      split
      · have : 0 ≤ (y - x) * (t : Int) / 1000 := Int.ediv_nonneg p1 (by omega)
        omega
      · have := Int.ediv_le_ediv (c := 1000) (by omega) p2
        omega
  · obtain ⟨b1, b2⟩ := at1_btw h (r := r) (by omega) hr
    obtain ⟨c1, _⟩ := at1_btw h hs1 hs
    have lt : r / 1000 < s / 1000 := by omega
    have m1 := pw_get (srt_pw zs) (show r / 1000 + 1 ≤ s / 1000 by omega) (by omega)
    by_cases h0 : r % 1000 = 0
    · have e1 : at1 (srt zs) r = (srt zs).getD (r / 1000) 0 := by unfold at1; rw [if_pos h0]
      have m2 := pw_get (srt_pw zs) (show r / 1000 ≤ s / 1000 by omega) (by omega)
      omega
    · have := b2 h0
      omega
theorem plc_mono {n : Nat} {q p : Int} (h : q ≤ p) : plc n q ≤ plc n p := by
  unfold plc
  have := shr_mono h
  exact Nat.mul_le_mul_right _ (by have := shr_lim q; have := shr_lim p; omega)
theorem quan_mono {zs : List Int} {q p : Int} (h : Sml zs) (h1 : 1 ≤ zs.length) (h2 : zs.length ≤ 2000) (hq : q ≤ p) : quan zs q ≤ quan zs p := by
  obtain ⟨-, -, p3, p4⟩ := plc_lim p h1 h2
  exact at1_mono h (plc_mono hq) p3 p4
/-- The least and the greatest. -/
theorem quan_low {zs : List Int} (_h1 : 1 ≤ zs.length) : ∀ v ∈ zs, quan zs 0 ≤ v := by
  intro v hv
  have e : quan zs 0 = (srt zs).getD 0 0 := by
    unfold quan plc
    have : shr 0 = 0 := rfl
    rw [this]
    simp [at1]
  rw [e]
  obtain ⟨i, hi, rfl⟩ := List.mem_iff_getElem.1 ((srt_perm zs).mem_iff.2 hv)
  have := pw_get (srt_pw zs) (Nat.zero_le i) hi
  rwa [show (srt zs).getD i 0 = (srt zs)[i] by simp [hi]] at this
theorem quan_high {zs : List Int} (h1 : 1 ≤ zs.length) : ∀ v ∈ zs, v ≤ quan zs 1000 := by
  intro v hv
  have hl := srt_len zs
  have e : quan zs 1000 = (srt zs).getD (zs.length - 1) 0 := by
    unfold quan plc
    have : shr 1000 = 1000 := rfl
    rw [this, show (1000 : Int).toNat = 1000 from rfl]
    unfold at1
    rw [if_pos (by omega), show 1000 * (zs.length - 1) / 1000 = zs.length - 1 by omega]
  rw [e]
  obtain ⟨i, hi, rfl⟩ := List.mem_iff_getElem.1 ((srt_perm zs).mem_iff.2 hv)
  have := pw_get (srt_pw zs) (show i ≤ zs.length - 1 by omega) (by omega)
  rwa [show (srt zs).getD i 0 = (srt zs)[i] by simp [hi]] at this
theorem quan_under {zs : List Int} {q : Int} (h : Sml zs) (h1 : 1 ≤ zs.length) (h2 : zs.length ≤ 2000) : quan zs 0 ≤ quan zs q ∧ quan zs q ≤ quan zs 1000 := by
  have e1 : plc zs.length 0 ≤ plc zs.length q := by unfold plc; exact Nat.mul_le_mul_right _ (by have : shr 0 = 0 := rfl; rw [this]; simp)
  have e2 : plc zs.length q ≤ plc zs.length 1000 := by unfold plc; exact Nat.mul_le_mul_right _ (by have : shr 1000 = 1000 := rfl; rw [this]; have := shr_lim q; omega)
  obtain ⟨-, -, p3, p4⟩ := plc_lim q h1 h2
  obtain ⟨-, -, p5, p6⟩ := plc_lim 1000 h1 h2
  exact ⟨at1_mono h e1 p3 p4, at1_mono h e2 p5 p6⟩
end Go.Proofs.Ytilfelkbmmaabaa.Quo
