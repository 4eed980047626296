/- Numbers in order, and their quantiles: plain facts. -/
import Derived.Test.YtilfelkbmmaabaaEva
namespace Go.Proofs.Ytilfelkbmmaabaa.Quo
open Go.RowKit

/-- Numbers in order, the least first. -/
def srt (zs : List Int) : List Int := zs.mergeSort (fun x y => decide (x ≤ y))
theorem srt_perm (zs : List Int) : (srt zs).Perm zs := List.mergeSort_perm _ _
theorem srt_len (zs : List Int) : (srt zs).length = zs.length := List.length_mergeSort _
theorem srt_pw (zs : List Int) : (srt zs).Pairwise (· ≤ ·) := by
  have h := List.pairwise_mergeSort (le := fun x y : Int => decide (x ≤ y)) (fun a b c h1 h2 => by simp at h1 h2 ⊢; omega) (fun a b => by simp; omega) zs
  exact h.imp (fun h => by simpa using h)
theorem srt_only {zs l : List Int} (hp : l.Perm zs) (hs : l.Pairwise (· ≤ ·)) : l = srt zs :=
  List.Perm.eq_of_pairwise (fun a b _ _ h1 h2 => by omega) hs (srt_pw zs) (hp.trans (srt_perm zs).symm)
theorem pw_get {S : List Int} (h : S.Pairwise (· ≤ ·)) {i j : Nat} (hij : i ≤ j) (hj : j < S.length) : S.getD i 0 ≤ S.getD j 0 := by
  rw [List.getD_eq_getElem?_getD, List.getD_eq_getElem?_getD, List.getElem?_eq_getElem hj, List.getElem?_eq_getElem (by omega)]
  rcases Nat.eq_or_lt_of_le hij with rfl | hlt
  · exact Int.le_refl _
  · exact List.pairwise_iff_getElem.1 h i j (by omega) hj hlt
theorem pw_of_get {S : List Int} (h : ∀ i j, i < j → j < S.length → S.getD i 0 ≤ S.getD j 0) : S.Pairwise (· ≤ ·) := by
  rw [List.pairwise_iff_getElem]
  intro i j hi hj hij
  have := h i j hij hj
  simpa [List.getD_eq_getElem?_getD, List.getElem?_eq_getElem hj, List.getElem?_eq_getElem hi] using this
/-- A number put in behind those that are not greater. -/
theorem srt_put {zs : List Int} {x : Int} {i : Nat} (hi : i ≤ zs.length) (h0 : i = 0 ∨ (srt zs).getD (i - 1) 0 ≤ x) (h1 : ∀ j, i ≤ j → j < zs.length → x < (srt zs).getD j 0) :
    (srt zs).take i ++ x :: (srt zs).drop i = srt (zs ++ [x]) := by
  have hp := srt_pw zs
  have hl := srt_len zs
  refine srt_only ?_ ?_
  · refine List.Perm.trans List.perm_middle ?_
    rw [List.take_append_drop]
    exact ((srt_perm zs).cons x).trans (List.perm_append_singleton x zs).symm
  · rw [List.pairwise_append]
    refine ⟨hp.sublist (List.take_sublist _ _), ?_, ?_⟩
    · rw [List.pairwise_cons]
      refine ⟨fun b hb => ?_, hp.sublist (List.drop_sublist _ _)⟩
      obtain ⟨k, hk, rfl⟩ := List.mem_iff_getElem.1 hb
      rw [List.length_drop] at hk
      have := h1 (i + k) (by omega) (by omega)
      rw [List.getD_eq_getElem?_getD, List.getElem?_eq_getElem (by omega)] at this
      simp at this ⊢
      omega
    · intro a ha b hb
      obtain ⟨k, hk, rfl⟩ := List.mem_iff_getElem.1 ha
      rw [List.length_take] at hk
      have hki : k < i := by omega
      have e1 : ((srt zs).take i)[k] = (srt zs).getD k 0 := by simp [List.getElem?_eq_getElem (show k < (srt zs).length by omega)]
      rw [e1]
      have ha' : (srt zs).getD k 0 ≤ (srt zs).getD (i - 1) 0 := pw_get hp (by omega) (by omega)
      rcases h0 with rfl | h0
      · omega
      rcases List.mem_cons.1 hb with rfl | hb
      · omega
      · obtain ⟨m, hm, rfl⟩ := List.mem_iff_getElem.1 hb
        rw [List.length_drop] at hm
        have e2 : ((srt zs).drop i)[m] = (srt zs).getD (i + m) 0 := by simp [List.getElem?_eq_getElem (show i + m < (srt zs).length by omega)]
        rw [e2]
        exact pw_get hp (by omega) (by omega)
/-- A share in thousandths, at least none and at most all. -/
def shr (q : Int) : Int := if q < 0 then 0 else if q > 1000 then 1000 else q
theorem shr_lim (q : Int) : 0 ≤ shr q ∧ shr q ≤ 1000 := by unfold shr; split <;> (try split) <;> omega
theorem shr_mono {q p : Int} (h : q ≤ p) : shr q ≤ shr p := by unfold shr; split <;> split <;> (try split) <;> (try split) <;> omega
/-- What is told of numbers in order, at a place in thousandths. -/
def at1 (S : List Int) (r : Nat) : Int :=
  if r % 1000 = 0 then S.getD (r / 1000) 0
  else wrap64 (S.getD (r / 1000) 0 + qt (wrap64 (wrap64 (S.getD (r / 1000 + 1) 0 - S.getD (r / 1000) 0) * ((r % 1000 : Nat) : Int))) 1000)
/-- The quantile's place. -/
def plc (n : Nat) (q : Int) : Nat := (shr q).toNat * (n - 1)
theorem plc_lim {n : Nat} (q : Int) (h1 : 1 ≤ n) (h2 : n ≤ 2000) : shr q * ((n : Int) - 1) = (plc n q : Int) ∧ plc n q ≤ 1999000 ∧ plc n q / 1000 < n ∧ (plc n q % 1000 ≠ 0 → plc n q / 1000 + 1 < n) := by
  obtain ⟨h3, h4⟩ := shr_lim q
  unfold plc
  obtain ⟨s, hs⟩ : ∃ s : Nat, shr q = (s : Int) := ⟨(shr q).toNat, by omega⟩
  obtain ⟨m, rfl⟩ : ∃ m, n = m + 1 := ⟨n - 1, by omega⟩
  rw [hs] at h3 h4 ⊢
  have e1 : s * m ≤ 1000 * m := Nat.mul_le_mul_right _ (by omega)
  have e2 : (s : Int) * (((m + 1 : Nat) : Int) - 1) = ((s * m : Nat) : Int) := by rw [Int.natCast_mul]; congr 1; omega
  rw [e2]
  simp only [Int.toNat_natCast, Nat.add_sub_cancel]
  clear e2 hs
  generalize s * m = P at *
  exact ⟨trivial, by omega, by omega, fun h => by omega⟩
/-- The quantile of numbers. -/
def quan (zs : List Int) (q : Int) : Int := at1 (srt zs) (plc zs.length q)
/-- What QuantileOf says: the value, and whether there is one. -/
def qv (zs : List Int) (q : Int) : Int := if 1 ≤ zs.length ∧ zs.length ≤ 2000 then quan zs q else 0
def qb (zs : List Int) : Bool := decide (1 ≤ zs.length ∧ zs.length ≤ 2000)
end Go.Proofs.Ytilfelkbmmaabaa.Quo
