/- Windows, plain: what foldWindows makes of a rising list is what its groups come to. -/
import Derived.Test.YtpbnneelpdacdaaCd
namespace Go.Proofs.Ytpbnneelpdacdaa.Agl
open Go.RowKit
open Go.Proofs.Ytpbnneelpdacdaa.Smp (Sm)

/-- The window's end. -/
def en (res t : Int) : Int := (t + res - 1) / res * res
def winOf (res t : Int) : Int := wrap64 (wrap64 (wrap64 (t + res) - 1) - (wrap64 (wrap64 (t + res) - 1)).tmod res)
theorem en_ge {res t : Int} (h : 1 ≤ res) : t ≤ en res t := by
  unfold en
  have h1 := Int.emod_add_mul_ediv (t + res - 1) res
  have h2 := Int.emod_lt_of_pos (t + res - 1) (show 0 < res by omega)
  rw [Int.mul_comm] at h1
  omega
theorem en_lt {res t : Int} (h : 1 ≤ res) : en res t < t + res := by
  unfold en
  have h1 := Int.emod_add_mul_ediv (t + res - 1) res
  have h2 := Int.emod_nonneg (t + res - 1) (show res ≠ 0 by omega)
  rw [Int.mul_comm] at h1
  omega
theorem win_en {res t : Int} (h1 : 1 ≤ res) (h2 : res ≤ 1000000) (h3 : 0 ≤ t) (h4 : t ≤ 1000000000000) : winOf res t = en res t := by
  unfold winOf
  have e1 : wrap64 (t + res) = t + res := by unfold wrap64; omega
  have e2 : wrap64 (t + res - 1) = t + res - 1 := by unfold wrap64; omega
  rw [e1, e2, Int.tmod_eq_emod_of_nonneg (by omega)]
  have a1 := Int.emod_add_mul_ediv (t + res - 1) res
  have a2 := Int.emod_lt_of_pos (t + res - 1) (show 0 < res by omega)
  have a3 := Int.emod_nonneg (t + res - 1) (show res ≠ 0 by omega)
  unfold en
  rw [Int.mul_comm] at a1
  rw [show t + res - 1 - (t + res - 1) % res = (t + res - 1) / res * res by omega]
  generalize (t + res - 1) / res * res = x at *
  unfold wrap64
  omega
/-- Those of one window have one end. -/
theorem en_same {res a t : Int} (h : 1 ≤ res) (h1 : a ≤ t) (h2 : t ≤ en res a) : en res t = en res a := by
  have b1 : (a + res - 1) / res ≤ (t + res - 1) / res := Int.ediv_le_ediv (by omega) (by omega)
  have b2 : (t + res - 1) / res ≤ (a + res - 1) / res := by
    have h3 : t + res - 1 < ((a + res - 1) / res + 1) * res := by
      unfold en at h2
      rw [Int.add_mul]
      omega
    have := Int.ediv_lt_of_lt_mul (show 0 < res by omega) h3
    omega
  unfold en
  rw [show (t + res - 1) / res = (a + res - 1) / res by omega]

/-- A group, put behind what is there. -/
theorem fold_group {win : Int → Int} {E : Int} {L : List Sm} (M : List Ag) (hM : M = [] ∨ (lst M).t ≠ E) (hE : ∀ p ∈ L, win p.1 = E) (h2 : L.length ≤ 2000) (hf : ∀ p ∈ L, Smp.In64 p.2) : ∀ k, 1 ≤ k → k ≤ L.length → ((L.take k).map one).foldl (stepW win) M = M ++ [{ al L k with t := E }] := by
  intro k
  induction k with
  | zero => intro h; omega
  | succ k ih =>
    intro _ hk
    have hlt : k < L.length := by omega
    have e : L[k] = L.getD k Smp.e0 := by simp [hlt]
    have hw : win (L.getD k Smp.e0).1 = E := hE _ (by rw [← e]; exact List.getElem_mem _)
    have ha := al_succ hlt
    rw [List.take_succ_eq_append_getElem hlt, List.map_append, List.map_singleton, List.foldl_append, e]
    show stepW win (((L.take k).map one).foldl (stepW win) M) (one (L.getD k Smp.e0)) = _
    have hat : at_ win (one (L.getD k Smp.e0)) = { one (L.getD k Smp.e0) with t := E } := by
      unfold at_
      rw [show (one (L.getD k Smp.e0)).t = (L.getD k Smp.e0).1 from rfl, hw]
    cases k with
    | zero =>
      rw [ha, if_pos (show (al L 0).n = 0 from rfl)]
      show stepW win M _ = _
      rw [step_new, hat]
      rintro ⟨h1, h3⟩
      rcases hM with h | h
      · exact h1 h
      · exact h (h3.trans hw)
    | succ j =>
      rw [ih (by omega) (by omega)]
      have hn := (al_acc (T := 0) h2 hf (j + 1) (by omega) (by omega)).1
      rw [ha, if_neg (by rw [hn]; omega)]
      have hl : lst (M ++ [{ al L (j + 1) with t := E }]) = { al L (j + 1) with t := E } := by
        unfold lst
        simp
      rw [step_old ⟨by simp, by rw [hl]; exact hw.symm⟩, hl, hat]
      rw [List.length_append, List.length_singleton, Nat.add_sub_cancel, List.set_append_right _ _ (Nat.le_refl _), Nat.sub_self]
      rfl
theorem acc_t (T : Int) (L : List Sm) : ∀ k, (acc T L k).t = T := by
  intro k
  induction k with
  | zero => rfl
  | succ k ih => exact ih
theorem al_is_acc {T : Int} {L : List Sm} (h2 : L.length ≤ 2000) (hf : ∀ p ∈ L, Smp.In64 p.2) (hp : 0 < L.length) : { al L L.length with t := T } = acc T L L.length := by
  obtain ⟨i1, i2, i3, i4, i5, i6, i7⟩ := al_acc (T := T) h2 hf L.length (by omega) (Nat.le_refl _)
  obtain ⟨j1, j2, j3⟩ := acc_same T L L.length
  have j0 := acc_t T L L.length
  generalize al L L.length = p at *
  generalize acc T L L.length = q at *
  obtain ⟨a0, a1, a2, a3, a4, a5, a6, a7⟩ := p
  obtain ⟨b0, b1, b2, b3, b4, b5, b6, b7⟩ := q
  simp only at *
  subst j0 i2 i3 i4 i7
  simp only [Ag.mk.injEq, true_and]
  exact ⟨by rw [i1, j1], by rw [i5, j2], by rw [i6, j3], trivial⟩
/-- One group more. -/
theorem group_more {win : Int → Int} {E : Int} {pre G : List Sm} (hM : fw win (pre.map one) = [] ∨ (lst (fw win (pre.map one))).t ≠ E) (hE : ∀ p ∈ G, win p.1 = E) (h2 : G.length ≤ 2000) (hf : ∀ p ∈ G, Smp.In64 p.2) (hp : 0 < G.length) : fw win ((pre ++ G).map one) = fw win (pre.map one) ++ [acc E G G.length] ∧ (lst (fw win ((pre ++ G).map one))).t = E := by
  have h := fold_group (win := win) (fw win (pre.map one)) hM hE h2 hf G.length (by omega) (Nat.le_refl _)
  rw [List.take_of_length_le (Nat.le_refl _), al_is_acc h2 hf hp] at h
  have e : fw win ((pre ++ G).map one) = fw win (pre.map one) ++ [acc E G G.length] := by
    rw [← h, List.map_append]
    unfold fw
    rw [List.foldl_append]
  refine ⟨e, ?_⟩
  rw [e]
  unfold lst
  simp [acc_t]
end Go.Proofs.Ytpbnneelpdacdaa.Agl
