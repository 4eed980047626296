/- Windows of windows, plain: step by step or at once. -/
import Derived.Test.YtpbnneelpdacdaaDf
namespace Go.Proofs.Ytpbnneelpdacdaa.Agl
open Go.RowKit
open Go.Proofs.Ytpbnneelpdacdaa.Smp (Sm)

theorem win_en2 {res t : Int} (h1 : 1 ≤ res) (h2 : res ≤ 1000000) (h3 : 0 ≤ t) (h4 : t ≤ 2000000000000) : winOf res t = en res t := by
  unfold winOf
  have e1 : wrap64 (t + res) = t + res := by unfold wrap64; omega
  have e2 : wrap64 (t + res - 1) = t + res - 1 := by unfold wrap64; omega
  rw [e1, e2, Int.tmod_eq_emod_of_nonneg (by omega)]
  have a1 := Int.emod_add_mul_ediv (t + res - 1) res
  have a2 := Int.emod_lt_of_pos (t + res - 1) (show 0 < res by omega)
  have a3 := Int.emod_nonneg (t + res - 1) (show res ≠ 0 by omega)
  unfold en
  rw [Int.mul_comm] at a1
  rw [show t + res - 1 - (t + res - 1) % res = (t + res - 1) / res * res by omega]
  generalize (t + res - 1) / res * res = x at *
  unfold wrap64
  omega
/-- The least multiple that is not below. -/
theorem en_least {res t m : Int} (h : 1 ≤ res) (hm : t ≤ m * res) : en res t ≤ m * res := by
  have h1 : (t + res - 1) / res ≤ m := by
    have h2 : t + res - 1 < (m + 1) * res := by rw [Int.add_mul]; omega
    have := Int.ediv_lt_of_lt_mul (show 0 < res by omega) h2
    omega
  unfold en
  exact Int.mul_le_mul_of_nonneg_right h1 (by omega)
theorem en_en {res k t : Int} (h : 1 ≤ res) (hk : 1 ≤ k) : en (res * k) (en res t) = en (res * k) t := by
  have hrk : 1 ≤ res * k := by
    have := Int.mul_le_mul_of_nonneg_right h (show 0 ≤ k by omega)
    omega
  refine en_same hrk (en_ge h) ?_
  have h1 := en_ge (res := res * k) (t := t) hrk
  unfold en at h1 ⊢
  have e : (t + res * k - 1) / (res * k) * (res * k) = ((t + res * k - 1) / (res * k) * k) * res := by
    rw [Int.mul_comm res k, Int.mul_assoc]
  rw [e] at h1 ⊢
  exact en_least h h1
theorem win_win {res k t : Int} (h : 1 ≤ res) (hk : 1 ≤ k) (h2 : res * k ≤ 1000000) (h3 : 0 ≤ t) (h4 : t ≤ 1000000000000) : winOf (res * k) (winOf res t) = winOf (res * k) t := by
  have hrk : 1 ≤ res * k := by
    have := Int.mul_le_mul_of_nonneg_right h (show 0 ≤ k by omega)
    omega
  have hr : res ≤ res * k := by
    have := Int.mul_le_mul_of_nonneg_left hk (show 0 ≤ res by omega)
    omega
  have g1 := en_ge (res := res) (t := t) h
  have g2 := en_lt (res := res) (t := t) h
  rw [win_en2 h (by omega) h3 (by omega), win_en2 hrk h2 (by omega) (by omega), win_en2 hrk h2 h3 (by omega)]
  exact en_en h hk
theorem snoc_cases (L : List Ag) : L = [] ∨ ∃ K p, L = K ++ [p] := by
  rcases List.eq_nil_or_concat L with h | ⟨K, p, h⟩
  · exact .inl h
  · exact .inr ⟨K, p, by rw [h, List.concat_eq_append]⟩
theorem lst_snoc (K : List Ag) (p : Ag) : lst (K ++ [p]) = p := by unfold lst; simp
theorem set_snoc (K : List Ag) (p q : Ag) : (K ++ [p]).set ((K ++ [p]).length - 1) q = K ++ [q] := by
  rw [List.length_append, List.length_singleton, Nat.add_sub_cancel, List.set_append_right _ _ (Nat.le_refl _), Nat.sub_self]
  rfl
theorem mrg_assoc' (a b c : Ag) : mrg (mrg a b) c = mrg a (mrg b c) := by
  unfold mrg
  simp only [Ag.mk.injEq]
  refine ⟨trivial, ?_, ?_, by omega, by omega, trivial, trivial, ?_⟩
  · unfold wrap64; omega
  · unfold wrap64; omega
  · generalize rise a.l b.f = x
    generalize rise b.l c.f = y
    unfold wrap64; omega
/-- Windows of windows are the windows. -/
theorem fw_fw {f g : Int → Int} : ∀ (n : Nat) (L : List Ag), L.length = n → (∀ p ∈ L, g (f p.t) = g p.t) → fw g (fw f L) = fw g L := by
  intro n
  induction n with
  | zero => intro L hn _; rw [List.eq_nil_of_length_eq_zero hn]; rfl
  | succ n ih =>
    intro L hn hL
    rcases snoc_cases L with h | ⟨K, p, rfl⟩
    · rw [h] at hn; simp at hn
    have hK := ih K (by simp at hn; omega) (fun q hq => hL q (List.mem_append_left _ hq))
    have hp := hL p (by simp)
    rw [fw_snoc, fw_snoc, ← hK]
    generalize fw f K = M at *
    by_cases hc : M ≠ [] ∧ (lst M).t = f p.t
    rotate_left
    · rw [step_new hc, fw_snoc]
      unfold stepW
      have e1 : at_ g (at_ f p) = at_ g p := by unfold at_; simp [hp]
      have e2 : g (at_ f p).t = g p.t := hp
      rw [e1, e2]
    · rcases snoc_cases M with h | ⟨M', m, rfl⟩
      · exact absurd h hc.1
      rw [step_old hc, lst_snoc, set_snoc, fw_snoc, fw_snoc]
      have ht : m.t = f p.t := by have := hc.2; rw [lst_snoc] at this; exact this
      have hgm : g m.t = g p.t := by rw [ht]; exact hp
      have hx : (mrg m (at_ f p)).t = f p.t := rfl
      have hgx : g (mrg m (at_ f p)).t = g p.t := by rw [hx]; exact hp
      have ex : at_ g (mrg m (at_ f p)) = mrg (at_ g m) (at_ g p) := by
        unfold at_ mrg
        simp only [Ag.mk.injEq, and_true]
        exact hp
      generalize fw g M' = N at *
      by_cases hd : N ≠ [] ∧ (lst N).t = g p.t
      · rcases snoc_cases N with h | ⟨N', q, rfl⟩
        · exact absurd h hd.1
        have hq : q.t = g p.t := by have := hd.2; rw [lst_snoc] at this; exact this
        rw [step_old ⟨by simp, by rw [lst_snoc, hgx]; exact hq⟩, step_old (p := m) ⟨by simp, by rw [lst_snoc, hgm]; exact hq⟩, lst_snoc, set_snoc, set_snoc]
        rw [step_old ⟨by simp, by rw [lst_snoc]; exact hgm⟩, lst_snoc, set_snoc, ex, mrg_assoc']
      · rw [step_new (by rw [hgx]; exact hd), step_new (p := m) (by rw [hgm]; exact hd)]
        rw [step_old ⟨by simp, by rw [lst_snoc]; exact hgm⟩, lst_snoc, set_snoc, ex]
theorem ones_fw {res k : Int} {ls : List Sm} (hr : Rr (real ls)) (h : 1 ≤ res) (hk : 1 ≤ k) (h2 : res * k ≤ 1000000) : fw (winOf (res * k)) (fw (winOf res) (ones ls)) = fw (winOf (res * k)) (ones ls) := by
  refine fw_fw _ (ones ls) rfl fun p hp => ?_
  unfold ones at hp
  obtain ⟨q, hq, rfl⟩ := List.mem_map.1 hp
  have ht := hr.tm q hq
  exact win_win h hk h2 ht.1 ht.2
end Go.Proofs.Ytpbnneelpdacdaa.Agl
