/- Steady samples: two bits each. -/
import Derived.Test.YteblbcbfaomdmaaDoorUcF
import Derived.Test.YteblbcbfaomdmaaDoorVl
namespace Go.Proofs.YteblbcbfaomdmaaDoor.Chk
open Go.RowKit Go.Proofs.YteblbcbfaomdmaaDoor.Smp Go.Proofs.YteblbcbfaomdmaaDoor.Bts

/-- Samples of one value, a step apart. -/
def steady (step v : Int) (n : Nat) : List Sm := (List.range n).map fun (i : Nat) => ((i : Int) * step, v)
theorem steady_len (step v : Int) (n : Nat) : (steady step v n).length = n := by simp [steady]
theorem steady_get (step v : Int) (n k : Nat) (h : k < n) : (steady step v n).getD k e0 = ((k : Int) * step, v) := by
  simp [steady, List.getD, h]
theorem steady_snoc (step v : Int) (n : Nat) : steady step v (n + 1) = steady step v n ++ [((n : Int) * step, v)] := by
  simp [steady, List.range_succ]
theorem xor_self (v : Int) : xorV v v = 0 := by
  unfold xorV bits
  simp
  rw [IntKind.wrap_u64]; rfl
theorem steady_good (step v : Int) (h1 : 1 ≤ step) (h2 : step ≤ 64) : GoodP (steady step v 120) := by
  refine ⟨by rw [steady_len]; omega, fun i hi => ?_⟩
  rw [steady_len] at hi
  have hb : (i : Int) * step ≤ 120 * 64 := Int.mul_le_mul (by omega) h2 (by omega) (by omega)
  have h0 : 0 ≤ (i : Int) * step := Int.mul_nonneg (by omega) (by omega)
  unfold OkAt TimeP
  rw [steady_get _ _ _ _ hi]
  refine ⟨⟨h0, by show (i : Int) * step ≤ _; omega⟩, fun hp => ?_⟩
  rw [steady_get _ _ _ _ (by omega)]
  show ((i - 1 : Nat) : Int) * step < (i : Int) * step
  exact Int.mul_lt_mul_of_pos_right (by omega) (by omega)
theorem steady_pack (step v : Int) (h1 : 1 ≤ step) (h2 : step ≤ 64) (n : Nat) (hn : n ≤ 120) : ∀ k, 2 ≤ k → k ≤ n →
    (packK (steady step v n) k).b.2 = 8 + 104 + 10 + 2 * (k - 2) ∧ (packK (steady step v n) k).t = ((k : Int) - 1) * step ∧ (packK (steady step v n) k).v = v ∧ (packK (steady step v n) k).step = step := by
  intro k hk
  induction k with
  | zero => omega
  | succ k ih =>
    intro hkn
    have e : packK (steady step v n) (k + 1) = nextC (packK (steady step v n) k) ((k : Int) * step, v) := by
      rw [packK, if_neg (by omega), steady_get _ _ _ _ (by omega)]
    rw [e]
    by_cases h : k = 1
    · subst h
      have e1 : packK (steady step v n) 1 = firstC (packK (steady step v n) 0) (0, v) := by
        show (if (0 : Nat) = 0 then firstC (packK (steady step v n) 0) ((steady step v n).getD 0 e0) else _) = _
        rw [if_pos rfl, steady_get _ _ _ _ (by omega)]; simp
      rw [e1]
      have hb : bendI (((1 : Nat) : Int) * step - 0 - 0) = 1 := by
        have e9 : ((1 : Nat) : Int) * step - 0 - 0 = step := by simp
        rw [e9]; unfold bendI
        rw [if_neg (by simp only [inCls]; omega), if_pos (by simp only [inCls]; omega)]
      refine ⟨?_, ?_, rfl, ?_⟩
      · simp only [nextC, firstC, packK, xor_self, turnB, if_pos, bAdd_size, bendB, hb]
      · simp [nextC]
      · simp [nextC, firstC]
    · obtain ⟨i1, i2, i3, i4⟩ := ih (by omega) (by omega)
      have hz : (k : Int) * step - (packK (steady step v n) k).t - (packK (steady step v n) k).step = 0 := by
        rw [i2, i4, Int.sub_mul]; omega
      have hb : bendI 0 = 0 := by decide
      refine ⟨?_, ?_, rfl, ?_⟩
      · simp only [nextC, i3, xor_self, turnB, if_pos, bAdd_size, hz, bendB, hb, i1]; omega
      · simp [nextC]
      · simp only [nextC]; rw [i2, Int.sub_mul]; omega
end Go.Proofs.YteblbcbfaomdmaaDoor.Chk
