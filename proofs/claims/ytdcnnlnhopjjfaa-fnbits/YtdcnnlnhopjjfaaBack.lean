/- Every number is read back: what PutVar writes, TakeVar reads, wherever it stands. Plain lists and numbers. -/
import Derived.Test.YtdcnnlnhopjjfaaPut
namespace Go.Proofs.Ytdcnnlnhopjjfaa.Put
open Go.RowKit Go.Proofs.Ytdcnnlnhopjjfaa.Var

theorem at_drop {zs r : List Int} {i : Nat} {z : Int} (h : zs.drop i = z :: r) : i < zs.length ∧ zs.getD i 0 = z ∧ zs.drop (i + 1) = r := by
  have h1 : i < zs.length := by
    have := congrArg List.length h
    simp at this; omega
  rw [List.drop_eq_getElem_cons h1] at h
  simp only [List.cons.injEq] at h
  exact ⟨h1, by simp [h1, h.1], h.2⟩

theorem join_mul (a b p : Int) (h : b = a / 128) : a % 128 * p + b * (p * 128) = a * p := by
  have e : a = a % 128 + 128 * (a / 128) := by omega
  subst h
  have : a / 128 * (p * 128) = (128 * (a / 128)) * p := by
    rw [Int.mul_comm p 128, ← Int.mul_assoc, Int.mul_comm (a / 128) 128]
  rw [this, ← Int.add_mul, ← e]

theorem back (zs rest : List Int) (t : Nat) : ∀ (f k : Nat) (acc x : Int), f + k = 9 → 0 ≤ x → Fits f x → 0 ≤ acc → acc < 2 ^ (7 * k) → (0 < k → x ≠ 0) → zs.drop (t + k) = pieces f x ++ rest →
    go zs t (f + 1) k acc = (wrap64 (acc + x * 2 ^ (7 * k)), (t : Int) + (k : Int) + ((pieces f x).length : Int)) := by
  intro f
  induction f with
  | zero =>
    intro k acc x hk hx0 hf ha0 ha1 hne hd
    have hx : x < 2 := by unfold Fits at hf; simpa using hf
    rw [pieces] at hd ⊢
    obtain ⟨h1, h2, h3⟩ := at_drop hd
    have hs : stop k x = false := by simp [stop]; omega
    rw [go_good zs t 0 k acc h1 (by rw [h2]; omega) (by rw [h2]; exact hs), h2]
    rw [(more_sum k acc x ha0 ha1 hx0 (.inr ⟨by omega, by omega⟩)).1, show x % 128 = x from by omega]
    simp
  | succ f ih =>
    intro k acc x hk hx0 hf ha0 ha1 hne hd
    by_cases hx : x < 128
    · rw [pieces_end _ _ hx] at hd ⊢
      obtain ⟨h1, h2, h3⟩ := at_drop hd
      have hs : stop k x = false := by simp [stop]; omega
      rw [go_good zs t (f + 1) k acc h1 (by rw [h2]; omega) (by rw [h2]; exact hs), h2]
      rw [(more_sum k acc x ha0 ha1 hx0 (.inl (by omega))).1, show x % 128 = x from by omega]
      simp
    · rw [pieces_on f x hx, List.cons_append] at hd
      obtain ⟨h1, h2, h3⟩ := at_drop hd
      rw [go_big zs t (f + 1) k acc h1 (by rw [h2]; omega), h2]
      have hk8 : k ≤ 8 := by omega
      have hz : (x % 128 + 128) % 128 = x % 128 := by omega
      have hm := (more_sum k acc (x % 128 + 128) ha0 ha1 (by omega) (.inl hk8)).1
      have hl := more_lt k acc (x % 128 + 128) ha0 ha1 (by omega) hk8
      have h0 := more_lo k acc (x % 128 + 128)
      rw [ih (k + 1) (more k acc (x % 128 + 128)) (x / 128) (by omega) (by omega) (fits_down f x hf) h0 hl (by intro _; omega) (by rw [← Nat.add_assoc]; exact h3)]
      rw [hm, hz, p_succ, Int.add_assoc, join_mul x (x / 128) _ rfl, pieces_on f x hx]
      simp only [List.length_cons, Prod.mk.injEq, true_and]
      omega

theorem wrap_back (n : Int) (h1 : -9223372036854775808 ≤ n) (h2 : n ≤ 9223372036854775807) : wrap64 (IntKind.u64.wrap n) = n := by
  rw [IntKind.wrap_u64]; unfold wrap64; omega

/-- The number that is put behind some bytes and ahead of others is read back from there. -/
theorem read_back (ahead rest : List Int) (n : Int) (h1 : -9223372036854775808 ≤ n) (h2 : n ≤ 9223372036854775807) :
    tv (ahead ++ put n ++ rest) (ahead.length : Int) = (n, (ahead.length : Int) + ((put n).length : Int)) := by
  have hp := (put_len n).1
  rw [tv_in _ _ (by simp; omega)]
  have hu : 0 ≤ IntKind.u64.wrap n := by rw [IntKind.wrap_u64]; omega
  have := back (ahead ++ put n ++ rest) rest ahead.length 9 0 0 (IntKind.u64.wrap n) rfl hu (fits_top n) (by omega) (by decide) (by omega)
    (by rw [Nat.add_zero, List.append_assoc, List.drop_left]; rfl)
  rw [this]
  rw [show (0 : Int) + IntKind.u64.wrap n * 2 ^ (7 * 0) = IntKind.u64.wrap n from by simp, wrap_back n h1 h2]
  simp [put]

theorem pieces_byte : ∀ (f : Nat) (x : Int), 0 ≤ x → Fits f x → ∀ z ∈ pieces f x, 0 ≤ z ∧ z ≤ 255 := by
  intro f
  induction f with
  | zero => intro x h0 hf z hz; have := fits_zero x hf; rw [pieces] at hz; simp at hz; omega
  | succ f ih =>
    intro x h0 hf z hz
    by_cases hx : x < 128
    · rw [pieces_end _ _ hx] at hz; simp at hz; omega
    · rw [pieces_on f x hx] at hz
      rcases List.mem_cons.1 hz with rfl | hz
      · omega
      · exact ih (x / 128) (by omega) (fits_down f x hf) z hz
theorem put_byte (n : Int) : ∀ z ∈ put n, 0 ≤ z ∧ z ≤ 255 :=
  pieces_byte 9 _ (by rw [IntKind.wrap_u64]; omega) (fits_top n)
theorem bytes_getD {zs : List Int} (h : ∀ z ∈ zs, 0 ≤ z ∧ z ≤ 255) : ∀ j, 0 ≤ zs.getD j 0 ∧ zs.getD j 0 ≤ 255 := by
  intro j
  by_cases hj : j < zs.length
  · have := h _ (List.getElem_mem hj); simpa [hj] using this
  · simp [List.getD_eq_getElem?_getD, List.getElem?_eq_none (Nat.le_of_not_lt hj)]
theorem getD_bytes {zs : List Int} (h : ∀ j, 0 ≤ zs.getD j 0 ∧ zs.getD j 0 ≤ 255) : ∀ z ∈ zs, 0 ≤ z ∧ z ≤ 255 := by
  intro z hz
  obtain ⟨j, hj, rfl⟩ := List.getElem_of_mem hz
  simpa [hj] using h j
end Go.Proofs.Ytdcnnlnhopjjfaa.Put
