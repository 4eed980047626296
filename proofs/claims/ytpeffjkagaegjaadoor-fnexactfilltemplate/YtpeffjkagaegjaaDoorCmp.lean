/- Texts compared: l2CmpNum, l2CmpText, strings.Compare. -/
import Derived.Test.YtpeffjkagaegjaaDoorNam
import Derived.Deep.RegionWith
namespace Go.Proofs.YtpeffjkagaegjaaDoor.Str
open Go.RowKit

def numC (x y : Int) : Int := if x < y then -1 else if y < x then 1 else 0
theorem f37 (x y : Int) (w : World) : Calls Tryd.prog 37 #[.int .i64 x, .int .i64 y] w fun e w' => e = .returned (.int .i64 (numC x y)) ∧ w' = w := by
  by_cases h1 : x < y
  · go_enter Tryd.func37, Tryd.ntmps37
    go_wp2
    go_ret
    exact ⟨ret_int (by unfold numC; rw [if_pos h1]), rfl⟩
  · by_cases h2 : y < x
    · go_enter Tryd.func37, Tryd.ntmps37
      go_wp2
      go_ret
      exact ⟨ret_int (by unfold numC; rw [if_neg (by omega), if_pos h2]), rfl⟩
    · go_enter Tryd.func37, Tryd.ntmps37
      go_wp2
      go_ret
      exact ⟨ret_int (by unfold numC; rw [if_neg (by omega), if_neg (by omega)]), rfl⟩

theorem cmp_at : ∀ (k : Nat) (a b : List UInt8), k < a.length → k < b.length → a.take k = b.take k → a.getD k 0 ≠ b.getD k 0 → Lib.compareBytes a b = numC (a.getD k 0).toNat (b.getD k 0).toNat := by
  intro k
  induction k with
  | zero =>
    intro a b ha hb _ hne
    match a, b, ha, hb with
    | x :: a, y :: b, _, _ =>
      simp only [List.getD_cons_zero] at hne ⊢
      unfold Lib.compareBytes numC
      by_cases h1 : x < y
      · rw [if_pos h1, if_pos (by have := UInt8.lt_iff_toNat_lt.1 h1; omega)]
      · by_cases h2 : y < x
        · rw [if_neg h1, if_pos h2, if_neg (by have := UInt8.lt_iff_toNat_lt.1 h2; omega), if_pos (by have := UInt8.lt_iff_toNat_lt.1 h2; omega)]
        · exfalso
          rw [UInt8.lt_iff_toNat_lt] at h1 h2
          exact hne (UInt8.toNat_inj.1 (by omega))
  | succ k ih =>
    intro a b ha hb he hne
    match a, b, ha, hb with
    | x :: a, y :: b, ha, hb =>
      simp only [List.take_succ_cons, List.cons.injEq] at he
      obtain ⟨rfl, he⟩ := he
      simp only [List.getD_cons_succ] at hne ⊢
      rw [← ih a b (by simpa using ha) (by simpa using hb) he hne]
      conv => lhs; unfold Lib.compareBytes
      simp
theorem cmp_end : ∀ (k : Nat) (a b : List UInt8), a.take k = b.take k → (a.length ≤ k ∨ b.length ≤ k) → Lib.compareBytes a b = numC a.length b.length := by
  intro k
  induction k with
  | zero =>
    intro a b _ h
    cases a with
    | nil =>
      cases b with
      | nil => rfl
      | cons y b => unfold Lib.compareBytes numC; rw [if_pos (by simp)]
    | cons x a =>
      cases b with
      | nil => unfold Lib.compareBytes numC; rw [if_neg (by simp; omega), if_pos (by simp)]
      | cons y b => simp at h
  | succ k ih =>
    intro a b he h
    cases a with
    | nil =>
      cases b with
      | nil => rfl
      | cons y b => simp at he
    | cons x a =>
      cases b with
      | nil => simp at he
      | cons y b =>
        simp only [List.take_succ_cons, List.cons.injEq] at he
        obtain ⟨rfl, he⟩ := he
        have e := ih a b he (by simpa using h)
        have e2 : numC ((x :: a).length : Nat) ((x :: b).length : Nat) = numC a.length b.length := by
          unfold numC; simp
        rw [e2, ← e]
        conv => lhs; unfold Lib.compareBytes
        simp

theorem getD_str (s : ByteArray) (k : Nat) (h : k < s.size) : s.data.toList.getD k 0 = s[k] := by
  have : k < s.data.toList.length := by simpa using h
  rw [List.getD_eq_getElem?_getD, List.getElem?_eq_getElem this]; rfl
theorem take_str (s t : ByteArray) (k : Nat) (hs : k < s.size) (ht : k < t.size) (h : s.data.toList.take k = t.data.toList.take k) (he : s[k] = t[k]) : s.data.toList.take (k + 1) = t.data.toList.take (k + 1) := by
  rw [List.take_succ_eq_append_getElem (by simpa using hs), List.take_succ_eq_append_getElem (by simpa using ht), h]
  congr 1
  have : s.data.toList[k]'(by simpa using hs) = t.data.toList[k]'(by simpa using ht) := he
  rw [this]

set_option maxRecDepth 100000 in
theorem f48 (a b : ByteArray) (w : World) : Calls Tryd.prog 48 #[.string a, .string b] w fun e w' => e = .returned (.int .i64 (Lib.compareBytes a.data.toList b.data.toList)) ∧ w' = w := by
  go_enter Tryd.func48, Tryd.ntmps48
  go_wp2
  rw [run_callFunc_extern Tryd.func53 (by kernel_rfl) (by kernel_rfl) (by kernel_rfl) (e := Extern.BytealgCompare.compare) (by kernel_rfl), Lib.run_compareString]
  simp only [Result.andThen]
  rw [Oper.upon_value]
  go_wp2
  go_ret
  exact ⟨rfl, rfl⟩
theorem f42 (a b : ByteArray) (w : World) : Calls Tryd.prog 42 #[.string a, .string b] w fun e w' => e = .returned (.int .i64 (Lib.compareBytes a.data.toList b.data.toList)) ∧ w' = w := by
  go_enter Tryd.func42, Tryd.ntmps42
  go_wp2_with (go_at_call 48; refine (f48 _ _ _).mono ?_; rintro e w' ⟨rfl, rfl⟩)
  go_ret
  exact ⟨rfl, rfl⟩

theorem wrapb (c : UInt8) : IntKind.i64.wrap (c.toNat : Int) = c.toNat := by
  have := c.toNat_lt
  rw [IntKind.wrap_i64]; omega

set_option maxHeartbeats 1000000 in
theorem f21 (s t : ByteArray) (w : World) (hs : s.size ≤ maxLen) : Calls Tryd.prog 21 #[.string s, .string t] w fun e w' => e = .returned (.int .i64 (Lib.compareBytes s.data.toList t.data.toList)) ∧ ∃ q, w' = w.drewN q := by
  unfold maxLen at hs
  go_enter Tryd.func21, Tryd.ntmps21
  go_wp2
  go_loopw [5] (fun i wr => ∃ (k q : Nat), k ≤ s.size ∧ k ≤ t.size ∧ i = .int .i64 k ∧ Hid (s.data.toList.take k = t.data.toList.take k) ∧ wr = w.drewN q) (fun i _ => s.size - (intOf i).toNat)
  case atStart => exact ⟨0, 0, Nat.zero_le _, Nat.zero_le _, rfl, by unfold Hid; simp, rfl⟩
  case round =>
    obtain ⟨k, q, hk, hk2, rfl, hp, rfl⟩ := hrel
    by_cases h1 : k < s.size
    · by_cases h2 : k < t.size
      · have i1 : (k : Int) < (s.size : Int) := by omega
        have i2 : (k : Int) < (t.size : Int) := by omega
        have HT := hid (take_str s t k h1 h2 hp.out)
        have HC := hid (cmp_at k s.data.toList t.data.toList (by simpa using h1) (by simpa using h2) hp.out)
        have HG1 := hid (getD_str s k h1)
        have HG2 := hid (getD_str t k h2)
        by_cases h3 : s[k] = t[k]
        · have h3' : ((s[k].toNat : Int) != (t[k].toNat : Int)) = false := by rw [h3]; simp
          have HE := hid h3
          clear h3
          go_wp2
          go_quiet (fail)
          go_wp2
          go_roundw
          case rel => exact ⟨k + 1, _, by omega, by omega, by go_num, HT.out HE.out, rfl⟩
          case measure => simp [intOf]; omega
        · have h3' : ((s[k].toNat : Int) != (t[k].toNat : Int)) = true := by
            simp only [bne_iff_ne, ne_eq]; intro h; exact h3 (UInt8.toNat_inj.1 (by omega))
          have HE : Hid (Lib.compareBytes s.data.toList t.data.toList = numC (s[k].toNat : Int) (t[k].toNat : Int)) := by
            have := HC.out (by rw [HG1.out, HG2.out]; exact h3)
            rw [HG1.out, HG2.out] at this
            exact this
          clear h3
          go_wp2
          go_quiet (fail)
          go_wp2
          go_region_with (go_at_call 37; refine (f37 _ _ _).mono ?_; rintro e w' ⟨rfl, rfl⟩)
          all_goals
            go_wp2
            go_ret
            exact ⟨ret_int (by rw [HE.out, wrapb, wrapb]), _, rfl⟩
      · have HE : Hid (Lib.compareBytes s.data.toList t.data.toList = numC (s.size : Int) (t.size : Int)) := by
          have := cmp_end k _ _ hp.out (.inr (by simp; omega))
          unfold Hid; simpa using this
        go_wp2_with (go_at_call 37; refine (f37 _ _ _).mono ?_; rintro e w' ⟨rfl, rfl⟩)
        go_ret
        exact ⟨ret_int HE.out.symm, _, rfl⟩
    · have HE : Hid (Lib.compareBytes s.data.toList t.data.toList = numC (s.size : Int) (t.size : Int)) := by
        have := cmp_end k _ _ hp.out (.inl (by simp; omega))
        unfold Hid; simpa using this
      go_wp2_with (go_at_call 37; refine (f37 _ _ _).mono ?_; rintro e w' ⟨rfl, rfl⟩)
      go_ret
      exact ⟨ret_int HE.out.symm, _, rfl⟩
end Go.Proofs.YtpeffjkagaegjaaDoor.Str
