/- Patterns: which are good. -/
import Derived.Test.YtpeffjkagaegjaaDoorRows
import Derived.WalkKit
import Derived.ProofKit
import Derived.Handy
import Derived.BigQuiet
import Derived.Deep.QuietTactic
import Derived.Lib.Bytealg
namespace Go.Proofs.YtpeffjkagaegjaaDoor.Pat
open Go.RowKit

theorem hid {p : Prop} (h : p) : Hid p := h
theorem ret_bool {a b : Bool} (h : a = b) : Ending.returned (.bool a) = .returned (.bool b) := by rw [h]
def prB (c : UInt8) : Bool := decide (32 ≤ c.toNat ∧ c.toNat ≤ 126)
def printL (l : List UInt8) : Bool := l.all prB
theorem all_take_succ (p : UInt8 → Bool) (s : ByteArray) (k : Nat) (h : k < s.size) : (s.data.toList.take (k + 1)).all p = ((s.data.toList.take k).all p && p s[k]) := by
  rw [List.take_succ_eq_append_getElem (by simpa using h), List.all_append]; simp; rfl
theorem all_false (p : UInt8 → Bool) (s : ByteArray) (k : Nat) (h : k < s.size) (hp : p s[k] = false) : s.data.toList.all p = false := by
  rw [List.all_eq_false]
  refine ⟨s[k], ?_, by simp [hp]⟩
  exact List.getElem_mem (l := s.data.toList) (n := k) (by simpa using h)
theorem take_all (p : UInt8 → Bool) (s : ByteArray) (k : Nat) (h : s.size ≤ k) (hp : (s.data.toList.take k).all p = true) : s.data.toList.all p = true := by
  rwa [List.take_of_length_le (by simpa using h)] at hp

theorem f33 (s : ByteArray) (w : World) (hs : s.size ≤ maxLen) : Calls Tryd.prog 33 #[.string s] w fun e w' => e = .returned (.bool (printL s.data.toList)) ∧ w' = w := by
  unfold maxLen at hs
  go_enter Tryd.func33, Tryd.ntmps33
  go_wp2
  go_loop [3] (fun i => ∃ k : Nat, k ≤ s.size ∧ i = .int .i64 k ∧ Hid ((s.data.toList.take k).all prB = true)) (fun i => s.size - (intOf i).toNat)
  case atStart => exact ⟨0, Nat.zero_le _, rfl, by unfold Hid; simp⟩
  case round =>
    obtain ⟨k, hk, rfl, hp⟩ := hrel
    by_cases hlt : k < s.size
    · have HS := hid (all_take_succ prB s k hlt)
      have HA := hid (all_false prB s k hlt)
      by_cases h1 : (s[k].toNat : Int) < 32
      · go_wp2
        go_ret
        exact ⟨ret_bool (HA.out (by unfold prB; rw [decide_eq_false]; omega)).symm, rfl⟩
      · by_cases h2 : 126 < (s[k].toNat : Int)
        · go_wp2
          go_ret
          exact ⟨ret_bool (HA.out (by unfold prB; rw [decide_eq_false]; omega)).symm, rfl⟩
        · go_wp2
          go_round
          case rel => exact ⟨k + 1, by omega, by go_num, by unfold Hid; rw [HS.out, hp.out, Bool.true_and]; unfold prB; rw [decide_eq_true]; omega⟩
          case measure => simp [intOf]; omega
    · go_wp2
      go_ret
      exact ⟨ret_bool (take_all prB s k (by omega) hp.out).symm, rfl⟩

theorem f24 (s : ByteArray) (w : World) (hs : s.size ≤ maxLen) : Calls Tryd.prog 24 #[.string s] w fun e w' => e = .returned (.bool (printL s.data.toList)) ∧ w' = w := by
  unfold maxLen at hs
  go_enter Tryd.func24, Tryd.ntmps24
  go_wp2
  go_loop [6] (fun i => ∃ k : Nat, k ≤ s.size ∧ i = .int .i64 k ∧ Hid ((s.data.toList.take k).all prB = true)) (fun i => s.size - (intOf i).toNat)
  case atStart => exact ⟨0, Nat.zero_le _, rfl, by unfold Hid; simp⟩
  case round =>
    obtain ⟨k, hk, rfl, hp⟩ := hrel
    by_cases hlt : k < s.size
    · have HS := hid (all_take_succ prB s k hlt)
      have HA := hid (all_false prB s k hlt)
      by_cases h1 : (s[k].toNat : Int) < 32
      · go_wp2
        go_ret
        exact ⟨ret_bool (HA.out (by unfold prB; rw [decide_eq_false]; omega)).symm, rfl⟩
      · by_cases h2 : 126 < (s[k].toNat : Int)
        · go_wp2
          go_ret
          exact ⟨ret_bool (HA.out (by unfold prB; rw [decide_eq_false]; omega)).symm, rfl⟩
        · go_wp2
          go_round
          case rel => exact ⟨k + 1, by omega, by go_num, by unfold Hid; rw [HS.out, hp.out, Bool.true_and]; unfold prB; rw [decide_eq_true]; omega⟩
          case measure => simp [intOf]; omega
    · go_wp2
      go_ret
      exact ⟨ret_bool (take_all prB s k (by omega) hp.out).symm, rfl⟩

/-- A sign that may stand behind the escape. -/
def sgB (z : Int) : Bool := decide (z = 42 ∨ z = 63 ∨ z = 124 ∨ z = 92)
def escL : List UInt8 → Bool
  | [] => true
  | [c] => !decide ((c.toNat : Int) = 92)
  | c :: d :: r => if (c.toNat : Int) = 92 then sgB d.toNat && escL r else escL (d :: r)
theorem esc_plain (c : UInt8) (r : List UInt8) (h : (c.toNat : Int) ≠ 92) : escL (c :: r) = escL r := by
  cases r with
  | nil => simp [escL, h]
  | cons d r => rw [escL, if_neg h]
theorem esc_end (c : UInt8) (h : (c.toNat : Int) = 92) : escL [c] = false := by simp [escL, h]
theorem esc_sign (c d : UInt8) (r : List UInt8) (h : (c.toNat : Int) = 92) : escL (c :: d :: r) = (sgB d.toNat && escL r) := by rw [escL, if_pos h]
theorem drop_str (s : ByteArray) (k : Nat) (h : k < s.size) : s.data.toList.drop k = s[k] :: s.data.toList.drop (k + 1) := by
  rw [List.drop_eq_getElem_cons (by simpa using h)]; rfl
/-- The rest from k on decides. -/
def From (s : ByteArray) (k : Nat) : Prop := escL s.data.toList = escL (s.data.toList.drop k)
theorem From.zero (s : ByteArray) : From s 0 := rfl
theorem From.plain {s : ByteArray} {k : Nat} (h : From s k) (hk : k < s.size) (hc : (s[k].toNat : Int) ≠ 92) : From s (k + 1) := by
  unfold From at *; rw [h, drop_str s k hk, esc_plain _ _ hc]
theorem From.last {s : ByteArray} {k : Nat} (h : From s k) (hk : k < s.size) (hc : (s[k].toNat : Int) = 92) (he : k + 1 = s.size) : escL s.data.toList = false := by
  unfold From at h; rw [h, drop_str s k hk, List.drop_eq_nil_of_le (by simp; omega), esc_end _ hc]
theorem From.bad {s : ByteArray} {k : Nat} (h : From s k) (hk : k < s.size) (hc : (s[k].toNat : Int) = 92) (hk1 : k + 1 < s.size) (hs : sgB (s[k + 1].toNat : Int) = false) : escL s.data.toList = false := by
  unfold From at h; rw [h, drop_str s k hk, drop_str s (k + 1) hk1, esc_sign _ _ _ hc, hs]; rfl
theorem From.sign {s : ByteArray} {k : Nat} (h : From s k) (hk : k < s.size) (hc : (s[k].toNat : Int) = 92) (hk1 : k + 1 < s.size) (hs : sgB (s[k + 1].toNat : Int) = true) : From s (k + 1 + 1) := by
  unfold From at *; rw [h, drop_str s k hk, drop_str s (k + 1) hk1, esc_sign _ _ _ hc, hs]; rfl
theorem From.done {s : ByteArray} {k : Nat} (h : From s k) (hk : s.size ≤ k) : escL s.data.toList = true := by
  unfold From at h; rw [h, List.drop_eq_nil_of_le (by simpa using hk)]; rfl
def patB (s : ByteArray) : Bool := decide (s.size ≤ 100) && printL s.data.toList && escL s.data.toList
theorem pat_ok {s : ByteArray} {b : Bool} (h1 : s.size ≤ 100) (h2 : printL s.data.toList = true) (h3 : escL s.data.toList = b) : patB s = b := by unfold patB; rw [h2, h3]; simp [h1]
theorem pat_long {s : ByteArray} (h1 : 100 < s.size) : patB s = false := by unfold patB; rw [decide_eq_false (by omega)]; rfl
theorem pat_unprinted {s : ByteArray} (h1 : printL s.data.toList = false) : patB s = false := by unfold patB; rw [h1]; simp

theorem own_form {w : World} {base e size n : Nat} {v : Value} {xs : List Value} (h : w.ownsRow base e size v n xs) : ∃ a c, v = .slice a n c := by
  rcases h.2 with ⟨h1, h2⟩ | ⟨g, cap, cur, h1, _⟩
  · subst h2; exact ⟨none, 0, h1⟩
  · exact ⟨_, _, h1⟩
/-- Rows of unlike types lie apart. -/
theorem own_apart {w : World} {b1 b2 e1 e2 s1 s2 n1 n2 : Nat} {v1 v2 : Value} {x1 x2 : List Value} (h1 : w.ownsRow b1 e1 s1 v1 n1 x1) (h2 : w.ownsRow b2 e2 s2 v2 n2 x2) (hne : e1 ≠ e2) : v1.ownBlock = none ∨ v1.ownBlock ≠ v2.ownBlock := by
  rcases h1.2 with ⟨rfl, _⟩ | ⟨g1, c1, cur1, rfl, _, hg1, _⟩
  · exact .inl rfl
  · refine .inr (fun e => ?_)
    rcases h2.2 with ⟨rfl, _⟩ | ⟨g2, c2, cur2, rfl, _, hg2, _⟩
    · cases e
    · simp only [Value.ownBlock, Option.some.injEq] at e
      subst e
      rw [hg1] at hg2
      simp only [Option.some.injEq, Obj.cells.injEq] at hg2
      exact hne hg2.2.1
theorem one_row (w : World) (x : Value) (t : TypeId) : ∀ j u, [x][j]? = some u → (w.alloc (.cells #[x] t)).cell? ((⟨w.heap.size, 0, none⟩ : Addr).add j) = some u := by
  intro j u hj
  have h := heap_alloc_new w (.cells #[x] t)
  match j, hj with
  | 0, hj =>
    simp at hj; subst hj
    have : (⟨w.heap.size, 0, none⟩ : Addr).add 0 = ⟨w.heap.size, 0, none⟩ := by simp [Addr.add]
    rw [this]
    unfold World.cell?
    simp only [h]
    rfl
  | j + 1, hj => simp at hj
theorem info3 : (Tryd.prog.info? 3).map (fun i => (i.zero, i.size, i.bytes)) = some (some (.int .i64 0), 1, 8) := by kernel_rfl
end Go.Proofs.YtpeffjkagaegjaaDoor.Pat
