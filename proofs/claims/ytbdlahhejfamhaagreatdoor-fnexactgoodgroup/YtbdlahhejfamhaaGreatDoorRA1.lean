/- Patterns: which are good. -/
import Derived.Test.YtbdlahhejfamhaaGreatDoorRows
import Derived.WalkKit
import Derived.ProofKit
import Derived.Handy
import Derived.BigQuiet
import Derived.Deep.QuietTactic
import Derived.Lib.Bytealg
namespace Go.Proofs.YtbdlahhejfamhaaGreatDoor.Pat
open Go.RowKit

theorem hid {p : Prop} (h : p) : Hid p := h
theorem ret_bool {a b : Bool} (h : a = b) : Ending.returned (.bool a) = .returned (.bool b) := by rw [h]
def prB (c : UInt8) : Bool := decide (32 ≤ c.toNat ∧ c.toNat ≤ 126)
def printL (l : List UInt8) : Bool := l.all prB
theorem all_take_succ (p : UInt8 → Bool) (s : ByteArray) (k : Nat) (h : k < s.size) : (s.data.toList.take (k + 1)).all p = ((s.data.toList.take k).all p && p s[k]) := by
  rw [List.take_succ_eq_append_getElem (by simpa using h), List.all_append]; simp; rfl
theorem all_false (p : UInt8 → Bool) (s : ByteArray) (k : Nat) (h : k < s.size) (hp : p s[k] = false) : s.data.toList.all p = false := by
  rw [List.all_eq_false]
  refine ⟨s[k], ?_, by simp [hp]⟩
  exact List.getElem_mem (l := s.data.toList) (n := k) (by simpa using h)
theorem take_all (p : UInt8 → Bool) (s : ByteArray) (k : Nat) (h : s.size ≤ k) (hp : (s.data.toList.take k).all p = true) : s.data.toList.all p = true := by
  rwa [List.take_of_length_le (by simpa using h)] at hp

theorem f134 (s : ByteArray) (w : World) (hs : s.size ≤ maxLen) : Calls Tryz.prog 134 #[.string s] w fun e w' => e = .returned (.bool (printL s.data.toList)) ∧ w' = w := by
  unfold maxLen at hs
  go_enter Tryz.func134, Tryz.ntmps134
  go_wp2
  go_loop [3] (fun i => ∃ k : Nat, k ≤ s.size ∧ i = .int .i64 k ∧ Hid ((s.data.toList.take k).all prB = true)) (fun i => s.size - (intOf i).toNat)
  case atStart => exact ⟨0, Nat.zero_le _, rfl, by unfold Hid; simp⟩
  case round =>
    obtain ⟨k, hk, rfl, hp⟩ := hrel
    by_cases hlt : k < s.size
    · have HS := hid (all_take_succ prB s k hlt)
      have HA := hid (all_false prB s k hlt)
      by_cases h1 : (s[k].toNat : Int) < 32
      · go_wp2
        go_ret
        exact ⟨ret_bool (HA.out (by unfold prB; rw [decide_eq_false]; omega)).symm, rfl⟩
      · by_cases h2 : 126 < (s[k].toNat : Int)
        · go_wp2
          go_ret
          exact ⟨ret_bool (HA.out (by unfold prB; rw [decide_eq_false]; omega)).symm, rfl⟩
        · go_wp2
          go_round
          case rel => exact ⟨k + 1, by omega, by go_num, by unfold Hid; rw [HS.out, hp.out, Bool.true_and]; unfold prB; rw [decide_eq_true]; omega⟩
          case measure => simp [intOf]; omega
    · go_wp2
      go_ret
      exact ⟨ret_bool (take_all prB s k (by omega) hp.out).symm, rfl⟩

theorem f142 (s : ByteArray) (w : World) (hs : s.size ≤ maxLen) : Calls Tryz.prog 142 #[.string s] w fun e w' => e = .returned (.bool (printL s.data.toList)) ∧ w' = w := by
  unfold maxLen at hs
  go_enter Tryz.func142, Tryz.ntmps142
  go_wp2
  go_loop [6] (fun i => ∃ k : Nat, k ≤ s.size ∧ i = .int .i64 k ∧ Hid ((s.data.toList.take k).all prB = true)) (fun i => s.size - (intOf i).toNat)
  case atStart => exact ⟨0, Nat.zero_le _, rfl, by unfold Hid; simp⟩
  case round =>
    obtain ⟨k, hk, rfl, hp⟩ := hrel
    by_cases hlt : k < s.size
    · have HS := hid (all_take_succ prB s k hlt)
      have HA := hid (all_false prB s k hlt)
      by_cases h1 : (s[k].toNat : Int) < 32
      · go_wp2
        go_ret
        exact ⟨ret_bool (HA.out (by unfold prB; rw [decide_eq_false]; omega)).symm, rfl⟩
      · by_cases h2 : 126 < (s[k].toNat : Int)
        · go_wp2
          go_ret
          exact ⟨ret_bool (HA.out (by unfold prB; rw [decide_eq_false]; omega)).symm, rfl⟩
        · go_wp2
          go_round
          case rel => exact ⟨k + 1, by omega, by go_num, by unfold Hid; rw [HS.out, hp.out, Bool.true_and]; unfold prB; rw [decide_eq_true]; omega⟩
          case measure => simp [intOf]; omega
    · go_wp2
      go_ret
      exact ⟨ret_bool (take_all prB s k (by omega) hp.out).symm, rfl⟩

/-- A sign that may stand behind the escape. -/
def sgB (z : Int) : Bool := decide (z = 42 ∨ z = 63 ∨ z = 124 ∨ z = 92)
def escL : List UInt8 → Bool
  | [] => true
  | [c] => !decide ((c.toNat : Int) = 92)
  | c :: d :: r => if (c.toNat : Int) = 92 then sgB d.toNat && escL r else escL (d :: r)
theorem esc_plain (c : UInt8) (r : List UInt8) (h : (c.toNat : Int) ≠ 92) : escL (c :: r) = escL r := by
  cases r with
  | nil => simp [escL, h]
  | cons d r => rw [escL, if_neg h]
theorem esc_end (c : UInt8) (h : (c.toNat : Int) = 92) : escL [c] = false := by simp [escL, h]
theorem esc_sign (c d : UInt8) (r : List UInt8) (h : (c.toNat : Int) = 92) : escL (c :: d :: r) = (sgB d.toNat && escL r) := by rw [escL, if_pos h]
theorem drop_str (s : ByteArray) (k : Nat) (h : k < s.size) : s.data.toList.drop k = s[k] :: s.data.toList.drop (k + 1) := by
  rw [List.drop_eq_getElem_cons (by simpa using h)]; rfl
/-- The rest from k on decides. -/
def From (s : ByteArray) (k : Nat) : Prop := escL s.data.toList = escL (s.data.toList.drop k)
theorem From.zero (s : ByteArray) : From s 0 := rfl
theorem From.plain {s : ByteArray} {k : Nat} (h : From s k) (hk : k < s.size) (hc : (s[k].toNat : Int) ≠ 92) : From s (k + 1) := by
  unfold From at *; rw [h, drop_str s k hk, esc_plain _ _ hc]
theorem From.last {s : ByteArray} {k : Nat} (h : From s k) (hk : k < s.size) (hc : (s[k].toNat : Int) = 92) (he : k + 1 = s.size) : escL s.data.toList = false := by
  unfold From at h; rw [h, drop_str s k hk, List.drop_eq_nil_of_le (by simp; omega), esc_end _ hc]
theorem From.bad {s : ByteArray} {k : Nat} (h : From s k) (hk : k < s.size) (hc : (s[k].toNat : Int) = 92) (hk1 : k + 1 < s.size) (hs : sgB (s[k + 1].toNat : Int) = false) : escL s.data.toList = false := by
  unfold From at h; rw [h, drop_str s k hk, drop_str s (k + 1) hk1, esc_sign _ _ _ hc, hs]; rfl
theorem From.sign {s : ByteArray} {k : Nat} (h : From s k) (hk : k < s.size) (hc : (s[k].toNat : Int) = 92) (hk1 : k + 1 < s.size) (hs : sgB (s[k + 1].toNat : Int) = true) : From s (k + 1 + 1) := by
  unfold From at *; rw [h, drop_str s k hk, drop_str s (k + 1) hk1, esc_sign _ _ _ hc, hs]; rfl
theorem From.done {s : ByteArray} {k : Nat} (h : From s k) (hk : s.size ≤ k) : escL s.data.toList = true := by
  unfold From at h; rw [h, List.drop_eq_nil_of_le (by simpa using hk)]; rfl
def patB (s : ByteArray) : Bool := decide (s.size ≤ 100) && printL s.data.toList && escL s.data.toList
theorem pat_ok {s : ByteArray} {b : Bool} (h1 : s.size ≤ 100) (h2 : printL s.data.toList = true) (h3 : escL s.data.toList = b) : patB s = b := by unfold patB; rw [h2, h3]; simp [h1]
theorem pat_long {s : ByteArray} (h1 : 100 < s.size) : patB s = false := by unfold patB; rw [decide_eq_false (by omega)]; rfl
theorem pat_unprinted {s : ByteArray} (h1 : printL s.data.toList = false) : patB s = false := by unfold patB; rw [h1]; simp

theorem own_form {w : World} {base e size n : Nat} {v : Value} {xs : List Value} (h : w.ownsRow base e size v n xs) : ∃ a c, v = .slice a n c := by
  rcases h.2 with ⟨h1, h2⟩ | ⟨g, cap, cur, h1, _⟩
  · subst h2; exact ⟨none, 0, h1⟩
  · exact ⟨_, _, h1⟩
/-- Rows of unlike types lie apart. -/
theorem own_apart {w : World} {b1 b2 e1 e2 s1 s2 n1 n2 : Nat} {v1 v2 : Value} {x1 x2 : List Value} (h1 : w.ownsRow b1 e1 s1 v1 n1 x1) (h2 : w.ownsRow b2 e2 s2 v2 n2 x2) (hne : e1 ≠ e2) : v1.ownBlock = none ∨ v1.ownBlock ≠ v2.ownBlock := by
  rcases h1.2 with ⟨rfl, _⟩ | ⟨g1, c1, cur1, rfl, _, hg1, _⟩
  · exact .inl rfl
  · refine .inr (fun e => ?_)
    rcases h2.2 with ⟨rfl, _⟩ | ⟨g2, c2, cur2, rfl, _, hg2, _⟩
    · cases e
    · simp only [Value.ownBlock, Option.some.injEq] at e
      subst e
      rw [hg1] at hg2
      simp only [Option.some.injEq, Obj.cells.injEq] at hg2
      exact hne hg2.2.1
theorem one_row (w : World) (x : Value) (t : TypeId) : ∀ j u, [x][j]? = some u → (w.alloc (.cells #[x] t)).cell? ((⟨w.heap.size, 0, none⟩ : Addr).add j) = some u := by
  intro j u hj
  have h := heap_alloc_new w (.cells #[x] t)
  match j, hj with
  | 0, hj =>
    simp at hj; subst hj
    have : (⟨w.heap.size, 0, none⟩ : Addr).add 0 = ⟨w.heap.size, 0, none⟩ := by simp [Addr.add]
    rw [this]
    unfold World.cell?
    simp only [h]
    rfl
  | j + 1, hj => simp at hj
theorem info3 : (Tryz.prog.info? 3).map (fun i => (i.zero, i.size, i.bytes)) = some (some (.int .i64 0), 1, 8) := by kernel_rfl
theorem info83 : (Tryz.prog.info? 232).map (fun i => (i.zero, i.size, i.bytes)) = some (some (.slice none 0 0), 1, 24) := by kernel_rfl
end Go.Proofs.YtbdlahhejfamhaaGreatDoor.Pat
/- Names, in this cut. -/
namespace Go.Proofs.YtbdlahhejfamhaaGreatDoor.Pat
open Go.RowKit

def digB (z : Int) : Bool := decide (48 ≤ z ∧ z ≤ 57)
def letB (z : Int) : Bool := decide ((97 ≤ z ∧ z ≤ 122) ∨ (65 ≤ z ∧ z ≤ 90))
def nbB (z : Int) : Bool := letB z || digB z || decide (z = 95)

theorem f118 (z : Int) (w : World) : Calls Tryz.prog 118 #[.int .u8 z] w fun e w' => e = .returned (.bool (digB z)) ∧ w' = w := by
  by_cases h1 : 48 ≤ z
  · by_cases h2 : z ≤ 57
    · go_enter Tryz.func118, Tryz.ntmps118
      go_wp2
      go_ret
      exact ⟨ret_bool (by simp [digB, h1, h2]), rfl⟩
    · go_enter Tryz.func118, Tryz.ntmps118
      go_wp2
      go_ret
      exact ⟨ret_bool (by simp [digB, h2]), rfl⟩
  · go_enter Tryz.func118, Tryz.ntmps118
    go_wp2
    go_ret
    exact ⟨ret_bool (by unfold digB; rw [Bool.eq_iff_iff]; simp; omega), rfl⟩
theorem f124 (z : Int) (w : World) : Calls Tryz.prog 124 #[.int .u8 z] w fun e w' => e = .returned (.bool (digB z)) ∧ w' = w := by
  by_cases h1 : 48 ≤ z
  · by_cases h2 : z ≤ 57
    · go_enter Tryz.func124, Tryz.ntmps124
      go_wp2
      go_ret
      exact ⟨ret_bool (by simp [digB, h1, h2]), rfl⟩
    · go_enter Tryz.func124, Tryz.ntmps124
      go_wp2
      go_ret
      exact ⟨ret_bool (by simp [digB, h2]), rfl⟩
  · go_enter Tryz.func124, Tryz.ntmps124
    go_wp2
    go_ret
    exact ⟨ret_bool (by unfold digB; rw [Bool.eq_iff_iff]; simp; omega), rfl⟩
theorem f119 (z : Int) (w : World) : Calls Tryz.prog 119 #[.int .u8 z] w fun e w' => e = .returned (.bool (letB z)) ∧ w' = w := by
  go_enter Tryz.func119, Tryz.ntmps119
  go_wp2
  all_goals
    go_ret
    exact ⟨ret_bool (by unfold letB; rw [Bool.eq_iff_iff]; simp; omega), rfl⟩
theorem f154 (z : Int) (w : World) : Calls Tryz.prog 154 #[.int .u8 z] w fun e w' => e = .returned (.bool (letB z)) ∧ w' = w := by
  go_enter Tryz.func154, Tryz.ntmps154
  go_wp2
  all_goals
    go_ret
    exact ⟨ret_bool (by unfold letB; rw [Bool.eq_iff_iff]; simp; omega), rfl⟩
theorem f125 (z : Int) (w : World) : Calls Tryz.prog 125 #[.int .u8 z] w fun e w' => e = .returned (.bool (nbB z)) ∧ w' = w := by
  by_cases h1 : letB z = true
  · go_enter Tryz.func125, Tryz.ntmps125
    go_wp2_with (first | (go_at_call 154; refine (f154 _ _).mono ?_; rintro e w' ⟨rfl, rfl⟩) | (go_at_call 124; refine (f124 _ _).mono ?_; rintro e w' ⟨rfl, rfl⟩))
    go_ret
    exact ⟨ret_bool (by simp [nbB, h1]), rfl⟩
  · have h1' : letB z = false := by simpa using h1
    by_cases h2 : digB z = true
    · go_enter Tryz.func125, Tryz.ntmps125
      go_wp2_with (first | (go_at_call 154; refine (f154 _ _).mono ?_; rintro e w' ⟨rfl, rfl⟩) | (go_at_call 124; refine (f124 _ _).mono ?_; rintro e w' ⟨rfl, rfl⟩))
      go_ret
      exact ⟨ret_bool (by simp [nbB, h2]), rfl⟩
    · have h2' : digB z = false := by simpa using h2
      go_enter Tryz.func125, Tryz.ntmps125
      go_wp2_with (first | (go_at_call 154; refine (f154 _ _).mono ?_; rintro e w' ⟨rfl, rfl⟩) | (go_at_call 124; refine (f124 _ _).mono ?_; rintro e w' ⟨rfl, rfl⟩))
      go_ret
      exact ⟨ret_bool (by simp [nbB, h1', h2']; rfl), rfl⟩

def nbC (c : UInt8) : Bool := nbB c.toNat
def nameL (l : List UInt8) : Bool := decide (1 ≤ l.length ∧ l.length ≤ 40) && !digB (l.getD 0 0).toNat && l.all nbC
set_option maxHeartbeats 1000000 in
theorem f90 (s : ByteArray) (w : World) (hs : s.size ≤ maxLen) : Calls Tryz.prog 90 #[.string s] w fun e w' => e = .returned (.bool (nameL s.data.toList)) ∧ w' = w := by
  unfold maxLen at hs
  by_cases g1 : s.size < 1
  · go_enter Tryz.func90, Tryz.ntmps90
    go_wp2
    go_ret
    exact ⟨ret_bool (by simp [nameL]; omega), rfl⟩
  by_cases g2 : 40 < s.size
  · go_enter Tryz.func90, Tryz.ntmps90
    go_wp2
    go_ret
    exact ⟨ret_bool (by simp [nameL]; omega), rfl⟩
  have g3 : 0 < s.size := by omega
  have HZ : Hid (s.data.toList.getD 0 0 = s[0]) := by
    have : 0 < s.data.toList.length := by simpa using g3
    unfold Hid; rw [List.getD_eq_getElem?_getD, List.getElem?_eq_getElem this]; rfl
  by_cases g4 : digB (s[0].toNat : Int) = true
  · go_enter Tryz.func90, Tryz.ntmps90
    go_wp2_with (go_at_call 118; refine (f118 _ _).mono ?_; rintro e w' ⟨rfl, rfl⟩)
    go_ret
    exact ⟨ret_bool (by unfold nameL; rw [HZ.out, g4]; simp), rfl⟩
  have g4' : digB (s[0].toNat : Int) = false := by simpa using g4
  clear g4
  go_enter Tryz.func90, Tryz.ntmps90
  go_wp2_with (go_at_call 118; refine (f118 _ _).mono ?_; rintro e w' ⟨rfl, rfl⟩)
  go_loop [3] (fun i => ∃ k : Nat, k ≤ s.size ∧ i = .int .i64 k ∧ Hid ((s.data.toList.take k).all nbC = true)) (fun i => s.size - (intOf i).toNat)
  case atStart => exact ⟨0, Nat.zero_le _, rfl, by unfold Hid; simp⟩
  case round =>
    obtain ⟨k, hk, rfl, hp⟩ := hrel
    by_cases hlt : k < s.size
    · have HS := hid (all_take_succ nbC s k hlt)
      have HA := hid (all_false nbC s k hlt)
      by_cases h1 : letB (s[k].toNat : Int) = true
      · go_wp2_with (first | (go_at_call 119; refine (f119 _ _).mono ?_; rintro e w' ⟨rfl, rfl⟩) | (go_at_call 118; refine (f118 _ _).mono ?_; rintro e w' ⟨rfl, rfl⟩))
        go_round
        case rel => exact ⟨k + 1, by omega, by go_num, by unfold Hid; rw [HS.out, hp.out]; simp [nbC, nbB, h1]⟩
        case measure => simp [intOf]; omega
      · have h1' : letB (s[k].toNat : Int) = false := by simpa using h1
        by_cases h2 : digB (s[k].toNat : Int) = true
        · go_wp2_with (first | (go_at_call 119; refine (f119 _ _).mono ?_; rintro e w' ⟨rfl, rfl⟩) | (go_at_call 118; refine (f118 _ _).mono ?_; rintro e w' ⟨rfl, rfl⟩))
          go_round
          case rel => exact ⟨k + 1, by omega, by go_num, by unfold Hid; rw [HS.out, hp.out]; simp [nbC, nbB, h2]⟩
          case measure => simp [intOf]; omega
        · have h2' : digB (s[k].toNat : Int) = false := by simpa using h2
          by_cases h3 : (s[k].toNat : Int) = 95
          · have h3' : ((s[k].toNat : Int) != 95) = false := by simp [h3]
            have HN := hid h3
            clear h3
            go_wp2_with (first | (go_at_call 119; refine (f119 _ _).mono ?_; rintro e w' ⟨rfl, rfl⟩) | (go_at_call 118; refine (f118 _ _).mono ?_; rintro e w' ⟨rfl, rfl⟩))
            go_round
            case rel => exact ⟨k + 1, by omega, by go_num, by unfold Hid; rw [HS.out, hp.out, Bool.true_and]; unfold nbC nbB; rw [HN.out]; simp⟩
            case measure => simp [intOf]; omega
          · have h3' : ((s[k].toNat : Int) != 95) = true := by simp [h3]
            have HN := hid h3
            clear h3
            go_wp2_with (first | (go_at_call 119; refine (f119 _ _).mono ?_; rintro e w' ⟨rfl, rfl⟩) | (go_at_call 118; refine (f118 _ _).mono ?_; rintro e w' ⟨rfl, rfl⟩))
            go_ret
            exact ⟨ret_bool (by unfold nameL; rw [HA.out (by unfold nbC nbB; rw [h1', h2']; simpa using HN.out)]; simp), rfl⟩
    · go_wp2
      go_ret
      exact ⟨ret_bool (by unfold nameL; rw [HZ.out, g4', take_all nbC s k (by omega) hp.out]; simp; omega), rfl⟩

set_option maxHeartbeats 1000000 in
theorem f95 (s : ByteArray) (w : World) (hs : s.size ≤ maxLen) : Calls Tryz.prog 95 #[.string s] w fun e w' => e = .returned (.bool (nameL s.data.toList)) ∧ w' = w := by
  unfold maxLen at hs
  by_cases g1 : s.size < 1
  · go_enter Tryz.func95, Tryz.ntmps95
    go_wp2
    go_ret
    exact ⟨ret_bool (by simp [nameL]; omega), rfl⟩
  by_cases g2 : 40 < s.size
  · go_enter Tryz.func95, Tryz.ntmps95
    go_wp2
    go_ret
    exact ⟨ret_bool (by simp [nameL]; omega), rfl⟩
  have g3 : 0 < s.size := by omega
  have HZ : Hid (s.data.toList.getD 0 0 = s[0]) := by
    have : 0 < s.data.toList.length := by simpa using g3
    unfold Hid; rw [List.getD_eq_getElem?_getD, List.getElem?_eq_getElem this]; rfl
  by_cases g4 : digB (s[0].toNat : Int) = true
  · go_enter Tryz.func95, Tryz.ntmps95
    go_wp2_with (go_at_call 124; refine (f124 _ _).mono ?_; rintro e w' ⟨rfl, rfl⟩)
    go_ret
    exact ⟨ret_bool (by unfold nameL; rw [HZ.out, g4]; simp), rfl⟩
  have g4' : digB (s[0].toNat : Int) = false := by simpa using g4
  clear g4
  go_enter Tryz.func95, Tryz.ntmps95
  go_wp2_with (go_at_call 124; refine (f124 _ _).mono ?_; rintro e w' ⟨rfl, rfl⟩)
  go_loop [19] (fun i => ∃ k : Nat, k ≤ s.size ∧ i = .int .i64 k ∧ Hid ((s.data.toList.take k).all nbC = true)) (fun i => s.size - (intOf i).toNat)
  case atStart => exact ⟨0, Nat.zero_le _, rfl, by unfold Hid; simp⟩
  case round =>
    obtain ⟨k, hk, rfl, hp⟩ := hrel
    by_cases hlt : k < s.size
    · have HS := hid (all_take_succ nbC s k hlt)
      have HA := hid (all_false nbC s k hlt)
      by_cases h1 : nbB (s[k].toNat : Int) = true
      · go_wp2_with (go_at_call 125; refine (f125 _ _).mono ?_; rintro e w' ⟨rfl, rfl⟩)
        go_round
        case rel => exact ⟨k + 1, by omega, by go_num, by unfold Hid; rw [HS.out, hp.out]; simp [nbC, h1]⟩
        case measure => simp [intOf]; omega
      · have h1' : nbB (s[k].toNat : Int) = false := by simpa using h1
        go_wp2_with (go_at_call 125; refine (f125 _ _).mono ?_; rintro e w' ⟨rfl, rfl⟩)
        go_ret
        exact ⟨ret_bool (by unfold nameL; rw [HA.out h1']; simp), rfl⟩
    · go_wp2
      go_ret
      exact ⟨ret_bool (by unfold nameL; rw [HZ.out, g4', take_all nbC s k (by omega) hp.out]; simp; omega), rfl⟩
end Go.Proofs.YtbdlahhejfamhaaGreatDoor.Pat
/- The pieces of readPattern: a sign looked for, tests made, a test added. -/
namespace Go.Proofs.YtbdlahhejfamhaaGreatDoor.Pat
open Go.RowKit

theorem f190 (w : World) : Calls Tryz.prog 190 #[] w fun e w' => (∃ F, e = .returned (.func (.func F) #[] #[])) ∧ w' = w := by
  go_enter Tryz.func190, Tryz.ntmps190
  go_wp2
  go_ret
  exact ⟨⟨_, rfl⟩, rfl⟩
theorem f192 (z : Int) (w : World) : Calls Tryz.prog 192 #[.int .u8 z] w fun e w' => (∃ F ts us, e = .returned (.func (.func F) ts us)) ∧ Below w.heap.size w w' := by
  go_enter Tryz.func192, Tryz.ntmps192
  go_wp2
  go_ret
  exact ⟨⟨_, _, _, rfl⟩, (Below.refl _ _).alloc (Nat.le_refl _) _⟩

theorem info86 : (Tryz.prog.info? 253).map (fun i => (i.zero, i.size, i.bytes)) = some (some .nilFunc, 1, 8) := by kernel_rfl
theorem info91 : (Tryz.prog.info? 258).map (fun i => (i.zero, i.size, i.bytes)) = some (some (.slice none 0 0), 1, 24) := by kernel_rfl
theorem info63 : (Tryz.prog.info? 251).map (fun i => (i.zero, i.size, i.bytes)) = some (some (.slice none 0 0), 1, 24) := by kernel_rfl

set_option maxRecDepth 100000 in
theorem f194 (s : ByteArray) (c : Int) (w : World) : Calls Tryz.prog 194 #[.string s, .int .u8 c] w fun e w' => e = .returned (.int .i64 (Lib.indexByte s.data.toList c.toNat.toUInt8)) ∧ w' = w := by
  go_enter Tryz.func194, Tryz.ntmps194
  go_wp2
  rw [run_callFunc_extern Tryz.func196 (by kernel_rfl) (by kernel_rfl) (by kernel_rfl) (e := Extern.BytealgIndexByte.indexByte) (by kernel_rfl), Lib.run_indexByteString]
  simp only [Result.andThen]
  rw [Oper.upon_value]
  go_wp2
  go_ret
  exact ⟨rfl, rfl⟩
theorem f191' (s : ByteArray) (c : Int) (w : World) : Calls Tryz.prog 191 #[.string s, .int .u8 c] w fun e w' => e = .returned (.int .i64 (Lib.indexByte s.data.toList c.toNat.toUInt8)) ∧ w' = w := by
  go_enter Tryz.func191, Tryz.ntmps191
  go_wp2_with (go_at_call 194; refine (f194 _ _ _).mono ?_; rintro e w' ⟨rfl, rfl⟩)
  go_ret
  exact ⟨rfl, rfl⟩
theorem sign_found : ∀ n : Fin 256, decide (Lib.indexByte [42, 63, 124, 92] n.val.toUInt8 < 0) = !sgB (n.val : Int) := by decide +kernel
theorem f191 (c : UInt8) (w : World) : Calls Tryz.prog 191 #[.string { data := #[42, 63, 124, 92] }, .int .u8 (c.toNat : Int)] w fun e w' => (∃ y : Int, e = .returned (.int .i64 y) ∧ decide (y < 0) = !sgB (c.toNat : Int)) ∧ w' = w := by
  refine (f191' _ _ w).mono ?_
  rintro e w' ⟨rfl, rfl⟩
  exact ⟨⟨_, rfl, sign_found ⟨c.toNat, c.toNat_lt⟩⟩, rfl⟩

/-- The last run of an alternative's row, and that it is a row of tests. -/
structure Alt (B : Nat) (w : World) (g2 n2 c2 : Nat) (x2 : List Value) (a3 : Option Addr) (n3 c3 : Nat) (x3 : List Value) : Prop where
  own : w.ownsRow B 258 1 (.slice (some ⟨g2, 0, none⟩) n2 c2) n2 x2
  pos : 1 ≤ n2
  last : x2[n2 - 1]? = some (.slice a3 n3 c3)
  run : w.ownsRow B 253 1 (.slice a3 n3 c3) n3 x3

set_option maxHeartbeats 2000000 in
set_option maxRecDepth 100000 in
theorem f189 (B g2 n2 c2 n3 c3 : Nat) (a3 : Option Addr) (x2 x3 : List Value) (fid : FuncId) (ts us : Array Value) (w : World) (h : Alt B w g2 n2 c2 x2 a3 n3 c3 x3) (hB : B ≤ w.heap.size) (hn2 : n2 ≤ 1000) (hn3 : n3 ≤ 1000) :
    Calls Tryz.prog 189 #[.slice (some ⟨g2, 0, none⟩) n2 c2, .func (.func fid) ts us] w fun e w' => e = .returned (.tuple #[]) ∧ (∃ x2' a3' c3' x3', Alt B w' g2 n2 c2 x2' a3' (n3 + 1) c3' x3') ∧ Below B w w' ∧ ∀ (v : Value) (n : Nat) (xs : List Value), w.ownsRow B 251 1 v n xs → w'.ownsRow B 251 1 v n xs := by
  obtain ⟨i0, i1, i2, i3, i4⟩ := info_parts info86
  obtain ⟨k, rfl⟩ : ∃ k, n2 = k + 1 := ⟨n2 - 1, by have := h.pos; omega⟩
  have HL := hid h.last
  rw [Nat.add_sub_cancel] at HL
  have HO := hid h.own
  have HRn := hid h.run
  have hl2 : x2.length = k + 1 := by have := h.own.1; omega
  have c0 : w.cell? ⟨g2, k, none⟩ = some (.slice a3 n3 c3) := (HO.out.cellAt k (by omega)).trans HL.out
  have HL2 := hid hl2
  clear h hl2
  go_enter Tryz.func189, Tryz.ntmps189
  go_wp2_with (at_builtin; refine wpList_append_own _ rfl (.tmp 13) (.tmp 15) 258 rfl B 253 i0 .nilFunc 1 8 Tryz.underlying258 i1 i2 i3 i4 rfl (by decide) _ _ _ rfl (HRn.out.alloc _) ⟨w.heap.size, 0, none⟩ 1 1 [.func (.func fid) ts us] rfl rfl ?d1 ?d2 ?d3 ?d4 ?d5 ?_)
  case d1 => exact one_row _ _ _
  case d2 => intro u hu; simp at hu; subst hu; rfl
  case d3 => unfold maxLen; omega
  case d4 => omega
  case d5 => simp; omega
  intro v3 w3 hown3 hgr3 _
  obtain ⟨a4, c4, rfl⟩ := own_form hown3
  have HR3 := hid hown3
  have HO3 := hid ((HO.out.alloc (.cells #[.func (.func fid) ts us] 253)).kept hgr3 (own_apart HO.out HRn.out (by decide)))
  have HX3 := hid (((Below.refl B w).alloc hB (.cells #[.func (.func fid) ts us] 253)).grown hgr3 (by simp; omega) (fun j hj => (HRn.out.lt j hj).1))
  have HG3 : Hid (∀ (v : Value) (n : Nat) (xs : List Value), w.ownsRow B 251 1 v n xs → w3.ownsRow B 251 1 v n xs) := fun v n xs hv => (hv.alloc (.cells #[.func (.func fid) ts us] 253)).kept hgr3 (own_apart hv HRn.out (by decide))
  have fz := HO3.out.frozenAt k
  have c3' : w3.cell? ⟨g2, k, none⟩ = some (.slice a3 n3 c3) := (HO3.out.cellAt k (by omega)).trans HL.out
  have HS := hid (HO3.out.stored k (.slice a4 (n3 + 1) c4))
  have HBg := hid (HO.out.lt g2 rfl).1
  clear hown3 hgr3
  go_wp2
  refine bodyPost_end (v := .tuple #[]) (by simp [results, Tryz.results189]) rfl ⟨rfl, ⟨x2.set k (.slice a4 (n3 + 1) c4), a4, c4, _, ⟨HS.out.1, by omega, ?_, HR3.out.kept HS.out.2 (own_apart HR3.out HO3.out (by decide))⟩⟩, HX3.out.setCell HBg.out _, fun v n xs hv => (HG3.out v n xs hv).kept HS.out.2 (own_apart (HG3.out v n xs hv) HO3.out (by decide))⟩
  rw [Nat.add_sub_cancel, List.getElem?_set_self (by rw [HL2.out]; omega)]

/-- The pattern as it is read: a row of alternatives, its last one, that one's last run. -/
structure Rp (B : Nat) (w0 w : World) (g1 n1 c1 i : Nat) : Prop where
  ex : ∃ (x1 : List Value) (g2 n2 c2 : Nat) (x2 : List Value) (a3 : Option Addr) (n3 c3 : Nat) (x3 : List Value),
    w.ownsRow B 251 1 (.slice (some ⟨g1, 0, none⟩) n1 c1) n1 x1 ∧ x1[n1 - 1]? = some (.slice (some ⟨g2, 0, none⟩) n2 c2) ∧ Alt B w g2 n2 c2 x2 a3 n3 c3 x3 ∧ n2 ≤ i + 1 ∧ n3 ≤ i
  pos : 1 ≤ n1
  le : n1 ≤ i + 1
  below : Below B w0 w

/-- One alternative of the row, and a test that is to be added to it. -/
abbrev Ad (B : Nat) (w0 : World) (g1 n1 c1 : Nat) (x1 : List Value) (g2 n2 c2 : Nat) (x2 : List Value) (a3 : Option Addr) (n3 c3 : Nat) (x3 : List Value) (w : World) : Prop :=
  w.cell? ⟨g1, n1 - 1, none⟩ = some (.slice (some ⟨g2, 0, none⟩) n2 c2) ∧ w.ownsRow B 251 1 (.slice (some ⟨g1, 0, none⟩) n1 c1) n1 x1 ∧ Alt B w g2 n2 c2 x2 a3 n3 c3 x3 ∧ Below B w0 w
theorem own_below {w w' : World} {base e size n : Nat} {v : Value} {xs : List Value} (h : w.ownsRow base e size v n xs) (hb : Below w.heap.size w w') : w'.ownsRow base e size v n xs :=
  h.kept (row := none) ⟨hb.os, hb.tape, hb.output, hb.size, fun k hk _ => hb.block k hk⟩ (by cases hv : v.ownBlock <;> simp)
section
variable {B g1 n1 c1 g2 n2 c2 n3 c3 : Nat} {w0 w w' : World} {x1 x2 x3 : List Value} {a3 : Option Addr}
theorem Alt.below (h : Alt B w g2 n2 c2 x2 a3 n3 c3 x3) (hb : Below w.heap.size w w') : Alt B w' g2 n2 c2 x2 a3 n3 c3 x3 := ⟨own_below h.own hb, h.pos, h.last, own_below h.run hb⟩
theorem Ad.below (h : Ad B w0 g1 n1 c1 x1 g2 n2 c2 x2 a3 n3 c3 x3 w) (hb : Below w.heap.size w w') : Ad B w0 g1 n1 c1 x1 g2 n2 c2 x2 a3 n3 c3 x3 w' :=
  ⟨(hb.cell (p := ⟨g1, n1 - 1, none⟩) (h.2.1.lt g1 rfl).2).trans h.1, own_below h.2.1 hb, h.2.2.1.below hb, h.2.2.2.trans (hb.mono (Nat.le_of_lt (Nat.lt_of_le_of_lt (h.2.1.lt g1 rfl).1 (h.2.1.lt g1 rfl).2)))⟩
theorem Ad.drew (h : Ad B w0 g1 n1 c1 x1 g2 n2 c2 x2 a3 n3 c3 x3 w) : Ad B w0 g1 n1 c1 x1 g2 n2 c2 x2 a3 n3 c3 x3 w.drew := ⟨h.1, h.2.1, ⟨h.2.2.1.own, h.2.2.1.pos, h.2.2.1.last, h.2.2.1.run⟩, h.2.2.2.drew⟩
theorem Rp.open {i : Nat} (h : Rp B w0 w g1 n1 c1 i) : ∃ (x1 : List Value) (g2 n2 c2 : Nat) (x2 : List Value) (a3 : Option Addr) (n3 c3 : Nat) (x3 : List Value), Ad B w0 g1 n1 c1 x1 g2 n2 c2 x2 a3 n3 c3 x3 w ∧ x1[n1 - 1]? = some (.slice (some ⟨g2, 0, none⟩) n2 c2) ∧ n2 ≤ i + 1 ∧ n3 ≤ i := by
  obtain ⟨x1, g2, n2, c2, x2, a3, n3, c3, x3, h1, h2, h3, h4, h5⟩ := h.ex
  have hp := h.pos
  exact ⟨x1, g2, n2, c2, x2, a3, n3, c3, x3, ⟨(h1.cellAt (n1 - 1) (by omega)).trans h2, h1, h3, h.below⟩, h2, h4, h5⟩
/-- Behind a test that was added. -/
theorem Rp.added {i : Nat} (hA : Ad B w0 g1 n1 c1 x1 g2 n2 c2 x2 a3 n3 c3 x3 w) (hp : 1 ≤ n1) (hl : n1 ≤ i + 1) (h2 : x1[n1 - 1]? = some (.slice (some ⟨g2, 0, none⟩) n2 c2)) (h4 : n2 ≤ i + 1) (h5 : n3 ≤ i)
    (hk : (∃ x2' a3' c3' x3', Alt B w' g2 n2 c2 x2' a3' (n3 + 1) c3' x3') ∧ Below B w w' ∧ ∀ (v : Value) (n : Nat) (xs : List Value), w.ownsRow B 251 1 v n xs → w'.ownsRow B 251 1 v n xs) {j : Nat} (hj : i + 1 ≤ j) : Rp B w0 w' g1 n1 c1 j := by
  obtain ⟨⟨x2', a3', c3', x3', hA'⟩, hb, hg⟩ := hk
  exact ⟨⟨x1, g2, n2, c2, x2', a3', n3 + 1, c3', x3', hg _ _ _ hA.2.1, h2, hA', by omega, by omega⟩, hp, by omega, hA.2.2.2.trans hb⟩
end
end Go.Proofs.YtbdlahhejfamhaaGreatDoor.Pat
