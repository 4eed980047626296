/- Fillings: what the program's isFilling and the model's l4Filling come to. -/
import Derived.Test.YtbdlahhejfamhaaGreatDoorRows
import Derived.WalkKit
import Derived.ProofKit
import Derived.Handy
import Derived.BigQuiet
import Derived.Deep.QuietTactic
import Derived.OwnWalk
import Derived.Below
namespace Go.Proofs.YtbdlahhejfamhaaGreatDoor.Fil
open Go.RowKit

theorem hid {p : Prop} (h : p) : Hid p := h
theorem ret_bool {a b : Bool} (h : a = b) : Ending.returned (.bool a) = .returned (.bool b) := by rw [h]
def prB (c : UInt8) : Bool := decide (32 ≤ c.toNat ∧ c.toNat ≤ 126)
def printL (l : List UInt8) : Bool := l.all prB
theorem all_take_succ (p : UInt8 → Bool) (s : ByteArray) (k : Nat) (h : k < s.size) : (s.data.toList.take (k + 1)).all p = ((s.data.toList.take k).all p && p s[k]) := by
  rw [List.take_succ_eq_append_getElem (by simpa using h), List.all_append]; simp; rfl
theorem all_false (p : UInt8 → Bool) (s : ByteArray) (k : Nat) (h : k < s.size) (hp : p s[k] = false) : s.data.toList.all p = false := by
  rw [List.all_eq_false]
  refine ⟨s[k], ?_, by simp [hp]⟩
  exact List.getElem_mem (l := s.data.toList) (n := k) (by simpa using h)
theorem take_all (p : UInt8 → Bool) (s : ByteArray) (k : Nat) (h : s.size ≤ k) (hp : (s.data.toList.take k).all p = true) : s.data.toList.all p = true := by
  rwa [List.take_of_length_le (by simpa using h)] at hp

theorem f134 (s : ByteArray) (w : World) (hs : s.size ≤ maxLen) : Calls Tryz.prog 134 #[.string s] w fun e w' => e = .returned (.bool (printL s.data.toList)) ∧ w' = w := by
  unfold maxLen at hs
  go_enter Tryz.func134, Tryz.ntmps134
  go_wp2
  go_loop [3] (fun i => ∃ k : Nat, k ≤ s.size ∧ i = .int .i64 k ∧ Hid ((s.data.toList.take k).all prB = true)) (fun i => s.size - (intOf i).toNat)
  case atStart => exact ⟨0, Nat.zero_le _, rfl, by unfold Hid; simp⟩
  case round =>
    obtain ⟨k, hk, rfl, hp⟩ := hrel
    by_cases hlt : k < s.size
    · have HS := hid (all_take_succ prB s k hlt)
      have HA := hid (all_false prB s k hlt)
      by_cases h1 : (s[k].toNat : Int) < 32
      · go_wp2
        go_ret
        exact ⟨ret_bool (HA.out (by unfold prB; rw [decide_eq_false]; omega)).symm, rfl⟩
      · by_cases h2 : 126 < (s[k].toNat : Int)
        · go_wp2
          go_ret
          exact ⟨ret_bool (HA.out (by unfold prB; rw [decide_eq_false]; omega)).symm, rfl⟩
        · go_wp2
          go_round
          case rel => exact ⟨k + 1, by omega, by go_num, by unfold Hid; rw [HS.out, hp.out, Bool.true_and]; unfold prB; rw [decide_eq_true]; omega⟩
          case measure => simp [intOf]; omega
    · go_wp2
      go_ret
      exact ⟨ret_bool (take_all prB s k (by omega) hp.out).symm, rfl⟩

theorem f142 (s : ByteArray) (w : World) (hs : s.size ≤ maxLen) : Calls Tryz.prog 142 #[.string s] w fun e w' => e = .returned (.bool (printL s.data.toList)) ∧ w' = w := by
  unfold maxLen at hs
  go_enter Tryz.func142, Tryz.ntmps142
  go_wp2
  go_loop [6] (fun i => ∃ k : Nat, k ≤ s.size ∧ i = .int .i64 k ∧ Hid ((s.data.toList.take k).all prB = true)) (fun i => s.size - (intOf i).toNat)
  case atStart => exact ⟨0, Nat.zero_le _, rfl, by unfold Hid; simp⟩
  case round =>
    obtain ⟨k, hk, rfl, hp⟩ := hrel
    by_cases hlt : k < s.size
    · have HS := hid (all_take_succ prB s k hlt)
      have HA := hid (all_false prB s k hlt)
      by_cases h1 : (s[k].toNat : Int) < 32
      · go_wp2
        go_ret
        exact ⟨ret_bool (HA.out (by unfold prB; rw [decide_eq_false]; omega)).symm, rfl⟩
      · by_cases h2 : 126 < (s[k].toNat : Int)
        · go_wp2
          go_ret
          exact ⟨ret_bool (HA.out (by unfold prB; rw [decide_eq_false]; omega)).symm, rfl⟩
        · go_wp2
          go_round
          case rel => exact ⟨k + 1, by omega, by go_num, by unfold Hid; rw [HS.out, hp.out, Bool.true_and]; unfold prB; rw [decide_eq_true]; omega⟩
          case measure => simp [intOf]; omega
    · go_wp2
      go_ret
      exact ⟨ret_bool (take_all prB s k (by omega) hp.out).symm, rfl⟩

/-- A sign that may stand behind a dollar. -/
def sgB (z : Int) : Bool := decide (z = 36 ∨ (49 ≤ z ∧ z ≤ 57))
def escL : List UInt8 → Bool
  | [] => true
  | [c] => !decide ((c.toNat : Int) = 36)
  | c :: d :: r => if (c.toNat : Int) = 36 then sgB d.toNat && escL r else escL (d :: r)
theorem esc_plain (c : UInt8) (r : List UInt8) (h : (c.toNat : Int) ≠ 36) : escL (c :: r) = escL r := by
  cases r with
  | nil => simp [escL, h]
  | cons d r => rw [escL, if_neg h]
theorem esc_end (c : UInt8) (h : (c.toNat : Int) = 36) : escL [c] = false := by simp [escL, h]
theorem esc_sign (c d : UInt8) (r : List UInt8) (h : (c.toNat : Int) = 36) : escL (c :: d :: r) = (sgB d.toNat && escL r) := by rw [escL, if_pos h]
theorem drop_str (s : ByteArray) (k : Nat) (h : k < s.size) : s.data.toList.drop k = s[k] :: s.data.toList.drop (k + 1) := by
  rw [List.drop_eq_getElem_cons (by simpa using h)]; rfl
/-- The rest from k on decides. -/
def From (s : ByteArray) (k : Nat) : Prop := escL s.data.toList = escL (s.data.toList.drop k)
theorem From.zero (s : ByteArray) : From s 0 := rfl
theorem From.plain {s : ByteArray} {k : Nat} (h : From s k) (hk : k < s.size) (hc : (s[k].toNat : Int) ≠ 36) : From s (k + 1) := by
  unfold From at *; rw [h, drop_str s k hk, esc_plain _ _ hc]
theorem From.last {s : ByteArray} {k : Nat} (h : From s k) (hk : k < s.size) (hc : (s[k].toNat : Int) = 36) (he : k + 1 = s.size) : escL s.data.toList = false := by
  unfold From at h; rw [h, drop_str s k hk, List.drop_eq_nil_of_le (by simp; omega), esc_end _ hc]
theorem From.bad {s : ByteArray} {k : Nat} (h : From s k) (hk : k < s.size) (hc : (s[k].toNat : Int) = 36) (hk1 : k + 1 < s.size) (hs : sgB (s[k + 1].toNat : Int) = false) : escL s.data.toList = false := by
  unfold From at h; rw [h, drop_str s k hk, drop_str s (k + 1) hk1, esc_sign _ _ _ hc, hs]; rfl
theorem From.sign {s : ByteArray} {k : Nat} (h : From s k) (hk : k < s.size) (hc : (s[k].toNat : Int) = 36) (hk1 : k + 1 < s.size) (hs : sgB (s[k + 1].toNat : Int) = true) : From s (k + 1 + 1) := by
  unfold From at *; rw [h, drop_str s k hk, drop_str s (k + 1) hk1, esc_sign _ _ _ hc, hs]; rfl
theorem From.done {s : ByteArray} {k : Nat} (h : From s k) (hk : s.size ≤ k) : escL s.data.toList = true := by
  unfold From at h; rw [h, List.drop_eq_nil_of_le (by simpa using hk)]; rfl
def filB (s : ByteArray) : Bool := decide (s.size ≤ 100) && printL s.data.toList && escL s.data.toList
theorem fil_ok {s : ByteArray} {b : Bool} (h1 : s.size ≤ 100) (h2 : printL s.data.toList = true) (h3 : escL s.data.toList = b) : filB s = b := by unfold filB; rw [h2, h3]; simp [h1]
theorem fil_long {s : ByteArray} (h1 : 100 < s.size) : filB s = false := by unfold filB; rw [decide_eq_false (by omega)]; rfl
theorem fil_unprinted {s : ByteArray} (h1 : printL s.data.toList = false) : filB s = false := by unfold filB; rw [h1]; simp

end Go.Proofs.YtbdlahhejfamhaaGreatDoor.Fil
/- Lists of texts: szStringS, toStringS, eqStringS. -/
namespace Go.Proofs.YtbdlahhejfamhaaGreatDoor.Fil
open Go.RowKit

theorem below_drewN {B : Nat} {a w : World} (h : Below B a w) (q : Nat) : Below B a (w.drewN q) := ⟨h.os, h.tape, h.output, h.size, h.block⟩
theorem own_below {w w' : World} {base e size n : Nat} {v : Value} {xs : List Value} (h : w.ownsRow base e size v n xs) (hb : Below w.heap.size w w') : w'.ownsRow base e size v n xs :=
  h.kept (row := none) ⟨hb.os, hb.tape, hb.output, hb.size, fun k hk _ => hb.block k hk⟩ (by cases hv : v.ownBlock <;> simp)
/-- The slice that begins at 'a' holds the texts 'ss' in the world 'w'. -/
def HasT (w : World) (a : Option Addr) (ss : List ByteArray) : Prop :=
  ss = [] ∨ ∃ b off, a = some ⟨b, off, none⟩ ∧ b < w.heap.size ∧ ∀ i, i < ss.length → w.cell? ⟨b, off + i, none⟩ = some (.string (ss.getD i ByteArray.empty))
theorem HasT.below {w w' : World} {a : Option Addr} {ss : List ByteArray} (h : HasT w a ss) (hb : Below w.heap.size w w') : HasT w' a ss := by
  rcases h with h | ⟨b, off, h1, h2, h3⟩
  · exact .inl h
  · exact .inr ⟨b, off, h1, Nat.lt_of_lt_of_le h2 hb.size, fun i hi => (hb.cell (by exact h2)).trans (h3 i hi)⟩
theorem HasT.own {w : World} {base g n c : Nat} {ss : List ByteArray} (h : w.ownsRow base 9 1 (.slice (some ⟨g, 0, none⟩) n c) n (ss.map Value.string)) : HasT w (some ⟨g, 0, none⟩) ss := by
  have hl := h.1
  rw [List.length_map, Nat.mul_one] at hl
  refine .inr ⟨g, 0, rfl, (h.lt g rfl).2, fun i hi => ?_⟩
  rw [Nat.zero_add, h.cellAt i (by omega)]
  simp [hi]
def FitT (ss : List ByteArray) : Prop := ∀ i, (ss.getD i ByteArray.empty).size ≤ maxLen
set_option maxHeartbeats 1000000 in
theorem f60 (a : Option Addr) (n c : Nat) (L : Int) (ss : List ByteArray) (w : World) (hL0 : 0 ≤ L) (hL1 : L ≤ 1048576) (hn : ss.length = n) (hr : HasT w a ss) (hf : FitT ss) (hmax : n ≤ maxLen) :
    Calls Tryz.prog 60 #[.slice a n c, .int .i64 L] w fun e w' => ∃ y : Int, e = .returned (.int .i64 y) ∧ (0 ≤ y → n ≤ 1048576 ∧ ∀ i, i < n → (ss.getD i ByteArray.empty).size ≤ 1048576) ∧ -1 ≤ y ∧ y ≤ 1048576 ∧ w' = w := by
  unfold maxLen at hmax
  by_cases hbig : (n : Int) ≤ L
  · have HN := hid hn
    clear hn
    go_enter Tryz.func60, Tryz.ntmps60
    go_wp2
    go_loop [1, 5] (fun sx i => ∃ (k : Nat) (x : Int), k ≤ n ∧ i = .int .i64 k ∧ sx = .int .i64 x ∧ 0 ≤ x ∧ x ≤ 1048576 ∧ Hid (∀ i, i < k → (ss.getD i ByteArray.empty).size ≤ 1048576)) (fun _ i => n - (intOf i).toNat)
    case atStart => exact ⟨0, _, Nat.zero_le _, rfl, rfl, by omega, by omega, fun i hi => by omega⟩
    case round =>
      obtain ⟨k, x, hk, rfl, rfl, hx0, hx1, HU⟩ := hrel
      by_cases hlt : k < n
      · rcases hr with h | ⟨b, off, rfl, h2, h3⟩
        · exfalso; rw [h] at HN; have := HN.out; simp at this; omega
        have c0 := h3 k (by rw [HN.out]; exact hlt)
        have g0 := hf k
        clear h3
        have HU2 : Hid ((ss.getD k ByteArray.empty).size ≤ 1048576 → ∀ i, i < k + 1 → (ss.getD i ByteArray.empty).size ≤ 1048576) := by
          intro h i hi
          by_cases e : i = k
          · subst e; exact h
          · exact HU.out i (by omega)
        generalize ss.getD k ByteArray.empty = s at *
        unfold maxLen at g0
        by_cases hy : x - s.size < 0
        · go_wp2
          go_ret
          exact ⟨-1, rfl, fun h => absurd h (by omega), by omega, by omega, rfl⟩
        · have HU2 := hid (HU2.out (by omega))
          go_wp2
          go_round
          case rel => exact ⟨k + 1, _, by omega, by go_num, rfl, by omega, by omega, HU2.out⟩
          case measure => simp [intOf]; omega
      · go_wp2
        go_ret
        exact ⟨x, rfl, fun _ => ⟨by omega, fun i hi => HU.out i (by omega)⟩, by omega, hx1, rfl⟩
  · go_enter Tryz.func60, Tryz.ntmps60
    go_wp2
    go_ret
    exact ⟨-1, rfl, by omega, by omega, by omega, rfl⟩

theorem info9 : (Tryz.prog.info? 9).map (fun i => (i.zero, i.size, i.bytes)) = some (some (.string ByteArray.empty), 1, 16) := by kernel_rfl
theorem stepT_set (ss : List ByteArray) (n k : Nat) (hn : ss.length = n) (hk : k < n) : (ss.take k ++ List.replicate (n - k) ByteArray.empty).set k (ss.getD k ByteArray.empty) = ss.take (k + 1) ++ List.replicate (n - (k + 1)) ByteArray.empty := by
  have hl : (ss.take k).length = k := by simp; omega
  rw [List.set_append_right _ _ (by omega), hl, Nat.sub_self, show n - k = (n - (k + 1)) + 1 from by omega, List.replicate_succ, List.set_cons_zero, List.take_succ_eq_append_getElem (by omega), List.append_assoc]
  congr 2
  simp [hn, hk]

set_option maxHeartbeats 1000000 in
theorem f65 (a : Option Addr) (n c : Nat) (ss : List ByteArray) (w : World) (hn : ss.length = n) (hb : n ≤ 1048576) (hr : HasT w a ss) :
    Calls Tryz.prog 65 #[.slice a n c] w fun e w' => e = .returned (.slice (some ⟨w.heap.size, 0, none⟩) n n) ∧
      w'.ownsRow w.heap.size 9 1 (.slice (some ⟨w.heap.size, 0, none⟩) n n) n (ss.map Value.string) ∧ Below w.heap.size w w' := by
  obtain ⟨i0, hi, hz0, hz1, hz2⟩ := info_parts info9
  have HN : Hid (ss.length = n) := hn
  clear hn
  go_enter Tryz.func65, Tryz.ntmps65
  go_wp2_with (at_make; refine wpList_make_full _ rfl _ _ 50 rfl w.heap.size 9 i0 (.string ByteArray.empty) 1 Tryz.underlying50 hi hz0 hz1 _ _ _ _ n rfl rfl rfl rfl ?b2 ?b3 (Nat.le_refl _) ?_)
  case b2 => rw [hz2]; omega
  case b3 => unfold maxLen; omega
  intro w0 hown0 hgrow0
  have HO0 := hid hown0
  have HG0 := hid hgrow0
  clear hown0 hgrow0
  go_wp2
  go_loopw [4] (fun i wr => ∃ k : Nat, k ≤ n ∧ i = .int .i64 k ∧ wr.ownsRow w.heap.size 9 1 (.slice (some ⟨w.heap.size, 0, none⟩) n n) n ((ss.take k ++ List.replicate (n - k) ByteArray.empty).map Value.string) ∧ Below w.heap.size w wr)
    (fun i _ => n - (intOf i).toNat)
  case atStart => exact ⟨0, Nat.zero_le _, rfl, by simpa [toList_madeCells_one, Value.cells] using HO0.out, (Below.refl _ _).grown HG0.out (Nat.le_refl _) (fun k h => by cases h)⟩
  case round =>
    obtain ⟨k, hk, rfl, hown, hnx⟩ := hrel
    have HX := hid hnx
    by_cases hlt : k < n
    · rcases hr with hr | ⟨b, off, rfl, hbl, hc⟩
      · exact absurd HN.out (by rw [hr]; simp; omega)
      have d0 := (hnx.cell (p := ⟨b, off + k, none⟩) hbl).trans (hc k (by rw [HN.out]; exact hlt))
      have fz := hown.frozenAt k
      have hkl : k < (ss.take k ++ List.replicate (n - k) ByteArray.empty).length := by simp; have := HN.out; omega
      have cz : wr.cell? ⟨w.heap.size, k, none⟩ = some (.string ((ss.take k ++ List.replicate (n - k) ByteArray.empty)[k])) := by
        rw [hown.cellAt k (by omega), List.getElem?_map, List.getElem?_eq_getElem hkl]; rfl
      have HS := hown.stored k (.string (ss.getD k ByteArray.empty))
      rw [← List.map_set, stepT_set ss n k HN.out hlt] at HS
      have HS' := hid HS.1
      clear HS hc hown hnx HO0 HG0
      generalize (ss.take k ++ List.replicate (n - k) ByteArray.empty)[k] = u0 at *
      generalize ss.getD k ByteArray.empty = s at *
      go_wp2
      go_roundw
      case rel => exact ⟨k + 1, by omega, by go_num, HS'.out, HX.out.setCell (Nat.le_refl _) _⟩
      case measure => simp [intOf]; omega
    · go_wp2
      go_ret
      have : k = n := by omega
      subst this
      refine ⟨rfl, ?_, HX.out⟩
      have e := HN.out
      simpa [← e] using hown

set_option maxHeartbeats 1000000 in
theorem f73 (a a' : Option Addr) (n c c' : Nat) (ss : List ByteArray) (w : World) (hn : ss.length = n) (hb : n ≤ 1048576) (hr : HasT w a ss) (hr' : HasT w a' ss) :
    Calls Tryz.prog 73 #[.slice a n c, .slice a' n c'] w fun e w' => e = .returned (.bool true) ∧ Below w.heap.size w w' := by
  have HN := hid hn
  clear hn
  go_enter Tryz.func73, Tryz.ntmps73
  go_wp2
  go_loopw [5] (fun i wr => ∃ k : Nat, k ≤ n ∧ i = .int .i64 k ∧ Below w.heap.size w wr) (fun i _ => n - (intOf i).toNat)
  case atStart => exact ⟨0, Nat.zero_le _, rfl, Below.refl _ _⟩
  case round =>
    obtain ⟨k, hk, rfl, hnx⟩ := hrel
    have HX := hid hnx
    by_cases hlt : k < n
    · rcases hr with hr | ⟨b, off, rfl, hbl, hc⟩
      · exact absurd HN.out (by rw [hr]; simp; omega)
      rcases hr' with hr | ⟨b', off', rfl, hbl', hc'⟩
      · exact absurd HN.out (by rw [hr]; simp; omega)
      have d0 := (hnx.cell (p := ⟨b, off + k, none⟩) hbl).trans (hc k (by rw [HN.out]; exact hlt))
      have d0' := (hnx.cell (p := ⟨b', off' + k, none⟩) hbl').trans (hc' k (by rw [HN.out]; exact hlt))
      have i1 : (k : Int) < (n : Int) := by omega
      clear hc hc' hnx
      generalize ss.getD k ByteArray.empty = s at *
      go_wp2
      go_quiet (fail)
      go_wp2
      go_roundw
      case rel => exact ⟨k + 1, by omega, by go_num, below_drewN HX.out _⟩
      case measure => simp [intOf]; omega
    · go_wp2
      go_ret
      exact ⟨rfl, HX.out⟩

end Go.Proofs.YtbdlahhejfamhaaGreatDoor.Fil
