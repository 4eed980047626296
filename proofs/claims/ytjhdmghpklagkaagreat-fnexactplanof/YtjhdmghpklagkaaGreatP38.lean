import Derived.Test.YtjhdmghpklagkaaGreatRows
import Derived.WalkKit
import Derived.ProofKit
import Derived.Handy
import Derived.BigQuiet
import Derived.Deep.QuietTactic
import Derived.OpenShut
import Derived.Deep.Onto
import Derived.ChangeOld
import Derived.Below
import Derived.WalkSmall
import Derived.Deep.RegionHeld3
import Derived.Deep.CutRange
namespace Go.Proofs.YtjhdmghpklagkaaGreat.Ino
open Go.ChangeShapes Go.WideShapes Go.ChangeAt Go.RowKit

theorem info3 : (Tryz.prog.info? 3).map (fun i => (i.zero, i.size, i.bytes)) = some (some (.int .i64 0), 1, 8) := by kernel_rfl

def Has (w : World) (a : Option Addr) (zs : List Int) : Prop :=
  zs = [] ∨ ∃ b off, a = some ⟨b, off, none⟩ ∧ b < w.heap.size ∧ ∀ i, i < zs.length → w.cell? ⟨b, off + i, none⟩ = some (.int .i64 (zs.getD i 0))

theorem Has.below {w w' : World} {a : Option Addr} {zs : List Int} (h : Has w a zs) (hb : Below w.heap.size w w') : Has w' a zs := by
  rcases h with h | ⟨b, off, h1, h2, h3⟩
  · exact .inl h
  · exact .inr ⟨b, off, h1, Nat.lt_of_lt_of_le h2 hb.size, fun i hi => (hb.cell (by exact h2)).trans (h3 i hi)⟩

theorem Has.own {w : World} {base g n c : Nat} {zs : List Int} (h : w.ownsRow base 3 1 (.slice (some ⟨g, 0, none⟩) n c) n (zs.map (Value.int .i64))) : Has w (some ⟨g, 0, none⟩) zs := by
  have hl := h.lt g rfl
  have hlen : zs.length = n := by have := h.1; simpa using this
  refine .inr ⟨g, 0, rfl, hl.2, fun i hi => ?_⟩
  have := h.cellAt i (by omega)
  rw [Nat.zero_add, this, List.getElem?_map, List.getElem?_eq_getElem hi]
  simp [hi]

theorem set_step (zs : List Int) (n k : Nat) (hn : zs.length = n) (hk : k < n) :
    ((zs.take k).map (Value.int .i64) ++ List.replicate (n - k) (Value.int .i64 0)).set k (Value.int .i64 (zs.getD k 0)) = (zs.take (k + 1)).map (Value.int .i64) ++ List.replicate (n - (k + 1)) (Value.int .i64 0) := by
  have hkz : k < zs.length := by omega
  have e1 : n - k = (n - (k + 1)) + 1 := by omega
  rw [List.set_append_right _ _ (by simp; omega), List.take_succ_eq_append_getElem hkz, e1, List.replicate_succ, List.map_append, List.append_assoc]
  simp [hkz, List.length_take, Nat.min_eq_left (Nat.le_of_lt hkz)]

theorem set_old (zs : List Int) (n k : Nat) (hn : zs.length = n) (hk : k < n) :
    ((zs.take k).map (Value.int .i64) ++ List.replicate (n - k) (Value.int .i64 0))[k]? = some (Value.int .i64 0) := by
  have hkz : k < zs.length := by omega
  rw [List.getElem?_append_right (by simp; omega), List.getElem?_replicate, if_pos (by simp; omega)]

theorem f11 (a a' : Option Addr) (n n' c c' : Nat) (zs : List Int) (w : World) (hn : zs.length = n) (hn' : n' = n) (hb : n ≤ 1048576) (hr : Has w a zs) (hr' : Has w a' zs) :
    Calls Tryz.prog 11 #[.slice a n c, .slice a' n' c'] w fun e w' => e = .returned (.bool true) ∧ ∃ q, w' = w.drewN q := by
  subst hn'
  have HN : Hid (zs.length = n') := hn
  clear hn
  have hne : ((n' : Int) != (n' : Int)) = false := by simp
  go_enter Tryz.func11, Tryz.ntmps11
  go_wp2
  go_loopw [5] (fun i wr => ∃ k : Nat, k ≤ n' ∧ i = .int .i64 k ∧ ∃ q, wr = w.drewN q) (fun i _ => n' - (intOf i).toNat)
  case atStart => exact ⟨0, Nat.zero_le _, rfl, 0, rfl⟩
  case round =>
    obtain ⟨k, hk, rfl, q, rfl⟩ := hrel
    by_cases hlt : k < n'
    · rcases hr with hr | ⟨b, off, rfl, hbl, hc⟩
      · exact absurd HN.out (by rw [hr]; simp; omega)
      · rcases hr' with hr' | ⟨b', off', rfl, hbl', hc'⟩
        · exact absurd HN.out (by rw [hr']; simp; omega)
        · have h1 : w.cell? ⟨b, off + k, none⟩ = some (.int .i64 (zs.getD k 0)) := hc k (by rw [HN.out]; exact hlt)
          have h2 : w.cell? ⟨b', off' + k, none⟩ = some (.int .i64 (zs.getD k 0)) := hc' k (by rw [HN.out]; exact hlt)
          have hd : (zs.getD k 0 != zs.getD k 0) = false := by simp
          clear hc hc'
          go_wp2
          go_quiet (fail)
          go_wp2
          go_roundw
          case rel => exact ⟨k + 1, by omega, by go_num, _, rfl⟩
          case measure => simp [intOf]; omega
    · go_wp2
      go_ret
      exact ⟨rfl, q, rfl⟩

def mark (k : Int) (i : Nat) : Int := k + (i : Int)
def marks (k : Int) (n : Nat) : List Int := (List.range n).map (mark k)
theorem marks_len (k : Int) (n : Nat) : (marks k n).length = n := by simp [marks]
theorem marks_get (k : Int) (n i : Nat) (h : i < n) : (marks k n).getD i 0 = mark k i := by simp [marks, h]

theorem mark_step (k : Int) (xs : List Int) (n i : Nat) (hn : xs.length = n) (hi : i < n) :
    ((marks k i).map (Value.int .i64) ++ (xs.drop i).map (Value.int .i64)).set i (Value.int .i64 (mark k i)) = (marks k (i + 1)).map (Value.int .i64) ++ (xs.drop (i + 1)).map (Value.int .i64) := by
  have hx : i < xs.length := by omega
  have e : (marks k (i + 1)).map (Value.int .i64) = (marks k i).map (Value.int .i64) ++ [Value.int .i64 (mark k i)] := by simp [marks, List.range_succ]
  rw [List.set_append_right _ _ (by simp [marks_len]), List.drop_eq_getElem_cons hx, e, List.map_cons, List.append_assoc, List.length_map, marks_len, Nat.sub_self, List.set_cons_zero]
  rfl

theorem mark_old (k : Int) (xs : List Int) (n i : Nat) (hn : xs.length = n) (hi : i < n) :
    ∃ u, ((marks k i).map (Value.int .i64) ++ (xs.drop i).map (Value.int .i64))[i]? = some u :=
  ⟨_, List.getElem?_eq_getElem (by simp [marks_len]; omega)⟩

theorem grownBy_refl (w : World) (r : Option Nat) : w.grownBy w r := ⟨rfl, rfl, rfl, Nat.le_refl _, fun _ _ _ => rfl⟩
theorem grownBy_trans {a b c : World} {r : Option Nat} (h : a.grownBy b r) (k : b.grownBy c r) : a.grownBy c r :=
  ⟨k.os.trans h.os, k.tape.trans h.tape, k.output.trans h.output, Nat.le_trans h.size k.size, fun i hi hne => (k.block i (Nat.lt_of_lt_of_le hi h.size) hne).trans (h.block i hi hne)⟩

set_option maxHeartbeats 400000 in
theorem f14 (g n c base : Nat) (k : Int) (xs : List Int) (w : World) (hk : 0 ≤ k) (hk' : k ≤ 2000000000) (hb : n ≤ 1048576) (hown : w.ownsRow base 3 1 (.slice (some ⟨g, 0, none⟩) n c) n (xs.map (Value.int .i64))) :
    Calls Tryz.prog 14 #[.slice (some ⟨g, 0, none⟩) n c, .int .i64 k] w fun e w' => e = .returned (.int .i64 (k + n)) ∧
      w'.ownsRow base 3 1 (.slice (some ⟨g, 0, none⟩) n c) n ((marks k n).map (Value.int .i64)) ∧ w.grownBy w' (some g) := by
  have HN : Hid (xs.length = n) := by have h := hown.1; rw [List.length_map, Nat.mul_one] at h; exact h
  go_enter Tryz.func14, Tryz.ntmps14
  go_wp2
  go_loopw [1, 5] (fun kk i wr => ∃ j : Nat, j ≤ n ∧ i = .int .i64 j ∧ kk = .int .i64 (k + j) ∧ wr.ownsRow base 3 1 (.slice (some ⟨g, 0, none⟩) n c) n ((marks k j).map (Value.int .i64) ++ (xs.drop j).map (Value.int .i64)) ∧ w.grownBy wr (some g))
    (fun _ i _ => n - (intOf i).toNat)
  case atStart => exact ⟨0, Nat.zero_le _, rfl, by go_num, by simpa [marks] using hown, grownBy_refl _ _⟩
  case round =>
    obtain ⟨j, hj, rfl, rfl, hownj, hg⟩ := hrel
    clear hown
    by_cases hlt : j < n
    · obtain ⟨u, hu⟩ := mark_old k xs n j HN.out hlt
      have hce := (hownj.cellAt j (by omega)).trans hu
      have hfz := hownj.frozenAt j
      have HS : Hid _ := hownj.stored j (.int .i64 (mark k j))
      have hw8 : Hid (k + (j : Int) = mark k j) := rfl
      clear hownj hu
      go_wp2
      go_roundw
      case rel =>
        have hst := HS.out
        rw [mark_step k xs n j HN.out hlt] at hst
        exact ⟨j + 1, by omega, by go_num, by go_num, hst.1, grownBy_trans hg hst.2⟩
      case measure => simp [intOf]; omega
    · go_wp2
      go_ret
      have : j = n := by omega
      subst this
      refine ⟨rfl, ?_, hg⟩
      have e := HN.out
      simpa [← e] using hownj

theorem f15 (g n c : Nat) (k : Int) (w : World) (hk : 0 ≤ k) (hk' : k ≤ 2000000000) (hb : n ≤ 1048576) (hr : Has w (some ⟨g, 0, none⟩) (marks k n)) :
    Calls Tryz.prog 15 #[.slice (some ⟨g, 0, none⟩) n c, .int .i64 k] w fun e w' => e = .returned (.int .i64 (k + n)) ∧ ∃ q, w' = w.drewN q := by
  have HC : Hid (∀ i, i < n → w.cell? ⟨g, i, none⟩ = some (.int .i64 (mark k i))) := by
    intro i hi
    rcases hr with h | ⟨b, off, h1, h2, h3⟩
    · have := congrArg List.length h; simp [marks_len] at this; omega
    · simp only [Option.some.injEq, Addr.mk.injEq, and_true] at h1
      obtain ⟨rfl, rfl⟩ := h1
      have := h3 i (by rw [marks_len]; exact hi)
      rw [marks_get k n i hi, Nat.zero_add] at this
      exact this
  clear hr
  go_enter Tryz.func15, Tryz.ntmps15
  go_wp2
  go_loopw [1, 5] (fun kk i wr => ∃ j : Nat, j ≤ n ∧ i = .int .i64 j ∧ kk = .int .i64 (k + j) ∧ ∃ q, wr = w.drewN q) (fun _ i _ => n - (intOf i).toNat)
  case atStart => exact ⟨0, Nat.zero_le _, rfl, by go_num, 0, rfl⟩
  case round =>
    obtain ⟨j, hj, rfl, rfl, q, rfl⟩ := hrel
    by_cases hlt : j < n
    · have hc := HC.out j hlt
      have hw8 : Hid (k + (j : Int) = mark k j) := rfl
      have hd : (mark k j != k + (j : Int)) = false := by unfold mark; simp
      go_wp2
      go_roundw
      case rel => exact ⟨j + 1, by omega, by go_num, by go_num, _, rfl⟩
      case measure => simp [intOf]; omega
    · go_wp2
      go_ret
      have : j = n := by omega
      subst this
      exact ⟨rfl, q, rfl⟩

theorem hid {p : Prop} (h : p) : Hid p := h
theorem below_drewN {B : Nat} {a w : World} (h : Below B a w) (q : Nat) : Below B a (w.drewN q) := ⟨h.os, h.tape, h.output, h.size, h.block⟩
def Own (w : World) (base : Nat) (v : Value) (L : List Int) : Prop := w.ownsRow base 3 1 v L.length (L.map (Value.int .i64))
theorem Own.nil (w : World) (base : Nat) : Own w base (.slice none 0 0) [] := World.ownsRow_nil w base 3 1
theorem Own.form {w : World} {base : Nat} {v : Value} {L : List Int} (h : Own w base v L) : (L = [] ∧ v = .slice none 0 0) ∨ ∃ g c, v = .slice (some ⟨g, 0, none⟩) L.length c := by
  rcases h.2 with ⟨h1, h2⟩ | ⟨g, cap, cur, h1, _⟩
  · exact .inl ⟨List.eq_nil_of_length_eq_zero h2, h1⟩
  · exact .inr ⟨g, cap, h1⟩
theorem Own.has {w : World} {base : Nat} {a : Option Addr} {n c : Nat} {L : List Int} (h : Own w base (.slice a n c) L) : n = L.length ∧ Has w a L := by
  rcases h.form with ⟨rfl, h1⟩ | ⟨g, c', h1⟩
  · simp only [Value.slice.injEq] at h1
    exact ⟨h1.2.1, .inl rfl⟩
  · simp only [Value.slice.injEq] at h1
    obtain ⟨rfl, rfl, rfl⟩ := h1
    exact ⟨rfl, Has.own h⟩
theorem Own.below {w w' : World} {base : Nat} {v : Value} {L : List Int} (h : Own w base v L) (hb : Below w.heap.size w w') : Own w' base v L :=
  World.ownsRow.kept (row := none) h ⟨hb.os, hb.tape, hb.output, hb.size, fun i hi _ => hb.block i hi⟩ (by cases hv : v.ownBlock <;> simp)
theorem Own.lt {w : World} {base : Nat} {v : Value} {L : List Int} (h : Own w base v L) : ∀ k, v.ownBlock = some k → base ≤ k ∧ k < w.heap.size := World.ownsRow.lt h
theorem Own.mono {w : World} {base base' : Nat} {v : Value} {L : List Int} (h : Own w base v L) (hb : base' ≤ base) : Own w base' v L := World.ownsRow.mono h hb
theorem eqO {w : World} {b b' : Nat} {v v' : Value} {L : List Int} (hb : L.length ≤ 1048576) (h : Own w b v L) (h' : Own w b' v' L) :
    Calls Tryz.prog 11 #[v, v'] w fun e w' => e = .returned (.bool true) ∧ ∃ q, w' = w.drewN q := by
  obtain ⟨a, c, rfl⟩ : ∃ a c, v = .slice a L.length c := by
    rcases h.form with ⟨rfl, rfl⟩ | ⟨g, c, rfl⟩
    · exact ⟨none, 0, rfl⟩
    · exact ⟨_, _, rfl⟩
  obtain ⟨a', c', rfl⟩ : ∃ a c, v' = .slice a L.length c := by
    rcases h'.form with ⟨rfl, rfl⟩ | ⟨g, c, rfl⟩
    · exact ⟨none, 0, rfl⟩
    · exact ⟨_, _, rfl⟩
  exact f11 a a' _ _ c c' L w rfl rfl (by omega) h.has.2 h'.has.2

theorem f14n (k : Int) (w : World) : Calls Tryz.prog 14 #[.slice none 0 0, .int .i64 k] w fun e w' => e = .returned (.int .i64 k) ∧ w' = w := by
  go_enter Tryz.func14, Tryz.ntmps14
  go_wp2
  go_rounds 1
  go_ret
  exact ⟨rfl, rfl⟩
theorem f15n (k : Int) (w : World) : Calls Tryz.prog 15 #[.slice none 0 0, .int .i64 k] w fun e w' => e = .returned (.int .i64 k) ∧ w' = w := by
  go_enter Tryz.func15, Tryz.ntmps15
  go_wp2
  go_rounds 1
  go_ret
  exact ⟨rfl, rfl⟩

theorem markO {w : World} {base : Nat} {v : Value} {L : List Int} (k : Int) (hk : 0 ≤ k) (hk' : k ≤ 2000000000) (hb : L.length ≤ 1048576) (h : Own w base v L) :
    Calls Tryz.prog 14 #[v, .int .i64 k] w fun e w' => e = .returned (.int .i64 (k + (L.length : Int))) ∧ Own w' base v (marks k L.length) ∧ w.grownBy w' v.ownBlock := by
  rcases h.form with ⟨rfl, rfl⟩ | ⟨g, c, rfl⟩
  · refine (f14n k w).mono ?_
    rintro e w' ⟨rfl, rfl⟩
    exact ⟨by simp, Own.nil _ _, grownBy_refl _ _⟩
  · refine (f14 g L.length c base k L w hk hk' (by omega) h).mono ?_
    rintro e w' ⟨rfl, ho, hg⟩
    exact ⟨rfl, by unfold Own; rw [marks_len]; exact ho, hg⟩
theorem heldO {w : World} {base n : Nat} {v : Value} (k : Int) (hk : 0 ≤ k) (hk' : k ≤ 2000000000) (hb : n ≤ 1048576) (h : Own w base v (marks k n)) :
    Calls Tryz.prog 15 #[v, .int .i64 k] w fun e w' => e = .returned (.int .i64 (k + (n : Int))) ∧ ∃ q, w' = w.drewN q := by
  rcases h.form with ⟨hn, rfl⟩ | ⟨g, c, rfl⟩
  · have e0 : n = 0 := by have := congrArg List.length hn; simpa [marks_len] using this
    subst e0
    refine (f15n k w).mono ?_
    rintro e w' ⟨rfl, rfl⟩
    exact ⟨by simp, 0, rfl⟩
  · rw [marks_len] at h ⊢
    exact f15 g n c k w hk hk' (by omega) h.has.2
end Go.Proofs.YtjhdmghpklagkaaGreat.Ino
namespace Go.Proofs.YtjhdmghpklagkaaGreat.Ino
open Go.RowKit

def cmpI (x y : Int) : Int := if x < y then -1 else if y < x then 1 else 0

end Go.Proofs.YtjhdmghpklagkaaGreat.Ino
namespace Go.Proofs.YtjhdmghpklagkaaGreat.Ino
open Go.RowKit

def ch (K : Bool → Bool → Bool) : List Int → List Int → List Int
  | [], [] => []
  | x :: s, [] => (if K true false then [x] else []) ++ ch K s []
  | [], y :: o => (if K false true then [y] else []) ++ ch K [] o
  | x :: s, y :: o =>
    if x < y then (if K true false then [x] else []) ++ ch K s (y :: o)
    else if y < x then (if K false true then [y] else []) ++ ch K (x :: s) o
    else (if K true true then [x] else []) ++ ch K s o
  termination_by s o => s.length + o.length
def mine (s o : List Int) : Bool := o.isEmpty || (!s.isEmpty && decide (s.headD 0 ≤ o.headD 0))
def others (s o : List Int) : Bool := s.isEmpty || (!o.isEmpty && decide (o.headD 0 ≤ s.headD 0))

theorem ch_step (K : Bool → Bool → Bool) (s o : List Int) (h : 0 < s.length + o.length) :
    (∃ x s' o', mine s o = true ∧ others s o = true ∧ s = x :: s' ∧ o = x :: o' ∧ ch K s o = (if K true true then [x] else []) ++ ch K s' o') ∨
    (∃ x s', mine s o = true ∧ others s o = false ∧ s = x :: s' ∧ ch K s o = (if K true false then [x] else []) ++ ch K s' o) ∨
    (∃ x o', mine s o = false ∧ others s o = true ∧ o = x :: o' ∧ ch K s o = (if K false true then [x] else []) ++ ch K s o') := by
  rcases s with _ | ⟨x, s⟩
  · rcases o with _ | ⟨y, o⟩
    · simp at h
    · exact .inr (.inr ⟨y, o, by simp [mine], by simp [others], rfl, by rw [ch]⟩)
  · rcases o with _ | ⟨y, o⟩
    · exact .inr (.inl ⟨x, s, by simp [mine], by simp [others], rfl, by rw [ch]⟩)
    · rcases Int.lt_trichotomy x y with h1 | h1 | h1
      · exact .inr (.inl ⟨x, s, by simp [mine]; omega, by simp [others]; omega, rfl, by rw [ch, if_pos h1]⟩)
      · subst h1
        exact .inl ⟨x, s, o, by simp [mine], by simp [others], rfl, rfl, by rw [ch, if_neg (by omega), if_neg (by omega)]⟩
      · exact .inr (.inr ⟨y, o, by simp [mine]; omega, by simp [others]; omega, rfl, by rw [ch, if_neg (by omega), if_pos h1]⟩)
theorem ch_nil (K : Bool → Bool → Bool) : ch K [] [] = [] := by rw [ch]

theorem Has.head {w : World} {a : Option Addr} {x : Int} {s : List Int} (h : Has w a (x :: s)) :
    ∃ b off, a = some ⟨b, off, none⟩ ∧ b < w.heap.size ∧ w.cell? ⟨b, off, none⟩ = some (.int .i64 x) ∧ Has w (some ⟨b, off + 1, none⟩) s := by
  rcases h with h | ⟨b, off, h1, h2, h3⟩
  · cases h
  · refine ⟨b, off, h1, h2, by simpa using h3 0 (by simp), .inr ⟨b, off + 1, rfl, h2, fun i hi => ?_⟩⟩
    have := h3 (i + 1) (by simp; omega)
    rw [Nat.add_assoc, Nat.add_comm 1 i, this]
    simp
theorem Has.nil {w : World} {a : Option Addr} : Has w a [] := .inl rfl
theorem own_form {w : World} {base n : Nat} {v : Value} {L : List Int} (h : w.ownsRow base 3 1 v n (L.map (Value.int .i64))) : ∃ a c, v = .slice a n c := by
  rcases h.2 with ⟨h1, h2⟩ | ⟨g, cap, cur, h1, _⟩
  · exact ⟨none, 0, by rw [h1, h2]⟩
  · exact ⟨_, _, h1⟩

def lenV : Value → Nat | .slice _ n _ => n | _ => 0
theorem one_row (w : World) (x : Value) (t : TypeId) : ∀ j u, [x][j]? = some u → (w.alloc (.cells #[x] t)).cell? ((⟨w.heap.size, 0, none⟩ : Addr).add j) = some u := by
  intro j u hj
  have h := heap_alloc_new w (.cells #[x] t)
  match j, hj with
  | 0, hj =>
    simp at hj; subst hj
    have : (⟨w.heap.size, 0, none⟩ : Addr).add 0 = ⟨w.heap.size, 0, none⟩ := by simp [Addr.add]
    rw [this]
    unfold World.cell?
    simp only [h]
    rfl
  | j + 1, hj => simp at hj
def Now (w : World) (a : Option Addr) (c : Nat) (L : List Int) (x : World) : Prop := Own x w.heap.size (.slice a L.length c) L ∧ Below w.heap.size w x
theorem Now.below {w x y : World} {a : Option Addr} {c : Nat} {L : List Int} (h : Now w a c L x) (hb : Below x.heap.size x y) : Now w a c L y :=
  ⟨h.1.below hb, h.2.trans (hb.mono h.2.size)⟩
theorem Now.app {w x y : World} {a a' : Option Addr} {c c' : Nat} {L : List Int} {z : Int} (h : Now w a c L x) (hg : x.grownBy y (Value.slice a L.length c).ownBlock) (ho : y.ownsRow w.heap.size 3 1 (.slice a' (L.length + 1) c') (L.length + 1) ((L.map (Value.int .i64)) ++ [.int .i64 z])) :
    Now w a' c' (L ++ [z]) y := by
  refine ⟨?_, h.2.grown hg h.2.size (fun k hk => (h.1.lt k hk).1)⟩
  unfold Own
  rw [List.length_append, List.map_append]
  exact ho

def kAnd : Bool → Bool → Bool := fun m q => m && q
theorem f182 (m q : Bool) (w : World) : Calls Tryz.prog 182 #[.bool m, .bool q] w fun e w' => e = .returned (.bool (kAnd m q)) ∧ w' = w := by
  cases m <;> cases q
  all_goals
    go_enter Tryz.func182, Tryz.ntmps182
    go_wp2
    go_ret
    exact ⟨rfl, rfl⟩
set_option maxRecDepth 100000 in
set_option maxHeartbeats 4000000 in
theorem choose_and (a a' : Option Addr) (c c' : Nat) (s0 o0 : List Int) (w : World) (hb : s0.length ≤ 1048576) (hb' : o0.length ≤ 1048576) (hc : s0.length ≤ c) (hc' : o0.length ≤ c') (hr : Has w a s0) (hr' : Has w a' o0) :
    Calls Tryz.prog 181 #[.slice a s0.length c, .slice a' o0.length c', .func (.func 182) #[] #[]] w fun e w' => ∃ v, e = .returned v ∧ Own w' w.heap.size v (ch kAnd s0 o0) ∧ Below w.heap.size w w' := by
  obtain ⟨i0, hi, hz0, hz1, hz2⟩ := info_parts info3
  have HK := hid f182
  have HR := hid hr
  have HR' := hid hr'
  have HC := hid hc
  have HC' := hid hc'
  generalize hS : s0.length = n at *
  generalize hO : o0.length = n' at *
  have HS := hid hS
  have HO := hid hO
  clear hr hr' hS hO hc hc'
  go_enter Tryz.func181, Tryz.ntmps181
  go_wp2_with (at_make; refine wpList_make_own _ rfl _ _ 148 rfl w.heap.size 3 i0 (.int .i64 0) 1 Tryz.underlying148 hi hz0 hz1 _ _ _ (n + n') rfl rfl (by omega) ?b2 ?b3 (Nat.le_refl _) ?_)
  case b2 => rw [hz2]; omega
  case b3 => unfold maxLen; omega
  intro w0 hown0 hgrow0
  have H0 : Hid (Now w (some ⟨w.heap.size, 0, none⟩) (n + n') [] w0) := ⟨by simpa [Own] using hown0, (Below.refl _ _).grown hgrow0 (Nat.le_refl _) (fun k h => by cases h)⟩
  clear hown0 hgrow0
  go_wp2
  go_loopw [0, 1, 7] (fun v0 v1 v7 wr => ∃ (s o L : List Int) (m m' d d' c7 : Nat) (b b' a7 : Option Addr), v0 = .slice b m d ∧ v1 = .slice b' m' d' ∧ v7 = .slice a7 L.length c7 ∧ Hid (s.length = m) ∧ Hid (o.length = m') ∧ m ≤ d ∧ m' ≤ d' ∧ L.length + m + m' ≤ n + n' ∧ Hid (Has w b s) ∧ Hid (Has w b' o) ∧ Hid (L ++ ch kAnd s o = ch kAnd s0 o0) ∧ Hid (Now w a7 c7 L wr))
    (fun v0 v1 _ _ => lenV v0 + lenV v1)
  case atStart => exact ⟨s0, o0, [], n, n', c, c', _, a, a', _, rfl, rfl, rfl, HS, HO, HC.out, HC'.out, by simp, HR, HR', by unfold Hid; simp, H0⟩
  case round =>
    obtain ⟨s, o, L, m, m', d, d', c7, b, b', a7, rfl, rfl, rfl, HM, HM', hd, hd', hN, HB, HB', HE, HW⟩ := hrel
    by_cases hz : m + m' = 0
    · obtain rfl : m = 0 := by omega
      obtain rfl : m' = 0 := by omega
      have es := hid (List.eq_nil_of_length_eq_zero HM.out)
      have eo := hid (List.eq_nil_of_length_eq_zero HM'.out)
      go_wp2
      go_ret
      refine ⟨_, rfl, ?_, HW.out.2⟩
      have := HE.out
      rw [es.out, eo.out, ch_nil, List.append_nil] at this
      rw [← this]
      exact HW.out.1
    · have hz' : (m : Int) + (m' : Int) > 0 := by omega
      obtain ⟨mi, hmi⟩ : ∃ x, mine s o = x := ⟨_, rfl⟩
      have HMI := hid hmi
      clear hmi
      obtain ⟨ot, hot⟩ : ∃ x, others s o = x := ⟨_, rfl⟩
      have HOT := hid hot
      clear hot
      go_upto_region 3 with fail
      go_cut [8] from 23 to 39 (fun v8 wx => v8 = .bool mi ∧ Hid (Now w a7 c7 L wx))
      case first =>
        rename_i J1 K1 hJ1 hK1
        rcases s with _ | ⟨x, s'⟩
        · rcases o with _ | ⟨y, o'⟩
          · exact absurd HM.out (by have := HM'.out; simp at this ⊢; omega)
          · obtain rfl : m = 0 := by have := HM.out; simpa using this.symm
            have e1 := hid (HMI.out.symm.trans (show mine [] (y :: o') = false by simp [mine]))
            have hm1 : 0 < m' := by omega
            have hm2 : ((m' : Int) == 0) = false := by rw [beq_eq_false_iff_ne]; omega
            go_wp2
            go_quiet (fail)
            refine hK1 _ _ (Met.intro (hJ1 _ _ ?_))
            (repeat apply Exists.intro)
            refine ⟨?_, rfl⟩
            exact ⟨by rw [e1.out], HW.out.below (below_drewN (Below.refl _ _) _)⟩
        · have hm1 : 0 < m := by have := HM.out; simp at this; omega
          have hm2 : ((m : Int) == 0) = false := by rw [beq_eq_false_iff_ne]; omega
          rcases o with _ | ⟨y, o'⟩
          · obtain rfl : m' = 0 := by have := HM'.out; simpa using this.symm
            have e1 := hid (HMI.out.symm.trans (show mine (x :: s') [] = true by simp [mine]))
            go_wp2
            go_quiet (fail)
            refine hK1 _ _ (Met.intro (hJ1 _ _ ?_))
            (repeat apply Exists.intro)
            refine ⟨?_, rfl⟩
            exact ⟨by rw [e1.out], HW.out.below (below_drewN (Below.refl _ _) _)⟩
          · have hm3 : 0 < m' := by have := HM'.out; simp at this; omega
            have hm4 : ((m' : Int) == 0) = false := by rw [beq_eq_false_iff_ne]; omega
            obtain ⟨bb, off, rfl, hbl, hcl, _⟩ := HB.out.head
            obtain ⟨bb', off', rfl, hbl', hcl', _⟩ := HB'.out.head
            have k1 := (HW.out.2.cell (p := ⟨bb, off, none⟩) hbl).trans hcl
            have k2 := (HW.out.2.cell (p := ⟨bb', off', none⟩) hbl').trans hcl'
            clear hcl hcl'
            have e1 := hid (HMI.out.symm.trans (show mine (x :: s') (y :: o') = decide (x ≤ y) by simp [mine]))
            go_wp2
            go_quiet (fail)
            refine hK1 _ _ (Met.intro (hJ1 _ _ ?_))
            (repeat apply Exists.intro)
            refine ⟨?_, rfl⟩
            exact ⟨by rw [e1.out], HW.out.below (below_drewN (Below.refl _ _) _)⟩
      case rest =>
      obtain ⟨rfl, HW3⟩ := hcut
      clear HW
      go_upto_region 4 with fail
      go_cut [9] from 40 to 56 (fun v9 wx => v9 = .bool ot ∧ Hid (Now w a7 c7 L wx))
      case first =>
        rename_i J1 K1 hJ1 hK1
        rcases s with _ | ⟨x, s'⟩
        · rcases o with _ | ⟨y, o'⟩
          · exact absurd HM.out (by have := HM'.out; simp at this ⊢; omega)
          · obtain rfl : m = 0 := by have := HM.out; simpa using this.symm
            have e1 := hid (HOT.out.symm.trans (show others [] (y :: o') = true by simp [others]))
            have hm1 : 0 < m' := by omega
            have hm2 : ((m' : Int) == 0) = false := by rw [beq_eq_false_iff_ne]; omega
            go_wp2
            go_quiet (fail)
            refine hK1 _ _ (Met.intro (hJ1 _ _ ?_))
            (repeat apply Exists.intro)
            refine ⟨?_, rfl⟩
            exact ⟨by rw [e1.out], HW3.out.below (below_drewN (Below.refl _ _) _)⟩
        · have hm1 : 0 < m := by have := HM.out; simp at this; omega
          have hm2 : ((m : Int) == 0) = false := by rw [beq_eq_false_iff_ne]; omega
          rcases o with _ | ⟨y, o'⟩
          · obtain rfl : m' = 0 := by have := HM'.out; simpa using this.symm
            have e1 := hid (HOT.out.symm.trans (show others (x :: s') [] = false by simp [others]))
            go_wp2
            go_quiet (fail)
            refine hK1 _ _ (Met.intro (hJ1 _ _ ?_))
            (repeat apply Exists.intro)
            refine ⟨?_, rfl⟩
            exact ⟨by rw [e1.out], HW3.out.below (below_drewN (Below.refl _ _) _)⟩
          · have hm3 : 0 < m' := by have := HM'.out; simp at this; omega
            have hm4 : ((m' : Int) == 0) = false := by rw [beq_eq_false_iff_ne]; omega
            obtain ⟨bb, off, rfl, hbl, hcl, _⟩ := HB.out.head
            obtain ⟨bb', off', rfl, hbl', hcl', _⟩ := HB'.out.head
            have k1 := (HW3.out.2.cell (p := ⟨bb, off, none⟩) hbl).trans hcl
            have k2 := (HW3.out.2.cell (p := ⟨bb', off', none⟩) hbl').trans hcl'
            clear hcl hcl'
            have e1 := hid (HOT.out.symm.trans (show others (x :: s') (y :: o') = decide (y ≤ x) by simp [others]))
            go_wp2
            go_quiet (fail)
            refine hK1 _ _ (Met.intro (hJ1 _ _ ?_))
            (repeat apply Exists.intro)
            refine ⟨?_, rfl⟩
            exact ⟨by rw [e1.out], HW3.out.below (below_drewN (Below.refl _ _) _)⟩
      case rest =>
      obtain ⟨rfl, HW4⟩ := hcut
      clear HW3
      rcases ch_step kAnd s o (by rw [HM.out, HM'.out]; omega) with ⟨x, s', o', e1, e2, rfl, rfl, e3⟩ | ⟨x, s', e1, e2, rfl, e3⟩ | ⟨x, o', e1, e2, rfl, e3⟩
      · obtain rfl := HMI.out.symm.trans e1
        obtain rfl := HOT.out.symm.trans e2
        have E3 := hid e3
        clear e1 e2 e3
        obtain ⟨bb, off, rfl, hbl, hcl, ht⟩ := HB.out.head
        have HT := hid ht
        have hm1 : 0 < m := by have := HM.out; simp at this; omega
        have HM1 : Hid (s'.length = m - 1) := by have := HM.out; unfold Hid; simp at this; omega
        obtain ⟨bb', off', rfl, hbl', hcl', ht'⟩ := HB'.out.head
        have HT' := hid ht'
        have hm1' : 0 < m' := by have := HM'.out; simp at this; omega
        have HM1' : Hid (o'.length = m' - 1) := by have := HM'.out; unfold Hid; simp at this; omega
        obtain ⟨L2, hL2⟩ : ∃ L2, L2 = L ++ (if kAnd true true then [x] else []) := ⟨_, rfl⟩
        have HL2 := hid hL2
        have hl2 : L2.length ≤ L.length + 1 := by rw [hL2]; split <;> simp
        clear hL2 ht ht'
        go_upto_if 64 with (refine (HK.out true true _).mono ?_; rintro e w5 ⟨rfl, rfl⟩)
        go_cut [7] from 57 to 70 (fun v7 wx => ∃ a8 c8, v7 = .slice a8 L2.length c8 ∧ Hid (Now w a8 c8 L2 wx))
        case first =>
          cases hKK : kAnd true true
          · have e5 : Hid (L2 = L) := by unfold Hid; rw [HL2.out, hKK]; simp
            go_wp2
            go_meet
            exact ⟨a7, c7, by rw [e5.out], by rw [e5.out]; exact HW4⟩
          · have e5 : Hid (L2 = L ++ [x]) := by unfold Hid; rw [HL2.out, hKK]; simp
            have e6 : Hid (L2.length = L.length + 1) := by unfold Hid; rw [e5.out]; simp
            clear hKK
            have k1 := (HW4.out.2.cell (p := ⟨bb, off, none⟩) hbl).trans hcl
            have HA := hid (HW4.out.below ((Below.refl _ w5).alloc (Nat.le_refl _) (.cells #[.int .i64 x] 3)))
            go_wp2_with (at_builtin; refine wpList_append_own _ rfl (.tmp 65) (.tmp 69) 148 rfl w.heap.size 3 i0 (.int .i64 0) 1 8 Tryz.underlying148 hi hz0 hz1 hz2 rfl (by decide) _ _ _ rfl HA.out.1 ⟨w5.heap.size, 0, none⟩ 1 1 [.int .i64 x] rfl rfl ?d1 ?d2 ?d3 ?d4 ?d5 ?_)
            case d1 => intro j u hj; exact one_row _ _ _ j u hj
            case d2 => intro u hu; simp at hu; subst hu; rfl
            case d3 => unfold maxLen; omega
            case d4 => omega
            case d5 => have h5 := HW4.out.2.size; first | omega | (simp; omega)
            intro v1 w6 hown1 hgr1 _
            obtain ⟨a8, c8, rfl⟩ := own_form (L := L ++ [x]) (by simpa using hown1)
            have HN6 := hid (HA.out.app hgr1 hown1)
            clear hown1 hgr1 HA
            go_wp2
            go_meet
            exact ⟨a8, c8, by rw [e6.out], by rw [e5.out]; exact HN6⟩
        case rest =>
        obtain ⟨a8, c8, rfl, HW5⟩ := hcut
        clear HW4
        have HE2 : Hid (L2 ++ ch kAnd s' o' = ch kAnd s0 o0) := by have := HE.out; rw [E3.out, ← List.append_assoc, ← HL2.out] at this; exact this
        by_cases hcd : 1 < d
        · have hcd' : (1 : Int) < (d : Int) := by omega
          by_cases hcd2 : 1 < d'
          · have hcd2' : (1 : Int) < (d' : Int) := by omega
            go_wp2
            go_roundw
            case rel => exact ⟨s', o', L2, m - 1, m' - 1, (d - 1), (d' - 1), c8, (some ⟨bb, off + 1, none⟩), (some ⟨bb', off' + 1, none⟩), a8, by go_num, by go_num, rfl, HM1, HM1', by omega, by omega, by omega, HT, HT', HE2, HW5⟩
            case measure => simp [lenV] <;> omega
          · obtain rfl : d' = 1 := by omega
            obtain rfl : m' = 1 := by omega
            have HT3 : Hid (Has w (some ⟨bb', off', none⟩) o') := by have := HM1'.out; rw [List.eq_nil_of_length_eq_zero this]; exact Has.nil
            have HT' := HT3
            go_wp2
            go_roundw
            case rel => exact ⟨s', o', L2, m - 1, 0, (d - 1), 0, c8, (some ⟨bb, off + 1, none⟩), (some ⟨bb', off', none⟩), a8, by go_num, by go_num, rfl, HM1, HM1', by omega, by omega, by omega, HT, HT', HE2, HW5⟩
            case measure => simp [lenV] <;> omega
        · obtain rfl : d = 1 := by omega
          obtain rfl : m = 1 := by omega
          have HT2 : Hid (Has w (some ⟨bb, off, none⟩) s') := by have := HM1.out; rw [List.eq_nil_of_length_eq_zero this]; exact Has.nil
          have HT := HT2
          by_cases hcd2 : 1 < d'
          · have hcd2' : (1 : Int) < (d' : Int) := by omega
            go_wp2
            go_roundw
            case rel => exact ⟨s', o', L2, 0, m' - 1, 0, (d' - 1), c8, (some ⟨bb, off, none⟩), (some ⟨bb', off' + 1, none⟩), a8, by go_num, by go_num, rfl, HM1, HM1', by omega, by omega, by omega, HT, HT', HE2, HW5⟩
            case measure => simp [lenV] <;> omega
          · obtain rfl : d' = 1 := by omega
            obtain rfl : m' = 1 := by omega
            have HT3 : Hid (Has w (some ⟨bb', off', none⟩) o') := by have := HM1'.out; rw [List.eq_nil_of_length_eq_zero this]; exact Has.nil
            have HT' := HT3
            go_wp2
            go_roundw
            case rel => exact ⟨s', o', L2, 0, 0, 0, 0, c8, (some ⟨bb, off, none⟩), (some ⟨bb', off', none⟩), a8, by go_num, by go_num, rfl, HM1, HM1', by omega, by omega, by omega, HT, HT', HE2, HW5⟩
            case measure => simp [lenV] <;> omega
      · obtain rfl := HMI.out.symm.trans e1
        obtain rfl := HOT.out.symm.trans e2
        have E3 := hid e3
        clear e1 e2 e3
        obtain ⟨bb, off, rfl, hbl, hcl, ht⟩ := HB.out.head
        have HT := hid ht
        have hm1 : 0 < m := by have := HM.out; simp at this; omega
        have HM1 : Hid (s'.length = m - 1) := by have := HM.out; unfold Hid; simp at this; omega
        obtain ⟨L2, hL2⟩ : ∃ L2, L2 = L ++ (if kAnd true false then [x] else []) := ⟨_, rfl⟩
        have HL2 := hid hL2
        have hl2 : L2.length ≤ L.length + 1 := by rw [hL2]; split <;> simp
        clear hL2 ht
        go_upto_if 64 with (refine (HK.out true false _).mono ?_; rintro e w5 ⟨rfl, rfl⟩)
        go_cut [7] from 57 to 70 (fun v7 wx => ∃ a8 c8, v7 = .slice a8 L2.length c8 ∧ Hid (Now w a8 c8 L2 wx))
        case first =>
          cases hKK : kAnd true false
          · have e5 : Hid (L2 = L) := by unfold Hid; rw [HL2.out, hKK]; simp
            go_wp2
            go_meet
            exact ⟨a7, c7, by rw [e5.out], by rw [e5.out]; exact HW4⟩
          · have e5 : Hid (L2 = L ++ [x]) := by unfold Hid; rw [HL2.out, hKK]; simp
            have e6 : Hid (L2.length = L.length + 1) := by unfold Hid; rw [e5.out]; simp
            clear hKK
            have k1 := (HW4.out.2.cell (p := ⟨bb, off, none⟩) hbl).trans hcl
            have HA := hid (HW4.out.below ((Below.refl _ w5).alloc (Nat.le_refl _) (.cells #[.int .i64 x] 3)))
            go_wp2_with (at_builtin; refine wpList_append_own _ rfl (.tmp 65) (.tmp 69) 148 rfl w.heap.size 3 i0 (.int .i64 0) 1 8 Tryz.underlying148 hi hz0 hz1 hz2 rfl (by decide) _ _ _ rfl HA.out.1 ⟨w5.heap.size, 0, none⟩ 1 1 [.int .i64 x] rfl rfl ?d1 ?d2 ?d3 ?d4 ?d5 ?_)
            case d1 => intro j u hj; exact one_row _ _ _ j u hj
            case d2 => intro u hu; simp at hu; subst hu; rfl
            case d3 => unfold maxLen; omega
            case d4 => omega
            case d5 => have h5 := HW4.out.2.size; first | omega | (simp; omega)
            intro v1 w6 hown1 hgr1 _
            obtain ⟨a8, c8, rfl⟩ := own_form (L := L ++ [x]) (by simpa using hown1)
            have HN6 := hid (HA.out.app hgr1 hown1)
            clear hown1 hgr1 HA
            go_wp2
            go_meet
            exact ⟨a8, c8, by rw [e6.out], by rw [e5.out]; exact HN6⟩
        case rest =>
        obtain ⟨a8, c8, rfl, HW5⟩ := hcut
        clear HW4
        have HE2 : Hid (L2 ++ ch kAnd s' o = ch kAnd s0 o0) := by have := HE.out; rw [E3.out, ← List.append_assoc, ← HL2.out] at this; exact this
        by_cases hcd : 1 < d
        · have hcd' : (1 : Int) < (d : Int) := by omega
          go_wp2
          go_roundw
          case rel => exact ⟨s', o, L2, m - 1, m', (d - 1), d', c8, (some ⟨bb, off + 1, none⟩), b', a8, by go_num, by go_num, rfl, HM1, HM', by omega, by omega, by omega, HT, HB', HE2, HW5⟩
          case measure => simp [lenV] <;> omega
        · obtain rfl : d = 1 := by omega
          obtain rfl : m = 1 := by omega
          have HT2 : Hid (Has w (some ⟨bb, off, none⟩) s') := by have := HM1.out; rw [List.eq_nil_of_length_eq_zero this]; exact Has.nil
          have HT := HT2
          go_wp2
          go_roundw
          case rel => exact ⟨s', o, L2, 0, m', 0, d', c8, (some ⟨bb, off, none⟩), b', a8, by go_num, by go_num, rfl, HM1, HM', by omega, by omega, by omega, HT, HB', HE2, HW5⟩
          case measure => simp [lenV] <;> omega
      · obtain rfl := HMI.out.symm.trans e1
        obtain rfl := HOT.out.symm.trans e2
        have E3 := hid e3
        clear e1 e2 e3
        obtain ⟨bb', off', rfl, hbl', hcl', ht'⟩ := HB'.out.head
        have HT' := hid ht'
        have hm1' : 0 < m' := by have := HM'.out; simp at this; omega
        have HM1' : Hid (o'.length = m' - 1) := by have := HM'.out; unfold Hid; simp at this; omega
        obtain ⟨L2, hL2⟩ : ∃ L2, L2 = L ++ (if kAnd false true then [x] else []) := ⟨_, rfl⟩
        have HL2 := hid hL2
        have hl2 : L2.length ≤ L.length + 1 := by rw [hL2]; split <;> simp
        clear hL2 ht'
        go_upto_if 64 with (refine (HK.out false true _).mono ?_; rintro e w5 ⟨rfl, rfl⟩)
        go_cut [7] from 57 to 70 (fun v7 wx => ∃ a8 c8, v7 = .slice a8 L2.length c8 ∧ Hid (Now w a8 c8 L2 wx))
        case first =>
          cases hKK : kAnd false true
          · have e5 : Hid (L2 = L) := by unfold Hid; rw [HL2.out, hKK]; simp
            go_wp2
            go_meet
            exact ⟨a7, c7, by rw [e5.out], by rw [e5.out]; exact HW4⟩
          · have e5 : Hid (L2 = L ++ [x]) := by unfold Hid; rw [HL2.out, hKK]; simp
            have e6 : Hid (L2.length = L.length + 1) := by unfold Hid; rw [e5.out]; simp
            clear hKK
            have k1 := (HW4.out.2.cell (p := ⟨bb', off', none⟩) hbl').trans hcl'
            have HA := hid (HW4.out.below ((Below.refl _ w5).alloc (Nat.le_refl _) (.cells #[.int .i64 x] 3)))
            go_wp2_with (at_builtin; refine wpList_append_own _ rfl (.tmp 65) (.tmp 69) 148 rfl w.heap.size 3 i0 (.int .i64 0) 1 8 Tryz.underlying148 hi hz0 hz1 hz2 rfl (by decide) _ _ _ rfl HA.out.1 ⟨w5.heap.size, 0, none⟩ 1 1 [.int .i64 x] rfl rfl ?d1 ?d2 ?d3 ?d4 ?d5 ?_)
            case d1 => intro j u hj; exact one_row _ _ _ j u hj
            case d2 => intro u hu; simp at hu; subst hu; rfl
            case d3 => unfold maxLen; omega
            case d4 => omega
            case d5 => have h5 := HW4.out.2.size; first | omega | (simp; omega)
            intro v1 w6 hown1 hgr1 _
            obtain ⟨a8, c8, rfl⟩ := own_form (L := L ++ [x]) (by simpa using hown1)
            have HN6 := hid (HA.out.app hgr1 hown1)
            clear hown1 hgr1 HA
            go_wp2
            go_meet
            exact ⟨a8, c8, by rw [e6.out], by rw [e5.out]; exact HN6⟩
        case rest =>
        obtain ⟨a8, c8, rfl, HW5⟩ := hcut
        clear HW4
        have HE2 : Hid (L2 ++ ch kAnd s o' = ch kAnd s0 o0) := by have := HE.out; rw [E3.out, ← List.append_assoc, ← HL2.out] at this; exact this
        by_cases hcd2 : 1 < d'
        · have hcd2' : (1 : Int) < (d' : Int) := by omega
          go_wp2
          go_roundw
          case rel => exact ⟨s, o', L2, m, m' - 1, d, (d' - 1), c8, b, (some ⟨bb', off' + 1, none⟩), a8, by go_num, by go_num, rfl, HM, HM1', by omega, by omega, by omega, HB, HT', HE2, HW5⟩
          case measure => simp [lenV] <;> omega
        · obtain rfl : d' = 1 := by omega
          obtain rfl : m' = 1 := by omega
          have HT3 : Hid (Has w (some ⟨bb', off', none⟩) o') := by have := HM1'.out; rw [List.eq_nil_of_length_eq_zero this]; exact Has.nil
          have HT' := HT3
          go_wp2
          go_roundw
          case rel => exact ⟨s, o', L2, m, 0, d, 0, c8, b, (some ⟨bb', off', none⟩), a8, by go_num, by go_num, rfl, HM, HM1', by omega, by omega, by omega, HB, HT', HE2, HW5⟩
          case measure => simp [lenV] <;> omega
end Go.Proofs.YtjhdmghpklagkaaGreat.Ino
