/- Samples between two times: the search for a place, the piece, its copy; the model's. -/
import Derived.Test.YtaekngadfajcaaaGreatRTb
import Derived.Test.YtaekngadfajcaaaGreatRTc
import Derived.Deep.CutRange
import Derived.Maps.AppendAt
import Derived.Laws.AppendOwnNone
import Derived.Deep.Onto
import Derived.Lib.LazyBuf
namespace Go.Proofs.YtaekngadfajcaaaGreat.Smp
open Go.RowKit

def cmpI (x y : Int) : Int := if x < y then -1 else if y < x then 1 else 0
theorem f107 (x : Int) (w : World) : Calls Tryz.prog 107 #[.int .i64 x] w fun e w' => e = .returned (.bool false) ∧ w' = w := by
  go_enter Tryz.func107, Tryz.ntmps107
  go_wp2
  go_ret
  exact ⟨rfl, rfl⟩
theorem f101 (x y : Int) (w : World) : Calls Tryz.prog 101 #[.int .i64 x, .int .i64 y] w fun e w' => e = .returned (.int .i64 (cmpI x y)) ∧ w' = w := by
  unfold cmpI
  by_cases h1 : x < y
  · rw [if_pos h1]
    go_enter Tryz.func101, Tryz.ntmps101
    go_wp2_with (go_at_call 107; refine (f107 _ _).mono ?_; rintro e w' ⟨rfl, rfl⟩)
    go_ret
    exact ⟨rfl, rfl⟩
  · rw [if_neg h1]
    by_cases h2 : y < x
    · rw [if_pos h2]
      go_enter Tryz.func101, Tryz.ntmps101
      go_wp2_with (go_at_call 107; refine (f107 _ _).mono ?_; rintro e w' ⟨rfl, rfl⟩)
      go_ret
      exact ⟨rfl, rfl⟩
    · rw [if_neg h2]
      go_enter Tryz.func101, Tryz.ntmps101
      go_wp2_with (go_at_call 107; refine (f107 _ _).mono ?_; rintro e w' ⟨rfl, rfl⟩)
      go_ret
      exact ⟨rfl, rfl⟩
theorem cmpI_lt {x y : Int} : cmpI x y < 0 ↔ x < y := by
  unfold cmpI
  split
  · constructor <;> intro h <;> omega
  · split <;> constructor <;> intro h <;> omega
theorem cmpI_eq {x y : Int} : cmpI x y = 0 ↔ x = y := by
  unfold cmpI
  split
  · constructor <;> intro h <;> omega
  · split <;> constructor <;> intro h <;> omega

/-- They rise. -/
theorem rise_lt {ls : List Sm} (h : GoodP ls) : ∀ {i j : Nat}, i < j → j < ls.length → (ls.getD i e0).1 < (ls.getD j e0).1 := by
  intro i j
  induction j with
  | zero => intro h; omega
  | succ j ih =>
    intro hij hj
    have h1 := (h.2 (j + 1) hj).2 (by omega)
    rw [Nat.add_sub_cancel] at h1
    by_cases e : i = j
    · subst e; exact h1
    · have := ih (by omega) (by omega); omega
/-- lo is the first that is not ahead of x. -/
structure Place (ls : List Sm) (x : Int) (lo : Nat) : Prop where
  le : lo ≤ ls.length
  less : ∀ i, i < lo → (ls.getD i e0).1 < x
  geq : ∀ i, lo ≤ i → i < ls.length → x ≤ (ls.getD i e0).1
theorem ret_tup {i : Int} {a b : Bool} (h : a = b) : Ending.returned (.tuple #[.int .i64 i, .bool a]) = .returned (.tuple #[.int .i64 i, .bool b]) := by rw [h]

def cut (ls : List Sm) (x y : Int) : List Sm := ls.filter fun p => decide (x ≤ p.1 ∧ p.1 ≤ y)
theorem filter_mid (P : Sm → Bool) : ∀ (ls : List Sm) (f e : Nat), (∀ i, i < ls.length → P (ls.getD i e0) = decide (f ≤ i ∧ i < e)) → ls.filter P = (ls.take e).drop f := by
  intro ls
  induction ls with
  | nil => intro f e _; simp
  | cons p L ih =>
    intro f e h
    have h0 := h 0 (by simp)
    have hs : ∀ i, i < L.length → P (L.getD i e0) = decide (f - 1 ≤ i ∧ i < e - 1) := by
      intro i hi
      have := h (i + 1) (by simp; omega)
      simp only [List.getD_cons_succ] at this
      rw [this, decide_eq_decide]
      omega
    have := ih (f - 1) (e - 1) hs
    simp only [List.getD_cons_zero] at h0
    cases e with
    | zero =>
      have h1 : P p = false := by rw [h0]; simp
      rw [List.filter_cons_of_neg (by simp [h1]), this]; simp
    | succ e =>
      cases f with
      | zero =>
        have h1 : P p = true := by rw [h0]; simp
        rw [List.filter_cons_of_pos h1, this]; simp
      | succ f =>
        have h1 : P p = false := by rw [h0]; simp
        rw [List.filter_cons_of_neg (by simp [h1]), this]; simp
/-- Behind the last one that is not behind x. -/
def endAt (ls : List Sm) (x : Int) (lo : Nat) : Nat := if lo < ls.length ∧ (ls.getD lo e0).1 = x then lo + 1 else lo
theorem end_spec {ls : List Sm} {x : Int} {lo : Nat} (hg : GoodP ls) (h : Place ls x lo) : endAt ls x lo ≤ ls.length ∧ (∀ i, i < ls.length → (i < endAt ls x lo ↔ (ls.getD i e0).1 ≤ x)) := by
  unfold endAt
  split
  · rename_i hm
    refine ⟨by omega, fun i hi => ⟨fun h1 => ?_, fun h1 => ?_⟩⟩
    · by_cases e : i = lo
      · subst e; omega
      · have := h.less i (by omega); omega
    · by_cases e : i ≤ lo
      · omega
      · have := rise_lt hg (show lo < i by omega) hi; omega
  · rename_i hm
    refine ⟨h.le, fun i hi => ⟨fun h1 => ?_, fun h1 => ?_⟩⟩
    · have := h.less i h1; omega
    · by_cases e : i < lo
      · exact e
      · have h2 := h.geq i (by omega) hi
        have h3 := h.geq lo (by omega) (by omega)
        exfalso
        by_cases e2 : i = lo
        · subst e2; exact hm ⟨hi, by omega⟩
        · have := rise_lt hg (show lo < i by omega) hi; omega
theorem cut_mid {ls : List Sm} {x y : Int} {f lo : Nat} (hg : GoodP ls) (hf : Place ls x f) (hl : Place ls y lo) : cut ls x y = (ls.take (endAt ls y lo)).drop f := by
  refine filter_mid _ ls _ _ fun i hi => ?_
  rw [decide_eq_decide]
  have h1 := (end_spec hg hl).2 i hi
  have h2 : f ≤ i ↔ x ≤ (ls.getD i e0).1 := ⟨fun h => hf.geq i h hi, fun h => by
    by_cases e : i < f
    · have := hf.less i e; omega
    · omega⟩
  rw [h1, h2]

/-- What samplesWithin gives: nothing, or a piece of the list. -/
def Piece (w : World) (L : List Sm) (v : Value) : Prop := (L = [] ∧ v = .slice none 0 0) ∨ (0 < L.length ∧ ∃ b off, v = .slice (some ⟨b, off, none⟩) L.length L.length ∧ HasS w (some ⟨b, off, none⟩) L)

theorem has_mid {w : World} {b off f e : Nat} {ls : List Sm} (h : HasS w (some ⟨b, off, none⟩) ls) (he : e ≤ ls.length) : HasS w (some ⟨b, off + f * 2, none⟩) ((ls.take e).drop f) := by
  by_cases hz : e ≤ f
  · exact .inl (List.eq_nil_of_length_eq_zero (by simp; omega))
  rcases h with h | ⟨b', off', hbo, hb, hc⟩
  · rw [h] at he; simp at he; omega
  · simp only [Option.some.injEq, Addr.mk.injEq, and_true] at hbo
    obtain ⟨rfl, rfl⟩ := hbo
    refine .inr ⟨b, off + f * 2, rfl, hb, fun i hi => ?_⟩
    have hi' : f + i < e := by simp at hi; omega
    have h1 : ((ls.take e).drop f).getD i e0 = ls.getD (f + i) e0 := by
      simp only [List.getD_eq_getElem?_getD, List.getElem?_drop, List.getElem?_take, hi', if_true]
    rw [h1, show off + f * 2 + i * 2 = off + (f + i) * 2 from by omega]
    exact hc (f + i) (by omega)

end Go.Proofs.YtaekngadfajcaaaGreat.Smp
