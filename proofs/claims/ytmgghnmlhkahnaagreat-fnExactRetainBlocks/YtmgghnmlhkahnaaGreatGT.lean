import Derived.Test.YtmgghnmlhkahnaaGreatTb
import Derived.Test.YtmgghnmlhkahnaaGreatTc
import Derived.Deep.CutRange
import Derived.Maps.AppendAt
import Derived.Laws.AppendOwnNone
import Derived.Deep.Onto
import Derived.Lib.LazyBuf
/- Samples between two times: the search for a place, the piece, its copy; the model's. -/
namespace Go.Proofs.YtmgghnmlhkahnaaGreat.Smp
open Go.RowKit

def cmpI (x y : Int) : Int := if x < y then -1 else if y < x then 1 else 0
theorem f106 (x : Int) (w : World) : Calls Tryz.prog 106 #[.int .i64 x] w fun e w' => e = .returned (.bool false) ∧ w' = w := by
  go_enter Tryz.func106, Tryz.ntmps106
  go_wp2
  go_ret
  exact ⟨rfl, rfl⟩
theorem f96 (x y : Int) (w : World) : Calls Tryz.prog 96 #[.int .i64 x, .int .i64 y] w fun e w' => e = .returned (.int .i64 (cmpI x y)) ∧ w' = w := by
  unfold cmpI
  by_cases h1 : x < y
  · rw [if_pos h1]
    go_enter Tryz.func96, Tryz.ntmps96
    go_wp2_with (go_at_call 106; refine (f106 _ _).mono ?_; rintro e w' ⟨rfl, rfl⟩)
    go_ret
    exact ⟨rfl, rfl⟩
  · rw [if_neg h1]
    by_cases h2 : y < x
    · rw [if_pos h2]
      go_enter Tryz.func96, Tryz.ntmps96
      go_wp2_with (go_at_call 106; refine (f106 _ _).mono ?_; rintro e w' ⟨rfl, rfl⟩)
      go_ret
      exact ⟨rfl, rfl⟩
    · rw [if_neg h2]
      go_enter Tryz.func96, Tryz.ntmps96
      go_wp2_with (go_at_call 106; refine (f106 _ _).mono ?_; rintro e w' ⟨rfl, rfl⟩)
      go_ret
      exact ⟨rfl, rfl⟩
theorem cmpI_lt {x y : Int} : cmpI x y < 0 ↔ x < y := by
  unfold cmpI
  split
  · constructor <;> intro h <;> omega
  · split <;> constructor <;> intro h <;> omega
theorem cmpI_eq {x y : Int} : cmpI x y = 0 ↔ x = y := by
  unfold cmpI
  split
  · constructor <;> intro h <;> omega
  · split <;> constructor <;> intro h <;> omega

/-- They rise. -/
theorem rise_lt {ls : List Sm} (h : GoodP ls) : ∀ {i j : Nat}, i < j → j < ls.length → (ls.getD i e0).1 < (ls.getD j e0).1 := by
  intro i j
  induction j with
  | zero => intro h; omega
  | succ j ih =>
    intro hij hj
    have h1 := (h.2 (j + 1) hj).2 (by omega)
    rw [Nat.add_sub_cancel] at h1
    by_cases e : i = j
    · subst e; exact h1
    · have := ih (by omega) (by omega); omega
/-- lo is the first that is not ahead of x. -/
structure Place (ls : List Sm) (x : Int) (lo : Nat) : Prop where
  le : lo ≤ ls.length
  less : ∀ i, i < lo → (ls.getD i e0).1 < x
  geq : ∀ i, lo ≤ i → i < ls.length → x ≤ (ls.getD i e0).1
theorem ret_tup {i : Int} {a b : Bool} (h : a = b) : Ending.returned (.tuple #[.int .i64 i, .bool a]) = .returned (.tuple #[.int .i64 i, .bool b]) := by rw [h]

def cut (ls : List Sm) (x y : Int) : List Sm := ls.filter fun p => decide (x ≤ p.1 ∧ p.1 ≤ y)
theorem filter_mid (P : Sm → Bool) : ∀ (ls : List Sm) (f e : Nat), (∀ i, i < ls.length → P (ls.getD i e0) = decide (f ≤ i ∧ i < e)) → ls.filter P = (ls.take e).drop f := by
  intro ls
  induction ls with
  | nil => intro f e _; simp
  | cons p L ih =>
    intro f e h
    have h0 := h 0 (by simp)
    have hs : ∀ i, i < L.length → P (L.getD i e0) = decide (f - 1 ≤ i ∧ i < e - 1) := by
      intro i hi
      have := h (i + 1) (by simp; omega)
      simp only [List.getD_cons_succ] at this
      rw [this, decide_eq_decide]
      omega
    have := ih (f - 1) (e - 1) hs
    simp only [List.getD_cons_zero] at h0
    cases e with
    | zero =>
      have h1 : P p = false := by rw [h0]; simp
      rw [List.filter_cons_of_neg (by simp [h1]), this]; simp
    | succ e =>
      cases f with
      | zero =>
        have h1 : P p = true := by rw [h0]; simp
        rw [List.filter_cons_of_pos h1, this]; simp
      | succ f =>
        have h1 : P p = false := by rw [h0]; simp
        rw [List.filter_cons_of_neg (by simp [h1]), this]; simp
/-- Behind the last one that is not behind x. -/
def endAt (ls : List Sm) (x : Int) (lo : Nat) : Nat := if lo < ls.length ∧ (ls.getD lo e0).1 = x then lo + 1 else lo
theorem end_spec {ls : List Sm} {x : Int} {lo : Nat} (hg : GoodP ls) (h : Place ls x lo) : endAt ls x lo ≤ ls.length ∧ (∀ i, i < ls.length → (i < endAt ls x lo ↔ (ls.getD i e0).1 ≤ x)) := by
  unfold endAt
  split
  · rename_i hm
    refine ⟨by omega, fun i hi => ⟨fun h1 => ?_, fun h1 => ?_⟩⟩
    · by_cases e : i = lo
      · subst e; omega
      · have := h.less i (by omega); omega
    · by_cases e : i ≤ lo
      · omega
      · have := rise_lt hg (show lo < i by omega) hi; omega
  · rename_i hm
    refine ⟨h.le, fun i hi => ⟨fun h1 => ?_, fun h1 => ?_⟩⟩
    · have := h.less i h1; omega
    · by_cases e : i < lo
      · exact e
      · have h2 := h.geq i (by omega) hi
        have h3 := h.geq lo (by omega) (by omega)
        exfalso
        by_cases e2 : i = lo
        · subst e2; exact hm ⟨hi, by omega⟩
        · have := rise_lt hg (show lo < i by omega) hi; omega
theorem cut_mid {ls : List Sm} {x y : Int} {f lo : Nat} (hg : GoodP ls) (hf : Place ls x f) (hl : Place ls y lo) : cut ls x y = (ls.take (endAt ls y lo)).drop f := by
  refine filter_mid _ ls _ _ fun i hi => ?_
  rw [decide_eq_decide]
  have h1 := (end_spec hg hl).2 i hi
  have h2 : f ≤ i ↔ x ≤ (ls.getD i e0).1 := ⟨fun h => hf.geq i h hi, fun h => by
    by_cases e : i < f
    · have := hf.less i e; omega
    · omega⟩
  rw [h1, h2]

/-- What samplesWithin gives: nothing, or a piece of the list. -/
def Piece (w : World) (L : List Sm) (v : Value) : Prop := (L = [] ∧ v = .slice none 0 0) ∨ (0 < L.length ∧ ∃ b off, v = .slice (some ⟨b, off, none⟩) L.length L.length ∧ HasS w (some ⟨b, off, none⟩) L)

theorem has_mid {w : World} {b off f e : Nat} {ls : List Sm} (h : HasS w (some ⟨b, off, none⟩) ls) (he : e ≤ ls.length) : HasS w (some ⟨b, off + f * 2, none⟩) ((ls.take e).drop f) := by
  by_cases hz : e ≤ f
  · exact .inl (List.eq_nil_of_length_eq_zero (by simp; omega))
  rcases h with h | ⟨b', off', hbo, hb, hc⟩
  · rw [h] at he; simp at he; omega
  · simp only [Option.some.injEq, Addr.mk.injEq, and_true] at hbo
    obtain ⟨rfl, rfl⟩ := hbo
    refine .inr ⟨b, off + f * 2, rfl, hb, fun i hi => ?_⟩
    have hi' : f + i < e := by simp at hi; omega
    have h1 : ((ls.take e).drop f).getD i e0 = ls.getD (f + i) e0 := by
      simp only [List.getD_eq_getElem?_getD, List.getElem?_drop, List.getElem?_take, hi', if_true]
    rw [h1, show off + f * 2 + i * 2 = off + (f + i) * 2 from by omega]
    exact hc (f + i) (by omega)

end Go.Proofs.YtmgghnmlhkahnaaGreat.Smp
/- Both CutSamples. -/
namespace Go.Proofs.YtmgghnmlhkahnaaGreat.Smp
open Go.RowKit

theorem two0 {w : World} {b t : Nat} {x y : Value} {q : Nat × Nat} (h : w.heap[b]? = some (.cells #[x, y] t q)) : w.cell? ⟨b, 0, none⟩ = some x := by
  unfold World.cell?; simp only [h]; rfl
theorem two1 {w : World} {b t : Nat} {x y : Value} {q : Nat × Nat} (h : w.heap[b]? = some (.cells #[x, y] t q)) : w.cell? ⟨b, 1, none⟩ = some y := by
  unfold World.cell?; simp only [h]; rfl
theorem two_new (w : World) (x y : Value) (t : TypeId) : ∀ j u, [x, y][j]? = some u → (w.alloc (.cells #[x, y] t)).cell? ((⟨w.heap.size, 0, none⟩ : Addr).add j) = some u := by
  intro j u hj
  have h := heap_alloc_new w (.cells #[x, y] t)
  match j, hj with
  | 0, hj =>
    simp at hj; subst hj
    have : (⟨w.heap.size, 0, none⟩ : Addr).add 0 = ⟨w.heap.size, 0, none⟩ := by simp [Addr.add]
    rw [this]; exact two0 h
  | 1, hj =>
    simp at hj; subst hj
    have : (⟨w.heap.size, 0, none⟩ : Addr).add 1 = ⟨w.heap.size, 1, none⟩ := by simp [Addr.add]
    rw [this]; exact two1 h
  | j + 2, hj => simp at hj
theorem own_form {w : World} {base e size n : Nat} {v : Value} {xs : List Value} (h : w.ownsRow base e size v n xs) : ∃ a c, v = .slice a n c := by
  rcases h.2 with ⟨h1, h2⟩ | ⟨g, cap, cur, h1, _⟩
  · subst h2; exact ⟨none, 0, h1⟩
  · exact ⟨_, _, h1⟩
/-- The value is a row of the call's own with these samples. -/
def Own (w : World) (base : Nat) (v : Value) (L : List Sm) : Prop := w.ownsRow base 74 2 v L.length (flat L)
theorem Own.nil (w : World) (base : Nat) : Own w base (.slice none 0 0) [] := World.ownsRow_nil w base 74 2
theorem Own.below {w w' : World} {base : Nat} {v : Value} {L : List Sm} (h : Own w base v L) (hb : Below w.heap.size w w') : Own w' base v L := own_below h hb
theorem flat_one (p : Sm) : flat [p] = [.int .i64 p.1, .int .i64 p.2] := rfl

theorem cut_yes {ls : List Sm} {x y : Int} {k : Nat} (hk : k < ls.length) (h1 : x ≤ (ls.getD k e0).1) (h2 : (ls.getD k e0).1 ≤ y) : cut (ls.take (k + 1)) x y = cut (ls.take k) x y ++ [ls.getD k e0] := by
  have e : ls.getD k e0 = ls[k] := by simp [hk]
  rw [e] at h1 h2 ⊢
  unfold cut
  rw [List.take_succ_eq_append_getElem hk, List.filter_append]
  simp [h1, h2]
theorem cut_no {ls : List Sm} {x y : Int} {k : Nat} (hk : k < ls.length) (h : ¬ (x ≤ (ls.getD k e0).1 ∧ (ls.getD k e0).1 ≤ y)) : cut (ls.take (k + 1)) x y = cut (ls.take k) x y := by
  have e : ls.getD k e0 = ls[k] := by simp [hk]
  rw [e] at h
  unfold cut
  rw [List.take_succ_eq_append_getElem hk, List.filter_append]
  simp
  omega
theorem cut_len (ls : List Sm) (x y : Int) : (cut ls x y).length ≤ ls.length := List.length_filter_le _ _
theorem cut_take_len (ls : List Sm) (x y : Int) (k : Nat) : (cut (ls.take k) x y).length ≤ k := Nat.le_trans (cut_len _ _ _) (by simp; omega)
theorem cut_all {ls : List Sm} {x y : Int} {k : Nat} (hk : ls.length ≤ k) : cut (ls.take k) x y = cut ls x y := by rw [List.take_of_length_le hk]

/-- What CutSamples gives. -/
def cutA (ls : List Sm) (x y : Int) : List Sm := if GoodP ls then cut ls x y else []

theorem flat_cells {w : World} {b off : Nat} {L : List Sm} (hr : HasS w (some ⟨b, off, none⟩) L) : ∀ j u, (flat L)[j]? = some u → w.cell? ((⟨b, off, none⟩ : Addr).add j) = some u := by
  intro j u hj
  have hjl : j < L.length * 2 := by
    have := (List.getElem?_eq_some_iff.1 hj).1
    rw [flat_len] at this; exact this
  rcases hr with h | ⟨b', off', hbo, hb, hc⟩
  · rw [h] at hjl; simp at hjl
  · simp only [Option.some.injEq, Addr.mk.injEq, and_true] at hbo
    obtain ⟨rfl, rfl⟩ := hbo
    obtain ⟨i, hi⟩ : ∃ i, i = j / 2 := ⟨_, rfl⟩
    obtain ⟨g0, g1⟩ := flat_get L i (by omega)
    obtain ⟨c0, c1⟩ := hc i (by omega)
    rw [add_none]
    rcases (show j = i * 2 ∨ j = i * 2 + 1 by omega) with h | h
    · subst h
      rw [c0, ← g0]; exact hj
    · subst h
      rw [show off + (i * 2 + 1) = off + i * 2 + 1 from by omega, c1, ← g1]; exact hj
theorem flat_oneCell (L : List Sm) : ∀ u ∈ flat L, u.oneCell' = true := by
  intro u hu
  unfold flat at hu
  simp only [List.mem_flatMap] at hu
  obtain ⟨p, _, hu⟩ := hu
  simp at hu
  rcases hu with rfl | rfl <;> rfl
theorem eqNil (w : World) (a : Option Addr) (l c : Nat) : (binOp .eql 58 (.slice a l c) (.slice none 0 0)).run Tryz.prog w = .ok (.bool a.isNone) w := Go.run_eql_slice_nil w _ _ a l c Tryz.underlying58

set_option maxHeartbeats 2000000 in
theorem f80 (L : List Sm) (v : Value) (w : World) (h20 : L.length ≤ 1048576) (hp : Piece w L v) :
    Calls Tryz.prog 80 #[v] w fun e w' => ∃ v', e = .returned v' ∧ Own w' w.heap.size v' L ∧ Below w.heap.size w w' := by
  obtain ⟨i0, hi, hz0, hz1, hz2⟩ := info_parts infoS
  have q := eqNil
  rcases hp with ⟨rfl, rfl⟩ | ⟨hpos, b, off, rfl, hr⟩
  · go_enter Tryz.func80, Tryz.ntmps80
    go_wp2
    go_ret
    exact ⟨_, rfl, Own.nil _ _, Below.refl _ _⟩
  · have HN := hid (flat_cells (hr.alloc (.cells #[] 74)))
    have H1 := hid (flat_oneCell L)
    clear hr
    go_enter Tryz.func80, Tryz.ntmps80
    go_wp2_with (at_builtin; refine wpList_append_own _ rfl (.tmp 5) (.tmp 6) 58 rfl w.heap.size 74 i0 (.agg #[.int .i64 0, .int .i64 0]) 2 16 Tryz.underlying58 hi hz0 hz1 hz2 rfl (by decide) _ _ _ rfl (World.ownsRow_made w #[] 0 (Nat.le_refl _) (Nat.zero_le _) rfl) ⟨b, off, none⟩ L.length L.length (flat L) rfl (flat_len L) HN.out H1.out ?d3 ?d4 ?d5 ?_)
    case d3 => unfold maxLen; omega
    case d4 => omega
    case d5 => simp
    intro v1 w3 hown1 hgr1 _
    go_wp2
    go_ret
    refine ⟨v1, rfl, ?_, ?_⟩
    · unfold Own; simpa using hown1
    · exact ((Below.refl _ w).alloc (Nat.le_refl _) _).grown hgr1 (by simp) (by intro k hk; simp [Value.ownBlock] at hk; omega)

end Go.Proofs.YtmgghnmlhkahnaaGreat.Smp
