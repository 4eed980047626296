/- Lists of ranges: what szRangeS, toRangeS and eqRangeS come to. -/
import Derived.Test.YthcogkoleiejgaaGreatDoorRows
import Derived.WalkKit
import Derived.ProofKit
import Derived.Handy
import Derived.BigQuiet
import Derived.Deep.QuietTactic
import Derived.Deep.RegionHeld3
namespace Go.Proofs.YthcogkoleiejgaaGreatDoor.Rng
open Go.RowKit

theorem hid {p : Prop} (h : p) : Hid p := h
theorem ret_bool {a b : Bool} (h : a = b) : Ending.returned (.bool a) = .returned (.bool b) := by rw [h]
theorem ret_int {k : IntKind} {a b : Int} (h : a = b) : Ending.returned (.int k a) = .returned (.int k b) := by rw [h]
theorem below_drewN {B : Nat} {a w : World} (h : Below B a w) (q : Nat) : Below B a (w.drewN q) := ⟨h.os, h.tape, h.output, h.size, h.block⟩
theorem below_undrew {B : Nat} {a w : World} (h : Below B a.drew w) : Below B a w := ⟨h.os, h.tape, h.output, h.size, h.block⟩
theorem below_undrewN {B q : Nat} {a w : World} (h : Below B (a.drewN q) w) : Below B a w := ⟨h.os, h.tape, h.output, h.size, h.block⟩

abbrev Sm := Int × Int
def e0 : Sm := (0, 0)

/-- The slice that begins at 'a' holds the ranges 'ls' in the world 'w'. -/
def HasS (w : World) (a : Option Addr) (ls : List Sm) : Prop :=
  ls = [] ∨ ∃ b off, a = some ⟨b, off, none⟩ ∧ b < w.heap.size ∧ ∀ i, i < ls.length → w.cell? ⟨b, off + i * 2, none⟩ = some (.int .i64 (ls.getD i e0).1) ∧ w.cell? ⟨b, off + i * 2 + 1, none⟩ = some (.int .i64 (ls.getD i e0).2)

theorem HasS.below {w w' : World} {a : Option Addr} {ls : List Sm} (h : HasS w a ls) (hb : Below w.heap.size w w') : HasS w' a ls := by
  rcases h with h | ⟨b, off, h1, h2, h3⟩
  · exact .inl h
  · exact .inr ⟨b, off, h1, Nat.lt_of_lt_of_le h2 hb.size, fun i hi => ⟨(hb.cell (by exact h2)).trans (h3 i hi).1, (hb.cell (by exact h2)).trans (h3 i hi).2⟩⟩
theorem HasS.alloc {w : World} {a : Option Addr} {ls : List Sm} (h : HasS w a ls) (o : Obj) : HasS (w.alloc o) a ls := h.below ((Below.refl _ _).alloc (Nat.le_refl _) o)
theorem HasS.nil {w : World} {a : Option Addr} : HasS w a [] := .inl rfl

/-- All are numbers of the machine. -/
def In64 (x : Int) : Prop := -9223372036854775808 ≤ x ∧ x ≤ 9223372036854775807
def Fit (ls : List Sm) : Prop := ∀ i, In64 (ls.getD i e0).1 ∧ In64 (ls.getD i e0).2

/-- The cells of a row of ranges. -/
def flat (L : List Sm) : List Value := L.flatMap fun p => [.int .i64 p.1, .int .i64 p.2]
theorem flat_nil : flat [] = [] := rfl
theorem flat_cons (p : Sm) (L : List Sm) : flat (p :: L) = .int .i64 p.1 :: .int .i64 p.2 :: flat L := rfl
theorem flat_append (L K : List Sm) : flat (L ++ K) = flat L ++ flat K := by simp [flat]
theorem flat_len (L : List Sm) : (flat L).length = L.length * 2 := by
  induction L with
  | nil => rfl
  | cons p L ih => rw [flat_cons]; simp [ih]; omega
theorem flat_get : ∀ (L : List Sm) (i : Nat), i < L.length → (flat L)[i * 2]? = some (.int .i64 (L.getD i e0).1) ∧ (flat L)[i * 2 + 1]? = some (.int .i64 (L.getD i e0).2) := by
  intro L
  induction L with
  | nil => intro i h; simp at h
  | cons p L ih =>
    intro i h
    cases i with
    | zero => exact ⟨rfl, rfl⟩
    | succ i =>
      have := ih i (by simpa using h)
      rw [flat_cons, show (i + 1) * 2 = i * 2 + 1 + 1 from by omega, show i * 2 + 1 + 1 + 1 = (i * 2 + 1) + 1 + 1 from rfl]
      simpa using this
theorem flat_set : ∀ (L : List Sm) (i : Nat) (s t : Int), i < L.length → ((flat L).set (i * 2) (.int .i64 s)).set (i * 2 + 1) (.int .i64 t) = flat (L.set i (s, t)) := by
  intro L
  induction L with
  | nil => intro i s t h; simp at h
  | cons p L ih =>
    intro i s t h
    cases i with
    | zero => rfl
    | succ i =>
      have := ih i s t (by simpa using h)
      rw [List.set_cons_succ, flat_cons, flat_cons, ← this, show (i + 1) * 2 = i * 2 + 1 + 1 from by omega, show i * 2 + 1 + 1 + 1 = (i * 2 + 1) + 1 + 1 from rfl]
      rfl
theorem made_two (n : Nat) : (madeCells #[.int .i64 0, .int .i64 0] (n * 2)).toList = flat (List.replicate n e0) := by
  apply List.ext_getElem?
  intro j
  by_cases hj : j < n * 2
  · have e1 : (madeCells #[.int .i64 0, .int .i64 0] (n * 2)).toList[j]? = some (.int .i64 0) := by
      have h2 : j % 2 = 0 ∨ j % 2 = 1 := by omega
      unfold madeCells
      simp [hj]
      rcases h2 with h | h <;> rw [h] <;> rfl
    rw [e1]
    obtain ⟨g0, g1⟩ := flat_get (List.replicate n e0) (j / 2) (by simp; omega)
    have h2 : (List.replicate n e0).getD (j / 2) e0 = e0 := by
      rw [List.getD_eq_getElem?_getD, List.getElem?_replicate]; split <;> rfl
    rw [h2] at g0 g1
    rcases (show j = j / 2 * 2 ∨ j = j / 2 * 2 + 1 by omega) with h | h
    · rw [h]; exact g0.symm
    · rw [h]; exact g1.symm
  · rw [List.getElem?_eq_none (by simp [size_madeCells]; omega), List.getElem?_eq_none (by rw [flat_len]; simp; omega)]

theorem own_below {w w' : World} {base e size n : Nat} {v : Value} {xs : List Value} (h : w.ownsRow base e size v n xs) (hb : Below w.heap.size w w') : w'.ownsRow base e size v n xs :=
  h.kept (row := none) ⟨hb.os, hb.tape, hb.output, hb.size, fun k hk _ => hb.block k hk⟩ (by cases hv : v.ownBlock <;> simp)
theorem HasS.own {w : World} {base c : Nat} {a : Option Addr} {ls : List Sm} (h : w.ownsRow base 109 2 (.slice a ls.length c) ls.length (flat ls)) : HasS w a ls := by
  rcases h.2 with ⟨h1, h2⟩ | ⟨g, cap, cur, h1, _⟩
  · exact .inl (List.eq_nil_of_length_eq_zero h2)
  · simp only [Value.slice.injEq] at h1
    obtain ⟨rfl, -, rfl⟩ := h1
    have hl := h.1
    rw [flat_len] at hl
    refine .inr ⟨g, 0, rfl, (h.lt g rfl).2, fun i hi => ?_⟩
    obtain ⟨h0, h1⟩ := flat_get ls i hi
    rw [Nat.zero_add]
    exact ⟨(h.cellAt (i * 2) (by omega)).trans h0, (h.cellAt (i * 2 + 1) (by omega)).trans h1⟩

theorem infoS : (Tryz.prog.info? 109).map (fun i => (i.zero, i.size, i.bytes)) = some (some (.agg #[.int .i64 0, .int .i64 0]), 2, 16) := by kernel_rfl

theorem step_set (ls : List Sm) (n k : Nat) (hn : ls.length = n) (hk : k < n) : (ls.take k ++ List.replicate (n - k) e0).set k (ls.getD k e0) = ls.take (k + 1) ++ List.replicate (n - (k + 1)) e0 := by
  have hl : (ls.take k).length = k := by simp; omega
  rw [List.set_append_right _ _ (by omega), hl, Nat.sub_self, show n - k = (n - (k + 1)) + 1 from by omega, List.replicate_succ, List.set_cons_zero, List.take_succ_eq_append_getElem (by omega), List.append_assoc]
  congr 2
  simp [hn, hk]
theorem step_len (ls : List Sm) (n k : Nat) (hn : ls.length = n) (hk : k ≤ n) : (ls.take k ++ List.replicate (n - k) e0).length = n := by simp; omega

theorem f85 (a : Option Addr) (n c : Nat) (x : Int) (w : World) (hmax : n ≤ maxLen) (hx0 : 0 ≤ x) (hx1 : x ≤ 1048576) :
    Calls Tryz.prog 85 #[.slice a n c, .int .i64 x] w fun e w' => e = .returned (.int .i64 (if x < n then -1 else x - n)) ∧ w' = w := by
  unfold maxLen at hmax
  by_cases h : x < n
  · go_enter Tryz.func85, Tryz.ntmps85
    go_wp2
    go_ret
    exact ⟨rfl, rfl⟩
  · go_enter Tryz.func85, Tryz.ntmps85
    go_wp2
    go_ret
    exact ⟨rfl, rfl⟩

theorem f125 (s t : Int) (w : World) : Calls Tryz.prog 125 #[.agg #[.int .i64 s, .int .i64 t]] w fun e w' => e = .returned (.agg #[.int .i64 s, .int .i64 t]) ∧ Below w.heap.size w w' := by
  go_enter Tryz.func125, Tryz.ntmps125
  go_wp2
  refine bodyPost_ret (v := .agg #[.int .i64 s, .int .i64 t]) (by simp [results, Tryz.results125, go_sem]) rfl ⟨rfl, ?_⟩
  exact (((Below.refl w.heap.size w).alloc (Nat.le_refl _) _).alloc (by simp) _).alloc (by simp; omega) _

set_option maxHeartbeats 1000000 in
theorem f96 (a : Option Addr) (c : Nat) (ls : List Sm) (w : World) (hb : ls.length ≤ 1048576) (hr : HasS w a ls) :
    Calls Tryz.prog 96 #[.slice a ls.length c] w fun e w' => e = .returned (.slice (some ⟨w.heap.size, 0, none⟩) ls.length ls.length) ∧
      w'.ownsRow w.heap.size 109 2 (.slice (some ⟨w.heap.size, 0, none⟩) ls.length ls.length) ls.length (flat ls) ∧ Below w.heap.size w w' := by
  obtain ⟨i0, hi, hz0, hz1, hz2⟩ := info_parts infoS
  generalize hn : ls.length = n at *
  have HN : Hid (ls.length = n) := hn
  clear hn
  go_enter Tryz.func96, Tryz.ntmps96
  go_wp2_with (at_make; refine wpList_make_full _ rfl _ _ 59 rfl w.heap.size 109 i0 (.agg #[.int .i64 0, .int .i64 0]) 2 Tryz.underlying59 hi hz0 hz1 _ _ _ _ n rfl rfl rfl rfl ?b2 ?b3 (Nat.le_refl _) ?_)
  case b2 => rw [hz2]; omega
  case b3 => unfold maxLen; omega
  intro w0 hown0 hgrow0
  have hown1 : Hid (w0.ownsRow w.heap.size 109 2 (.slice (some ⟨w.heap.size, 0, none⟩) n n) n (flat (List.replicate n e0))) := by
    rw [← made_two]; exact hown0
  have hb0 := hid ((Below.refl w.heap.size w).grown hgrow0 (Nat.le_refl _) (fun k h => by cases h))
  clear hown0 hgrow0
  go_wp2
  go_loopw [4] (fun i wr => ∃ k : Nat, k ≤ n ∧ i = .int .i64 k ∧ wr.ownsRow w.heap.size 109 2 (.slice (some ⟨w.heap.size, 0, none⟩) n n) n (flat (ls.take k ++ List.replicate (n - k) e0)) ∧ Below w.heap.size w wr)
    (fun i _ => n - (intOf i).toNat)
  case atStart => exact ⟨0, Nat.zero_le _, rfl, by simpa using hown1.out, hb0.out⟩
  case round =>
    obtain ⟨k, hk, rfl, hown, hnx⟩ := hrel
    by_cases hlt : k < n
    · rcases hr with hr | ⟨b, off, rfl, hbl, hc⟩
      · exact absurd HN.out (by rw [hr]; simp; omega)
      · obtain ⟨c0, c1⟩ := hc k (by rw [HN.out]; exact hlt)
        have d0 := (hnx.cell (p := ⟨b, off + k * 2, none⟩) hbl).trans c0
        have d1 := (hnx.cell (p := ⟨b, off + k * 2 + 1, none⟩) hbl).trans c1
        have HO := hid hown
        have HX := hid hnx
        have HST := hid (step_set ls n k HN.out hlt)
        have HSL := hid (step_len ls n k HN.out hk)
        clear hc c0 c1 hown hnx hown1 hb0
        generalize hp : ls.getD k e0 = p at *
        obtain ⟨s, t⟩ := p
        clear hp
        go_wp2_with fail
        refine (f125 s t _).mono ?_
        rintro e w2 ⟨rfl, hb2⟩
        have HO2 := hid (own_below HO.out hb2)
        have HX2 := hid (HX.out.trans (hb2.mono HX.out.size))
        have f0 := HO2.out.frozenAt (k * 2)
        have f1 := HO2.out.frozenAt (k * 2 + 1)
        have e0' := HO2.out.cellAt (k * 2) (by omega)
        have e1' := HO2.out.cellAt (k * 2 + 1) (by omega)
        obtain ⟨y0, y1⟩ := flat_get _ k (by rw [HSL.out]; exact hlt)
        rw [y0] at e0'
        rw [y1] at e1'
        have HS2 := hid (((HO2.out.stored (k * 2) (.int .i64 s)).1.stored (k * 2 + 1) (.int .i64 t)).1)
        clear hb2 y0 y1
        go_wp2
        go_roundw
        case rel =>
          refine ⟨k + 1, by omega, by go_num, ?_, (HX2.out.setCell (Nat.le_refl _) _).setCell (Nat.le_refl _) _⟩
          have := HS2.out
          rw [flat_set _ k s t (by rw [HSL.out]; exact hlt), HST.out] at this
          exact this
        case measure => simp [intOf]; omega
    · go_wp2
      go_ret
      have : k = n := by omega
      subst this
      refine ⟨rfl, ?_, hnx⟩
      have e := HN.out
      simpa [← e] using hown

theorem f136 (s t : Int) (w : World) : Calls Tryz.prog 136 #[.agg #[.int .i64 s, .int .i64 t], .agg #[.int .i64 s, .int .i64 t]] w fun e w' => e = .returned (.bool true) ∧ Below w.heap.size w w' := by
  have hb := hid (((Below.refl w.heap.size w).alloc (Nat.le_refl _) (.cells #[.int .i64 s, .int .i64 t] 109)).alloc (by simp) (.cells #[.int .i64 s, .int .i64 t] 109))
  go_enter Tryz.func136, Tryz.ntmps136
  go_wp2
  go_ret
  exact ⟨rfl, hb.out⟩

set_option maxHeartbeats 1000000 in
theorem f112 (a a' : Option Addr) (c c' : Nat) (ls : List Sm) (w : World) (hb : ls.length ≤ 1048576) (hr : HasS w a ls) (hr' : HasS w a' ls) :
    Calls Tryz.prog 112 #[.slice a ls.length c, .slice a' ls.length c'] w fun e w' => e = .returned (.bool true) ∧ Below w.heap.size w w' := by
  generalize hn : ls.length = n at *
  have HN := hid hn
  clear hn
  go_enter Tryz.func112, Tryz.ntmps112
  go_wp2
  go_loopw [5] (fun i wr => ∃ k : Nat, k ≤ n ∧ i = .int .i64 k ∧ Below w.heap.size w wr) (fun i _ => n - (intOf i).toNat)
  case atStart => exact ⟨0, Nat.zero_le _, rfl, Below.refl _ _⟩
  case round =>
    obtain ⟨k, hk, rfl, hnx⟩ := hrel
    have HX := hid hnx
    by_cases hlt : k < n
    · rcases hr with hr | ⟨b, off, rfl, hbl, hc⟩
      · exact absurd HN.out (by rw [hr]; simp; omega)
      rcases hr' with hr | ⟨b', off', rfl, hbl', hc'⟩
      · exact absurd HN.out (by rw [hr]; simp; omega)
      obtain ⟨c0, c1⟩ := hc k (by rw [HN.out]; exact hlt)
      obtain ⟨c0', c1'⟩ := hc' k (by rw [HN.out]; exact hlt)
      have d0 := (hnx.cell (p := ⟨b, off + k * 2, none⟩) hbl).trans c0
      have d1 := (hnx.cell (p := ⟨b, off + k * 2 + 1, none⟩) hbl).trans c1
      have d0' := (hnx.cell (p := ⟨b', off' + k * 2, none⟩) hbl').trans c0'
      have d1' := (hnx.cell (p := ⟨b', off' + k * 2 + 1, none⟩) hbl').trans c1'
      have i1 : (k : Int) < (n : Int) := by omega
      clear hc c0 c1 hc' c0' c1' hnx
      generalize ls.getD k e0 = p at *
      obtain ⟨s, t⟩ := p
      go_wp2_with fail
      go_region_with (go_at_call 136; refine (f136 s t _).mono ?_; rintro e w2 ⟨rfl, hb2⟩)
      all_goals
        have HX2 := hid (HX.out.trans ((below_undrew hb2).mono HX.out.size))
        clear hb2
        go_wp2
        go_roundw
        case rel => exact ⟨k + 1, by omega, by go_num, HX2.out⟩
        case measure => simp [intOf]; omega
    · go_wp2
      go_ret
      exact ⟨rfl, HX.out⟩
end Go.Proofs.YthcogkoleiejgaaGreatDoor.Rng
