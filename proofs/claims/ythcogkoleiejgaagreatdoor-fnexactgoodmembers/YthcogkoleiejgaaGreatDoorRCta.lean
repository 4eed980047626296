/- Lists of cuts: what szCutS, toCutS and eqCutS come to. -/
import Derived.Test.YthcogkoleiejgaaGreatDoorRows
import Derived.WalkKit
import Derived.ProofKit
import Derived.Handy
import Derived.BigQuiet
import Derived.Deep.QuietTactic
import Derived.Deep.RegionHeld3
namespace Go.Proofs.YthcogkoleiejgaaGreatDoor.Ctl
open Go.RowKit

theorem hid {p : Prop} (h : p) : Hid p := h
theorem ret_bool {a b : Bool} (h : a = b) : Ending.returned (.bool a) = .returned (.bool b) := by rw [h]
theorem ret_int {k : IntKind} {a b : Int} (h : a = b) : Ending.returned (.int k a) = .returned (.int k b) := by rw [h]
theorem below_drewN {B : Nat} {a w : World} (h : Below B a w) (q : Nat) : Below B a (w.drewN q) := ⟨h.os, h.tape, h.output, h.size, h.block⟩
theorem below_undrew {B : Nat} {a w : World} (h : Below B a.drew w) : Below B a w := ⟨h.os, h.tape, h.output, h.size, h.block⟩
theorem below_undrewN {B q : Nat} {a w : World} (h : Below B (a.drewN q) w) : Below B a w := ⟨h.os, h.tape, h.output, h.size, h.block⟩

/-- A fault: A, B, From, To. -/
structure Ag where
  a : Int
  b : Int
  f : Int
  t : Int
  deriving DecidableEq
def a0 : Ag := ⟨0, 0, 0, 0⟩
def cells (p : Ag) : List Value := [.int .i64 p.a, .int .i64 p.b, .int .i64 p.f, .int .i64 p.t]
def valA (p : Ag) : Value := .agg #[.int .i64 p.a, .int .i64 p.b, .int .i64 p.f, .int .i64 p.t]

/-- Four cells from 'o' on in the block 'b' hold the cut 'p'. -/
def AtA (w : World) (b o : Nat) (p : Ag) : Prop := w.cell? ⟨b, o, none⟩ = some (.int .i64 p.a) ∧ w.cell? ⟨b, o + 1, none⟩ = some (.int .i64 p.b) ∧ w.cell? ⟨b, o + 2, none⟩ = some (.int .i64 p.f) ∧ w.cell? ⟨b, o + 3, none⟩ = some (.int .i64 p.t)
theorem AtA.below {B : Nat} {w w' : World} {b o : Nat} {p : Ag} (h : AtA w b o p) (hb : Below B w w') (hB : b < B) : AtA w' b o p := by
  obtain ⟨h0, h1, h2, h3⟩ := h
  exact ⟨(hb.cell (p := ⟨b, o, none⟩) hB).trans h0, (hb.cell (p := ⟨b, o + 1, none⟩) hB).trans h1, (hb.cell (p := ⟨b, o + 2, none⟩) hB).trans h2, (hb.cell (p := ⟨b, o + 3, none⟩) hB).trans h3⟩

/-- The slice that begins at 'a' holds the cuts 'ls' in the world 'w'. -/
def HasA (w : World) (a : Option Addr) (ls : List Ag) : Prop :=
  ls = [] ∨ ∃ b off, a = some ⟨b, off, none⟩ ∧ b < w.heap.size ∧ ∀ i, i < ls.length → AtA w b (off + i * 4) (ls.getD i a0)

theorem HasA.below {w w' : World} {a : Option Addr} {ls : List Ag} (h : HasA w a ls) (hb : Below w.heap.size w w') : HasA w' a ls := by
  rcases h with h | ⟨b, off, h1, h2, h3⟩
  · exact .inl h
  · exact .inr ⟨b, off, h1, Nat.lt_of_lt_of_le h2 hb.size, fun i hi => (h3 i hi).below hb h2⟩
theorem HasA.alloc {w : World} {a : Option Addr} {ls : List Ag} (h : HasA w a ls) (o : Obj) : HasA (w.alloc o) a ls := h.below ((Below.refl _ _).alloc (Nat.le_refl _) o)
theorem HasA.nil {w : World} {a : Option Addr} : HasA w a [] := .inl rfl

def In64 (x : Int) : Prop := -9223372036854775808 ≤ x ∧ x ≤ 9223372036854775807
/-- All are numbers of the machine. -/
def FitA (p : Ag) : Prop := In64 p.a ∧ In64 p.b ∧ In64 p.f ∧ In64 p.t
def Fit (ls : List Ag) : Prop := ∀ i, FitA (ls.getD i a0)

/-- The cells of a row of cuts. -/
def flat (L : List Ag) : List Value := L.flatMap cells
theorem flat_nil : flat [] = [] := rfl
theorem flat_cons (p : Ag) (L : List Ag) : flat (p :: L) = cells p ++ flat L := rfl
theorem flat_append (L K : List Ag) : flat (L ++ K) = flat L ++ flat K := by simp [flat]
theorem flat_len (L : List Ag) : (flat L).length = L.length * 4 := by
  induction L with
  | nil => rfl
  | cons p L ih => rw [flat_cons]; simp [ih, cells]; omega
theorem flat_at : ∀ (L : List Ag) (i j : Nat), i < L.length → j < 4 → (flat L)[i * 4 + j]? = (cells (L.getD i a0))[j]? := by
  intro L
  induction L with
  | nil => intro i j h; simp at h
  | cons p L ih =>
    intro i j h hj
    rw [flat_cons]
    cases i with
    | zero => rw [Nat.zero_mul, Nat.zero_add, List.getElem?_append_left (by simp [cells]; omega)]; rfl
    | succ i =>
      rw [List.getElem?_append_right (by simp [cells]; omega), show (i + 1) * 4 + j - (cells p).length = i * 4 + j from by simp [cells]; omega]
      simpa using ih i j (by simpa using h) hj

theorem flat_get (L : List Ag) (i : Nat) (h : i < L.length) : (flat L)[i * 4]? = some (.int .i64 (L.getD i a0).a) ∧ (flat L)[i * 4 + 1]? = some (.int .i64 (L.getD i a0).b) ∧ (flat L)[i * 4 + 2]? = some (.int .i64 (L.getD i a0).f) ∧ (flat L)[i * 4 + 3]? = some (.int .i64 (L.getD i a0).t) := ⟨flat_at L i 0 h (by omega), flat_at L i 1 h (by omega), flat_at L i 2 h (by omega), flat_at L i 3 h (by omega)⟩
theorem flat_set : ∀ (L : List Ag) (i : Nat) (x0 x1 x2 x3 : Int), i < L.length → ((((flat L).set (i * 4) (.int .i64 x0)).set (i * 4 + 1) (.int .i64 x1)).set (i * 4 + 2) (.int .i64 x2)).set (i * 4 + 3) (.int .i64 x3) = flat (L.set i ⟨x0, x1, x2, x3⟩) := by
  intro L
  induction L with
  | nil => intro i x0 x1 x2 x3 h; simp at h
  | cons p L ih =>
    intro i x0 x1 x2 x3 h
    cases i with
    | zero => rfl
    | succ i =>
      have := ih i x0 x1 x2 x3 (by simpa using h)
      rw [List.set_cons_succ, flat_cons, flat_cons, ← this]
      have hs : ∀ (M : List Value) (j : Nat) (v : Value), (cells p ++ M).set ((i + 1) * 4 + j) v = cells p ++ M.set (i * 4 + j) v := fun M j v => by
        rw [List.set_append_right _ _ (by simp [cells]; omega), show (i + 1) * 4 + j - (cells p).length = i * 4 + j from by simp [cells]; omega]
      have hs0 : ∀ (M : List Value) (v : Value), (cells p ++ M).set ((i + 1) * 4) v = cells p ++ M.set (i * 4) v := fun M v => hs M 0 v
      rw [hs0]
      iterate 3 rw [hs]
theorem made_flat (n : Nat) : (madeCells #[.int .i64 0, .int .i64 0, .int .i64 0, .int .i64 0] (n * 4)).toList = flat (List.replicate n a0) := by
  apply List.ext_getElem?
  intro j
  by_cases hj : j < n * 4
  · have e1 : (madeCells #[.int .i64 0, .int .i64 0, .int .i64 0, .int .i64 0] (n * 4)).toList[j]? = some (.int .i64 0) := by
      have h2 : j % 4 = 0 ∨ j % 4 = 1 ∨ j % 4 = 2 ∨ j % 4 = 3 := by omega
      unfold madeCells
      simp [hj]
      rcases h2 with h | h | h | h <;> rw [h] <;> rfl
    rw [e1]
    have g := flat_at (List.replicate n a0) (j / 4) (j % 4) (by simp; omega) (Nat.mod_lt _ (by omega))
    have h2 : (List.replicate n a0).getD (j / 4) a0 = a0 := by
      rw [List.getD_eq_getElem?_getD, List.getElem?_replicate]; split <;> rfl
    rw [h2, show j / 4 * 4 + j % 4 = j from by omega] at g
    rw [g]
    have h3 : j % 4 = 0 ∨ j % 4 = 1 ∨ j % 4 = 2 ∨ j % 4 = 3 := by omega
    rcases h3 with h | h | h | h <;> rw [h] <;> rfl
  · rw [List.getElem?_eq_none (by simp [size_madeCells]; omega), List.getElem?_eq_none (by rw [flat_len]; simp; omega)]

theorem own_below {w w' : World} {base e size n : Nat} {v : Value} {xs : List Value} (h : w.ownsRow base e size v n xs) (hb : Below w.heap.size w w') : w'.ownsRow base e size v n xs :=
  h.kept (row := none) ⟨hb.os, hb.tape, hb.output, hb.size, fun k hk _ => hb.block k hk⟩ (by cases hv : v.ownBlock <;> simp)
theorem HasA.own {w : World} {base c : Nat} {a : Option Addr} {ls : List Ag} (h : w.ownsRow base 128 4 (.slice a ls.length c) ls.length (flat ls)) : HasA w a ls := by
  rcases h.2 with ⟨h1, h2⟩ | ⟨g, cap, cur, h1, _⟩
  · exact .inl (List.eq_nil_of_length_eq_zero h2)
  · simp only [Value.slice.injEq] at h1
    obtain ⟨rfl, -, rfl⟩ := h1
    have hl := h.1
    rw [flat_len] at hl
    refine .inr ⟨g, 0, rfl, (h.lt g rfl).2, fun i hi => ?_⟩
    obtain ⟨h0, h1, h2, h3⟩ := flat_get ls i hi
    rw [Nat.zero_add]
    exact ⟨(h.cellAt (i * 4) (by omega)).trans h0, (h.cellAt (i * 4 + 1) (by omega)).trans h1, (h.cellAt (i * 4 + 2) (by omega)).trans h2, (h.cellAt (i * 4 + 3) (by omega)).trans h3⟩

theorem infoA : (Tryz.prog.info? 128).map (fun i => (i.zero, i.size, i.bytes)) = some (some (.agg #[.int .i64 0, .int .i64 0, .int .i64 0, .int .i64 0]), 4, 32) := by kernel_rfl

theorem step_set (ls : List Ag) (n k : Nat) (hn : ls.length = n) (hk : k < n) : (ls.take k ++ List.replicate (n - k) a0).set k (ls.getD k a0) = ls.take (k + 1) ++ List.replicate (n - (k + 1)) a0 := by
  have hl : (ls.take k).length = k := by simp; omega
  rw [List.set_append_right _ _ (by omega), hl, Nat.sub_self, show n - k = (n - (k + 1)) + 1 from by omega, List.replicate_succ, List.set_cons_zero, List.take_succ_eq_append_getElem (by omega), List.append_assoc]
  congr 2
  simp [hn, hk]
theorem step_len (ls : List Ag) (n k : Nat) (hn : ls.length = n) (hk : k ≤ n) : (ls.take k ++ List.replicate (n - k) a0).length = n := by simp; omega

theorem f39 (a : Option Addr) (n c : Nat) (x : Int) (w : World) (hmax : n ≤ maxLen) (hx0 : 0 ≤ x) (hx1 : x ≤ 1048576) :
    Calls Tryz.prog 39 #[.slice a n c, .int .i64 x] w fun e w' => e = .returned (.int .i64 (if x < n then -1 else x - n)) ∧ w' = w := by
  unfold maxLen at hmax
  by_cases h : x < n
  · go_enter Tryz.func39, Tryz.ntmps39
    go_wp2
    go_ret
    exact ⟨rfl, rfl⟩
  · go_enter Tryz.func39, Tryz.ntmps39
    go_wp2
    go_ret
    exact ⟨rfl, rfl⟩

theorem f76 (x0 x1 x2 x3 : Int) (w : World) : Calls Tryz.prog 76 #[.agg #[.int .i64 x0, .int .i64 x1, .int .i64 x2, .int .i64 x3]] w fun e w' => e = .returned (.agg #[.int .i64 x0, .int .i64 x1, .int .i64 x2, .int .i64 x3]) ∧ Below w.heap.size w w' := by
  go_enter Tryz.func76, Tryz.ntmps76
  go_wp2
  refine bodyPost_ret (v := .agg #[.int .i64 x0, .int .i64 x1, .int .i64 x2, .int .i64 x3]) (by simp [results, Tryz.results76, go_sem]) rfl ⟨rfl, ?_⟩
  repeat (first | exact Below.refl _ _ | refine Below.alloc ?_ (by simp; try omega) _ | refine Below.setCell ?_ (by simp; try omega) _)

set_option maxHeartbeats 4000000 in
theorem f42 (a : Option Addr) (c : Nat) (ls : List Ag) (w : World) (hb : ls.length ≤ 1048576) (hr : HasA w a ls) :
    Calls Tryz.prog 42 #[.slice a ls.length c] w fun e w' => e = .returned (.slice (some ⟨w.heap.size, 0, none⟩) ls.length ls.length) ∧
      w'.ownsRow w.heap.size 128 4 (.slice (some ⟨w.heap.size, 0, none⟩) ls.length ls.length) ls.length (flat ls) ∧ Below w.heap.size w w' := by
  obtain ⟨i0, hi, hz0, hz1, hz2⟩ := info_parts infoA
  generalize hn : ls.length = n at *
  have HN : Hid (ls.length = n) := hn
  clear hn
  go_enter Tryz.func42, Tryz.ntmps42
  go_wp2_with (at_make; refine wpList_make_full _ rfl _ _ 44 rfl w.heap.size 128 i0 (.agg #[.int .i64 0, .int .i64 0, .int .i64 0, .int .i64 0]) 4 Tryz.underlying44 hi hz0 hz1 _ _ _ _ n rfl rfl rfl rfl ?b2 ?b3 (Nat.le_refl _) ?_)
  case b2 => rw [hz2]; omega
  case b3 => unfold maxLen; omega
  intro w0 hown0 hgrow0
  have hown1 : Hid (w0.ownsRow w.heap.size 128 4 (.slice (some ⟨w.heap.size, 0, none⟩) n n) n (flat (List.replicate n a0))) := by
    rw [← made_flat]; exact hown0
  have hb0 := hid ((Below.refl w.heap.size w).grown hgrow0 (Nat.le_refl _) (fun k h => by cases h))
  clear hown0 hgrow0
  go_wp2
  go_loopw [4] (fun i wr => ∃ k : Nat, k ≤ n ∧ i = .int .i64 k ∧ wr.ownsRow w.heap.size 128 4 (.slice (some ⟨w.heap.size, 0, none⟩) n n) n (flat (ls.take k ++ List.replicate (n - k) a0)) ∧ Below w.heap.size w wr)
    (fun i _ => n - (intOf i).toNat)
  case atStart => exact ⟨0, Nat.zero_le _, rfl, by simpa using hown1.out, hb0.out⟩
  case round =>
    obtain ⟨k, hk, rfl, hown, hnx⟩ := hrel
    by_cases hlt : k < n
    · rcases hr with hr | ⟨b, off, rfl, hbl, hc⟩
      · exact absurd HN.out (by rw [hr]; simp; omega)
      · obtain ⟨d0, d1, d2, d3⟩ := (hc k (by rw [HN.out]; exact hlt)).below hnx hbl
        have HO := hid hown
        have HX := hid hnx
        have HST := hid (step_set ls n k HN.out hlt)
        have HSL := hid (step_len ls n k HN.out hk)
        clear hc hown hnx hown1 hb0
        generalize hp : ls.getD k a0 = p at *
        obtain ⟨x0, x1, x2, x3⟩ := p
        clear hp
        go_wp2_with fail
        refine (f76 x0 x1 x2 x3 _).mono ?_
        rintro e w2 ⟨rfl, hb2⟩
        have HO2 := hid (own_below HO.out hb2)
        have HX2 := hid (HX.out.trans (hb2.mono HX.out.size))
        obtain ⟨y0, y1, y2, y3⟩ := flat_get _ k (by rw [HSL.out]; exact hlt)
        have f0 := HO2.out.frozenAt (k * 4)
        have e0' := (HO2.out.cellAt (k * 4) (by omega)).trans y0
        have f1 := HO2.out.frozenAt (k * 4 + 1)
        have e1' := (HO2.out.cellAt (k * 4 + 1) (by omega)).trans y1
        have f2 := HO2.out.frozenAt (k * 4 + 2)
        have e2' := (HO2.out.cellAt (k * 4 + 2) (by omega)).trans y2
        have f3 := HO2.out.frozenAt (k * 4 + 3)
        have e3' := (HO2.out.cellAt (k * 4 + 3) (by omega)).trans y3
        have HS2 := hid ((((HO2.out.stored (k * 4) (.int .i64 x0)).1.stored (k * 4 + 1) (.int .i64 x1)).1.stored (k * 4 + 2) (.int .i64 x2)).1.stored (k * 4 + 3) (.int .i64 x3)).1
        clear hb2 y0 y1 y2 y3
        go_wp2
        go_roundw
        case rel =>
          refine ⟨k + 1, by omega, by go_num, ?_, ((((HX2.out).setCell (Nat.le_refl _) _).setCell (Nat.le_refl _) _).setCell (Nat.le_refl _) _).setCell (Nat.le_refl _) _⟩
          have := HS2.out
          rw [flat_set _ k x0 x1 x2 x3 (by rw [HSL.out]; exact hlt), HST.out] at this
          exact this
        case measure => simp [intOf]; omega
    · go_wp2
      go_ret
      have : k = n := by omega
      subst this
      refine ⟨rfl, ?_, hnx⟩
      have e := HN.out
      simpa [← e] using hown

theorem f77 (x0 x1 x2 x3 : Int) (w : World) : Calls Tryz.prog 77 #[.agg #[.int .i64 x0, .int .i64 x1, .int .i64 x2, .int .i64 x3], .agg #[.int .i64 x0, .int .i64 x1, .int .i64 x2, .int .i64 x3]] w fun e w' => e = .returned (.bool true) ∧ Below w.heap.size w w' := by
  have hb := hid (((Below.refl w.heap.size w).alloc (Nat.le_refl _) (.cells #[.int .i64 x0, .int .i64 x1, .int .i64 x2, .int .i64 x3] 128)).alloc (by simp) (.cells #[.int .i64 x0, .int .i64 x1, .int .i64 x2, .int .i64 x3] 128))
  go_enter Tryz.func77, Tryz.ntmps77
  go_wp2
  go_ret
  exact ⟨rfl, hb.out⟩

set_option maxHeartbeats 4000000 in
theorem f45 (a a' : Option Addr) (c c' : Nat) (ls : List Ag) (w : World) (hb : ls.length ≤ 1048576) (hr : HasA w a ls) (hr' : HasA w a' ls) :
    Calls Tryz.prog 45 #[.slice a ls.length c, .slice a' ls.length c'] w fun e w' => e = .returned (.bool true) ∧ Below w.heap.size w w' := by
  generalize hn : ls.length = n at *
  have HN := hid hn
  clear hn
  go_enter Tryz.func45, Tryz.ntmps45
  go_wp2
  go_loopw [5] (fun i wr => ∃ k : Nat, k ≤ n ∧ i = .int .i64 k ∧ Below w.heap.size w wr) (fun i _ => n - (intOf i).toNat)
  case atStart => exact ⟨0, Nat.zero_le _, rfl, Below.refl _ _⟩
  case round =>
    obtain ⟨k, hk, rfl, hnx⟩ := hrel
    have HX := hid hnx
    by_cases hlt : k < n
    · rcases hr with hr | ⟨b, off, rfl, hbl, hc⟩
      · exact absurd HN.out (by rw [hr]; simp; omega)
      rcases hr' with hr | ⟨b', off', rfl, hbl', hc'⟩
      · exact absurd HN.out (by rw [hr]; simp; omega)
      obtain ⟨d0, d1, d2, d3⟩ := (hc k (by rw [HN.out]; exact hlt)).below hnx hbl
      obtain ⟨d0', d1', d2', d3'⟩ := (hc' k (by rw [HN.out]; exact hlt)).below hnx hbl'
      have i1 : (k : Int) < (n : Int) := by omega
      clear hc hc' hnx
      generalize ls.getD k a0 = p at *
      obtain ⟨x0, x1, x2, x3⟩ := p
      go_wp2_with fail
      go_region_with (go_at_call 77; refine (f77 x0 x1 x2 x3 _).mono ?_; rintro e w2 ⟨rfl, hb2⟩)
      all_goals
        have HX2 := hid (HX.out.trans ((below_undrew hb2).mono HX.out.size))
        clear hb2
        go_wp2
        go_roundw
        case rel => exact ⟨k + 1, by omega, by go_num, HX2.out⟩
        case measure => simp [intOf]; omega
    · go_wp2
      go_ret
      exact ⟨rfl, HX.out⟩
end Go.Proofs.YthcogkoleiejgaaGreatDoor.Ctl
