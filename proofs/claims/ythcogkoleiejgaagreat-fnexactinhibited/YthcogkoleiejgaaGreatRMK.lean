/- The marks: what markText comes to. -/
import Derived.Test.YthcogkoleiejgaaGreatRVo
import Derived.Laws.BytesArg
import Derived.Deep.RegionHeld3
namespace Go.Proofs.YthcogkoleiejgaaGreat.Lab
open Go.RowKit Go.Proofs.YthcogkoleiejgaaGreat.Str

theorem one_new (w : World) (v : Value) (t : TypeId) : (w.alloc (.cells #[v] t)).cell? ⟨w.heap.size, 0, none⟩ = some v := by
  have h := heap_alloc_new w (.cells #[v] t)
  unfold World.cell?
  simp only [h]
  rfl

def dgs (k : Nat) (out : ByteArray) : ByteArray := if k = 0 then out else dgs (k / 10) (strOfNums [48 + (k : Int) % 10] ++ out)
termination_by k
decreasing_by omega
theorem dgs_zero (out : ByteArray) : dgs 0 out = out := by rw [dgs, if_pos rfl]
theorem dgs_pos (k : Nat) (out : ByteArray) (h : 0 < k) : dgs k out = dgs (k / 10) (strOfNums [48 + (k : Int) % 10] ++ out) := by rw [dgs, if_neg (by omega)]
def mkT (k : Nat) : ByteArray := if k = 0 then { data := #[109, 48] } else { data := #[109] } ++ dgs k ByteArray.empty

end Go.Proofs.YthcogkoleiejgaaGreat.Lab
/- Rows of labels marked and held: markLabelS, heldLabelS. -/
namespace Go.Proofs.YthcogkoleiejgaaGreat.Lab
open Go.RowKit Go.Proofs.YthcogkoleiejgaaGreat.Str

theorem grown_trans {a b c : World} {r : Option Nat} (h : a.grownBy b r) (k : b.grownBy c r) : a.grownBy c r :=
  ⟨k.os.trans h.os, k.tape.trans h.tape, k.output.trans h.output, Nat.le_trans h.size k.size, fun i hi hne => (k.block i (Nat.lt_of_lt_of_le hi h.size) hne).trans (h.block i hi hne)⟩
theorem grown_below {a b : World} (r : Option Nat) (h : Below a.heap.size a b) : a.grownBy b r := ⟨h.os, h.tape, h.output, h.size, fun i hi _ => h.block i hi⟩
theorem grown_setRow {w w' : World} {g o : Nat} (h : w.grownBy w' (some g)) (u : Value) : w.grownBy (w'.setCell ⟨g, o, none⟩ u) (some g) :=
  ⟨h.os, h.tape, h.output, by simpa using h.size, fun i hi hne => (Below.heap_setCell w' ⟨g, o, none⟩ u i (by intro e; exact hne (by rw [e]))).trans (h.block i hi hne)⟩
theorem below_grown {B g : Nat} {a w w' : World} (h : Below B a w) (hg : w.grownBy w' (some g)) (hB : B ≤ w.heap.size) (hr : B ≤ g) : Below B a w' := h.grown hg hB (by intro k hk; cases hk; exact hr)

def markL (k n : Nat) : List Lb := (List.range n).map fun i => (mkT (k + 2 * i), mkT (k + 2 * i + 1))
theorem markL_len (k n : Nat) : (markL k n).length = n := by simp [markL]
theorem markL_get (k n i : Nat) (h : i < n) : (markL k n).getD i e0 = (mkT (k + 2 * i), mkT (k + 2 * i + 1)) := by simp [markL, h]

/-- The row while it is being marked. -/
def markR (k : Nat) (ls : List Lb) (i : Nat) : List Lb := (markL k i) ++ ls.drop i
theorem markR_zero (k : Nat) (ls : List Lb) : markR k ls 0 = ls := by simp [markR, markL]
theorem markR_end (k n : Nat) (ls : List Lb) (h : ls.length = n) : markR k ls n = markL k n := by simp [markR, ← h]
theorem markR_len (k n i : Nat) (ls : List Lb) (h : ls.length = n) (hi : i ≤ n) : (markR k ls i).length = n := by simp [markR, markL_len]; omega
theorem markR_set (k n i : Nat) (ls : List Lb) (h : ls.length = n) (hi : i < n) : (markR k ls i).set i (mkT (k + 2 * i), mkT (k + 2 * i + 1)) = markR k ls (i + 1) := by
  unfold markR
  rw [List.set_append_right _ _ (by rw [markL_len]; exact Nat.le_refl _), markL_len, Nat.sub_self, List.drop_eq_getElem_cons (by omega), List.set_cons_zero]
  have : markL k (i + 1) = markL k i ++ [(mkT (k + 2 * i), mkT (k + 2 * i + 1))] := by simp [markL, List.range_succ]
  rw [this, List.append_assoc]
  rfl

end Go.Proofs.YthcogkoleiejgaaGreat.Lab
/- Marks that are held: heldLabelS. -/
namespace Go.Proofs.YthcogkoleiejgaaGreat.Lab
open Go.RowKit Go.Proofs.YthcogkoleiejgaaGreat.Str

/-- A text in a cell, and all that was there is as it was. -/
abbrev UU (w : World) (b o : Nat) (v : ByteArray) (w' : World) : Prop := w'.cell? ⟨b, o, none⟩ = some (.string v) ∧ b < w'.heap.size ∧ Below w.heap.size w w'
theorem UU.below {w W W' : World} {b o : Nat} {v : ByteArray} (h : UU w b o v W) (hb : Below W.heap.size W W') : UU w b o v W' :=
  ⟨(hb.cell (p := ⟨b, o, none⟩) h.2.1).trans h.1, Nat.lt_of_lt_of_le h.2.1 hb.size, h.2.2.trans (hb.mono h.2.2.size)⟩
theorem UU.drew {w W : World} {b o : Nat} {v : ByteArray} (h : UU w b o v W) : UU w b o v W.drew := ⟨h.1, h.2.1, h.2.2.drew⟩

end Go.Proofs.YthcogkoleiejgaaGreat.Lab
/- Lists of texts: szStringS, toStringS, eqStringS, l2Has, slices.Contains. -/
namespace Go.Proofs.YthcogkoleiejgaaGreat.Lab
open Go.RowKit Go.Proofs.YthcogkoleiejgaaGreat.Str

/-- The slice that begins at 'a' holds the texts 'ss' in the world 'w'. -/
def HasT (w : World) (a : Option Addr) (ss : List ByteArray) : Prop :=
  ss = [] ∨ ∃ b off, a = some ⟨b, off, none⟩ ∧ b < w.heap.size ∧ ∀ i, i < ss.length → w.cell? ⟨b, off + i, none⟩ = some (.string (ss.getD i ByteArray.empty))
theorem HasT.below {w w' : World} {a : Option Addr} {ss : List ByteArray} (h : HasT w a ss) (hb : Below w.heap.size w w') : HasT w' a ss := by
  rcases h with h | ⟨b, off, h1, h2, h3⟩
  · exact .inl h
  · exact .inr ⟨b, off, h1, Nat.lt_of_lt_of_le h2 hb.size, fun i hi => (hb.cell (by exact h2)).trans (h3 i hi)⟩
theorem HasT.own {w : World} {base g n c : Nat} {ss : List ByteArray} (h : w.ownsRow base 9 1 (.slice (some ⟨g, 0, none⟩) n c) n (ss.map Value.string)) : HasT w (some ⟨g, 0, none⟩) ss := by
  have hl := h.1
  rw [List.length_map, Nat.mul_one] at hl
  refine .inr ⟨g, 0, rfl, (h.lt g rfl).2, fun i hi => ?_⟩
  rw [Nat.zero_add, h.cellAt i (by omega)]
  simp [hi]
def FitT (ss : List ByteArray) : Prop := ∀ i, (ss.getD i ByteArray.empty).size ≤ maxLen
def hasB (ss : List ByteArray) (x : ByteArray) : Bool := decide (∃ i, i < ss.length ∧ ss.getD i ByteArray.empty = x)
theorem has_yes {ss : List ByteArray} {x : ByteArray} {i : Nat} (h : i < ss.length) (e : ss.getD i ByteArray.empty = x) : hasB ss x = true := decide_eq_true ⟨i, h, e⟩
theorem has_no {ss : List ByteArray} {x : ByteArray} (h : ∀ i, i < ss.length → ss.getD i ByteArray.empty ≠ x) : hasB ss x = false := decide_eq_false fun ⟨i, h1, h2⟩ => h i h1 h2

set_option maxHeartbeats 1000000 in
theorem f86 (a : Option Addr) (n c : Nat) (ss : List ByteArray) (x : ByteArray) (w : World) (hn : ss.length = n) (hb : n ≤ 1048576) (hr : HasT w a ss) :
    Calls Tryz.prog 86 #[.slice a n c, .string x] w fun e w' => (∃ y : Int, e = .returned (.int .i64 y) ∧ decide (0 ≤ y) = hasB ss x) ∧ w' = w := by
  have HN := hid hn
  clear hn
  go_enter Tryz.func86, Tryz.ntmps86
  go_wp2
  go_loop [8] (fun i => ∃ k : Nat, k ≤ n ∧ i = .int .i64 k ∧ Hid (∀ i, i < k → ss.getD i ByteArray.empty ≠ x)) (fun i => n - (intOf i).toNat)
  case atStart => exact ⟨0, Nat.zero_le _, rfl, fun i hi => by omega⟩
  case round =>
    obtain ⟨k, hk, rfl, hu⟩ := hrel
    by_cases hlt : k < n
    · rcases hr with hr | ⟨b, off, rfl, hbl, hc⟩
      · exact absurd HN.out (by rw [hr]; simp; omega)
      have c0 := hc k (by rw [HN.out]; exact hlt)
      clear hc
      by_cases he : ss.getD k ByteArray.empty = x
      · have HV := hid (has_yes (by rw [HN.out]; exact hlt) he)
        have he' := str_eq he.symm
        clear he
        generalize ss.getD k ByteArray.empty = s at *
        go_wp2
        go_ret
        exact ⟨⟨k, rfl, by rw [HV.out]; simp⟩, rfl⟩
      · have HU : Hid (∀ i, i < k + 1 → ss.getD i ByteArray.empty ≠ x) := by
          intro i hi
          by_cases e : i = k
          · subst e; exact he
          · exact hu.out i (by omega)
        have he' := str_ne (fun h => he h.symm)
        clear he
        generalize ss.getD k ByteArray.empty = s at *
        go_wp2
        go_round
        case rel => exact ⟨k + 1, by omega, by go_num, HU.out⟩
        case measure => simp [intOf]; omega
    · go_wp2
      go_ret
      exact ⟨⟨-1, rfl, by rw [has_no (fun i hi => hu.out i (by have := HN.out; omega))]; simp⟩, rfl⟩
theorem f79 (a : Option Addr) (n c : Nat) (ss : List ByteArray) (x : ByteArray) (w : World) (hn : ss.length = n) (hb : n ≤ 1048576) (hr : HasT w a ss) :
    Calls Tryz.prog 79 #[.slice a n c, .string x] w fun e w' => e = .returned (.bool (hasB ss x)) ∧ w' = w := by
  go_enter Tryz.func79, Tryz.ntmps79
  go_wp2_with fail
  refine (f86 a n c ss x _ hn hb hr).mono ?_
  rintro e w1 ⟨⟨y, rfl, hy⟩, rfl⟩
  have HY := hid hy
  clear hy
  by_cases h0 : 0 ≤ y
  · go_wp2
    go_ret
    exact ⟨ret_bool (by rw [← HY.out]; simp [h0]), rfl⟩
  · go_wp2
    go_ret
    exact ⟨ret_bool (by rw [← HY.out]), rfl⟩

set_option maxHeartbeats 1000000 in
theorem f29 (a : Option Addr) (n c : Nat) (L : Int) (ss : List ByteArray) (w : World) (hL0 : 0 ≤ L) (hL1 : L ≤ 1048576) (hn : ss.length = n) (hr : HasT w a ss) (hf : FitT ss) (hmax : n ≤ maxLen) :
    Calls Tryz.prog 29 #[.slice a n c, .int .i64 L] w fun e w' => ∃ y : Int, e = .returned (.int .i64 y) ∧ (0 ≤ y → n ≤ 1048576) ∧ -1 ≤ y ∧ y ≤ 1048576 ∧ w' = w := by
  unfold maxLen at hmax
  by_cases hbig : (n : Int) ≤ L
  · have HN := hid hn
    clear hn
    go_enter Tryz.func29, Tryz.ntmps29
    go_wp2
    go_loop [1, 5] (fun sx i => ∃ (k : Nat) (x : Int), k ≤ n ∧ i = .int .i64 k ∧ sx = .int .i64 x ∧ 0 ≤ x ∧ x ≤ 1048576) (fun _ i => n - (intOf i).toNat)
    case atStart => exact ⟨0, _, Nat.zero_le _, rfl, rfl, by omega, by omega⟩
    case round =>
      obtain ⟨k, x, hk, rfl, rfl, hx0, hx1⟩ := hrel
      by_cases hlt : k < n
      · rcases hr with h | ⟨b, off, rfl, h2, h3⟩
        · exfalso; rw [h] at HN; have := HN.out; simp at this; omega
        have c0 := h3 k (by rw [HN.out]; exact hlt)
        have g0 := hf k
        clear h3
        generalize ss.getD k ByteArray.empty = s at *
        unfold maxLen at g0
        by_cases hy : x - s.size < 0
        · go_wp2
          go_ret
          exact ⟨-1, rfl, fun h => absurd h (by omega), by omega, by omega, rfl⟩
        · go_wp2
          go_round
          case rel => exact ⟨k + 1, _, by omega, by go_num, rfl, by omega, by omega⟩
          case measure => simp [intOf]; omega
      · go_wp2
        go_ret
        exact ⟨x, rfl, fun _ => by omega, by omega, hx1, rfl⟩
  · go_enter Tryz.func29, Tryz.ntmps29
    go_wp2
    go_ret
    exact ⟨-1, rfl, by omega, by omega, by omega, rfl⟩

theorem info9 : (Tryz.prog.info? 9).map (fun i => (i.zero, i.size, i.bytes)) = some (some (.string ByteArray.empty), 1, 16) := by kernel_rfl
theorem stepT_set (ss : List ByteArray) (n k : Nat) (hn : ss.length = n) (hk : k < n) : (ss.take k ++ List.replicate (n - k) ByteArray.empty).set k (ss.getD k ByteArray.empty) = ss.take (k + 1) ++ List.replicate (n - (k + 1)) ByteArray.empty := by
  have hl : (ss.take k).length = k := by simp; omega
  rw [List.set_append_right _ _ (by omega), hl, Nat.sub_self, show n - k = (n - (k + 1)) + 1 from by omega, List.replicate_succ, List.set_cons_zero, List.take_succ_eq_append_getElem (by omega), List.append_assoc]
  congr 2
  simp [hn, hk]

set_option maxHeartbeats 1000000 in
theorem f38 (a : Option Addr) (n c : Nat) (ss : List ByteArray) (w : World) (hn : ss.length = n) (hb : n ≤ 1048576) (hr : HasT w a ss) :
    Calls Tryz.prog 38 #[.slice a n c] w fun e w' => e = .returned (.slice (some ⟨w.heap.size, 0, none⟩) n n) ∧
      w'.ownsRow w.heap.size 9 1 (.slice (some ⟨w.heap.size, 0, none⟩) n n) n (ss.map Value.string) ∧ Below w.heap.size w w' := by
  obtain ⟨i0, hi, hz0, hz1, hz2⟩ := info_parts info9
  have HN : Hid (ss.length = n) := hn
  clear hn
  go_enter Tryz.func38, Tryz.ntmps38
  go_wp2_with (at_make; refine wpList_make_full _ rfl _ _ 41 rfl w.heap.size 9 i0 (.string ByteArray.empty) 1 Tryz.underlying41 hi hz0 hz1 _ _ _ _ n rfl rfl rfl rfl ?b2 ?b3 (Nat.le_refl _) ?_)
  case b2 => rw [hz2]; omega
  case b3 => unfold maxLen; omega
  intro w0 hown0 hgrow0
  have HO0 := hid hown0
  have HG0 := hid hgrow0
  clear hown0 hgrow0
  go_wp2
  go_loopw [4] (fun i wr => ∃ k : Nat, k ≤ n ∧ i = .int .i64 k ∧ wr.ownsRow w.heap.size 9 1 (.slice (some ⟨w.heap.size, 0, none⟩) n n) n ((ss.take k ++ List.replicate (n - k) ByteArray.empty).map Value.string) ∧ Below w.heap.size w wr)
    (fun i _ => n - (intOf i).toNat)
  case atStart => exact ⟨0, Nat.zero_le _, rfl, by simpa [toList_madeCells_one, Value.cells] using HO0.out, (Below.refl _ _).grown HG0.out (Nat.le_refl _) (fun k h => by cases h)⟩
  case round =>
    obtain ⟨k, hk, rfl, hown, hnx⟩ := hrel
    have HX := hid hnx
    by_cases hlt : k < n
    · rcases hr with hr | ⟨b, off, rfl, hbl, hc⟩
      · exact absurd HN.out (by rw [hr]; simp; omega)
      have d0 := (hnx.cell (p := ⟨b, off + k, none⟩) hbl).trans (hc k (by rw [HN.out]; exact hlt))
      have fz := hown.frozenAt k
      have hkl : k < (ss.take k ++ List.replicate (n - k) ByteArray.empty).length := by simp; have := HN.out; omega
      have cz : wr.cell? ⟨w.heap.size, k, none⟩ = some (.string ((ss.take k ++ List.replicate (n - k) ByteArray.empty)[k])) := by
        rw [hown.cellAt k (by omega), List.getElem?_map, List.getElem?_eq_getElem hkl]; rfl
      have HS := hown.stored k (.string (ss.getD k ByteArray.empty))
      rw [← List.map_set, stepT_set ss n k HN.out hlt] at HS
      have HS' := hid HS.1
      clear HS hc hown hnx HO0 HG0
      generalize (ss.take k ++ List.replicate (n - k) ByteArray.empty)[k] = u0 at *
      generalize ss.getD k ByteArray.empty = s at *
      go_wp2
      go_roundw
      case rel => exact ⟨k + 1, by omega, by go_num, HS'.out, HX.out.setCell (Nat.le_refl _) _⟩
      case measure => simp [intOf]; omega
    · go_wp2
      go_ret
      have : k = n := by omega
      subst this
      refine ⟨rfl, ?_, HX.out⟩
      have e := HN.out
      simpa [← e] using hown

set_option maxHeartbeats 1000000 in
theorem f47 (a a' : Option Addr) (n c c' : Nat) (ss : List ByteArray) (w : World) (hn : ss.length = n) (hb : n ≤ 1048576) (hr : HasT w a ss) (hr' : HasT w a' ss) :
    Calls Tryz.prog 47 #[.slice a n c, .slice a' n c'] w fun e w' => e = .returned (.bool true) ∧ Below w.heap.size w w' := by
  have HN := hid hn
  clear hn
  go_enter Tryz.func47, Tryz.ntmps47
  go_wp2
  go_loopw [5] (fun i wr => ∃ k : Nat, k ≤ n ∧ i = .int .i64 k ∧ Below w.heap.size w wr) (fun i _ => n - (intOf i).toNat)
  case atStart => exact ⟨0, Nat.zero_le _, rfl, Below.refl _ _⟩
  case round =>
    obtain ⟨k, hk, rfl, hnx⟩ := hrel
    have HX := hid hnx
    by_cases hlt : k < n
    · rcases hr with hr | ⟨b, off, rfl, hbl, hc⟩
      · exact absurd HN.out (by rw [hr]; simp; omega)
      rcases hr' with hr | ⟨b', off', rfl, hbl', hc'⟩
      · exact absurd HN.out (by rw [hr]; simp; omega)
      have d0 := (hnx.cell (p := ⟨b, off + k, none⟩) hbl).trans (hc k (by rw [HN.out]; exact hlt))
      have d0' := (hnx.cell (p := ⟨b', off' + k, none⟩) hbl').trans (hc' k (by rw [HN.out]; exact hlt))
      have i1 : (k : Int) < (n : Int) := by omega
      clear hc hc' hnx
      generalize ss.getD k ByteArray.empty = s at *
      go_wp2
      go_quiet (fail)
      go_wp2
      go_roundw
      case rel => exact ⟨k + 1, by omega, by go_num, below_drewN HX.out _⟩
      case measure => simp [intOf]; omega
    · go_wp2
      go_ret
      exact ⟨rfl, HX.out⟩

end Go.Proofs.YthcogkoleiejgaaGreat.Lab
