/- l2Of at lists of any length. -/
import Derived.Test.YtcknlidbjnmbjaaGreatDoorRCB
import Derived.Laws.BytesArg
import Derived.Deep.RegionHeld3
import Derived.Shelf.GgSortFunc.InsertionK
import Derived.Shelf.SlSortCmp.Insertion
import Derived.Test.YtcknlidbjnmbjaaGreatDoorRGL
namespace Go.Proofs.YtcknlidbjnmbjaaGreatDoor.Lab
open Go.RowKit Go.Proofs.YtcknlidbjnmbjaaGreatDoor.Str
set_option maxHeartbeats 1000000 in
theorem f35w (a : Option Addr) (n c : Nat) (ls : List Lb) (x : ByteArray) (w : World) (hn : ls.length = n) (h20 : n ≤ 1048576) (hr : HasL w a ls) :
    Calls Tryz.prog 35 #[.slice a n c, .string x] w fun e w' => ∃ v, OfV ls x v ∧ e = .returned (.string v) ∧ Below w.heap.size w w' := by
  have HN := hid hn
  clear hn
  go_enter Tryz.func35, Tryz.ntmps35
  go_wp2
  go_loopw [9] (fun i wr => ∃ k : Nat, k ≤ n ∧ i = .int .i64 k ∧ Hid (∀ i, i < k → (ls.getD i e0).1 ≠ x) ∧ Below w.heap.size w wr) (fun i _ => n - (intOf i).toNat)
  case atStart => exact ⟨0, Nat.zero_le _, rfl, fun i hi => by omega, Below.refl _ _⟩
  case round =>
    obtain ⟨k, hk, rfl, hu, hnx⟩ := hrel
    have HX := hid hnx
    by_cases hlt : k < n
    · rcases hr with hr | ⟨b, off, rfl, hbl, hc⟩
      · exact absurd HN.out (by rw [hr]; simp; omega)
      obtain ⟨c0, c1⟩ := hc k (by rw [HN.out]; exact hlt)
      have d0 := (hnx.cell (p := ⟨b, off + k * 2, none⟩) hbl).trans c0
      have d1 := (hnx.cell (p := ⟨b, off + k * 2 + 1, none⟩) hbl).trans c1
      by_cases he : (ls.getD k e0).1 = x
      · have HV : Hid (OfV ls x (ls.getD k e0).2) := .inl ⟨k, by rw [HN.out]; exact hlt, he, rfl, hu.out⟩
        have he' : ((ls.getD k e0).1.toList == x.toList) = true := str_eq he
        clear hc c0 c1 hnx he
        generalize (ls.getD k e0).1 = s at *
        generalize (ls.getD k e0).2 = t at *
        go_wp2
        go_ret
        exact ⟨t, HV.out, rfl, HX.out.alloc HX.out.size _⟩
      · have HU : Hid (∀ i, i < k + 1 → (ls.getD i e0).1 ≠ x) := by
          intro i hi
          by_cases e : i = k
          · subst e; exact he
          · exact hu.out i (by omega)
        have he' : ((ls.getD k e0).1.toList == x.toList) = false := str_ne he
        clear hc c0 c1 hnx he
        generalize (ls.getD k e0).1 = s at *
        generalize (ls.getD k e0).2 = t at *
        go_wp2
        go_roundw
        case rel => exact ⟨k + 1, by omega, by go_num, HU.out, HX.out.alloc HX.out.size _⟩
        case measure => simp [intOf]; omega
    · go_wp2
      go_ret
      exact ⟨_, .inr ⟨fun i hi => hu.out i (by have := HN.out; omega), rfl⟩, rfl, HX.out⟩

end Go.Proofs.YtcknlidbjnmbjaaGreatDoor.Lab
/- The marks: what markText comes to. -/
namespace Go.Proofs.YtcknlidbjnmbjaaGreatDoor.Lab
open Go.RowKit Go.Proofs.YtcknlidbjnmbjaaGreatDoor.Str

theorem one_new (w : World) (v : Value) (t : TypeId) : (w.alloc (.cells #[v] t)).cell? ⟨w.heap.size, 0, none⟩ = some v := by
  have h := heap_alloc_new w (.cells #[v] t)
  unfold World.cell?
  simp only [h]
  rfl

def dgs (k : Nat) (out : ByteArray) : ByteArray := if k = 0 then out else dgs (k / 10) (strOfNums [48 + (k : Int) % 10] ++ out)
termination_by k
decreasing_by omega
theorem dgs_zero (out : ByteArray) : dgs 0 out = out := by rw [dgs, if_pos rfl]
theorem dgs_pos (k : Nat) (out : ByteArray) (h : 0 < k) : dgs k out = dgs (k / 10) (strOfNums [48 + (k : Int) % 10] ++ out) := by rw [dgs, if_neg (by omega)]
def mkT (k : Nat) : ByteArray := if k = 0 then { data := #[109, 48] } else { data := #[109] } ++ dgs k ByteArray.empty

set_option maxHeartbeats 1000000 in
set_option maxRecDepth 100000 in
theorem f28 (k : Nat) (w : World) (hk : k ≤ 100000000) :
    Calls Tryz.prog 28 #[.int .i64 k] w fun e w' => e = .returned (.string (mkT k)) ∧ Below w.heap.size w w' := by
  by_cases h0 : k = 0
  · subst h0
    go_enter Tryz.func28, Tryz.ntmps28
    go_wp2
    go_ret
    exact ⟨ret_str (by unfold mkT; rw [if_pos rfl]), Below.refl _ _⟩
  have HE : Hid (mkT k = { data := #[109] } ++ dgs k ByteArray.empty) := by unfold Hid mkT; rw [if_neg h0]
  go_enter Tryz.func28, Tryz.ntmps28
  go_wp2
  go_loopw [0, 3] (fun sk so wr => ∃ (j : Nat) (out : ByteArray), out.size + j ≤ k ∧ sk = .int .i64 j ∧ so = .string out ∧ Hid (dgs j out = dgs k ByteArray.empty) ∧ Below w.heap.size w wr) (fun sk _ _ => (intOf sk).toNat)
  case atStart => exact ⟨k, ByteArray.empty, by simp, rfl, rfl, rfl, Below.refl _ _⟩
  case round =>
    obtain ⟨j, out, hj, rfl, rfl, hd, hnx⟩ := hrel
    have HX := hid hnx
    clear hnx
    by_cases hlt : 0 < j
    · have kc := run_convert_bytes_arg (P := Tryz.prog) (wr.alloc (.cells #[.int .u8 (48 + (j : Int) % 10)] 5)) 75 5 Tryz.underlying75 Tryz.underlying5 wr.heap.size 0 1 1 [48 + (j : Int) % 10] rfl (by
        intro i hi
        obtain rfl : i = 0 := by omega
        exact one_new wr _ 5) 9 Tryz.underlying9
      have HS : Hid ((strOfNums [48 + (j : Int) % 10]).size = 1) := rfl
      have hs2 : (strOfNums [48 + (j : Int) % 10]).size ≤ 1 := by rw [HS.out]; exact Nat.le_refl _
      have HD := hid (dgs_pos j out hlt)
      generalize strOfNums [48 + (j : Int) % 10] = u at *
      go_wp2
      go_roundw
      case rel =>
        refine ⟨j / 10, u ++ out, ?_, by go_num, rfl, by unfold Hid; rw [← HD.out]; exact hd.out, HX.out.alloc HX.out.size _⟩
        rw [ByteArray.size_append, HS.out]; omega
      case measure => simp [intOf]; omega
    · obtain rfl : j = 0 := by omega
      have hs : out.size ≤ 100000000 := by omega
      go_wp2
      go_ret
      exact ⟨ret_str (by rw [HE.out, ← hd.out, dgs_zero]), HX.out⟩
end Go.Proofs.YtcknlidbjnmbjaaGreatDoor.Lab
/- Rows of labels marked and held: markLabelS, heldLabelS. -/
namespace Go.Proofs.YtcknlidbjnmbjaaGreatDoor.Lab
open Go.RowKit Go.Proofs.YtcknlidbjnmbjaaGreatDoor.Str

theorem grown_trans {a b c : World} {r : Option Nat} (h : a.grownBy b r) (k : b.grownBy c r) : a.grownBy c r :=
  ⟨k.os.trans h.os, k.tape.trans h.tape, k.output.trans h.output, Nat.le_trans h.size k.size, fun i hi hne => (k.block i (Nat.lt_of_lt_of_le hi h.size) hne).trans (h.block i hi hne)⟩
theorem grown_below {a b : World} (r : Option Nat) (h : Below a.heap.size a b) : a.grownBy b r := ⟨h.os, h.tape, h.output, h.size, fun i hi _ => h.block i hi⟩
theorem grown_setRow {w w' : World} {g o : Nat} (h : w.grownBy w' (some g)) (u : Value) : w.grownBy (w'.setCell ⟨g, o, none⟩ u) (some g) :=
  ⟨h.os, h.tape, h.output, by simpa using h.size, fun i hi hne => (Below.heap_setCell w' ⟨g, o, none⟩ u i (by intro e; exact hne (by rw [e]))).trans (h.block i hi hne)⟩
theorem below_grown {B g : Nat} {a w w' : World} (h : Below B a w) (hg : w.grownBy w' (some g)) (hB : B ≤ w.heap.size) (hr : B ≤ g) : Below B a w' := h.grown hg hB (by intro k hk; cases hk; exact hr)

def markL (k n : Nat) : List Lb := (List.range n).map fun i => (mkT (k + 2 * i), mkT (k + 2 * i + 1))
theorem markL_len (k n : Nat) : (markL k n).length = n := by simp [markL]
theorem markL_get (k n i : Nat) (h : i < n) : (markL k n).getD i e0 = (mkT (k + 2 * i), mkT (k + 2 * i + 1)) := by simp [markL, h]

/-- The row while it is being marked. -/
def markR (k : Nat) (ls : List Lb) (i : Nat) : List Lb := (markL k i) ++ ls.drop i
theorem markR_zero (k : Nat) (ls : List Lb) : markR k ls 0 = ls := by simp [markR, markL]
theorem markR_end (k n : Nat) (ls : List Lb) (h : ls.length = n) : markR k ls n = markL k n := by simp [markR, ← h]
theorem markR_len (k n i : Nat) (ls : List Lb) (h : ls.length = n) (hi : i ≤ n) : (markR k ls i).length = n := by simp [markR, markL_len]; omega
theorem markR_set (k n i : Nat) (ls : List Lb) (h : ls.length = n) (hi : i < n) : (markR k ls i).set i (mkT (k + 2 * i), mkT (k + 2 * i + 1)) = markR k ls (i + 1) := by
  unfold markR
  rw [List.set_append_right _ _ (by rw [markL_len]; exact Nat.le_refl _), markL_len, Nat.sub_self, List.drop_eq_getElem_cons (by omega), List.set_cons_zero]
  have : markL k (i + 1) = markL k i ++ [(mkT (k + 2 * i), mkT (k + 2 * i + 1))] := by simp [markL, List.range_succ]
  rw [this, List.append_assoc]
  rfl

set_option maxHeartbeats 2000000 in
theorem f13 (g n c base k : Nat) (ls : List Lb) (w : World) (hn : ls.length = n) (hk : k + 2 * n ≤ 100000000) (hown : w.ownsRow base 48 2 (.slice (some ⟨g, 0, none⟩) n c) n (flat ls)) :
    Calls Tryz.prog 13 #[.slice (some ⟨g, 0, none⟩) n c, .int .i64 k] w fun e w' => e = .returned (.int .i64 ((k + 2 * n : Nat) : Int)) ∧ w'.ownsRow base 48 2 (.slice (some ⟨g, 0, none⟩) n c) n (flat (markL k n)) ∧ w.grownBy w' (some g) := by
  have HN := hid hn
  have HO0 := hid hown
  clear hn hown
  go_enter Tryz.func13, Tryz.ntmps13
  go_wp2
  go_loopw [1, 5] (fun sk si wr => ∃ (i m : Nat), i ≤ n ∧ si = .int .i64 i ∧ sk = .int .i64 (m : Int) ∧ Hid (m = k + 2 * i) ∧ wr.ownsRow base 48 2 (.slice (some ⟨g, 0, none⟩) n c) n (flat (markR k ls i)) ∧ w.grownBy wr (some g)) (fun _ si _ => n - (intOf si).toNat)
  case atStart => exact ⟨0, k, Nat.zero_le _, rfl, rfl, rfl, by rw [markR_zero]; exact HO0.out, ⟨rfl, rfl, rfl, Nat.le_refl _, fun _ _ _ => rfl⟩⟩
  case round =>
    obtain ⟨i, m, hi, rfl, rfl, hm, hown, hgr⟩ := hrel
    have HO := hid hown
    have HG := hid hgr
    have HM := hid (markR_len k n i ls HN.out hi)
    clear hown hgr HO0
    by_cases hlt : i < n
    · have HS := hid (markR_set k n i ls HN.out hlt)
      have hm1 : m ≤ 99999998 := by have := hm.out; omega
      go_wp2_with fail
      refine (f28 m _ (by omega)).mono ?_
      rintro e w2 ⟨rfl, hb2⟩
      have HO2 := hid (own_below HO.out hb2)
      have HG2 := hid (grown_trans HG.out (grown_below (some g) hb2))
      have fz := HO2.out.frozenAt (i * 2)
      obtain ⟨y0, y1⟩ := flat_get (markR k ls i) i (by rw [HM.out]; exact hlt)
      have cz := (HO2.out.cellAt (i * 2) (by omega)).trans y0
      have HO3 := hid (HO2.out.stored (i * 2) (.string (mkT m))).1
      have HG3 := hid (grown_setRow (o := i * 2) HG2.out (.string (mkT m)))
      clear hb2 y0 y1
      go_wp2_with fail
      refine (f28 (m + 1) _ (by omega)).mono ?_
      rintro e w3 ⟨rfl, hb3⟩
      have HO4 := hid (own_below HO3.out hb3)
      have HG4 := hid (grown_trans HG3.out (grown_below (some g) hb3))
      have fz4 := HO4.out.frozenAt (i * 2 + 1)
      obtain ⟨y0, y1⟩ := flat_get (markR k ls i) i (by rw [HM.out]; exact hlt)
      have cz4 := (HO4.out.cellAt (i * 2 + 1) (by omega)).trans ((List.getElem?_set_ne (by omega)).trans y1)
      have HO5 := hid (HO4.out.stored (i * 2 + 1) (.string (mkT (m + 1)))).1
      have HG5 := hid (grown_setRow (o := i * 2 + 1) HG4.out (.string (mkT (m + 1))))
      clear hb3 y0 y1 fz cz
      go_wp2
      go_roundw
      case rel =>
        refine ⟨i + 1, m + 2, by omega, by go_num, by go_num, by have := hm.out; unfold Hid; omega, ?_, HG5.out⟩
        have := HO5.out
        rw [flat_set _ i _ _ (by rw [HM.out]; exact hlt)] at this
        rw [← HS.out, ← hm.out]
        exact this
      case measure => simp [intOf]; omega
    · obtain rfl : i = n := by omega
      go_wp2
      go_ret
      exact ⟨by rw [← hm.out]; rfl, by rw [← markR_end k i ls HN.out]; exact HO.out, HG.out⟩
theorem f13n (k : Nat) (w : World) : Calls Tryz.prog 13 #[.slice none 0 0, .int .i64 k] w fun e w' => e = .returned (.int .i64 k) ∧ w' = w := by
  go_enter Tryz.func13, Tryz.ntmps13
  go_wp2
  go_loop [1, 5] (fun sk i => sk = .int .i64 k ∧ i = .int .i64 0) (fun _ _ => 0)
  case atStart => exact ⟨rfl, rfl⟩
  case round =>
    obtain ⟨rfl, rfl⟩ := hrel
    go_wp2
    go_ret
    exact ⟨rfl, rfl⟩
end Go.Proofs.YtcknlidbjnmbjaaGreatDoor.Lab
/- Marks that are held: heldLabelS. -/
namespace Go.Proofs.YtcknlidbjnmbjaaGreatDoor.Lab
open Go.RowKit Go.Proofs.YtcknlidbjnmbjaaGreatDoor.Str

/-- A text in a cell, and all that was there is as it was. -/
abbrev UU (w : World) (b o : Nat) (v : ByteArray) (w' : World) : Prop := w'.cell? ⟨b, o, none⟩ = some (.string v) ∧ b < w'.heap.size ∧ Below w.heap.size w w'
theorem UU.below {w W W' : World} {b o : Nat} {v : ByteArray} (h : UU w b o v W) (hb : Below W.heap.size W W') : UU w b o v W' :=
  ⟨(hb.cell (p := ⟨b, o, none⟩) h.2.1).trans h.1, Nat.lt_of_lt_of_le h.2.1 hb.size, h.2.2.trans (hb.mono h.2.2.size)⟩
theorem UU.drew {w W : World} {b o : Nat} {v : ByteArray} (h : UU w b o v W) : UU w b o v W.drew := ⟨h.1, h.2.1, h.2.2.drew⟩

set_option maxHeartbeats 2000000 in
theorem f14 (g n c k : Nat) (w : World) (hk : k + 2 * n ≤ 100000000) (hr : HasL w (some ⟨g, 0, none⟩) (markL k n)) :
    Calls Tryz.prog 14 #[.slice (some ⟨g, 0, none⟩) n c, .int .i64 k] w fun e w' => e = .returned (.int .i64 ((k + 2 * n : Nat) : Int)) ∧ Below w.heap.size w w' := by
  go_enter Tryz.func14, Tryz.ntmps14
  go_wp2
  go_loopw [1, 5] (fun sk si wr => ∃ (i m : Nat), i ≤ n ∧ si = .int .i64 i ∧ sk = .int .i64 (m : Int) ∧ Hid (m = k + 2 * i) ∧ Below w.heap.size w wr) (fun _ si _ => n - (intOf si).toNat)
  case atStart => exact ⟨0, k, Nat.zero_le _, rfl, rfl, rfl, Below.refl _ _⟩
  case round =>
    obtain ⟨i, m, hi, rfl, rfl, hm, hnx⟩ := hrel
    have HX := hid hnx
    by_cases hlt : i < n
    · rcases hr with hr | ⟨b, off, hbo, hbl, hc⟩
      · have := markL_len k n; rw [hr] at this; simp at this; omega
      simp only [Option.some.injEq, Addr.mk.injEq, and_true] at hbo
      obtain ⟨rfl, rfl⟩ := hbo
      obtain ⟨c0, c1⟩ := hc i (by rw [markL_len]; exact hlt)
      rw [markL_get k n i hlt, ← hm.out, Nat.zero_add] at c0 c1
      have HS := hid (show UU w g (i * 2) (mkT m) wr from ⟨(hnx.cell (p := ⟨g, i * 2, none⟩) hbl).trans c0, Nat.lt_of_lt_of_le hbl hnx.size, hnx⟩)
      have HT := hid (show w.cell? ⟨g, i * 2 + 1, none⟩ = some (.string (mkT (m + 1))) from c1)
      have HL := hid hbl
      have i1 : (i : Int) < (n : Int) := by omega
      have hm1 : m ≤ 99999998 := by have := hm.out; omega
      clear hc c0 c1 hnx hbl
      go_wp2_with fail
      go_region_held3 (fun w' => UU w g (i * 2) (mkT m) w') (first | exact HS.out.drew | assumption) (first | (go_at_call 28; refine (f28 m _ (by omega)).mono ?_; rintro e w2 ⟨rfl, hb2⟩; have hs2 := UU.below (by assumption) hb2; clear hb2))
      have HX2 := hid hs2.2.2
      have HS2 := hid (show UU w g (i * 2 + 1) (mkT (m + 1)) w2 from ⟨(HX2.out.cell (p := ⟨g, i * 2 + 1, none⟩) HL.out).trans HT.out, hs2.2.1, hs2.2.2⟩)
      clear hs2
      go_wp2_with fail
      go_region_held3 (fun w' => UU w g (i * 2 + 1) (mkT (m + 1)) w') (first | exact HS2.out.drew | assumption) (first | (go_at_call 28; refine (f28 (m + 1) _ (by omega)).mono ?_; rintro e w3 ⟨rfl, hb3⟩; have hs3 := UU.below (by assumption) hb3; clear hb3))
      have HX3 := hid hs3.2.2
      clear hs3
      go_wp2
      go_roundw
      case rel => exact ⟨i + 1, m + 2, by omega, by go_num, by go_num, by have := hm.out; unfold Hid; omega, HX3.out⟩
      case measure => simp [intOf]; omega
    · obtain rfl : i = n := by omega
      go_wp2
      go_ret
      exact ⟨by rw [← hm.out]; rfl, HX.out⟩
theorem f14n (k : Nat) (w : World) : Calls Tryz.prog 14 #[.slice none 0 0, .int .i64 k] w fun e w' => e = .returned (.int .i64 k) ∧ w' = w := by
  go_enter Tryz.func14, Tryz.ntmps14
  go_wp2
  go_loop [1, 5] (fun sk i => sk = .int .i64 k ∧ i = .int .i64 0) (fun _ _ => 0)
  case atStart => exact ⟨rfl, rfl⟩
  case round =>
    obtain ⟨rfl, rfl⟩ := hrel
    go_wp2
    go_ret
    exact ⟨rfl, rfl⟩
end Go.Proofs.YtcknlidbjnmbjaaGreatDoor.Lab
/- Lists of texts: szStringS, toStringS, eqStringS, l2Has, slices.Contains. -/
namespace Go.Proofs.YtcknlidbjnmbjaaGreatDoor.Lab
open Go.RowKit Go.Proofs.YtcknlidbjnmbjaaGreatDoor.Str

/-- The slice that begins at 'a' holds the texts 'ss' in the world 'w'. -/
def HasT (w : World) (a : Option Addr) (ss : List ByteArray) : Prop :=
  ss = [] ∨ ∃ b off, a = some ⟨b, off, none⟩ ∧ b < w.heap.size ∧ ∀ i, i < ss.length → w.cell? ⟨b, off + i, none⟩ = some (.string (ss.getD i ByteArray.empty))
theorem HasT.below {w w' : World} {a : Option Addr} {ss : List ByteArray} (h : HasT w a ss) (hb : Below w.heap.size w w') : HasT w' a ss := by
  rcases h with h | ⟨b, off, h1, h2, h3⟩
  · exact .inl h
  · exact .inr ⟨b, off, h1, Nat.lt_of_lt_of_le h2 hb.size, fun i hi => (hb.cell (by exact h2)).trans (h3 i hi)⟩
theorem HasT.own {w : World} {base g n c : Nat} {ss : List ByteArray} (h : w.ownsRow base 9 1 (.slice (some ⟨g, 0, none⟩) n c) n (ss.map Value.string)) : HasT w (some ⟨g, 0, none⟩) ss := by
  have hl := h.1
  rw [List.length_map, Nat.mul_one] at hl
  refine .inr ⟨g, 0, rfl, (h.lt g rfl).2, fun i hi => ?_⟩
  rw [Nat.zero_add, h.cellAt i (by omega)]
  simp [hi]
def FitT (ss : List ByteArray) : Prop := ∀ i, (ss.getD i ByteArray.empty).size ≤ maxLen
def hasB (ss : List ByteArray) (x : ByteArray) : Bool := decide (∃ i, i < ss.length ∧ ss.getD i ByteArray.empty = x)
theorem has_yes {ss : List ByteArray} {x : ByteArray} {i : Nat} (h : i < ss.length) (e : ss.getD i ByteArray.empty = x) : hasB ss x = true := decide_eq_true ⟨i, h, e⟩
theorem has_no {ss : List ByteArray} {x : ByteArray} (h : ∀ i, i < ss.length → ss.getD i ByteArray.empty ≠ x) : hasB ss x = false := decide_eq_false fun ⟨i, h1, h2⟩ => h i h1 h2

set_option maxHeartbeats 1000000 in
theorem f160 (a : Option Addr) (n c : Nat) (ss : List ByteArray) (x : ByteArray) (w : World) (hn : ss.length = n) (hb : n ≤ 1048576) (hr : HasT w a ss) :
    Calls Tryz.prog 160 #[.slice a n c, .string x] w fun e w' => (∃ y : Int, e = .returned (.int .i64 y) ∧ decide (0 ≤ y) = hasB ss x) ∧ w' = w := by
  have HN := hid hn
  clear hn
  go_enter Tryz.func160, Tryz.ntmps160
  go_wp2
  go_loop [8] (fun i => ∃ k : Nat, k ≤ n ∧ i = .int .i64 k ∧ Hid (∀ i, i < k → ss.getD i ByteArray.empty ≠ x)) (fun i => n - (intOf i).toNat)
  case atStart => exact ⟨0, Nat.zero_le _, rfl, fun i hi => by omega⟩
  case round =>
    obtain ⟨k, hk, rfl, hu⟩ := hrel
    by_cases hlt : k < n
    · rcases hr with hr | ⟨b, off, rfl, hbl, hc⟩
      · exact absurd HN.out (by rw [hr]; simp; omega)
      have c0 := hc k (by rw [HN.out]; exact hlt)
      clear hc
      by_cases he : ss.getD k ByteArray.empty = x
      · have HV := hid (has_yes (by rw [HN.out]; exact hlt) he)
        have he' := str_eq he.symm
        clear he
        generalize ss.getD k ByteArray.empty = s at *
        go_wp2
        go_ret
        exact ⟨⟨k, rfl, by rw [HV.out]; simp⟩, rfl⟩
      · have HU : Hid (∀ i, i < k + 1 → ss.getD i ByteArray.empty ≠ x) := by
          intro i hi
          by_cases e : i = k
          · subst e; exact he
          · exact hu.out i (by omega)
        have he' := str_ne (fun h => he h.symm)
        clear he
        generalize ss.getD k ByteArray.empty = s at *
        go_wp2
        go_round
        case rel => exact ⟨k + 1, by omega, by go_num, HU.out⟩
        case measure => simp [intOf]; omega
    · go_wp2
      go_ret
      exact ⟨⟨-1, rfl, by rw [has_no (fun i hi => hu.out i (by have := HN.out; omega))]; simp⟩, rfl⟩
theorem f157 (a : Option Addr) (n c : Nat) (ss : List ByteArray) (x : ByteArray) (w : World) (hn : ss.length = n) (hb : n ≤ 1048576) (hr : HasT w a ss) :
    Calls Tryz.prog 157 #[.slice a n c, .string x] w fun e w' => e = .returned (.bool (hasB ss x)) ∧ w' = w := by
  go_enter Tryz.func157, Tryz.ntmps157
  go_wp2_with fail
  refine (f160 a n c ss x _ hn hb hr).mono ?_
  rintro e w1 ⟨⟨y, rfl, hy⟩, rfl⟩
  have HY := hid hy
  clear hy
  by_cases h0 : 0 ≤ y
  · go_wp2
    go_ret
    exact ⟨ret_bool (by rw [← HY.out]; simp [h0]), rfl⟩
  · go_wp2
    go_ret
    exact ⟨ret_bool (by rw [← HY.out]), rfl⟩

set_option maxHeartbeats 1000000 in
theorem f48 (a : Option Addr) (n c : Nat) (L : Int) (ss : List ByteArray) (w : World) (hL0 : 0 ≤ L) (hL1 : L ≤ 1048576) (hn : ss.length = n) (hr : HasT w a ss) (hf : FitT ss) (hmax : n ≤ maxLen) :
    Calls Tryz.prog 48 #[.slice a n c, .int .i64 L] w fun e w' => ∃ y : Int, e = .returned (.int .i64 y) ∧ (0 ≤ y → n ≤ 1048576) ∧ -1 ≤ y ∧ y ≤ 1048576 ∧ w' = w := by
  unfold maxLen at hmax
  by_cases hbig : (n : Int) ≤ L
  · have HN := hid hn
    clear hn
    go_enter Tryz.func48, Tryz.ntmps48
    go_wp2
    go_loop [1, 5] (fun sx i => ∃ (k : Nat) (x : Int), k ≤ n ∧ i = .int .i64 k ∧ sx = .int .i64 x ∧ 0 ≤ x ∧ x ≤ 1048576) (fun _ i => n - (intOf i).toNat)
    case atStart => exact ⟨0, _, Nat.zero_le _, rfl, rfl, by omega, by omega⟩
    case round =>
      obtain ⟨k, x, hk, rfl, rfl, hx0, hx1⟩ := hrel
      by_cases hlt : k < n
      · rcases hr with h | ⟨b, off, rfl, h2, h3⟩
        · exfalso; rw [h] at HN; have := HN.out; simp at this; omega
        have c0 := h3 k (by rw [HN.out]; exact hlt)
        have g0 := hf k
        clear h3
        generalize ss.getD k ByteArray.empty = s at *
        unfold maxLen at g0
        by_cases hy : x - s.size < 0
        · go_wp2
          go_ret
          exact ⟨-1, rfl, fun h => absurd h (by omega), by omega, by omega, rfl⟩
        · go_wp2
          go_round
          case rel => exact ⟨k + 1, _, by omega, by go_num, rfl, by omega, by omega⟩
          case measure => simp [intOf]; omega
      · go_wp2
        go_ret
        exact ⟨x, rfl, fun _ => by omega, by omega, hx1, rfl⟩
  · go_enter Tryz.func48, Tryz.ntmps48
    go_wp2
    go_ret
    exact ⟨-1, rfl, by omega, by omega, by omega, rfl⟩

theorem info9 : (Tryz.prog.info? 9).map (fun i => (i.zero, i.size, i.bytes)) = some (some (.string ByteArray.empty), 1, 16) := by kernel_rfl
theorem stepT_set (ss : List ByteArray) (n k : Nat) (hn : ss.length = n) (hk : k < n) : (ss.take k ++ List.replicate (n - k) ByteArray.empty).set k (ss.getD k ByteArray.empty) = ss.take (k + 1) ++ List.replicate (n - (k + 1)) ByteArray.empty := by
  have hl : (ss.take k).length = k := by simp; omega
  rw [List.set_append_right _ _ (by omega), hl, Nat.sub_self, show n - k = (n - (k + 1)) + 1 from by omega, List.replicate_succ, List.set_cons_zero, List.take_succ_eq_append_getElem (by omega), List.append_assoc]
  congr 2
  simp [hn, hk]

set_option maxHeartbeats 1000000 in
theorem f54 (a : Option Addr) (n c : Nat) (ss : List ByteArray) (w : World) (hn : ss.length = n) (hb : n ≤ 1048576) (hr : HasT w a ss) :
    Calls Tryz.prog 54 #[.slice a n c] w fun e w' => e = .returned (.slice (some ⟨w.heap.size, 0, none⟩) n n) ∧
      w'.ownsRow w.heap.size 9 1 (.slice (some ⟨w.heap.size, 0, none⟩) n n) n (ss.map Value.string) ∧ Below w.heap.size w w' := by
  obtain ⟨i0, hi, hz0, hz1, hz2⟩ := info_parts info9
  have HN : Hid (ss.length = n) := hn
  clear hn
  go_enter Tryz.func54, Tryz.ntmps54
  go_wp2_with (at_make; refine wpList_make_full _ rfl _ _ 55 rfl w.heap.size 9 i0 (.string ByteArray.empty) 1 Tryz.underlying55 hi hz0 hz1 _ _ _ _ n rfl rfl rfl rfl ?b2 ?b3 (Nat.le_refl _) ?_)
  case b2 => rw [hz2]; omega
  case b3 => unfold maxLen; omega
  intro w0 hown0 hgrow0
  have HO0 := hid hown0
  have HG0 := hid hgrow0
  clear hown0 hgrow0
  go_wp2
  go_loopw [4] (fun i wr => ∃ k : Nat, k ≤ n ∧ i = .int .i64 k ∧ wr.ownsRow w.heap.size 9 1 (.slice (some ⟨w.heap.size, 0, none⟩) n n) n ((ss.take k ++ List.replicate (n - k) ByteArray.empty).map Value.string) ∧ Below w.heap.size w wr)
    (fun i _ => n - (intOf i).toNat)
  case atStart => exact ⟨0, Nat.zero_le _, rfl, by simpa [toList_madeCells_one, Value.cells] using HO0.out, (Below.refl _ _).grown HG0.out (Nat.le_refl _) (fun k h => by cases h)⟩
  case round =>
    obtain ⟨k, hk, rfl, hown, hnx⟩ := hrel
    have HX := hid hnx
    by_cases hlt : k < n
    · rcases hr with hr | ⟨b, off, rfl, hbl, hc⟩
      · exact absurd HN.out (by rw [hr]; simp; omega)
      have d0 := (hnx.cell (p := ⟨b, off + k, none⟩) hbl).trans (hc k (by rw [HN.out]; exact hlt))
      have fz := hown.frozenAt k
      have hkl : k < (ss.take k ++ List.replicate (n - k) ByteArray.empty).length := by simp; have := HN.out; omega
      have cz : wr.cell? ⟨w.heap.size, k, none⟩ = some (.string ((ss.take k ++ List.replicate (n - k) ByteArray.empty)[k])) := by
        rw [hown.cellAt k (by omega), List.getElem?_map, List.getElem?_eq_getElem hkl]; rfl
      have HS := hown.stored k (.string (ss.getD k ByteArray.empty))
      rw [← List.map_set, stepT_set ss n k HN.out hlt] at HS
      have HS' := hid HS.1
      clear HS hc hown hnx HO0 HG0
      generalize (ss.take k ++ List.replicate (n - k) ByteArray.empty)[k] = u0 at *
      generalize ss.getD k ByteArray.empty = s at *
      go_wp2
      go_roundw
      case rel => exact ⟨k + 1, by omega, by go_num, HS'.out, HX.out.setCell (Nat.le_refl _) _⟩
      case measure => simp [intOf]; omega
    · go_wp2
      go_ret
      have : k = n := by omega
      subst this
      refine ⟨rfl, ?_, HX.out⟩
      have e := HN.out
      simpa [← e] using hown

set_option maxHeartbeats 1000000 in
theorem f65 (a a' : Option Addr) (n c c' : Nat) (ss : List ByteArray) (w : World) (hn : ss.length = n) (hb : n ≤ 1048576) (hr : HasT w a ss) (hr' : HasT w a' ss) :
    Calls Tryz.prog 65 #[.slice a n c, .slice a' n c'] w fun e w' => e = .returned (.bool true) ∧ Below w.heap.size w w' := by
  have HN := hid hn
  clear hn
  go_enter Tryz.func65, Tryz.ntmps65
  go_wp2
  go_loopw [5] (fun i wr => ∃ k : Nat, k ≤ n ∧ i = .int .i64 k ∧ Below w.heap.size w wr) (fun i _ => n - (intOf i).toNat)
  case atStart => exact ⟨0, Nat.zero_le _, rfl, Below.refl _ _⟩
  case round =>
    obtain ⟨k, hk, rfl, hnx⟩ := hrel
    have HX := hid hnx
    by_cases hlt : k < n
    · rcases hr with hr | ⟨b, off, rfl, hbl, hc⟩
      · exact absurd HN.out (by rw [hr]; simp; omega)
      rcases hr' with hr | ⟨b', off', rfl, hbl', hc'⟩
      · exact absurd HN.out (by rw [hr]; simp; omega)
      have d0 := (hnx.cell (p := ⟨b, off + k, none⟩) hbl).trans (hc k (by rw [HN.out]; exact hlt))
      have d0' := (hnx.cell (p := ⟨b', off' + k, none⟩) hbl').trans (hc' k (by rw [HN.out]; exact hlt))
      have i1 : (k : Int) < (n : Int) := by omega
      clear hc hc' hnx
      generalize ss.getD k ByteArray.empty = s at *
      go_wp2
      go_quiet (fail)
      go_wp2
      go_roundw
      case rel => exact ⟨k + 1, by omega, by go_num, below_drewN HX.out _⟩
      case measure => simp [intOf]; omega
    · go_wp2
      go_ret
      exact ⟨rfl, HX.out⟩

set_option maxHeartbeats 2000000 in
theorem f47 (g n c base k : Nat) (ss : List ByteArray) (w : World) (hn : ss.length = n) (hk : k + n ≤ 100000000) (hown : w.ownsRow base 9 1 (.slice (some ⟨g, 0, none⟩) n c) n (ss.map Value.string)) :
    Calls Tryz.prog 47 #[.slice (some ⟨g, 0, none⟩) n c, .int .i64 k] w fun e w' => e = .returned (.int .i64 ((k + n : Nat) : Int)) ∧ w.grownBy w' (some g) := by
  have HN := hid hn
  have HO0 := hid hown
  clear hn hown
  go_enter Tryz.func47, Tryz.ntmps47
  go_wp2
  go_loopw [1, 5] (fun sk si wr => ∃ (i m : Nat) (s2 : List ByteArray), i ≤ n ∧ si = .int .i64 i ∧ sk = .int .i64 (m : Int) ∧ Hid (m = k + i) ∧ Hid (s2.length = n) ∧ wr.ownsRow base 9 1 (.slice (some ⟨g, 0, none⟩) n c) n (s2.map Value.string) ∧ w.grownBy wr (some g)) (fun _ si _ => n - (intOf si).toNat)
  case atStart => exact ⟨0, k, ss, Nat.zero_le _, rfl, rfl, rfl, HN.out, HO0.out, ⟨rfl, rfl, rfl, Nat.le_refl _, fun _ _ _ => rfl⟩⟩
  case round =>
    obtain ⟨i, m, s2, hi, rfl, rfl, hm, hl, hown, hgr⟩ := hrel
    have HO := hid hown
    have HG := hid hgr
    clear hown hgr HO0
    by_cases hlt : i < n
    · have hm1 : m ≤ 99999999 := by have := hm.out; omega
      go_wp2_with fail
      refine (f28 m _ (by omega)).mono ?_
      rintro e w2 ⟨rfl, hb2⟩
      have HO2 := hid (own_below HO.out hb2)
      have HG2 := hid (grown_trans HG.out (grown_below (some g) hb2))
      have fz := HO2.out.frozenAt i
      have cz : w2.cell? ⟨g, i, none⟩ = some (.string (s2.getD i ByteArray.empty)) := by
        have hl' : i < s2.length := by rw [hl.out]; exact hlt
        rw [HO2.out.cellAt i (by omega), List.getElem?_map, List.getElem?_eq_getElem hl']
        simp [hl']
      have HO3 := hid (HO2.out.stored i (.string (mkT m))).1
      have HG3 := hid (grown_setRow (o := i) HG2.out (.string (mkT m)))
      clear hb2
      generalize s2.getD i ByteArray.empty = u0 at *
      go_wp2
      go_roundw
      case rel =>
        refine ⟨i + 1, m + 1, s2.set i (mkT m), by omega, by go_num, by go_num, by have := hm.out; unfold Hid; omega, by unfold Hid; rw [List.length_set]; exact hl.out, ?_, HG3.out⟩
        rw [List.map_set]; exact HO3.out
      case measure => simp [intOf]; omega
    · obtain rfl : i = n := by omega
      go_wp2
      go_ret
      exact ⟨by rw [← hm.out]; rfl, HG.out⟩
end Go.Proofs.YtcknlidbjnmbjaaGreatDoor.Lab
/- Labels chosen by their names: l2Some, labelsAmong. -/
namespace Go.Proofs.YtcknlidbjnmbjaaGreatDoor.Lab
open Go.RowKit Go.Proofs.YtcknlidbjnmbjaaGreatDoor.Str

def selL (ss : List ByteArray) (b : Bool) (l : List Lb) : List Lb := l.filter fun p => hasB ss p.1 == b
theorem flat_append (A B : List Lb) : flat (A ++ B) = flat A ++ flat B := by simp [flat]
theorem sel_yes {ls : List Lb} {ss : List ByteArray} {b : Bool} {k : Nat} (hk : k < ls.length) (h : (hasB ss (ls.getD k e0).1 == b) = true) : flat (selL ss b (ls.take (k + 1))) = flat (selL ss b (ls.take k)) ++ [.string (ls.getD k e0).1, .string (ls.getD k e0).2] := by
  have e : ls.getD k e0 = ls[k] := by simp [hk]
  rw [e] at h ⊢
  unfold selL
  rw [List.take_succ_eq_append_getElem hk, List.filter_append, flat_append]
  simp [h, flat]
theorem sel_no {ls : List Lb} {ss : List ByteArray} {b : Bool} {k : Nat} (hk : k < ls.length) (h : (hasB ss (ls.getD k e0).1 == b) = false) : flat (selL ss b (ls.take (k + 1))) = flat (selL ss b (ls.take k)) := by
  have e : ls.getD k e0 = ls[k] := by simp [hk]
  rw [e] at h
  unfold selL
  rw [List.take_succ_eq_append_getElem hk, List.filter_append]
  simp [h]
theorem sel_all {ls : List Lb} {ss : List ByteArray} {b : Bool} {k : Nat} (hk : ls.length ≤ k) : selL ss b (ls.take k) = selL ss b ls := by rw [List.take_of_length_le hk]
theorem two_new (w : World) (x y : Value) (t : TypeId) : ∀ j u, [x, y][j]? = some u → (w.alloc (.cells #[x, y] t)).cell? ((⟨w.heap.size, 0, none⟩ : Addr).add j) = some u := by
  intro j u hj
  have h := heap_alloc_new w (.cells #[x, y] t)
  match j, hj with
  | 0, hj =>
    simp at hj; subst hj
    have : (⟨w.heap.size, 0, none⟩ : Addr).add 0 = ⟨w.heap.size, 0, none⟩ := by simp [Addr.add]
    rw [this]; exact two0 h
  | 1, hj =>
    simp at hj; subst hj
    have : (⟨w.heap.size, 0, none⟩ : Addr).add 1 = ⟨w.heap.size, 1, none⟩ := by simp [Addr.add]
    rw [this]; exact two1 h
  | j + 2, hj => simp at hj
theorem own_form {w : World} {base e size n : Nat} {v : Value} {xs : List Value} (h : w.ownsRow base e size v n xs) : ∃ a c, v = .slice a n c := by
  rcases h.2 with ⟨h1, h2⟩ | ⟨g, cap, cur, h1, _⟩
  · subst h2; exact ⟨none, 0, h1⟩
  · exact ⟨_, _, h1⟩

end Go.Proofs.YtcknlidbjnmbjaaGreatDoor.Lab
/- What labelsAmong and both KeepLabels and DropLabels come to. -/
namespace Go.Proofs.YtcknlidbjnmbjaaGreatDoor.Lab
open Go.RowKit Go.Proofs.YtcknlidbjnmbjaaGreatDoor.Str

def selR (ls : List Lb) (ss : List ByteArray) (b : Bool) : List Lb := if goodL ls = true ∧ ss.length ≤ 1000 then selL ss b ls else []
theorem selR_yes {ls : List Lb} {ss : List ByteArray} {b : Bool} (h1 : goodL ls = true) (h2 : ss.length ≤ 1000) : selR ls ss b = selL ss b ls := by unfold selR; rw [if_pos ⟨h1, h2⟩]
theorem selR_no1 {ls : List Lb} {ss : List ByteArray} {b : Bool} (h1 : goodL ls = false) : selR ls ss b = [] := by unfold selR; rw [if_neg (by simp [h1])]
theorem selR_no2 {ls : List Lb} {ss : List ByteArray} {b : Bool} (h2 : 1000 < ss.length) : selR ls ss b = [] := by unfold selR; rw [if_neg (by omega)]
theorem own_base {w : World} {base base' e size n : Nat} {v : Value} {xs : List Value} (h : w.ownsRow base e size v n xs) (hb : base' ≤ base) : w.ownsRow base' e size v n xs := by
  refine ⟨h.1, ?_⟩
  rcases h.2 with h0 | ⟨g, cap, cur, h1, h2, h3⟩
  · exact .inl h0
  · exact .inr ⟨g, cap, cur, h1, Nat.le_trans hb h2, h3⟩

set_option maxHeartbeats 2000000 in
set_option maxRecDepth 100000 in
theorem f149 (a a1 : Option Addr) (n c n1 c1 : Nat) (b : Bool) (ls : List Lb) (ss : List ByteArray) (w : World) (hn : ls.length = n) (h20 : n ≤ 20) (hr : HasL w a ls) (hn1 : ss.length = n1) (hb1 : n1 ≤ 1048576) (hr1 : HasT w a1 ss) :
    Calls Tryz.prog 149 #[.slice a n c, .slice a1 n1 c1, .bool b] w fun e w' => ∃ a' m c', e = .returned (.slice a' m c') ∧ w'.ownsRow w.heap.size 48 2 (.slice a' m c') m (flat (selL ss b ls)) ∧ Below w.heap.size w w' := by
  obtain ⟨i0, hi, hz0, hz1, hz2⟩ := info_parts info50
  have HN := hid hn
  have HN1 := hid hn1
  have HB1 := hid (Below.refl w.heap.size w)
  have R1 := hid hr
  have T1 := hid hr1
  clear hn hn1
  go_enter Tryz.func149, Tryz.ntmps149
  go_wp2_with (at_make; refine wpList_make_own _ rfl _ _ 28 rfl w.heap.size 48 i0 (.agg #[.string ByteArray.empty, .string ByteArray.empty]) 2 Tryz.underlying28 hi hz0 hz1 _ _ _ n rfl rfl rfl ?b2 ?b3 ?b4 ?_)
  case b2 => rw [hz2]; omega
  case b3 => unfold maxLen; omega
  case b4 => exact HB1.out.size
  intro w2 hown2 hgrow2
  have HX2 := hid (HB1.out.grown hgrow2 HB1.out.size (fun k h => by cases h))
  have hb12 : Below w.heap.size w w2 := (Below.refl _ _).grown hgrow2 (Nat.le_refl _) (fun k h => by cases h)
  have R2 := hid (R1.out.below hb12)
  have T2 := hid (T1.out.below hb12)
  have HO2 := hid hown2
  clear hown2 hgrow2 hb12 R1 T1 HB1
  go_wp2
  go_loopw [7, 15] (fun so si wr => ∃ (k m c' : Nat) (a' : Option Addr), k ≤ n ∧ m ≤ k ∧ si = .int .i64 k ∧ so = .slice a' m c' ∧ wr.ownsRow w.heap.size 48 2 (.slice a' m c') m (flat (selL ss b (ls.take k))) ∧ HasL wr a ls ∧ HasT wr a1 ss ∧ Below w.heap.size w wr) (fun _ si _ => n - (intOf si).toNat)
  case atStart => exact ⟨0, 0, n, some ⟨w.heap.size, 0, none⟩, Nat.zero_le _, Nat.le_refl _, rfl, rfl, by simpa [selL, flat] using HO2.out, R2.out, T2.out, HX2.out⟩
  case round =>
    obtain ⟨k, m, c', a', hk, hm, rfl, rfl, hown, hrk, htk, hnx⟩ := hrel
    have HX := hid hnx
    have HO := hid hown
    have HT := hid htk
    have HRk := hid hrk
    by_cases hlt : k < n
    · rcases hrk with hr | ⟨bb, off, rfl, hbl, hc⟩
      · exact absurd HN.out (by rw [hr]; simp; omega)
      obtain ⟨d0, d1⟩ := hc k (by rw [HN.out]; exact hlt)
      clear hc hnx hown htk
      by_cases he : (hasB ss (ls.getD k e0).1 == b) = true
      · have HSE := hid (sel_yes (ss := ss) (b := b) (by rw [HN.out]; exact hlt) he)
        generalize (ls.getD k e0).1 = s at *
        generalize (ls.getD k e0).2 = t at *
        go_wp2_with fail
        refine (f157 a1 n1 c1 ss s _ HN1.out hb1 (HT.out.below ((Below.refl _ _).alloc (Nat.le_refl _) _))).mono ?_
        rintro e w3 ⟨rfl, rfl⟩
        generalize hasB ss s = hb at *
        go_wp2_with (at_builtin; refine wpList_append_own _ rfl (.tmp 25) (.tmp 27) 28 rfl w.heap.size 48 i0 (.agg #[.string ByteArray.empty, .string ByteArray.empty]) 2 32 Tryz.underlying28 hi hz0 hz1 hz2 rfl (by decide) _ _ _ rfl ((HO.out.alloc _).alloc _) ⟨wr.heap.size + 1, 0, none⟩ 1 1 [.string s, .string t] rfl rfl ?d1 ?d2 ?d3 ?d4 ?d5 ?_)
        case d1 =>
          have := two_new (wr.alloc (.cells #[.string s, .string t] 48)) (.string s) (.string t) 48
          simp only [World.size_alloc] at this
          exact this
        case d2 => intro u hu; simp at hu; rcases hu with rfl | rfl <;> rfl
        case d3 => unfold maxLen; omega
        case d4 => omega
        case d5 => have := HX.out.size; simp; omega
        intro v1 w3 hown1 hgr1 _
        obtain ⟨a2, c2, rfl⟩ := own_form hown1
        have HO3 : Hid (w3.ownsRow w.heap.size 48 2 (.slice a2 (m + 1) c2) (m + 1) (flat (selL ss b (ls.take (k + 1))))) := by unfold Hid; rw [HSE.out]; exact hown1
        have HX3 := hid ((((HX.out.alloc HX.out.size (.cells #[.string s, .string t] 48)).alloc (by have := HX.out.size; simp; omega) (.cells #[.string s, .string t] 48))).grown hgr1 (by have := HX.out.size; simp; omega) (fun k hk => (HO.out.lt k hk).1))
        clear hown1 hgr1
        go_wp2
        go_roundw
        case rel => exact ⟨k + 1, m + 1, c2, a2, by omega, by omega, by go_num, rfl, HO3.out, hr.below HX3.out, hr1.below HX3.out, HX3.out⟩
        case measure => simp [intOf]; omega
      · have he' : (hasB ss (ls.getD k e0).1 == b) = false := by simpa using he
        have HSE := hid (sel_no (ss := ss) (b := b) (by rw [HN.out]; exact hlt) he')
        clear he
        generalize (ls.getD k e0).1 = s at *
        generalize (ls.getD k e0).2 = t at *
        go_wp2_with fail
        refine (f157 a1 n1 c1 ss s _ HN1.out hb1 (HT.out.below ((Below.refl _ _).alloc (Nat.le_refl _) _))).mono ?_
        rintro e w3 ⟨rfl, rfl⟩
        generalize hasB ss s = hb at *
        go_wp2
        go_roundw
        case rel => exact ⟨k + 1, m, c', a', by omega, by omega, by go_num, rfl, by rw [HSE.out]; exact HO.out.alloc _, HRk.out.alloc _, HT.out.below ((Below.refl _ _).alloc (Nat.le_refl _) _), HX.out.alloc HX.out.size _⟩
        case measure => simp [intOf]; omega
    · go_wp2
      go_ret
      exact ⟨a', m, c', rfl, by rw [← sel_all (k := k) (by rw [HN.out]; omega)]; exact HO.out, HX.out⟩

set_option maxHeartbeats 2000000 in
set_option maxRecDepth 100000 in
theorem f139 (a a1 : Option Addr) (n c n1 c1 : Nat) (b : Bool) (ls : List Lb) (ss : List ByteArray) (w : World) (hn : ls.length = n) (hmax : n ≤ 1048576) (hr : HasL w a ls) (hf : Fit ls) (hn1 : ss.length = n1) (hb1 : n1 ≤ 1048576) (hr1 : HasT w a1 ss) :
    Calls Tryz.prog 139 #[.slice a n c, .slice a1 n1 c1, .bool b] w fun e w' => ∃ a' m c', e = .returned (.slice a' m c') ∧ w'.ownsRow w.heap.size 48 2 (.slice a' m c') m (flat (selR ls ss b)) ∧ Below w.heap.size w w' := by
  have HN := hid hn
  have HN1 := hid hn1
  clear hn hn1
  go_enter Tryz.func139, Tryz.ntmps139
  go_wp2_with fail
  refine (f23 a n c ls _ HN.out (by unfold maxLen; omega) hr hf).mono ?_
  rintro e w1 ⟨rfl, hb0⟩
  have HB1 := hid hb0
  have R1 := hid (hr.below hb0)
  have T1 := hid (hr1.below hb0)
  clear hb0
  by_cases hg : goodL ls = true
  · have h20 : n ≤ 20 := by have := (good_iff hg).1; have := HN.out; omega
    by_cases h1000 : n1 ≤ 1000
    · have HR := hid (selR_yes (b := b) hg (by rw [HN1.out]; exact h1000))
      rw [hg]
      clear hg
      go_wp2_with fail
      refine (f149 a a1 n c n1 c1 b ls ss _ HN.out h20 R1.out HN1.out hb1 T1.out).mono ?_
      rintro e w2 ⟨a', m, c', rfl, ho2, hb2⟩
      have HO := hid (own_base (base' := w.heap.size) ho2 HB1.out.size)
      have HB2 := hid (HB1.out.trans (hb2.mono HB1.out.size))
      clear ho2 hb2
      go_wp2
      go_ret
      exact ⟨a', m, c', rfl, by rw [HR.out]; exact HO.out, HB2.out⟩
    · have HR := hid (selR_no2 (ls := ls) (b := b) (ss := ss) (by rw [HN1.out]; omega))
      go_wp2
      go_ret
      exact ⟨none, 0, 0, rfl, by rw [HR.out]; exact World.ownsRow_nil _ _ _ _, HB1.out⟩
  · have hg' : goodL ls = false := by simpa using hg
    have HR := hid (selR_no1 (b := b) (ss := ss) hg')
    go_wp2
    go_ret
    exact ⟨none, 0, 0, rfl, by rw [HR.out]; exact World.ownsRow_nil _ _ _ _, HB1.out⟩

theorem f128 (a a1 : Option Addr) (n c n1 c1 : Nat) (ls : List Lb) (ss : List ByteArray) (w : World) (hn : ls.length = n) (hmax : n ≤ 1048576) (hr : HasL w a ls) (hf : Fit ls) (hn1 : ss.length = n1) (hb1 : n1 ≤ 1048576) (hr1 : HasT w a1 ss) :
    Calls Tryz.prog 128 #[.slice a n c, .slice a1 n1 c1] w fun e w' => ∃ a' m c', e = .returned (.slice a' m c') ∧ w'.ownsRow w.heap.size 48 2 (.slice a' m c') m (flat (selR ls ss false)) ∧ Below w.heap.size w w' := by
  go_enter Tryz.func128, Tryz.ntmps128
  go_wp2_with fail
  refine (f139 a a1 n c n1 c1 false ls ss _ hn hmax hr hf hn1 hb1 hr1).mono ?_
  rintro e w1 ⟨a', m, c', rfl, ho, hb⟩
  have HO := hid ho
  clear ho
  go_wp2
  go_ret
  exact ⟨a', m, c', rfl, HO.out, hb⟩
end Go.Proofs.YtcknlidbjnmbjaaGreatDoor.Lab
/- The walks of FnExactKeepLabels and FnExactDropLabels. -/
namespace Go.Proofs.YtcknlidbjnmbjaaGreatDoor.Lab
open Go.RowKit Go.Proofs.YtcknlidbjnmbjaaGreatDoor.Str

theorem own_cases {w : World} {base e size n c : Nat} {a : Option Addr} {xs : List Value} (h : w.ownsRow base e size (.slice a n c) n xs) : (a = none ∧ n = 0 ∧ c = 0) ∨ ∃ g, a = some ⟨g, 0, none⟩ := by
  rcases h.2 with ⟨h1, _⟩ | ⟨g, cap, cur, h1, _⟩
  · simp only [Value.slice.injEq] at h1; exact .inl ⟨h1.1, h1.2.1, h1.2.2⟩
  · simp only [Value.slice.injEq] at h1; exact .inr ⟨g, h1.1⟩
theorem own_len {w : World} {base n c : Nat} {a : Option Addr} {ls : List Lb} (h : w.ownsRow base 48 2 (.slice a n c) n (flat ls)) : ls.length = n := by
  have := h.1; rw [flat_len] at this; omega
theorem HasL.owno {w : World} {base n c : Nat} {a : Option Addr} {ls : List Lb} (h : w.ownsRow base 48 2 (.slice a n c) n (flat ls)) : HasL w a ls := by
  rcases own_cases h with ⟨rfl, rfl, rfl⟩ | ⟨g, rfl⟩
  · exact .inl (List.eq_nil_of_length_eq_zero (own_len h))
  · exact HasL.own h
theorem grown_refl (w : World) (r : Option Nat) : w.grownBy w r := ⟨rfl, rfl, rfl, Nat.le_refl _, fun _ _ _ => rfl⟩
theorem f13o (a : Option Addr) (n c base k : Nat) (ls : List Lb) (w : World) (hk : k + 2 * n ≤ 100000000) (hown : w.ownsRow base 48 2 (.slice a n c) n (flat ls)) :
    Calls Tryz.prog 13 #[.slice a n c, .int .i64 k] w fun e w' => e = .returned (.int .i64 ((k + 2 * n : Nat) : Int)) ∧ w'.ownsRow base 48 2 (.slice a n c) n (flat (markL k n)) ∧ w.grownBy w' (Value.slice a n c).ownBlock := by
  rcases own_cases hown with ⟨rfl, rfl, rfl⟩ | ⟨g, rfl⟩
  · refine (f13n k w).mono ?_
    rintro e w' ⟨rfl, rfl⟩
    exact ⟨rfl, World.ownsRow_nil _ _ _ _, grown_refl _ _⟩
  · exact f13 g n c base k ls w (own_len hown) hk hown
theorem f14o (a : Option Addr) (n c base k : Nat) (w : World) (hk : k + 2 * n ≤ 100000000) (hown : w.ownsRow base 48 2 (.slice a n c) n (flat (markL k n))) :
    Calls Tryz.prog 14 #[.slice a n c, .int .i64 k] w fun e w' => e = .returned (.int .i64 ((k + 2 * n : Nat) : Int)) ∧ Below w.heap.size w w' := by
  rcases own_cases hown with ⟨rfl, rfl, rfl⟩ | ⟨g, rfl⟩
  · refine (f14n k w).mono ?_
    rintro e w' ⟨rfl, rfl⟩
    exact ⟨rfl, Below.refl _ _⟩
  · exact f14 g n c k w hk (HasL.own hown)
theorem selR_len (ls : List Lb) (ss : List ByteArray) (b : Bool) : (selR ls ss b).length ≤ 20 := by
  unfold selR
  split
  · rename_i h
    have h1 := (good_iff h.1).1
    have h2 := List.length_filter_le (fun p : Lb => hasB ss p.1 == b) ls
    unfold selL
    omega
  · simp

end Go.Proofs.YtcknlidbjnmbjaaGreatDoor.Lab
/- A label put in its place: plain facts. -/
namespace Go.Proofs.YtcknlidbjnmbjaaGreatDoor.Lab
open Go.RowKit Go.Proofs.YtcknlidbjnmbjaaGreatDoor.Str

def cmpX (x : ByteArray) (p : Lb) : Int := Lib.compareBytes x.data.toList p.1.data.toList
theorem cmpX_eq (x : ByteArray) (p : Lb) : cmpX x p = - cmpN p (x, ByteArray.empty) := cb_neg _ _
def add1 (x v : ByteArray) (s : List Lb × Bool) (p : Lb) : List Lb × Bool := if s.2 = false ∧ cmpX x p ≤ 0 then (s.1 ++ [(x, v)], true) else s
def stepW (x v : ByteArray) (s : List Lb × Bool) (p : Lb) : List Lb × Bool := if p.1 = x then add1 x v s p else ((add1 x v s p).1 ++ [p], (add1 x v s p).2)
def endW (x v : ByteArray) (s : List Lb × Bool) : List Lb := if s.2 = false then s.1 ++ [(x, v)] else s.1
def withF (ls : List Lb) (x v : ByteArray) : List Lb := endW x v (ls.foldl (stepW x v) ([], decide (v = ByteArray.empty)))

theorem fold_done (x v : ByteArray) : ∀ (L out : List Lb), L.foldl (stepW x v) (out, true) = (out ++ L.filter (fun p => decide (p.1 ≠ x)), true) := by
  intro L
  induction L with
  | nil => intro out; simp
  | cons p L ih =>
    intro out
    rw [List.foldl_cons]
    have e : add1 x v (out, true) p = (out, true) := by unfold add1; rw [if_neg (by simp)]
    by_cases h : p.1 = x
    · have : stepW x v (out, true) p = (out, true) := by unfold stepW; rw [if_pos h, e]
      rw [this, ih, List.filter_cons_of_neg (by simp [h])]
    · have : stepW x v (out, true) p = (out ++ [p], true) := by unfold stepW; rw [if_neg h, e]
      rw [this, ih, List.filter_cons_of_pos (by simp [h])]
      simp
theorem fold_ahead (x v : ByteArray) : ∀ (L out : List Lb), (∀ p ∈ L, cmpN p (x, ByteArray.empty) < 0) → L.foldl (stepW x v) (out, false) = (out ++ L, false) := by
  intro L
  induction L with
  | nil => intro out _; simp
  | cons p L ih =>
    intro out h
    have hp := h p (by simp)
    have hne : ¬ p.1 = x := fun e => by rw [cmpN_eq (q := (x, ByteArray.empty)) e] at hp; omega
    have e : add1 x v (out, false) p = (out, false) := by unfold add1; rw [if_neg (by rw [cmpX_eq]; simp; omega)]
    have : stepW x v (out, false) p = (out ++ [p], false) := by unfold stepW; rw [if_neg hne, e]
    rw [List.foldl_cons, this, ih _ (fun q hq => h q (by simp [hq]))]
    simp

def fnd (ls : List Lb) (x : ByteArray) (lo : Nat) : Nat := if lo < ls.length ∧ cmpN (ls.getD lo e0) (x, ByteArray.empty) = 0 then 1 else 0
def ins (ls : List Lb) (x v : ByteArray) (lo : Nat) : List Lb := ls.take lo ++ (x, v) :: ls.drop (lo + fnd ls x lo)

theorem getD_mem_lt {ls : List Lb} {i : Nat} (h : i < ls.length) : ls.getD i e0 = ls[i] := by simp [h]
theorem filter_same (x : ByteArray) : ∀ (L : List Lb), (∀ p ∈ L, p.1 ≠ x) → L.filter (fun p => decide (p.1 ≠ x)) = L := by
  intro L h
  rw [List.filter_eq_self]
  intro p hp
  simpa using h p hp

theorem with_ins {ls : List Lb} {x v : ByteArray} {lo : Nat} (hg : GoodP ls) (hp : Place ls (x, ByteArray.empty) lo) (hv : v ≠ ByteArray.empty) : withF ls x v = ins ls x v lo := by
  have hle := hp.le
  have hA : ∀ p ∈ ls.take lo, cmpN p (x, ByteArray.empty) < 0 := by
    intro p h
    obtain ⟨i, hi, rfl⟩ := List.getElem_of_mem h
    have hi' : i < lo := by simp at hi; omega
    have := hp.less i hi'
    rw [getD_mem_lt (by omega)] at this
    simpa using this
  unfold withF
  rw [show decide (v = ByteArray.empty) = false from by simpa using hv, ← List.take_append_drop lo ls, List.foldl_append, List.take_append_drop, fold_ahead x v _ [] hA, List.nil_append]
  unfold ins
  by_cases hl : lo < ls.length
  · have hc := hp.geq hl
    rw [getD_mem_lt hl] at hc
    have hB : ∀ p ∈ ls.drop (lo + 1), p.1 ≠ x := by
      intro p h e
      obtain ⟨i, hi, rfl⟩ := List.getElem_of_mem h
      have hi' : lo + 1 + i < ls.length := by simp at hi; omega
      have h1 := rise_lt hg (show lo < lo + 1 + i by omega) hi'
      rw [getD_mem_lt hl, getD_mem_lt hi'] at h1
      have h2 : cmpN ls[lo] (x, ByteArray.empty) = cmpN ls[lo] ls[lo + 1 + i] := by
        unfold cmpN
        have : (ls.drop (lo + 1))[i].1 = ls[lo + 1 + i].1 := by simp
        rw [← this, e]
      omega
    rw [List.drop_eq_getElem_cons hl, List.foldl_cons]
    have e1 : add1 x v (ls.take lo, false) ls[lo] = (ls.take lo ++ [(x, v)], true) := by unfold add1; rw [if_pos (by rw [cmpX_eq]; simp; omega)]
    by_cases he : ls[lo].1 = x
    · have hf : fnd ls x lo = 1 := by unfold fnd; rw [if_pos ⟨hl, by rw [getD_mem_lt hl]; exact cmpN_eq he⟩]
      have : stepW x v (ls.take lo, false) ls[lo] = (ls.take lo ++ [(x, v)], true) := by unfold stepW; rw [if_pos he, e1]
      rw [this, fold_done, filter_same x _ hB, hf]
      unfold endW; rw [if_neg (by simp)]; simp
    · have hf : fnd ls x lo = 0 := by unfold fnd; rw [if_neg (fun h => he (by have := cmpN_zero h.2; rw [getD_mem_lt hl] at this; exact this))]
      have : stepW x v (ls.take lo, false) ls[lo] = (ls.take lo ++ [(x, v)] ++ [ls[lo]], true) := by unfold stepW; rw [if_neg he, e1]
      rw [this, fold_done, filter_same x _ hB, hf]
      unfold endW; rw [if_neg (by simp), show ls.drop (lo + 0) = ls[lo] :: ls.drop (lo + 1) from List.drop_eq_getElem_cons hl]; simp
  · have hd : ls.drop lo = [] := List.drop_eq_nil_of_le (by omega)
    have hd2 : ls.drop (lo + fnd ls x lo) = [] := List.drop_eq_nil_of_le (by omega)
    rw [hd, hd2]
    unfold endW; rw [List.foldl_nil, if_pos rfl]
theorem with_drop (ls : List Lb) (x : ByteArray) : withF ls x ByteArray.empty = selL [x] false ls := by
  unfold withF
  rw [show decide (ByteArray.empty = ByteArray.empty) = true from by simp, fold_done]
  unfold endW selL
  rw [if_neg (by simp), List.nil_append]
  show ls.filter _ = ls.filter _
  congr 1
  funext p
  by_cases h : p.1 = x
  · have : hasB [x] p.1 = true := has_yes (i := 0) (by simp) (by simp [h])
    rw [this]; simp [h]
  · have : hasB [x] p.1 = false := has_no (fun i hi e => by
      have : i = 0 := by simpa using hi
      subst this
      simp at e; exact h e.symm)
    rw [this]; simp [h]

theorem good_pair {ls : List Lb} (h : GoodP ls) : ls.Pairwise (fun p q => cmpN p q < 0) := by
  rw [List.pairwise_iff_getElem]
  intro i j hi hj hij
  have := rise_lt h hij hj
  rwa [getD_mem_lt hi, getD_mem_lt hj] at this
theorem good_filter {ls : List Lb} (h : GoodP ls) (f : Lb → Bool) : GoodP (ls.filter f) := by
  have hp := (good_pair h).filter f
  rw [List.pairwise_iff_getElem] at hp
  refine ⟨Nat.le_trans (List.length_filter_le f ls) h.1, fun i hi => ⟨?_, fun h0 => ?_⟩⟩
  · rw [getD_mem_lt hi]
    have hm := List.getElem_mem hi
    obtain ⟨j, hj, e⟩ := List.getElem_of_mem (List.mem_filter.1 hm).1
    rw [← e]
    have := (h.2 j hj).1
    rwa [getD_mem_lt hj] at this
  · rw [getD_mem_lt hi, getD_mem_lt (show i - 1 < _ by omega)]
    exact hp (i - 1) i (by omega) hi (by omega)
theorem place_exists (ls : List Lb) (x : Lb) : ∃ lo, Place ls x lo := by
  have key : ∀ m, m ≤ ls.length → (∀ i, i < m → cmpN (ls.getD i e0) x < 0) ∨ ∃ lo, Place ls x lo := by
    intro m
    induction m with
    | zero => intro _; exact .inl (fun i hi => by omega)
    | succ m ih =>
      intro hm
      rcases ih (by omega) with h | h
      · by_cases hc : cmpN (ls.getD m e0) x < 0
        · refine .inl (fun i hi => ?_)
          by_cases e : i = m
          · subst e; exact hc
          · exact h i (by omega)
        · exact .inr ⟨m, by omega, h, fun _ => by omega⟩
      · exact .inr h
  rcases key ls.length (Nat.le_refl _) with h | h
  · exact ⟨ls.length, Nat.le_refl _, h, fun h => by omega⟩
  · exact h
end Go.Proofs.YtcknlidbjnmbjaaGreatDoor.Lab
/- The library's sort at labels: what its contract wants, and what it gives, in words of rows. -/
namespace Go.Proofs.YtcknlidbjnmbjaaGreatDoor.Lab
open Go.RowKit Go.Sort Go.Proofs.YtcknlidbjnmbjaaGreatDoor.Str

/-- A label's two cells. -/
def encL (x : Lb) : List Value := [.string x.1, .string x.2]
set_option maxHeartbeats 1000000 in
theorem f43g (p q : Lb) (W : World) : Calls Tryz.prog 43 #[.agg #[.string p.1, .string p.2], .agg #[.string q.1, .string q.2]] W fun e w' => e = .returned (.int .i64 (cmpN p q)) ∧ ∃ q os', w' = grow (W.drewN q) os' := by
  go_enter Tryz.func43, Tryz.ntmps43
  go_wp2_with (go_at_call 61; refine (f61 _ _ _).mono ?_; rintro e w' ⟨rfl, rfl⟩)
  go_ret
  exact ⟨rfl, 0, _, by rw [alloc_eq_grow, alloc_eq_grow, grow_grow]; rfl⟩
theorem cmpN_fst {p p' q q' : Lb} (h : p.1 = p'.1) (h' : q.1 = q'.1) : cmpN p q = cmpN p' q' := by unfold cmpN; rw [h, h']
/-- By name: a strict weak order. -/
theorem swoN : SWO (ltOf cmpN) where
  irrefl x := by unfold ltOf; rw [cmpN_eq rfl]; rfl
  trans x y z h1 h2 := by
    unfold ltOf at *
    exact decide_eq_true (cmpN_trans (of_decide_eq_true h1) (of_decide_eq_true h2))
  ntrans x y z h1 h2 := by
    unfold ltOf at *
    have k1 := of_decide_eq_false h1
    have k2 := of_decide_eq_false h2
    refine decide_eq_false fun h => ?_
    by_cases e1 : cmpN x y = 0
    · rw [cmpN_fst (cmpN_zero e1) (rfl : z.1 = z.1)] at h; exact k2 h
    · by_cases e2 : cmpN y z = 0
      · rw [← cmpN_fst (rfl : x.1 = x.1) (cmpN_zero e2)] at h; exact k1 h
      · have j1 : cmpN y x < 0 := by rw [cmpN_neg x y]; omega
        have j2 : cmpN z y < 0 := by rw [cmpN_neg y z]; omega
        have j3 := cmpN_trans j2 j1
        rw [cmpN_neg x z] at j3
        omega
theorem flatK_flat (L : List Lb) : (flatK encL 2 L.toArray).toList = flat L := by
  refine List.ext_getElem? fun t => ?_
  by_cases ht : t < L.length * 2
  · have h1 : t / 2 < L.length := by omega
    obtain ⟨h2, h3⟩ := flat_get L (t / 2) h1
    have h4 : (flatK encL 2 L.toArray)[t]? = some (encL L.toArray[t / 2]!)[t % 2]! := by
      rw [← get_flatK encL 2 L.toArray t (by simpa using ht)]
      rw [getElem!_pos _ t (by simpa using ht), Array.getElem?_eq_getElem]
    rw [Array.getElem?_toList, h4]
    have h5 : L.toArray[t / 2]! = L.getD (t / 2) e0 := by simp [h1]
    rw [h5]
    rcases Nat.mod_two_eq_zero_or_one t with h6 | h6
    · rw [h6, show t = t / 2 * 2 by omega, h2, show t / 2 * 2 / 2 = t / 2 by omega]; rfl
    · rw [h6, show t = t / 2 * 2 + 1 by omega, h3, show (t / 2 * 2 + 1) / 2 = t / 2 by omega]; rfl
  · rw [List.getElem?_eq_none (by simp; omega), List.getElem?_eq_none (by rw [flat_len]; omega)]
section
variable {w : World} {base g n c : Nat} {e : TypeId}
theorem own_holds {L : List Lb} (h : w.ownsRow base e 2 (.slice (some ⟨g, 0, none⟩) n c) n (flat L)) : HoldsK encL 2 w g 0 L.toArray := by
  have hn : L.length * 2 = n * 2 := by rw [← flat_len]; exact h.1
  intro j hj
  rw [Nat.zero_add]
  refine ⟨?_, h.frozenAt j⟩
  have hj' : j < L.length * 2 := by simpa using hj
  rw [h.cellAt j (by omega), ← flatK_flat, Array.getElem?_toList, Array.getElem?_eq_getElem hj, getElem!_pos _ j hj]
  rfl
theorem own_setCells : ∀ (vs : List Value) (s : Nat) (xs : List Value) (w : World), w.ownsRow base e 2 (.slice (some ⟨g, 0, none⟩) n c) n xs → s + vs.length = xs.length → (w.setCells g s vs).ownsRow base e 2 (.slice (some ⟨g, 0, none⟩) n c) n (xs.take s ++ vs) ∧ w.grownBy (w.setCells g s vs) (some g)
  | [], s, xs, w, h, hs => by
    have : xs.take s = xs := List.take_of_length_le (by simp at hs; omega)
    rw [this, List.append_nil]
    exact ⟨h, rfl, rfl, rfl, Nat.le_refl _, fun _ _ _ => rfl⟩
  | v :: r, s, xs, w, h, hs => by
    obtain ⟨h1, h2⟩ := h.stored s v
    obtain ⟨k1, k2⟩ := own_setCells r (s + 1) (xs.set s v) _ h1 (by simp at hs ⊢; omega)
    have hx : (xs.set s v).take (s + 1) ++ r = xs.take s ++ v :: r := by
      have hlt : s < xs.length := by simp at hs; omega
      rw [List.take_add_one, List.getElem?_set_self hlt, List.take_set_of_le (Nat.le_refl _)]
      simp
    rw [hx] at k1
    exact ⟨k1, k2.os.trans h2.os, k2.tape.trans h2.tape, k2.output.trans h2.output, Nat.le_trans h2.size k2.size, fun j hj hne => (k2.block j (Nat.lt_of_lt_of_le hj h2.size) hne).trans (h2.block j hj hne)⟩
theorem setMany_all (F : Array Value) (vs : List Value) (h : vs.length = F.size) : setMany F 0 vs = vs.toArray := by
  refine ext_get! (by simp [h]) fun t ht => ?_
  have ht' : t < F.size := by simpa using ht
  rw [get_setMany _ _ _ t ht', if_pos (by omega)]
  simp
/-- The world behind the sort, in words of rows. -/
theorem sort_own {L : List Lb} (h : w.ownsRow base e 2 (.slice (some ⟨g, 0, none⟩) n c) n (flat L)) (m : Nat) (d : Array Lb) (hd : d.size = L.length) (os : Array Obj) :
    (sortWorldK encL 2 w g 0 m d os).ownsRow base e 2 (.slice (some ⟨g, 0, none⟩) n c) n (flat d.toList) ∧ w.grownBy (sortWorldK encL 2 w g 0 m d os) (some g) := by
  have hw : w.ownsRow base e 2 (.slice (some ⟨g, 0, none⟩) n c) n (flat L) := h
  have ha : (Sort.ahead w m).ownsRow base e 2 (.slice (some ⟨g, 0, none⟩) n c) n (flat L) := h
  have hF : HoldsK encL 2 (Sort.ahead w m) g 0 L.toArray := own_holds ha
  have e1 : putRow id (Sort.ahead w m) g 0 (flatK encL 2 L.toArray) = Sort.ahead w m := putRow_self _ _ _ _ _ hF
  have hlen : (flat d.toList).length = (flat L).length := by rw [flat_len, flat_len]; simp [hd]
  have e2 := setCells_putRow (Sort.ahead w m) g 0 (flat d.toList) 0 (flatK encL 2 L.toArray) (by rw [hlen, flat_len, size_flatK]; simp)
  rw [e1, setMany_all _ _ (by rw [hlen, flat_len, size_flatK, List.size_toArray])] at e2
  have e3 : (flat d.toList).toArray = flatK encL 2 d := by rw [← flatK_flat]
  rw [e3] at e2
  obtain ⟨k1, k2⟩ := own_setCells (flat d.toList) 0 (flat L) _ ha (by omega)
  have e4 : sortWorldK encL 2 w g 0 m d os = grow ((Sort.ahead w m).setCells g 0 (flat d.toList)) os := by
    unfold sortWorldK putRowK
    rw [← e2]
  rw [e4]
  generalize (Sort.ahead w m).setCells g 0 (flat d.toList) = x at k1 k2
  have hb : Below x.heap.size x (grow x os) := ⟨rfl, rfl, rfl, by simp [grow], fun j hj => by simp [grow, Array.getElem?_append_left hj]⟩
  refine ⟨?_, ?_⟩
  · have := own_below k1 hb
    simpa using this
  · exact ⟨k2.os, k2.tape, k2.output, Nat.le_trans k2.size hb.size, fun j hj hne => (hb.block j (Nat.lt_of_lt_of_le hj k2.size)).trans (k2.block j hj hne)⟩
end
end Go.Proofs.YtcknlidbjnmbjaaGreatDoor.Lab
/- Labels that are joined: plain facts. -/
namespace Go.Proofs.YtcknlidbjnmbjaaGreatDoor.Lab
open Go.RowKit

/-- The names rise. -/
abbrev Sr (L : List Lb) : Prop := L.Pairwise (fun p q => cmpN p q < 0)
/-- No name is there twice. -/
abbrev Ds (L : List Lb) : Prop := L.Pairwise (fun p q => p.1 ≠ q.1)
theorem Sr.ds {L : List Lb} (h : Sr L) : Ds L := h.imp fun {p q} hpq e => by rw [cmpN_eq e] at hpq; omega
theorem Ds.perm {L M : List Lb} (h : Ds L) (hp : L.Perm M) : Ds M := (hp.pairwise_iff (fun hab e => hab e.symm)).1 h
theorem sorted_strict {L : List Lb} (h : ∀ i j, i < j → j < L.length → 0 ≤ cmpN (L.getD j e0) (L.getD i e0)) (hd : Ds L) : Sr L := by
  refine List.pairwise_iff_getElem.2 fun i j hi hj hij => ?_
  have h1 := h i j hij hj
  have h2 := List.pairwise_iff_getElem.1 hd i j hi hj hij
  rw [getD_mem_lt hj, getD_mem_lt hi] at h1
  rw [cmpN_neg] at h1
  by_cases h0 : cmpN L[i] L[j] = 0
  · exact absurd (cmpN_zero h0) h2
  · omega
/-- Of what rises there is one order. -/
theorem perm_uniq : ∀ (L M : List Lb), L.Perm M → Sr L → Sr M → L = M
  | [], M, hp, _, _ => (List.Perm.nil_eq hp)
  | a :: l, [], hp, _, _ => absurd hp.length_eq (by simp)
  | a :: l, b :: m, hp, h1, h2 => by
    have hab : a = b := by
      have m1 : a ∈ b :: m := hp.mem_iff.1 (by simp)
      have m2 : b ∈ a :: l := hp.mem_iff.2 (by simp)
      rcases List.mem_cons.1 m1 with e | m1
      · exact e
      · rcases List.mem_cons.1 m2 with e | m2
        · exact e.symm
        · have k1 := List.rel_of_pairwise_cons h1 m2
          have k2 := List.rel_of_pairwise_cons h2 m1
          rw [cmpN_neg b a] at k1
          omega
    subst hab
    rw [perm_uniq l m hp.cons_inv h1.of_cons h2.of_cons]
theorem split_at {x : ByteArray} : ∀ (L : List Lb), Sr L → (∀ p ∈ L, p.1 ≠ x) → ∃ A B, L = A ++ B ∧ (∀ p ∈ A, cmpN p (x, ByteArray.empty) < 0) ∧ (∀ p ∈ B, cmpN (x, ByteArray.empty) p < 0)
  | [], _, _ => ⟨[], [], rfl, by simp, by simp⟩
  | p :: L, hs, hn => by
    by_cases h : cmpN p (x, ByteArray.empty) < 0
    · obtain ⟨A, B, rfl, h1, h2⟩ := split_at L hs.of_cons (fun q hq => hn q (by simp [hq]))
      exact ⟨p :: A, B, rfl, fun q hq => (List.mem_cons.1 hq).elim (fun e => by rw [e]; exact h) (h1 q), h2⟩
    · have h0 : ¬ cmpN p (x, ByteArray.empty) = 0 := fun e => hn p (by simp) (cmpN_zero e)
      have hp : cmpN (x, ByteArray.empty) p < 0 := by rw [cmpN_neg p]; omega
      exact ⟨[], p :: L, rfl, by simp, fun q hq => (List.mem_cons.1 hq).elim (fun e => by rw [e]; exact hp) (fun hq => cmpN_trans hp (List.rel_of_pairwise_cons hs hq))⟩
/-- A label whose name is new is put in its place. -/
theorem with_new {L : List Lb} {x v : ByteArray} (hs : Sr L) (hn : ∀ p ∈ L, p.1 ≠ x) (hv : v ≠ ByteArray.empty) : Sr (withF L x v) ∧ (withF L x v).Perm ((x, v) :: L) := by
  obtain ⟨A, B, rfl, h1, h2⟩ := split_at (x := x) L hs hn
  have e : withF (A ++ B) x v = A ++ (x, v) :: B := by
    unfold withF
    rw [decide_eq_false hv, List.foldl_append, fold_ahead x v A [] h1, List.nil_append]
    cases B with
    | nil => rfl
    | cons p B =>
      have hp : ¬ p.1 = x := hn p (by simp)
      have hx : cmpX x p ≤ 0 := by
        have := h2 p (by simp)
        rw [cmpX_eq, ← cmpN_neg]; omega
      have e1 : stepW x v (A, false) p = (A ++ [(x, v)] ++ [p], true) := by unfold stepW add1; rw [if_neg hp, if_pos ⟨rfl, hx⟩]
      rw [List.foldl_cons, e1, fold_done, filter_same x B (fun q hq => hn q (by simp [hq]))]
      simp [endW]
  rw [e]
  refine ⟨?_, List.perm_middle⟩
  have hs' := List.pairwise_append.1 hs
  refine List.pairwise_append.2 ⟨hs'.1, List.pairwise_cons.2 ⟨fun q hq => ?_, hs'.2.1⟩, fun p hp q hq => ?_⟩
  · exact h2 q hq
  · rcases List.mem_cons.1 hq with rfl | hq
    · exact h1 p hp
    · exact hs'.2.2 p hp q hq
end Go.Proofs.YtcknlidbjnmbjaaGreatDoor.Lab
/- What both ways of joining come to: plain facts. -/
namespace Go.Proofs.YtcknlidbjnmbjaaGreatDoor.Lab
open Go.RowKit

/-- The labels put in one after the other; none where a name is there already. -/
def addAll : List Lb → List Lb → Option (List Lb)
  | out, [] => some out
  | out, x :: r => if (∃ p ∈ out, p.1 = x.1) then none else addAll (withF out x.1 x.2) r
theorem ds_cons_perm {A B : List Lb} {x : Lb} : Ds (A ++ x :: B) ↔ Ds ((x :: A) ++ B) :=
  List.perm_middle.pairwise_iff (fun hab e => hab e.symm)
theorem addAll_some : ∀ (r out : List Lb), Sr out → (∀ p ∈ r, p.2 ≠ ByteArray.empty) → Ds (out ++ r) → ∃ M, addAll out r = some M ∧ Sr M ∧ M.Perm (out ++ r)
  | [], out, hs, _, _ => ⟨out, rfl, hs, by simp⟩
  | x :: r, out, hs, hv, hd => by
    have hd' := ds_cons_perm.1 hd
    have hne : ∀ p ∈ out, p.1 ≠ x.1 := fun p hp e => (List.pairwise_append.1 hd).2.2 p hp x (by simp) e
    obtain ⟨h1, h2⟩ := with_new (x := x.1) (v := x.2) hs hne (hv x (by simp))
    have hp : ((x :: out) ++ r).Perm (withF out x.1 x.2 ++ r) := List.Perm.append_right r h2.symm
    obtain ⟨M, k1, k2, k3⟩ := addAll_some r (withF out x.1 x.2) h1 (fun p hp => hv p (by simp [hp])) (Ds.perm hd' hp)
    refine ⟨M, ?_, k2, k3.trans (hp.symm.trans List.perm_middle.symm)⟩
    unfold addAll
    rw [if_neg (by rintro ⟨p, hp, e⟩; exact hne p hp e)]
    exact k1
theorem addAll_none : ∀ (r out : List Lb), Sr out → (∀ p ∈ r, p.2 ≠ ByteArray.empty) → ¬ Ds (out ++ r) → addAll out r = none
  | [], out, hs, _, hd => absurd hs.ds (by simpa using hd)
  | x :: r, out, hs, hv, hd => by
    unfold addAll
    by_cases hne : ∃ p ∈ out, p.1 = x.1
    · rw [if_pos hne]
    · rw [if_neg hne]
      have hne' : ∀ p ∈ out, p.1 ≠ x.1 := fun p hp e => hne ⟨p, hp, e⟩
      obtain ⟨h1, h2⟩ := with_new (x := x.1) (v := x.2) hs hne' (hv x (by simp))
      have hp : ((x :: out) ++ r).Perm (withF out x.1 x.2 ++ r) := List.Perm.append_right r h2.symm
      exact addAll_none r _ h1 (fun p hp => hv p (by simp [hp])) (fun h => hd (ds_cons_perm.2 (Ds.perm h hp.symm)))
/-- What is sorted is what the model puts together, and where the model gives up it is not good. -/
theorem join_eq {J J' L : List Lb} (hJ : J.Perm J') (hL : L.Perm J) (hs : ∀ i j, i < j → j < L.length → 0 ≤ cmpN (L.getD j e0) (L.getD i e0)) (hv : ∀ p ∈ J', p.2 ≠ ByteArray.empty) :
    addAll [] J' = some L ∨ (addAll [] J' = none ∧ goodL L = false) := by
  by_cases hd : Ds J'
  · obtain ⟨M, h1, h2, h3⟩ := addAll_some J' [] List.Pairwise.nil hv (by simpa using hd)
    have h4 : L.Perm M := (hL.trans hJ).trans (by simpa using h3.symm)
    have h5 := sorted_strict hs (Ds.perm hd (hL.trans hJ).symm)
    rw [perm_uniq L M h4 h5 h2]
    exact .inl h1
  · refine .inr ⟨addAll_none J' [] List.Pairwise.nil hv (by simpa using hd), ?_⟩
    refine decide_eq_false fun hg => hd ?_
    exact Ds.perm (Sr.ds (good_pair hg)) (hL.trans hJ)
end Go.Proofs.YtcknlidbjnmbjaaGreatDoor.Lab
