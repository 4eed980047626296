/- Rules: szRelabel, toRelabel, eqRelabel. -/
import Derived.Test.YtooackaijhpohaaGreatDoorTx
import Derived.Deep.RegionHeld3
namespace Go.Proofs.YtooackaijhpohaaGreatDoor.Rel
open Go.RowKit Go.Proofs.YtooackaijhpohaaGreatDoor.Fil

structure Rule where
  act : Int
  from' : List ByteArray
  sep : ByteArray
  pat : ByteArray
  tgt : ByteArray
  val : ByteArray
  md : Int
abbrev agR (r : Rule) (a : Option Addr) (n c : Nat) : Value := .agg #[.int .i64 r.act, .slice a n c, .string r.sep, .string r.pat, .string r.tgt, .string r.val, .int .i64 r.md]
/-- The rule's numbers and texts are Go's own. -/
structure FitR (r : Rule) : Prop where
  a0 : -9223372036854775808 ≤ r.act
  a1 : r.act ≤ 9223372036854775807
  m0 : -9223372036854775808 ≤ r.md
  m1 : r.md ≤ 9223372036854775807
  sep : r.sep.size ≤ maxLen
  pat : r.pat.size ≤ maxLen
  tgt : r.tgt.size ≤ maxLen
  val : r.val.size ≤ maxLen
structure SmlR (r : Rule) : Prop where
  n : r.from'.length ≤ 1048576
  each : ∀ i, i < r.from'.length → (r.from'.getD i ByteArray.empty).size ≤ 1048576
  sep : r.sep.size ≤ 1048576
  pat : r.pat.size ≤ 1048576
  tgt : r.tgt.size ≤ 1048576
  val : r.val.size ≤ 1048576

theorem cells7 {w : World} {b : Nat} {x0 x1 x2 x3 x4 x5 x6 : Value} {t : TypeId} (h : w.heap[b]? = some (.cells #[x0, x1, x2, x3, x4, x5, x6] t)) :
    w.cell? ⟨b, 0, none⟩ = some x0 ∧ w.cell? ⟨b, 1, none⟩ = some x1 ∧ w.cell? ⟨b, 2, none⟩ = some x2 ∧ w.cell? ⟨b, 3, none⟩ = some x3 ∧ w.cell? ⟨b, 4, none⟩ = some x4 ∧ w.cell? ⟨b, 5, none⟩ = some x5 ∧ w.cell? ⟨b, 6, none⟩ = some x6 := by
  simp [World.cell?, h]
theorem froz7 {w : World} {b : Nat} {arr : Array Value} {t : TypeId} (h : w.heap[b]? = some (.cells arr t)) : ∀ o, w.frozen? ⟨b, o, none⟩ = false := by
  intro o; simp [World.frozen?, h]
theorem three_new (w : World) (x y z : Obj) : (((w.alloc x).alloc y).alloc z).heap[w.heap.size]? = some x ∧ (((w.alloc x).alloc y).alloc z).heap[w.heap.size + 1]? = some y ∧ (((w.alloc x).alloc y).alloc z).heap[w.heap.size + 1 + 1]? = some z := by
  show (((w.heap.push x).push y).push z)[w.heap.size]? = some x ∧ (((w.heap.push x).push y).push z)[w.heap.size + 1]? = some y ∧ (((w.heap.push x).push y).push z)[w.heap.size + 1 + 1]? = some z
  refine ⟨?_, ?_, ?_⟩
  · rw [Array.getElem?_push, if_neg (by simp; omega), Array.getElem?_push, if_neg (by simp), Array.getElem?_push, if_pos rfl]
  · rw [Array.getElem?_push, if_neg (by simp), Array.getElem?_push, if_pos (by simp)]
  · rw [Array.getElem?_push, if_pos (by simp)]
theorem new_at (w : World) (bl : Obj) : (w.alloc bl).heap[w.heap.size]? = some bl := by show (w.heap.push bl)[w.heap.size]? = some bl; simp
theorem kept_at {w w' : World} {b : Nat} {bl : Obj} (h : w.heap[b]? = some bl) (hb : Below w.heap.size w w') : w'.heap[b]? = some bl := by
  have hl : b < w.heap.size := by
    rcases Nat.lt_or_ge b w.heap.size with h1 | h1
    · exact h1
    · rw [Array.getElem?_eq_none h1] at h; cases h
  rw [hb.block b hl]; exact h

set_option maxHeartbeats 2000000 in
theorem f37 (r : Rule) (a : Option Addr) (n c : Nat) (w : World) (hn : r.from'.length = n) (hr : HasT w a r.from') (hf : FitT r.from') (hmax : n ≤ maxLen) (hz : FitR r) :
    Calls Tryz.prog 37 #[agR r a n c, .int .i64 1048576] w fun e w' => ∃ y : Int, e = .returned (.int .i64 y) ∧ (0 ≤ y → SmlR r) ∧ Below w.heap.size w w' := by
  obtain ⟨A, ss, sep, pat, tgt, val, md⟩ := r
  obtain ⟨h1, h2, h3, h4, h5, h6, h7, h8⟩ := hz
  simp only at h1 h2 h3 h4 h5 h6 h7 h8 hn hr hf
  unfold maxLen at h5 h6 h7 h8
  have HN := hid hn
  have HR := hid hr
  have HB0 := hid ((Below.refl w.heap.size w).alloc (Nat.le_refl _) (.cells #[.int .i64 A, .slice a n c, .string sep, .string pat, .string tgt, .string val, .int .i64 md] 64))
  have HW := hid (new_at w (.cells #[.int .i64 A, .slice a n c, .string sep, .string pat, .string tgt, .string val, .int .i64 md] 64))
  clear hn hr
  simp only [agR]
  go_enter Tryz.func37, Tryz.ntmps37
  go_wp2_with fail
  refine (f59 a n c 1048576 ss _ (by omega) (by omega) HN.out (HR.out.below HB0.out) hf hmax).mono ?_
  rintro e w1 ⟨y, rfl, hy, y0, y1, hw1⟩
  have hw2 := hw1.symm
  clear hw1
  subst hw2
  by_cases g0 : y < 0
  · go_wp2
    go_ret
    exact ⟨-1, rfl, fun h => absurd h (by omega), HB0.out⟩
  have HY := hid (hy (by omega))
  clear hy
  by_cases g1 : y - sep.size < 0
  · go_wp2
    go_ret
    exact ⟨-1, rfl, fun h => absurd h (by omega), HB0.out⟩
  by_cases g2 : y - sep.size - pat.size < 0
  · go_wp2
    go_ret
    exact ⟨-1, rfl, fun h => absurd h (by omega), HB0.out⟩
  by_cases g3 : y - sep.size - pat.size - tgt.size < 0
  · go_wp2
    go_ret
    exact ⟨-1, rfl, fun h => absurd h (by omega), HB0.out⟩
  by_cases g4 : y - sep.size - pat.size - tgt.size - val.size < 0
  · go_wp2
    go_ret
    exact ⟨-1, rfl, fun h => absurd h (by omega), HB0.out⟩
  · go_wp2
    go_ret
    refine ⟨_, rfl, fun _ => ⟨?_, ?_, ?_, ?_, ?_, ?_⟩, HB0.out⟩
    · simp only; rw [HN.out]; exact HY.out.1
    · simp only; rw [HN.out]; exact HY.out.2
    all_goals (simp only; omega)

end Go.Proofs.YtooackaijhpohaaGreatDoor.Rel
