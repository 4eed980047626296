/- Rules: szRelabel, toRelabel, eqRelabel. -/
import Derived.Test.YtbijhkbmgljjiaaGreatDoorTx
import Derived.Deep.RegionHeld3
namespace Go.Proofs.YtbijhkbmgljjiaaGreatDoor.Rel
open Go.RowKit Go.Proofs.YtbijhkbmgljjiaaGreatDoor.Fil

structure Rule where
  act : Int
  from' : List ByteArray
  sep : ByteArray
  pat : ByteArray
  tgt : ByteArray
  val : ByteArray
  md : Int
abbrev agR (r : Rule) (a : Option Addr) (n c : Nat) : Value := .agg #[.int .i64 r.act, .slice a n c, .string r.sep, .string r.pat, .string r.tgt, .string r.val, .int .i64 r.md]
/-- The rule's numbers and texts are Go's own. -/
structure FitR (r : Rule) : Prop where
  a0 : -9223372036854775808 ≤ r.act
  a1 : r.act ≤ 9223372036854775807
  m0 : -9223372036854775808 ≤ r.md
  m1 : r.md ≤ 9223372036854775807
  sep : r.sep.size ≤ maxLen
  pat : r.pat.size ≤ maxLen
  tgt : r.tgt.size ≤ maxLen
  val : r.val.size ≤ maxLen
structure SmlR (r : Rule) : Prop where
  n : r.from'.length ≤ 1048576
  each : ∀ i, i < r.from'.length → (r.from'.getD i ByteArray.empty).size ≤ 1048576
  sep : r.sep.size ≤ 1048576
  pat : r.pat.size ≤ 1048576
  tgt : r.tgt.size ≤ 1048576
  val : r.val.size ≤ 1048576

theorem cells7 {w : World} {b : Nat} {x0 x1 x2 x3 x4 x5 x6 : Value} {t : TypeId} (h : w.heap[b]? = some (.cells #[x0, x1, x2, x3, x4, x5, x6] t)) :
    w.cell? ⟨b, 0, none⟩ = some x0 ∧ w.cell? ⟨b, 1, none⟩ = some x1 ∧ w.cell? ⟨b, 2, none⟩ = some x2 ∧ w.cell? ⟨b, 3, none⟩ = some x3 ∧ w.cell? ⟨b, 4, none⟩ = some x4 ∧ w.cell? ⟨b, 5, none⟩ = some x5 ∧ w.cell? ⟨b, 6, none⟩ = some x6 := by
  simp [World.cell?, h]
theorem froz7 {w : World} {b : Nat} {arr : Array Value} {t : TypeId} (h : w.heap[b]? = some (.cells arr t)) : ∀ o, w.frozen? ⟨b, o, none⟩ = false := by
  intro o; simp [World.frozen?, h]
theorem three_new (w : World) (x y z : Obj) : (((w.alloc x).alloc y).alloc z).heap[w.heap.size]? = some x ∧ (((w.alloc x).alloc y).alloc z).heap[w.heap.size + 1]? = some y ∧ (((w.alloc x).alloc y).alloc z).heap[w.heap.size + 1 + 1]? = some z := by
  show (((w.heap.push x).push y).push z)[w.heap.size]? = some x ∧ (((w.heap.push x).push y).push z)[w.heap.size + 1]? = some y ∧ (((w.heap.push x).push y).push z)[w.heap.size + 1 + 1]? = some z
  refine ⟨?_, ?_, ?_⟩
  · rw [Array.getElem?_push, if_neg (by simp; omega), Array.getElem?_push, if_neg (by simp), Array.getElem?_push, if_pos rfl]
  · rw [Array.getElem?_push, if_neg (by simp), Array.getElem?_push, if_pos (by simp)]
  · rw [Array.getElem?_push, if_pos (by simp)]
theorem new_at (w : World) (bl : Obj) : (w.alloc bl).heap[w.heap.size]? = some bl := by show (w.heap.push bl)[w.heap.size]? = some bl; simp
theorem kept_at {w w' : World} {b : Nat} {bl : Obj} (h : w.heap[b]? = some bl) (hb : Below w.heap.size w w') : w'.heap[b]? = some bl := by
  have hl : b < w.heap.size := by
    rcases Nat.lt_or_ge b w.heap.size with h1 | h1
    · exact h1
    · rw [Array.getElem?_eq_none h1] at h; cases h
  rw [hb.block b hl]; exact h

end Go.Proofs.YtbijhkbmgljjiaaGreatDoor.Rel
