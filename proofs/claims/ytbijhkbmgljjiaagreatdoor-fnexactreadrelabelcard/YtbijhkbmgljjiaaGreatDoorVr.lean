/- The model's ReadRelabel: its state. -/
import Derived.Test.YtbijhkbmgljjiaaGreatDoorVq
import Derived.Test.YtbijhkbmgljjiaaGreatDoorVi
import Derived.Test.YtbijhkbmgljjiaaGreatDoorRe
import Derived.Test.YtbijhkbmgljjiaaGreatDoorRu
import Derived.Deep.CutRange
namespace Go.Proofs.YtbijhkbmgljjiaaGreatDoor.Rdd
open Go.RowKit Go.Proofs.YtbijhkbmgljjiaaGreatDoor.Pat

/-- Where the model reads a rule: the answer's box, the box of none, the rule's box X, the row of its names. -/
structure Sm (X : Nat) (w0 : World) (r : Rel.Rule) (a : Option Addr) (n c : Nat) (w : World) : Prop where
  zer : w.heap[w0.heap.size]? = some (.cells (ruleC zr none 0 0) 24)
  non : w.heap[w0.heap.size + 1]? = some (.cells (ruleC zr none 0 0) 24)
  box : w.heap[X]? = some (.cells (ruleC r a n c) 24)
  row : w.ownsRow (X + 1) 9 1 (.slice a n c) n (r.from'.map Value.string)
  len : r.from'.length = n
  bel : Below w0.heap.size w0 w
  pos : w0.heap.size + 1 < X
theorem Sm.below {X : Nat} {w0 w w' : World} {r : Rel.Rule} {a : Option Addr} {n c : Nat} (h : Sm X w0 r a n c w) (hb : Below w.heap.size w w') : Sm X w0 r a n c w' :=
  ⟨(hb.block _ (lt_block h.zer)).trans h.zer, (hb.block _ (lt_block h.non)).trans h.non, (hb.block _ (lt_block h.box)).trans h.box, own_kept (R := 0) h.row ⟨hb.os, hb.tape, hb.output, hb.size, fun j hj _ => hb.block j hj⟩ (by omega), h.len, h.bel.trans (hb.mono h.bel.size), h.pos⟩
theorem set_below {w0 w : World} {b i : Nat} {v : Value} (h : Below w0.heap.size w0 w) (hb : w0.heap.size ≤ b) : Below w0.heap.size w0 (w.setCell ⟨b, i, none⟩ v) := by
  have hg := set_by w b i v
  exact ⟨h.os, h.tape, h.output, Nat.le_trans h.size hg.size, fun j hj => by rw [hg.block j (Nat.lt_of_lt_of_le hj h.size) (by simp; omega)]; exact h.block j hj⟩
theorem Sm.put {X : Nat} {w0 w : World} {r r' : Rel.Rule} {a a' : Option Addr} {n c n' c' : Nat} (h : Sm X w0 r a n c w) (i : Nat) (v : Value) (hs : (ruleC r a n c).setIfInBounds i v = ruleC r' a' n' c') (ho : (w.setCell ⟨X, i, none⟩ v).ownsRow (X + 1) 9 1 (.slice a' n' c') n' (r'.from'.map Value.string)) (hl : r'.from'.length = n') : Sm X w0 r' a' n' c' (w.setCell ⟨X, i, none⟩ v) := by
  have h2 := h.pos
  have hX := lt_block h.box
  have hg := set_by w X i v
  refine ⟨?_, ?_, ?_, ho, hl, set_below h.bel (by omega), h.pos⟩
  · rw [hg.block _ (by omega) (by simp; omega)]; exact h.zer
  · rw [hg.block _ (by omega) (by simp; omega)]; exact h.non
  · rw [seven_set h.box i v, ← hs]
theorem Sm.own {X : Nat} {w0 w : World} {r : Rel.Rule} {a : Option Addr} {n c : Nat} (h : Sm X w0 r a n c w) (i : Nat) (v : Value) : (w.setCell ⟨X, i, none⟩ v).ownsRow (X + 1) 9 1 (.slice a n c) n (r.from'.map Value.string) :=
  own_kept h.row (set_by w X i v) (by omega)
theorem Sm.sep {X : Nat} {w0 w : World} {A md : Int} {ss : List ByteArray} {sep pat tgt val : ByteArray} {a : Option Addr} {n c : Nat} (h : Sm X w0 ⟨A, ss, sep, pat, tgt, val, md⟩ a n c w) (v : ByteArray) : Sm X w0 ⟨A, ss, v, pat, tgt, val, md⟩ a n c (w.setCell ⟨X, 2, none⟩ (.string v)) := h.put 2 _ rfl (h.own 2 _) h.len
theorem Sm.pat {X : Nat} {w0 w : World} {A md : Int} {ss : List ByteArray} {sep pat tgt val : ByteArray} {a : Option Addr} {n c : Nat} (h : Sm X w0 ⟨A, ss, sep, pat, tgt, val, md⟩ a n c w) (v : ByteArray) : Sm X w0 ⟨A, ss, sep, v, tgt, val, md⟩ a n c (w.setCell ⟨X, 3, none⟩ (.string v)) := h.put 3 _ rfl (h.own 3 _) h.len
theorem Sm.tgt {X : Nat} {w0 w : World} {A md : Int} {ss : List ByteArray} {sep pat tgt val : ByteArray} {a : Option Addr} {n c : Nat} (h : Sm X w0 ⟨A, ss, sep, pat, tgt, val, md⟩ a n c w) (v : ByteArray) : Sm X w0 ⟨A, ss, sep, pat, v, val, md⟩ a n c (w.setCell ⟨X, 4, none⟩ (.string v)) := h.put 4 _ rfl (h.own 4 _) h.len
theorem Sm.val {X : Nat} {w0 w : World} {A md : Int} {ss : List ByteArray} {sep pat tgt val : ByteArray} {a : Option Addr} {n c : Nat} (h : Sm X w0 ⟨A, ss, sep, pat, tgt, val, md⟩ a n c w) (v : ByteArray) : Sm X w0 ⟨A, ss, sep, pat, tgt, v, md⟩ a n c (w.setCell ⟨X, 5, none⟩ (.string v)) := h.put 5 _ rfl (h.own 5 _) h.len
theorem Sm.md {X : Nat} {w0 w : World} {A md : Int} {ss : List ByteArray} {sep pat tgt val : ByteArray} {a : Option Addr} {n c : Nat} (h : Sm X w0 ⟨A, ss, sep, pat, tgt, val, md⟩ a n c w) (v : Int) : Sm X w0 ⟨A, ss, sep, pat, tgt, val, v⟩ a n c (w.setCell ⟨X, 6, none⟩ (.int .i64 v)) := h.put 6 _ rfl (h.own 6 _) h.len
/-- The names are appended to, and the rule's box has the new row. -/
theorem Sm.app {X : Nat} {w0 w w' : World} {A md : Int} {ss ss' : List ByteArray} {sep pat tgt val : ByteArray} {a a' : Option Addr} {n c c' : Nat} (h : Sm X w0 ⟨A, ss, sep, pat, tgt, val, md⟩ a n c w) (hg : w.grownBy w' (Value.slice a n c).ownBlock) (ho : w'.ownsRow (X + 1) 9 1 (.slice a' ss'.length c') ss'.length (ss'.map Value.string)) : Sm X w0 ⟨A, ss', sep, pat, tgt, val, md⟩ a' ss'.length c' (w'.setCell ⟨X, 1, none⟩ (.slice a' ss'.length c')) ∧ w'.heap[X]? = some (.cells (ruleC ⟨A, ss, sep, pat, tgt, val, md⟩ a n c) 24) := by
  have h2 := h.pos
  have hX := lt_block h.box
  have hbe : ∀ j, j ≤ X → w'.heap[j]? = w.heap[j]? := fun j hj => hg.block j (by omega) (fun e => by have := (h.row.lt j e.symm).1; omega)
  have hbl : Below w0.heap.size w0 w' := ⟨hg.os.trans h.bel.os, hg.tape.trans h.bel.tape, hg.output.trans h.bel.output, Nat.le_trans h.bel.size hg.size, fun j hj => (hbe j (by omega)).trans (h.bel.block j hj)⟩
  have hbx : w'.heap[X]? = some (.cells (ruleC ⟨A, ss, sep, pat, tgt, val, md⟩ a n c) 24) := (hbe X (Nat.le_refl _)).trans h.box
  have hs := set_by w' X 1 (.slice a' ss'.length c')
  have hX' := lt_block hbx
  refine ⟨⟨?_, ?_, ?_, own_kept ho hs (by omega), rfl, set_below hbl (by omega), h.pos⟩, hbx⟩
  · rw [hs.block _ (by omega) (by simp; omega)]; exact (hbe _ (by omega)).trans h.zer
  · rw [hs.block _ (by omega) (by simp; omega)]; exact (hbe _ (by omega)).trans h.non
  · rw [seven_set hbx 1 _]; rfl
/-- The answer's box is written: what comes of it. -/
theorem Sm.none' {X : Nat} {s : ByteArray} {w0 w : World} {r : Rel.Rule} {a : Option Addr} {n c : Nat} (h : Sm X w0 r a n c w) (hq : ∀ q, Rel.goodR q = true → Rel.txtR q ≠ s.data.toList) : RdlR s w0 (.returned (.tuple #[Rel.agR zr none 0 0, .bool false])) (put7 w w0.heap.size (.int .i64 0) (.slice none 0 0) (.string ⟨#[]⟩) (.string ⟨#[]⟩) (.string ⟨#[]⟩) (.string ⟨#[]⟩) (.int .i64 0)) :=
  ⟨put7_below h.bel _ _ _ _ _ _ _, .inr ⟨hq, rfl⟩⟩
theorem Sm.some' {X : Nat} {s : ByteArray} {w0 w : World} {A md : Int} {ss : List ByteArray} {sep pat tgt val : ByteArray} {a : Option Addr} {n c : Nat} (h : Sm X w0 ⟨A, ss, sep, pat, tgt, val, md⟩ a n c w) (hg : Rel.goodR ⟨A, ss, sep, pat, tgt, val, md⟩ = true) (hq : Rel.txtR ⟨A, ss, sep, pat, tgt, val, md⟩ = s.data.toList) : RdlR s w0 (.returned (.tuple #[Rel.agR ⟨A, ss, sep, pat, tgt, val, md⟩ a n c, .bool true])) (put7 w w0.heap.size (.int .i64 A) (.slice a n c) (.string sep) (.string pat) (.string tgt) (.string val) (.int .i64 md)) := by
  have := h.pos
  exact ⟨put7_below h.bel _ _ _ _ _ _ _, .inl ⟨⟨A, ss, sep, pat, tgt, val, md⟩, a, n, c, hg, hq, rfl, h.len, own_base (put7_own h.row (by omega) _ _ _ _ _ _ _) (by omega)⟩⟩
end Go.Proofs.YtbijhkbmgljjiaaGreatDoor.Rdd
