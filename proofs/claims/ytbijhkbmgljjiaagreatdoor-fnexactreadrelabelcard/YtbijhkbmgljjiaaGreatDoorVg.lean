/- The program's readRule: its state, and the calls by what they come to, without cases. -/
import Derived.Test.YtbijhkbmgljjiaaGreatDoorVf
import Derived.Test.YtbijhkbmgljjiaaGreatDoorVe
import Derived.Test.YtbijhkbmgljjiaaGreatDoorIt
import Derived.Deep.CutRange
namespace Go.Proofs.YtbijhkbmgljjiaaGreatDoor.Rdd
open Go.RowKit Go.Proofs.YtbijhkbmgljjiaaGreatDoor.Pat

/-- Whether a sign stands next, and what is left behind it. -/
def sg (v l : List UInt8) : Bool := (Rel.sgn v l).isSome
def rs (v l : List UInt8) : List UInt8 := (Rel.sgn v l).getD l
theorem f35B (R : Nat) (s v : ByteArray) (l : List UInt8) (w : World) (hs : s.size ≤ 1048576) (hv : v.size ≤ 100) (h : Rd R s l w) : Calls Tryz.prog 35 #[.pointer (some ⟨R, 0, none⟩), .string v] w fun e w' => e = .returned (.bool (sg v.data.toList l)) ∧ Rd R s (rs v.data.toList l) w' ∧ w.grownBy w' (some R) := by
  unfold sg rs
  cases hq : Rel.sgn v.data.toList l with
  | none => exact f35N R s v l w hs hv h hq
  | some r => exact f35Y R s v l r w hs hv h hq
/-- The same of quotedBehind. -/
def QuJ (R : Nat) (s : ByteArray) (q : Option (List UInt8 × List UInt8)) (w : World) (e : Ending) (w' : World) : Prop :=
  w.grownBy w' (some R) ∧ ∃ (v : ByteArray) (ok : Bool) (l' : List UInt8), e = .returned (.tuple #[.string v, .bool ok]) ∧ Rd R s l' w' ∧ v.size ≤ s.size ∧ ∀ u m, q = some (u, m) → v = mkS u ∧ ok = true ∧ l' = m
theorem f37J (R : Nat) (s v : ByteArray) (l : List UInt8) (w : World) (hs : s.size ≤ 1048576) (hv : v.size ≤ 100) (h : Rd R s l w) : Calls Tryz.prog 37 #[.pointer (some ⟨R, 0, none⟩), .string v] w (QuJ R s (Rel.beh v.data.toList l) w) := by
  refine (f37 R s v l w hs hv h).mono ?_
  rintro e w' ⟨hg, h1⟩
  refine ⟨hg, ?_⟩
  rcases h1 with ⟨hq, rfl, l', h2⟩ | ⟨u, l', hq, rfl, h2, h3⟩
  · exact ⟨_, _, l', rfl, h2, Nat.zero_le _, fun u m e => by rw [hq] at e; cases e⟩
  · exact ⟨_, _, l', rfl, h2, by rw [mk_len]; exact h3, fun u' m e => by rw [hq] at e; cases e; exact ⟨rfl, rfl, rfl⟩⟩

abbrev ruleC (r : Rel.Rule) (a : Option Addr) (n c : Nat) : Array Value := #[.int .i64 r.act, .slice a n c, .string r.sep, .string r.pat, .string r.tgt, .string r.val, .int .i64 r.md]
theorem seven_set {w : World} {b : Nat} {x0 x1 x2 x3 x4 x5 x6 : Value} {t : TypeId} (h : w.heap[b]? = some (.cells #[x0, x1, x2, x3, x4, x5, x6] t)) (i : Nat) (v : Value) : (w.setCell ⟨b, i, none⟩ v).heap[b]? = some (.cells (#[x0, x1, x2, x3, x4, x5, x6].setIfInBounds i v) t) := by
  have hlt := lt_block h
  have h' : w.heap[b] = .cells #[x0, x1, x2, x3, x4, x5, x6] t := by simpa [Array.getElem?_eq_getElem hlt] using h
  show (w.heap.modify b _)[b]? = _
  rw [Array.getElem?_eq_getElem (by simpa using hlt), Array.getElem_modify_self, h']
  rfl
theorem seven_frz {w : World} {b o : Nat} {x0 x1 x2 x3 x4 x5 x6 : Value} {t : TypeId} (h : w.heap[b]? = some (.cells #[x0, x1, x2, x3, x4, x5, x6] t)) : w.frozen? ⟨b, o, none⟩ = false := by simp [World.frozen?, h]
theorem set_by (w : World) (b i : Nat) (v : Value) : w.grownBy (w.setCell ⟨b, i, none⟩ v) (some b) := Lib.grownBy_setB (World.grownBy.refl _ _) i v

/-- Where a rule is read: the reader R, the answer's box, the rule's box X, the row of its names. -/
structure Sr (R X : Nat) (s : ByteArray) (w0 : World) (l : List UInt8) (r : Rel.Rule) (a : Option Addr) (n c : Nat) (w : World) : Prop where
  rdr : Rd R s l w
  zer : w.heap[w0.heap.size]? = some (.cells (ruleC ⟨0, [], ⟨#[]⟩, ⟨#[]⟩, ⟨#[]⟩, ⟨#[]⟩, 0⟩ none 0 0) 24)
  box : w.heap[X]? = some (.cells (ruleC r a n c) 24)
  row : w.ownsRow (X + 1) 9 1 (.slice a n c) n (r.from'.map Value.string)
  len : r.from'.length = n
  grw : w0.grownBy w (some R)
  lt : R < w0.heap.size
  pos : w0.heap.size < X
theorem Sr.moved {R X : Nat} {s : ByteArray} {w0 w w' : World} {l l' : List UInt8} {r : Rel.Rule} {a : Option Addr} {n c : Nat} (h : Sr R X s w0 l r a n c w) (hr : Rd R s l' w') (hg : w.grownBy w' (some R)) : Sr R X s w0 l' r a n c w' := by
  have h1 := h.lt
  have h2 := h.pos
  have hX := lt_block h.box
  refine ⟨hr, ?_, ?_, own_kept h.row hg (by omega), h.len, Lib.grownBy_trans h.grw hg, h.lt, h.pos⟩
  · rw [hg.block _ (by omega) (by simp; omega)]; exact h.zer
  · rw [hg.block _ (by omega) (by simp; omega)]; exact h.box
theorem Sr.below {R X : Nat} {s : ByteArray} {w0 w w' : World} {l : List UInt8} {r : Rel.Rule} {a : Option Addr} {n c : Nat} (h : Sr R X s w0 l r a n c w) (hb : Below w.heap.size w w') : Sr R X s w0 l r a n c w' := by
  have hg : w.grownBy w' (some R) := ⟨hb.os, hb.tape, hb.output, hb.size, fun j hj _ => hb.block j hj⟩
  refine h.moved ?_ hg
  obtain ⟨t, h1, h2⟩ := h.rdr
  exact ⟨t, ⟨(hb.block R (lt_block h1.1)).trans h1.1, h1.2⟩, h2⟩
/-- A cell of the rule is written: what else is there stays. -/
theorem Sr.put {R X : Nat} {s : ByteArray} {w0 w : World} {l : List UInt8} {r r' : Rel.Rule} {a a' : Option Addr} {n c n' c' : Nat} (h : Sr R X s w0 l r a n c w) (i : Nat) (v : Value) (hs : (ruleC r a n c).setIfInBounds i v = ruleC r' a' n' c') (ho : (w.setCell ⟨X, i, none⟩ v).ownsRow (X + 1) 9 1 (.slice a' n' c') n' (r'.from'.map Value.string)) (hl : r'.from'.length = n') : Sr R X s w0 l r' a' n' c' (w.setCell ⟨X, i, none⟩ v) := by
  have h1 := h.lt
  have h2 := h.pos
  have hX := lt_block h.box
  have hg := set_by w X i v
  refine ⟨?_, ?_, ?_, ho, hl, ?_, h.lt, h.pos⟩
  · obtain ⟨t, h3, h4⟩ := h.rdr
    exact ⟨t, ⟨(hg.block R (by omega) (by simp; omega)).trans h3.1, h3.2⟩, h4⟩
  · rw [hg.block _ (by omega) (by simp; omega)]; exact h.zer
  · rw [seven_set h.box i v, ← hs]
  · refine ⟨h.grw.os, h.grw.tape, h.grw.output, Nat.le_trans h.grw.size hg.size, fun j hj hr => ?_⟩
    rw [hg.block j (Nat.lt_of_lt_of_le hj h.grw.size) (by simp; omega)]
    exact h.grw.block j hj hr
theorem Sr.own {R X : Nat} {s : ByteArray} {w0 w : World} {l : List UInt8} {r : Rel.Rule} {a : Option Addr} {n c : Nat} (h : Sr R X s w0 l r a n c w) (i : Nat) (v : Value) : (w.setCell ⟨X, i, none⟩ v).ownsRow (X + 1) 9 1 (.slice a n c) n (r.from'.map Value.string) :=
  own_kept h.row (set_by w X i v) (by omega)
theorem Sr.sep {R X : Nat} {s : ByteArray} {w0 w : World} {l : List UInt8} {A md : Int} {ss : List ByteArray} {sep pat tgt val : ByteArray} {a : Option Addr} {n c : Nat} (h : Sr R X s w0 l ⟨A, ss, sep, pat, tgt, val, md⟩ a n c w) (v : ByteArray) : Sr R X s w0 l ⟨A, ss, v, pat, tgt, val, md⟩ a n c (w.setCell ⟨X, 2, none⟩ (.string v)) := h.put 2 _ rfl (h.own 2 _) h.len
theorem Sr.pat {R X : Nat} {s : ByteArray} {w0 w : World} {l : List UInt8} {A md : Int} {ss : List ByteArray} {sep pat tgt val : ByteArray} {a : Option Addr} {n c : Nat} (h : Sr R X s w0 l ⟨A, ss, sep, pat, tgt, val, md⟩ a n c w) (v : ByteArray) : Sr R X s w0 l ⟨A, ss, sep, v, tgt, val, md⟩ a n c (w.setCell ⟨X, 3, none⟩ (.string v)) := h.put 3 _ rfl (h.own 3 _) h.len
theorem Sr.tgt {R X : Nat} {s : ByteArray} {w0 w : World} {l : List UInt8} {A md : Int} {ss : List ByteArray} {sep pat tgt val : ByteArray} {a : Option Addr} {n c : Nat} (h : Sr R X s w0 l ⟨A, ss, sep, pat, tgt, val, md⟩ a n c w) (v : ByteArray) : Sr R X s w0 l ⟨A, ss, sep, pat, v, val, md⟩ a n c (w.setCell ⟨X, 4, none⟩ (.string v)) := h.put 4 _ rfl (h.own 4 _) h.len
theorem Sr.val {R X : Nat} {s : ByteArray} {w0 w : World} {l : List UInt8} {A md : Int} {ss : List ByteArray} {sep pat tgt val : ByteArray} {a : Option Addr} {n c : Nat} (h : Sr R X s w0 l ⟨A, ss, sep, pat, tgt, val, md⟩ a n c w) (v : ByteArray) : Sr R X s w0 l ⟨A, ss, sep, pat, tgt, v, md⟩ a n c (w.setCell ⟨X, 5, none⟩ (.string v)) := h.put 5 _ rfl (h.own 5 _) h.len
theorem Sr.md {R X : Nat} {s : ByteArray} {w0 w : World} {l : List UInt8} {A md : Int} {ss : List ByteArray} {sep pat tgt val : ByteArray} {a : Option Addr} {n c : Nat} (h : Sr R X s w0 l ⟨A, ss, sep, pat, tgt, val, md⟩ a n c w) (v : Int) : Sr R X s w0 l ⟨A, ss, sep, pat, tgt, val, v⟩ a n c (w.setCell ⟨X, 6, none⟩ (.int .i64 v)) := h.put 6 _ rfl (h.own 6 _) h.len
theorem own_base {w : World} {base base' e size n : Nat} {v : Value} {xs : List Value} (h : w.ownsRow base e size v n xs) (hb : base' ≤ base) : w.ownsRow base' e size v n xs := by
  refine ⟨h.1, ?_⟩
  rcases h.2 with h2 | ⟨g, cap, cur, h1, h2, h3⟩
  · exact .inl h2
  · exact .inr ⟨g, cap, cur, h1, by omega, h3⟩
/-- The names that words has read are put into the rule. -/
theorem Sr.names {R X : Nat} {s : ByteArray} {w0 w w' : World} {l l' : List UInt8} {A md : Int} {ss acc : List ByteArray} {sep pat tgt val : ByteArray} {a a' : Option Addr} {n c c' : Nat} (h : Sr R X s w0 l ⟨A, ss, sep, pat, tgt, val, md⟩ a n c w) (hl : Ls R s w l' acc a' c' w') : Sr R X s w0 l' ⟨A, acc, sep, pat, tgt, val, md⟩ a' acc.length c' (w'.setCell ⟨X, 1, none⟩ (.slice a' acc.length c')) := by
  have h2 := h.moved hl.rdr hl.grw
  have hX := lt_block h.box
  refine h2.put 1 _ rfl ?_ rfl
  exact own_base (own_kept hl.row (set_by w' X 1 _) hX) (by omega)

/-- What the program's variables read as. -/
structure Glb (w : World) : Prop where
  tab : Rel.Tab w
  pow : Rel.Pow w
  ers : Rel.Ers w
theorem Glb.kept {w w' : World} {R : Nat} (h : Glb w) (hg : w.grownBy w' (some R)) (hR : 4 < R) : Glb w' := by
  have hb : Below 5 w w' := ⟨hg.os, hg.tape, hg.output, hg.size, fun k hk => hg.block k (Nat.lt_of_lt_of_le hk h.pow.1) (by simp; omega)⟩
  refine ⟨⟨Nat.lt_of_lt_of_le h.tab.1 hg.size, fun i hi => (hb.cell (p := ⟨0, i, none⟩) (show 0 < 5 by decide)).trans (h.tab.2 i hi)⟩, ⟨Nat.lt_of_lt_of_le h.pow.1 hg.size, var?_below hb Rel.gPow (by decide) h.pow.2⟩, ?_⟩
  obtain ⟨h0, ⟨a, b, h1⟩, c, d, h2⟩ := h.ers
  exact ⟨Nat.lt_of_lt_of_le h0 hg.size, ⟨a, b, (hb.cell (p := ⟨1, 0, none⟩) (by decide)).trans h1⟩, c, d, (hb.cell (p := ⟨2, 0, none⟩) (by decide)).trans h2⟩
theorem Sr.glb {R X : Nat} {s : ByteArray} {w0 w : World} {l : List UInt8} {r : Rel.Rule} {a : Option Addr} {n c : Nat} (h : Sr R X s w0 l r a n c w) (hR : 4 < R) (h0 : Glb w0) : Glb w := h0.kept h.grw hR
end Go.Proofs.YtbijhkbmgljjiaaGreatDoor.Rdd
