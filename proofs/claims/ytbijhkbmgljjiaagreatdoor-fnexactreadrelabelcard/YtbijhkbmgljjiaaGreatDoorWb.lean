/- The walk of FnExactReadRelabel. -/
import Derived.Test.YtbijhkbmgljjiaaGreatDoorVt
import Derived.Test.YtbijhkbmgljjiaaGreatDoorWa
import Derived.Test.YtbijhkbmgljjiaaGreatDoorVp
namespace Go.Proofs.YtbijhkbmgljjiaaGreatDoor.Rdd
open Go.RowKit Go.Proofs.YtbijhkbmgljjiaaGreatDoor.Pat

/-- What is to be answered for a text. -/
def An (s : ByteArray) (r : Rel.Rule) (ok : Bool) : Prop := (Rel.goodR r = true ∧ Rel.txtR r = s.data.toList ∧ ok = true) ∨ ((∀ q, Rel.goodR q = true → Rel.txtR q ≠ s.data.toList) ∧ r = zr ∧ ok = false)
theorem An.same {s : ByteArray} {r r' : Rel.Rule} {ok ok' : Bool} (h : An s r ok) (h' : An s r' ok') : r' = r ∧ ok' = ok := by
  rcases h with ⟨h1, h2, rfl⟩ | ⟨h1, rfl, rfl⟩
  · rcases h' with ⟨k1, k2, rfl⟩ | ⟨k1, rfl, rfl⟩
    · exact ⟨txt_inj k1 h1 (k2.trans h2.symm), rfl⟩
    · exact absurd h2 (k1 _ h1)
  · rcases h' with ⟨k1, k2, rfl⟩ | ⟨k1, rfl, rfl⟩
    · exact absurd k2 (h1 _ k1)
    · exact ⟨rfl, rfl⟩
theorem An.len {s : ByteArray} {r : Rel.Rule} {ok : Bool} (h : An s r ok) : r.from'.length ≤ 10 := by
  rcases h with ⟨h1, h2, rfl⟩ | ⟨h1, rfl, rfl⟩
  · exact (from_len h1).1
  · simp
theorem rdl_form {s : ByteArray} {w w' : World} {e : Ending} (h : RdlR s w e w') : ∃ (r : Rel.Rule) (ok : Bool) (a : Option Addr) (c : Nat), e = .returned (.tuple #[Rel.agR r a r.from'.length c, .bool ok]) ∧ w'.ownsRow w.heap.size 9 1 (.slice a r.from'.length c) r.from'.length (r.from'.map Value.string) ∧ Below w.heap.size w w' ∧ An s r ok := by
  obtain ⟨hb, h⟩ := h
  rcases h with ⟨r, a, n, c, h1, h2, rfl, rfl, h3⟩ | ⟨h1, rfl⟩
  · exact ⟨r, true, a, c, rfl, h3, hb, .inl ⟨h1, h2, rfl⟩⟩
  · exact ⟨zr, false, none, 0, rfl, World.ownsRow_nil _ _ _ _, hb, .inr ⟨h1, rfl, rfl⟩⟩
theorem Glb.below {w w' : World} (h : Glb w) (hb : Below w.heap.size w w') : Glb w' :=
  h.kept (R := 5) ⟨hb.os, hb.tape, hb.output, hb.size, fun j hj _ => hb.block j hj⟩ (by decide)
theorem own_mark {w w' : World} {base b n c : Nat} {a : Option Addr} {xs : List Value} {v : Value} {m : Nat} {ys : List Value} (h : w.ownsRow base 9 1 (.slice a n c) n xs) (hv : w.ownsRow b 9 1 v m ys) (hlt : ∀ g, (Value.slice a n c).ownBlock = some g → g < b) (hg : w.grownBy w' v.ownBlock) : w'.ownsRow base 9 1 (.slice a n c) n xs := by
  refine h.kept hg ?_
  cases hq : (Value.slice a n c).ownBlock with
  | none => exact .inl rfl
  | some g =>
    refine .inr ?_
    intro e
    have := (hv.lt g e.symm).1
    have := hlt g hq
    omega
/-- The boxes of what the model and the program read, and their rows. -/
structure Wk (w0 : World) (B1 B2 : Nat) (r : Rel.Rule) (a a' : Option Addr) (c c' : Nat) (ys : List Value) (w : World) : Prop where
  one : w.heap[B1]? = some (.cells (ruleC r a r.from'.length c) 24)
  two : w.heap[B2]? = some (.cells (ruleC r a' r.from'.length c') 24)
  row : w.ownsRow w0.heap.size 9 1 (.slice a r.from'.length c) r.from'.length (r.from'.map Value.string)
  row' : w.ownsRow (B1 + 1) 9 1 (.slice a' r.from'.length c') r.from'.length ys
  low : ∀ g, (Value.slice a r.from'.length c).ownBlock = some g → g < B1
  bel : Below w0.heap.size w0 w
  pos : w0.heap.size ≤ B1
  out : ∀ g, (Value.slice a' r.from'.length c').ownBlock = some g → g < B2
theorem Wk.below {w0 : World} {B1 B2 : Nat} {r : Rel.Rule} {a a' : Option Addr} {c c' : Nat} {ys : List Value} {w w' : World} (h : Wk w0 B1 B2 r a a' c c' ys w) (hb : Below w.heap.size w w') : Wk w0 B1 B2 r a a' c c' ys w' :=
  ⟨(hb.block _ (lt_block h.one)).trans h.one, (hb.block _ (lt_block h.two)).trans h.two, own_below h.row hb, own_below h.row' hb, h.low, h.bel.trans (hb.mono h.bel.size), h.pos, h.out⟩
theorem Wk.glb {w0 : World} {B1 B2 : Nat} {r : Rel.Rule} {a a' : Option Addr} {c c' : Nat} {ys : List Value} {w : World} (h : Wk w0 B1 B2 r a a' c c' ys w) (hG : Glb w0) : Glb w := hG.below h.bel
theorem Wk.marked {w0 : World} {B1 B2 : Nat} {r : Rel.Rule} {a a' : Option Addr} {c c' : Nat} {ys zs : List Value} {w w' : World} (h : Wk w0 B1 B2 r a a' c c' ys w) (ho : w'.ownsRow (B1 + 1) 9 1 (.slice a' r.from'.length c') r.from'.length zs) (hg : w.grownBy w' (Value.slice a' r.from'.length c').ownBlock) : Wk w0 B1 B2 r a a' c c' zs w' := by
  have hp := h.pos
  have hk : ∀ j, j < w.heap.size → j ≤ B1 ∨ j = B2 → w'.heap[j]? = w.heap[j]? := fun j hj hq => hg.block j hj (fun e => by
    have h1 := (h.row'.lt j e.symm).1
    have h2 := h.out j e.symm
    omega)
  refine ⟨(hk _ (lt_block h.one) (.inl (Nat.le_refl _))).trans h.one, (hk _ (lt_block h.two) (.inr rfl)).trans h.two, own_mark h.row h.row' (fun g e => by have := h.low g e; omega) hg, ho, h.low, ?_, h.pos, h.out⟩
  have hs := h.bel.size
  exact ⟨hg.os.trans h.bel.os, hg.tape.trans h.bel.tape, hg.output.trans h.bel.output, Nat.le_trans hs hg.size, fun j hj => (hk j (by omega) (.inl (by omega))).trans (h.bel.block j hj)⟩
end Go.Proofs.YtbijhkbmgljjiaaGreatDoor.Rdd
