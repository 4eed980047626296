/- Good rules: what the program's GoodRelabel comes to, where the table of shapes reads as its text lays it. -/
import Derived.Test.YtbijhkbmgljjiaaGreatDoorRd
namespace Go.Proofs.YtbijhkbmgljjiaaGreatDoor.Rel
open Go.RowKit Go.Proofs.YtbijhkbmgljjiaaGreatDoor.Fil

def tabL : List Value := [.string ⟨#[]⟩, .bool false, .bool false, .bool false, .bool false, .bool false, .string ⟨#[107, 101, 101, 112]⟩, .bool true, .bool true, .bool false, .bool false, .bool false, .string ⟨#[100, 114, 111, 112]⟩, .bool true, .bool true, .bool false, .bool false, .bool false, .string ⟨#[115, 101, 116]⟩, .bool true, .bool true, .bool true, .bool true, .bool false, .string ⟨#[109, 111, 100]⟩, .bool true, .bool false, .bool true, .bool false, .bool true, .string ⟨#[109, 97, 112]⟩, .bool false, .bool true, .bool false, .bool true, .bool false, .string ⟨#[107, 101, 101, 112, 110, 97, 109, 101, 115]⟩, .bool false, .bool true, .bool false, .bool false, .bool false, .string ⟨#[100, 114, 111, 112, 110, 97, 109, 101, 115]⟩, .bool false, .bool true, .bool false, .bool false, .bool false, .string ⟨#[108, 111, 119, 101, 114]⟩, .bool true, .bool false, .bool true, .bool false, .bool false]
/-- The table of shapes, as it is laid. -/
def Tab (w : World) : Prop := 0 < w.heap.size ∧ ∀ i, i < 54 → w.cell? ⟨0, i, none⟩ = tabL[i]?
theorem Tab.below {w w' : World} (h : Tab w) (hb : Below w.heap.size w w') : Tab w' := ⟨Nat.lt_of_lt_of_le h.1 hb.size, fun i hi => (hb.cell (p := ⟨0, i, none⟩) h.1).trans (h.2 i hi)⟩
theorem em_fil {v : ByteArray} (h : em v = true) : filB v = true := by
  unfold em at h
  rw [List.isEmpty_iff, ByteArray.toList_eq] at h
  have : v.size = 0 := by
    have := congrArg List.length h
    simpa using this
  unfold filB
  rw [h, this]
  rfl
theorem good_nokind {r : Rule} (h : kindB r = false) : goodR r = false := by unfold goodR; rw [h]; simp
theorem good_fin {r : Rule} (hA : 1 ≤ r.act ∧ r.act ≤ 8) (h : kindB r = filB r.val) : goodR r = (srcB r.from' r.sep && (Pat.patB r.pat && filB r.val)) := by
  unfold goodR baseB srcB
  rw [h, decide_eq_true hA]
  cases decide (r.from'.length ≤ 10) <;> cases decide (r.sep.size ≤ 10) <;> cases pr r.sep <;> cases Pat.patB r.pat <;> cases namesB r.from' <;> rfl
theorem good_out {r : Rule} (h : ¬ (1 ≤ r.act ∧ r.act ≤ 8)) : goodR r = false := by
  apply good_base; unfold baseB; rw [decide_eq_false h]; rfl

/-- The rule in its box, and its action's shape in another one. -/
structure Sx (w : World) (r : Rule) (n c : Nat) (a : Option Addr) (sh : Array Value) (x : World) : Prop where
  one : x.heap[w.heap.size]? = some (.cells #[.int .i64 r.act, .slice a n c, .string r.sep, .string r.pat, .string r.tgt, .string r.val, .int .i64 r.md] 24)
  two : x.heap[w.heap.size + 1]? = some (.cells sh 57)
  txt : HasT x a r.from'
  bel : Below w.heap.size w x
theorem Sx.below {w : World} {r : Rule} {n c : Nat} {a : Option Addr} {sh : Array Value} {x y : World} (h : Sx w r n c a sh x) (hb : Below x.heap.size x y) : Sx w r n c a sh y :=
  ⟨kept_at h.one hb, kept_at h.two hb, h.txt.below hb, h.bel.trans (hb.mono h.bel.size)⟩
theorem Sx.new {w : World} {r : Rule} {n c : Nat} {a : Option Addr} (sh : Array Value) (hr : HasT w a r.from') : Sx w r n c a sh ((w.alloc (.cells #[.int .i64 r.act, .slice a n c, .string r.sep, .string r.pat, .string r.tgt, .string r.val, .int .i64 r.md] 24)).alloc (.cells sh 57)) := by
  have hbl := ((Below.refl w.heap.size w).alloc (Nat.le_refl _) (.cells #[.int .i64 r.act, .slice a n c, .string r.sep, .string r.pat, .string r.tgt, .string r.val, .int .i64 r.md] 24)).alloc (by simp) (.cells sh 57)
  obtain ⟨k1, k2⟩ := two_new w (.cells #[.int .i64 r.act, .slice a n c, .string r.sep, .string r.pat, .string r.tgt, .string r.val, .int .i64 r.md] 24) (.cells sh 57)
  exact ⟨k1, k2, hr.below hbl, hbl⟩
theorem cells6 {w : World} {b : Nat} {x0 x1 x2 x3 x4 x5 : Value} {t : TypeId} (h : w.heap[b]? = some (.cells #[x0, x1, x2, x3, x4, x5] t)) :
    w.cell? ⟨b, 0, none⟩ = some x0 ∧ w.cell? ⟨b, 1, none⟩ = some x1 ∧ w.cell? ⟨b, 2, none⟩ = some x2 ∧ w.cell? ⟨b, 3, none⟩ = some x3 ∧ w.cell? ⟨b, 4, none⟩ = some x4 ∧ w.cell? ⟨b, 5, none⟩ = some x5 := by
  simp [World.cell?, h]
end Go.Proofs.YtbijhkbmgljjiaaGreatDoor.Rel
