/- Rules: eqRelabel. -/
import Derived.Test.YtbijhkbmgljjiaaGreatDoorRb
namespace Go.Proofs.YtbijhkbmgljjiaaGreatDoor.Rel
open Go.RowKit Go.Proofs.YtbijhkbmgljjiaaGreatDoor.Fil

theorem str_same (a : ByteArray) : (a.toList != a.toList) = false := by simp
theorem two_new (w : World) (x y : Obj) : ((w.alloc x).alloc y).heap[w.heap.size]? = some x ∧ ((w.alloc x).alloc y).heap[w.heap.size + 1]? = some y := by
  show ((w.heap.push x).push y)[w.heap.size]? = some x ∧ ((w.heap.push x).push y)[w.heap.size + 1]? = some y
  refine ⟨?_, ?_⟩
  · rw [Array.getElem?_push, if_neg (by simp), Array.getElem?_push, if_pos rfl]
  · rw [Array.getElem?_push, if_pos (by simp)]

/-- Two boxes with one rule. -/
structure By (w : World) (r : Rule) (B1 B2 n c c' : Nat) (a a' : Option Addr) (x : World) : Prop where
  one : x.heap[B1]? = some (.cells #[.int .i64 r.act, .slice a n c, .string r.sep, .string r.pat, .string r.tgt, .string r.val, .int .i64 r.md] 24)
  two : x.heap[B2]? = some (.cells #[.int .i64 r.act, .slice a' n c', .string r.sep, .string r.pat, .string r.tgt, .string r.val, .int .i64 r.md] 24)
  txt : HasT x a r.from'
  txt' : HasT x a' r.from'
  bel : Below w.heap.size w x
theorem By.below {w : World} {r : Rule} {B1 B2 n c c' : Nat} {a a' : Option Addr} {x y : World} (h : By w r B1 B2 n c c' a a' x) (hb : Below x.heap.size x y) : By w r B1 B2 n c c' a a' y :=
  ⟨kept_at h.one hb, kept_at h.two hb, h.txt.below hb, h.txt'.below hb, h.bel.trans (hb.mono h.bel.size)⟩

set_option maxHeartbeats 4000000 in
theorem f6 (r : Rule) (a a' : Option Addr) (n c c' : Nat) (w : World) (hn : r.from'.length = n) (hr : HasT w a r.from') (hr' : HasT w a' r.from') (hb : n ≤ 1048576) :
    Calls Tryz.prog 6 #[agR r a n c, agR r a' n c'] w fun e w' => e = .returned (.bool true) ∧ Below w.heap.size w w' := by
  have HN := hid hn
  have H0 : Hid (By w r w.heap.size (w.heap.size + 1) n c c' a a' ((w.alloc (.cells #[.int .i64 r.act, .slice a n c, .string r.sep, .string r.pat, .string r.tgt, .string r.val, .int .i64 r.md] 24)).alloc (.cells #[.int .i64 r.act, .slice a' n c', .string r.sep, .string r.pat, .string r.tgt, .string r.val, .int .i64 r.md] 24))) := by
    obtain ⟨k1, k2⟩ := two_new w (.cells #[.int .i64 r.act, .slice a n c, .string r.sep, .string r.pat, .string r.tgt, .string r.val, .int .i64 r.md] 24) (.cells #[.int .i64 r.act, .slice a' n c', .string r.sep, .string r.pat, .string r.tgt, .string r.val, .int .i64 r.md] 24)
    have hbl := ((Below.refl w.heap.size w).alloc (Nat.le_refl _) (.cells #[.int .i64 r.act, .slice a n c, .string r.sep, .string r.pat, .string r.tgt, .string r.val, .int .i64 r.md] 24)).alloc (by simp) (.cells #[.int .i64 r.act, .slice a' n c', .string r.sep, .string r.pat, .string r.tgt, .string r.val, .int .i64 r.md] 24)
    exact ⟨k1, k2, hr.below hbl, hr'.below hbl, hbl⟩
  clear hn hr hr'
  have s1 := str_same r.sep
  have s2 := str_same r.pat
  have s3 := str_same r.tgt
  have s4 := str_same r.val
  simp only [agR]
  go_enter Tryz.func6, Tryz.ntmps6
  go_wp2_with fail
  refine (f21 a a' n c c' r.from' _ HN.out hb H0.out.txt H0.out.txt').mono ?_
  rintro e w2 ⟨rfl, hb2⟩
  have H1 := hid (H0.out.below hb2)
  obtain ⟨b0, b1, b2, b3, b4, b5, b6⟩ := cells7 H1.out.one
  obtain ⟨c0, c1, c2, c3, c4, c5, c6⟩ := cells7 H1.out.two
  clear hb2 b0 b1 c0 c1 H0
  go_wp2
  go_ret
  exact ⟨rfl, H1.out.bel⟩
end Go.Proofs.YtbijhkbmgljjiaaGreatDoor.Rel
