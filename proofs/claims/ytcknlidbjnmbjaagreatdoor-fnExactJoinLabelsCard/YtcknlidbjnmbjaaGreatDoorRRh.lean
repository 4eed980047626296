/- Good rules: the program's GoodRelabel, and the walk of FnExactGoodRelabel. -/
import Derived.Test.YtcknlidbjnmbjaaGreatDoorRRe
import Derived.Test.YtcknlidbjnmbjaaGreatDoorRRga
import Derived.Test.YtcknlidbjnmbjaaGreatDoorRRgb
import Derived.Test.YtcknlidbjnmbjaaGreatDoorRRgc
import Derived.Test.YtcknlidbjnmbjaaGreatDoorRRgd
namespace Go.Proofs.YtcknlidbjnmbjaaGreatDoor.Rel
open Go.RowKit Go.Proofs.YtcknlidbjnmbjaaGreatDoor.Fil

set_option maxHeartbeats 1000000 in
theorem f57 (r : Rule) (a : Option Addr) (n c : Nat) (w : World) (hn : r.from'.length = n) (hr : HasT w a r.from') (hz : SmlR r) (hf : FitR r) (ht : Tab w) :
    Calls Tryz.prog 57 #[agR r a n c] w fun e w' => e = .returned (.bool (goodR r)) ∧ Below w.heap.size w w' := by
  obtain ⟨A, ss, sep, pat, tgt, val, md⟩ := r
  obtain ⟨lf0, lf1, lf2, lf3, -, -, -, -⟩ := hf
  simp only at hn hr lf0 lf1 lf2 lf3
  by_cases hA : 1 ≤ A ∧ A ≤ 8
  · rcases (show A = 1 ∨ A = 2 ∨ A = 3 ∨ A = 4 ∨ A = 5 ∨ A = 6 ∨ A = 7 ∨ A = 8 by omega) with rfl | rfl | rfl | rfl | rfl | rfl | rfl | rfl
    · exact f8_1 ss sep pat tgt val md a n c w hn hr hz ht lf2 lf3
    · exact f8_2 ss sep pat tgt val md a n c w hn hr hz ht lf2 lf3
    · exact f8_3 ss sep pat tgt val md a n c w hn hr hz ht lf2 lf3
    · exact f8_4 ss sep pat tgt val md a n c w hn hr hz ht lf2 lf3
    · exact f8_5 ss sep pat tgt val md a n c w hn hr hz ht lf2 lf3
    · exact f8_6 ss sep pat tgt val md a n c w hn hr hz ht lf2 lf3
    · exact f8_7 ss sep pat tgt val md a n c w hn hr hz ht lf2 lf3
    · exact f8_8 ss sep pat tgt val md a n c w hn hr hz ht lf2 lf3
  · have HK := hid (good_out (r := ⟨A, ss, sep, pat, tgt, val, md⟩) hA)
    have HB := hid ((Below.refl w.heap.size w).alloc (Nat.le_refl _) (.cells #[.int .i64 A, .slice a n c, .string sep, .string pat, .string tgt, .string val, .int .i64 md] 63))
    clear hn hr
    simp only [agR]
    by_cases h1 : A < 1
    · go_enter Tryz.func57, Tryz.ntmps57
      go_wp2
      go_ret
      exact ⟨ret_bool HK.out.symm, HB.out⟩
    · have h8 : 8 < A := by omega
      clear hA
      go_enter Tryz.func57, Tryz.ntmps57
      go_wp2
      go_ret
      exact ⟨ret_bool HK.out.symm, HB.out⟩

/-- The argument in its box, the copy that was handed in in another one. -/
structure Wx (w : World) (r : Rule) (n c g B : Nat) (a : Option Addr) (x : World) : Prop where
  one : x.heap[w.heap.size]? = some (.cells #[.int .i64 r.act, .slice a n c, .string r.sep, .string r.pat, .string r.tgt, .string r.val, .int .i64 r.md] 57)
  two : x.heap[B]? = some (.cells #[.int .i64 r.act, .slice (some ⟨g, 0, none⟩) n n, .string r.sep, .string r.pat, .string r.tgt, .string r.val, .int .i64 r.md] 63)
  arg : HasT x a r.from'
  txt : HasT x (some ⟨g, 0, none⟩) r.from'
  bel : Below w.heap.size w x
theorem Wx.below {w : World} {r : Rule} {n c g B : Nat} {a : Option Addr} {x y : World} (h : Wx w r n c g B a x) (hb : Below x.heap.size x y) : Wx w r n c g B a y :=
  ⟨kept_at h.one hb, kept_at h.two hb, h.arg.below hb, h.txt.below hb, h.bel.trans (hb.mono h.bel.size)⟩
abbrev WS (w : World) (r : Rule) (n c g B : Nat) (a : Option Addr) (x : World) : Prop := x.cell? ⟨w.heap.size, 0, none⟩ = some (.int .i64 r.act) ∧ x.cell? ⟨w.heap.size, 1, none⟩ = some (.slice a n c) ∧ x.cell? ⟨w.heap.size, 2, none⟩ = some (.string r.sep) ∧ x.cell? ⟨w.heap.size, 3, none⟩ = some (.string r.pat) ∧ x.cell? ⟨w.heap.size, 4, none⟩ = some (.string r.tgt) ∧ x.cell? ⟨w.heap.size, 5, none⟩ = some (.string r.val) ∧ x.cell? ⟨w.heap.size, 6, none⟩ = some (.int .i64 r.md) ∧ x.cell? ⟨B, 0, none⟩ = some (.int .i64 r.act) ∧ x.cell? ⟨B, 1, none⟩ = some (.slice (some ⟨g, 0, none⟩) n n) ∧ x.cell? ⟨B, 2, none⟩ = some (.string r.sep) ∧ x.cell? ⟨B, 3, none⟩ = some (.string r.pat) ∧ x.cell? ⟨B, 4, none⟩ = some (.string r.tgt) ∧ x.cell? ⟨B, 5, none⟩ = some (.string r.val) ∧ x.cell? ⟨B, 6, none⟩ = some (.int .i64 r.md) ∧ Wx w r n c g B a x
theorem Wx.cells {w : World} {r : Rule} {n c g B : Nat} {a : Option Addr} {x : World} (h : Wx w r n c g B a x) : WS w r n c g B a x := by
  obtain ⟨b0, b1, b2, b3, b4, b5, b6⟩ := cells7 h.one
  obtain ⟨c0, c1, c2, c3, c4, c5, c6⟩ := cells7 h.two
  exact ⟨b0, b1, b2, b3, b4, b5, b6, c0, c1, c2, c3, c4, c5, c6, h⟩
theorem WS.wx {w : World} {r : Rule} {n c g B : Nat} {a : Option Addr} {x : World} (h : WS w r n c g B a x) : Wx w r n c g B a x := h.2.2.2.2.2.2.2.2.2.2.2.2.2.2
theorem WS.below {w : World} {r : Rule} {n c g B : Nat} {a : Option Addr} {x y : World} (h : WS w r n c g B a x) (hb : Below x.heap.size x y) : WS w r n c g B a y := (h.wx.below hb).cells
theorem below_drew (w : World) : Below w.heap.size w w.drew := (Below.refl _ _).drew

end Go.Proofs.YtcknlidbjnmbjaaGreatDoor.Rel
