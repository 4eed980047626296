/- The walk of FnExactReadRelabel. -/
import Derived.Test.YtbijhkbmgljjiaaGreatDoorWb
namespace Go.Proofs.YtbijhkbmgljjiaaGreatDoor.Rdd
open Go.RowKit Go.Proofs.YtbijhkbmgljjiaaGreatDoor.Pat

theorem wk_begin {w w1 w2 : World} {r : Rel.Rule} {a a' : Option Addr} {c c' : Nat} (ho1 : w1.ownsRow w.heap.size 9 1 (.slice a r.from'.length c) r.from'.length (r.from'.map Value.string)) (hb1 : Below w.heap.size w w1)
    (ho2 : w2.ownsRow (w1.alloc (.cells (ruleC r a r.from'.length c) 24)).heap.size 9 1 (.slice a' r.from'.length c') r.from'.length (r.from'.map Value.string)) (hb2 : Below (w1.alloc (.cells (ruleC r a r.from'.length c) 24)).heap.size (w1.alloc (.cells (ruleC r a r.from'.length c) 24)) w2) :
    Wk w w1.heap.size w2.heap.size r a a' c c' (r.from'.map Value.string) (w2.alloc (.cells (ruleC r a' r.from'.length c') 24)) := by
  have hs1 := hb1.size
  have hs2 := hb2.size
  simp only [World.size_alloc] at ho2 hs2
  refine ⟨box_alloc ((hb2.block _ (by simp)).trans (heap_alloc_new _ _)) _, heap_alloc_new _ _, (own_below (ho1.alloc _) hb2).alloc _, ho2.alloc _, fun g e => (ho1.lt g e).2, ?_, hs1, fun g e => (ho2.lt g e).2⟩
  exact ((hb1.alloc hs1 _).trans (hb2.mono (by simp only [World.size_alloc]; omega))).alloc (by omega) _
set_option maxRecDepth 100000 in
set_option maxHeartbeats 4000000 in
theorem walk3 (s : ByteArray) (w : World) (hws : s.size ≤ maxLen) (hG : Glb w) : Calls Tryz.prog 3 #[.string s] w fun e w' => e = .returned (.bool true) ∧ Below w.heap.size w w' := by
  unfold maxLen at hws
  by_cases h0 : 1048576 < s.size
  · go_enter Tryz.func3, Tryz.ntmps3
    go_wp2
    go_ret
    exact ⟨rfl, Below.refl _ _⟩
  have hs : s.size ≤ 1048576 := by omega
  have HG := hid hG
  clear hG
  go_enter Tryz.func3, Tryz.ntmps3
  go_wp2_with fail
  refine (f4 s _ hs).mono ?_
  intro e w1 h1
  obtain ⟨r, ok, a, c, rfl, ho1, hb1, han⟩ := rdl_form h1
  have HG1 := hid ((HG.out.below hb1).below ((Below.refl w1.heap.size w1).alloc (Nat.le_refl _) (.cells (ruleC r a r.from'.length c) 24)))
  have HAN := hid han
  have HO1 := hid ho1
  have HB1 := hid hb1
  clear h1 ho1 hb1 han
  go_wp2_with fail
  refine (f5 s _ hs HG1.out).mono ?_
  intro e w2 h2
  obtain ⟨r', ok', a', c', rfl, ho2, hb2, han'⟩ := rdl_form h2
  obtain ⟨rfl, rfl⟩ := HAN.out.same han'
  have HK := hid (wk_begin HO1.out HB1.out ho2 hb2)
  have hn10 := han'.len
  obtain ⟨A, ss, sep, pat, tgt, val, md⟩ := r'
  replace hn10 : ss.length ≤ 10 := hn10
  clear h2 ho2 hb2 HO1 HB1 HG1
  obtain ⟨b0, b1, b2, b3, b4, b5, b6⟩ := Rel.cells7 HK.out.one
  obtain ⟨c0, c1, c2, c3, c4, c5, c6⟩ := Rel.cells7 HK.out.two
  go_wp2_with fail
  refine (Rel.f6 ⟨A, ss, sep, pat, tgt, val, md⟩ a' a ss.length c' c _ rfl (hasT_own rfl HK.out.row').1 (hasT_own rfl HK.out.row).1 (by omega)).mono ?_
  rintro e w3 ⟨rfl, hb3⟩
  have HK3 := hid (HK.out.below hb3)
  clear hb3 HK b0 b1 b2 b3 b4 b5 b6 c0 c1 c2 c3 c4 c5 c6
  obtain ⟨c0, c1, c2, c3, c4, c5, c6⟩ := Rel.cells7 HK3.out.two
  go_wp2_with fail
  refine (Mrk.f7 ⟨A, ss, sep, pat, tgt, val, md⟩ a' ss.length c' (w1.heap.size + 1) 1 _ rfl (by omega) HK3.out.row').mono ?_
  rintro e w4 ⟨rfl, h4, g4⟩
  have HK4 := hid (HK3.out.marked h4 g4)
  clear h4 g4 HK3 c0 c1 c2 c3 c4 c5 c6
  obtain ⟨c0, c1, c2, c3, c4, c5, c6⟩ := Rel.cells7 HK4.out.two
  go_wp2_with fail
  refine (Mrk.f8 ⟨A, ss, sep, pat, tgt, val, md⟩ a' ss.length c' (w1.heap.size + 1) 1 _ (by omega) HK4.out.row').mono ?_
  rintro e w5 ⟨rfl, hb5⟩
  have HK5 := hid (HK4.out.below hb5)
  clear hb5 HK4 c0 c1 c2 c3 c4 c5 c6
  have HG5 := hid (HK5.out.glb HG.out)
  go_wp2_with fail
  refine (f5 s _ hs HG5.out).mono ?_
  intro e w6 h6
  obtain ⟨r6, ok6, a6, c6, rfl, ho6, hb6, han6⟩ := rdl_form h6
  obtain ⟨hr6, hk6⟩ := han'.same han6
  subst hr6 hk6
  have HK6 := hid ((HK5.out.below hb6).below ((Below.refl w6.heap.size w6).alloc (Nat.le_refl _) (.cells (ruleC ⟨A, ss, sep, pat, tgt, val, md⟩ a6 ss.length c6) 24)))
  have HT6 := hid ((hasT_own rfl (ho6.alloc (.cells (ruleC ⟨A, ss, sep, pat, tgt, val, md⟩ a6 ss.length c6) 24))).1)
  have HB6 := hid (heap_alloc_new w6 (.cells (ruleC ⟨A, ss, sep, pat, tgt, val, md⟩ a6 ss.length c6) 24))
  clear h6 ho6 hb6 HK5 HG5
  obtain ⟨b0, b1, b2, b3, b4, b5, b6⟩ := Rel.cells7 HK6.out.one
  obtain ⟨d0, d1, d2, d3, d4, d5, d6⟩ := Rel.cells7 HB6.out
  go_wp2_with fail
  refine (Rel.f6 ⟨A, ss, sep, pat, tgt, val, md⟩ a6 a ss.length c6 c _ rfl HT6.out (hasT_own rfl HK6.out.row).1 (by omega)).mono ?_
  rintro e w7 ⟨rfl, hb7⟩
  have HK7 := hid (HK6.out.below hb7)
  clear hb7 HK6 HT6 HB6 b0 b1 b2 b3 b4 b5 b6 d0 d1 d2 d3 d4 d5 d6
  obtain ⟨c0, c1, c2, c3, c4, c5, c6'⟩ := Rel.cells7 HK7.out.two
  go_wp2_with fail
  refine (Mrk.f8 ⟨A, ss, sep, pat, tgt, val, md⟩ a' ss.length c' (w1.heap.size + 1) 1 _ (by omega) HK7.out.row').mono ?_
  rintro e w8 ⟨rfl, hb8⟩
  have HK8 := hid (HK7.out.below hb8)
  clear hb8 HK7 c0 c1 c2 c3 c4 c5 c6'
  go_wp2
  go_ret
  exact ⟨rfl, HK8.out.bel⟩
end Go.Proofs.YtbijhkbmgljjiaaGreatDoor.Rdd
