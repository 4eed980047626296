/- Both PackChunks. -/
import Derived.Test.YteblbcbfaomdmaaDoorVf
import Derived.Test.YteblbcbfaomdmaaDoorVk
namespace Go.Proofs.YteblbcbfaomdmaaDoor.Chk
open Go.RowKit Go.Proofs.YteblbcbfaomdmaaDoor.Bts
open Go.Proofs.YteblbcbfaomdmaaDoor.Smp hiding hid ret_int below_drewN

noncomputable def packOf (ls : List Sm) : Bt := if GoodP ls ∧ ls.length ≤ 120 then (packK ls ls.length).b else ([], 0)
theorem store_below {w W : World} {n cap : Nat} {a : Option Addr} {sz u0 u1 : Value} {t : TypeId} {xs : List Value} (hX : W.heap[w.heap.size]? = some (.cells #[u0, u1] t (0, 0))) (ht : t ≠ 5) (hb : Below w.heap.size w W) (ho : W.ownsRow w.heap.size 5 1 (.slice a n cap) n xs) :
    ((W.setCell ⟨w.heap.size, 0, none⟩ (.slice a n cap)).setCell ⟨w.heap.size, 1, none⟩ sz).heap[w.heap.size]? = some (.cells #[.slice a n cap, sz] t (0, 0)) ∧ ((W.setCell ⟨w.heap.size, 0, none⟩ (.slice a n cap)).setCell ⟨w.heap.size, 1, none⟩ sz).ownsRow w.heap.size 5 1 (.slice a n cap) n xs ∧ Below w.heap.size w ((W.setCell ⟨w.heap.size, 0, none⟩ (.slice a n cap)).setCell ⟨w.heap.size, 1, none⟩ sz) := by
  have h1 : (W.setCell ⟨w.heap.size, 0, none⟩ (.slice a n cap)).heap[w.heap.size]? = some (.cells #[.slice a n cap, u1] t (0, 0)) := two_set0 hX
  have o1 := ownsRow_setCell_other (a := ⟨w.heap.size, 0, none⟩) ho (own_ne' ho hX ht) (.slice a n cap)
  exact ⟨two_set1 h1, ownsRow_setCell_other o1 (own_ne' o1 h1 ht) _, (hb.setCell (p := ⟨w.heap.size, 0, none⟩) (Nat.le_refl _) _).setCell (p := ⟨w.heap.size, 1, none⟩) (Nat.le_refl _) _⟩
theorem OwnB.mono {w : World} {B B' : Nat} {v : Value} {p : Bt} (h : OwnB w B v p) (hb : B' ≤ B) : OwnB w B' v p := by
  obtain ⟨a, n, cap, h1, h2⟩ := h
  refine ⟨a, n, cap, h1, h2.1, ?_⟩
  rcases h2.2 with h | ⟨g, c, cur, e1, e2, e3, e4⟩
  · exact .inl h
  · exact .inr ⟨g, c, cur, e1, Nat.le_trans hb e2, e3, e4⟩

set_option maxHeartbeats 2000000 in
theorem f20 (a : Option Addr) (c : Nat) (ls : List Sm) (w : World) (hmax : ls.length ≤ 1048576) (hr : HasS w a ls) :
    Calls Tryd.prog 20 #[.slice a ls.length c] w fun e w' => ∃ v, e = .returned v ∧ OwnB w' w.heap.size v (packOf ls) ∧ Below w.heap.size w w' := by
  have HR := hid hr
  have HX0 := hid (heap_alloc_new w (.cells #[.slice none 0 0, .int .i64 0] 26))
  have HB0 := hid ((Below.refl w.heap.size w).alloc (Nat.le_refl _) (.cells #[.slice none 0 0, .int .i64 0] 26))
  clear hr
  go_enter Tryd.func20, Tryd.ntmps20
  go_wp2_with fail
  refine (f10 a c ls _ hmax (HR.out.below HB0.out)).mono ?_
  rintro e w1 ⟨rfl, hb1⟩
  have HB1 := hid (HB0.out.trans (hb1.mono HB0.out.size))
  have HX1 := hid (box_below HX0.out hb1)
  have l1 : w.heap.size < w1.heap.size := lt_of_block HX1.out
  clear hb1 HX0 HB0
  by_cases hg : GoodP ls
  · rw [show goodS ls = true from decide_eq_true hg]
    by_cases h : ls.length ≤ 120
    · have HE : Hid (packOf ls = (packK ls ls.length).b) := if_pos ⟨hg, h⟩
      have h' : ¬ (120 : Int) < (ls.length : Int) := by omega
      have HG := hid hg
      clear hg
      go_wp2_with fail
      refine (f48 a c ls _ HG.out h (HR.out.below HB1.out)).mono ?_
      rintro e w2 ⟨v, rfl, ho, hb⟩
      have HB2 := HB1.out.trans (hb.mono HB1.out.size)
      have HX2 := box_below HX1.out hb
      obtain ⟨a2, n2, cap2, rfl, ho2⟩ := ho.mono (Nat.le_of_lt l1)
      rw [← HE.out] at ho2 ⊢
      have y0 := two0 HX2
      have y1 := two1 HX2
      have f0 := twof (o := 0) HX2
      have f1 := twof (o := 1) HX2
      have HSE := hid (store_below (sz := .int .i64 ((packOf ls).2 : Int)) HX2 (by decide) HB2 ho2)
      clear ho hb HB2 HX2 ho2
      go_wp2
      obtain ⟨r1, r2, r3⟩ := HSE.out
      have q0 := two0 r1
      have q1 := two1 r1
      refine bodyPost_ret (v := .agg #[.slice a2 n2 cap2, .int .i64 ((packOf ls).2 : Int)]) (by simp [results, Tryd.results20, go_sem, q0, q1]) rfl ⟨_, rfl, ⟨a2, n2, cap2, rfl, r2⟩, r3⟩
    · have HE : Hid (packOf ls = ([], 0)) := if_neg (fun g => h g.2)
      have h' : (120 : Int) < (ls.length : Int) := by omega
      have y0 := two0 HX1.out
      have y1 := two1 HX1.out
      have f0 := twof (o := 0) HX1.out
      have f1 := twof (o := 1) HX1.out
      have HSE := hid (store_below (sz := .int .i64 0) HX1.out (by decide) HB1.out (World.ownsRow_nil w1 w.heap.size 5 1))
      clear hg h
      go_wp2
      obtain ⟨r1, r2, r3⟩ := HSE.out
      have q0 := two0 r1
      have q1 := two1 r1
      refine bodyPost_ret (v := .agg #[.slice none 0 0, .int .i64 0]) (by simp [results, Tryd.results20, go_sem, q0, q1]) rfl ⟨_, rfl, by rw [HE.out]; exact ⟨none, 0, 0, rfl, r2⟩, r3⟩
  · have HE : Hid (packOf ls = ([], 0)) := if_neg (fun g => hg g.1)
    rw [show goodS ls = false from decide_eq_false hg]
    have y0 := two0 HX1.out
    have y1 := two1 HX1.out
    have f0 := twof (o := 0) HX1.out
    have f1 := twof (o := 1) HX1.out
    have HSE := hid (store_below (sz := .int .i64 0) HX1.out (by decide) HB1.out (World.ownsRow_nil w1 w.heap.size 5 1))
    clear hg
    go_wp2
    obtain ⟨r1, r2, r3⟩ := HSE.out
    have q0 := two0 r1
    have q1 := two1 r1
    refine bodyPost_ret (v := .agg #[.slice none 0 0, .int .i64 0]) (by simp [results, Tryd.results20, go_sem, q0, q1]) rfl ⟨_, rfl, by rw [HE.out]; exact ⟨none, 0, 0, rfl, r2⟩, r3⟩

set_option maxHeartbeats 2000000 in
theorem f9 (a : Option Addr) (c : Nat) (ls : List Sm) (w : World) (hmax : ls.length ≤ 1048576) (hr : HasS w a ls) (hc : Cls w) (ht : Tab w) (hw2 : 2 ≤ w.heap.size) :
    Calls Tryd.prog 9 #[.slice a ls.length c] w fun e w' => ∃ v, e = .returned v ∧ OwnB w' w.heap.size v (packOf ls) ∧ Below w.heap.size w w' := by
  by_cases hg : GoodP ls ∧ ls.length ≤ 120
  · rw [show packOf ls = (packK ls ls.length).b from if_pos hg]
    exact packG a c ls w hg.1 hg.2 hr hc ht hw2
  have HE : Hid (packOf ls = ([], 0)) := if_neg hg
  have HMX : Hid (ls.length ≤ maxLen) := by unfold Hid maxLen; omega
  have HR := hid hr
  have HX0 := hid (heap_alloc_new w (.cells #[.slice none 0 0, .int .i64 0] 26))
  have HB0 := hid ((Below.refl w.heap.size w).alloc (Nat.le_refl _) (.cells #[.slice none 0 0, .int .i64 0] 26))
  clear hr hc ht
  by_cases h : ls.length ≤ 120
  · have hgg : goodS ls = false := decide_eq_false (fun g => hg ⟨g, h⟩)
    have h' : ¬ (120 : Int) < (ls.length : Int) := by omega
    clear hg
    go_enter Tryd.func9, Tryd.ntmps9
    go_wp2_with fail
    refine (f40 a c ls _ HMX.out (HR.out.below HB0.out)).mono ?_
    rintro e w1 ⟨rfl, hb1⟩
    rw [hgg]
    have HB1 := hid (HB0.out.trans (hb1.mono HB0.out.size))
    have HX1 := hid (box_below HX0.out hb1)
    have y0 := two0 HX1.out
    have y1 := two1 HX1.out
    have f0 := twof (o := 0) HX1.out
    have f1 := twof (o := 1) HX1.out
    have HSE := hid (store_below (sz := .int .i64 0) HX1.out (by decide) HB1.out (World.ownsRow_nil w1 w.heap.size 5 1))
    clear hb1 HX0 HB0
    go_wp2
    obtain ⟨r1, r2, r3⟩ := HSE.out
    have q0 := two0 r1
    have q1 := two1 r1
    refine bodyPost_ret (v := .agg #[.slice none 0 0, .int .i64 0]) (by simp [results, Tryd.results9, go_sem, q0, q1]) rfl ⟨_, rfl, by rw [HE.out]; exact ⟨none, 0, 0, rfl, r2⟩, r3⟩
  · have h' : (120 : Int) < (ls.length : Int) := by omega
    clear hg h
    have y0 := two0 HX0.out
    have y1 := two1 HX0.out
    have f0 := twof (o := 0) HX0.out
    have f1 := twof (o := 1) HX0.out
    go_enter Tryd.func9, Tryd.ntmps9
    go_wp2
    refine bodyPost_ret (v := .agg #[.slice none 0 0, .int .i64 0]) (by simp [results, Tryd.results9, go_sem]) rfl ⟨_, rfl, by rw [HE.out]; exact ⟨none, 0, 0, rfl, World.ownsRow_nil _ _ 5 1⟩, HB0.out⟩
end Go.Proofs.YteblbcbfaomdmaaDoor.Chk
