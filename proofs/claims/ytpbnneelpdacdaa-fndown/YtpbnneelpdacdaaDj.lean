/- A number of few that are rare; a resolution; samples that are drawn to be downsampled. -/
import Derived.Test.YtpbnneelpdacdaaUfd
import Derived.Deep.RegionLaw
import Derived.Deep.RegionHeld3
namespace Go.Proofs.Ytpbnneelpdacdaa.Smp
open Go.RowKit Go.Proofs.Ytpbnneelpdacdaa.Cur

theorem f55 (B0 R n c lim : Nat) (a : Option Addr) (k : Int) (w : World) (h : Cu B0 R a n c lim w) (hl : lim ≤ 4503599627350000) (hn : n ≤ 1048576) (hk0 : 2 ≤ k) (hk1 : k ≤ 1000000) :
    Calls Try.prog 55 #[.pointer (some ⟨R, 0, none⟩), .int .i64 k] w fun e w' => ∃ x : Int, e = .returned (.int .i64 x) ∧ 0 ≤ x ∧ x < k ∧ Cu B0 R a n c (lim + 4) w' ∧ w.grownBy w' (some R) := by
  have HC := hid h
  clear h
  go_enter Try.func55, Try.ntmps55
  go_wp2_with fail
  refine (f70 B0 R n c lim a 8 _ HC.out (by omega) hn (by omega) (by omega)).mono ?_
  rintro e w1 ⟨b, rfl, hc1, hg1⟩
  have HC1 := hid hc1
  have HG1 := hid hg1
  clear hc1 hg1
  cases b
  · go_wp2
    go_ret
    exact ⟨0, rfl, by omega, by omega, HC1.out.mono (by omega), HG1.out⟩
  · go_wp2_with fail
    refine (f25 B0 R n c _ a (k - 1) _ HC1.out (by omega) hn (by omega) (by omega)).mono ?_
    rintro e w2 ⟨x, rfl, x0, x1, hc2, hg2⟩
    have HC2 := hid hc2
    have HG2 := hid (grownBy_trans HG1.out hg2)
    have x2 : 1 + x < k := by omega
    clear hc2 hg2 x1
    go_wp2
    go_ret
    exact ⟨1 + x, rfl, by omega, x2, HC2.out, HG2.out⟩

set_option maxRecDepth 100000 in
set_option maxHeartbeats 2000000 in
theorem f27 (R n c lim : Nat) (a : Option Addr) (w : World) (h : Cu R R a n c lim w) (hl : lim ≤ 4503599627340000) (hn : n ≤ 1048576) :
    Calls Try.prog 27 #[.pointer (some ⟨R, 0, none⟩)] w fun e w' => ∃ x : Int, e = .returned (.int .i64 x) ∧ 0 ≤ x ∧ x ≤ 1000001 ∧ Cu R R a n c (lim + 6) w' ∧ w.grownBy w' (some R) := by
  have HC := hid h
  clear h
  go_enter Try.func27, Try.ntmps27
  go_wp2_with fail
  refine (f25 R R n c _ a 20 _ HC.out (by omega) hn (by omega) (by omega)).mono ?_
  rintro e w1 ⟨y, rfl, y0, y1, hc1, hg1⟩
  have HC1 := hid (cuKept hc1 (grown_below none ((Below.refl w1.heap.size w1).alloc (Nat.le_refl _) (.cells #[.int .i64 (1 + y), .int .i64 0, .int .i64 1000000, .int .i64 1000001] 3))) (by intro g hg; cases hg))
  have HG1 := hid (grown_alloc hg1 (.cells #[.int .i64 (1 + y), .int .i64 0, .int .i64 1000000, .int .i64 1000001] 3))
  have y2 : y ≤ 20 := by omega
  have HL := hid (cuLt hc1)
  clear hc1 hg1 y1
  go_wp2_with fail
  refine (f55 R R n c _ a 4 _ HC1.out (by omega) hn (by omega) (by omega)).mono ?_
  rintro e w2 ⟨x, rfl, x0, x1, hc2, hg2⟩
  have HC2 := hid hc2
  have HG2 := hid (grownBy_trans HG1.out hg2)
  have hb : w2.heap[w1.heap.size]? = some (.cells #[.int .i64 (1 + y), .int .i64 0, .int .i64 1000000, .int .i64 1000001] 3 (0, 0)) := by
    rw [hg2.block w1.heap.size (by simp) (by have := HL.out; intro e; simp at e; omega)]
    show (w1.heap.push _)[w1.heap.size]? = _
    simp
  have c0 : w2.cell? ⟨w1.heap.size, 0, none⟩ = some (.int .i64 (1 + y)) := by unfold World.cell?; simp only [hb]; rfl
  have c1 : w2.cell? ⟨w1.heap.size, 1, none⟩ = some (.int .i64 0) := by unfold World.cell?; simp only [hb]; rfl
  have c2 : w2.cell? ⟨w1.heap.size, 2, none⟩ = some (.int .i64 1000000) := by unfold World.cell?; simp only [hb]; rfl
  have c3 : w2.cell? ⟨w1.heap.size, 3, none⟩ = some (.int .i64 1000001) := by unfold World.cell?; simp only [hb]; rfl
  clear hc2 hg2 hb HC HC1 HG1
  have hx : x = 0 ∨ x = 1 ∨ x = 2 ∨ x = 3 := by omega
  rcases hx with rfl | rfl | rfl | rfl
  · go_wp2
    go_ret
    exact ⟨_, rfl, by omega, by omega, HC2.out, HG2.out⟩
  · go_wp2
    go_ret
    exact ⟨_, rfl, by omega, by omega, HC2.out, HG2.out⟩
  · go_wp2
    go_ret
    exact ⟨_, rfl, by omega, by omega, HC2.out, HG2.out⟩
  · go_wp2
    go_ret
    exact ⟨_, rfl, by omega, by omega, HC2.out, HG2.out⟩

set_option maxRecDepth 100000 in
set_option maxHeartbeats 4000000 in
theorem f7 (a : Option Addr) (n c : Nat) (w : World) (h : Bya w a n) (hn : n ≤ 1048576) :
    Calls Try.prog 7 #[.slice a n c] w fun e w' => ∃ v L, ∃ r : Int, e = .returned (.tuple #[v, .int .i64 r]) ∧ L.length ≤ 201 ∧ 0 ≤ r ∧ r ≤ 1000001 ∧ Own w' w.heap.size v L ∧ Below w.heap.size w w' ∧ Hid (Chk.Vfit L) := by
  obtain ⟨i0, hi, hz0, hz1, hz2⟩ := info_parts infoS
  obtain ⟨R, hR⟩ : ∃ R, R = w.heap.size := ⟨_, rfl⟩
  have HR := hid hR
  obtain ⟨v, hv⟩ : ∃ v, v = w.alloc (.cells #[.slice a n c, .int .i64 0, .int .u64 0] 51) := ⟨_, rfl⟩
  have HV := hid hv
  have HC0 := hid (cuNew (c := c) h)
  have hb0 := (Below.refl w.heap.size w).alloc (Nat.le_refl _) (.cells #[.slice a n c, .int .i64 0, .int .u64 0] 51)
  rw [← hv, ← hR] at HC0
  rw [← hv, ← hR] at hb0
  have HB0 := hid hb0
  have hvs : v.heap.size = R + 1 := by rw [hv, hR]; simp
  have HVS := hid hvs
  clear h hv hR hb0 hvs
  go_enter Try.func7, Try.ntmps7
  go_wp2_with fail
  simp only [← HR.out, ← HV.out]
  refine (f25 R R n c 0 a 30 _ HC0.out (by omega) hn (by omega) (by omega)).mono ?_
  rintro e w1 ⟨x, rfl, x0, x1, hc1, hg1⟩
  have HC1 := hid hc1
  have HB1 := hid (below_cur HB0.out hg1 (by rw [HR.out]; exact HB0.out.size) (Nat.le_refl _))
  have HS1 := hid (show R + 1 ≤ w1.heap.size by rw [← HVS.out]; exact hg1.size)
  have x2 : x ≤ 50 := by omega
  clear hc1 hg1 x1 HB0 HC0
  go_wp2_with fail
  refine (f26 a n c _ hn).mono ?_
  rintro e w1' ⟨m, rfl, m0, m1, rfl⟩
  go_wp2_with fail
  refine (f24 R R n c _ a x (30 + m) _ HC1.out (by omega) hn x0 (by omega) (by omega) (by omega)).mono ?_
  rintro e w2 ⟨va, La, rfl, hla, ho2, hc2, hg2, HV2⟩
  have HC2 := hid hc2
  have HB2 := hid (below_cur HB1.out hg2 (by rw [HR.out]; exact HB1.out.size) (Nat.le_refl _))
  have HS2 := hid (Nat.le_trans HS1.out hg2.size)
  have OA2 := hid (ho2.mono HS1.out)
  clear hc2 hg2 ho2 HB1 HC1
  go_wp2_with fail
  refine (f23 R R n c _ (R + 1) a va La _ HC2.out (by omega) hn OA2.out (by omega) HS2.out (by omega) HV2).mono ?_
  rintro e w3 ⟨vb, Lb, rfl, hlb, ho3, hc3, hg3, _, HV3⟩
  have HC3 := hid hc3
  have HB3 := hid (Below.g2 HB2.out hg3 (by rw [HR.out]; exact HB2.out.size) (Nat.le_refl _) (fun g hg => by have := (World.ownsRow.lt OA2.out g hg).1; omega))
  have HS3 := hid (Nat.le_trans HS2.out hg3.size)
  have OB3 := hid ho3
  have lb2 : Lb.length ≤ 201 := by omega
  clear hc3 hg3 ho3 HB2 HC2 OA2 hla hlb
  go_wp2_with fail
  refine (f27 R n c _ a _ HC3.out (by omega) hn).mono ?_
  rintro e w5 ⟨r, rfl, r0, r1, hc5, hg5⟩
  have HB5 := hid (below_cur HB3.out hg5 (by rw [HR.out]; exact HB3.out.size) (Nat.le_refl _))
  have OB5 := hid (OB3.out.cur hg5 (by omega))
  clear hc5 hg5 HB3 HC3 OB3
  go_wp2
  refine bodyPost_ret (v := .tuple #[vb, .int .i64 r]) ?_ rfl ⟨_, Lb, r, rfl, lb2, r0, r1, by rw [← HR.out]; exact OB5.out.mono (by omega), by rw [← HR.out]; exact HB5.out, HV3⟩
  simp [results, Try.results7, go_sem]
end Go.Proofs.Ytpbnneelpdacdaa.Smp
