/- The walk of FnExactCompareLabels. -/
import Derived.Test.YtfcighjahdimdaaCn
namespace Go.Proofs.Ytfcighjahdimdaa.Lab
open Go.RowKit Go.Proofs.Ytfcighjahdimdaa.Str

set_option maxHeartbeats 1000000 in
theorem f4g (a : Option Addr) (n c : Nat) (L : Int) (ls : List Lb) (w : World) (hL0 : 0 ≤ L) (hL1 : L ≤ 1048576) (hn : ls.length = n) (hr : HasL w a ls) (hf : Fit ls) (hmax : n ≤ maxLen) :
    Calls Try.prog 4 #[.slice a n c, .int .i64 L] w fun e w' => ∃ y : Int, e = .returned (.int .i64 y) ∧ (0 ≤ y → n ≤ 1048576) ∧ -1 ≤ y ∧ y ≤ 1048576 ∧ Below w.heap.size w w' := by
  unfold maxLen at hmax
  by_cases hbig : (n : Int) ≤ L
  · have HN := hid hn
    clear hn
    go_enter Try.func4, Try.ntmps4
    go_wp2
    go_loopw [1, 5] (fun sx i wr => ∃ (k : Nat) (x : Int), k ≤ n ∧ i = .int .i64 k ∧ sx = .int .i64 x ∧ 0 ≤ x ∧ x ≤ 1048576 ∧ Below w.heap.size w wr) (fun _ i _ => n - (intOf i).toNat)
    case atStart => exact ⟨0, _, Nat.zero_le _, rfl, rfl, by omega, by omega, Below.refl _ _⟩
    case round =>
      obtain ⟨k, x, hk, rfl, rfl, hx0, hx1, hb⟩ := hrel
      have HB := hid hb
      by_cases hlt : k < n
      · rcases hr with h | ⟨b, off, rfl, h2, h3⟩
        · exfalso; rw [h] at HN; have := HN.out; simp at this; omega
        obtain ⟨c0, c1⟩ := h3 k (by rw [HN.out]; exact hlt)
        obtain ⟨g0, g1⟩ := hf k
        have d0 := (hb.cell (p := ⟨b, off + k * 2, none⟩) h2).trans c0
        have d1 := (hb.cell (p := ⟨b, off + k * 2 + 1, none⟩) h2).trans c1
        clear h3 c0 c1 hb
        generalize (ls.getD k e0).1 = s at *
        generalize (ls.getD k e0).2 = t at *
        go_wp2_with fail
        refine (f9 s t x _ g0 g1 hx0 hx1).mono ?_
        rintro e w2 ⟨y, rfl, y0, y1, hb2⟩
        have HB2 := hid (HB.out.trans (hb2.mono HB.out.size))
        clear hb2 d0 d1
        by_cases hy : y < 0
        · go_wp2
          go_ret
          exact ⟨-1, rfl, fun h => absurd h (by omega), by omega, by omega, HB2.out⟩
        · go_wp2
          go_roundw
          case rel => exact ⟨k + 1, y, by omega, by go_num, rfl, by omega, y1, HB2.out⟩
          case measure => simp [intOf]; omega
      · go_wp2
        go_ret
        exact ⟨x, rfl, fun _ => by omega, by omega, hx1, HB.out⟩
  · go_enter Try.func4, Try.ntmps4
    go_wp2
    go_ret
    exact ⟨-1, rfl, by omega, by omega, by omega, Below.refl _ _⟩


set_option maxHeartbeats 2000000 in
theorem walk3 (a a' : Option Addr) (n n' c c' : Nat) (la lb : List Lb) (w : World) (hn : la.length = n) (hn' : lb.length = n') (hmax : n ≤ maxLen) (hmax' : n' ≤ maxLen) (hr : HasL w a la) (hr' : HasL w a' lb) (hf : Fit la) (hf' : Fit lb) :
    Calls Try.prog 3 #[.slice a n c, .slice a' n' c'] w fun e w' => e = .returned (.bool true) ∧ Below w.heap.size w w' := by
  have HN := hid hn
  have HN' := hid hn'
  clear hn hn'
  go_enter Try.func3, Try.ntmps3
  go_wp2_with fail
  refine (f4g a n c 1048576 la _ (by omega) (by omega) HN.out hr hf hmax).mono ?_
  rintro e w1 ⟨y, rfl, hy, y0, y1, hb1⟩
  have HB1 := hid hb1
  have R1 := hid (hr.below hb1)
  have R1' := hid (hr'.below hb1)
  clear hb1
  by_cases h0 : y < 0
  · go_wp2
    go_ret
    exact ⟨rfl, HB1.out⟩
  have hbig := hy (by omega)
  clear hy
  go_wp2_with fail
  refine (f4g a' n' c' y lb _ (by omega) (by omega) HN'.out R1'.out hf' hmax').mono ?_
  rintro e w2 ⟨z, rfl, hz, z0, z1, hb2⟩
  have HB2 := hid (HB1.out.trans (hb2.mono HB1.out.size))
  have R2 := hid (R1.out.below hb2)
  have R2' := hid (R1'.out.below hb2)
  clear hb2 R1 R1'
  by_cases h1 : z < 0
  · go_wp2
    go_ret
    exact ⟨rfl, HB2.out⟩
  have hbig' := hz (by omega)
  clear hz
  -- the model
  go_wp2_with fail
  refine (f6 a n c la _ HN.out hbig R2.out).mono ?_
  rintro e w3 ⟨rfl, ho3, hb3⟩
  have HB3 := hid (HB2.out.trans (hb3.mono HB2.out.size))
  have R3 := hid (R2.out.below hb3)
  have R3' := hid (R2'.out.below hb3)
  have X3 := hid (HasL.own ho3)
  clear hb3 ho3 R2 R2'
  go_wp2_with fail
  refine (f6 a' n' c' lb _ HN'.out hbig' R3'.out).mono ?_
  rintro e w4 ⟨rfl, ho4, hb4⟩
  have HB4 := hid (HB3.out.trans (hb4.mono HB3.out.size))
  have R4 := hid (R3.out.below hb4)
  have R4' := hid (R3'.out.below hb4)
  have X4 := hid (X3.out.below hb4)
  have Y4 := hid (HasL.own ho4)
  clear hb4 ho4 R3 R3' X3
  go_wp2_with fail
  refine (f5 _ _ n n' n n' la lb _ HN.out HN'.out hbig hbig' X4.out Y4.out hf hf').mono ?_
  rintro e w5 ⟨rfl, hb5⟩
  have HB5 := hid (HB4.out.trans (hb5.mono HB4.out.size))
  have R5 := hid (R4.out.below hb5)
  have R5' := hid (R4'.out.below hb5)
  clear hb5 R4 R4' X4 Y4
  -- the program
  go_wp2_with fail
  refine (f6 a n c la _ HN.out hbig R5.out).mono ?_
  rintro e w6 ⟨rfl, ho6, hb6⟩
  have HB6 := hid (HB5.out.trans (hb6.mono HB5.out.size))
  have R6 := hid (R5.out.below hb6)
  have R6' := hid (R5'.out.below hb6)
  have X6 := hid (HasL.own ho6)
  clear hb6 ho6 R5 R5'
  go_wp2_with fail
  refine (f6 a' n' c' lb _ HN'.out hbig' R6'.out).mono ?_
  rintro e w7 ⟨rfl, ho7, hb7⟩
  have HB7 := hid (HB6.out.trans (hb7.mono HB6.out.size))
  have R7 := hid (R6.out.below hb7)
  have R7' := hid (R6'.out.below hb7)
  have X7 := hid (X6.out.below hb7)
  have Y7 := hid (HasL.own ho7)
  clear hb7 ho7 R6 R6' X6
  go_wp2_with fail
  refine (f7 _ _ n n' n n' la lb _ HN.out HN'.out hbig hbig' X7.out Y7.out hf hf').mono ?_
  rintro e w8 ⟨rfl, hb8⟩
  have HB8 := hid (HB7.out.trans (hb8.mono HB7.out.size))
  have R8 := hid (R7.out.below hb8)
  have R8' := hid (R7'.out.below hb8)
  have X8 := hid (X7.out.below hb8)
  have Y8 := hid (Y7.out.below hb8)
  clear hb8 R7 R7' X7 Y7
  -- the arguments stay
  go_wp2_with fail
  refine (f6 a n c la _ HN.out hbig R8.out).mono ?_
  rintro e w9 ⟨rfl, ho9, hb9⟩
  have HB9 := hid (HB8.out.trans (hb9.mono HB8.out.size))
  have R9' := hid (R8'.out.below hb9)
  have X9 := hid (X8.out.below hb9)
  have Y9 := hid (Y8.out.below hb9)
  have Z9 := hid (HasL.own ho9)
  clear hb9 ho9 R8 R8' X8 Y8
  go_wp2_with fail
  refine (f8 _ _ n n n la _ HN.out hbig X9.out Z9.out).mono ?_
  rintro e w10 ⟨rfl, hb10⟩
  have HB10 := hid (HB9.out.trans (hb10.mono HB9.out.size))
  have R10' := hid (R9'.out.below hb10)
  have Y10 := hid (Y9.out.below hb10)
  clear hb10 R9' X9 Y9 Z9
  go_wp2_with fail
  refine (f6 a' n' c' lb _ HN'.out hbig' R10'.out).mono ?_
  rintro e w11 ⟨rfl, ho11, hb11⟩
  have HB11 := hid (HB10.out.trans (hb11.mono HB10.out.size))
  have Y11 := hid (Y10.out.below hb11)
  have Z11 := hid (HasL.own ho11)
  clear hb11 ho11 R10' Y10
  go_wp2_with fail
  refine (f8 _ _ n' n' n' lb _ HN'.out hbig' Y11.out Z11.out).mono ?_
  rintro e w12 ⟨rfl, hb12⟩
  have HB12 := hid (HB11.out.trans (hb12.mono HB11.out.size))
  clear hb12
  go_wp2
  go_ret
  exact ⟨rfl, HB12.out⟩
end Go.Proofs.Ytfcighjahdimdaa.Lab
