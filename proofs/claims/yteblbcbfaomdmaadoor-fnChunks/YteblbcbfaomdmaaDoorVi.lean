/- The program's writer of chunks: putTurn. -/
import Derived.Test.YteblbcbfaomdmaaDoorVh
namespace Go.Proofs.YteblbcbfaomdmaaDoor.Chk
open Go.RowKit Go.Proofs.YteblbcbfaomdmaaDoor.Bts
open Go.Proofs.YteblbcbfaomdmaaDoor.Smp hiding hid ret_int below_drewN

/-- The frame in the writer's cells. -/
def FI (f : Fm) (a m : Int) : Prop := (f = none ∧ a = 0 ∧ m = 0) ∨ ∃ l t : Nat, f = some (l, t) ∧ a = l ∧ m = 64 - (l : Int) - t
theorem FI.bd {f : Fm} {a m : Int} (h : FI f a m) (ho : FmOk f) : 0 ≤ a ∧ a ≤ 63 ∧ 0 ≤ m ∧ m ≤ 64 := by
  rcases h with ⟨_, rfl, rfl⟩ | ⟨l, t, rfl, rfl, rfl⟩
  · omega
  · have := ho l t rfl; omega
/-- A frame's cells in the writer and in a box, and what stays. -/
structure R6 (R X : Nat) (a m x y : Int) (w' : World) : Prop where
  r : ∃ y0 y1 y2 y3 y4, w'.heap[R]? = some (.cells #[y0, y1, y2, y3, y4, .int .i64 a, .int .i64 m] 68 (0, 0))
  x : w'.heap[X]? = some (.cells #[.int .i64 x, .int .i64 y] 66 (0, 0))
abbrev S6 (R X : Nat) (a m x y : Int) (w' : World) : Prop :=
  w'.cell? ⟨R, 5, none⟩ = some (.int .i64 a) ∧ w'.cell? ⟨R, 6, none⟩ = some (.int .i64 m) ∧ w'.cell? ⟨X, 0, none⟩ = some (.int .i64 x) ∧ w'.cell? ⟨X, 1, none⟩ = some (.int .i64 y) ∧ R6 R X a m x y w'
theorem R6.s {R X : Nat} {a m x y : Int} {w' : World} (h : R6 R X a m x y w') : S6 R X a m x y w' := by
  obtain ⟨y0, y1, y2, y3, y4, h1⟩ := h.r
  exact ⟨cell_at h1 5, cell_at h1 6, cell_at h.x 0, cell_at h.x 1, h⟩
theorem S6.drew {R X : Nat} {a m x y : Int} {w' : World} (h : S6 R X a m x y w') : S6 R X a m x y w'.drew := R6.s (w' := w'.drew) ⟨h.2.2.2.2.r, h.2.2.2.2.x⟩
theorem S6.below {R X : Nat} {a m x y : Int} {W W' : World} (h : S6 R X a m x y W) (hb : Below W.heap.size W W') : S6 R X a m x y W' := by
  obtain ⟨y0, y1, y2, y3, y4, h1⟩ := h.2.2.2.2.r
  exact R6.s ⟨⟨y0, y1, y2, y3, y4, box_below h1 hb⟩, box_below h.2.2.2.2.x hb⟩
theorem s6_of {B R X : Nat} {p : Bt} {x2 x3 x4 : Value} {a m x y : Int} {w' : World} (h : Wr B R p x2 x3 x4 (.int .i64 a) (.int .i64 m) w') (hx : w'.heap[X]? = some (.cells #[.int .i64 x, .int .i64 y] 66 (0, 0))) : S6 R X a m x y w' := by
  obtain ⟨a', n, cap, h1, _⟩ := h
  exact R6.s ⟨⟨_, _, _, _, _, h1⟩, hx⟩
theorem Tab.kr {R B : Nat} {w w' : World} (h : Tab w) (hk : KeepsR R B w w') (hB : 2 ≤ B) : Tab w' := fun j hj => (hk.below.cell (p := ⟨1, j, none⟩) (by show 1 < B; omega)).trans (h j hj)
theorem Cls.kr {R B : Nat} {w w' : World} (h : Cls w) (hk : KeepsR R B w w') (hB : 2 ≤ B) : Cls w' := fun i hi => by
  obtain ⟨h1, h2, h3, h4⟩ := h i hi
  have hl : 0 < B := by omega
  exact ⟨(hk.below.cell (p := ⟨0, i * 4, none⟩) hl).trans h1, (hk.below.cell (p := ⟨0, i * 4 + 1, none⟩) hl).trans h2, (hk.below.cell (p := ⟨0, i * 4 + 2, none⟩) hl).trans h3, (hk.below.cell (p := ⟨0, i * 4 + 3, none⟩) hl).trans h4⟩

set_option maxRecDepth 100000 in
set_option maxHeartbeats 8000000 in
theorem f62 {B R : Nat} {p : Bt} {x2 x3 x4 : Value} {f : Fm} {a m : Int} (turn : Int) (w : World) (h : Wr B R p x2 x3 x4 (.int .i64 a) (.int .i64 m) w) (hG : GB p) (hs : p.2 + 78 ≤ 80000) (hB : B ≤ R) (hB2 : 2 ≤ B) (hf : FI f a m) (hfo : FmOk f) (h0 : 0 ≤ turn) (h1 : turn ≤ 18446744073709551615) (ht : Tab w) :
    Calls Tryd.prog 62 #[.pointer (some ⟨R, 0, none⟩), .int .u64 turn] w fun e w' => e = .returned (.tuple #[]) ∧ (∃ a' m', FI (turnB p f turn).2 a' m' ∧ Wr B R (turnB p f turn).1 x2 x3 x4 (.int .i64 a') (.int .i64 m') w') ∧ KeepsR R B w w' := by
  have HW := hid h
  have HG := hid hG
  have HF := hid hf
  have HT := hid ht
  have hRl := h.lt
  obtain ⟨ba0, ba1, bm0, bm1⟩ := hf.bd hfo
  clear h hG hf ht
  by_cases hz : turn = 0
  · have HE : Hid (turnB p f turn = (bAdd p 0 1, f)) := by unfold Hid turnB; rw [if_pos hz]
    have hz' : (turn == 0) = true := by simp [hz]
    clear hz
    go_enter Tryd.func62, Tryd.ntmps62
    go_wp2_with fail
    refine (putO 0 1 HW.out HG.out (by omega) (by omega) hB (by omega) (by omega)).mono ?_
    rintro e w1 ⟨rfl, hw1, hk1⟩
    go_wp2
    refine bodyPost_ret (v := .tuple #[]) (by simp [results, Tryd.results62, go_sem]) rfl ⟨rfl, ⟨a, m, by rw [HE.out]; exact HF.out, by rw [HE.out]; exact hw1⟩, hk1⟩
  · have hz' : (turn == 0) = false := by simp [hz]
    have hz0 : 0 < turn := by omega
    clear hz
    go_enter Tryd.func62, Tryd.ntmps62
    go_wp2_with fail
    refine (putO 1 1 HW.out HG.out (by omega) (by omega) hB (by omega) (by omega)).mono ?_
    rintro e w1 ⟨rfl, hw1, hk1⟩
    have HW1 := hid hw1
    have HK1 := hid hk1
    have HT1 := hid (HT.out.kr hk1 hB2)
    have hR1 := hw1.lt
    clear hw1 hk1 HW HT
    go_wp2_with fail
    refine (f76 turn _ hz0 h1 HT1.out).mono ?_
    rintro e w2 ⟨x, y, hzr, rfl, hb2⟩
    have HZ := hid hzr
    have hxy := zr_sum hzr
    have HW2 := hid (HW1.out.below hb2)
    have HK2 := hid (kr_trans HK1.out (kr_below (show B ≤ w1.heap.size by omega) hb2))
    have hR2 := HW2.out.lt
    have hze := zr_eq hzr
    have HZE := hid hze
    obtain ⟨M, hM⟩ : ∃ M : Int, M = 64 - (x : Int) - y := ⟨_, rfl⟩
    have HM := hid hM
    unfold fr
    rw [← hM]
    have hM0 : 1 ≤ M := by omega
    have hM1 : M ≤ 64 := by omega
    have hx0 : (x : Int) ≤ 63 := by omega
    have HXA := hid (heap_alloc_new w2 (.cells #[.int .i64 (x : Int), .int .i64 M] 66))
    have HWA := hid (HW2.out.alloc (.cells #[.int .i64 (x : Int), .int .i64 M] 66))
    have HKA := hid (kr_trans HK2.out ((KeepsR.refl R B w2).alloc (by omega) (.cells #[.int .i64 (x : Int), .int .i64 M] 66)))
    have HS := hid (s6_of HWA.out HXA.out)
    clear hb2 hzr hze HW1 HK1 HT1 HW2 HK2 hM
    go_wp2_with fail
    go_region_held3 (fun w' => S6 R w2.heap.size a m (x : Int) M w') (first | exact HS.out.drew | assumption) (first | (go_at_call 77; refine (f77 a m (x : Int) M _ ba0 (by omega) bm0 bm1 (by omega) (by omega) (by omega) hM1).mono ?_; rintro e w3 ⟨rfl, hb3⟩; have hs3 := S6.below (by assumption) hb3))
    have HW3 := hid ((HWA.out.heap (w' := World.drew _) rfl).below hb3)
    have HK3 := hid (kr_trans HKA.out (kr_heap (kr_below (R := R) (B := B) (by simp; omega) hb3) rfl rfl rfl rfl))
    have HS3 := hid hs3
    have hR3 := HW3.out.lt
    have hX3 : w2.heap.size < w3.heap.size := lt_of_block hs3.2.2.2.2.x
    clear hb3 hs3 HWA HKA HS HXA
    by_cases hh : a ≤ (x : Int) ∧ 64 - a - m ≤ 64 - (x : Int) - M
    · rw [show (decide (a ≤ (x : Int)) && decide (64 - a - m ≤ 64 - (x : Int) - M)) = true from by simp [hh.1, hh.2]]
      obtain ⟨l, t, hfs, hal, hmt⟩ : ∃ l t : Nat, f = some (l, t) ∧ a = (l : Int) ∧ m = 64 - (l : Int) - (t : Int) := by
        rcases HF.out with ⟨_, e1, e2⟩ | ⟨l, t, e1, e2, e3⟩
        · exfalso; have := HM.out; omega
        · exact ⟨l, t, e1, e2, e3⟩
      have HE : Hid (turnB p f turn = (bAdd (bAdd p 2 2) (turn / 2 ^ t) (64 - l - t), f)) := by
        unfold Hid turnB
        rw [if_neg (by omega), hfs]
        simp only
        rw [HZE.out, if_pos (by have := HM.out; constructor <;> simp only <;> omega)]
      have hlt : l + t ≤ 63 := hfo l t hfs
      have HFI : Hid (FI f a m) := HF.out
      have hb : 64 - a - m = (t : Int) := by omega
      obtain ⟨mm, hmm⟩ : ∃ mm : Nat, m = (mm : Int) := ⟨m.toNat, by omega⟩
      have hmm2 : mm = 64 - l - t := by omega
      have HMM := hid hmm2
      subst hmm
      have HB := hid hb
      have ht63 : t ≤ 63 := by omega
      clear hh hfs hal hmt hmm2 hb hlt
      go_wp2_with fail
      refine (putO 0 1 HW3.out (HG.out.add _ _) (by simp only [bAdd_size]; omega) (by omega) hB (by omega) (by omega)).mono ?_
      rintro e w4 ⟨rfl, hw4, hk4⟩
      rw [add_10] at hw4
      have HW4 := hid hw4
      have HK4 := hid (kr_trans HK3.out hk4)
      have HS4 := hid (s6_of hw4 (krbox HS3.out.2.2.2.2.x hk4 (by decide) (by omega)))
      clear hw4 hk4 HW3 HK3 HS3
      go_wp2_with fail
      go_region_held3 (fun w' => S6 R w2.heap.size a (mm : Int) (x : Int) M w') (first | exact HS4.out.drew | assumption) (first | (go_at_call 78; refine (f78 a (mm : Int) _ ba0 (by omega) bm0 bm1).mono ?_; rw [HB.out]; rintro e w5 ⟨rfl, hb5⟩; have hs5 := S6.below (by assumption) hb5; have hw5 := (HW4.out.heap (w' := World.drew _) rfl).below hb5) | (go_at_call 41; refine (putO (turn / 2 ^ _) mm hw5 ((HG.out.add _ _)) (by simp only [bAdd_size]; omega) (by omega) hB (ediv_u64 turn _ h0 h1).1 (ediv_u64 turn _ h0 h1).2).mono ?_; rintro e w6 ⟨rfl, hw6, hk6⟩; have hs6 := s6_of hw6 (krbox hs5.2.2.2.2.x hk6 (by decide) (by omega))))
      have HK6 := hid (kr_trans (kr_trans HK4.out (kr_heap (kr_below (R := R) (B := B) (by have := HW4.out.lt; simp; omega) hb5) rfl rfl rfl rfl)) hk6)
      have HW6 := hid hw6
      clear hb5 hs5 hw5 hk6 hs6 hw6 HW4 HK4 HS4
      go_wp2
      go_end0
      refine ⟨rfl, ⟨a, (mm : Int), by rw [HE.out]; exact HFI.out, ?_⟩, HK6.out⟩
      rw [HE.out, ← HMM.out]
      exact HW6.out
    · rw [show (decide (a ≤ (x : Int)) && decide (64 - a - m ≤ 64 - (x : Int) - M)) = false from by rw [← Bool.decide_and]; exact decide_eq_false hh]
      have HE : Hid (turnB p f turn = turnN p turn) := by
        unfold Hid turnB
        rw [if_neg (by omega)]
        rcases HF.out with ⟨e1, e2, e3⟩ | ⟨l, t, e1, e2, e3⟩
        · rw [e1]
        · rw [e1]
          simp only
          rw [HZE.out, if_neg]
          intro h
          refine hh ?_
          have := HM.out
          simp only at h
          omega
      have HN : Hid (turnN p turn = (bAdd (bAdd (bAdd (bAdd p 3 2) (x : Int) 6) ((64 - x - y - 1 : Nat) : Int) 6) (turn / 2 ^ y) (64 - x - y), some (x, y))) := by
        unfold Hid turnN; rw [HZE.out]
      obtain ⟨mm, hmm⟩ : ∃ mm : Nat, M = (mm : Int) := ⟨M.toNat, by omega⟩
      subst hmm
      have HMM : Hid (mm = 64 - x - y) := by unfold Hid; have := HM.out; omega
      have HB : Hid (64 - (x : Int) - (mm : Int) = (y : Int)) := by unfold Hid; have := HM.out; omega
      obtain ⟨c2, c3, c4, c5, c6, fz⟩ := HW3.out.cells
      have f5 := fz 5
      have f6 := fz 6
      obtain ⟨_, _, e0, e1, hR6⟩ := HS3.out
      have HW4 := hid ((HW3.out.set5 (.int .i64 (x : Int))).set6 (.int .i64 (mm : Int)))
      have HK4 := hid ((HK3.out.set_R (o := 5) hB (.int .i64 (x : Int))).set_R (o := 6) hB (.int .i64 (mm : Int)))
      have HX4 : Hid (((w3.setCell ⟨R, 5, none⟩ (.int .i64 (x : Int))).setCell ⟨R, 6, none⟩ (.int .i64 (mm : Int))).heap[w2.heap.size]? = some (.cells #[.int .i64 (x : Int), .int .i64 (mm : Int)] 66 (0, 0))) :=
        heap_other _ (by show w2.heap.size ≠ R; omega) (heap_other _ (by show w2.heap.size ≠ R; omega) hR6.x)
      clear hh fz HK3 HW3 HS3 hR6
      go_wp2_with fail
      refine (putO 1 1 HW4.out (HG.out.add _ _) (by simp only [bAdd_size]; omega) (by omega) hB (by omega) (by omega)).mono ?_
      rintro e w4 ⟨rfl, hw4, hk4⟩
      rw [add_11] at hw4
      have HW5 := hid hw4
      have HK5 := hid (kr_trans HK4.out hk4)
      have HS5 := hid (s2_of (krbox HX4.out hk4 (by decide) (by omega)))
      clear hw4 hk4 HW4 HK4 HX4 c2 c3 c4 c5 c6 f5 f6 e0 e1
      go_wp2_with fail
      go_region_held3 (fun w' => S2 w2.heap.size (x : Int) (mm : Int) 66 w') (first | exact HS5.out.drew | assumption) (first | (go_at_call 41; refine (putO (IntKind.u64.wrap _) 6 (HW5.out.heap (w' := World.drew _) rfl) (HG.out.add _ _) (by simp only [bAdd_size]; omega) (by omega) hB (wrapu_lo _) (wrapu_hi _)).mono ?_; rintro e w5 ⟨rfl, hw5, hk5⟩; have hs5 := s2_of (krbox HS5.out.2.2 (kr_heap hk5 rfl rfl rfl rfl) (by decide) (by omega))))
      have HW6 := hid hw5
      have HK6 := hid (kr_trans HK5.out (kr_heap hk5 rfl rfl rfl rfl))
      have HS6 := hid hs5
      clear hw5 hk5 hs5 HW5 HK5 HS5
      go_wp2_with fail
      go_region_held3 (fun w' => S2 w2.heap.size (x : Int) (mm : Int) 66 w') (first | exact HS6.out.drew | assumption) (first | (go_at_call 41; refine (putO (IntKind.u64.wrap _) 6 (HW6.out.heap (w' := World.drew _) rfl) ((HG.out.add _ _).add _ _) (by simp only [bAdd_size]; omega) (by omega) hB (wrapu_lo _) (wrapu_hi _)).mono ?_; rintro e w6 ⟨rfl, hw6, hk6⟩; have hs6 := s2_of (krbox HS6.out.2.2 (kr_heap hk6 rfl rfl rfl rfl) (by decide) (by omega))))
      have HK7 := hid (kr_trans HK6.out (kr_heap hk6 rfl rfl rfl rfl))
      have HS7 := hid (s6_of hw6 hs6.2.2)
      have HW7 := hid hw6
      clear hw6 hk6 hs6 HW6 HK6 HS6
      go_wp2_with fail
      go_region_held3 (fun w' => S6 R w2.heap.size (x : Int) (mm : Int) (x : Int) (mm : Int) w') (first | exact HS7.out.drew | assumption) (first | (go_at_call 78; refine (f78 (x : Int) (mm : Int) _ (by omega) (by omega) (by omega) hM1).mono ?_; rw [HB.out]; rintro e w8 ⟨rfl, hb8⟩; have hs8 := S6.below (by assumption) hb8; have hw8 := (HW7.out.heap (w' := World.drew _) rfl).below hb8) | (go_at_call 41; refine (putO (turn / 2 ^ _) mm hw8 (((HG.out.add _ _).add _ _).add _ _) (by simp only [bAdd_size]; omega) (by omega) hB (ediv_u64 turn _ h0 h1).1 (ediv_u64 turn _ h0 h1).2).mono ?_; rintro e w9 ⟨rfl, hw9, hk9⟩; have hs9 := s6_of hw9 (krbox hs8.2.2.2.2.x hk9 (by decide) (by omega))))
      have HK9 := hid (kr_trans (kr_trans HK7.out (kr_heap (kr_below (R := R) (B := B) (by have := HW7.out.lt; simp; omega) hb8) rfl rfl rfl rfl)) hk9)
      have HW9 := hid hw9
      clear hb8 hs8 hw8 hk9 hs9 hw9 HW7 HK7 HS7
      go_wp2
      go_end0
      refine ⟨rfl, ⟨(x : Int), (mm : Int), ?_, ?_⟩, HK9.out⟩
      · rw [HE.out, HN.out]; exact .inr ⟨x, y, rfl, rfl, by have := HMM.out; omega⟩
      · rw [HE.out, HN.out, ← HMM.out]
        have e1 : IntKind.u64.wrap (x : Int) = (x : Int) := wrap_id (by omega) (by omega)
        have e2 : ((mm - 1 : Nat) : Int) = (mm : Int) - 1 := by omega
        have e3 : IntKind.u64.wrap ((mm : Int) - 1) = (mm : Int) - 1 := wrap_id (by omega) (by omega)
        have h9 := HW9.out
        try rw [wrap_wrap] at h9
        rw [e1, e3] at h9
        rw [e2]
        exact h9
end Go.Proofs.YteblbcbfaomdmaaDoor.Chk
