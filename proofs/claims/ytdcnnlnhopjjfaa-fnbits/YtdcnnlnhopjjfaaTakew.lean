/- The walk of FnExactTakeBits: it returns true and writes nothing that was there. -/
import Derived.Test.YtdcnnlnhopjjfaaTake
import Derived.Deep.RegionWith
namespace Go.Proofs.Ytdcnnlnhopjjfaa.Bts
open Go.RowKit Go.Proofs.Ytdcnnlnhopjjfaa.Byt

set_option maxHeartbeats 2000000 in
theorem f16 (a : Option Addr) (n c : Nat) (s i m : Int) (zs : List Int) (w : World) (hn : zs.length = n) (hb : n ≤ 1048576) (hr : Has w a zs) (h255 : ∀ j, 0 ≤ zs.getD j 0 ∧ zs.getD j 0 ≤ 255)
    (hi0 : -9223372036854775808 ≤ i) (hi1 : i ≤ 9223372036854775807) (hm0 : -9223372036854775808 ≤ m) (hm1 : m ≤ 9223372036854775807) :
    Calls Try.prog 16 #[.agg #[.slice a n c, .int .i64 s], .int .i64 i, .int .i64 m] w fun e w' => e = .returned (.tuple #[.int .i64 (takeB zs s i m).1, .bool (takeB zs s i m).2]) ∧ Below w.heap.size w w' := by
  have HN := hid hn
  have HF := hid h255
  clear hn h255
  cases hg : good zs s
  · have HT := hid (takeB_bad zs s i m hg)
    go_enter Try.func16, Try.ntmps16
    go_wp2_with fail
    refine (f17 _ _ _ _ zs _ HN.out hb (has_alloc hr _) HF.out).mono ?_
    rw [hg]
    rintro e w1 ⟨rfl, hb1⟩
    go_wp2
    go_ret2
    exact ⟨by rw [HT.out]; rfl, ((Below.refl _ _).alloc (Nat.le_refl _) _).trans (hb1.mono (by simp))⟩
  · obtain ⟨q0, q1, q2, _⟩ := good_bd zs s hg
    rw [HN.out] at q2
    by_cases hin : 0 ≤ i ∧ 0 ≤ m ∧ m ≤ 64 ∧ i + m ≤ s
    · obtain ⟨a0, a1, a2, a3⟩ := hin
      obtain ⟨t, rfl⟩ := Int.eq_ofNat_of_zero_le a0
      obtain ⟨k, rfl⟩ := Int.eq_ofNat_of_zero_le a1
      have HT := hid ((takeB_good zs s t k hg).trans (take_in zs s t k (by omega) (by omega)))
      have htk : (t : Int) ≤ s - (k : Int) := by omega
      go_enter Try.func16, Try.ntmps16
      go_wp2_with fail
      refine (f17 _ _ _ _ zs _ HN.out hb (has_alloc hr _) HF.out).mono ?_
      rw [hg]
      rintro e w1 ⟨rfl, hb1⟩
      have hr1 := has_below (has_alloc hr _) hb1
      have c0 : w1.cell? ⟨w.heap.size, 0, none⟩ = some (.slice a n c) := (hb1.cell (p := ⟨w.heap.size, 0, none⟩) (by simp)).trans (by simp)
      have c1 : w1.cell? ⟨w.heap.size, 1, none⟩ = some (.int .i64 s) := (hb1.cell (p := ⟨w.heap.size, 1, none⟩) (by simp)).trans (by simp)
      have hw1 : w.heap.size < w1.heap.size := by have := hb1.size; simp at this; omega
      go_wp2_with fail
      refine (f51 a n c t k w1.heap.size zs w1 _ HN.out hb rfl hr1 HF.out ((Below.refl _ _).alloc (Nat.le_refl _) _) (by omega) (by omega) (by simp) (by simp) (by simp)).mono ?_
      rintro e w2 ⟨rfl, hb2⟩
      go_wp2
      go_ret2
      exact ⟨by rw [HT.out]; rfl, (((Below.refl _ _).alloc (Nat.le_refl _) _).trans (hb1.mono (by simp))).trans (hb2.mono (by omega))⟩
    · have HT := hid ((takeB_good zs s i m hg).trans (take_out zs s i m hin))
      go_enter Try.func16, Try.ntmps16
      go_wp2_with fail
      refine (f17 _ _ _ _ zs _ HN.out hb (has_alloc hr _) HF.out).mono ?_
      rw [hg]
      rintro e w1 ⟨rfl, hb1⟩
      have c1 : w1.cell? ⟨w.heap.size, 1, none⟩ = some (.int .i64 s) := (hb1.cell (p := ⟨w.heap.size, 1, none⟩) (by simp)).trans (by simp)
      have hw1 : w.heap.size < w1.heap.size := by have := hb1.size; simp at this; omega
      by_cases h1 : i < 0
      · clear hin
        go_wp2
        go_ret2
        exact ⟨by rw [HT.out]; rfl, ((Below.refl _ _).alloc (Nat.le_refl _) _).trans (hb1.mono (by simp))⟩
      · by_cases h2 : m < 0
        · clear hin
          go_wp2
          go_ret2
          exact ⟨by rw [HT.out]; rfl, ((Below.refl _ _).alloc (Nat.le_refl _) _).trans (hb1.mono (by simp))⟩
        · by_cases h3 : 64 < m
          · clear hin
            go_wp2
            go_ret2
            exact ⟨by rw [HT.out]; rfl, ((Below.refl _ _).alloc (Nat.le_refl _) _).trans (hb1.mono (by simp))⟩
          · have h5 : s - m < i := by omega
            clear hin
            go_wp2
            go_ret2
            exact ⟨by rw [HT.out]; rfl, ((Below.refl _ _).alloc (Nat.le_refl _) _).trans (hb1.mono (by simp))⟩

set_option maxHeartbeats 2000000 in
theorem walk7 (a : Option Addr) (n c : Nat) (s i m : Int) (zs : List Int) (w : World) (hn : zs.length = n) (hmax : n ≤ 9223372036854775807) (hr : Has w a zs) (h255 : ∀ j, 0 ≤ zs.getD j 0 ∧ zs.getD j 0 ≤ 255)
    (hi0 : -9223372036854775808 ≤ i) (hi1 : i ≤ 9223372036854775807) (hm0 : -9223372036854775808 ≤ m) (hm1 : m ≤ 9223372036854775807) :
    Calls Try.prog 7 #[.agg #[.slice a n c, .int .i64 s], .int .i64 i, .int .i64 m] w fun e w' => e = .returned (.bool true) ∧ Below w.heap.size w w' := by
  by_cases hb : n ≤ 1048576
  · have hb0 : n ≤ 140737488351232 := by omega
    have HN := hid hn
    have HF := hid h255
    have hd : ((takeB zs s i m).1 != (takeB zs s i m).1) = false := by simp
    have hd' : ((takeB zs s i m).2 != (takeB zs s i m).2) = false := by simp
    clear hn h255
    go_enter Try.func7, Try.ntmps7
    go_wp2_with fail
    refine (f25 a n c s _ hmax).mono ?_
    rw [if_pos hb]
    rintro e w1 ⟨rfl, hb1⟩
    have hr0 : Has (w.alloc (.cells #[.slice a n c, .int .i64 s] 38)) a zs := has_alloc hr _
    have hr1 := has_below hr0 hb1
    have hw1 : w.heap.size < w1.heap.size := by have := hb1.size; simp at this; omega
    have k10 : w1.cell? ⟨w.heap.size, 0, none⟩ = some (.slice a n c) := (hb1.cell (p := ⟨w.heap.size, 0, none⟩) (by simp)).trans (by simp)
    have k11 : w1.cell? ⟨w.heap.size, 1, none⟩ = some (.int .i64 s) := (hb1.cell (p := ⟨w.heap.size, 1, none⟩) (by simp)).trans (by simp)
    clear hr0
    go_wp2_with fail
    refine (f26 a n c s zs _ HN.out hb0 hr1).mono ?_
    rintro e w2 ⟨g2, rfl, hg2, ho2, hb2⟩
    have hr2 := has_below hr1 hb2
    have hw2 : w.heap.size < w2.heap.size := by have := hb2.size; omega
    have k20 := (hb2.cell (p := ⟨w.heap.size, 0, none⟩) hw1).trans k10
    have k21 := (hb2.cell (p := ⟨w.heap.size, 1, none⟩) hw1).trans k11
    go_wp2_with fail
    refine (f18 _ n n s i m zs _ HN.out hb (Has.own ho2) HF.out hi0 hi1 hm0 hm1).mono ?_
    rintro e w3 ⟨rfl, hb3⟩
    have hr3 := has_below hr2 hb3
    have hw3 : w.heap.size < w3.heap.size := by have := hb3.size; omega
    have k30 := (hb3.cell (p := ⟨w.heap.size, 0, none⟩) hw2).trans k20
    have k31 := (hb3.cell (p := ⟨w.heap.size, 1, none⟩) hw2).trans k21
    clear k10 k11 k20 k21 ho2
    go_wp2_with fail
    refine (f26 a n c s zs _ HN.out hb0 hr3).mono ?_
    rintro e w4 ⟨g4, rfl, hg4, ho4, hb4⟩
    have hr4 := has_below hr3 hb4
    have hw4 : w.heap.size < w4.heap.size := by have := hb4.size; omega
    have k40 := (hb4.cell (p := ⟨w.heap.size, 0, none⟩) hw3).trans k30
    have k41 := (hb4.cell (p := ⟨w.heap.size, 1, none⟩) hw3).trans k31
    have hx4 := Has.own ho4
    have hl4 := (ho4.lt g4 rfl).2
    clear k30 k31 ho4
    go_wp2_with fail
    refine (f16 _ n n s i m zs _ HN.out hb (has_alloc hx4 _) HF.out hi0 hi1 hm0 hm1).mono ?_
    rintro e w5 ⟨rfl, hb5⟩
    have hs5 : w4.heap.size + 1 ≤ w5.heap.size := by have := hb5.size; simpa using this
    have hr5 := has_below (has_alloc hr4 _) hb5
    have hx5 := has_below (has_alloc hx4 _) hb5
    have k50 : w5.cell? ⟨w.heap.size, 0, none⟩ = some (.slice a n c) := (hb5.cell (p := ⟨w.heap.size, 0, none⟩) (by simp; omega)).trans (cell_alloc hw4 k40)
    have k51 : w5.cell? ⟨w.heap.size, 1, none⟩ = some (.int .i64 s) := (hb5.cell (p := ⟨w.heap.size, 1, none⟩) (by simp; omega)).trans (cell_alloc hw4 k41)
    have x50 : w5.cell? ⟨w4.heap.size, 0, none⟩ = some (.slice (some ⟨g4, 0, none⟩) n n) := (hb5.cell (p := ⟨w4.heap.size, 0, none⟩) (by simp)).trans (by simp)
    have x51 : w5.cell? ⟨w4.heap.size, 1, none⟩ = some (.int .i64 s) := (hb5.cell (p := ⟨w4.heap.size, 1, none⟩) (by simp)).trans (by simp)
    have HX : Hid (Below w.heap.size w w5) := by
      have e1 : Below w.heap.size w w1 := ((Below.refl _ _).alloc (Nat.le_refl _) _).trans (hb1.mono (by simp))
      have e4 : Below w.heap.size w w4 := ((e1.trans (hb2.mono (by omega))).trans (hb3.mono (by omega))).trans (hb4.mono (by omega))
      exact (e4.alloc (by omega) _).trans (hb5.mono (by simp; omega))
    clear k40 k41 hx4 hr1 hr2 hr3 hr4 hb1 hb2 hb3 hb4 hb5
    go_wp2_with fail
    go_region_with (first | (go_at_call 26; refine (f26 a n c s zs _ HN.out hb0 ?_).mono ?_; (exact hr5); rintro e w6 ⟨g6, rfl, hg6, ho6, hb6'⟩; have hb6 := below_drew hb6'; clear hb6'; have x60 := (hb6.cell (p := ⟨w4.heap.size, 0, none⟩) hs5).trans x50; have x61 := (hb6.cell (p := ⟨w4.heap.size, 1, none⟩) hs5).trans x51; have hx6 := has_below hx5 hb6; have hy6 := Has.own ho6) | (go_at_call 27; refine (f27 _ _ n n n s zs _ HN.out hb0 ?_ ?_).mono ?_; (exact hx6); (exact hy6); rintro e w7 ⟨rfl, hb7⟩))
    all_goals go_wp2
    all_goals go_ret
    all_goals
      have l5 : w.heap.size ≤ w5.heap.size := by omega
      have l6 : w5.heap.size ≤ w6.heap.size := hb6.size
      exact ⟨rfl, (HX.out.trans (hb6.mono l5)).trans (hb7.mono (by omega))⟩
  · clear hn h255
    go_enter Try.func7, Try.ntmps7
    go_wp2_with fail
    refine (f25 a n c s _ hmax).mono ?_
    rw [if_neg hb]
    rintro e w1 ⟨rfl, hb1⟩
    go_wp2
    go_ret
    exact ⟨rfl, ((Below.refl _ _).alloc (Nat.le_refl _) _).trans (hb1.mono (by simp))⟩
end Go.Proofs.Ytdcnnlnhopjjfaa.Bts
