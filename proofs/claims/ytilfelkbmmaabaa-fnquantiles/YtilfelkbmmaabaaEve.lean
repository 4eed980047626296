/- Both QuantileOfs. -/
import Derived.Test.YtilfelkbmmaabaaEvd
import Derived.Lib.MinMax
import Derived.Deep.CutRange
namespace Go.Proofs.Ytilfelkbmmaabaa.Quo
open Go.RowKit
open Go.Proofs.Ytilfelkbmmaabaa.Ino (Has)

theorem ret_two {a b : Int} {x y : Bool} (h : a = b) (k : x = y) : Ending.returned (.tuple #[.int .i64 a, .bool x]) = .returned (.tuple #[.int .i64 b, .bool y]) := by rw [h, k]

theorem shr_mm (q : Int) : min (max q 0) 1000 = shr q := by unfold shr; split <;> (try split) <;> omega
theorem f20 (q : Int) (w : World) :
    Calls Try.prog 20 #[.int .i64 q] w fun e w' => e = .returned (.int .i64 (shr q)) ∧ w' = w := by
  go_enter Try.func20, Try.ntmps20
  go_wp2
  go_ret
  exact ⟨ret_int (shr_mm q), rfl⟩

set_option maxHeartbeats 2000000 in
theorem f11 (a : Option Addr) (n c : Nat) (zs : List Int) (q : Int) (w : World) (hn : zs.length = n) (hb : n ≤ 1048576) (hr : Has w a zs) :
    Calls Try.prog 11 #[.slice a n c, .int .i64 q] w fun e w' => e = .returned (.tuple #[.int .i64 (qv zs q), .bool (qb zs)]) ∧ Below w.heap.size w w' := by
  by_cases h1 : 1 ≤ n ∧ n ≤ 2000
  rotate_left
  · have HV : Hid (qv zs q = 0) := if_neg (by rw [hn]; exact h1)
    have HQ : Hid (qb zs = false) := decide_eq_false (by rw [hn]; exact h1)
    by_cases h2 : n < 1
    · go_enter Try.func11, Try.ntmps11
      go_wp2
      refine bodyPost_ret (v := .tuple #[.int .i64 0, .bool false]) (by simp [results, Try.results11, go_sem]) rfl ⟨ret_two HV.out.symm HQ.out.symm, Below.refl _ _⟩
    · have h3 : n > 2000 := by omega
      go_enter Try.func11, Try.ntmps11
      go_wp2
      refine bodyPost_ret (v := .tuple #[.int .i64 0, .bool false]) (by simp [results, Try.results11, go_sem]) rfl ⟨ret_two HV.out.symm HQ.out.symm, Below.refl _ _⟩
  have HV : Hid (qv zs q = at1 (srt zs) (plc n q)) := by unfold Hid qv; rw [if_pos (by rw [hn]; exact h1)]; unfold quan; rw [hn]
  have HQ : Hid (qb zs = true) := decide_eq_true (by rw [hn]; exact h1)
  obtain ⟨h1, h2⟩ := h1
  have HC := fun x h => hid (f21 a n c zs x hn hb h)
  obtain ⟨p1, p2, p3, p4⟩ := plc_lim q h1 h2
  have HP1 := hid p1
  clear p1
  generalize plc n q = r at *
  have HR := hid hr
  clear hr
  have g1 : ¬ n < 1 := by omega
  have g2 : ¬ n > 2000 := by omega
  go_enter Try.func11, Try.ntmps11
  have hmx : ∃ m, m = max q 0 := ⟨_, rfl⟩
  obtain ⟨m, hm⟩ := hmx
  have HM := hid hm
  clear hm
  go_upto_if 18 with fail
  go_cut [1] from 17 to 51 (fun s1 wx => s1 = .int .i64 m ∧ Hid (wx = w))
  case first =>
    by_cases k0 : q < 0
    · have HS : Hid (m = 0) := by unfold Hid; rw [HM.out]; omega
      go_wp2
      go_meet
      exact ⟨by rw [HS.out], rfl⟩
    · have HS : Hid (m = q) := by unfold Hid; rw [HM.out]; omega
      go_wp2
      go_meet
      exact ⟨by rw [HS.out], rfl⟩
  case rest =>
  obtain ⟨rfl, HW⟩ := hcut
  have hw := HW.out
  subst hw
  go_upto_if 20 with fail
  go_cut [1] from 19 to 51 (fun s1 wx => s1 = .int .i64 (shr q) ∧ Hid (wx = wc))
  case first =>
    by_cases k1 : m > 1000
    · have HS : Hid (shr q = 1000) := by unfold Hid; rw [← shr_mm, ← HM.out]; omega
      go_wp2
      go_meet
      exact ⟨by rw [HS.out], rfl⟩
    · have HS : Hid (shr q = m) := by unfold Hid; rw [← shr_mm, ← HM.out]; omega
      go_wp2
      go_meet
      exact ⟨by rw [HS.out], rfl⟩
  case rest =>
    obtain ⟨rfl, HW⟩ := hcut
    have hw := HW.out
    subst hw
    go_wp2_with fail
    refine (HC _ HR.out).out.mono ?_
    rintro e w1 ⟨a1, c1, rfl, ho, hb1⟩
    have HO := hid ho
    have HB := hid hb1
    clear ho hb1
    generalize hs : shr q = s at *
    have HS := hid hs
    have hlim := shr_lim q
    rw [hs] at hlim
    clear hs
    obtain ⟨l1, l2⟩ := hlim
    obtain ⟨g, rfl, hgl, hgb, c0⟩ := row_at HO.out (r / 1000) p3
    generalize hy : (srt zs).getD (r / 1000) 0 = y at *
    have HY := hid hy
    clear hy
    have e1 : IntKind.i64.wrap ((n : Int) - 1) = (n : Int) - 1 := by rw [IntKind.wrap_i64]; omega
    have e2 : IntKind.i64.wrap (s * ((n : Int) - 1)) = (r : Int) := by rw [HP1.out, IntKind.wrap_i64]; omega
    by_cases k5 : r % 1000 = 0
    · have HA : Hid (at1 (srt zs) r = y) := by unfold Hid at1; rw [if_pos k5]; exact HY.out
      have e3 : ((r : Int) % 1000 != 0) = false := by simp; omega
      clear p4 k5
      go_wp2
      refine bodyPost_ret (v := .tuple #[.int .i64 y, .bool true]) (by simp [results, Try.results11, go_sem]) rfl ⟨ret_two (by rw [HV.out, HA.out]) HQ.out.symm, HB.out⟩
    · obtain ⟨g', hg', -, -, c2⟩ := row_at HO.out (r / 1000 + 1) (p4 k5)
      cases hg'
      have HA : Hid (at1 (srt zs) r = wrap64 (y + qt (wrap64 (wrap64 ((srt zs).getD (r / 1000 + 1) 0 - y) * ((r % 1000 : Nat) : Int))) 1000)) := by unfold Hid at1; rw [if_neg k5, HY.out]
      have e3 : ((r : Int) % 1000 != 0) = true := by simp; omega
      have e4 : (r : Int) / 1000 + 1 < (n : Int) := by have := p4 k5; omega
      have e5 : ((r : Int) / 1000 + 1).toNat = r / 1000 + 1 := by omega
      have e6 : (0 : Int) ≤ (r : Int) / 1000 + 1 := by omega
      generalize (srt zs).getD (r / 1000 + 1) 0 = z at *
      clear p4 k5
      go_wp2_with fail
      refine (f9 _ _ _).mono ?_
      rintro e w2 ⟨rfl, hw2⟩; subst w2
      go_wp2
      refine bodyPost_ret (v := .tuple #[.int .i64 (wrap64 (y + qt (wrap64 (wrap64 (z - y) * ((r : Int) % 1000))) 1000)), .bool true]) (by simp [results, Try.results11, go_sem]) rfl ⟨ret_two (by rw [HV.out, HA.out]; rfl) HQ.out.symm, HB.out⟩

set_option maxHeartbeats 2000000 in
theorem f7 (a : Option Addr) (n c : Nat) (zs : List Int) (q : Int) (w : World) (hn : zs.length = n) (hb : n ≤ 1048576) (hr : Has w a zs) :
    Calls Try.prog 7 #[.slice a n c, .int .i64 q] w fun e w' => e = .returned (.tuple #[.int .i64 (qv zs q), .bool (qb zs)]) ∧ Below w.heap.size w w' := by
  by_cases h1 : 1 ≤ n ∧ n ≤ 2000
  rotate_left
  · have HV : Hid (qv zs q = 0) := if_neg (by rw [hn]; exact h1)
    have HQ : Hid (qb zs = false) := decide_eq_false (by rw [hn]; exact h1)
    by_cases h2 : n < 1
    · go_enter Try.func7, Try.ntmps7
      go_wp2
      refine bodyPost_ret (v := .tuple #[.int .i64 0, .bool false]) (by simp [results, Try.results7, go_sem]) rfl ⟨ret_two HV.out.symm HQ.out.symm, Below.refl _ _⟩
    · have h3 : n > 2000 := by omega
      go_enter Try.func7, Try.ntmps7
      go_wp2
      refine bodyPost_ret (v := .tuple #[.int .i64 0, .bool false]) (by simp [results, Try.results7, go_sem]) rfl ⟨ret_two HV.out.symm HQ.out.symm, Below.refl _ _⟩
  have HV : Hid (qv zs q = at1 (srt zs) (plc n q)) := by unfold Hid qv; rw [if_pos (by rw [hn]; exact h1)]; unfold quan; rw [hn]
  have HQ : Hid (qb zs = true) := decide_eq_true (by rw [hn]; exact h1)
  obtain ⟨h1, h2⟩ := h1
  obtain ⟨p1, p2, p3, p4⟩ := plc_lim q h1 h2
  have HP1 := hid p1
  clear p1
  generalize plc n q = r at *
  have HR := hid hr
  have HN := hid hn
  clear hr hn
  have g1 : ¬ n < 1 := by omega
  have g2 : ¬ n > 2000 := by omega
  go_enter Try.func7, Try.ntmps7
  go_wp2_with fail
  refine (f19 a n c w).mono ?_
  rintro e w1 ⟨rfl, hw1⟩
  have HS1 := hid (vals_stops (w' := w1) (c := c) (by rw [HN.out]; exact hb) HR.out (by rw [HN.out]; exact hw1))
  clear hw1
  go_wp2_with fail
  refine (f18 zs w1 (by rw [HN.out]; exact hb) (enters_of Try.func26 (by kernel_rfl) rfl) HS1.out.2).mono ?_
  rw [HN.out]
  rintro e w2 ⟨a1, c1, rfl, ho, hb2⟩
  have HO := hid ho
  have HB := hid (HS1.out.1.trans (hb2.mono HS1.out.1.size))
  clear ho hb2 HS1
  go_wp2_with fail
  refine (f20 q _).mono ?_
  rintro e w3 ⟨rfl, hw3⟩; subst w3
  generalize hs : shr q = s at *
  have HS := hid hs
  have hlim := shr_lim q
  rw [hs] at hlim
  clear hs
  obtain ⟨l1, l2⟩ := hlim
  obtain ⟨g, rfl, hgl, hgb, c0⟩ := row_at HO.out (r / 1000) p3
  generalize hy : (srt zs).getD (r / 1000) 0 = y at *
  have HY := hid hy
  clear hy
  have e1 : IntKind.i64.wrap ((n : Int) - 1) = (n : Int) - 1 := by rw [IntKind.wrap_i64]; omega
  have e2 : IntKind.i64.wrap (s * ((n : Int) - 1)) = (r : Int) := by rw [HP1.out, IntKind.wrap_i64]; omega
  by_cases k5 : r % 1000 = 0
  · have HA : Hid (at1 (srt zs) r = y) := by unfold Hid at1; rw [if_pos k5]; exact HY.out
    have e3 : ¬ (r : Int) % 1000 > 0 := by omega
    clear p4 k5
    go_wp2
    refine bodyPost_ret (v := .tuple #[.int .i64 y, .bool true]) (by simp [results, Try.results7, go_sem]) rfl ⟨ret_two (by rw [HV.out, HA.out]) HQ.out.symm, HB.out⟩
  · obtain ⟨g', hg', -, -, c2⟩ := row_at HO.out (r / 1000 + 1) (p4 k5)
    cases hg'
    have HA : Hid (at1 (srt zs) r = wrap64 (y + qt (wrap64 (wrap64 ((srt zs).getD (r / 1000 + 1) 0 - y) * ((r % 1000 : Nat) : Int))) 1000)) := by unfold Hid at1; rw [if_neg k5, HY.out]
    have e3 : (r : Int) % 1000 > 0 := by omega
    have e4 : (r : Int) / 1000 + 1 < (n : Int) := by have := p4 k5; omega
    have e5 : ((r : Int) / 1000 + 1).toNat = r / 1000 + 1 := by omega
    have e6 : (0 : Int) ≤ (r : Int) / 1000 + 1 := by omega
    generalize (srt zs).getD (r / 1000 + 1) 0 = z at *
    clear p4 k5
    go_wp2_with fail
    refine (f10 _ _ _).mono ?_
    rintro e w2 ⟨rfl, hw2⟩; subst w2
    go_wp2
    refine bodyPost_ret (v := .tuple #[.int .i64 (wrap64 (y + qt (wrap64 (wrap64 (z - y) * ((r : Int) % 1000))) 1000)), .bool true]) (by simp [results, Try.results7, go_sem]) rfl ⟨ret_two (by rw [HV.out, HA.out]; rfl) HQ.out.symm, HB.out⟩
end Go.Proofs.Ytilfelkbmmaabaa.Quo
