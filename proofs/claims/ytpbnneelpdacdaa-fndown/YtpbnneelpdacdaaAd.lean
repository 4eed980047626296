/- The program's GoodAggs. -/
import Derived.Test.YtpbnneelpdacdaaAc
import Derived.Lib.MinMax
namespace Go.Proofs.Ytpbnneelpdacdaa.Agl
open Go.RowKit

theorem okn_iff {x0 x1 x2 x3 x4 x5 x6 x7 : Int} : OkN ⟨x0, x1, x2, x3, x4, x5, x6, x7⟩ ↔ 1 ≤ x1 ∧ x1 ≤ 2000 ∧ x3 ≤ min x5 x6 ∧ max x5 x6 ≤ x4 := by
  unfold OkN
  simp only
  constructor <;> intro h <;> refine ⟨?_, ?_, ?_⟩ <;> omega

set_option maxHeartbeats 2000000 in
theorem f62 (x0 x1 x2 x3 x4 x5 x6 x7 : Int) (w : World) :
    Calls Try.prog 62 #[valA ⟨x0, x1, x2, x3, x4, x5, x6, x7⟩] w fun e w' => e = .returned (.bool (decide (OkN ⟨x0, x1, x2, x3, x4, x5, x6, x7⟩))) ∧ Below w.heap.size w w' := by
  have HB := hid ((Below.refl w.heap.size w).alloc (Nat.le_refl _) (.cells #[.int .i64 x0, .int .i64 x1, .int .i64 x2, .int .i64 x3, .int .i64 x4, .int .i64 x5, .int .i64 x6, .int .i64 x7] 33))
  have HQ := hid (okn_iff (x0 := x0) (x1 := x1) (x2 := x2) (x3 := x3) (x4 := x4) (x5 := x5) (x6 := x6) (x7 := x7))
  generalize hg : decide (OkN ⟨x0, x1, x2, x3, x4, x5, x6, x7⟩) = g
  have HG := hid hg
  clear hg
  unfold valA
  simp only
  by_cases h1 : 1 ≤ x1
  · by_cases h2 : x1 ≤ 2000
    · by_cases h3 : x3 ≤ min x5 x6
      · go_enter Try.func62, Try.ntmps62
        go_wp2
        go_ret
        exact ⟨ret_bool (by rw [← HG.out]; exact decide_eq_decide.2 ⟨fun h => HQ.out.2 ⟨h1, h2, h3, h⟩, fun h => (HQ.out.1 h).2.2.2⟩), HB.out⟩
      · go_enter Try.func62, Try.ntmps62
        go_wp2
        go_ret
        exact ⟨ret_bool (by rw [← HG.out]; exact (decide_eq_false fun h => absurd (HQ.out.1 h).2.2.1 (by omega)).symm), HB.out⟩
    · go_enter Try.func62, Try.ntmps62
      go_wp2
      go_ret
      exact ⟨ret_bool (by rw [← HG.out]; exact (decide_eq_false fun h => absurd (HQ.out.1 h).2.1 (by omega)).symm), HB.out⟩
  · go_enter Try.func62, Try.ntmps62
    go_wp2
    go_ret
    exact ⟨ret_bool (by rw [← HG.out]; exact (decide_eq_false fun h => absurd (HQ.out.1 h).1 (by omega)).symm), HB.out⟩

/-- The last Time ahead of k, or -1. -/
def lastT (ls : List Ag) (k : Nat) : Int := if k = 0 then -1 else (ls.getD (k - 1) a0).t
theorem lastT_zero (ls : List Ag) : lastT ls 0 = -1 := rfl
theorem lastT_succ (ls : List Ag) (k : Nat) : lastT ls (k + 1) = (ls.getD k a0).t := by simp [lastT]
theorem ok_last {res : Int} {ls : List Ag} {k : Nat} (h : Upto res ls k) : OkAt res ls k ↔ lastT ls k < (ls.getD k a0).t ∧ (ls.getD k a0).t ≤ 1000001000000 ∧ (ls.getD k a0).t % res = 0 ∧ OkN (ls.getD k a0) := by
  unfold OkAt
  cases k with
  | zero =>
    rw [lastT_zero]
    constructor
    · intro g; exact ⟨by have := g.1.1; omega, g.1.2.1, g.1.2.2.1, g.2⟩
    · intro g; exact ⟨⟨by have := g.1; omega, g.2.1, g.2.2.1, fun h => by omega⟩, g.2.2.2⟩
  | succ j =>
    rw [lastT_succ, Nat.add_sub_cancel]
    have := (h j (by omega)).1.1
    constructor
    · intro g; exact ⟨g.1.2.2.2 (by omega), g.1.2.1, g.1.2.2.1, g.2⟩
    · intro g; exact ⟨⟨by have := g.1; omega, g.2.1, g.2.2.1, fun _ => g.1⟩, g.2.2.2⟩
theorem lastT_ge {res : Int} {ls : List Ag} {k : Nat} (h : Upto res ls k) : -1 ≤ lastT ls k := by
  cases k with
  | zero => rw [lastT_zero]; omega
  | succ j => rw [lastT_succ]; have := (h j (by omega)).1.1; omega

set_option maxRecDepth 100000 in
set_option maxHeartbeats 4000000 in
theorem f36 (a : Option Addr) (c : Nat) (res : Int) (ls : List Ag) (w : World) (hmax : ls.length ≤ 1048576) (hr : HasA w a ls) :
    Calls Try.prog 36 #[.slice a ls.length c, .int .i64 res] w fun e w' => e = .returned (.bool (goodA res ls)) ∧ Below w.heap.size w w' := by
  generalize hn : ls.length = n at *
  have HN := hid hn
  clear hn
  by_cases hres : ResP res
  rotate_left
  · have hd := decide_eq_false hres
    have HG := hid (good_res (ls := ls) hres)
    go_enter Try.func36, Try.ntmps36
    go_wp2_with fail
    refine (f30 res _).mono ?_
    rw [hd]
    rintro e w2 ⟨rfl, rfl⟩
    go_wp2
    go_ret
    exact ⟨ret_bool HG.out.symm, Below.refl _ _⟩
  have hd := decide_eq_true hres
  by_cases h20 : n ≤ 2000
  rotate_left
  · have HG := hid (good_len (res := res) (ls := ls) (by rw [HN.out]; exact h20))
    go_enter Try.func36, Try.ntmps36
    go_wp2_with fail
    refine (f30 res _).mono ?_
    rw [hd]
    rintro e w2 ⟨rfl, rfl⟩
    go_wp2
    go_ret
    exact ⟨ret_bool HG.out.symm, Below.refl _ _⟩
  have HRes := hid hres
  obtain ⟨r1, r2⟩ := hres
  go_enter Try.func36, Try.ntmps36
  go_wp2_with fail
  refine (f30 res _).mono ?_
  rw [hd]
  rintro e w2 ⟨rfl, rfl⟩
  clear hd
  go_wp2
  go_loopw [5, 18] (fun sl i wr => ∃ (k : Nat) (l : Int), k ≤ n ∧ i = .int .i64 k ∧ sl = .int .i64 l ∧ Hid (l = lastT ls k) ∧ Hid (Upto res ls k) ∧ Below w2.heap.size w2 wr) (fun _ i _ => n - (intOf i).toNat)
  case atStart => exact ⟨0, -1, Nat.zero_le _, rfl, rfl, (lastT_zero ls).symm, fun i hi => by omega, Below.refl _ _⟩
  case round =>
    obtain ⟨k, l, hk, rfl, rfl, hl, hu, hnx⟩ := hrel
    have HX := hid hnx
    by_cases hlt : k < n
    rotate_left
    · have HE := hid (good_end HRes.out (by rw [HN.out]; exact h20) (k := k) (by rw [HN.out]; omega) hu.out)
      go_wp2
      go_ret
      exact ⟨ret_bool HE.out.symm, HX.out⟩
    rcases hr with hr | ⟨b, off, rfl, hbl, hc⟩
    · exact absurd HN.out (by rw [hr]; simp; omega)
    obtain ⟨d0, d1, d2, d3, d4, d5, d6, d7⟩ := (hc k (by rw [HN.out]; exact hlt)).below hnx hbl
    have HNo := hid (good_no (res := res) (ls := ls) (k := k) (by rw [HN.out]; exact hlt))
    have HUs := hid (hu.out.succ (k := k))
    have lb : b < wr.heap.size := Nat.lt_of_lt_of_le hbl hnx.size
    have HQ := hid (ok_last hu.out)
    have HL := hid (lastT_succ ls k)
    have HG1 := hid (lastT_ge hu.out)
    clear hnx hc
    generalize ls.getD k a0 = p at *
    obtain ⟨x0, x1, x2, x3, x4, x5, x6, x7⟩ := p
    simp only at d0 d1 d2 d3 d4 d5 d6 d7 HQ HL
    have HXa := hid (HX.out.alloc HX.out.size (.cells #[.int .i64 x0, .int .i64 x1, .int .i64 x2, .int .i64 x3, .int .i64 x4, .int .i64 x5, .int .i64 x6, .int .i64 x7] 33))
    by_cases h1 : x0 ≤ l
    · have HNn := hid (HNo.out fun g => by have := (HQ.out.1 g).1; have := hl.out; omega)
      go_wp2
      go_ret
      exact ⟨ret_bool HNn.out.symm, HXa.out⟩
    by_cases h2 : 1000001000000 < x0
    · have HNn := hid (HNo.out fun g => by have := (HQ.out.1 g).2.1; omega)
      go_wp2
      go_ret
      exact ⟨ret_bool HNn.out.symm, HXa.out⟩
    have hx0 : 0 ≤ x0 := by have := HG1.out; have := hl.out; omega
    have hn0 : res ≠ 0 := by omega
    have et : x0.tmod res = x0 % res := Int.tmod_eq_emod_of_nonneg hx0
    by_cases h3 : x0 % res = 0
    rotate_left
    · have HNn := hid (HNo.out fun g => h3 (HQ.out.1 g).2.2.1)
      have n1 : (x0 % res != 0) = true := by rw [bne_iff_ne]; exact h3
      clear h3
      go_wp2
      go_ret
      exact ⟨ret_bool HNn.out.symm, HXa.out⟩
    have H3 := hid h3
    have n1 : (x0 % res != 0) = false := by rw [h3]; rfl
    clear h3
    by_cases h4 : OkN ⟨x0, x1, x2, x3, x4, x5, x6, x7⟩
    · have h5 := decide_eq_true h4
      have HOk := hid (HUs.out (HQ.out.2 ⟨by have := hl.out; omega, by omega, H3.out, h4⟩))
      clear h4
      have HC := fun x => hid (f62 x0 x1 x2 x3 x4 x5 x6 x7 x)
      rw [h5] at HC
      unfold valA at HC
      simp only at HC
      clear h5
      have z0 : (wr.alloc (.cells #[.int .i64 x0, .int .i64 x1, .int .i64 x2, .int .i64 x3, .int .i64 x4, .int .i64 x5, .int .i64 x6, .int .i64 x7] 33)).cell? ⟨wr.heap.size, 0, none⟩ = some (.int .i64 x0) := by go_simp
      have z1 : wr.heap.size < (wr.alloc (.cells #[.int .i64 x0, .int .i64 x1, .int .i64 x2, .int .i64 x3, .int .i64 x4, .int .i64 x5, .int .i64 x6, .int .i64 x7] 33)).heap.size := by simp
      have HZ := hid (And.intro z0 z1)
      clear z0 z1
      go_wp2_with (go_at_call 62; refine (HC _).out.mono ?_; rintro e w4 ⟨rfl, hb4⟩; have z2 := (hb4.cell (p := ⟨wr.heap.size, 0, none⟩) HZ.out.2).trans HZ.out.1)
      have HX4 := hid (HXa.out.trans (hb4.mono HXa.out.size))
      clear hb4
      go_roundw
      case rel => exact ⟨k + 1, x0, by omega, by go_num, rfl, HL.out.symm, HOk.out, HX4.out⟩
      case measure => simp [intOf]; omega
    · have h5 := decide_eq_false h4
      have HNn := hid (HNo.out fun g => h4 (HQ.out.1 g).2.2.2)
      clear h4
      have HC := fun x => hid (f62 x0 x1 x2 x3 x4 x5 x6 x7 x)
      rw [h5] at HC
      unfold valA at HC
      simp only at HC
      clear h5
      go_wp2_with (go_at_call 62; refine (HC _).out.mono ?_; rintro e w4 ⟨rfl, hb4⟩)
      have HX4 := hid (HXa.out.trans (hb4.mono HXa.out.size))
      clear hb4
      go_wp2
      go_ret
      exact ⟨ret_bool HNn.out.symm, HX4.out⟩
end Go.Proofs.Ytpbnneelpdacdaa.Agl
