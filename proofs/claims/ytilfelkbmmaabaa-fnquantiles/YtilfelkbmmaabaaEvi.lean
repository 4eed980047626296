/- The walk of FnQuantiles. -/
import Derived.Test.YtilfelkbmmaabaaEve
import Derived.Test.YtilfelkbmmaabaaEvh
namespace Go.Proofs.Ytilfelkbmmaabaa.Quo
open Go.RowKit
open Go.Proofs.Ytilfelkbmmaabaa.Cur (Bya)
open Go.Proofs.Ytilfelkbmmaabaa.Ino (Has)

/-- Where all of the first ones are not far from 0, what is asked at the end holds. -/
theorem last_ok {zs : List Int} {q p : Int} (h1 : 1 ≤ zs.length) (h2 : zs.length ≤ 2000) (hq : q ≤ p) (h : ∀ i, i < zs.length → -1099511627776 ≤ zs.getD i 0 ∧ zs.getD i 0 ≤ 1099511627776) :
    qv zs 0 ≤ qv zs q ∧ qv zs q ≤ qv zs 1000 ∧ qv zs q ≤ qv zs p := by
  have hs : Sml zs := by
    intro z hz
    obtain ⟨i, hi, rfl⟩ := List.mem_iff_getElem.1 hz
    have := h i hi
    simpa [hi] using this
  have e : ∀ x, qv zs x = quan zs x := fun x => if_pos ⟨h1, h2⟩
  rw [e, e, e, e]
  have := quan_under (q := q) hs h1 h2
  exact ⟨this.1, this.2, quan_mono hs h1 h2 hq⟩
theorem low_ok {zs : List Int} (h1 : 1 ≤ zs.length) (h2 : zs.length ≤ 2000) (i : Nat) (hi : i < zs.length) : qv zs 0 ≤ zs.getD i 0 ∧ zs.getD i 0 ≤ qv zs 1000 := by
  have e : ∀ x, qv zs x = quan zs x := fun x => if_pos ⟨h1, h2⟩
  have hm : zs.getD i 0 ∈ zs := by
    have e2 : zs.getD i 0 = zs[i] := by simp [hi]
    rw [e2]; exact List.getElem_mem _
  rw [e, e]
  exact ⟨quan_low h1 _ hm, quan_high h1 _ hm⟩

set_option maxRecDepth 100000 in
set_option maxHeartbeats 4000000 in
theorem walkQuantiles (a a' : Option Addr) (n n' c c' : Nat) (w : World) (h : Bya w a n) (h' : Bya w a' n') (_hm : n ≤ maxLen) (_hm' : n' ≤ maxLen) :
    Calls Try.prog 3 #[.slice a n c, .slice a' n' c'] w fun e w' => e = .returned (.bool true) ∧ Below w.heap.size w w' := by
  by_cases hb : n > 1048576
  · go_enter Try.func3, Try.ntmps3
    go_wp2
    go_ret
    exact ⟨rfl, Below.refl _ _⟩
  by_cases hb' : n' > 1048576
  · go_enter Try.func3, Try.ntmps3
    go_wp2
    go_ret
    exact ⟨rfl, Below.refl _ _⟩
  have hbn : n ≤ 1048576 := by omega
  have H' := hid h'
  have HD := hid (f6 a n c w h hbn)
  clear h h'
  go_enter Try.func3, Try.ntmps3
  go_wp2_with fail
  refine HD.out.mono ?_
  rintro e w1 ⟨a1, c1, zs, q, rfl, hl, q0, q1, ho, hb1⟩
  have HZ : Hid (Has w1 a1 zs) := by
    unfold Hid
    rcases ho.2 with ⟨h1, h2⟩ | ⟨g, cap, cur, h1, h2, h3⟩
    · exact .inl (List.eq_nil_of_length_eq_zero h2)
    · cases h1
      exact Has.own ho
  have HB1 := hid hb1
  clear ho hb1 HD
  generalize hn : zs.length = m at *
  have HN := hid hn
  clear hn
  have hm1 : m ≤ 1048576 := by omega
  have HC := fun (p : Int) (x : World) (hx : Has x a1 zs) => hid (f7 a1 m c1 zs p x HN.out hm1 hx)
  have HV1 := hid (low_ok (zs := zs))
  have HV2 := fun (p : Int) => hid (last_ok (zs := zs) (q := q) (p := p))
  rw [HN.out] at HV1
  have HV2' : Hid (∀ p, 1 ≤ m → m ≤ 2000 → q ≤ p → (∀ i, i < m → -1099511627776 ≤ zs.getD i 0 ∧ zs.getD i 0 ≤ 1099511627776) → qv zs 0 ≤ qv zs q ∧ qv zs q ≤ qv zs 1000 ∧ qv zs q ≤ qv zs p) := by
    intro p; have := (HV2 p).out; rw [HN.out] at this; exact this
  clear HV2
  have HQB : Hid (qb zs = decide (1 ≤ m ∧ m ≤ 2000)) := by unfold Hid qb; rw [HN.out]
  go_wp2_with fail
  refine (HC q _ HZ.out).out.mono ?_
  rintro e w2 ⟨rfl, hb2⟩
  have HB2 := hid (HB1.out.trans (hb2.mono HB1.out.size))
  have HZ2 := hid (HZ.out.below hb2)
  clear hb2
  by_cases h1 : 1 ≤ m ∧ m ≤ 2000
  rotate_left
  · have hqb : qb zs = false := by rw [HQB.out]; exact decide_eq_false h1
    rw [hqb]
    by_cases h2 : m < 1
    · go_wp2
      go_ret
      exact ⟨rfl, HB2.out⟩
    · have h3 : m > 2000 := by omega
      go_wp2
      go_ret
      exact ⟨rfl, HB2.out⟩
  have hqb : qb zs = true := by rw [HQB.out]; exact decide_eq_true h1
  rw [hqb] at HC ⊢
  clear HQB hqb
  obtain ⟨h1, h2⟩ := h1
  have g1 : ¬ m < 1 := by omega
  have g2 : ¬ m > 2000 := by omega
  go_wp2_with fail
  refine (HC 0 _ HZ2.out).out.mono ?_
  rintro e w3 ⟨rfl, hb3⟩
  have HB3 := hid (HB2.out.trans (hb3.mono HB2.out.size))
  have HZ3 := hid (HZ2.out.below hb3)
  clear hb3
  go_wp2_with fail
  refine (HC 1000 _ HZ3.out).out.mono ?_
  rintro e w4 ⟨rfl, hb4⟩
  have HB4 := hid (HB3.out.trans (hb4.mono HB3.out.size))
  have HZ4 := hid (HZ3.out.below hb4)
  clear hb4
  go_wp2_with fail
  refine (Cur.f8 a' n' c' 0 _ (H'.out.below HB4.out) (by omega)).mono ?_
  rintro e w5 ⟨x0, rfl, y0, y1, hw5⟩; subst w5
  go_wp2_with fail
  refine (Cur.f8 a' n' c' 1 _ (H'.out.below HB4.out) (by omega)).mono ?_
  rintro e w5 ⟨x1, rfl, y2, y3, hw5⟩; subst w5
  have t1 : 0 ≤ x1 % 4 ∧ x1 % 4 ≤ 3 := by omega
  obtain ⟨t1, t2⟩ := t1
  have HV3 := hid (HV2'.out (q + x0 + 256 * (x1 % 4)) h1 h2 (by omega))
  go_wp2_with fail
  refine (HC (q + x0 + 256 * (x1 % 4)) _ HZ4.out).out.mono ?_
  rintro e w5 ⟨rfl, hb5⟩
  have HB5 := hid (HB4.out.trans (hb5.mono HB4.out.size))
  have HZ5 := hid (HZ4.out.below hb5)
  clear hb5 HC HZ HZ2 HZ3 HZ4 HB1 HB2 HB3 HB4 H' HV2'
  have HV4 := hid (HV1.out h1 h2)
  clear HV1
  generalize qv zs (q + x0 + 256 * (x1 % 4)) = vp at *
  generalize qv zs q = vq at *
  generalize qv zs 0 = v0 at *
  generalize qv zs 1000 = v1 at *
  go_wp2
  go_loopw [80] (fun i wr => ∃ k : Nat, k ≤ m ∧ i = .int .i64 k ∧ Hid (∀ i, i < k → -1099511627776 ≤ zs.getD i 0 ∧ zs.getD i 0 ≤ 1099511627776) ∧ Hid (wr = w5)) (fun i _ => m - (intOf i).toNat)
  case atStart => exact ⟨0, Nat.zero_le _, rfl, fun i hi => by omega, rfl⟩
  case round =>
    obtain ⟨k, hk, rfl, HU, HW⟩ := hrel
    have hw := HW.out
    subst hw
    by_cases hlt : k < m
    rotate_left
    · obtain rfl : k = m := by omega
      obtain ⟨e1, e2, e3⟩ := HV3.out HU.out
      have e1' : vq ≥ v0 := e1
      have e3' : vp ≥ vq := e3
      go_wp2
      go_ret
      exact ⟨rfl, HB5.out⟩
    have i1 : (k : Int) < (m : Int) := by omega
    rcases HZ5.out with hr | ⟨b, off, rfl, hbl, hc⟩
    · exact absurd HN.out (by rw [hr]; simp; omega)
    have c0 := hc k (by rw [HN.out]; exact hlt)
    obtain ⟨z1, z2⟩ := HV4.out k hlt
    have HU2 : Hid (-1099511627776 ≤ zs.getD k 0 ∧ zs.getD k 0 ≤ 1099511627776 → ∀ i, i < k + 1 → -1099511627776 ≤ zs.getD i 0 ∧ zs.getD i 0 ≤ 1099511627776) := by
      intro h i hi
      by_cases e : i = k
      · rw [e]; exact h
      · exact HU.out i (by omega)
    generalize zs.getD k 0 = z at c0 z1 z2 HU2
    have z3 : ¬ z < v0 := by omega
    have z4 : ¬ z > v1 := by omega
    clear hc
    by_cases z5 : z > 1099511627776
    · go_wp2
      go_ret
      exact ⟨rfl, HB5.out⟩
    · by_cases z6 : z < -1099511627776
      · go_wp2
        go_ret
        exact ⟨rfl, HB5.out⟩
      · have HU3 := hid (HU2.out ⟨by omega, by omega⟩)
        go_wp2
        go_roundw
        case rel => exact ⟨k + 1, by omega, by go_num, HU3, hid (by trivial)⟩
        case measure => simp [intOf]; omega
end Go.Proofs.Ytilfelkbmmaabaa.Quo
