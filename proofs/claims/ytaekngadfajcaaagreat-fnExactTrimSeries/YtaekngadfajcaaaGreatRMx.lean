/- Matchers: szMatcherS at any room, markMatcherS. -/
import Derived.Test.YtaekngadfajcaaaGreatRMat
import Derived.Test.YtaekngadfajcaaaGreatRMK
import Derived.Test.YtaekngadfajcaaaGreatRXB
namespace Go.Proofs.YtaekngadfajcaaaGreat.Srs
open Go.RowKit
open Go.Proofs.YtaekngadfajcaaaGreat.Pat (Mt HasM FitM)

set_option maxHeartbeats 1000000 in
theorem f62t (s t : ByteArray) (o x : Int) (w : World) (hs : s.size ≤ maxLen) (ht : t.size ≤ maxLen) (hx0 : 0 ≤ x) (hx1 : x ≤ 1048576) :
    Calls Tryz.prog 62 #[.agg #[.string s, .int .i64 o, .string t], .int .i64 x] w fun e w' => ∃ y : Int, e = .returned (.int .i64 y) ∧ -1 ≤ y ∧ y ≤ 1048576 ∧ Below w.heap.size w w' := Pat.f62 s t o x w hs ht hx0 hx1
set_option maxHeartbeats 1000000 in
theorem f36t (a : Option Addr) (n c : Nat) (L : Int) (ms : List Mt) (w : World) (hL0 : 0 ≤ L) (hL1 : L ≤ 1048576) (hn : ms.length = n) (hr : HasM w a ms) (hf : FitM ms) (hmax : n ≤ maxLen) :
    Calls Tryz.prog 36 #[.slice a n c, .int .i64 L] w fun e w' => ∃ y : Int, e = .returned (.int .i64 y) ∧ -1 ≤ y ∧ (0 ≤ y → n ≤ 1048576) ∧ Below w.heap.size w w' := by
  unfold maxLen at hmax
  by_cases hbig : (n : Int) ≤ L
  · have HN := hid hn
    clear hn
    go_enter Tryz.func36, Tryz.ntmps36
    go_wp2
    go_loopw [1, 5] (fun sx i wr => ∃ (k : Nat) (x : Int), k ≤ n ∧ i = .int .i64 k ∧ sx = .int .i64 x ∧ 0 ≤ x ∧ x ≤ 1048576 ∧ Below w.heap.size w wr) (fun _ i _ => n - (intOf i).toNat)
    case atStart => exact ⟨0, _, Nat.zero_le _, rfl, rfl, by omega, by omega, Below.refl _ _⟩
    case round =>
      obtain ⟨k, x, hk, rfl, rfl, hx0, hx1, hb⟩ := hrel
      have HB := hid hb
      by_cases hlt : k < n
      · rcases hr with h | ⟨b, off, rfl, h2, h3⟩
        · exfalso; rw [h] at HN; have := HN.out; simp at this; omega
        obtain ⟨c0, c1, c2⟩ := h3 k (by rw [HN.out]; exact hlt)
        obtain ⟨g0, g1, _⟩ := hf k
        have d0 := (hb.cell (p := ⟨b, off + k * 3, none⟩) h2).trans c0
        have d1 := (hb.cell (p := ⟨b, off + k * 3 + 1, none⟩) h2).trans c1
        have d2 := (hb.cell (p := ⟨b, off + k * 3 + 2, none⟩) h2).trans c2
        clear h3 c0 c1 c2 hb
        generalize (ms.getD k Pat.m0).1 = s at *
        generalize (ms.getD k Pat.m0).2.1 = o at *
        generalize (ms.getD k Pat.m0).2.2 = t at *
        go_wp2_with fail
        refine (f62t s t o x _ g0 g1 hx0 hx1).mono ?_
        rintro e w2 ⟨y, rfl, y0, y1, hb2⟩
        have HB2 := hid (HB.out.trans (hb2.mono HB.out.size))
        clear hb2 d0 d1 d2
        by_cases hy : y < 0
        · go_wp2
          go_ret
          exact ⟨-1, rfl, by omega, fun h => absurd h (by omega), HB2.out⟩
        · go_wp2
          go_roundw
          case rel => exact ⟨k + 1, y, by omega, by go_num, rfl, by omega, y1, HB2.out⟩
          case measure => simp [intOf]; omega
      · go_wp2
        go_ret
        exact ⟨x, rfl, by omega, fun _ => by omega, HB.out⟩
  · go_enter Tryz.func36, Tryz.ntmps36
    go_wp2
    go_ret
    exact ⟨-1, rfl, by omega, by omega, Below.refl _ _⟩
set_option maxHeartbeats 2000000 in
theorem f31 (g n base k : Nat) (w : World) (xs : List Value) (hn : n ≤ 1048576) (hk : k + 3 * n ≤ 100000000) (ho : w.ownsRow base 75 3 (.slice (some ⟨g, 0, none⟩) n n) n xs) :
    Calls Tryz.prog 31 #[.slice (some ⟨g, 0, none⟩) n n, .int .i64 k] w fun e w' => e = .returned (.int .i64 ((k + 3 * n : Nat) : Int)) ∧ w.grownBy w' (some g) := by
  have H0 := hid ho
  clear ho
  go_enter Tryz.func31, Tryz.ntmps31
  go_wp2
  go_loopw [1, 5] (fun sk si wr => ∃ (i m : Nat) (ys : List Value), i ≤ n ∧ si = .int .i64 i ∧ sk = .int .i64 (m : Int) ∧ Hid (m = k + 3 * i) ∧ Hid (wr.ownsRow base 75 3 (.slice (some ⟨g, 0, none⟩) n n) n ys) ∧ Hid (w.grownBy wr (some g))) (fun _ si _ => n - (intOf si).toNat)
  case atStart => exact ⟨0, k, xs, Nat.zero_le _, rfl, rfl, rfl, H0.out, ⟨rfl, rfl, rfl, Nat.le_refl _, fun _ _ _ => rfl⟩⟩
  case round =>
    obtain ⟨i, m, ys, hi, rfl, rfl, hm, HO, HG⟩ := hrel
    by_cases hlt : i < n
    rotate_left
    · obtain rfl : i = n := by omega
      go_wp2
      go_ret
      exact ⟨by rw [← hm.out]; rfl, HG.out⟩
    have hm1 : m ≤ 99999997 := by have := hm.out; omega
    have HL : Hid (ys.length = n * 3) := HO.out.1
    go_wp2_with fail
    refine (Lab.f60 m _ (by omega)).mono ?_
    rintro e w2 ⟨rfl, hb2⟩
    have HO2 := hid (own_below HO.out hb2)
    have HG2 := hid (Lab.grown_trans HG.out (Lab.grown_below (some g) hb2))
    have fz := HO2.out.frozenAt (i * 3)
    obtain ⟨z, hz⟩ : ∃ z, w2.cell? ⟨g, i * 3, none⟩ = some z := ⟨ys[i * 3]'(by rw [HL.out]; omega), by rw [HO2.out.cellAt (i * 3) (by omega), List.getElem?_eq_getElem (by rw [HL.out]; omega)]⟩
    have HO3 := hid (HO2.out.stored (i * 3) (.string (Lab.mkT m))).1
    have HG3 := hid (Lab.grown_setRow (o := i * 3) HG2.out (.string (Lab.mkT m)))
    have fz3 := HO3.out.frozenAt (i * 3 + 1)
    obtain ⟨z3, hz3⟩ : ∃ z, w2.cell? ⟨g, i * 3 + 1, none⟩ = some z := ⟨ys[i * 3 + 1]'(by rw [HL.out]; omega), by rw [HO2.out.cellAt (i * 3 + 1) (by omega), List.getElem?_eq_getElem (by rw [HL.out]; omega)]⟩
    have fz2 := HO2.out.frozenAt (i * 3 + 1)
    have HO4 := hid (HO3.out.stored (i * 3 + 1) (.int .i64 ((m : Int) + 1))).1
    have HG4 := hid (Lab.grown_setRow (o := i * 3 + 1) HG3.out (.int .i64 ((m : Int) + 1)))
    clear hb2 fz3
    go_wp2_with fail
    refine (Lab.f60 (m + 2) _ (by omega)).mono ?_
    rintro e w5 ⟨rfl, hb5⟩
    have HO5 := hid (own_below HO4.out hb5)
    have HG5 := hid (Lab.grown_trans HG4.out (Lab.grown_below (some g) hb5))
    have fz5 := HO5.out.frozenAt (i * 3 + 2)
    obtain ⟨z5, hz5⟩ : ∃ z, w5.cell? ⟨g, i * 3 + 2, none⟩ = some z := ⟨((ys.set (i * 3) (.string (Lab.mkT m))).set (i * 3 + 1) (.int .i64 ((m : Int) + 1)))[i * 3 + 2]'(by rw [List.length_set, List.length_set, HL.out]; omega), by rw [HO5.out.cellAt (i * 3 + 2) (by omega), List.getElem?_eq_getElem (by rw [List.length_set, List.length_set, HL.out]; omega)]⟩
    have HO6 := hid (HO5.out.stored (i * 3 + 2) (.string (Lab.mkT (m + 2)))).1
    have HG6 := hid (Lab.grown_setRow (o := i * 3 + 2) HG5.out (.string (Lab.mkT (m + 2))))
    have HE : Hid (m + 3 = k + 3 * (i + 1)) := by unfold Hid; have := hm.out; omega
    clear hb5 fz hz fz2 hz3 z z3
    go_wp2
    go_roundw
    case rel => exact ⟨i + 1, m + 3, _, by omega, by go_num, by go_num, HE.out, HO6.out, HG6.out⟩
    case measure => simp [intOf]; omega
end Go.Proofs.YtaekngadfajcaaaGreat.Srs
