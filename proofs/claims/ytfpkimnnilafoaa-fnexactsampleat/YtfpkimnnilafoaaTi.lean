/- SampleAt of the model and of the program, and the walk. -/
import Derived.Test.YtfpkimnnilafoaaTh
namespace Go.Proofs.Ytfpkimnnilafoaa.Smp
open Go.RowKit

theorem atA_no {ls : List Sm} {t l : Int} (h : ¬ (GoodP ls ∧ TimeP t ∧ TimeP l)) : atA ls t l = (e0, false) := if_neg h
theorem atA_yes {ls : List Sm} {t l : Int} (h1 : GoodP ls) (h2 : TimeP t) (h3 : TimeP l) : atA ls t l = atS ls (t - l) t := if_pos ⟨h1, h2, h3⟩
theorem below_two' {B : Nat} {w w1 : World} (x y : Value) (h : Below B w w1) {b : Nat} (hb : B ≤ b) : Below B w ((w1.setCell ⟨b, 0, none⟩ x).setCell ⟨b, 1, none⟩ y) := (h.setCell (p := ⟨b, 0, none⟩) hb x).setCell (p := ⟨b, 1, none⟩) hb y

set_option maxHeartbeats 2000000 in
theorem f5 (a : Option Addr) (c : Nat) (ls : List Sm) (t l : Int) (w : World) (h20 : ls.length ≤ 1048576) (hr : HasS w a ls) :
    Calls Try.prog 5 #[.slice a ls.length c, .int .i64 t, .int .i64 l] w fun e w' => e = .returned (tupS (atA ls t l)) ∧ Below w.heap.size w w' := by
  have HR := hid hr
  have HB0 := hid ((Below.refl w.heap.size w).alloc (Nat.le_refl _) (.cells #[.int .i64 0, .int .i64 0] 25))
  have HX0 := hid (heap_alloc_new w (.cells #[.int .i64 0, .int .i64 0] 25))
  have HN := hid (atA_no (ls := ls) (t := t) (l := l))
  clear hr
  go_enter Try.func5, Try.ntmps5
  go_wp2_with fail
  refine (f10 a c ls _ h20 (HR.out.below HB0.out)).mono ?_
  rintro e w1 ⟨rfl, hb1⟩
  have HB1 := hid (HB0.out.trans (hb1.mono HB0.out.size))
  have hx := box_below HX0.out hb1
  have HX1 := hid hx
  have x0 := two0 hx
  have x1 := two1 hx
  have f0 := twof (o := 0) hx rfl
  have f1 := twof (o := 1) hx rfl
  have lx : w.heap.size < w1.heap.size := (Array.getElem?_eq_some_iff.1 hx).1
  clear hb1 hx
  have Y0 : Hid (∀ x y, ((w1.setCell ⟨w.heap.size, 0, none⟩ x).setCell ⟨w.heap.size, 1, none⟩ y).cell? ⟨w.heap.size, 0, none⟩ = some x) := fun x y => two0 (two_set x y HX1.out)
  have Y1 : Hid (∀ x y, ((w1.setCell ⟨w.heap.size, 0, none⟩ x).setCell ⟨w.heap.size, 1, none⟩ y).cell? ⟨w.heap.size, 1, none⟩ = some y) := fun x y => two1 (two_set x y HX1.out)
  by_cases hg : GoodP ls
  · have hd : goodS ls = true := decide_eq_true hg
    have HG := hid hg
    rw [hd]
    clear hg hd
    by_cases h1 : TimeP t
    · by_cases h2 : TimeP l
      · have hd1 := decide_eq_true h1
        have hd2 := decide_eq_true h2
        have HE := hid ((at_eq HG.out (t - l) t).trans (atA_yes HG.out h1 h2).symm)
        have HT := hid h1
        have HL := hid h2
        clear h1 h2
        go_wp2_with (go_at_call 11; refine (f11 _ _).mono ?_; rintro e w' ⟨rfl, rfl⟩)
        refine (f12 a c ls t l _ h20 (HR.out.below HB1.out) HT.out HL.out).mono ?_
        rintro e w2 ⟨rfl, hb2⟩
        have HB2 := hid (HB1.out.trans (hb2.mono HB1.out.size))
        have hx := box_below HX1.out hb2
        have HX2 := hid hx
        have x0 := two0 hx
        have x1 := two1 hx
        have f0 := twof (o := 0) hx rfl
        have f1 := twof (o := 1) hx rfl
        rw [HE.out]
        generalize hA : atA ls t l = r at *
        have HA := hid hA
        clear hA
        obtain ⟨⟨rs, rv⟩, rb⟩ := r
        have Y0 : Hid (∀ x y, ((w2.setCell ⟨w.heap.size, 0, none⟩ x).setCell ⟨w.heap.size, 1, none⟩ y).cell? ⟨w.heap.size, 0, none⟩ = some x) := fun x y => two0 (two_set x y HX2.out)
        have Y1 : Hid (∀ x y, ((w2.setCell ⟨w.heap.size, 0, none⟩ x).setCell ⟨w.heap.size, 1, none⟩ y).cell? ⟨w.heap.size, 1, none⟩ = some y) := fun x y => two1 (two_set x y HX2.out)
        clear hb2 hx
        unfold tupS
        go_wp2
        refine bodyPost_ret (v := tupS ((rs, rv), rb)) (by simp [results, Try.results5, go_sem, Y0.out, Y1.out, tupS]) rfl ⟨by rw [HA.out], below_two _ _ HB2.out⟩
      · have hd1 := decide_eq_true h1
        have hd2 := decide_eq_false h2
        have HE := hid (HN.out (fun h => h2 h.2.2))
        clear h1 h2
        go_wp2_with (go_at_call 11; refine (f11 _ _).mono ?_; rintro e w' ⟨rfl, rfl⟩)
        refine bodyPost_ret (v := tupS (e0, false)) (by simp [results, Try.results5, go_sem, Y0.out, Y1.out, tupS, e0]) rfl ⟨by rw [HE.out], below_two _ _ HB1.out⟩
    · have hd1 := decide_eq_false h1
      have HE := hid (HN.out (fun h => h1 h.2.1))
      clear h1
      go_wp2_with (go_at_call 11; refine (f11 _ _).mono ?_; rintro e w' ⟨rfl, rfl⟩)
      refine bodyPost_ret (v := tupS (e0, false)) (by simp [results, Try.results5, go_sem, Y0.out, Y1.out, tupS, e0]) rfl ⟨by rw [HE.out], below_two _ _ HB1.out⟩
  · have hd : goodS ls = false := decide_eq_false hg
    have HE := hid (HN.out (fun h => hg h.1))
    rw [hd]
    clear hg hd
    go_wp2
    refine bodyPost_ret (v := tupS (e0, false)) (by simp [results, Try.results5, go_sem, Y0.out, Y1.out, tupS, e0]) rfl ⟨by rw [HE.out], below_two _ _ HB1.out⟩

set_option maxHeartbeats 2000000 in
/-- What lies near a time of good samples. -/
theorem f16 (a : Option Addr) (c : Nat) (ls : List Sm) (t l : Int) (w : World) (h20 : ls.length ≤ 1048576) (hr : HasS w a ls) (hc : ls.length ≤ c) (hg : GoodP ls) (ht0 : 0 ≤ t) (ht1 : t ≤ 1000000000000) (hl0 : 0 ≤ l) (hl1 : l ≤ 1000000000000) :
    Calls Try.prog 16 #[.slice a ls.length c, .int .i64 t, .int .i64 l] w fun e w' => e = .returned (tupS (atS ls (t - l) t)) ∧ Below w.heap.size w w' := by
  have HR := hid hr
  have HG := hid hg
  have HB0 := hid ((Below.refl w.heap.size w).alloc (Nat.le_refl _) (.cells #[.int .i64 0, .int .i64 0] 25))
  have HX0 := hid (heap_alloc_new w (.cells #[.int .i64 0, .int .i64 0] 25))
  clear hr hg
  go_enter Try.func16, Try.ntmps16
  go_wp2_with fail
  refine (f18 a c ls (t - l) t _ HG.out (HR.out.below HB0.out) hc).mono ?_
  rintro e w2 ⟨v, rfl, hp, hb2⟩
  have HB2 := hid (HB0.out.trans (hb2.mono HB0.out.size))
  have hx := box_below HX0.out hb2
  have HX2 := hid hx
  have x0 := two0 hx
  have x1 := two1 hx
  have f0 := twof (o := 0) hx rfl
  have f1 := twof (o := 1) hx rfl
  have Y0 : Hid (∀ x y, ((w2.setCell ⟨w.heap.size, 0, none⟩ x).setCell ⟨w.heap.size, 1, none⟩ y).cell? ⟨w.heap.size, 0, none⟩ = some x) := fun x y => two0 (two_set x y HX2.out)
  have Y1 : Hid (∀ x y, ((w2.setCell ⟨w.heap.size, 0, none⟩ x).setCell ⟨w.heap.size, 1, none⟩ y).cell? ⟨w.heap.size, 1, none⟩ = some y) := fun x y => two1 (two_set x y HX2.out)
  have HF : Hid (atS ls (t - l) t = if (cut ls (t - l) t).length = 0 ∨ (lastS (cut ls (t - l) t)).2 = stale then (e0, false) else (lastS (cut ls (t - l) t), true)) := rfl
  have HL := hid (Nat.le_trans (cut_len ls (t - l) t) h20)
  clear hb2 hx
  generalize cut ls (t - l) t = S at *
  have hs2 := HL.out
  rcases hp with ⟨rfl, rfl⟩ | ⟨hpos, b, off, rfl, hr2⟩
  · have HE : Hid (atS ls (t - l) t = (e0, false)) := by unfold Hid; rw [HF.out, if_pos (.inl rfl)]
    go_wp2
    refine bodyPost_ret (v := tupS (e0, false)) (by simp [results, Try.results16, go_sem, Y0.out, Y1.out, tupS, e0]) rfl ⟨by rw [HE.out], below_two _ _ HB2.out⟩
  · obtain ⟨b', off', hbo, hb, d0, d1⟩ := has_last hr2 hpos
    simp only [Option.some.injEq, Addr.mk.injEq, and_true] at hbo
    obtain ⟨rfl, rfl⟩ := hbo
    have hk : ((S.length : Int) - 1) = ((S.length - 1 : Nat) : Int) := by omega
    have i1 : ((S.length - 1 : Nat) : Int) < (S.length : Int) := by omega
    have hl0 : ¬ S.length = 0 := by omega
    have HNE := hid hl0
    generalize hp : lastS S = p at *
    obtain ⟨ps, pv⟩ := p
    generalize hm : S.length - 1 = m at *
    simp only at d0 d1 HF
    clear hp hm hr2
    have h0' : ((S.length : Int) == 0) = false := beq_eq_false_iff_ne.2 (by omega)
    by_cases h2 : pv = -9223372036854775808
    · have HE : Hid (atS ls (t - l) t = (e0, false)) := by unfold Hid; rw [HF.out, if_pos (.inr h2)]
      subst h2
      go_wp2
      refine bodyPost_ret (v := tupS (e0, false)) (by simp [results, Try.results16, go_sem, Y0.out, Y1.out, tupS, e0]) rfl ⟨by rw [HE.out], below_two _ _ HB2.out⟩
    · have HE : Hid (atS ls (t - l) t = ((ps, pv), true)) := by unfold Hid; rw [HF.out, if_neg (by intro h; rcases h with h | h <;> contradiction)]
      have h2' : (pv == -9223372036854775808) = false := by simpa using h2
      go_wp2
      refine bodyPost_ret (v := tupS ((ps, pv), true)) (by simp [results, Try.results16, go_sem, Y0.out, Y1.out, tupS]) rfl ⟨by rw [HE.out], below_two _ _ HB2.out⟩
set_option maxHeartbeats 2000000 in
theorem f7 (a : Option Addr) (c : Nat) (ls : List Sm) (t l : Int) (w : World) (h20 : ls.length ≤ 1048576) (hr : HasS w a ls) (hc : ls.length ≤ c) :
    Calls Try.prog 7 #[.slice a ls.length c, .int .i64 t, .int .i64 l] w fun e w' => e = .returned (tupS (atA ls t l)) ∧ Below w.heap.size w w' := by
  have HR := hid hr
  have HMX : Hid (ls.length ≤ maxLen) := by unfold Hid maxLen; omega
  have HB0 := hid ((Below.refl w.heap.size w).alloc (Nat.le_refl _) (.cells #[.int .i64 0, .int .i64 0] 25))
  have HX0 := hid (heap_alloc_new w (.cells #[.int .i64 0, .int .i64 0] 25))
  have HN := hid (atA_no (ls := ls) (t := t) (l := l))
  clear hr
  go_enter Try.func7, Try.ntmps7
  go_wp2_with fail
  refine (f14 a c ls _ HMX.out (HR.out.below HB0.out)).mono ?_
  rintro e w1 ⟨rfl, hb1⟩
  have HB1 := hid (HB0.out.trans (hb1.mono HB0.out.size))
  have hx := box_below HX0.out hb1
  have HX1 := hid hx
  have x0 := two0 hx
  have x1 := two1 hx
  have f0 := twof (o := 0) hx rfl
  have f1 := twof (o := 1) hx rfl
  have lx : w.heap.size < w1.heap.size := (Array.getElem?_eq_some_iff.1 hx).1
  clear hb1 hx
  have Y0 : Hid (∀ x y, ((w1.setCell ⟨w.heap.size, 0, none⟩ x).setCell ⟨w.heap.size, 1, none⟩ y).cell? ⟨w.heap.size, 0, none⟩ = some x) := fun x y => two0 (two_set x y HX1.out)
  have Y1 : Hid (∀ x y, ((w1.setCell ⟨w.heap.size, 0, none⟩ x).setCell ⟨w.heap.size, 1, none⟩ y).cell? ⟨w.heap.size, 1, none⟩ = some y) := fun x y => two1 (two_set x y HX1.out)
  by_cases hg : GoodP ls
  · have hd : goodS ls = true := decide_eq_true hg
    have HG := hid hg
    rw [hd]
    clear hg hd
    by_cases h1 : TimeP t
    · by_cases h2 : TimeP l
      · have hd1 := decide_eq_true h1
        have hd2 := decide_eq_true h2
        have HE := hid (atA_yes HG.out h1 h2)
        obtain ⟨ht0, ht1⟩ := id h1
        obtain ⟨hl0, hl1⟩ := id h2
        clear h1 h2
        go_wp2_with (go_at_call 15; refine (f15 _ _).mono ?_; rintro e w' ⟨rfl, rfl⟩)
        refine (f16 a c ls t l _ h20 (HR.out.below HB1.out) hc HG.out ht0 ht1 hl0 hl1).mono ?_
        rintro e w2 ⟨rfl, hb2⟩
        have HB2 := hid (HB1.out.trans (hb2.mono HB1.out.size))
        have hx := box_below HX1.out hb2
        have HX2 := hid hx
        have x0 := two0 hx
        have x1 := two1 hx
        have f0 := twof (o := 0) hx rfl
        have f1 := twof (o := 1) hx rfl
        have Y0 : Hid (∀ x y, ((w2.setCell ⟨w.heap.size, 0, none⟩ x).setCell ⟨w.heap.size, 1, none⟩ y).cell? ⟨w.heap.size, 0, none⟩ = some x) := fun x y => two0 (two_set x y HX2.out)
        have Y1 : Hid (∀ x y, ((w2.setCell ⟨w.heap.size, 0, none⟩ x).setCell ⟨w.heap.size, 1, none⟩ y).cell? ⟨w.heap.size, 1, none⟩ = some y) := fun x y => two1 (two_set x y HX2.out)
        clear hb2 hx
        generalize atS ls (t - l) t = r at *
        obtain ⟨⟨rs, rv⟩, rb⟩ := r
        unfold tupS
        go_wp2
        refine bodyPost_ret (v := tupS ((rs, rv), rb)) (by simp [results, Try.results7, go_sem, Y0.out, Y1.out, tupS]) rfl ⟨by rw [HE.out], below_two _ _ HB2.out⟩
      · have hd1 := decide_eq_true h1
        have hd2 := decide_eq_false h2
        have HE := hid (HN.out (fun h => h2 h.2.2))
        clear h1 h2
        go_wp2_with (go_at_call 15; refine (f15 _ _).mono ?_; rintro e w' ⟨rfl, rfl⟩)
        refine bodyPost_ret (v := tupS (e0, false)) (by simp [results, Try.results7, go_sem, Y0.out, Y1.out, tupS, e0]) rfl ⟨by rw [HE.out], below_two _ _ HB1.out⟩
    · have hd1 := decide_eq_false h1
      have HE := hid (HN.out (fun h => h1 h.2.1))
      clear h1
      go_wp2_with (go_at_call 15; refine (f15 _ _).mono ?_; rintro e w' ⟨rfl, rfl⟩)
      refine bodyPost_ret (v := tupS (e0, false)) (by simp [results, Try.results7, go_sem, Y0.out, Y1.out, tupS, e0]) rfl ⟨by rw [HE.out], below_two _ _ HB1.out⟩
  · have hd : goodS ls = false := decide_eq_false hg
    have HE := hid (HN.out (fun h => hg h.1))
    rw [hd]
    clear hg hd
    go_wp2
    refine bodyPost_ret (v := tupS (e0, false)) (by simp [results, Try.results7, go_sem, Y0.out, Y1.out, tupS, e0]) rfl ⟨by rw [HE.out], below_two _ _ HB1.out⟩

set_option maxHeartbeats 2000000 in
theorem walkAt (a : Option Addr) (c : Nat) (ls : List Sm) (t l : Int) (w : World) (hmax : ls.length ≤ maxLen) (hr : HasS w a ls) :
    Calls Try.prog 3 #[.slice a ls.length c, .int .i64 t, .int .i64 l] w fun e w' => e = .returned (.bool true) ∧ Below w.heap.size w w' := by
  have HM := hid hmax
  have HR := hid hr
  clear hmax hr
  by_cases hbig : ls.length ≤ 1048576
  · have hif : (if (1048576 : Int) < (ls.length : Int) then (-1 : Int) else 1048576 - (ls.length : Int)) = 1048576 - (ls.length : Int) := if_neg (by omega)
    go_enter Try.func3, Try.ntmps3
    go_wp2_with fail
    refine (f4 a ls.length c 1048576 _ HM.out (by omega) (by omega)).mono ?_
    rw [hif]
    rintro e w1 ⟨rfl, rfl⟩
    clear hif
    go_wp2_with fail
    refine (f6 a c ls _ hbig HR.out).mono ?_
    rintro e w2 ⟨rfl, ho2, hb2⟩
    have HB2 := hid hb2
    have A2 := hid (Own.to ho2).has.2
    clear hb2 ho2
    go_wp2_with fail
    refine (f5 _ _ ls t l _ hbig A2.out).mono ?_
    rintro e w3 ⟨rfl, hb3⟩
    generalize hsel : atA ls t l = r at *
    obtain ⟨⟨rs, rv⟩, rb⟩ := r
    have HS := hid hsel
    clear hsel
    have HB3 := hid (HB2.out.trans (hb3.mono HB2.out.size))
    clear hb3 A2
    unfold tupS
    have HB3' := hid (HB3.out.alloc HB3.out.size (.cells #[.int .i64 rs, .int .i64 rv] 25))
    have HX3 := hid (heap_alloc_new w3 (.cells #[.int .i64 rs, .int .i64 rv] 25))
    go_wp2_with fail
    refine (f6 a c ls _ hbig (HR.out.below HB3'.out)).mono ?_
    rintro e w4 ⟨rfl, ho4, hb4⟩
    have HB4 := hid (HB3'.out.trans (hb4.mono HB3'.out.size))
    simp only [World.size_alloc] at ho4
    have X4 := hid (Own.to ho4)
    have HX4 := hid (box_below HX3.out hb4)
    clear hb4 ho4 HX3 HB3'
    go_wp2_with fail
    refine (f7 _ _ ls t l _ hbig X4.out.has.2 (Nat.le_refl _)).mono ?_
    rintro e w5 ⟨rfl, hb5⟩
    rw [HS.out]
    have HB5 := hid (HB4.out.trans (hb5.mono HB4.out.size))
    have X5 := hid (X4.out.below hb5)
    have hx5 := box_below HX4.out hb5
    have l5 : w3.heap.size < w5.heap.size := (Array.getElem?_eq_some_iff.1 hx5).1
    have x0 := two0 hx5
    have x1 := two1 hx5
    have HA5 := hid ((Below.refl w5.heap.size w5).alloc (Nat.le_refl _) (.cells #[.int .i64 rs, .int .i64 rv] 25))
    have HB5' := hid (HB5.out.trans (HA5.out.mono HB5.out.size))
    have X5' := hid (X5.out.below HA5.out)
    clear hb5 hx5 X4 HX4 X5
    unfold tupS
    go_wp2_with fail
    refine (f8 rs rv _).mono ?_
    rintro e w6 ⟨rfl, hb6⟩
    have HB6 := hid (HB5'.out.trans (hb6.mono HB5'.out.size))
    have X6 := hid (X5'.out.below hb6)
    clear hb6 X5'
    go_wp2_with fail
    refine (f6 a c ls _ hbig (HR.out.below HB6.out)).mono ?_
    rintro e w7 ⟨rfl, ho7, hb7⟩
    have HB7 := hid (HB6.out.trans (hb7.mono HB6.out.size))
    have X7 := hid (X6.out.below hb7)
    have T7 := hid (Own.to ho7)
    clear hb7 ho7 X6
    go_wp2_with fail
    refine (eqO hbig X7.out T7.out).mono ?_
    rintro e w8 ⟨rfl, hb8⟩
    have HB8 := hid (HB7.out.trans (hb8.mono HB7.out.size))
    clear hb8
    go_wp2
    go_ret
    exact ⟨rfl, HB8.out⟩
  · have hif : (if (1048576 : Int) < (ls.length : Int) then (-1 : Int) else 1048576 - (ls.length : Int)) = -1 := if_pos (by omega)
    go_enter Try.func3, Try.ntmps3
    go_wp2_with fail
    refine (f4 a ls.length c 1048576 _ HM.out (by omega) (by omega)).mono ?_
    rw [hif]
    rintro e w1 ⟨rfl, rfl⟩
    go_wp2
    go_ret
    exact ⟨rfl, Below.refl _ _⟩
end Go.Proofs.Ytfpkimnnilafoaa.Smp
