/- Both PlaceOfs; the walk of FnExactPlaceOf. -/
import Derived.Test.YtaghepbmhpcpmaaHl
namespace Go.Proofs.Ytaghepbmhpcpmaa.Lab
open Go.RowKit Go.Proofs.Ytaghepbmhpcpmaa.Str

theorem step_lo (x z : Int) : 0 ≤ step x z := bits_lo _ _ _
theorem step_hi (x z : Int) : step x z ≤ 18446744073709551615 := bits_hi _ _ _
theorem fold_b (l : List UInt8) : ∀ x : Int, 0 ≤ x → x ≤ 18446744073709551615 → 0 ≤ l.foldl (fun x z => step x z.toNat) x ∧ l.foldl (fun x z => step x z.toNat) x ≤ 18446744073709551615 := by
  induction l with
  | nil => intro x h1 h2; exact ⟨h1, h2⟩
  | cons z l ih => intro x h1 h2; exact ih _ (step_lo _ _) (step_hi _ _)
theorem mix_lo (zs : List UInt8) : 0 ≤ mix zs := by unfold mix upto; have := (fold_b (zs.take zs.length) 1469598103 (by omega) (by omega)).1; omega
theorem mix_hi (zs : List UInt8) : mix zs ≤ 9223372036854775807 := by unfold mix upto; have := (fold_b (zs.take zs.length) 1469598103 (by omega) (by omega)).2; omega
/-- The place of labels. -/
def plc (ls : List Lb) : Int := if goodL ls then mix (txtR ls) % 2147483648 else 0
set_option maxHeartbeats 1000000 in
theorem f5 (a : Option Addr) (n c : Nat) (ls : List Lb) (w : World) (hn : ls.length = n) (hmax : n ≤ 1048576) (hr : HasL w a ls) (hf : Fit ls) :
    Calls Try.prog 5 #[.slice a n c] w fun e w' => e = .returned (.int .i64 (plc ls)) ∧ Below w.heap.size w w' := by
  have HN := hid hn
  have HR := hid hr
  have HF := hid hf
  have HMX : Hid (n ≤ maxLen) := by unfold Hid maxLen; omega
  clear hn hr hf
  go_enter Try.func5, Try.ntmps5
  go_wp2_with fail
  refine (f10 a n c ls _ HN.out HMX.out HR.out HF.out).mono ?_
  rintro e w1 ⟨rfl, hb1⟩
  have HB1 := hid hb1
  clear hb1
  cases hg : goodL ls with
  | false =>
    have HE : Hid (plc ls = 0) := by unfold Hid plc; rw [hg]; rfl
    clear hg
    go_wp2
    go_ret
    exact ⟨by rw [HE.out]; rfl, HB1.out⟩
  | true =>
    have HE : Hid (plc ls = mix (txtR ls) % 2147483648) := by unfold Hid plc; rw [hg]; rfl
    clear hg
    go_wp2_with fail
    refine (f11 a n c ls _ HN.out hmax (HR.out.below HB1.out) HF.out).mono ?_
    rintro e w2 ⟨rfl, hb2⟩
    have HB2 := hid (HB1.out.trans (hb2.mono HB1.out.size))
    clear hb2
    have hlo := mix_lo (txtR ls)
    have hhi := mix_hi (txtR ls)
    generalize mix (txtR ls) = M at *
    go_wp2
    go_ret
    exact ⟨by rw [HE.out]; rfl, HB2.out⟩

set_option maxHeartbeats 1000000 in
theorem f7 (a : Option Addr) (n c : Nat) (ls : List Lb) (w : World) (hn : ls.length = n) (hmax : n ≤ 1048576) (hr : HasL w a ls) (hf : Fit ls) :
    Calls Try.prog 7 #[.slice a n c] w fun e w' => e = .returned (.int .i64 (plc ls)) ∧ Below w.heap.size w w' := by
  have HN := hid hn
  have HR := hid hr
  have HF := hid hf
  have HMX : Hid (n ≤ maxLen) := by unfold Hid maxLen; omega
  clear hn hr hf
  go_enter Try.func7, Try.ntmps7
  go_wp2_with fail
  refine (f13 a n c ls _ HN.out HMX.out HR.out HF.out).mono ?_
  rintro e w1 ⟨rfl, hb1⟩
  have HB1 := hid hb1
  clear hb1
  cases hg : goodL ls with
  | false =>
    have HE : Hid (plc ls = 0) := by unfold Hid plc; rw [hg]; rfl
    clear hg
    go_wp2
    go_ret
    exact ⟨by rw [HE.out]; rfl, HB1.out⟩
  | true =>
    have HE : Hid (plc ls = mix (txtR ls) % 2147483648) := by unfold Hid plc; rw [hg]; rfl
    clear hg
    go_wp2_with fail
    refine (f14 a n c ls _ HN.out hmax (HR.out.below HB1.out) HF.out).mono ?_
    rintro e w2 ⟨rfl, hb2⟩
    have HB2 := hid (HB1.out.trans (hb2.mono HB1.out.size))
    clear hb2
    have hlo := mix_lo (txtR ls)
    have hhi := mix_hi (txtR ls)
    generalize mix (txtR ls) = M at *
    go_wp2
    go_ret
    exact ⟨by rw [HE.out]; rfl, HB2.out⟩

set_option maxHeartbeats 1000000 in
theorem walkPlace (a : Option Addr) (n c : Nat) (ls : List Lb) (w : World) (hn : ls.length = n) (hmax : n ≤ maxLen) (hr : HasL w a ls) (hf : Fit ls) :
    Calls Try.prog 3 #[.slice a n c] w fun e w' => e = .returned (.bool true) ∧ Below w.heap.size w w' := by
  have HN := hid hn
  clear hn
  go_enter Try.func3, Try.ntmps3
  go_wp2_with fail
  refine (f4 a n c ls _ HN.out hr hf hmax).mono ?_
  rintro e w1 ⟨y, rfl, hy, y0, y1, hb1⟩
  have HB1 := hid hb1
  by_cases h0 : y < 0
  · go_wp2
    go_ret
    exact ⟨rfl, HB1.out⟩
  · have hbig := hy (by omega)
    have hr1 := hr.below hb1
    clear hy hb1
    go_wp2_with fail
    refine (f6 a n c ls _ HN.out hbig hr1).mono ?_
    rintro e w2 ⟨rfl, ho2, hb2⟩
    have HB2 := hid (HB1.out.trans (hb2.mono HB1.out.size))
    have hr2 := hr1.below hb2
    clear hb2
    go_wp2_with fail
    refine (f5 _ n n ls _ HN.out hbig (HasL.own ho2) hf).mono ?_
    rintro e w3 ⟨rfl, hb3⟩
    have HB3 := hid (HB2.out.trans (hb3.mono HB2.out.size))
    have hr3 := hr2.below hb3
    clear hb3 ho2
    go_wp2_with fail
    refine (f6 a n c ls _ HN.out hbig hr3).mono ?_
    rintro e w4 ⟨rfl, ho4, hb4⟩
    have HB4 := hid (HB3.out.trans (hb4.mono HB3.out.size))
    have hr4 := hr3.below hb4
    clear hb4
    go_wp2_with fail
    refine (f7 _ n n ls _ HN.out hbig (HasL.own ho4) hf).mono ?_
    rintro e w5 ⟨rfl, hb5⟩
    have HB5 := hid (HB4.out.trans (hb5.mono HB4.out.size))
    have hr5 := hr4.below hb5
    have hx5 := (HasL.own ho4).below hb5
    clear hb5 ho4
    go_wp2_with fail
    refine (f6 a n c ls _ HN.out hbig hr5).mono ?_
    rintro e w6 ⟨rfl, ho6, hb6⟩
    have HB6 := hid (HB5.out.trans (hb6.mono HB5.out.size))
    have hx6 := hx5.below hb6
    clear hb6
    go_wp2_with fail
    refine (f8 _ _ n n n ls _ HN.out hbig hx6 (HasL.own ho6)).mono ?_
    rintro e w7 ⟨rfl, hb7⟩
    have HB7 := hid (HB6.out.trans (hb7.mono HB6.out.size))
    clear hb7 ho6
    go_wp2
    go_ret
    exact ⟨rfl, HB7.out⟩
end Go.Proofs.Ytaghepbmhpcpmaa.Lab
