/- Templates filled: the walk of FnExactFillTemplate. -/
import Derived.Test.YtpeffjkagaegjaaDoorGte
namespace Go.Proofs.YtpeffjkagaegjaaDoor.Tpl
open Go.RowKit Go.Proofs.YtpeffjkagaegjaaDoor.Pat Go.Proofs.YtpeffjkagaegjaaDoor.Rdd
open Lab (Lb HasL OfV GoodP)
open Unt (Pow)
theorem str_same (s : ByteArray) : (s.toList != s.toList) = false := by simp
set_option maxHeartbeats 4000000 in
theorem walkFT (s : ByteArray) (a : Option Addr) (n c : Nat) (ls : List Lb) (v : Int) (w : World) (hs : s.size ≤ maxLen) (hn : ls.length = n) (hmax : n ≤ maxLen) (hr : HasL w a ls) (hf : Lab.Fit ls) (h0 : -9223372036854775808 ≤ v) (h1 : v ≤ 9223372036854775807) (hpw : Pow w) : Calls Tryd.prog 3 #[.string s, .slice a n c, .int .i64 v] w fun e w' => e = .returned (.bool true) ∧ Below w.heap.size w w' := by
  have hs' := hs
  unfold maxLen at hs'
  obtain ⟨val, hval⟩ := Lab.vals ls
  have HN := hid hn
  have HR := hid hr
  have HP := hid hpw
  have HV := hid hval
  clear hn hr hpw hval
  by_cases hbig : 1048576 < s.size
  · go_enter Tryd.func3, Tryd.ntmps3
    go_wp2
    go_ret
    exact ⟨rfl, Below.refl _ _⟩
  go_enter Tryd.func3, Tryd.ntmps3
  go_wp2_with fail
  refine (Lab.f4 a n c ls _ HN.out HR.out hf hmax).mono ?_
  rintro e w1 ⟨y, rfl, hy, y0, y1, hb1⟩
  have HB1 := hid hb1
  clear hb1
  by_cases h0' : y < 0
  · go_wp2
    go_ret
    exact ⟨rfl, HB1.out⟩
  have hbig' := hy (by omega)
  clear hy
  go_wp2_with fail
  refine (Lab.f6 a n c ls _ HN.out hbig' (HR.out.below HB1.out)).mono ?_
  rintro e w2 ⟨rfl, ho2, hb2⟩
  have HB2 := hid (HB1.out.trans (hb2.mono HB1.out.size))
  have A2 := hid (Lab.HasL.own ho2)
  clear hb2 ho2
  go_wp2_with fail
  refine (f5 s _ n n ls val v _ hs HN.out hmax A2.out hf HV.out h0 h1).mono ?_
  rintro e w3 ⟨rfl, hb3⟩
  have HB3 := hid (HB2.out.trans (hb3.mono HB2.out.size))
  clear hb3 A2
  go_wp2_with fail
  refine (Lab.f6 a n c ls _ HN.out hbig' (HR.out.below HB3.out)).mono ?_
  rintro e w4 ⟨rfl, ho4, hb4⟩
  have HB4 := hid (HB3.out.trans (hb4.mono HB3.out.size))
  have A4 := hid (Lab.HasL.own ho4)
  clear hb4 ho4
  go_wp2_with fail
  refine (f7 s _ n n ls val v _ hs HN.out hmax A4.out hf HV.out h0 h1 (HP.out.below HB4.out)).mono ?_
  rintro e w5 ⟨rfl, hb5⟩
  have HB5 := hid (HB4.out.trans (hb5.mono HB4.out.size))
  have A5 := hid (A4.out.below hb5)
  clear hb5 A4
  have hq := str_same (Unt.mkS (fillR val v s (Lab.goodL ls)))
  go_wp2_with fail
  refine (Lab.f6 a n c ls _ HN.out hbig' (HR.out.below HB5.out)).mono ?_
  rintro e w6 ⟨rfl, ho6, hb6⟩
  have HB6 := hid (HB5.out.trans (hb6.mono HB5.out.size))
  have A6 := hid (Lab.HasL.own ho6)
  have B6 := hid (A5.out.below hb6)
  clear hb6 ho6 A5
  go_wp2_with fail
  refine (Lab.f8 _ _ n n n ls _ HN.out hbig' B6.out A6.out).mono ?_
  rintro e w7 ⟨rfl, hb7⟩
  have HB7 := hid (HB6.out.trans (hb7.mono HB6.out.size))
  clear hb7
  go_wp2
  go_ret
  exact ⟨rfl, HB7.out⟩
end Go.Proofs.YtpeffjkagaegjaaDoor.Tpl
