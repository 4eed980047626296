/- The walk of FnExactGoodShelf. -/
import Derived.Test.YtmgghnmlhkahnaaKc
import Derived.Test.YtmgghnmlhkahnaaKd
namespace Go.Proofs.Ytmgghnmlhkahnaa.Blk
open Go.RowKit
open Go.Proofs.Ytmgghnmlhkahnaa.Smp (In64 ret_bool)
open Go.Proofs.Ytmgghnmlhkahnaa.Srs (hid lt_at kept Q HasQ FitQ SmlQ)
theorem SameK.trans {n : Nat} {bs d e : List Bk} (s : SameK n bs d) (r : SameK n bs e) : SameK n d e := fun i hi => (s i hi).trans (r i hi)
/-- The argument, and a copy of it. -/
abbrev WK (w : World) (a : Option Addr) (bs : List Bk) (a' : Option Addr) (d : List Bk) (x : World) : Prop := HasK x a bs ∧ HasK x a' d ∧ Below w.heap.size w x
theorem WK.below {w : World} {a : Option Addr} {bs : List Bk} {a' : Option Addr} {d : List Bk} {x y : World} (h : WK w a bs a' d x) (hb : Below x.heap.size x y) : WK w a bs a' d y := ⟨h.1.below hb, h.2.1.below hb, h.2.2.trans (hb.mono h.2.2.size)⟩
set_option maxHeartbeats 4000000 in
theorem walkShelf (b : Int) (a : Option Addr) (n c : Nat) (bs : List Bk) (w : World) (hb0 : -9223372036854775808 ≤ b) (hb1 : b ≤ 9223372036854775807) (hn : bs.length = n) (hmax : n ≤ maxLen) (hr : HasK w a bs) (hf : FitK bs) :
    Calls Try.prog 3 #[.int .i64 b, .slice a n c] w fun e w' => e = .returned (.bool true) ∧ Below w.heap.size w w' := by
  have HN := hid hn
  have HR := hid hr
  have HF := hid hf
  have HM := hid hmax
  clear hn hr hf hmax
  go_enter Try.func3, Try.ntmps3
  go_wp2_with fail
  refine (f4 a n c 1048576 bs _ (by omega) (by omega) HN.out HR.out HF.out HM.out).mono ?_
  rintro e w1 ⟨y, rfl, y0, y1, hy, hb⟩
  have HB1 := hid hb
  have HR1 := hid (HR.out.below hb)
  clear hb HR
  by_cases g0 : y < 0
  · go_wp2
    go_ret
    exact ⟨rfl, HB1.out⟩
  have h1 := hy (by omega)
  have hle : n ≤ 1048576 := by omega
  have HZ : Hid (SmlK bs) := sml_totK (by rw [HN.out]; omega)
  clear h1 hy
  go_wp2_with fail
  refine (f6 a n c bs _ HN.out hle HR1.out HZ.out).mono ?_
  rintro e w2 ⟨d2, Z2, rfl, ho, hb⟩
  have HB2 := hid (HB1.out.trans (hb.mono HB1.out.size))
  have HR2 := hid (HR1.out.below hb)
  have HL2 := hid ho.kin.len
  have HS2 := hid ho.kin.same
  have HH2 := hid ho.has
  clear hb ho HB1 HR1
  generalize w1.heap.size = X1 at *
  go_wp2_with fail
  refine (f5 b _ n n d2 _ hb0 hb1 HL2.out hle HH2.out (HS2.out.fit HL2.out HF.out) (HS2.out.sml HL2.out HN.out HZ.out)).mono ?_
  rw [HS2.out.gd HN.out HL2.out]
  rintro e w3 ⟨rfl, hb⟩
  have HB3 := hid (HB2.out.trans (hb.mono HB2.out.size))
  have HR3 := hid (HR2.out.below hb)
  clear hb HB2 HR2 HL2 HS2 HH2
  go_wp2_with fail
  refine (f6 a n c bs _ HN.out hle HR3.out HZ.out).mono ?_
  rintro e w4 ⟨d4, Z4, rfl, ho, hb⟩
  have HB4 := hid (HB3.out.trans (hb.mono HB3.out.size))
  have HR4 := hid (HR3.out.below hb)
  have HL4 := hid ho.kin.len
  have HS4 := hid ho.kin.same
  have HH4 := hid ho.has
  clear hb ho HB3 HR3
  generalize w3.heap.size = X3 at *
  go_wp2_with fail
  refine (f7 b _ n n d4 _ hb0 hb1 HL4.out hle HH4.out (HS4.out.fit HL4.out HF.out) (HS4.out.sml HL4.out HN.out HZ.out)).mono ?_
  rw [HS4.out.gd HN.out HL4.out]
  rintro e w5 ⟨rfl, hb⟩
  have HK5 : Hid (WK w a bs (some ⟨X3, 0, none⟩) d4 w5) := ⟨HR4.out.below hb, HH4.out.below hb, HB4.out.trans (hb.mono HB4.out.size)⟩
  clear hb HB4 HR4 HH4
  cases gdK b bs
  all_goals
    go_wp2_with fail
    refine (f6 a n c bs _ HN.out hle HK5.out.1 HZ.out).mono ?_
    rintro e w6 ⟨d6, Z6, rfl, ho, hb⟩
    have HK6 := hid (HK5.out.below hb)
    have HL6 := hid ho.kin.len
    have HS6 := hid (HS4.out.trans ho.kin.same)
    have HH6 := hid ho.has
    clear hb ho HK5
    generalize w5.heap.size = X5 at *
    go_wp2_with fail
    refine (f8 _ _ n n n d4 d6 _ HL4.out HL6.out hle HK6.out.2.1 HH6.out HS6.out (HS4.out.sml HL4.out HN.out HZ.out)).mono ?_
    rintro e w7 ⟨rfl, hb⟩
    have HK7 := hid (HK6.out.below hb)
    clear hb HK6 HH6
    go_wp2
    go_ret
    exact ⟨rfl, HK7.out.2.2⟩
end Go.Proofs.Ytmgghnmlhkahnaa.Blk
