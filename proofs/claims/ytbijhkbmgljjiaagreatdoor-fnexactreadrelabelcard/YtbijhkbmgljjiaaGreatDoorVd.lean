/- The program's quotedBehind and words. -/
import Derived.Test.YtbijhkbmgljjiaaGreatDoorVc
import Derived.Test.YtbijhkbmgljjiaaGreatDoorPaj
import Derived.Test.YtbijhkbmgljjiaaGreatDoorTx
namespace Go.Proofs.YtbijhkbmgljjiaaGreatDoor.Rdd
open Go.RowKit Go.Proofs.YtbijhkbmgljjiaaGreatDoor.Pat

theorem f37 (R : Nat) (s v : ByteArray) (l : List UInt8) (w : World) (hs : s.size ≤ 1048576) (hv : v.size ≤ 100) (h : Rd R s l w) : Calls Tryz.prog 37 #[.pointer (some ⟨R, 0, none⟩), .string v] w (QuL R s (Rel.beh v.data.toList l) w) := by
  have HR := hid h
  clear h
  cases hq : Rel.sgn v.data.toList l with
  | none =>
    have HB : Hid (Rel.beh v.data.toList l = some ([], l)) := by unfold Hid Rel.beh; rw [hq]
    have HQ := hid hq
    clear hq
    go_enter Tryz.func37, Tryz.ntmps37
    go_wp2_with fail
    refine (f35N R s v l _ hs hv HR.out HQ.out).mono ?_
    rintro e w1 ⟨rfl, hr1, hg1⟩
    have H1 := hid hr1
    have G1 := hid hg1
    clear hr1 hg1
    go_wp2
    go_ret2
    exact ⟨G1.out, .inr ⟨[], l, HB.out, rfl, H1.out, by simp⟩⟩
  | some l' =>
    have HB : Hid (Rel.beh v.data.toList l = Rel.quo l') := by unfold Hid Rel.beh; rw [hq]
    have HQ := hid hq
    clear hq
    go_enter Tryz.func37, Tryz.ntmps37
    go_wp2_with fail
    refine (f35Y R s v l l' _ hs hv HR.out HQ.out).mono ?_
    rintro e w1 ⟨rfl, hr1, hg1⟩
    have H1 := hid hr1
    have G1 := hid hg1
    clear hr1 hg1
    go_wp2_with fail
    refine (f50L R s l' _ hs H1.out).mono ?_
    rintro e w2 ⟨hg2, h2⟩
    have G2 := hid (Lib.grownBy_trans G1.out hg2)
    clear hg2
    rcases h2 with ⟨hn, rfl, h3⟩ | ⟨u, k, hn, rfl, h3, h4⟩
    · have H3 := hid h3
      have HN := hid hn
      clear h3 hn
      go_wp2
      go_ret2
      exact ⟨G2.out, .inl ⟨HB.out.trans HN.out, rfl, H3.out⟩⟩
    · have H3 := hid h3
      have H4 := hid h4
      have HN := hid hn
      clear h3 hn h4
      go_wp2
      go_ret2
      exact ⟨G2.out, .inr ⟨u, k, HB.out.trans HN.out, rfl, H3.out, H4.out⟩⟩
end Go.Proofs.YtbijhkbmgljjiaaGreatDoor.Rdd
