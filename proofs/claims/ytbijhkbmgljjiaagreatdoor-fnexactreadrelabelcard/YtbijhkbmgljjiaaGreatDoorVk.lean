/- The model's l2Head and l4Take. -/
import Derived.Test.YtbijhkbmgljjiaaGreatDoorVj
import Derived.Test.YtbijhkbmgljjiaaGreatDoorVg
namespace Go.Proofs.YtbijhkbmgljjiaaGreatDoor.Rdd
open Go.RowKit Go.Proofs.YtbijhkbmgljjiaaGreatDoor.Pat

theorem sg_pfx (v : ByteArray) (l : List UInt8) : sg v.data.toList l = pfx l v := by
  unfold sg; rw [sgn_pfx]
  cases pfx l v <;> rfl
theorem f12 (u v : ByteArray) (w : World) (_hu : u.size ≤ 1048576) (_hv : v.size ≤ 1000) : Calls Tryz.prog 12 #[.string u, .string v] w fun e w' => e = .returned (.bool (sg v.data.toList u.data.toList)) ∧ w' = w := by
  rw [sg_pfx]
  by_cases h0 : v.size ≤ u.size
  · have HE := hid (pfx_take u v)
    go_enter Tryz.func12, Tryz.ntmps12
    go_wp2
    go_ret
    exact ⟨ret_bool HE.out, rfl⟩
  · have HE := hid (pfx_short u v h0)
    go_enter Tryz.func12, Tryz.ntmps12
    go_wp2
    go_ret
    exact ⟨ret_bool HE.out.symm, rfl⟩
/-- What the call of l4Take leaves. -/
def TkR (u : ByteArray) (q : Option (List UInt8 × List UInt8)) (w : World) (e : Ending) (w' : World) : Prop :=
  Below w.heap.size w w' ∧ ((q = none ∧ e = .returned (.tuple #[.string ⟨#[]⟩, .string ⟨#[]⟩, .bool false])) ∨ ∃ v l', q = some (v, l') ∧ e = .returned (.tuple #[.string (mkS v), .string (mkS l'), .bool true]) ∧ v.length ≤ u.size ∧ l'.length ≤ u.size)
theorem mk_self (s : ByteArray) : mkS s.data.toList = s := rfl
theorem f14 (u v : ByteArray) (w : World) (hu : u.size ≤ 1048576) (hv : v.size ≤ 1000) : Calls Tryz.prog 14 #[.string u, .string v] w (TkR u (Rel.beh v.data.toList u.data.toList) w) := by
  cases hq : Rel.sgn v.data.toList u.data.toList with
  | none =>
    have HB : Hid (Rel.beh v.data.toList u.data.toList = some ([], u.data.toList)) := by unfold Hid Rel.beh; rw [hq]
    have hg := (show sg v.data.toList u.data.toList = false by unfold sg; rw [hq]; rfl)
    clear hq
    go_enter Tryz.func14, Tryz.ntmps14
    go_wp2_with fail
    refine (f12 u v _ hu hv).mono ?_
    rintro e w1 ⟨rfl, rfl⟩
    rw [hg]
    go_wp2
    go_ret3
    exact ⟨Below.refl _ _, .inr ⟨[], u.data.toList, HB.out, rfl, by simp, by simp⟩⟩
  | some r =>
    have hfit : v.size ≤ u.size := by
      have hs := sgn_pfx v u.data.toList
      rw [hq] at hs
      by_cases h0 : v.size ≤ u.size
      · exact h0
      · rw [pfx_short u v h0] at hs; cases hs
    have hr : r = (by' u).drop v.size := by
      have hs := sgn_pfx v u.data.toList
      rw [hq] at hs
      split at hs
      · exact Option.some.inj hs
      · cases hs
    have HB : Hid (Rel.beh v.data.toList u.data.toList = Rel.quo ((by' u).drop v.size)) := by unfold Hid Rel.beh; rw [hq, hr]
    have hg := (show sg v.data.toList u.data.toList = true by unfold sg; rw [hq]; rfl)
    clear hq hr
    go_enter Tryz.func14, Tryz.ntmps14
    go_wp2_with fail
    refine (f12 u v _ hu hv).mono ?_
    rintro e w1 ⟨rfl, rfl⟩
    rw [hg]
    go_wp2_with fail
    refine (f26 u v.size _ hu hfit).mono ?_
    rintro e w2 ⟨hb2, h2⟩
    have HB2 := hid hb2
    clear hb2
    rcases h2 with ⟨hn, rfl⟩ | ⟨x, k, hn, rfl⟩
    · have HN : Hid (Rel.quo ((by' u).drop v.size) = none) := by unfold Hid; rw [quo_same, hn]; rfl
      clear hn
      go_wp2
      go_ret3
      exact ⟨HB2.out, .inl ⟨HB.out.trans HN.out, rfl⟩⟩
    · have HN : Hid (Rel.quo ((by' u).drop v.size) = some (x, (by' u).drop k)) := by unfold Hid; rw [quo_same, hn]; rfl
      have hbd : k ≤ u.size ∧ x.length ≤ u.size := by
        unfold quo at hn
        split at hn
        · have := unqA_bd hn
          simp at this
          omega
        · cases hn
      obtain ⟨hk, hxl⟩ := hbd
      have HX : Hid (u.extract k u.size = mkS ((by' u).drop k)) := by
        apply ByteArray.ext
        apply Array.toList_inj.1
        rw [ext_drop]
      clear hn
      go_wp2_with fail
      go_region
      go_wp2
      go_ret3
      exact ⟨⟨HB2.out.os, HB2.out.tape, HB2.out.output, HB2.out.size, HB2.out.block⟩, .inr ⟨x, (by' u).drop k, HB.out.trans HN.out, by rw [← HX.out]; rfl, hxl, by simp⟩⟩
end Go.Proofs.YtbijhkbmgljjiaaGreatDoor.Rdd
