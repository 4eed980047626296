/- The program's TakeVar comes to the plain function of the model's. -/
import Derived.Test.YtdcnnlnhopjjfaaVarp
namespace Go.Proofs.Ytdcnnlnhopjjfaa.Var
open Go.RowKit Go.Proofs.Ytdcnnlnhopjjfaa.Byt

set_option maxHeartbeats 1000000 in
theorem f22 (a : Option Addr) (n c : Nat) (i : Int) (zs : List Int) (w : World) (hn : zs.length = n) (hnc : n ≤ c) (hb : n ≤ 140737488351232) (hr : Has w a zs) (h255 : ∀ j, 0 ≤ zs.getD j 0 ∧ zs.getD j 0 ≤ 255) :
    Calls Try.prog 22 #[.slice a n c, .int .i64 i] w fun e w' => e = .returned (.tuple #[.int .i64 (tv zs i).1, .int .i64 (tv zs i).2]) ∧ w' = w := by
  by_cases hin : 0 ≤ i ∧ i < n
  · obtain ⟨hi0, hi1⟩ := hin
    obtain ⟨t, rfl⟩ := Int.eq_ofNat_of_zero_le hi0
    have ht : t < n := by omega
    clear hi0 hi1
    have HT := hid (tv_in zs t (by omega))
    have HN := hid hn
    have H255 := hid h255
    clear hn h255
    rcases hr with hr | ⟨b, off, rfl, hbl, hc⟩
    · exact absurd HN.out (by rw [hr]; simp; omega)
    have HC := hid hc
    clear hc
    have hd0 : decide ((t : Int) < 0) = false := by simp
    go_enter Try.func22, Try.ntmps22
    go_wp2
    go_loop [6, 21] (fun h i => ∃ (k : Nat) (x : Int), k ≤ 9 ∧ k ≤ n - t ∧ i = .int .i64 k ∧ h = .int .u64 x ∧ 0 ≤ x ∧ x ≤ 18446744073709551615 ∧ Hid (x < 2 ^ (7 * k)) ∧ Hid (go zs t (10 - k) k x = tv zs t))
      (fun _ i => 10 - (intOf i).toNat)
    case atStart => exact ⟨0, 0, by omega, by omega, rfl, rfl, by omega, by omega, show (0 : Int) < 2 ^ (7 * 0) by decide, HT.out.symm⟩
    case round =>
      obtain ⟨k, x, hk, hkn, rfl, rfl, hx0, hx1, HP, HX⟩ := hrel
      by_cases htk : t + k < n
      · have htk' : Hid (t + k < zs.length) := by rw [HN.out]; exact htk
        have hcx := HC.out (t + k) (by rw [HN.out]; exact htk)
        rw [← Nat.add_assoc] at hcx
        obtain ⟨f, HF⟩ : ∃ f, Hid (10 - k = f + 1) := ⟨9 - k, by unfold Hid; omega⟩
        have HG : Hid (go zs t (f + 1) k x = tv zs t) := by unfold Hid; rw [← HF.out]; exact HX.out
        obtain ⟨z, hz⟩ : ∃ z, z = zs.getD (t + k) 0 := ⟨_, rfl⟩
        obtain ⟨z0, z1⟩ := H255.out (t + k)
        have HB := hid (go_big zs t f k x htk'.out)
        have HD := hid (go_bad zs t f k x htk'.out)
        have HO := hid (go_good zs t f k x htk'.out)
        rw [← hz] at hcx z0 z1 HB HD HO
        have HZ := hid hz
        clear hz
        have h127 := and_127 z z0 z1
        have m0 := more_lo k x z
        have m1 := more_hi k x z
        by_cases h9 : k = 9
        · have h9' : ((k : Int) == 9) = true := by simp; omega
          by_cases h1 : 1 < z
          · have HR : Hid (go zs t (f + 1) k x = (0, -1)) := by
              by_cases hz : z < 128
              · exact HD.out hz (by simp [stop, h9, h1])
              · have := HB.out hz
                rw [show f = 0 from by have := HF.out; omega] at this ⊢
                exact this
            clear h9
            go_wp2
            go_ret2
            exact ⟨by rw [← HG.out, HR.out]; rfl, rfl⟩
          · have ho := or_more k x z hx0 HP.out z0 (.inr ⟨h9, by omega⟩)
            have hz : z < 128 := by omega
            have hk0 : 0 < k := by omega
            by_cases h2 : z = 0
            · have h2' : (z == 0) = true := by simp [h2]
              have HR := hid (HD.out hz (by simp [stop, h2]; omega))
              clear h9 h2
              go_wp2
              go_ret2
              exact ⟨by rw [← HG.out, HR.out]; rfl, rfl⟩
            · have h2' : (z == 0) = false := by simp [h2]
              have HR := hid (HO.out hz (by simp [stop, h2]; omega))
              clear h9 h2
              go_wp2
              go_ret2
              exact ⟨by rw [← HG.out, HR.out]; rfl, rfl⟩
        · have h9' : ((k : Int) == 9) = false := by simp; omega
          have ho := or_more k x z hx0 HP.out z0 (.inl (by omega))
          by_cases hz : z < 128
          · by_cases h2 : z = 0
            · have h2' : (z == 0) = true := by simp [h2]
              by_cases hk0 : 0 < k
              · have HR := hid (HD.out hz (by simp [stop, h2]; omega))
                clear h9 h2
                go_wp2
                go_ret2
                exact ⟨by rw [← HG.out, HR.out]; rfl, rfl⟩
              · have HR := hid (HO.out hz (by simp [stop]; omega))
                clear h9 h2
                go_wp2
                go_ret2
                exact ⟨by rw [← HG.out, HR.out]; rfl, rfl⟩
            · have h2' : (z == 0) = false := by simp [h2]
              have HR := hid (HO.out hz (by simp [stop, h2]; omega))
              clear h9 h2
              go_wp2
              go_ret2
              exact ⟨by rw [← HG.out, HR.out]; rfl, rfl⟩
          · have HR := hid (HB.out hz)
            have HL := hid (more_lt k x z hx0 HP.out z0 (by omega))
            go_wp2
            go_round
            case rel => exact ⟨k + 1, more k x z, by omega, by omega, by go_num, rfl, m0, m1, HL, by rw [show 10 - (k + 1) = f from by have := HF.out; omega]; exact HR.out.symm.trans HG.out⟩
            case measure => simp [intOf]; omega
      · have HE := hid (go_end zs t (10 - k) k x (by have := HN.out; omega))
        have hge : n ≤ t + k := by omega
        go_wp2
        go_ret2
        exact ⟨by rw [← HX.out, HE.out]; rfl, rfl⟩
  · have HT := hid (tv_out zs i (by rw [hn]; exact hin))
    by_cases h0 : i < 0
    · go_enter Try.func22, Try.ntmps22
      go_wp2
      go_ret2
      exact ⟨by rw [HT.out]; rfl, rfl⟩
    · have h1 : (n : Int) ≤ i := by omega
      go_enter Try.func22, Try.ntmps22
      go_wp2
      go_ret2
      exact ⟨by rw [HT.out]; rfl, rfl⟩
end Go.Proofs.Ytdcnnlnhopjjfaa.Var
