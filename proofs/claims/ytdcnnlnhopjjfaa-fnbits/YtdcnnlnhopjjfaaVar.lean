/- What TakeVar comes to, in the program and in its model: one plain function. -/
import Derived.Test.YtdcnnlnhopjjfaaByt
import Derived.Laws.BitsAllLaws
namespace Go.Proofs.Ytdcnnlnhopjjfaa.Var
open Go.RowKit Go.Proofs.Ytdcnnlnhopjjfaa.Byt

theorem ret_two {a b c d : Int} (h : a = c) (h' : b = d) : Ending.returned (.tuple #[.int .i64 a, .int .i64 b]) = .returned (.tuple #[.int .i64 c, .int .i64 d]) := by rw [h, h']
theorem hid {p : Prop} (h : p) : Hid p := h

/-- The word with one piece more. -/
def more (k : Nat) (x z : Int) : Int := IntKind.u64.wrap (x + IntKind.u64.wrap (z % 128 * 2 ^ (7 * k)))
def stop (k : Nat) (z : Int) : Bool := decide (0 < k ∧ z = 0 ∨ k = 9 ∧ 1 < z)
def go (zs : List Int) (t : Nat) : Nat → Nat → Int → Int × Int
  | 0, _, _ => (0, -1)
  | f + 1, k, x =>
    if t + k < zs.length then
      if zs.getD (t + k) 0 < 128 then
        if stop k (zs.getD (t + k) 0) then (0, -1) else (wrap64 (more k x (zs.getD (t + k) 0)), (t : Int) + k + 1)
      else go zs t f (k + 1) (more k x (zs.getD (t + k) 0))
    else (0, -1)
def tv (zs : List Int) (i : Int) : Int × Int := if 0 ≤ i ∧ i < zs.length then go zs i.toNat 10 0 0 else (0, -1)

theorem tv_out (zs : List Int) (i : Int) (h : ¬ (0 ≤ i ∧ i < zs.length)) : tv zs i = (0, -1) := by unfold tv; rw [if_neg h]
theorem tv_in (zs : List Int) (t : Nat) (h : t < zs.length) : tv zs t = go zs t 10 0 0 := by
  unfold tv; rw [if_pos (by omega)]; rw [Int.toNat_natCast]
theorem go_end (zs : List Int) (t f k : Nat) (x : Int) (h : f = 0 ∨ ¬ t + k < zs.length) : go zs t f k x = (0, -1) := by
  cases f with
  | zero => rfl
  | succ f => rcases h with h | h
              · omega
              · unfold go; rw [if_neg h]
theorem go_big (zs : List Int) (t f k : Nat) (x : Int) (h : t + k < zs.length) (hz : ¬ zs.getD (t + k) 0 < 128) :
    go zs t (f + 1) k x = go zs t f (k + 1) (more k x (zs.getD (t + k) 0)) := by
  rw [go, if_pos h, if_neg hz]
theorem go_bad (zs : List Int) (t f k : Nat) (x : Int) (h : t + k < zs.length) (hz : zs.getD (t + k) 0 < 128) (hs : stop k (zs.getD (t + k) 0) = true) :
    go zs t (f + 1) k x = (0, -1) := by
  rw [go, if_pos h, if_pos hz, if_pos hs]
theorem go_good (zs : List Int) (t f k : Nat) (x : Int) (h : t + k < zs.length) (hz : zs.getD (t + k) 0 < 128) (hs : stop k (zs.getD (t + k) 0) = false) :
    go zs t (f + 1) k x = (wrap64 (more k x (zs.getD (t + k) 0)), (t : Int) + k + 1) := by
  rw [go, if_pos h, if_pos hz, if_neg (by rw [hs]; simp)]

theorem more_lo (k : Nat) (x z : Int) : 0 ≤ more k x z := by unfold more; rw [IntKind.wrap_u64]; omega
theorem more_hi (k : Nat) (x z : Int) : more k x z ≤ 18446744073709551615 := by unfold more; rw [IntKind.wrap_u64]; omega

set_option maxHeartbeats 1000000 in
theorem f37 (a : Option Addr) (n c : Nat) (i : Int) (zs : List Int) (w : World) (hn : zs.length = n) (hb : n ≤ 140737488351232) (hr : Has w a zs) (h255 : ∀ j, 0 ≤ zs.getD j 0 ∧ zs.getD j 0 ≤ 255) :
    Calls Try.prog 37 #[.slice a n c, .int .i64 i] w fun e w' => e = .returned (.tuple #[.int .i64 (tv zs i).1, .int .i64 (tv zs i).2]) ∧ w' = w := by
  by_cases hin : 0 ≤ i ∧ i < n
  · obtain ⟨hi0, hi1⟩ := hin
    obtain ⟨t, rfl⟩ := Int.eq_ofNat_of_zero_le hi0
    have ht : t < n := by omega
    clear hi0 hi1
    have HT := hid (tv_in zs t (by omega))
    have HN := hid hn
    have H255 := hid h255
    clear hn h255
    rcases hr with hr | ⟨b, off, rfl, hbl, hc⟩
    · exact absurd HN.out (by rw [hr]; simp; omega)
    have HC := hid hc
    clear hc
    have hd0 : decide ((t : Int) < 0) = false := by simp
    go_enter Try.func37, Try.ntmps37
    go_wp2
    go_loop [6, 7] (fun h i => ∃ (k : Nat) (x : Int), k ≤ 10 ∧ i = .int .i64 k ∧ h = .int .u64 x ∧ 0 ≤ x ∧ x ≤ 18446744073709551615 ∧ Hid (go zs t (10 - k) k x = tv zs t))
      (fun _ i => 10 - (intOf i).toNat)
    case atStart => exact ⟨0, 0, by omega, rfl, rfl, by omega, by omega, HT.out.symm⟩
    case round =>
      obtain ⟨k, x, hk, rfl, rfl, hx0, hx1, HX⟩ := hrel
      by_cases hlt : k < 10 ∧ t + k < n
      · obtain ⟨hk9, htk⟩ := hlt
        have htk' : Hid (t + k < zs.length) := by rw [HN.out]; exact htk
        have hcx := HC.out (t + k) (by rw [HN.out]; exact htk)
        obtain ⟨f, HF⟩ : ∃ f, Hid (10 - k = f + 1) := ⟨9 - k, by unfold Hid; omega⟩
        have HG : Hid (go zs t (f + 1) k x = tv zs t) := by unfold Hid; rw [← HF.out]; exact HX.out
        obtain ⟨z, hz⟩ : ∃ z, z = zs.getD (t + k) 0 := ⟨_, rfl⟩
        obtain ⟨z0, z1⟩ := H255.out (t + k)
        have HB := hid (go_big zs t f k x htk'.out)
        have HD := hid (go_bad zs t f k x htk'.out)
        have HO := hid (go_good zs t f k x htk'.out)
        rw [← hz] at hcx z0 z1 HB HD HO
        have HZ := hid hz
        clear hz
        by_cases hz : z < 128
        · cases hs : stop k z
          · have hr := HO.out hz hs
            have HR := hid hr
            clear hr
            have HS : Hid (¬ (0 < k ∧ z = 0 ∨ k = 9 ∧ 1 < z)) := by unfold stop at hs; simpa [Hid] using hs
            clear hs
            by_cases h1 : 0 < k
            · have h2 : (z == 0) = false := by have := HS.out; simp; omega
              by_cases h3 : k = 9
              · have h3' : ((k : Int) == 9) = true := by simp; omega
                have h4 : z ≤ 1 := by have := HS.out; omega
                clear h3
                go_wp2
                go_ret2
                exact ⟨by rw [← HG.out, HR.out]; rfl, rfl⟩
              · have h3' : ((k : Int) == 9) = false := by simp; omega
                clear h3
                go_wp2
                go_ret2
                exact ⟨by rw [← HG.out, HR.out]; rfl, rfl⟩
            · have h3' : ((k : Int) == 9) = false := by simp; omega
              go_wp2
              go_ret2
              exact ⟨by rw [← HG.out, HR.out]; rfl, rfl⟩
          · have HR := hid (HD.out hz hs)
            have HS : Hid (0 < k ∧ z = 0 ∨ k = 9 ∧ 1 < z) := by unfold stop at hs; simpa [Hid] using hs
            clear hs
            by_cases h2 : z = 0
            · have h2' : (z == 0) = true := by simp [h2]
              have h1 : 0 < k := by have := HS.out; omega
              clear h2
              go_wp2
              go_ret2
              exact ⟨by rw [← HG.out, HR.out]; rfl, rfl⟩
            · have h2' : (z == 0) = false := by simp [h2]
              have h1 : 0 < k := by have := HS.out; omega
              have h3' : ((k : Int) == 9) = true := by have := HS.out; simp; omega
              have h4 : 1 < z := by have := HS.out; omega
              go_wp2
              go_ret2
              exact ⟨by rw [← HG.out, HR.out]; rfl, rfl⟩
        · have HR := hid (HB.out hz)
          go_wp2
          go_round
          case rel => exact ⟨_, _, _, _, ⟨k + 1, by omega, rfl, more k x z, rfl, more_lo k x z, more_hi k x z, by rw [show 10 - (k + 1) = f from by have := HF.out; omega]; exact HR.out.symm.trans HG.out⟩, rfl, rfl, rfl, by go_num⟩
          case measure => simp [intOf]; omega
      · have HE := hid (go_end zs t (10 - k) k x (by have := HN.out; omega))
        by_cases hk9 : k < 10
        · have hge : n ≤ t + k := by omega
          clear hlt
          go_wp2
          go_ret2
          exact ⟨by rw [← HX.out, HE.out]; rfl, rfl⟩
        · clear hlt
          go_wp2
          go_ret2
          exact ⟨by rw [← HX.out, HE.out]; rfl, rfl⟩
  · have HT := hid (tv_out zs i (by rw [hn]; exact hin))
    by_cases h0 : i < 0
    · go_enter Try.func37, Try.ntmps37
      go_wp2
      go_ret2
      exact ⟨by rw [HT.out]; rfl, rfl⟩
    · have h1 : (n : Int) ≤ i := by omega
      go_enter Try.func37, Try.ntmps37
      go_wp2
      go_ret2
      exact ⟨by rw [HT.out]; rfl, rfl⟩
end Go.Proofs.Ytdcnnlnhopjjfaa.Var
