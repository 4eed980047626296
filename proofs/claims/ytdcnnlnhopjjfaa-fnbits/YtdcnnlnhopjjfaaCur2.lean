/- The cursor's sized. -/
import Derived.Test.YtdcnnlnhopjjfaaCur
import Derived.Test.YtdcnnlnhopjjfaaFnVarw
namespace Go.Proofs.Ytdcnnlnhopjjfaa.Cur
open Go.RowKit Go.Proofs.Ytdcnnlnhopjjfaa.Byt Go.Proofs.Ytdcnnlnhopjjfaa.Bts

theorem wrap_bd (x : Int) : -9223372036854775808 ≤ wrap64 x ∧ wrap64 x ≤ 9223372036854775807 := by unfold wrap64; omega

set_option maxHeartbeats 4000000 in
theorem f45 (B0 R n c lim : Nat) (a : Option Addr) (w : World) (h : Cu B0 R a n c lim w) (hl : lim ≤ 4503599627360000) (hn : n ≤ 1048576) :
    Calls Try.prog 45 #[.pointer (some ⟨R, 0, none⟩)] w fun e w' => ∃ x : Int, e = .returned (.int .i64 x) ∧ -9223372036854775808 ≤ x ∧ x ≤ 9223372036854775807 ∧ Cu B0 R a n c (lim + 20) w' ∧ w.grownBy w' (some R) := by
  have HC := Bts.hid h
  clear h
  go_enter Try.func45, Try.ntmps45
  go_wp2_with fail
  refine (f46 B0 R n c lim a 5 _ HC.out (by omega) hn (by omega) (by omega)).mono ?_
  rintro e w1 ⟨x, rfl, x0, x1, hc1, hg1⟩
  have HC1 := Bts.hid hc1
  have HG1 := Bts.hid hg1
  have x4 : x ≤ 4 := by omega
  clear hc1 hg1 x1
  go_wp2_with fail
  refine (f46 B0 R n c _ a 8 _ HC1.out (by omega) hn (by omega) (by omega)).mono ?_
  rintro e w2 ⟨y, rfl, y0, y1, hc2, hg2⟩
  have HC2 := Bts.hid hc2
  have HG2 := Bts.hid (Byt.grownBy_trans HG1.out hg2)
  have y7 : y ≤ 7 := by omega
  clear hc2 hg2 y1
  by_cases e0 : y = 0
  · subst e0
    go_wp2_with fail
    refine (f46 B0 R n c _ a 300 _ HC2.out (by omega) hn (by omega) (by omega)).mono ?_
    rintro e w3 ⟨u, rfl, u0, u1, hc3, hg3⟩
    have HCX := Bts.hid hc3
    have HGX := Bts.hid (Byt.grownBy_trans HG2.out hg3)
    have u9 : u ≤ 300 := by omega
    clear hc3 hg3 u1
    · go_wp2_with fail
      obtain ⟨N0, N1⟩ : -9223372036854775808 ≤ u ∧ u ≤ 9223372036854775807 := ⟨by omega, by omega⟩
      generalize hN : u = N at *
      clear hN
      refine (f43 B0 R n c _ a 3 _ HCX.out (by omega) hn (by omega) (by omega)).mono ?_
      rintro e wz ⟨b, rfl, hcz, hgz⟩
      have HCZ := Bts.hid hcz
      have HGZ := Bts.hid (Byt.grownBy_trans HGX.out hgz)
      clear hcz hgz
      cases b
      · go_wp2
        go_ret
        exact ⟨N, rfl, N0, N1, HCZ.out.mono (by omega), HGZ.out⟩
      · go_wp2
        go_ret
        exact ⟨_, rfl, by first | omega | (unfold wrap64; omega), by first | omega | (unfold wrap64; omega), HCZ.out.mono (by omega), HGZ.out⟩
  · have e0' : (y == 0) = false := by simp [e0]
    by_cases e1 : y = 1
    · subst e1
      go_wp2_with fail
      refine (f57 B0 R n c _ a _ HC2.out (by omega) hn).mono ?_
      rintro e w3 ⟨u, rfl, u0, u1, hc3, hg3⟩
      have HC3 := Bts.hid hc3
      have HG3 := Bts.hid (Byt.grownBy_trans HG2.out hg3)
      clear hc3 hg3
      go_wp2_with fail
      refine (f46 B0 R n c _ a 64 _ HC3.out (by omega) hn (by omega) (by omega)).mono ?_
      rintro e w4 ⟨k, rfl, k0, k1, hc4, hg4⟩
      have HCX := Bts.hid hc4
      have HGX := Bts.hid (Byt.grownBy_trans HG3.out hg4)
      have k9 : k ≤ 63 := by omega
      clear hc4 hg4 k1
      go_wp2_with fail
      obtain ⟨N0, N1⟩ : -9223372036854775808 ≤ (u / 2 ^ k.toNat) ∧ (u / 2 ^ k.toNat) ≤ 9223372036854775807 := FnVarW.shr_bd u k.toNat u0 u1
      generalize (u / 2 ^ k.toNat) = N at *
      refine (f43 B0 R n c _ a 3 _ HCX.out (by omega) hn (by omega) (by omega)).mono ?_
      rintro e wz ⟨b, rfl, hcz, hgz⟩
      have HCZ := Bts.hid hcz
      have HGZ := Bts.hid (Byt.grownBy_trans HGX.out hgz)
      clear hcz hgz
      cases b
      · go_wp2
        go_ret
        exact ⟨N, rfl, N0, N1, HCZ.out.mono (by omega), HGZ.out⟩
      · go_wp2
        go_ret
        exact ⟨_, rfl, by first | omega | (unfold wrap64; omega), by first | omega | (unfold wrap64; omega), HCZ.out.mono (by omega), HGZ.out⟩
    · have e1' : (y == 1) = false := by simp [e1]
      by_cases e2 : y = 2
      · subst e2
        go_wp2_with fail
        refine (f46 B0 R n c _ a 64 _ HC2.out (by omega) hn (by omega) (by omega)).mono ?_
        rintro e w4 ⟨k, rfl, k0, k1, hc4, hg4⟩
        have HCX := Bts.hid hc4
        have HGX := Bts.hid (Byt.grownBy_trans HG2.out hg4)
        have k9 : k ≤ 63 := by omega
        clear hc4 hg4 k1
        go_wp2_with fail
        obtain ⟨N0, N1⟩ : -9223372036854775808 ≤ (wrap64 (2 ^ k.toNat)) ∧ (wrap64 (2 ^ k.toNat)) ≤ 9223372036854775807 := wrap_bd _
        generalize (wrap64 (2 ^ k.toNat)) = N at *
        refine (f43 B0 R n c _ a 3 _ HCX.out (by omega) hn (by omega) (by omega)).mono ?_
        rintro e wz ⟨b, rfl, hcz, hgz⟩
        have HCZ := Bts.hid hcz
        have HGZ := Bts.hid (Byt.grownBy_trans HGX.out hgz)
        clear hcz hgz
        cases b
        · go_wp2
          go_ret
          exact ⟨N, rfl, N0, N1, HCZ.out.mono (by omega), HGZ.out⟩
        · go_wp2
          go_ret
          exact ⟨_, rfl, by first | omega | (unfold wrap64; omega), by first | omega | (unfold wrap64; omega), HCZ.out.mono (by omega), HGZ.out⟩
      · have e2' : (y == 2) = false := by simp [e2]
        by_cases e3 : y = 3
        · subst e3
          go_wp2_with fail
          refine (f46 B0 R n c _ a 64 _ HC2.out (by omega) hn (by omega) (by omega)).mono ?_
          rintro e w4 ⟨k, rfl, k0, k1, hc4, hg4⟩
          have HCX := Bts.hid hc4
          have HGX := Bts.hid (Byt.grownBy_trans HG2.out hg4)
          have k9 : k ≤ 63 := by omega
          clear hc4 hg4 k1
          go_wp2_with fail
          obtain ⟨N0, N1⟩ : -9223372036854775808 ≤ (wrap64 (wrap64 (2 ^ k.toNat) - 1)) ∧ (wrap64 (wrap64 (2 ^ k.toNat) - 1)) ≤ 9223372036854775807 := wrap_bd _
          generalize (wrap64 (wrap64 (2 ^ k.toNat) - 1)) = N at *
          refine (f43 B0 R n c _ a 3 _ HCX.out (by omega) hn (by omega) (by omega)).mono ?_
          rintro e wz ⟨b, rfl, hcz, hgz⟩
          have HCZ := Bts.hid hcz
          have HGZ := Bts.hid (Byt.grownBy_trans HGX.out hgz)
          clear hcz hgz
          cases b
          · go_wp2
            go_ret
            exact ⟨N, rfl, N0, N1, HCZ.out.mono (by omega), HGZ.out⟩
          · go_wp2
            go_ret
            exact ⟨_, rfl, by first | omega | (unfold wrap64; omega), by first | omega | (unfold wrap64; omega), HCZ.out.mono (by omega), HGZ.out⟩
        · have e3' : (y == 3) = false := by simp [e3]
          have HCX := HC2
          have HGX := HG2
          clear e0 e1 e2 e3
          go_wp2_with fail
          obtain ⟨N0, N1⟩ : -9223372036854775808 ≤ x ∧ x ≤ 9223372036854775807 := ⟨by omega, by omega⟩
          generalize hN : x = N at *
          clear hN
          refine (f43 B0 R n c _ a 3 _ HCX.out (by omega) hn (by omega) (by omega)).mono ?_
          rintro e wz ⟨b, rfl, hcz, hgz⟩
          have HCZ := Bts.hid hcz
          have HGZ := Bts.hid (Byt.grownBy_trans HGX.out hgz)
          clear hcz hgz
          cases b
          · go_wp2
            go_ret
            exact ⟨N, rfl, N0, N1, HCZ.out.mono (by omega), HGZ.out⟩
          · go_wp2
            go_ret
            exact ⟨_, rfl, by first | omega | (unfold wrap64; omega), by first | omega | (unfold wrap64; omega), HCZ.out.mono (by omega), HGZ.out⟩
end Go.Proofs.Ytdcnnlnhopjjfaa.Cur
