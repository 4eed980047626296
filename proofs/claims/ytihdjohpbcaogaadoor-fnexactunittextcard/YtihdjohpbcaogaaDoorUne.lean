/- Values with their units: the program's UnitText, and the model's. -/
import Derived.Test.YtihdjohpbcaogaaDoorUnc
import Derived.Test.YtihdjohpbcaogaaDoorUnd
namespace Go.Proofs.YtihdjohpbcaogaaDoor.Unt
open Go.RowKit

def snS : List UInt8 := [107, 77, 71, 84, 80, 69]
def snB : List UInt8 := [75, 77, 71, 84, 80, 69]
def nmS (k : Nat) : List UInt8 := (snS.drop k).take 1 ++ []
def nmB (k : Nat) : List UInt8 := (snB.drop k).take 1 ++ [105]
def shrT (z : Nat) : List UInt8 := Lib.itoa ((z / 10 : Nat) : Int) ++ [46] ++ Lib.itoa ((z % 10 : Nat) : Int)
/-- What UnitText says. -/
def unitL (v u : Int) : List UInt8 :=
  if v = -9223372036854775808 then [] else if u = 1 then Lib.itoa v else if u = 2 then sg v ++ scl v.natAbs 1024 nmB else if u = 3 then sg v ++ sec v.natAbs else if u = 4 then sg v ++ shrT v.natAbs ++ [37] else if u = 5 then sg v ++ scl v.natAbs 1000 nmS else []
theorem itoa_nat_len {z : Nat} (h : z ≤ 9223372036854775807) : (Lib.itoa (z : Int)).length ≤ 21 := itoa_len _ (by omega) (by omega)
theorem scT_len {z b k : Nat} {l : List UInt8} (h : z ≤ 9223372036854775807) (hl : l.length ≤ 10) (hp : 0 < pw b k) : (scT z b k l).length ≤ 60 := by
  unfold scT
  have h1 := itoa_nat_len (z := z / pw b k) (Nat.le_trans (Nat.div_le_self _ _) h)
  have h2 := itoa_nat_len (z := 10 * (z % pw b k) / pw b k) (Nat.le_trans (tn_le hp) (by omega))
  simp only [List.length_append, List.length_cons, List.length_nil]
  omega
theorem scl_len {z b : Nat} {nm : Nat → List UInt8} (h : z ≤ 9223372036854775807) (hb : Bas b) (hl : ∀ k, (nm k).length ≤ 10) : (scl z b nm).length ≤ 60 := by
  unfold scl
  split
  · have := itoa_nat_len h; omega
  · refine scT_len h (hl _) ?_
    unfold pw
    exact Nat.pow_pos (by rcases hb with h | h <;> omega)
theorem nmS_len (k : Nat) : (nmS k).length ≤ 10 := by unfold nmS; simp; omega
theorem nmB_len (k : Nat) : (nmB k).length ≤ 10 := by unfold nmB; simp; omega
theorem shr_len {z : Nat} (h : z ≤ 9223372036854775807) : (shrT z).length ≤ 43 := by
  unfold shrT
  have h1 := itoa_nat_len (z := z / 10) (by omega)
  have h2 := itoa_nat_len (z := z % 10) (by omega)
  simp only [List.length_append, List.length_cons, List.length_nil]
  omega
theorem nxt_len {z : Nat} (i : Nat) (h : z ≤ 9223372036854775807) : (nxt4 z i).length ≤ 22 := by
  unfold nxt4
  split
  · simp
  · exact one4_len i h
theorem sec_len {z : Nat} (h : z ≤ 9223372036854775807) : (sec z).length ≤ 44 := by
  unfold sec
  have h0 := one4_len (z := z) 0 h
  have h1 := one4_len (z := z) 1 h
  have h2 := one4_len (z := z) 2 h
  have h3 := one4_len (z := z) 3 h
  have n1 := nxt_len (z := z) 1 h
  have n2 := nxt_len (z := z) 2 h
  have n3 := nxt_len (z := z) 3 h
  split
  · simp; omega
  · split
    · simp; omega
    · split
      · simp; omega
      · split
        · omega
        · simp

set_option maxRecDepth 100000 in
set_option maxHeartbeats 4000000 in
theorem f5 (v u : Int) (w : World) (hv0 : -9223372036854775808 ≤ v) (hv1 : v ≤ 9223372036854775807) (hp : Pow w) (ht : Tun w) :
    Calls Tryd.prog 5 #[.int .i64 v, .int .i64 u] w fun e w' => e = .returned (.string (mkS (unitL v u))) ∧ Below w.heap.size w w' := by
  have HP := hid hp
  have HTu := hid ht
  clear hp ht
  by_cases hm : v = -9223372036854775808
  · subst hm
    have HL : Hid (unitL (-9223372036854775808) u = []) := if_pos rfl
    go_enter Tryd.func5, Tryd.ntmps5
    go_wp2
    go_ret
    exact ⟨ret_str HL.out.symm, Below.refl _ _⟩
  have hmb : (v == -9223372036854775808) = false := by simpa using hm
  have HM := hid hm
  have hv0' : -9223372036854775807 ≤ v := by omega
  have hsg := sg_len v
  clear hm
  go_enter Tryd.func5, Tryd.ntmps5
  go_upto_if 9 with fail
  go_cut [5, 6] from 8 to 52 (fun s5 s6 wx => s6 = .int .i64 (v.natAbs : Int) ∧ s5 = .string (mkS (sg v)) ∧ Hid (wx = w))
  case first =>
    by_cases k0 : v < 0
    · have HS : Hid (sg v = [45]) := if_pos k0
      have HZ : Hid ((v.natAbs : Int) = -v) := by unfold Hid; omega
      go_wp2
      go_meet
      exact ⟨by rw [HZ.out], by rw [HS.out], rfl⟩
    · have HS : Hid (sg v = []) := if_neg k0
      have HZ : Hid ((v.natAbs : Int) = v) := by unfold Hid; omega
      go_wp2
      go_meet
      exact ⟨by rw [HZ.out], by rw [HS.out], rfl⟩
  case rest =>
  obtain ⟨rfl, rfl, HW⟩ := hcut
  have hw := HW.out
  subst hw
  have hz : v.natAbs ≤ 9223372036854775807 := by omega
  have HL : Hid (unitL v u = if u = 1 then Lib.itoa v else if u = 2 then sg v ++ scl v.natAbs 1024 nmB else if u = 3 then sg v ++ sec v.natAbs else if u = 4 then sg v ++ shrT v.natAbs ++ [37] else if u = 5 then sg v ++ scl v.natAbs 1000 nmS else []) := if_neg HM.out
  generalize v.natAbs = z at *
  by_cases u1 : u = 1
  · subst u1
    go_wp2_with fail
    refine (f8 v _ (by omega) (by omega) HP.out).mono ?_
    rintro e w1 ⟨rfl, hb1⟩
    have HB1 := hid hb1
    clear hb1
    go_wp2
    go_ret
    exact ⟨ret_str (by rw [HL.out, if_pos trivial]), HB1.out⟩
  have v1 : (u == 1) = false := by simpa using u1
  by_cases u2 : u = 2
  · subst u2
    have hl := scl_len (z := z) (b := 1024) (nm := nmB) hz (.inr rfl) nmB_len
    go_wp2_with fail
    refine (f9 z 1024 snB [105] nmB _ hz (.inr rfl) rfl (by simp) (fun k hk => rfl) HP.out).mono ?_
    rintro e w1 ⟨rfl, hb1⟩
    have HB1 := hid hb1
    clear hb1
    generalize scl z 1024 nmB = X at *
    have a1 := add_run (sg v) X (by omega)
    go_wp2
    go_ret
    exact ⟨ret_str (by rw [HL.out, if_neg (by omega), if_pos trivial]), HB1.out⟩
  have v2 : (u == 2) = false := by simpa using u2
  by_cases u3 : u = 3
  · subst u3
    have hl := sec_len (z := z) hz
    go_wp2_with fail
    refine (f10 z _ hz HP.out HTu.out).mono ?_
    rintro e w1 ⟨rfl, hb1⟩
    have HB1 := hid hb1
    clear hb1
    generalize sec z = X at *
    have a1 := add_run (sg v) X (by omega)
    go_wp2
    go_ret
    exact ⟨ret_str (by rw [HL.out, if_neg (by omega), if_neg (by omega), if_pos trivial]), HB1.out⟩
  have v3 : (u == 3) = false := by simpa using u3
  by_cases u4 : u = 4
  · subst u4
    have hl := shr_len (z := z) hz
    have t1 : Int.tdiv (z : Int) 10 = ((z / 10 : Nat) : Int) := rfl
    have t2 : Int.tmod (z : Int) 10 = ((z % 10 : Nat) : Int) := rfl
    have HSh : Hid (shrT z = Lib.itoa ((z / 10 : Nat) : Int) ++ [46] ++ Lib.itoa ((z % 10 : Nat) : Int)) := rfl
    have HC := fun x h => hid (f11 ((z / 10 : Nat) : Int) ((z % 10 : Nat) : Int) x (by omega) (by omega) (by omega) (by omega) h)
    rw [← HSh.out] at HC
    go_wp2_with fail
    refine (HC _ HP.out).out.mono ?_
    rintro e w1 ⟨rfl, hb1⟩
    have HB1 := hid hb1
    clear hb1
    generalize shrT z = X at *
    have a1 := add_run (sg v) X (by omega)
    have a2 := add_run (sg v ++ X) [37] (by simp; omega)
    go_wp2
    go_ret
    exact ⟨ret_str (by rw [HL.out, if_neg (by omega), if_neg (by omega), if_neg (by omega), if_pos trivial]; simp), HB1.out⟩
  have v4 : (u == 4) = false := by simpa using u4
  by_cases u5 : u = 5
  · subst u5
    have hl := scl_len (z := z) (b := 1000) (nm := nmS) hz (.inl rfl) nmS_len
    go_wp2_with fail
    refine (f9 z 1000 snS [] nmS _ hz (.inl rfl) rfl (by simp) (fun k hk => rfl) HP.out).mono ?_
    rintro e w1 ⟨rfl, hb1⟩
    have HB1 := hid hb1
    clear hb1
    generalize scl z 1000 nmS = X at *
    have a1 := add_run (sg v) X (by omega)
    go_wp2
    go_ret
    exact ⟨ret_str (by rw [HL.out, if_neg (by omega), if_neg (by omega), if_neg (by omega), if_neg (by omega), if_pos trivial]), HB1.out⟩
  have v5 : (u == 5) = false := by simpa using u5
  go_wp2
  go_ret
  exact ⟨ret_str (by rw [HL.out, if_neg u1, if_neg u2, if_neg u3, if_neg u4, if_neg u5]), Below.refl _ _⟩
end Go.Proofs.YtihdjohpbcaogaaDoor.Unt
