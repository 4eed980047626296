/- Sets of numbers: the model's PostOr. -/
import Derived.Test.YtaajkgaephhghaaNd
namespace Go.Proofs.Ytaajkgaephhghaa.Ino
open Go.RowKit

theorem drop_get {s : List Int} {i : Nat} (h : i < s.length) : s.drop i = s.getD i 0 :: s.drop (i + 1) := by
  rw [List.drop_eq_getElem_cons h]; simp [h]
theorem or_left {x : Int} {s : List Int} : ch kOr (x :: s) [] = x :: ch kOr s [] := by rw [ch]; rfl
theorem or_right {y : Int} {o : List Int} : ch kOr [] (y :: o) = y :: ch kOr [] o := by rw [ch]; rfl
theorem or_lt {x y : Int} {s o : List Int} (h : x < y) : ch kOr (x :: s) (y :: o) = x :: ch kOr s (y :: o) := by rw [ch, if_pos h]; rfl
theorem or_gt {x y : Int} {s o : List Int} (h : y < x) : ch kOr (x :: s) (y :: o) = y :: ch kOr (x :: s) o := by rw [ch, if_neg (by omega), if_pos h]; rfl
theorem or_eq {x : Int} {s o : List Int} : ch kOr (x :: s) (x :: o) = x :: ch kOr s o := by rw [ch, if_neg (by omega), if_neg (by omega)]; rfl
theorem snoc {L M N : List Int} {x : Int} (h : L ++ x :: M = N) : (L ++ [x]) ++ M = N := by rw [← h]; simp

set_option maxHeartbeats 4000000 in
theorem f12 (a a' : Option Addr) (c c' : Nat) (s o : List Int) (w : World) (hb : s.length ≤ 1048576) (hb' : o.length ≤ 1048576) (hr : Has w a s) (hr' : Has w a' o) :
    Calls Try.prog 12 #[.slice a s.length c, .slice a' o.length c'] w (Gives w (put kOr s o)) := by
  obtain ⟨i0, hi, hz0, hz1, hz2⟩ := info_parts info3
  have H1 : Hid (∀ wx, Below w.heap.size w wx → Calls Try.prog 16 #[.slice a s.length c] wx fun e w' => e = .returned (.bool (num s)) ∧ Below wx.heap.size wx w') := fun wx hx => f16 a _ c s wx rfl hb (hr.below hx)
  have H2 : Hid (∀ wx, Below w.heap.size w wx → Calls Try.prog 16 #[.slice a' o.length c'] wx fun e w' => e = .returned (.bool (num o)) ∧ Below wx.heap.size wx w') := fun wx hx => f16 a' _ c' o wx rfl hb' (hr'.below hx)
  have P0 := hid (put_no (K := kOr) (s := s) (o := o))
  have P1 := hid (put_yes (K := kOr) (s := s) (o := o))
  have HR := hid hr
  have HR' := hid hr'
  clear hr hr'
  obtain ⟨n, hn⟩ : ∃ n, n = s.length := ⟨_, rfl⟩
  have HN : Hid (s.length = n) := hn.symm
  rw [← hn] at hb H1 ⊢
  clear hn
  obtain ⟨n', hn⟩ : ∃ n, n = o.length := ⟨_, rfl⟩
  have HN' : Hid (o.length = n') := hn.symm
  rw [← hn] at hb' H2 ⊢
  clear hn
  go_enter Try.func12, Try.ntmps12
  go_wp2_with fail
  refine (H1.out _ (Below.refl _ _)).mono ?_
  rintro e w1 ⟨rfl, hb1⟩
  have HB1 := hid hb1
  clear hb1
  cases hq : num s
  · have E : Hid (put kOr s o = []) := P0.out (fun h => by rw [hq] at h; cases h.1)
    go_wp2
    go_ret
    exact gives_no E.out HB1.out
  have E1 := hid hq
  clear hq
  go_wp2_with fail
  refine (H2.out _ HB1.out).mono ?_
  rintro e w2 ⟨rfl, hb2⟩
  have HB2 := hid (HB1.out.trans (hb2.mono HB1.out.size))
  clear hb2 HB1
  cases hq : num o
  · have E : Hid (put kOr s o = []) := P0.out (fun h => by rw [hq] at h; cases h.2)
    go_wp2
    go_ret
    exact gives_no E.out HB2.out
  have E2 := hid (P1.out E1.out hq)
  clear hq
  have H0 : Hid (Now w none 0 [] w2) := ⟨Own.nil _ _, HB2.out⟩
  go_wp2
  go_loopw [5, 6, 7] (fun v5 v6 v7 wr => ∃ (i k : Nat) (L : List Int) (a5 : Option Addr) (c5 : Nat), i ≤ n ∧ k ≤ n' ∧ L.length ≤ i + k ∧ v6 = .int .i64 (i : Int) ∧ v7 = .int .i64 (k : Int) ∧ v5 = .slice a5 L.length c5 ∧ Hid (L ++ ch kOr (s.drop i) (o.drop k) = ch kOr s o) ∧ Hid (Now w a5 c5 L wr)) (fun _ v u _ => (n - (intOf v).toNat) + (n' - (intOf u).toNat))
  case atStart => exact ⟨0, 0, [], none, 0, Nat.zero_le _, Nat.zero_le _, Nat.zero_le _, rfl, rfl, rfl, by simp [Hid], H0⟩
  case round =>
    obtain ⟨i, k, L, a5, c5, hin, hkn, hL, rfl, rfl, rfl, HL, HW⟩ := hrel
    by_cases hi1 : i < n
    · have hil : Hid (i < s.length) := by have := HN.out; unfold Hid; omega
      have hii : (i : Int) < (n : Int) := by omega
      rcases HR.out with hr | ⟨b, off, rfl, hbl, hc⟩
      · exact absurd HN.out (by rw [hr]; simp; omega)
      have d0 := (HW.out.2.cell (p := ⟨b, off + i, none⟩) hbl).trans (hc i hil.out)
      have e1 := hid (drop_get hil.out)
      clear hc
      generalize s.getD i 0 = x at *
      by_cases hk1 : k < n'
      · have hkl : Hid (k < o.length) := by have := HN'.out; unfold Hid; omega
        have hkk : (k : Int) < (n' : Int) := by omega
        have hne : ((k : Int) == (n' : Int)) = false := by rw [beq_eq_false_iff_ne]; omega
        rcases HR'.out with hr | ⟨b', off', rfl, hbl', hc'⟩
        · exact absurd HN'.out (by rw [hr]; simp; omega)
        have d1 := (HW.out.2.cell (p := ⟨b', off' + k, none⟩) hbl').trans (hc' k hkl.out)
        have e2 := hid (drop_get hkl.out)
        clear hc'
        generalize o.getD k 0 = y at *
        rcases Int.lt_trichotomy x y with h1 | h1 | h1
        · have h2 : x ≤ y := by omega
          have h3 : (x == y) = false := by rw [beq_eq_false_iff_ne]; omega
          have HE : Hid ((L ++ [x]) ++ ch kOr (s.drop (i + 1)) (o.drop k) = ch kOr s o) := by have := HL.out; rw [e1.out, e2.out, or_lt h1] at this; rw [e2.out]; exact snoc this
          go_wp2
          go_quiet (fail)
          obtain ⟨wq0, hwq0⟩ : ∃ x, x = World.drewN wr nq := ⟨_, rfl⟩
          rw [← hwq0]
          have HWq0 : Hid (Now w a5 c5 L wq0) := by unfold Hid; rw [hwq0]; exact HW.out.below (below_drewN (Below.refl _ _) _)
          have d0q0 := d0
          rw [show wr.cell? = wq0.cell? from by rw [hwq0]; rfl] at d0q0
          clear d0
          have d1q0 := d1
          rw [show wr.cell? = wq0.cell? from by rw [hwq0]; rfl] at d1q0
          clear d1
          clear hwq0 HW
          go_wp2
          go_quiet (fail)
          obtain ⟨wq1, hwq1⟩ : ∃ x, x = World.drewN wq0 nq := ⟨_, rfl⟩
          rw [← hwq1]
          have HWq1 : Hid (Now w a5 c5 L wq1) := by unfold Hid; rw [hwq1]; exact HWq0.out.below (below_drewN (Below.refl _ _) _)
          have d0q1 := d0q0
          rw [show wq0.cell? = wq1.cell? from by rw [hwq1]; rfl] at d0q1
          clear d0q0
          have d1q1 := d1q0
          rw [show wq0.cell? = wq1.cell? from by rw [hwq1]; rfl] at d1q1
          clear d1q0
          clear hwq1 HWq0
          have HA := hid (HWq1.out.below ((Below.refl _ wq1).alloc (Nat.le_refl _) (.cells #[.int .i64 x] 3)))
          go_wp2_with (at_builtin; refine wpList_append_own _ rfl (.tmp 64) (.tmp 69) 22 rfl w.heap.size 3 i0 (.int .i64 0) 1 8 Try.underlying22 hi hz0 hz1 hz2 rfl (by decide) _ _ _ rfl HA.out.1 ⟨wq1.heap.size, 0, none⟩ 1 1 [.int .i64 x] rfl rfl ?d1 ?d2 ?d3 ?d4 ?d5 ?_)
          case d1 => intro j u hj; exact one_row _ _ _ j u hj
          case d2 => intro u hu; simp at hu; subst hu; rfl
          case d3 => unfold maxLen; omega
          case d4 => omega
          case d5 => have h5 := HWq1.out.2.size; first | omega | (simp; omega)
          intro v1 w6 hown1 hgr1 _
          obtain ⟨a8, c8, rfl⟩ := own_form (L := L ++ [x]) (by simpa using hown1)
          have HN6 := hid (HA.out.app hgr1 hown1)
          clear hown1 hgr1 HA
          go_wp2
          go_roundw
          case rel => exact ⟨i + 1, k, L ++ [x], a8, c8, by omega, by omega, by simp; omega, by go_num, by go_num, by simp, HE, HN6⟩
          case measure => simp [intOf]; omega
        · subst h1
          have h3 : (x == x) = true := by simp
          have HE : Hid ((L ++ [x]) ++ ch kOr (s.drop (i + 1)) (o.drop (k + 1)) = ch kOr s o) := by have := HL.out; rw [e1.out, e2.out, or_eq] at this; exact snoc this
          go_wp2
          go_quiet (fail)
          obtain ⟨wq0, hwq0⟩ : ∃ x, x = World.drewN wr nq := ⟨_, rfl⟩
          rw [← hwq0]
          have HWq0 : Hid (Now w a5 c5 L wq0) := by unfold Hid; rw [hwq0]; exact HW.out.below (below_drewN (Below.refl _ _) _)
          have d0q0 := d0
          rw [show wr.cell? = wq0.cell? from by rw [hwq0]; rfl] at d0q0
          clear d0
          have d1q0 := d1
          rw [show wr.cell? = wq0.cell? from by rw [hwq0]; rfl] at d1q0
          clear d1
          clear hwq0 HW
          go_wp2
          go_quiet (fail)
          obtain ⟨wq1, hwq1⟩ : ∃ x, x = World.drewN wq0 nq := ⟨_, rfl⟩
          rw [← hwq1]
          have HWq1 : Hid (Now w a5 c5 L wq1) := by unfold Hid; rw [hwq1]; exact HWq0.out.below (below_drewN (Below.refl _ _) _)
          have d0q1 := d0q0
          rw [show wq0.cell? = wq1.cell? from by rw [hwq1]; rfl] at d0q1
          clear d0q0
          have d1q1 := d1q0
          rw [show wq0.cell? = wq1.cell? from by rw [hwq1]; rfl] at d1q1
          clear d1q0
          clear hwq1 HWq0
          have HA := hid (HWq1.out.below ((Below.refl _ wq1).alloc (Nat.le_refl _) (.cells #[.int .i64 x] 3)))
          go_wp2_with (at_builtin; refine wpList_append_own _ rfl (.tmp 64) (.tmp 69) 22 rfl w.heap.size 3 i0 (.int .i64 0) 1 8 Try.underlying22 hi hz0 hz1 hz2 rfl (by decide) _ _ _ rfl HA.out.1 ⟨wq1.heap.size, 0, none⟩ 1 1 [.int .i64 x] rfl rfl ?d1 ?d2 ?d3 ?d4 ?d5 ?_)
          case d1 => intro j u hj; exact one_row _ _ _ j u hj
          case d2 => intro u hu; simp at hu; subst hu; rfl
          case d3 => unfold maxLen; omega
          case d4 => omega
          case d5 => have h5 := HWq1.out.2.size; first | omega | (simp; omega)
          intro v1 w6 hown1 hgr1 _
          obtain ⟨a8, c8, rfl⟩ := own_form (L := L ++ [x]) (by simpa using hown1)
          have HN6 := hid (HA.out.app hgr1 hown1)
          clear hown1 hgr1 HA
          go_wp2
          go_roundw
          case rel => exact ⟨i + 1, k + 1, L ++ [x], a8, c8, by omega, by omega, by simp; omega, by go_num, by go_num, by simp, HE, HN6⟩
          case measure => simp [intOf]; omega
        · have h2 : ¬ x ≤ y := by omega
          have HE : Hid ((L ++ [y]) ++ ch kOr (s.drop i) (o.drop (k + 1)) = ch kOr s o) := by have := HL.out; rw [e1.out, e2.out, or_gt h1] at this; rw [e1.out]; exact snoc this
          go_wp2
          go_quiet (fail)
          obtain ⟨wq0, hwq0⟩ : ∃ x, x = World.drewN wr nq := ⟨_, rfl⟩
          rw [← hwq0]
          have HWq0 : Hid (Now w a5 c5 L wq0) := by unfold Hid; rw [hwq0]; exact HW.out.below (below_drewN (Below.refl _ _) _)
          have d0q0 := d0
          rw [show wr.cell? = wq0.cell? from by rw [hwq0]; rfl] at d0q0
          clear d0
          have d1q0 := d1
          rw [show wr.cell? = wq0.cell? from by rw [hwq0]; rfl] at d1q0
          clear d1
          clear hwq0 HW
          have HA := hid (HWq0.out.below ((Below.refl _ wq0).alloc (Nat.le_refl _) (.cells #[.int .i64 y] 3)))
          go_wp2_with (at_builtin; refine wpList_append_own _ rfl (.tmp 73) (.tmp 78) 22 rfl w.heap.size 3 i0 (.int .i64 0) 1 8 Try.underlying22 hi hz0 hz1 hz2 rfl (by decide) _ _ _ rfl HA.out.1 ⟨wq0.heap.size, 0, none⟩ 1 1 [.int .i64 y] rfl rfl ?d1 ?d2 ?d3 ?d4 ?d5 ?_)
          case d1 => intro j u hj; exact one_row _ _ _ j u hj
          case d2 => intro u hu; simp at hu; subst hu; rfl
          case d3 => unfold maxLen; omega
          case d4 => omega
          case d5 => have h5 := HWq0.out.2.size; first | omega | (simp; omega)
          intro v1 w6 hown1 hgr1 _
          obtain ⟨a8, c8, rfl⟩ := own_form (L := L ++ [y]) (by simpa using hown1)
          have HN6 := hid (HA.out.app hgr1 hown1)
          clear hown1 hgr1 HA
          go_wp2
          go_roundw
          case rel => exact ⟨i, k + 1, L ++ [y], a8, c8, by omega, by omega, by simp; omega, by go_num, by go_num, by simp, HE, HN6⟩
          case measure => simp [intOf]; omega
      · obtain rfl : k = n' := by omega
        have h3 : ((k : Int) == (k : Int)) = true := by simp
        have h4 : ¬ (k : Int) < (k : Int) := by omega
        have e2 : Hid (o.drop k = []) := List.drop_of_length_le (by have := HN'.out; omega)
        have HE : Hid ((L ++ [x]) ++ ch kOr (s.drop (i + 1)) (o.drop k) = ch kOr s o) := by have := HL.out; rw [e1.out, e2.out, or_left] at this; rw [e2.out]; exact snoc this
        go_wp2
        go_quiet (fail)
        obtain ⟨wq0, hwq0⟩ : ∃ x, x = World.drewN wr nq := ⟨_, rfl⟩
        rw [← hwq0]
        have HWq0 : Hid (Now w a5 c5 L wq0) := by unfold Hid; rw [hwq0]; exact HW.out.below (below_drewN (Below.refl _ _) _)
        have d0q0 := d0
        rw [show wr.cell? = wq0.cell? from by rw [hwq0]; rfl] at d0q0
        clear d0
        clear hwq0 HW
        go_wp2
        go_quiet (fail)
        obtain ⟨wq1, hwq1⟩ : ∃ x, x = World.drewN wq0 nq := ⟨_, rfl⟩
        rw [← hwq1]
        have HWq1 : Hid (Now w a5 c5 L wq1) := by unfold Hid; rw [hwq1]; exact HWq0.out.below (below_drewN (Below.refl _ _) _)
        have d0q1 := d0q0
        rw [show wq0.cell? = wq1.cell? from by rw [hwq1]; rfl] at d0q1
        clear d0q0
        clear hwq1 HWq0
        have HA := hid (HWq1.out.below ((Below.refl _ wq1).alloc (Nat.le_refl _) (.cells #[.int .i64 x] 3)))
        go_wp2_with (at_builtin; refine wpList_append_own _ rfl (.tmp 64) (.tmp 69) 22 rfl w.heap.size 3 i0 (.int .i64 0) 1 8 Try.underlying22 hi hz0 hz1 hz2 rfl (by decide) _ _ _ rfl HA.out.1 ⟨wq1.heap.size, 0, none⟩ 1 1 [.int .i64 x] rfl rfl ?d1 ?d2 ?d3 ?d4 ?d5 ?_)
        case d1 => intro j u hj; exact one_row _ _ _ j u hj
        case d2 => intro u hu; simp at hu; subst hu; rfl
        case d3 => unfold maxLen; omega
        case d4 => omega
        case d5 => have h5 := HWq1.out.2.size; first | omega | (simp; omega)
        intro v1 w6 hown1 hgr1 _
        obtain ⟨a8, c8, rfl⟩ := own_form (L := L ++ [x]) (by simpa using hown1)
        have HN6 := hid (HA.out.app hgr1 hown1)
        clear hown1 hgr1 HA
        go_wp2
        go_roundw
        case rel => exact ⟨i + 1, k, L ++ [x], a8, c8, by omega, by omega, by simp; omega, by go_num, by go_num, by simp, HE, HN6⟩
        case measure => simp [intOf]; omega
    · have hii : ¬ (i : Int) < (n : Int) := by omega
      have e1 : Hid (s.drop i = []) := List.drop_of_length_le (by have := HN.out; omega)
      by_cases hk1 : k < n'
      · have hkl : Hid (k < o.length) := by have := HN'.out; unfold Hid; omega
        have hkk : (k : Int) < (n' : Int) := by omega
        have hne : ((k : Int) == (n' : Int)) = false := by rw [beq_eq_false_iff_ne]; omega
        rcases HR'.out with hr | ⟨b', off', rfl, hbl', hc'⟩
        · exact absurd HN'.out (by rw [hr]; simp; omega)
        have d1 := (HW.out.2.cell (p := ⟨b', off' + k, none⟩) hbl').trans (hc' k hkl.out)
        have e2 := hid (drop_get hkl.out)
        clear hc'
        generalize o.getD k 0 = y at *
        have HE : Hid ((L ++ [y]) ++ ch kOr (s.drop i) (o.drop (k + 1)) = ch kOr s o) := by have := HL.out; rw [e1.out, e2.out, or_right] at this; rw [e1.out]; exact snoc this
        go_wp2
        go_quiet (fail)
        obtain ⟨wq0, hwq0⟩ : ∃ x, x = World.drewN wr nq := ⟨_, rfl⟩
        rw [← hwq0]
        have HWq0 : Hid (Now w a5 c5 L wq0) := by unfold Hid; rw [hwq0]; exact HW.out.below (below_drewN (Below.refl _ _) _)
        have d1q0 := d1
        rw [show wr.cell? = wq0.cell? from by rw [hwq0]; rfl] at d1q0
        clear d1
        clear hwq0 HW
        have HA := hid (HWq0.out.below ((Below.refl _ wq0).alloc (Nat.le_refl _) (.cells #[.int .i64 y] 3)))
        go_wp2_with (at_builtin; refine wpList_append_own _ rfl (.tmp 73) (.tmp 78) 22 rfl w.heap.size 3 i0 (.int .i64 0) 1 8 Try.underlying22 hi hz0 hz1 hz2 rfl (by decide) _ _ _ rfl HA.out.1 ⟨wq0.heap.size, 0, none⟩ 1 1 [.int .i64 y] rfl rfl ?d1 ?d2 ?d3 ?d4 ?d5 ?_)
        case d1 => intro j u hj; exact one_row _ _ _ j u hj
        case d2 => intro u hu; simp at hu; subst hu; rfl
        case d3 => unfold maxLen; omega
        case d4 => omega
        case d5 => have h5 := HWq0.out.2.size; first | omega | (simp; omega)
        intro v1 w6 hown1 hgr1 _
        obtain ⟨a8, c8, rfl⟩ := own_form (L := L ++ [y]) (by simpa using hown1)
        have HN6 := hid (HA.out.app hgr1 hown1)
        clear hown1 hgr1 HA
        go_wp2
        go_roundw
        case rel => exact ⟨i, k + 1, L ++ [y], a8, c8, by omega, by omega, by simp; omega, by go_num, by go_num, by simp, HE, HN6⟩
        case measure => simp [intOf]; omega
      · have hkk : ¬ (k : Int) < (n' : Int) := by omega
        have E : Hid (L = put kOr s o) := by
          unfold Hid
          have := HL.out
          rw [e1.out, List.drop_of_length_le (by have := HN'.out; omega), ch_nil, List.append_nil] at this
          rw [E2.out, ← this]
        go_wp2
        go_ret
        exact ⟨_, rfl, by rw [← E.out]; exact HW.out.1, HW.out.2⟩
end Go.Proofs.Ytaajkgaephhghaa.Ino
