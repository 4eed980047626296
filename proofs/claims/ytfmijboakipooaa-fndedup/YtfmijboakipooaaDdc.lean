/- The program's dedup. -/
import Derived.Test.YtfmijboakipooaaDdb
namespace Go.Proofs.Ytfmijboakipooaa.Smp
open Go.RowKit

theorem dgo_e {xs ys : List Sm} (h : xs.length = 0) : dgo xs ys = true := by
  cases xs with
  | nil => rfl
  | cons => simp at h
theorem dgo_o {xs ys : List Sm} (h : 0 < xs.length) (h' : ys.length = 0) : dgo xs ys = false := by
  cases xs with
  | nil => simp at h
  | cons =>
    cases ys with
    | nil => rfl
    | cons => simp at h'
theorem dgo_b {xs ys : List Sm} (h : 0 < xs.length) (h' : 0 < ys.length) : dgo xs ys = decide ((ys.getD 0 e0).1 < (xs.getD 0 e0).1) := by
  cases xs with
  | nil => simp at h
  | cons =>
    cases ys with
    | nil => simp at h'
    | cons => simp [dgo]
/-- What has been told, and what is left of the lists. -/
def Ddi (w : World) (T : List Sm) (gap l : Int) (O : List Sm) (s8 s9 : Value) : Prop := ∃ (A B : List Sm) (i j : Nat), Tml A ∧ Tml B ∧ Rest w A i s8 ∧ Rest w B j s9 ∧ T = O ++ D gap l (A.drop i) (B.drop j)

set_option maxHeartbeats 8000000 in
set_option maxRecDepth 100000 in
theorem f36 (a b : Option Addr) (c d : Nat) (xs ys : List Sm) (gap : Int) (w : World) (hx : Tml xs) (hy : Tml ys) (hpw : ys.Pairwise (fun x y => x.1 < y.1)) (hr : HasS w a xs) (hs : HasS w b ys) (hc : xs.length ≤ c) (hd : ys.length ≤ d) (hna : a = none → c = 0) (hnb : b = none → d = 0) (hg0 : 0 ≤ gap) (hg1 : gap ≤ 1000000) :
    Calls Try.prog 36 #[.slice a xs.length c, .slice b ys.length d, .int .i64 gap] w fun e w' => ∃ v, e = .returned v ∧ Own w' w.heap.size v (dedT gap xs ys) ∧ Below w.heap.size w w' := by
  obtain ⟨i0, hi, hz0, hz1, hz2⟩ := info_parts infoS
  have HRA := hid (Rest.init hr hc hna)
  have HRB := hid (Rest.init hs hd hnb)
  have HXT := hid hx
  have HYT := hid hy
  have hn20 := hx.1
  have hm20 := hy.1
  have HTL := hid (dedT_len gap xs ys hpw)
  have HYES := hid (dedT_yes (gap := gap) (xs := xs) hpw)
  have HNO := hid (dedT_no (gap := gap) (xs := xs) (ys := ys))
  have HDE := hid (dgo_e (xs := xs) (ys := ys))
  have HDO := hid (dgo_o (xs := xs) (ys := ys))
  have HDB := hid (dgo_b (xs := xs) (ys := ys))
  have HHA := hid (has_first hr)
  have HHB := hid (has_first hs)
  clear hx hy hpw hc hd hna hnb hr hs
  generalize xs.length = n at *
  generalize ys.length = m at *
  generalize hq : dgo xs ys = q at *
  clear hq
  go_enter Try.func36, Try.ntmps36
  go_upto_region 3 with fail
  go_cut [32] from 12 to 89 (fun cc wx => cc = .bool q ∧ Hid (Below w.heap.size w wx))
  case first =>
    by_cases hn : n = 0
    · have q1 : ((n : Int) == 0) = true := by simp [hn]
      have HQ := hid (HDE.out hn)
      clear hn
      go_quiet (fail)
      go_wp2
      go_meet
      exact ⟨by rw [HQ.out], below_drewN (Below.refl _ _) _⟩
    · have q1 : ((n : Int) == 0) = false := beq_eq_false_iff_ne.2 (by omega)
      have hn' : (0 : Int) < (n : Int) := by omega
      by_cases hm : m = 0
      · have q2 : decide (0 < m) = false := decide_eq_false (by omega)
        have HQ := hid (HDO.out (by omega) hm)
        clear hm
        go_quiet (fail)
        go_wp2
        go_meet
        exact ⟨by rw [HQ.out], below_drewN (Below.refl _ _) _⟩
      · have hm' : (0 : Int) < (m : Int) := by omega
        have q2 : decide (0 < m) = true := decide_eq_true (by omega)
        have HQ := hid (HDB.out (by omega) (by omega))
        obtain ⟨ba, oa, rfl, _, x0, _⟩ := HHA.out (by omega)
        obtain ⟨bb, ob, rfl, _, y0, _⟩ := HHB.out (by omega)
        generalize (ys.getD 0 e0).1 = Y at *
        generalize (xs.getD 0 e0).1 = X at *
        go_quiet (fail)
        go_wp2
        go_meet
        exact ⟨by rw [HQ.out], below_drewN (Below.refl _ _) _⟩
  case rest =>
  obtain ⟨rfl, hbw⟩ := hcut
  generalize hT : dedT gap xs ys = T at *
  have HTT := hid hT
  clear hT
  go_upto_if 32 with fail
  go_cut [8, 9] from 12 to 89 (fun s8 s9 wx => Hid (Ddi w T gap 0 [] s8 s9) ∧ Hid (Below w.heap.size w wx))
  case first =>
    cases q with
    | true =>
      have HE := hid (HYES.out rfl)
      go_wp2
      go_meet
      exact ⟨⟨ys, xs, 0, 0, HYT.out, HXT.out, HRB.out, HRA.out, HE.out⟩, hbw⟩
    | false =>
      have HE := hid (HNO.out rfl)
      go_wp2
      go_meet
      exact ⟨⟨xs, ys, 0, 0, HXT.out, HYT.out, HRA.out, HRB.out, HE.out⟩, hbw⟩
  case rest =>
  obtain ⟨hdi, hbx⟩ := hcut
  clear HRA HRB HXT HYT HYES HNO HDE HDO HDB HHA HHB hbw
  go_wp2_with fail
  go_loopw [7, 8, 9, 10] (fun so s8 s9 sl wr => ∃ (O : List Sm) (l : Int), sl = .int .i64 l ∧ TimeP l ∧ Own wr w.heap.size so O ∧ Hid (Ddi w T gap l O s8 s9) ∧ Hid (Below w.heap.size w wr)) (fun so _ _ _ _ => T.length - lenOf so)
  case atStart => exact ⟨[], 0, rfl, by unfold TimeP; omega, Own.nil _ _, hdi, hbx⟩
  case round =>
    obtain ⟨O, l, rfl, hl, hown, hdi', hnx⟩ := hrel
    obtain ⟨A, B, i, j, hA, hB, hra, hrb, hTe⟩ := hdi'.out
    have HO := hid hown
    have HX := hid hnx.out
    have HRA := hid hra
    have HRB := hid hrb
    have HTA := hid hA
    have HTB := hid hB
    have HT := hid hTe
    have HL := hid hl
    have hl0 : 0 ≤ l := hl.1
    have hl1 : l ≤ 1000000000000 := hl.2
    obtain ⟨ao, co, rfl⟩ := own_form hown
    obtain ⟨ag, cg, rfl⟩ := hra.len
    obtain ⟨ah, ch, rfl⟩ := hrb.len
    have lA : A.length ≤ 1048576 := hA.1
    have lB : B.length ≤ 1048576 := hB.1
    clear hdi hbx hown hnx hdi' hra hrb hA hB hTe hl
    by_cases hne : i < A.length ∨ j < B.length
    · have HNE := hid hne
      have HSW1 := hid (go_stay (gap := gap) (last := l) (A := A) (B := B) (i := i) (j := j))
      have HSW2 := hid (go_swap (gap := gap) (last := l) (A := A) (B := B) (i := i) (j := j))
      have HSE := hid (sw_e (gap := gap) (last := l) (A := A) (B := B) (i := i) (j := j))
      have HSO := hid (sw_o (gap := gap) (last := l) (A := A) (B := B) (i := i) (j := j))
      have HSB := hid (sw_b (gap := gap) (last := l) (A := A) (B := B) (i := i) (j := j))
      have HHA := hid HRA.out.head
      have HHB := hid HRB.out.head
      generalize hgl : A.length - i = gl at *
      generalize hhl : B.length - j = hl at *
      have HGL := hid hgl
      have HHL := hid hhl
      clear hgl hhl
      clear hne
      generalize hq : sw gap l (A.drop i) (B.drop j) = q at *
      have HQQ := hid hq
      clear hq
      go_upto_region 5 with fail
      go_cut [42] from 35 to 88 (fun cc wx => cc = .bool true ∧ Hid (wx = wr))
      case first =>
        by_cases h1 : i < A.length
        · have h3 : decide (0 < gl) = true := decide_eq_true (by have := HGL.out; omega)
          have h4 : 0 < gl := by have := HGL.out; omega
          go_wp2
          go_meet
          exact ⟨rfl, rfl⟩
        · have h3 : decide (0 < gl) = false := decide_eq_false (by have := HGL.out; omega)
          have h4 : ¬ 0 < gl := by have := HGL.out; omega
          have h5 : decide (0 < hl) = true := decide_eq_true (by have := HHL.out; have := HNE.out; omega)
          have h6 : 0 < hl := by have := HHL.out; have := HNE.out; omega
          go_wp2
          go_meet
          exact ⟨rfl, rfl⟩
      case rest =>
      obtain ⟨rfl, hw⟩ := hcut
      have hw := hw.out
      subst hw
      go_upto_region 6 with fail
      go_cut [71] from 35 to 88 (fun cc wx => cc = .bool q ∧ Hid (Below w.heap.size w wx) ∧ Hid (Own wx w.heap.size (.slice ao O.length co) O))
      case first =>
        by_cases h1 : i < A.length
        · have n1 : ((gl : Int) == 0) = false := beq_eq_false_iff_ne.2 (by have := HGL.out; omega)
          have p1 : (0 : Int) < (gl : Int) := by have := HGL.out; omega
          by_cases h2 : j < B.length
          · obtain ⟨b1, o1, r1, c1, e1, _, hs1, hb1, g0, _, _, _⟩ := HHA.out h1
            simp only [Value.slice.injEq] at hs1
            obtain ⟨rfl, -, rfl⟩ := hs1
            have z1 := HTA.out.at h1
            obtain ⟨b2, o2, r2, c2, e2, _, hs2, hb2, y0, _, _, _⟩ := HHB.out h2
            simp only [Value.slice.injEq] at hs2
            obtain ⟨rfl, -, rfl⟩ := hs2
            have p2 : (0 : Int) < (hl : Int) := by have := HHL.out; omega
            have p3 : decide (0 < hl) = true := decide_eq_true (by have := HHL.out; omega)
            clear e1 e2
            have HQ := hid (HSB.out h1 h2)
            have k1 := (HX.out.cell (p := ⟨b1, o1, none⟩) hb1).trans g0
            have k2 := (HX.out.cell (p := ⟨b2, o2, none⟩) hb2).trans y0
            have z2 := HTB.out.at h2
            generalize (A.getD i e0).1 = X at *
            generalize (B.getD j e0).1 = Y at *
            have x0 : 0 ≤ X := z1.1
            have x1 : X ≤ 1000000000000 := z1.2
            clear g0 y0 HHA HHB
            by_cases h3 : gap < X - l
            · have h4 : decide (gap < X - l) = true := decide_eq_true h3
              have HQ2 : Hid (q = decide (Y < X)) := by unfold Hid; rw [HQ.out, Bool.eq_iff_iff]; simp [h3]
              go_quiet (fail)
              go_wp2
              go_meet
              exact ⟨by rw [HQ2.out], below_drewN HX.out _, own_drewN HO.out _⟩
            · have h4 : decide (gap < X - l) = false := decide_eq_false h3
              have HQ2 : Hid (q = false) := by unfold Hid; rw [HQ.out]; exact decide_eq_false fun h => h3 h.1
              go_quiet (fail)
              go_wp2
              go_meet
              exact ⟨by rw [HQ2.out], below_drewN HX.out _, own_drewN HO.out _⟩
          · have h4 : decide (0 < hl) = false := decide_eq_false (by have := HHL.out; omega)
            have HQ := hid (HSO.out h1 (by omega))
            clear HHA HHB
            go_quiet (fail)
            go_wp2
            go_meet
            exact ⟨by rw [HQ.out], below_drewN HX.out _, own_drewN HO.out _⟩
        · have h3 : ((gl : Int) == 0) = true := by have := HGL.out; simp; omega
          have HQ := hid (HSE.out (by omega))
          clear HHA HHB
          go_quiet (fail)
          go_wp2
          go_meet
          exact ⟨by rw [HQ.out], below_drewN HX.out _, own_drewN HO.out _⟩
      case rest =>
      obtain ⟨rfl, HX, HO⟩ := hcut
      obtain ⟨wq, rfl⟩ : ∃ wq, wq = wc := ⟨_, rfl⟩
      generalize hR : D gap l (A.drop i) (B.drop j) = R at *
      clear hR
      go_upto_if 71 with fail
      go_cut [8, 9] from 35 to 88 (fun s8 s9 wx => Hid (Nxt w gap R s8 s9) ∧ Hid (wx = wq))
      case first =>
        cases q with
        | true =>
          have hj : j < B.length := by
            by_cases h : i < A.length
            · by_cases h2 : j < B.length
              · exact h2
              · exact absurd (HSO.out h (by omega)) (by simp)
            · have := HNE.out; omega
          have HE := hid (HSW2.out hj rfl)
          go_wp2
          go_meet
          exact ⟨⟨B, A, j, i, HTB.out, HTA.out, hj, HRB.out, HRA.out, HE.out⟩, rfl⟩
        | false =>
          have hj : i < A.length := by
            by_cases h : i < A.length
            · exact h
            · exact absurd (HSE.out (by omega)) (by simp)
          have HE := hid (HSW1.out hj rfl)
          go_wp2
          go_meet
          exact ⟨⟨A, B, i, j, HTA.out, HTB.out, hj, HRA.out, HRB.out, HE.out⟩, rfl⟩
      case rest =>
      obtain ⟨hnx, hw⟩ := hcut
      have hw := hw.out
      subst hw
      obtain ⟨A, B, i, j, hA, hB, hj, hra, hrb, hRe⟩ := hnx.out
      obtain ⟨b1, o1, r1, c1, e1, _, rfl, hb1, g0, g1, hn1, hn2⟩ := hra.head hj
      obtain ⟨ah, ch, rfl⟩ := hrb.len
      have HRA := hid hra
      have HRB := hid hrb
      have z1 := hA.at hj
      have HTA := hid hA
      have HTB := hid hB
      have k0 := (HX.out.cell (p := ⟨b1, o1, none⟩) hb1).trans g0
      have k1 := (HX.out.cell (p := ⟨b1, o1 + 1, none⟩) hb1).trans g1
      have HRE := hid hRe
      have hOl : O.length + 1 ≤ 2097152 := by
        have h1 := HTL.out
        have h2 := congrArg List.length HT.out
        rw [HRE.out] at h2
        simp at h2
        omega
      generalize A.getD i e0 = p at *
      clear hA hB hra hrb hRe hn1 hn2 e1 g0 g1 hnx
      obtain ⟨s, t⟩ := p
      simp only at k0 k1 z1 HRE
      go_wp2_with (at_builtin; refine wpList_append_own_at _ rfl (.tmp 77) (.tmp 79) 23 rfl w.heap.size 30 i0 (.agg #[.int .i64 0, .int .i64 0]) 2 16 Try.underlying23 hi hz0 hz1 hz2 rfl (by decide) _ _ _ rfl (World.ownsRow.alloc (World.ownsRow.alloc HO.out _) _) ⟨wc.heap.size + 1, 0, none⟩ 1 1 [.int .i64 s, .int .i64 t] rfl rfl ?d1 ?d2 ?d3 ?d4 ?d5 ?_)
      case d2 => exact ⟨rfl, rfl⟩
      case d3 => unfold maxLen; omega
      case d4 => omega
      case d5 => have := HX.out.size; simp; omega
      intro v1 w3 hown1 hgr1 _ hat1
      have HO2 := hid (Own.snoc (p := (s, t)) hown1)
      have hXa := (HX.out.alloc HX.out.size (.cells #[.int .i64 s, .int .i64 t] 30))
      have HX2 := hid ((hXa.alloc hXa.size (.cells #[.int .i64 s, .int .i64 t] 30)).grown hgr1 (by have := HX.out.size; simp; omega) (fun k hk => (World.ownsRow.lt HO.out k hk).1))
      have HBX2 := hid (box_grown (box_alloc (heap_alloc_new wc (.cells #[.int .i64 s, .int .i64 t] 30)) _) hgr1 (fun g hg e => by have := (World.ownsRow.lt HO.out g hg).2; omega))
      have x0 := two0 HBX2.out
      obtain ⟨a1, c1', rfl⟩ := own_form hown1
      clear hown1 hgr1 hat1 hXa k0 k1
      go_wp2_with fail
      refine (f46 w A i _ s _ HTA.out.1 HX2.out HRA.out).mono ?_
      rintro e w4 ⟨k4, v4, rfl, rfl, hr4, hd4⟩
      have HR4 := hid hr4
      have HD4 := hid hd4
      clear hr4 hd4
      go_wp2_with fail
      refine (f46 w B j _ s _ HTB.out.1 HX2.out HRB.out).mono ?_
      rintro e w5 ⟨k5, v5, rfl, rfl, hr5, hd5⟩
      have HR5 := hid hr5
      have HD5 := hid hd5
      clear hr5 hd5
      have HTE : Hid (T = (O ++ [(s, t)]) ++ D gap s (A.drop k4) (B.drop k5)) := by
        unfold Hid; rw [HT.out, HRE.out, HD4.out, HD5.out, List.append_assoc]; rfl
      go_wp2
      go_roundw
      case rel => exact ⟨O ++ [(s, t)], s, rfl, z1, HO2.out, ⟨A, B, k4, k5, HTA.out, HTB.out, HR4.out, HR5.out, HTE.out⟩, HX2.out⟩
      case measure =>
        have h2 := congrArg List.length HTE.out
        simp at h2
        simp [lenOf]
        omega
    · obtain ⟨hi1, hj1⟩ : A.length ≤ i ∧ B.length ≤ j := by omega
      have HF : Hid (T = O) := by
        unfold Hid; rw [HT.out, List.drop_eq_nil_of_le hi1, List.drop_eq_nil_of_le hj1, D_nil, List.append_nil]
      generalize hgl : A.length - i = gl at *
      generalize hhl : B.length - j = hl at *
      have h3 : decide (0 < gl) = false := decide_eq_false (by omega)
      have h4 : ¬ 0 < gl := by omega
      have h5 : decide (0 < hl) = false := decide_eq_false (by omega)
      have h6 : ¬ 0 < hl := by omega
      clear hne hi1 hj1 hgl hhl
      go_wp2
      go_ret
      exact ⟨_, rfl, by rw [HTT.out, HF.out]; exact HO.out, HX.out⟩
end Go.Proofs.Ytfmijboakipooaa.Smp
