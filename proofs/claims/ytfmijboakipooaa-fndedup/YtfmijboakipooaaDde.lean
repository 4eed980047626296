/- The model's l13Dedup; both DedupSamples. -/
import Derived.Test.YtfmijboakipooaaDdd
namespace Go.Proofs.Ytfmijboakipooaa.Smp
open Go.RowKit

theorem has_none {w : World} {a : Option Addr} {L : List Sm} (h : HasS w a L) : a = none → L = [] := by
  rintro rfl
  rcases h with h | ⟨b, off, h1, _⟩
  · exact h
  · cases h1
theorem dedT_e {gap : Int} {xs ys : List Sm} (h : xs.length = 0) : dedT gap xs ys = ys := by
  cases xs with
  | nil => cases ys <;> rfl
  | cons => simp at h
theorem dedT_2 {gap : Int} {xs ys : List Sm} (h : 0 < xs.length) (h' : 0 < ys.length) (hlt : (ys.getD 0 e0).1 < (xs.getD 0 e0).1) : dedT gap xs ys = ys.getD 0 e0 :: D gap (ys.getD 0 e0).1 (bh (ys.getD 0 e0).1 ys) (bh (ys.getD 0 e0).1 xs) := by
  cases xs with
  | nil => simp at h
  | cons x X =>
    cases ys with
    | nil => simp at h'
    | cons y Y => simp at hlt; simp [dedT, hlt]
theorem dedT_1 {gap : Int} {xs ys : List Sm} (h : 0 < xs.length) (hlt : 0 < ys.length → ¬ (ys.getD 0 e0).1 < (xs.getD 0 e0).1) : dedT gap xs ys = xs.getD 0 e0 :: D gap (xs.getD 0 e0).1 (bh (xs.getD 0 e0).1 xs) (bh (xs.getD 0 e0).1 ys) := by
  cases xs with
  | nil => simp at h
  | cons x X =>
    cases ys with
    | nil => rfl
    | cons y Y =>
      have := hlt (by simp)
      simp at this
      simp [dedT, show ¬ y.1 < x.1 from by omega]

set_option maxHeartbeats 4000000 in
theorem f39 (a b : Option Addr) (c d : Nat) (xs ys : List Sm) (gap : Int) (w : World) (hx : Tml xs) (hy : Tml ys) (hpw : ys.Pairwise (fun x y => x.1 < y.1)) (hr : HasS w a xs) (hs : HasS w b ys) (hg0 : 0 ≤ gap) (hg1 : gap ≤ 1000000) :
    Calls Try.prog 39 #[.slice a xs.length c, .slice b ys.length d, .int .i64 gap] w fun e w' => ∃ v, e = .returned v ∧ Own w' w.heap.size v (dedT gap xs ys) ∧ Below w.heap.size w w' := by
  have HTL : Hid ((dedT gap xs ys).length ≤ 2097152) := by
    have h1 := dedT_len gap xs ys hpw
    have h2 := hx.1
    have h3 := hy.1
    unfold Hid; omega
  have hn20 := hx.1
  have hm20 := hy.1
  by_cases hn : xs.length = 0
  · have q1 : ((xs.length : Int) == 0) = true := by simp [hn]
    have HE := hid (dedT_e (gap := gap) (ys := ys) hn)
    clear hn
    go_enter Try.func39, Try.ntmps39
    go_wp2_with fail
    refine (f47n b d ys _ hm20 hs (has_none hs)).mono ?_
    rintro e w1 ⟨v1, rfl, ho1, hb1⟩
    go_wp2
    go_ret
    exact ⟨_, rfl, by rw [HE.out]; exact ho1, hb1⟩
  · have q1 : ((xs.length : Int) == 0) = false := beq_eq_false_iff_ne.2 (by omega)
    have hp1 : 0 < xs.length := by omega
    have p1 : (0 : Int) < (xs.length : Int) := by omega
    by_cases hm : ys.length = 0
    · have q2 : decide (0 < ys.length) = false := decide_eq_false (by omega)
      have HE := hid (dedT_1 (gap := gap) (ys := ys) hp1 (by omega))
      have HC := fun W hb => hid (f48 a b c d xs ys gap W hx hy (hr.below hb) (hs.below hb) hp1 hg0 hg1 _ HE.out HTL.out)
      clear hn hm
      go_enter Try.func39, Try.ntmps39
      go_wp2_with fail
      go_quiet (fail)
      go_wp2_with fail
      refine (HC (w.drewN nq) (below_drewN (Below.refl _ _) _)).out.mono ?_
      rintro e w1 ⟨v1, rfl, ho1, hb1⟩
      go_wp2
      go_ret
      exact ⟨_, rfl, ho1, (below_drewN (Below.refl _ _) _).trans hb1⟩
    · have q2 : decide (0 < ys.length) = true := decide_eq_true (by omega)
      have hp2 : 0 < ys.length := by omega
      have p2 : (0 : Int) < (ys.length : Int) := by omega
      obtain ⟨ba, oa, ea, _, x0, _⟩ := has_first hr hp1
      obtain ⟨bb, ob, eb, _, y0, _⟩ := has_first hs hp2
      by_cases hlt : (ys.getD 0 e0).1 < (xs.getD 0 e0).1
      · have HE := hid (dedT_2 (gap := gap) hp1 hp2 hlt)
        have HC := fun W hb => hid (f48 b a d c ys xs gap W hy hx (hs.below hb) (hr.below hb) hp2 hg0 hg1 _ HE.out HTL.out)
        clear hn hm HE
        generalize hA : (xs.getD 0 e0).1 = X at *
        generalize hB : (ys.getD 0 e0).1 = Y at *
        subst ea eb
        clear hA hB
        go_enter Try.func39, Try.ntmps39
        go_wp2_with fail
        go_quiet (fail)
        go_wp2_with fail
        refine (HC (w.drewN nq) (below_drewN (Below.refl _ _) _)).out.mono ?_
        rintro e w1 ⟨v1, rfl, ho1, hb1⟩
        go_wp2
        go_ret
        exact ⟨_, rfl, ho1, (below_drewN (Below.refl _ _) _).trans hb1⟩
      · have HE := hid (dedT_1 (gap := gap) (ys := ys) hp1 (fun _ => hlt))
        have HC := fun W hb => hid (f48 a b c d xs ys gap W hx hy (hr.below hb) (hs.below hb) hp1 hg0 hg1 _ HE.out HTL.out)
        clear hn hm HE
        generalize hA : (xs.getD 0 e0).1 = X at *
        generalize hB : (ys.getD 0 e0).1 = Y at *
        subst ea eb
        clear hA hB
        go_enter Try.func39, Try.ntmps39
        go_wp2_with fail
        go_quiet (fail)
        go_wp2_with fail
        refine (HC (w.drewN nq) (below_drewN (Below.refl _ _) _)).out.mono ?_
        rintro e w1 ⟨v1, rfl, ho1, hb1⟩
        go_wp2
        go_ret
        exact ⟨_, rfl, ho1, (below_drewN (Below.refl _ _) _).trans hb1⟩
theorem good_tml {L : List Sm} (h : GoodP L) : Tml L := ⟨by have := h.1; omega, good_mem h⟩

set_option maxHeartbeats 2000000 in
theorem f17 (a b : Option Addr) (c d : Nat) (xs ys : List Sm) (gap : Int) (w : World) (h20 : xs.length ≤ 1048576) (h21 : ys.length ≤ 1048576) (hr : HasS w a xs) (hs : HasS w b ys) :
    Calls Try.prog 17 #[.slice a xs.length c, .slice b ys.length d, .int .i64 gap] w fun e w' => ∃ v, e = .returned v ∧ Own w' w.heap.size v (dedA xs ys gap) ∧ Below w.heap.size w w' := by
  have HR := hid hr
  have HS := hid hs
  have HNo := hid (dedA_no (xs := xs) (ys := ys) (gap := gap))
  clear hr hs
  go_enter Try.func17, Try.ntmps17
  go_wp2_with fail
  refine (f8 a c xs _ h20 HR.out).mono ?_
  rintro e w1 ⟨rfl, hb1⟩
  have HB1 := hid hb1
  clear hb1
  by_cases hg : GoodP xs
  · rw [show goodS xs = true from decide_eq_true hg]
    go_wp2_with fail
    refine (f8 b d ys _ h21 (HS.out.below HB1.out)).mono ?_
    rintro e w2 ⟨rfl, hb2⟩
    have HB2 := hid (HB1.out.trans (hb2.mono HB1.out.size))
    clear hb2
    by_cases hg2 : GoodP ys
    · rw [show goodS ys = true from decide_eq_true hg2]
      by_cases h3 : 0 ≤ gap
      · by_cases h4 : gap ≤ 1000000
        · have HY := hid (dedA_yes hg hg2 h3 h4)
          have HC := hid (f39 a b c d xs ys gap w2 (good_tml hg) (good_tml hg2) (good_pw hg2) (HR.out.below HB2.out) (HS.out.below HB2.out) h3 h4)
          have HML := hid (dedT_len gap xs ys (good_pw hg2))
          clear hg hg2
          go_wp2_with fail
          refine HC.out.mono ?_
          rintro e w3 ⟨v, rfl, ho, hb3⟩
          have HB3 := hid (HB2.out.trans (hb3.mono HB2.out.size))
          have HO := hid (ho.mono HB2.out.size)
          obtain ⟨ao, co, rfl⟩ := own_form ho
          clear ho hb3 HC
          generalize hM : dedT gap xs ys = M at *
          have HL := HML.out
          by_cases h5 : M.length ≤ 2000
          · have HE := hid (HY.out h5)
            go_wp2
            go_ret
            exact ⟨_, rfl, by rw [HE.out]; exact HO.out, HB3.out⟩
          · have HE := hid (HNo.out (fun h => h5 h.2.2.2.2))
            go_wp2
            go_ret
            exact ⟨_, rfl, by rw [HE.out]; exact Own.nil _ _, HB3.out⟩
        · have HE := hid (HNo.out (fun h => h4 h.2.2.2.1))
          clear hg hg2
          go_wp2
          go_ret
          exact ⟨_, rfl, by rw [HE.out]; exact Own.nil _ _, HB2.out⟩
      · have HE := hid (HNo.out (fun h => h3 h.2.2.1))
        clear hg hg2
        go_wp2
        go_ret
        exact ⟨_, rfl, by rw [HE.out]; exact Own.nil _ _, HB2.out⟩
    · rw [show goodS ys = false from decide_eq_false hg2]
      have HE := hid (HNo.out (fun h => hg2 h.2.1))
      clear hg hg2
      go_wp2
      go_ret
      exact ⟨_, rfl, by rw [HE.out]; exact Own.nil _ _, HB2.out⟩
  · rw [show goodS xs = false from decide_eq_false hg]
    have HE := hid (HNo.out (fun h => hg h.1))
    clear hg
    go_wp2
    go_ret
    exact ⟨_, rfl, by rw [HE.out]; exact Own.nil _ _, HB1.out⟩

set_option maxHeartbeats 2000000 in
theorem f13 (a b : Option Addr) (c d : Nat) (xs ys : List Sm) (gap : Int) (w : World) (h20 : xs.length ≤ 1048576) (h21 : ys.length ≤ 1048576) (hr : HasS w a xs) (hs : HasS w b ys) (hc : xs.length ≤ c) (hd : ys.length ≤ d) (hna : a = none → c = 0) (hnb : b = none → d = 0) :
    Calls Try.prog 13 #[.slice a xs.length c, .slice b ys.length d, .int .i64 gap] w fun e w' => ∃ v, e = .returned v ∧ Own w' w.heap.size v (dedA xs ys gap) ∧ Below w.heap.size w w' := by
  have HR := hid hr
  have HS := hid hs
  have HMX : Hid (xs.length ≤ maxLen) := by unfold Hid maxLen; omega
  have HMY : Hid (ys.length ≤ maxLen) := by unfold Hid maxLen; omega
  have HC0 := hid hc
  have HD0 := hid hd
  have HNA := hid hna
  have HNB := hid hnb
  have HNo := hid (dedA_no (xs := xs) (ys := ys) (gap := gap))
  clear hr hs hc hd hna hnb
  go_enter Try.func13, Try.ntmps13
  go_wp2_with fail
  refine (f29 a c xs _ HMX.out HR.out).mono ?_
  rintro e w1 ⟨rfl, hb1⟩
  have HB1 := hid hb1
  clear hb1
  by_cases hg : GoodP xs
  · rw [show goodS xs = true from decide_eq_true hg]
    go_wp2_with fail
    refine (f29 b d ys _ HMY.out (HS.out.below HB1.out)).mono ?_
    rintro e w2 ⟨rfl, hb2⟩
    have HB2 := hid (HB1.out.trans (hb2.mono HB1.out.size))
    clear hb2
    by_cases hg2 : GoodP ys
    · rw [show goodS ys = true from decide_eq_true hg2]
      go_wp2_with fail
      refine (f35 gap _).mono ?_
      rintro e w2' ⟨rfl, rfl⟩
      by_cases h3 : 0 ≤ gap ∧ gap ≤ 1000000
      · have HY := hid (dedA_yes hg hg2 h3.1 h3.2)
        have HC := hid (f36 a b c d xs ys gap _ (good_tml hg) (good_tml hg2) (good_pw hg2) (HR.out.below HB2.out) (HS.out.below HB2.out) HC0.out HD0.out HNA.out HNB.out h3.1 h3.2)
        have HML := hid (dedT_len gap xs ys (good_pw hg2))
        rw [show decide (0 ≤ gap ∧ gap ≤ 1000000) = true from decide_eq_true h3]
        clear hg hg2 h3
        go_wp2_with fail
        refine HC.out.mono ?_
        rintro e w3 ⟨v, rfl, ho, hb3⟩
        have HB3 := hid (HB2.out.trans (hb3.mono HB2.out.size))
        have HO := hid (ho.mono HB2.out.size)
        obtain ⟨ao, co, rfl⟩ := own_form ho
        clear ho hb3 HC
        generalize hM : dedT gap xs ys = M at *
        have HL := HML.out
        by_cases h5 : M.length ≤ 2000
        · have HE := hid (HY.out h5)
          go_wp2
          go_ret
          exact ⟨_, rfl, by rw [HE.out]; exact HO.out, HB3.out⟩
        · have HE := hid (HNo.out (fun h => h5 h.2.2.2.2))
          go_wp2
          go_ret
          exact ⟨_, rfl, by rw [HE.out]; exact Own.nil _ _, HB3.out⟩
      · have HE := hid (HNo.out (fun h => h3 ⟨h.2.2.1, h.2.2.2.1⟩))
        rw [show decide (0 ≤ gap ∧ gap ≤ 1000000) = false from decide_eq_false h3]
        clear hg hg2 h3
        go_wp2
        go_ret
        exact ⟨_, rfl, by rw [HE.out]; exact Own.nil _ _, HB2.out⟩
    · rw [show goodS ys = false from decide_eq_false hg2]
      have HE := hid (HNo.out (fun h => hg2 h.2.1))
      clear hg hg2
      go_wp2
      go_ret
      exact ⟨_, rfl, by rw [HE.out]; exact Own.nil _ _, HB2.out⟩
  · rw [show goodS xs = false from decide_eq_false hg]
    have HE := hid (HNo.out (fun h => hg h.1))
    clear hg
    go_wp2
    go_ret
    exact ⟨_, rfl, by rw [HE.out]; exact Own.nil _ _, HB1.out⟩
end Go.Proofs.Ytfmijboakipooaa.Smp
