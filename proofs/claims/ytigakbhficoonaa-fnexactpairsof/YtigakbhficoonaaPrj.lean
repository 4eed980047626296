/- PairsOf, of the program and of the model; the walk of FnExactPairsOf. -/
import Derived.Test.YtigakbhficoonaaPri
import Derived.Test.YtigakbhficoonaaKdh
namespace Go.Proofs.Ytigakbhficoonaa.Prs
open Go.RowKit
open Go.Proofs.Ytigakbhficoonaa.Pat (hid)
open Go.Proofs.Ytigakbhficoonaa.Lab (Lb HasL e0 GoodP)
open Go.Proofs.Ytigakbhficoonaa.Str (printL ret_bool)

/-- A text of at most m printed bytes. -/
def textB (s : ByteArray) (m : Nat) : Bool := decide (s.size ≤ m) && printL s.data.toList
theorem f12 (s : ByteArray) (m : Nat) (w : World) (hs : s.size ≤ maxLen) : Calls Try.prog 12 #[.string s, .int .i64 m] w fun e w' => e = .returned (.bool (textB s m)) ∧ w' = w := by
  have hs' := hs
  unfold maxLen at hs'
  have HC := hid (Str.f22 s w hs)
  by_cases g : s.size ≤ m
  · have HS : Hid (textB s m = printL s.data.toList) := by unfold Hid textB; rw [decide_eq_true g, Bool.true_and]
    generalize printL s.data.toList = P at *
    have g' : (s.size : Int) ≤ (m : Int) := by omega
    go_enter Try.func12, Try.ntmps12
    go_wp2_with fail
    refine HC.out.mono ?_
    rintro e w1 ⟨rfl, rfl⟩
    go_wp2
    go_ret
    exact ⟨by rw [HS.out]; first | rfl | simp, rfl⟩
  · have HS : Hid (textB s m = false) := by unfold Hid textB; rw [decide_eq_false g, Bool.false_and]
    have g' : ¬ (s.size : Int) ≤ (m : Int) := by omega
    go_enter Try.func12, Try.ntmps12
    go_wp2
    go_ret
    exact ⟨by rw [HS.out]; first | rfl | simp, rfl⟩
theorem f14 (s : ByteArray) (w : World) (hs : s.size ≤ maxLen) : Calls Try.prog 14 #[.string s] w fun e w' => e = .returned (.bool (textB s 500)) ∧ w' = w := by
  have hs' := hs
  unfold maxLen at hs'
  have HC := hid (Str.f31 s w hs)
  by_cases g : s.size ≤ 500
  · have HS : Hid (textB s 500 = printL s.data.toList) := by unfold Hid textB; rw [decide_eq_true g, Bool.true_and]
    generalize printL s.data.toList = P at *
    have g' : (s.size : Int) ≤ 500 := by omega
    go_enter Try.func14, Try.ntmps14
    go_wp2_with fail
    refine HC.out.mono ?_
    rintro e w1 ⟨rfl, rfl⟩
    go_wp2
    go_ret
    exact ⟨by rw [HS.out]; first | rfl | simp, rfl⟩
  · have HS : Hid (textB s 500 = false) := by unfold Hid textB; rw [decide_eq_false g, Bool.false_and]
    have g' : ¬ (s.size : Int) ≤ 500 := by omega
    go_enter Try.func14, Try.ntmps14
    go_wp2
    go_ret
    exact ⟨by rw [HS.out]; first | rfl | simp, rfl⟩


/-- What PairsOf tells. -/
def pairsR (s : ByteArray) : List Lb := if textB s 500 = true then pairsL s else []
theorem pairsR_len (s : ByteArray) : (pairsR s).length ≤ 20 := by
  unfold pairsR
  split
  · exact (pairs_good s).1
  · exact Nat.zero_le _
theorem text_in {s : ByteArray} (h : textB s 500 = true) : s.size ≤ 500 ∧ printL s.data.toList = true := by
  unfold textB at h
  rw [Bool.and_eq_true] at h
  exact ⟨of_decide_eq_true h.1, h.2⟩
theorem pairsR_yes {s : ByteArray} (h : textB s 500 = true) : pairsR s = pairsL s := by unfold pairsR; rw [if_pos h]
theorem pairsR_no {s : ByteArray} (h : textB s 500 = false) : pairsR s = [] := by unfold pairsR; rw [if_neg (by rw [h]; decide)]
/-- The answer of PairsOf. -/
def AnsR (ls : List Lb) (w : World) (e : Ending) (w' : World) : Prop :=
  ∃ (a : Option Addr) (n c : Nat), e = .returned (.slice a n c) ∧ w'.ownsRow w.heap.size 33 2 (.slice a n c) n (Lab.flat ls) ∧ Below w.heap.size w w'
theorem ans_nil (w : World) : AnsR [] w (.returned (.slice none 0 0)) w := ⟨none, 0, 0, rfl, World.ownsRow_nil _ _ _ _, Below.refl _ _⟩
set_option maxHeartbeats 2000000 in
theorem f5 (s : ByteArray) (w : World) (hs : s.size ≤ maxLen) : Calls Try.prog 5 #[.string s] w (AnsR (pairsR s) w) := by
  have HT := fun w => hid (f12 s 500 w hs)
  cases h : textB s 500
  · rw [pairsR_no h]
    simp only [h] at HT
    have HE := hid (ans_nil w)
    clear h
    go_enter Try.func5, Try.ntmps5
    go_wp2_with fail
    refine (HT _).out.mono ?_
    rintro e w1 ⟨rfl, rfl⟩
    go_wp2
    go_ret
    exact HE.out
  · rw [pairsR_yes h]
    have HC := fun w => hid (f13 s w (text_in h).1)
    simp only [h] at HT
    clear h
    go_enter Try.func5, Try.ntmps5
    go_wp2_with fail
    refine (HT _).out.mono ?_
    rintro e w1 ⟨rfl, rfl⟩
    go_wp2_with fail
    refine (HC _).out.mono ?_
    rintro e w2 ⟨a, c, rfl, ho, hb⟩
    have HE : Hid (AnsR (pairsL s) w1 (.returned (.slice a (pairsL s).length c)) w2) := ⟨a, _, c, rfl, ho, hb⟩
    clear ho hb
    go_wp2
    go_ret
    exact HE.out
set_option maxHeartbeats 2000000 in
theorem f6 (s : ByteArray) (w : World) (hs : s.size ≤ maxLen) : Calls Try.prog 6 #[.string s] w (AnsR (pairsR s) w) := by
  have HT := fun w => hid (f14 s w hs)
  cases h : textB s 500
  · rw [pairsR_no h]
    simp only [h] at HT
    have HE := hid (ans_nil w)
    clear h
    go_enter Try.func6, Try.ntmps6
    go_wp2_with fail
    refine (HT _).out.mono ?_
    rintro e w1 ⟨rfl, rfl⟩
    go_wp2
    go_ret
    exact HE.out
  · rw [pairsR_yes h]
    have HC := fun w => hid (f15 s w (text_in h).1 (text_in h).2)
    simp only [h] at HT
    clear h
    go_enter Try.func6, Try.ntmps6
    go_wp2_with fail
    refine (HT _).out.mono ?_
    rintro e w1 ⟨rfl, rfl⟩
    go_wp2_with fail
    refine (HC _).out.mono ?_
    rintro e w2 ⟨a, c, rfl, ho, hb⟩
    have HE : Hid (AnsR (pairsL s) w1 (.returned (.slice a (pairsL s).length c)) w2) := ⟨a, _, c, rfl, ho, hb⟩
    clear ho hb
    go_wp2
    go_ret
    exact HE.out
set_option maxHeartbeats 4000000 in
set_option maxRecDepth 100000 in
theorem walkPairs (s : ByteArray) (w : World) (hs : s.size ≤ maxLen) :
    Calls Try.prog 3 #[.string s] w fun e w' => e = .returned (.bool true) ∧ Below w.heap.size w w' := by
  have hs' := hs
  unfold maxLen at hs'
  by_cases hbx : 1048576 < s.size
  · go_enter Try.func3, Try.ntmps3
    go_wp2
    go_ret
    exact ⟨rfl, Below.refl _ _⟩
  have hsl := pairsR_len s
  have HSP := fun w => hid (f5 s w hs)
  have HIM := fun w => hid (f6 s w hs)
  generalize pairsR s = sel at *
  go_enter Try.func3, Try.ntmps3
  go_wp2_with fail
  refine (HSP _).out.mono ?_
  rintro e w1 ⟨aw, mw, cw, rfl, ho1, hb1⟩
  have HB1 := hid hb1
  have W1 := hid ho1
  have hmw : sel.length = mw := Lab.own_len ho1
  clear hb1 ho1
  go_wp2_with fail
  refine (HIM _).out.mono ?_
  rintro e w2 ⟨ag, mg, cg, rfl, ho2, hb2⟩
  have HB2 := hid (HB1.out.trans (hb2.mono HB1.out.size))
  have W2 := hid (own_bel W1.out hb2)
  have G2 := hid ho2
  obtain rfl : mw = mg := hmw.symm.trans (Lab.own_len ho2)
  have hmw20 : mw ≤ 20 := by omega
  have BW : Hid (∀ k, (Value.slice aw mw cw).ownBlock = some k → k < w1.heap.size) := fun k hk => (W1.out.lt k hk).2
  have BG : Hid (∀ k, (Value.slice ag mw cg).ownBlock = some k → w1.heap.size ≤ k) := fun k hk => (G2.out.lt k hk).1
  clear hb2 ho2 W1
  go_wp2_with fail
  refine (Lab.f7 _ _ mw cg cw sel _ hmw (by omega) (hasl_own G2.out) (hasl_own W2.out)).mono ?_
  rintro e w3 ⟨rfl, hb3⟩
  have HB3 := hid (HB2.out.trans (hb3.mono HB2.out.size))
  have W3 := hid (own_bel W2.out hb3)
  have G3 := hid (own_bel G2.out hb3)
  clear hb3 W2 G2
  go_wp2_with fail
  have h23 := Lab.f8o ag mw cg w1.heap.size 1 sel w3 (by omega) G3.out
  obtain ⟨k3, hk3⟩ : ∃ k3, k3 = 1 + 2 * mw := ⟨_, rfl⟩
  rw [← hk3] at h23
  have HK3 := hid hk3
  refine h23.mono ?_
  clear h23 hk3
  rintro e w4 ⟨rfl, ho4, hg4⟩
  have HB4 := hid (HB3.out.grown hg4 HB3.out.size (fun k hk => Nat.le_trans HB1.out.size (BG.out k hk)))
  have W4 := hid (W3.out.kept hg4 (by
    cases h1 : (Value.slice aw mw cw).ownBlock with
    | none => exact .inl rfl
    | some k =>
      refine .inr (fun e => ?_)
      have e1 := BG.out _ e.symm
      have e2 := BW.out _ h1
      omega))
  have G4 := hid ho4
  clear hg4 ho4 W3 G3
  go_wp2_with fail
  have h24 := Lab.f9o ag mw cg w1.heap.size 1 w4 (by omega) G4.out
  rw [← HK3.out] at h24
  refine h24.mono ?_
  clear h24
  rintro e w5 ⟨rfl, hb5⟩
  have HB5 := hid (HB4.out.trans (hb5.mono HB4.out.size))
  have W5 := hid (own_bel W4.out hb5)
  have G5 := hid (own_bel G4.out hb5)
  clear hb5 W4 G4
  go_wp2_with fail
  refine (HIM _).out.mono ?_
  rintro e w6 ⟨ah, mh, ch, rfl, ho6, hb6⟩
  obtain rfl : mw = mh := hmw.symm.trans (Lab.own_len ho6)
  have HB6 := hid (HB5.out.trans (hb6.mono HB5.out.size))
  have W6 := hid (own_bel W5.out hb6)
  have G6 := hid (own_bel G5.out hb6)
  have H6 := hid (hasl_own ho6)
  clear hb6 ho6 W5 G5
  go_wp2_with fail
  refine (Lab.f7 _ _ mw ch cw sel _ hmw (by omega) H6.out (hasl_own W6.out)).mono ?_
  rintro e w7 ⟨rfl, hb7⟩
  have HB7 := hid (HB6.out.trans (hb7.mono HB6.out.size))
  have G7 := hid (own_bel G6.out hb7)
  clear hb7 W6 G6 H6
  go_wp2_with fail
  have h24 := Lab.f9o ag mw cg w1.heap.size 1 w7 (by omega) G7.out
  rw [← HK3.out] at h24
  refine h24.mono ?_
  clear h24
  rintro e w8 ⟨rfl, hb8⟩
  have HB8 := hid (HB7.out.trans (hb8.mono HB7.out.size))
  clear hb8
  go_wp2
  go_ret
  exact ⟨rfl, HB8.out⟩
end Go.Proofs.Ytigakbhficoonaa.Prs
