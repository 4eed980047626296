/- Both MergeSamples, and the walk of FnExactMergeSamples. -/
import Derived.Test.YtfmijboakipooaaTk
namespace Go.Proofs.Ytfmijboakipooaa.Smp
open Go.RowKit

/-- What MergeSamples gives. -/
def mrgA (xs ys : List Sm) : List Sm := if GoodP xs ∧ GoodP ys ∧ (mrg xs ys).length ≤ 2000 then mrg xs ys else []
theorem mrgA_no {xs ys : List Sm} (h : ¬ (GoodP xs ∧ GoodP ys ∧ (mrg xs ys).length ≤ 2000)) : mrgA xs ys = [] := if_neg h
theorem mrgA_yes {xs ys : List Sm} (h1 : GoodP xs) (h2 : GoodP ys) (h3 : (mrg xs ys).length ≤ 2000) : mrgA xs ys = mrg xs ys := if_pos ⟨h1, h2, h3⟩
theorem mrgA_len (xs ys : List Sm) : (mrgA xs ys).length ≤ 2000 := by
  unfold mrgA
  split
  · rename_i h; exact h.2.2
  · simp

set_option maxHeartbeats 2000000 in
theorem f22 (a b : Option Addr) (c d : Nat) (xs ys : List Sm) (w : World) (h20 : xs.length ≤ 1048576) (h21 : ys.length ≤ 1048576) (hr : HasS w a xs) (hs : HasS w b ys) :
    Calls Try.prog 22 #[.slice a xs.length c, .slice b ys.length d] w fun e w' => ∃ v, e = .returned v ∧ Own w' w.heap.size v (mrgA xs ys) ∧ Below w.heap.size w w' := by
  have HR := hid hr
  have HS := hid hs
  have HNo := hid (mrgA_no (xs := xs) (ys := ys))
  clear hr hs
  go_enter Try.func22, Try.ntmps22
  go_wp2_with fail
  refine (f8 a c xs _ h20 HR.out).mono ?_
  rintro e w1 ⟨rfl, hb1⟩
  have HB1 := hid hb1
  clear hb1
  by_cases hg : GoodP xs
  · rw [show goodS xs = true from decide_eq_true hg]
    go_wp2_with fail
    refine (f8 b d ys _ h21 (HS.out.below HB1.out)).mono ?_
    rintro e w2 ⟨rfl, hb2⟩
    have HB2 := hid (HB1.out.trans (hb2.mono HB1.out.size))
    clear hb2
    by_cases hg2 : GoodP ys
    · rw [show goodS ys = true from decide_eq_true hg2]
      have HY := hid (mrgA_yes hg hg2)
      have HML := hid (mrg_len xs ys)
      clear hg hg2
      go_wp2_with fail
      refine (f38 a b c d xs ys _ h20 h21 (HR.out.below HB2.out) (HS.out.below HB2.out)).mono ?_
      rintro e w3 ⟨v, rfl, ho, hb3⟩
      have HB3 := hid (HB2.out.trans (hb3.mono HB2.out.size))
      have HO := hid (ho.mono HB2.out.size)
      obtain ⟨ao, co, rfl⟩ := own_form ho
      clear ho hb3
      generalize hM : mrg xs ys = M at *
      have HL := HML.out
      by_cases h3 : M.length ≤ 2000
      · have HE := hid (HY.out h3)
        go_wp2
        go_ret
        exact ⟨_, rfl, by rw [HE.out]; exact HO.out, HB3.out⟩
      · have HE := hid (HNo.out (fun h => h3 h.2.2))
        go_wp2
        go_ret
        exact ⟨_, rfl, by rw [HE.out]; exact Own.nil _ _, HB3.out⟩
    · rw [show goodS ys = false from decide_eq_false hg2]
      have HE := hid (HNo.out (fun h => hg2 h.2.1))
      clear hg hg2
      go_wp2
      go_ret
      exact ⟨_, rfl, by rw [HE.out]; exact Own.nil _ _, HB2.out⟩
  · rw [show goodS xs = false from decide_eq_false hg]
    have HE := hid (HNo.out (fun h => hg h.1))
    clear hg
    go_wp2
    go_ret
    exact ⟨_, rfl, by rw [HE.out]; exact Own.nil _ _, HB1.out⟩

set_option maxHeartbeats 2000000 in
theorem f9 (a b : Option Addr) (c d : Nat) (xs ys : List Sm) (w : World) (h20 : xs.length ≤ 1048576) (h21 : ys.length ≤ 1048576) (hr : HasS w a xs) (hs : HasS w b ys) (hd : ys.length ≤ d) (hnb : b = none → d = 0) :
    Calls Try.prog 9 #[.slice a xs.length c, .slice b ys.length d] w fun e w' => ∃ v, e = .returned v ∧ Own w' w.heap.size v (mrgA xs ys) ∧ Below w.heap.size w w' := by
  have HR := hid hr
  have HS := hid hs
  have HMX : Hid (xs.length ≤ maxLen) := by unfold Hid maxLen; omega
  have HMY : Hid (ys.length ≤ maxLen) := by unfold Hid maxLen; omega
  have HD := hid hd
  have HNB := hid hnb
  have HNo := hid (mrgA_no (xs := xs) (ys := ys))
  clear hr hs hd hnb
  go_enter Try.func9, Try.ntmps9
  go_wp2_with fail
  refine (f29 a c xs _ HMX.out HR.out).mono ?_
  rintro e w1 ⟨rfl, hb1⟩
  have HB1 := hid hb1
  clear hb1
  by_cases hg : GoodP xs
  · rw [show goodS xs = true from decide_eq_true hg]
    go_wp2_with fail
    refine (f29 b d ys _ HMY.out (HS.out.below HB1.out)).mono ?_
    rintro e w2 ⟨rfl, hb2⟩
    have HB2 := hid (HB1.out.trans (hb2.mono HB1.out.size))
    clear hb2
    by_cases hg2 : GoodP ys
    · rw [show goodS ys = true from decide_eq_true hg2]
      have HY := hid (mrgA_yes hg hg2)
      have HML := hid (mrg_len xs ys)
      clear hg hg2
      go_wp2_with fail
      refine (f30 a b c d xs ys _ h20 h21 (HR.out.below HB2.out) (HS.out.below HB2.out) HD.out HNB.out).mono ?_
      rintro e w3 ⟨v, rfl, ho, hb3⟩
      have HB3 := hid (HB2.out.trans (hb3.mono HB2.out.size))
      have HO := hid (ho.mono HB2.out.size)
      obtain ⟨ao, co, rfl⟩ := own_form ho
      clear ho hb3
      generalize hM : mrg xs ys = M at *
      have HL := HML.out
      by_cases h3 : M.length ≤ 2000
      · have HE := hid (HY.out h3)
        go_wp2
        go_ret
        exact ⟨_, rfl, by rw [HE.out]; exact HO.out, HB3.out⟩
      · have HE := hid (HNo.out (fun h => h3 h.2.2))
        go_wp2
        go_ret
        exact ⟨_, rfl, by rw [HE.out]; exact Own.nil _ _, HB3.out⟩
    · rw [show goodS ys = false from decide_eq_false hg2]
      have HE := hid (HNo.out (fun h => hg2 h.2.1))
      clear hg hg2
      go_wp2
      go_ret
      exact ⟨_, rfl, by rw [HE.out]; exact Own.nil _ _, HB2.out⟩
  · rw [show goodS xs = false from decide_eq_false hg]
    have HE := hid (HNo.out (fun h => hg h.1))
    clear hg
    go_wp2
    go_ret
    exact ⟨_, rfl, by rw [HE.out]; exact Own.nil _ _, HB1.out⟩
end Go.Proofs.Ytfmijboakipooaa.Smp
