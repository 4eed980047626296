/- What the model's GoodPattern comes to. -/
import Derived.Test.YtpobpanmkdjkjaaPat
namespace Go.Proofs.Ytpobpanmkdjkjaa.Pat
open Go.RowKit

set_option maxHeartbeats 8000000 in
set_option maxRecDepth 100000 in
theorem f29 (s : ByteArray) (w : World) (hs : s.size ≤ maxLen) :
    Calls Try.prog 29 #[.string s] w fun e w' => (∃ V, e = .returned (.tuple #[V, .bool (patB s)])) ∧ Below w.heap.size w w' := by
  obtain ⟨i0, i1, i2, i3, i4⟩ := info_parts info3
  obtain ⟨j0, j1, j2, j3, j4⟩ := info_parts info83
  have hs' := hs
  unfold maxLen at hs'
  by_cases h100 : 100 < s.size
  · go_enter Try.func29, Try.ntmps29
    go_wp2
    go_ret2
    exact ⟨⟨_, by rw [pat_long h100]; rfl⟩, Below.refl _ _⟩
  by_cases hpr : printL s.data.toList = true
  · have HPO := hid (fun (b : Bool) => pat_ok (s := s) (b := b) (by omega) hpr)
    go_enter Try.func29, Try.ntmps29
    go_wp2_with (go_at_call 49; refine (f49 s _ hs).mono ?_; rintro e w' ⟨rfl, hw'⟩; have hw2 := hw'.symm; clear hw'; subst hw2)
    go_loopw [4, 5, 6] (fun so sn si wr => ∃ (i m1 c1 m2 c2 : Nat) (a1 a2 : Option Addr) (x1 x2 : List Value), i ≤ s.size ∧ m1 ≤ i ∧ m2 ≤ i ∧ si = .int .i64 i ∧ so = .slice a1 m1 c1 ∧ sn = .slice a2 m2 c2 ∧ Hid (From s i) ∧ wr.ownsRow w.heap.size 77 1 (.slice a1 m1 c1) m1 x1 ∧ wr.ownsRow w.heap.size 3 1 (.slice a2 m2 c2) m2 x2 ∧ Below w.heap.size w wr) (fun _ _ si _ => s.size - (intOf si).toNat)
    case atStart => exact ⟨0, 0, 0, 0, 0, none, none, [], [], Nat.zero_le _, Nat.le_refl _, Nat.le_refl _, rfl, rfl, rfl, From.zero s, World.ownsRow_nil _ _ _ _, World.ownsRow_nil _ _ _ _, Below.refl _ _⟩
    case round =>
      obtain ⟨i, m1, c1, m2, c2, a1, a2, x1, x2, hi, hm1, hm2, rfl, rfl, rfl, hfr, ho1, ho2, hnx⟩ := hrel
      have HX := hid hnx
      have HO1 := hid ho1
      have HO2 := hid ho2
      clear ho1 ho2 hnx
      by_cases hlt : i < s.size
      · by_cases e1 : (s[i].toNat : Int) = 124
        · have e1' : ((s[i].toNat : Int) == 124) = true := by simp [e1]
          have HFR := hid (hfr.out.plain hlt (by omega))
          clear e1
          go_wp2_with (at_builtin; refine wpList_append_own _ rfl (.tmp 33) (.tmp 35) 54 rfl w.heap.size 77 j0 (.slice none 0 0) 1 24 Try.underlying54 j1 j2 j3 j4 rfl (by decide) _ _ _ rfl (HO1.out.alloc _) ⟨wr.heap.size, 0, none⟩ 1 1 [.slice a2 m2 c2] rfl rfl ?d1 ?d2 ?d3 ?d4 ?d5 ?_)
          case d1 => exact one_row _ _ _
          case d2 => intro u hu; simp at hu; subst hu; rfl
          case d3 => unfold maxLen; omega
          case d4 => omega
          case d5 => have := HX.out.size; simp; omega
          intro v3 w3 hown3 hgr3 _
          obtain ⟨a3, c3, rfl⟩ := own_form hown3
          have HO3 := hid hown3
          have HX3 := hid ((HX.out.alloc HX.out.size (.cells #[.slice a2 m2 c2] 77)).grown hgr3 (by have := HX.out.size; simp; omega) (fun j hj => (HO1.out.lt j hj).1))
          clear hown3 hgr3
          go_wp2
          go_roundw
          case rel => exact ⟨i + 1, m1 + 1, c3, 0, 0, a3, none, _, _, by omega, by omega, by omega, by go_num, rfl, rfl, HFR.out, HO3.out, World.ownsRow_nil _ _ _ _, HX3.out⟩
          case measure => simp [intOf]; omega
        have e1' : ((s[i].toNat : Int) == 124) = false := by simp [e1]
        by_cases e2 : (s[i].toNat : Int) = 42
        · have e2' : ((s[i].toNat : Int) == 42) = true := by simp [e2]
          have HFR := hid (hfr.out.plain hlt (by omega))
          clear e1 e2
          go_wp2_with (at_builtin; refine wpList_append_own _ rfl (.tmp 39) (.tmp 40) 77 rfl w.heap.size 3 i0 (.int .i64 0) 1 8 Try.underlying77 i1 i2 i3 i4 rfl (by decide) _ _ _ rfl (HO2.out.alloc _) ⟨wr.heap.size, 0, none⟩ 1 1 [.int .i64 (-1)] rfl rfl ?d1 ?d2 ?d3 ?d4 ?d5 ?_)
          case d1 => exact one_row _ _ _
          case d2 => intro u hu; simp at hu; subst hu; rfl
          case d3 => unfold maxLen; omega
          case d4 => omega
          case d5 => have := HX.out.size; simp; omega
          intro v3 w3 hown3 hgr3 _
          obtain ⟨a3, c3, rfl⟩ := own_form hown3
          have HO3 := hid hown3
          have HX3 := hid ((HX.out.alloc HX.out.size (.cells #[.int .i64 (-1)] 3)).grown hgr3 (by have := HX.out.size; simp; omega) (fun j hj => (HO2.out.lt j hj).1))
          have HP3 := hid ((HO1.out.alloc (.cells #[.int .i64 (-1)] 3)).kept hgr3 (own_apart HO1.out HO2.out (by decide)))
          clear hown3 hgr3
          go_wp2
          go_roundw
          case rel => exact ⟨i + 1, m1, c1, m2 + 1, c3, a1, a3, _, _, by omega, by omega, by omega, by go_num, rfl, rfl, HFR.out, HP3.out, HO3.out, HX3.out⟩
          case measure => simp [intOf]; omega
        have e2' : ((s[i].toNat : Int) == 42) = false := by simp [e2]
        by_cases e3 : (s[i].toNat : Int) = 63
        · have e3' : ((s[i].toNat : Int) == 63) = true := by simp [e3]
          have HFR := hid (hfr.out.plain hlt (by omega))
          clear e1 e2 e3
          go_wp2_with (at_builtin; refine wpList_append_own _ rfl (.tmp 44) (.tmp 45) 77 rfl w.heap.size 3 i0 (.int .i64 0) 1 8 Try.underlying77 i1 i2 i3 i4 rfl (by decide) _ _ _ rfl (HO2.out.alloc _) ⟨wr.heap.size, 0, none⟩ 1 1 [.int .i64 (-2)] rfl rfl ?d1 ?d2 ?d3 ?d4 ?d5 ?_)
          case d1 => exact one_row _ _ _
          case d2 => intro u hu; simp at hu; subst hu; rfl
          case d3 => unfold maxLen; omega
          case d4 => omega
          case d5 => have := HX.out.size; simp; omega
          intro v3 w3 hown3 hgr3 _
          obtain ⟨a3, c3, rfl⟩ := own_form hown3
          have HO3 := hid hown3
          have HX3 := hid ((HX.out.alloc HX.out.size (.cells #[.int .i64 (-2)] 3)).grown hgr3 (by have := HX.out.size; simp; omega) (fun j hj => (HO2.out.lt j hj).1))
          have HP3 := hid ((HO1.out.alloc (.cells #[.int .i64 (-2)] 3)).kept hgr3 (own_apart HO1.out HO2.out (by decide)))
          clear hown3 hgr3
          go_wp2
          go_roundw
          case rel => exact ⟨i + 1, m1, c1, m2 + 1, c3, a1, a3, _, _, by omega, by omega, by omega, by go_num, rfl, rfl, HFR.out, HP3.out, HO3.out, HX3.out⟩
          case measure => simp [intOf]; omega
        have e3' : ((s[i].toNat : Int) == 63) = false := by simp [e3]
        by_cases e4 : (s[i].toNat : Int) = 92
        · have e4' : ((s[i].toNat : Int) == 92) = true := by simp [e4]
          have HE4 := hid e4
          clear e1 e2 e3 e4
          by_cases hl2 : i + 1 < s.size
          · by_cases hsg : sgB (s[i + 1].toNat : Int) = true
            · have HFR := hid (hfr.out.sign hlt HE4.out hl2 hsg)
              have hne : ((i : Int) + 1 == (s.size : Int)) = false := by simp; omega
              have hz : (s[i + 1].toNat : Int) = 42 ∨ (s[i + 1].toNat : Int) = 63 ∨ (s[i + 1].toNat : Int) = 124 ∨ (s[i + 1].toNat : Int) = 92 := by unfold sgB at hsg; exact of_decide_eq_true hsg
              clear hsg
              rcases hz with hz | hz | hz | hz
              · have q1 : ((s[i + 1].toNat : Int) != 42) = false := by rw [hz]; rfl
                clear hz
                go_wp2_with (at_builtin; refine wpList_append_own _ rfl (.tmp 79) (.tmp 84) 77 rfl w.heap.size 3 i0 (.int .i64 0) 1 8 Try.underlying77 i1 i2 i3 i4 rfl (by decide) _ _ _ rfl (HO2.out.alloc _) ⟨wr.heap.size, 0, none⟩ 1 1 [.int .i64 (wrap64 (s[i + 1].toNat : Int))] rfl rfl ?d1 ?d2 ?d3 ?d4 ?d5 ?_)
                case d1 => exact one_row _ _ _
                case d2 => intro u hu; simp at hu; subst hu; rfl
                case d3 => unfold maxLen; omega
                case d4 => omega
                case d5 => have := HX.out.size; simp; omega
                intro v3 w3 hown3 hgr3 _
                obtain ⟨a3, c3, rfl⟩ := own_form hown3
                have HO3 := hid hown3
                have HX3 := hid ((HX.out.alloc HX.out.size (.cells #[.int .i64 (wrap64 (s[i + 1].toNat : Int))] 3)).grown hgr3 (by have := HX.out.size; simp; omega) (fun j hj => (HO2.out.lt j hj).1))
                have HP3 := hid ((HO1.out.alloc (.cells #[.int .i64 (wrap64 (s[i + 1].toNat : Int))] 3)).kept hgr3 (own_apart HO1.out HO2.out (by decide)))
                clear hown3 hgr3
                go_wp2
                go_roundw
                case rel => exact ⟨i + 1 + 1, m1, c1, m2 + 1, c3, a1, a3, _, _, by omega, by omega, by omega, by go_num, rfl, rfl, HFR.out, HP3.out, HO3.out, HX3.out⟩
                case measure => simp [intOf]; omega
              · have q1 : ((s[i + 1].toNat : Int) != 42) = true := by rw [hz]; rfl
                have q2 : ((s[i + 1].toNat : Int) != 63) = false := by rw [hz]; rfl
                clear hz
                go_wp2_with (at_builtin; refine wpList_append_own _ rfl (.tmp 79) (.tmp 84) 77 rfl w.heap.size 3 i0 (.int .i64 0) 1 8 Try.underlying77 i1 i2 i3 i4 rfl (by decide) _ _ _ rfl (HO2.out.alloc _) ⟨wr.heap.size, 0, none⟩ 1 1 [.int .i64 (wrap64 (s[i + 1].toNat : Int))] rfl rfl ?d1 ?d2 ?d3 ?d4 ?d5 ?_)
                case d1 => exact one_row _ _ _
                case d2 => intro u hu; simp at hu; subst hu; rfl
                case d3 => unfold maxLen; omega
                case d4 => omega
                case d5 => have := HX.out.size; simp; omega
                intro v3 w3 hown3 hgr3 _
                obtain ⟨a3, c3, rfl⟩ := own_form hown3
                have HO3 := hid hown3
                have HX3 := hid ((HX.out.alloc HX.out.size (.cells #[.int .i64 (wrap64 (s[i + 1].toNat : Int))] 3)).grown hgr3 (by have := HX.out.size; simp; omega) (fun j hj => (HO2.out.lt j hj).1))
                have HP3 := hid ((HO1.out.alloc (.cells #[.int .i64 (wrap64 (s[i + 1].toNat : Int))] 3)).kept hgr3 (own_apart HO1.out HO2.out (by decide)))
                clear hown3 hgr3
                go_wp2
                go_roundw
                case rel => exact ⟨i + 1 + 1, m1, c1, m2 + 1, c3, a1, a3, _, _, by omega, by omega, by omega, by go_num, rfl, rfl, HFR.out, HP3.out, HO3.out, HX3.out⟩
                case measure => simp [intOf]; omega
              · have q1 : ((s[i + 1].toNat : Int) != 42) = true := by rw [hz]; rfl
                have q2 : ((s[i + 1].toNat : Int) != 63) = true := by rw [hz]; rfl
                have q3 : ((s[i + 1].toNat : Int) != 124) = false := by rw [hz]; rfl
                clear hz
                go_wp2_with (at_builtin; refine wpList_append_own _ rfl (.tmp 79) (.tmp 84) 77 rfl w.heap.size 3 i0 (.int .i64 0) 1 8 Try.underlying77 i1 i2 i3 i4 rfl (by decide) _ _ _ rfl (HO2.out.alloc _) ⟨wr.heap.size, 0, none⟩ 1 1 [.int .i64 (wrap64 (s[i + 1].toNat : Int))] rfl rfl ?d1 ?d2 ?d3 ?d4 ?d5 ?_)
                case d1 => exact one_row _ _ _
                case d2 => intro u hu; simp at hu; subst hu; rfl
                case d3 => unfold maxLen; omega
                case d4 => omega
                case d5 => have := HX.out.size; simp; omega
                intro v3 w3 hown3 hgr3 _
                obtain ⟨a3, c3, rfl⟩ := own_form hown3
                have HO3 := hid hown3
                have HX3 := hid ((HX.out.alloc HX.out.size (.cells #[.int .i64 (wrap64 (s[i + 1].toNat : Int))] 3)).grown hgr3 (by have := HX.out.size; simp; omega) (fun j hj => (HO2.out.lt j hj).1))
                have HP3 := hid ((HO1.out.alloc (.cells #[.int .i64 (wrap64 (s[i + 1].toNat : Int))] 3)).kept hgr3 (own_apart HO1.out HO2.out (by decide)))
                clear hown3 hgr3
                go_wp2
                go_roundw
                case rel => exact ⟨i + 1 + 1, m1, c1, m2 + 1, c3, a1, a3, _, _, by omega, by omega, by omega, by go_num, rfl, rfl, HFR.out, HP3.out, HO3.out, HX3.out⟩
                case measure => simp [intOf]; omega
              · have q1 : ((s[i + 1].toNat : Int) != 42) = true := by rw [hz]; rfl
                have q2 : ((s[i + 1].toNat : Int) != 63) = true := by rw [hz]; rfl
                have q3 : ((s[i + 1].toNat : Int) != 124) = true := by rw [hz]; rfl
                have q4 : ((s[i + 1].toNat : Int) != 92) = false := by rw [hz]; rfl
                clear hz
                go_wp2_with (at_builtin; refine wpList_append_own _ rfl (.tmp 79) (.tmp 84) 77 rfl w.heap.size 3 i0 (.int .i64 0) 1 8 Try.underlying77 i1 i2 i3 i4 rfl (by decide) _ _ _ rfl (HO2.out.alloc _) ⟨wr.heap.size, 0, none⟩ 1 1 [.int .i64 (wrap64 (s[i + 1].toNat : Int))] rfl rfl ?d1 ?d2 ?d3 ?d4 ?d5 ?_)
                case d1 => exact one_row _ _ _
                case d2 => intro u hu; simp at hu; subst hu; rfl
                case d3 => unfold maxLen; omega
                case d4 => omega
                case d5 => have := HX.out.size; simp; omega
                intro v3 w3 hown3 hgr3 _
                obtain ⟨a3, c3, rfl⟩ := own_form hown3
                have HO3 := hid hown3
                have HX3 := hid ((HX.out.alloc HX.out.size (.cells #[.int .i64 (wrap64 (s[i + 1].toNat : Int))] 3)).grown hgr3 (by have := HX.out.size; simp; omega) (fun j hj => (HO2.out.lt j hj).1))
                have HP3 := hid ((HO1.out.alloc (.cells #[.int .i64 (wrap64 (s[i + 1].toNat : Int))] 3)).kept hgr3 (own_apart HO1.out HO2.out (by decide)))
                clear hown3 hgr3
                go_wp2
                go_roundw
                case rel => exact ⟨i + 1 + 1, m1, c1, m2 + 1, c3, a1, a3, _, _, by omega, by omega, by omega, by go_num, rfl, rfl, HFR.out, HP3.out, HO3.out, HX3.out⟩
                case measure => simp [intOf]; omega
            · have hsg' : sgB (s[i + 1].toNat : Int) = false := by simpa using hsg
              have HP := hid (HPO.out false (hfr.out.bad hlt HE4.out hl2 hsg'))
              have hne : ((i : Int) + 1 == (s.size : Int)) = false := by simp; omega
              have hz : ¬ ((s[i + 1].toNat : Int) = 42 ∨ (s[i + 1].toNat : Int) = 63 ∨ (s[i + 1].toNat : Int) = 124 ∨ (s[i + 1].toNat : Int) = 92) := by unfold sgB at hsg'; exact of_decide_eq_false hsg'
              have q1 : ((s[i + 1].toNat : Int) != 42) = true := by simp only [bne_iff_ne, ne_eq]; omega
              have q2 : ((s[i + 1].toNat : Int) != 63) = true := by simp only [bne_iff_ne, ne_eq]; omega
              have q3 : ((s[i + 1].toNat : Int) != 124) = true := by simp only [bne_iff_ne, ne_eq]; omega
              have q4 : ((s[i + 1].toNat : Int) != 92) = true := by simp only [bne_iff_ne, ne_eq]; omega
              clear hz hsg hsg'
              go_wp2
              go_ret2
              exact ⟨⟨_, by rw [HP.out]; rfl⟩, HX.out⟩
          · have hl3 : i + 1 = s.size := by omega
            have HP := hid (HPO.out false (hfr.out.last hlt HE4.out hl3))
            have hne : ((i : Int) + 1 == (s.size : Int)) = true := by simp; omega
            clear hl3
            go_wp2
            go_ret2
            exact ⟨⟨_, by rw [HP.out]; rfl⟩, HX.out⟩
        have e4' : ((s[i].toNat : Int) == 92) = false := by simp [e4]
        have HFR := hid (hfr.out.plain hlt e4)
        clear e1 e2 e3 e4
        go_wp2_with (at_builtin; refine wpList_append_own _ rfl (.tmp 24) (.tmp 29) 77 rfl w.heap.size 3 i0 (.int .i64 0) 1 8 Try.underlying77 i1 i2 i3 i4 rfl (by decide) _ _ _ rfl (HO2.out.alloc _) ⟨wr.heap.size, 0, none⟩ 1 1 [.int .i64 (wrap64 (s[i].toNat : Int))] rfl rfl ?d1 ?d2 ?d3 ?d4 ?d5 ?_)
        case d1 => exact one_row _ _ _
        case d2 => intro u hu; simp at hu; subst hu; rfl
        case d3 => unfold maxLen; omega
        case d4 => omega
        case d5 => have := HX.out.size; simp; omega
        intro v3 w3 hown3 hgr3 _
        obtain ⟨a3, c3, rfl⟩ := own_form hown3
        have HO3 := hid hown3
        have HX3 := hid ((HX.out.alloc HX.out.size (.cells #[.int .i64 (wrap64 (s[i].toNat : Int))] 3)).grown hgr3 (by have := HX.out.size; simp; omega) (fun j hj => (HO2.out.lt j hj).1))
        have HP3 := hid ((HO1.out.alloc (.cells #[.int .i64 (wrap64 (s[i].toNat : Int))] 3)).kept hgr3 (own_apart HO1.out HO2.out (by decide)))
        clear hown3 hgr3
        go_wp2
        go_roundw
        case rel => exact ⟨i + 1, m1, c1, m2 + 1, c3, a1, a3, _, _, by omega, by omega, by omega, by go_num, rfl, rfl, HFR.out, HP3.out, HO3.out, HX3.out⟩
        case measure => simp [intOf]; omega
      · have HP := hid (HPO.out true (hfr.out.done (by omega)))
        go_wp2_with (at_builtin; refine wpList_append_own _ rfl (.tmp 86) (.tmp 88) 54 rfl w.heap.size 77 j0 (.slice none 0 0) 1 24 Try.underlying54 j1 j2 j3 j4 rfl (by decide) _ _ _ rfl (HO1.out.alloc _) ⟨wr.heap.size, 0, none⟩ 1 1 [.slice a2 m2 c2] rfl rfl ?d1 ?d2 ?d3 ?d4 ?d5 ?_)
        case d1 => exact one_row _ _ _
        case d2 => intro u hu; simp at hu; subst hu; rfl
        case d3 => unfold maxLen; omega
        case d4 => omega
        case d5 => have := HX.out.size; simp; omega
        intro v3 w3 hown3 hgr3 _
        obtain ⟨a3, c3, rfl⟩ := own_form hown3
        have HO3 := hid hown3
        have HX3 := hid ((HX.out.alloc HX.out.size (.cells #[.slice a2 m2 c2] 77)).grown hgr3 (by have := HX.out.size; simp; omega) (fun j hj => (HO1.out.lt j hj).1))
        clear hown3 hgr3
        go_wp2
        go_ret2
        exact ⟨⟨_, by rw [HP.out]; rfl⟩, HX3.out⟩
  · have hpr' : printL s.data.toList = false := by simpa using hpr
    clear hpr
    go_enter Try.func29, Try.ntmps29
    go_wp2_with (go_at_call 49; refine (f49 s _ hs).mono ?_; rintro e w' ⟨rfl, hw'⟩; have hw2 := hw'.symm; clear hw'; subst hw2)
    go_ret2
    exact ⟨⟨_, by rw [pat_unprinted hpr']; rfl⟩, Below.refl _ _⟩
end Go.Proofs.Ytpobpanmkdjkjaa.Pat
