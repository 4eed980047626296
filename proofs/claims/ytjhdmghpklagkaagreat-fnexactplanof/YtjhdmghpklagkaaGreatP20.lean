import Derived.Test.YtjhdmghpklagkaaGreatP18
import Derived.Test.YtjhdmghpklagkaaGreatP19
import Derived.Deep.RegionWith
namespace Go.Proofs.YtjhdmghpklagkaaGreat.Pat
open Go.RowKit

set_option maxHeartbeats 8000000 in
set_option maxRecDepth 100000 in
theorem f122 (s : ByteArray) (w : World) (hs : s.size ≤ maxLen) :
    Calls Tryz.prog 122 #[.string s] w fun e w' => (∃ V, e = .returned (.tuple #[V, .bool (patB s)])) ∧ Below w.heap.size w w' := by
  obtain ⟨i0, i1, i2, i3, i4⟩ := info_parts info3
  obtain ⟨j0, j1, j2, j3, j4⟩ := info_parts info83
  have hs' := hs
  unfold maxLen at hs'
  by_cases h100 : 100 < s.size
  · go_enter Tryz.func122, Tryz.ntmps122
    go_wp2
    go_ret2
    exact ⟨⟨_, by rw [pat_long h100]; rfl⟩, Below.refl _ _⟩
  by_cases hpr : printL s.data.toList = true
  · have HPO := hid (fun (b : Bool) => pat_ok (s := s) (b := b) (by omega) hpr)
    go_enter Tryz.func122, Tryz.ntmps122
    go_wp2_with (go_at_call 84; refine (f84 s _ hs).mono ?_; rintro e w' ⟨rfl, hw'⟩; have hw2 := hw'.symm; clear hw'; subst hw2)
    go_loopw [4, 5, 6] (fun so sn si wr => ∃ (i m1 c1 m2 c2 : Nat) (a1 a2 : Option Addr) (x1 x2 : List Value), i ≤ s.size ∧ m1 ≤ i ∧ m2 ≤ i ∧ si = .int .i64 i ∧ so = .slice a1 m1 c1 ∧ sn = .slice a2 m2 c2 ∧ Hid (From s i) ∧ wr.ownsRow w.heap.size 24 1 (.slice a1 m1 c1) m1 x1 ∧ wr.ownsRow w.heap.size 3 1 (.slice a2 m2 c2) m2 x2 ∧ Below w.heap.size w wr) (fun _ _ si _ => s.size - (intOf si).toNat)
    case atStart => exact ⟨0, 0, 0, 0, 0, none, none, [], [], Nat.zero_le _, Nat.le_refl _, Nat.le_refl _, rfl, rfl, rfl, From.zero s, World.ownsRow_nil _ _ _ _, World.ownsRow_nil _ _ _ _, Below.refl _ _⟩
    case round =>
      obtain ⟨i, m1, c1, m2, c2, a1, a2, x1, x2, hi, hm1, hm2, rfl, rfl, rfl, hfr, ho1, ho2, hnx⟩ := hrel
      have HX := hid hnx
      have HO1 := hid ho1
      have HO2 := hid ho2
      clear ho1 ho2 hnx
      by_cases hlt : i < s.size
      · by_cases e1 : (s[i].toNat : Int) = 124
        · have e1' : ((s[i].toNat : Int) == 124) = true := by simp [e1]
          have HFR := hid (hfr.out.plain hlt (by omega))
          clear e1
          go_wp2_with (at_builtin; refine wpList_append_own _ rfl (.tmp 33) (.tmp 35) 143 rfl w.heap.size 24 j0 (.slice none 0 0) 1 24 Tryz.underlying143 j1 j2 j3 j4 rfl (by decide) _ _ _ rfl (HO1.out.alloc _) ⟨wr.heap.size, 0, none⟩ 1 1 [.slice a2 m2 c2] rfl rfl ?d1 ?d2 ?d3 ?d4 ?d5 ?_)
          case d1 => exact one_row _ _ _
          case d2 => intro u hu; simp at hu; subst hu; rfl
          case d3 => unfold maxLen; omega
          case d4 => omega
          case d5 => have := HX.out.size; simp; omega
          intro v3 w3 hown3 hgr3 _
          obtain ⟨a3, c3, rfl⟩ := own_form hown3
          have HO3 := hid hown3
          have HX3 := hid ((HX.out.alloc HX.out.size (.cells #[.slice a2 m2 c2] 24)).grown hgr3 (by have := HX.out.size; simp; omega) (fun j hj => (HO1.out.lt j hj).1))
          clear hown3 hgr3
          go_wp2
          go_roundw
          case rel => exact ⟨i + 1, m1 + 1, c3, 0, 0, a3, none, _, _, by omega, by omega, by omega, by go_num, rfl, rfl, HFR.out, HO3.out, World.ownsRow_nil _ _ _ _, HX3.out⟩
          case measure => simp [intOf]; omega
        have e1' : ((s[i].toNat : Int) == 124) = false := by simp [e1]
        by_cases e2 : (s[i].toNat : Int) = 42
        · have e2' : ((s[i].toNat : Int) == 42) = true := by simp [e2]
          have HFR := hid (hfr.out.plain hlt (by omega))
          clear e1 e2
          go_wp2_with (at_builtin; refine wpList_append_own _ rfl (.tmp 39) (.tmp 40) 24 rfl w.heap.size 3 i0 (.int .i64 0) 1 8 Tryz.underlying24 i1 i2 i3 i4 rfl (by decide) _ _ _ rfl (HO2.out.alloc _) ⟨wr.heap.size, 0, none⟩ 1 1 [.int .i64 (-1)] rfl rfl ?d1 ?d2 ?d3 ?d4 ?d5 ?_)
          case d1 => exact one_row _ _ _
          case d2 => intro u hu; simp at hu; subst hu; rfl
          case d3 => unfold maxLen; omega
          case d4 => omega
          case d5 => have := HX.out.size; simp; omega
          intro v3 w3 hown3 hgr3 _
          obtain ⟨a3, c3, rfl⟩ := own_form hown3
          have HO3 := hid hown3
          have HX3 := hid ((HX.out.alloc HX.out.size (.cells #[.int .i64 (-1)] 3)).grown hgr3 (by have := HX.out.size; simp; omega) (fun j hj => (HO2.out.lt j hj).1))
          have HP3 := hid ((HO1.out.alloc (.cells #[.int .i64 (-1)] 3)).kept hgr3 (own_apart HO1.out HO2.out (by decide)))
          clear hown3 hgr3
          go_wp2
          go_roundw
          case rel => exact ⟨i + 1, m1, c1, m2 + 1, c3, a1, a3, _, _, by omega, by omega, by omega, by go_num, rfl, rfl, HFR.out, HP3.out, HO3.out, HX3.out⟩
          case measure => simp [intOf]; omega
        have e2' : ((s[i].toNat : Int) == 42) = false := by simp [e2]
        by_cases e3 : (s[i].toNat : Int) = 63
        · have e3' : ((s[i].toNat : Int) == 63) = true := by simp [e3]
          have HFR := hid (hfr.out.plain hlt (by omega))
          clear e1 e2 e3
          go_wp2_with (at_builtin; refine wpList_append_own _ rfl (.tmp 44) (.tmp 45) 24 rfl w.heap.size 3 i0 (.int .i64 0) 1 8 Tryz.underlying24 i1 i2 i3 i4 rfl (by decide) _ _ _ rfl (HO2.out.alloc _) ⟨wr.heap.size, 0, none⟩ 1 1 [.int .i64 (-2)] rfl rfl ?d1 ?d2 ?d3 ?d4 ?d5 ?_)
          case d1 => exact one_row _ _ _
          case d2 => intro u hu; simp at hu; subst hu; rfl
          case d3 => unfold maxLen; omega
          case d4 => omega
          case d5 => have := HX.out.size; simp; omega
          intro v3 w3 hown3 hgr3 _
          obtain ⟨a3, c3, rfl⟩ := own_form hown3
          have HO3 := hid hown3
          have HX3 := hid ((HX.out.alloc HX.out.size (.cells #[.int .i64 (-2)] 3)).grown hgr3 (by have := HX.out.size; simp; omega) (fun j hj => (HO2.out.lt j hj).1))
          have HP3 := hid ((HO1.out.alloc (.cells #[.int .i64 (-2)] 3)).kept hgr3 (own_apart HO1.out HO2.out (by decide)))
          clear hown3 hgr3
          go_wp2
          go_roundw
          case rel => exact ⟨i + 1, m1, c1, m2 + 1, c3, a1, a3, _, _, by omega, by omega, by omega, by go_num, rfl, rfl, HFR.out, HP3.out, HO3.out, HX3.out⟩
          case measure => simp [intOf]; omega
        have e3' : ((s[i].toNat : Int) == 63) = false := by simp [e3]
        by_cases e4 : (s[i].toNat : Int) = 92
        · have e4' : ((s[i].toNat : Int) == 92) = true := by simp [e4]
          have HE4 := hid e4
          clear e1 e2 e3 e4
          by_cases hl2 : i + 1 < s.size
          · by_cases hsg : sgB (s[i + 1].toNat : Int) = true
            · have HFR := hid (hfr.out.sign hlt HE4.out hl2 hsg)
              have hne : ((i : Int) + 1 == (s.size : Int)) = false := by simp; omega
              have hz : (s[i + 1].toNat : Int) = 42 ∨ (s[i + 1].toNat : Int) = 63 ∨ (s[i + 1].toNat : Int) = 124 ∨ (s[i + 1].toNat : Int) = 92 := by unfold sgB at hsg; exact of_decide_eq_true hsg
              clear hsg
              rcases hz with hz | hz | hz | hz
              · have q1 : ((s[i + 1].toNat : Int) != 42) = false := by rw [hz]; rfl
                clear hz
                go_wp2_with (at_builtin; refine wpList_append_own _ rfl (.tmp 79) (.tmp 84) 24 rfl w.heap.size 3 i0 (.int .i64 0) 1 8 Tryz.underlying24 i1 i2 i3 i4 rfl (by decide) _ _ _ rfl (HO2.out.alloc _) ⟨wr.heap.size, 0, none⟩ 1 1 [.int .i64 (wrap64 (s[i + 1].toNat : Int))] rfl rfl ?d1 ?d2 ?d3 ?d4 ?d5 ?_)
                case d1 => exact one_row _ _ _
                case d2 => intro u hu; simp at hu; subst hu; rfl
                case d3 => unfold maxLen; omega
                case d4 => omega
                case d5 => have := HX.out.size; simp; omega
                intro v3 w3 hown3 hgr3 _
                obtain ⟨a3, c3, rfl⟩ := own_form hown3
                have HO3 := hid hown3
                have HX3 := hid ((HX.out.alloc HX.out.size (.cells #[.int .i64 (wrap64 (s[i + 1].toNat : Int))] 3)).grown hgr3 (by have := HX.out.size; simp; omega) (fun j hj => (HO2.out.lt j hj).1))
                have HP3 := hid ((HO1.out.alloc (.cells #[.int .i64 (wrap64 (s[i + 1].toNat : Int))] 3)).kept hgr3 (own_apart HO1.out HO2.out (by decide)))
                clear hown3 hgr3
                go_wp2
                go_roundw
                case rel => exact ⟨i + 1 + 1, m1, c1, m2 + 1, c3, a1, a3, _, _, by omega, by omega, by omega, by go_num, rfl, rfl, HFR.out, HP3.out, HO3.out, HX3.out⟩
                case measure => simp [intOf]; omega
              · have q1 : ((s[i + 1].toNat : Int) != 42) = true := by rw [hz]; rfl
                have q2 : ((s[i + 1].toNat : Int) != 63) = false := by rw [hz]; rfl
                clear hz
                go_wp2_with (at_builtin; refine wpList_append_own _ rfl (.tmp 79) (.tmp 84) 24 rfl w.heap.size 3 i0 (.int .i64 0) 1 8 Tryz.underlying24 i1 i2 i3 i4 rfl (by decide) _ _ _ rfl (HO2.out.alloc _) ⟨wr.heap.size, 0, none⟩ 1 1 [.int .i64 (wrap64 (s[i + 1].toNat : Int))] rfl rfl ?d1 ?d2 ?d3 ?d4 ?d5 ?_)
                case d1 => exact one_row _ _ _
                case d2 => intro u hu; simp at hu; subst hu; rfl
                case d3 => unfold maxLen; omega
                case d4 => omega
                case d5 => have := HX.out.size; simp; omega
                intro v3 w3 hown3 hgr3 _
                obtain ⟨a3, c3, rfl⟩ := own_form hown3
                have HO3 := hid hown3
                have HX3 := hid ((HX.out.alloc HX.out.size (.cells #[.int .i64 (wrap64 (s[i + 1].toNat : Int))] 3)).grown hgr3 (by have := HX.out.size; simp; omega) (fun j hj => (HO2.out.lt j hj).1))
                have HP3 := hid ((HO1.out.alloc (.cells #[.int .i64 (wrap64 (s[i + 1].toNat : Int))] 3)).kept hgr3 (own_apart HO1.out HO2.out (by decide)))
                clear hown3 hgr3
                go_wp2
                go_roundw
                case rel => exact ⟨i + 1 + 1, m1, c1, m2 + 1, c3, a1, a3, _, _, by omega, by omega, by omega, by go_num, rfl, rfl, HFR.out, HP3.out, HO3.out, HX3.out⟩
                case measure => simp [intOf]; omega
              · have q1 : ((s[i + 1].toNat : Int) != 42) = true := by rw [hz]; rfl
                have q2 : ((s[i + 1].toNat : Int) != 63) = true := by rw [hz]; rfl
                have q3 : ((s[i + 1].toNat : Int) != 124) = false := by rw [hz]; rfl
                clear hz
                go_wp2_with (at_builtin; refine wpList_append_own _ rfl (.tmp 79) (.tmp 84) 24 rfl w.heap.size 3 i0 (.int .i64 0) 1 8 Tryz.underlying24 i1 i2 i3 i4 rfl (by decide) _ _ _ rfl (HO2.out.alloc _) ⟨wr.heap.size, 0, none⟩ 1 1 [.int .i64 (wrap64 (s[i + 1].toNat : Int))] rfl rfl ?d1 ?d2 ?d3 ?d4 ?d5 ?_)
                case d1 => exact one_row _ _ _
                case d2 => intro u hu; simp at hu; subst hu; rfl
                case d3 => unfold maxLen; omega
                case d4 => omega
                case d5 => have := HX.out.size; simp; omega
                intro v3 w3 hown3 hgr3 _
                obtain ⟨a3, c3, rfl⟩ := own_form hown3
                have HO3 := hid hown3
                have HX3 := hid ((HX.out.alloc HX.out.size (.cells #[.int .i64 (wrap64 (s[i + 1].toNat : Int))] 3)).grown hgr3 (by have := HX.out.size; simp; omega) (fun j hj => (HO2.out.lt j hj).1))
                have HP3 := hid ((HO1.out.alloc (.cells #[.int .i64 (wrap64 (s[i + 1].toNat : Int))] 3)).kept hgr3 (own_apart HO1.out HO2.out (by decide)))
                clear hown3 hgr3
                go_wp2
                go_roundw
                case rel => exact ⟨i + 1 + 1, m1, c1, m2 + 1, c3, a1, a3, _, _, by omega, by omega, by omega, by go_num, rfl, rfl, HFR.out, HP3.out, HO3.out, HX3.out⟩
                case measure => simp [intOf]; omega
              · have q1 : ((s[i + 1].toNat : Int) != 42) = true := by rw [hz]; rfl
                have q2 : ((s[i + 1].toNat : Int) != 63) = true := by rw [hz]; rfl
                have q3 : ((s[i + 1].toNat : Int) != 124) = true := by rw [hz]; rfl
                have q4 : ((s[i + 1].toNat : Int) != 92) = false := by rw [hz]; rfl
                clear hz
                go_wp2_with (at_builtin; refine wpList_append_own _ rfl (.tmp 79) (.tmp 84) 24 rfl w.heap.size 3 i0 (.int .i64 0) 1 8 Tryz.underlying24 i1 i2 i3 i4 rfl (by decide) _ _ _ rfl (HO2.out.alloc _) ⟨wr.heap.size, 0, none⟩ 1 1 [.int .i64 (wrap64 (s[i + 1].toNat : Int))] rfl rfl ?d1 ?d2 ?d3 ?d4 ?d5 ?_)
                case d1 => exact one_row _ _ _
                case d2 => intro u hu; simp at hu; subst hu; rfl
                case d3 => unfold maxLen; omega
                case d4 => omega
                case d5 => have := HX.out.size; simp; omega
                intro v3 w3 hown3 hgr3 _
                obtain ⟨a3, c3, rfl⟩ := own_form hown3
                have HO3 := hid hown3
                have HX3 := hid ((HX.out.alloc HX.out.size (.cells #[.int .i64 (wrap64 (s[i + 1].toNat : Int))] 3)).grown hgr3 (by have := HX.out.size; simp; omega) (fun j hj => (HO2.out.lt j hj).1))
                have HP3 := hid ((HO1.out.alloc (.cells #[.int .i64 (wrap64 (s[i + 1].toNat : Int))] 3)).kept hgr3 (own_apart HO1.out HO2.out (by decide)))
                clear hown3 hgr3
                go_wp2
                go_roundw
                case rel => exact ⟨i + 1 + 1, m1, c1, m2 + 1, c3, a1, a3, _, _, by omega, by omega, by omega, by go_num, rfl, rfl, HFR.out, HP3.out, HO3.out, HX3.out⟩
                case measure => simp [intOf]; omega
            · have hsg' : sgB (s[i + 1].toNat : Int) = false := by simpa using hsg
              have HP := hid (HPO.out false (hfr.out.bad hlt HE4.out hl2 hsg'))
              have hne : ((i : Int) + 1 == (s.size : Int)) = false := by simp; omega
              have hz : ¬ ((s[i + 1].toNat : Int) = 42 ∨ (s[i + 1].toNat : Int) = 63 ∨ (s[i + 1].toNat : Int) = 124 ∨ (s[i + 1].toNat : Int) = 92) := by unfold sgB at hsg'; exact of_decide_eq_false hsg'
              have q1 : ((s[i + 1].toNat : Int) != 42) = true := by simp only [bne_iff_ne, ne_eq]; omega
              have q2 : ((s[i + 1].toNat : Int) != 63) = true := by simp only [bne_iff_ne, ne_eq]; omega
              have q3 : ((s[i + 1].toNat : Int) != 124) = true := by simp only [bne_iff_ne, ne_eq]; omega
              have q4 : ((s[i + 1].toNat : Int) != 92) = true := by simp only [bne_iff_ne, ne_eq]; omega
              clear hz hsg hsg'
              go_wp2
              go_ret2
              exact ⟨⟨_, by rw [HP.out]; rfl⟩, HX.out⟩
          · have hl3 : i + 1 = s.size := by omega
            have HP := hid (HPO.out false (hfr.out.last hlt HE4.out hl3))
            have hne : ((i : Int) + 1 == (s.size : Int)) = true := by simp; omega
            clear hl3
            go_wp2
            go_ret2
            exact ⟨⟨_, by rw [HP.out]; rfl⟩, HX.out⟩
        have e4' : ((s[i].toNat : Int) == 92) = false := by simp [e4]
        have HFR := hid (hfr.out.plain hlt e4)
        clear e1 e2 e3 e4
        go_wp2_with (at_builtin; refine wpList_append_own _ rfl (.tmp 24) (.tmp 29) 24 rfl w.heap.size 3 i0 (.int .i64 0) 1 8 Tryz.underlying24 i1 i2 i3 i4 rfl (by decide) _ _ _ rfl (HO2.out.alloc _) ⟨wr.heap.size, 0, none⟩ 1 1 [.int .i64 (wrap64 (s[i].toNat : Int))] rfl rfl ?d1 ?d2 ?d3 ?d4 ?d5 ?_)
        case d1 => exact one_row _ _ _
        case d2 => intro u hu; simp at hu; subst hu; rfl
        case d3 => unfold maxLen; omega
        case d4 => omega
        case d5 => have := HX.out.size; simp; omega
        intro v3 w3 hown3 hgr3 _
        obtain ⟨a3, c3, rfl⟩ := own_form hown3
        have HO3 := hid hown3
        have HX3 := hid ((HX.out.alloc HX.out.size (.cells #[.int .i64 (wrap64 (s[i].toNat : Int))] 3)).grown hgr3 (by have := HX.out.size; simp; omega) (fun j hj => (HO2.out.lt j hj).1))
        have HP3 := hid ((HO1.out.alloc (.cells #[.int .i64 (wrap64 (s[i].toNat : Int))] 3)).kept hgr3 (own_apart HO1.out HO2.out (by decide)))
        clear hown3 hgr3
        go_wp2
        go_roundw
        case rel => exact ⟨i + 1, m1, c1, m2 + 1, c3, a1, a3, _, _, by omega, by omega, by omega, by go_num, rfl, rfl, HFR.out, HP3.out, HO3.out, HX3.out⟩
        case measure => simp [intOf]; omega
      · have HP := hid (HPO.out true (hfr.out.done (by omega)))
        go_wp2_with (at_builtin; refine wpList_append_own _ rfl (.tmp 86) (.tmp 88) 143 rfl w.heap.size 24 j0 (.slice none 0 0) 1 24 Tryz.underlying143 j1 j2 j3 j4 rfl (by decide) _ _ _ rfl (HO1.out.alloc _) ⟨wr.heap.size, 0, none⟩ 1 1 [.slice a2 m2 c2] rfl rfl ?d1 ?d2 ?d3 ?d4 ?d5 ?_)
        case d1 => exact one_row _ _ _
        case d2 => intro u hu; simp at hu; subst hu; rfl
        case d3 => unfold maxLen; omega
        case d4 => omega
        case d5 => have := HX.out.size; simp; omega
        intro v3 w3 hown3 hgr3 _
        obtain ⟨a3, c3, rfl⟩ := own_form hown3
        have HO3 := hid hown3
        have HX3 := hid ((HX.out.alloc HX.out.size (.cells #[.slice a2 m2 c2] 24)).grown hgr3 (by have := HX.out.size; simp; omega) (fun j hj => (HO1.out.lt j hj).1))
        clear hown3 hgr3
        go_wp2
        go_ret2
        exact ⟨⟨_, by rw [HP.out]; rfl⟩, HX3.out⟩
  · have hpr' : printL s.data.toList = false := by simpa using hpr
    clear hpr
    go_enter Tryz.func122, Tryz.ntmps122
    go_wp2_with (go_at_call 84; refine (f84 s _ hs).mono ?_; rintro e w' ⟨rfl, hw'⟩; have hw2 := hw'.symm; clear hw'; subst hw2)
    go_ret2
    exact ⟨⟨_, by rw [pat_unprinted hpr']; rfl⟩, Below.refl _ _⟩
end Go.Proofs.YtjhdmghpklagkaaGreat.Pat
namespace Go.Proofs.YtjhdmghpklagkaaGreat.Pat
open Go.RowKit

theorem own_new (w : World) (x : Value) (t B : Nat) (hB : B ≤ w.heap.size) : (w.alloc (.cells #[x] t)).ownsRow B t 1 (.slice (some ⟨w.heap.size, 0, none⟩) 1 1) 1 [x] :=
  ⟨rfl, .inr ⟨w.heap.size, 1, #[x], rfl, hB, heap_alloc_new w _, Nat.le_refl _, by unfold maxLen; omega, rfl, rfl⟩⟩
theorem own_shape {w : World} {base e size n : Nat} {v : Value} {xs : List Value} (h : w.ownsRow base e size v n xs) (hn : 1 ≤ n) : ∃ g c, v = .slice (some ⟨g, 0, none⟩) n c := by
  rcases h.2 with ⟨_, h2⟩ | ⟨g, cap, cur, h1, _⟩
  · omega
  · exact ⟨g, cap, h1⟩
theorem Rp.start (w : World) : Rp w.heap.size w ((w.alloc (.cells #[.slice none 0 0] 207)).alloc (.cells #[.slice (some ⟨w.heap.size, 0, none⟩) 1 1] 193)) (w.heap.size + 1) 1 1 0 := by
  have h := own_new (w.alloc (.cells #[.slice none 0 0] 207)) (.slice (some ⟨w.heap.size, 0, none⟩) 1 1) 193 w.heap.size (by simp)
  simp only [World.size_alloc] at h
  exact ⟨⟨_, w.heap.size, 1, 1, [.slice none 0 0], none, 0, 0, [], h, rfl, ⟨(own_new w (.slice none 0 0) 207 w.heap.size (Nat.le_refl _)).alloc _, Nat.le_refl _, rfl, World.ownsRow_nil _ _ _ _⟩, Nat.le_refl _, Nat.le_refl _⟩, Nat.le_refl _, Nat.le_refl _, ((Below.refl w.heap.size w).alloc (Nat.le_refl _) _).alloc (by simp) _⟩

set_option maxHeartbeats 8000000 in
set_option maxRecDepth 100000 in
theorem f153 (s : ByteArray) (w : World) (hs : s.size ≤ maxLen) :
    Calls Tryz.prog 153 #[.string s] w fun e w' => (∃ V, e = .returned (.tuple #[V, .bool (patB s)])) ∧ Below w.heap.size w w' := by
  obtain ⟨i0, i1, i2, i3, i4⟩ := info_parts info91
  obtain ⟨j0, j1, j2, j3, j4⟩ := info_parts info63
  have hs' := hs
  unfold maxLen at hs'
  by_cases h100 : 100 < s.size
  · go_enter Tryz.func153, Tryz.ntmps153
    go_wp2
    go_ret2
    exact ⟨⟨_, by rw [pat_long h100]; rfl⟩, Below.refl _ _⟩
  by_cases hpr : printL s.data.toList = true
  · have HPO := hid (fun (b : Bool) => pat_ok (s := s) (b := b) (by omega) hpr)
    have HST := hid (Rp.start w)
    go_enter Tryz.func153, Tryz.ntmps153
    go_wp2_with (go_at_call 127; refine (f127 s _ hs).mono ?_; rintro e w' ⟨rfl, hw'⟩; have hw2 := hw'.symm; clear hw'; subst hw2)
    go_loopw [4, 5] (fun so si wr => ∃ (i g1 n1 c1 : Nat), i ≤ s.size ∧ si = .int .i64 i ∧ so = .slice (some ⟨g1, 0, none⟩) n1 c1 ∧ Hid (From s i) ∧ Rp w.heap.size w wr g1 n1 c1 i) (fun _ si _ => s.size - (intOf si).toNat)
    case atStart => exact ⟨0, w.heap.size + 1, 1, 1, Nat.zero_le _, rfl, rfl, From.zero s, HST.out⟩
    case round =>
      obtain ⟨i, g1, n1, c1, hi, rfl, rfl, hfr, hR⟩ := hrel
      have HR := hid hR
      have hp1 := hR.pos
      have hle1 := hR.le
      obtain ⟨k1, rfl⟩ : ∃ k1, n1 = k1 + 1 := ⟨n1 - 1, by omega⟩
      clear hR
      by_cases hlt : i < s.size
      · obtain ⟨x1, g2, n2, c2, x2, a3, n3, c3, x3, hA, hlast, hn2, hn3⟩ := HR.out.open
        have HA := hid hA
        have d0 : wr.cell? ⟨g1, k1, none⟩ = some (.slice (some ⟨g2, 0, none⟩) n2 c2) := hA.1
        have hsz : w.heap.size ≤ wr.heap.size := HR.out.below.size
        have hn2b : n2 ≤ 1000 := by omega
        have hn3b : n3 ≤ 1000 := by omega
        have ik : (k1 : Int) < ((k1 + 1 : Nat) : Int) := by omega
        clear hA
        by_cases e1 : (s[i].toNat : Int) = 124
        · have e1' : ((s[i].toNat : Int) == 124) = true := by simp [e1]
          have HFR := hid (hfr.out.plain hlt (by omega))
          clear e1
          go_wp2_with (at_builtin; refine wpList_append_own _ rfl (.tmp 40) (.tmp 42) 171 rfl w.heap.size 193 j0 (.slice none 0 0) 1 24 Tryz.underlying171 j1 j2 j3 j4 rfl (by decide) _ _ _ rfl ((HA.out.2.1.alloc _).alloc _) ⟨wr.heap.size + 1, 0, none⟩ 1 1 [.slice (some ⟨wr.heap.size, 0, none⟩) 1 1] rfl rfl ?d1 ?d2 ?d3 ?d4 ?d5 ?_)
          case d1 =>
            have := one_row (wr.alloc (.cells #[.slice none 0 0] 207)) (.slice (some ⟨wr.heap.size, 0, none⟩) 1 1) 193
            simp only [World.size_alloc] at this
            exact this
          case d2 => intro u hu; simp at hu; subst hu; rfl
          case d3 => unfold maxLen; omega
          case d4 => omega
          case d5 => simp; omega
          intro v3 w3 hown3 hgr3 _
          obtain ⟨g4, c4, rfl⟩ := own_shape hown3 (by omega)
          have hN := ((own_new wr (.slice none 0 0) 207 w.heap.size hsz).alloc (.cells #[.slice (some ⟨wr.heap.size, 0, none⟩) 1 1] 193)).kept hgr3 (own_apart ((own_new wr (.slice none 0 0) 207 w.heap.size hsz).alloc (.cells #[.slice (some ⟨wr.heap.size, 0, none⟩) 1 1] 193)) ((HA.out.2.1.alloc (.cells #[.slice none 0 0] 207)).alloc (.cells #[.slice (some ⟨wr.heap.size, 0, none⟩) 1 1] 193)) (by decide))
          have hxl : x1.length = k1 + 1 := by have := HA.out.2.1.1; omega
          have hX3 : Below w.heap.size w w3 := ((HR.out.below.alloc hsz (.cells #[.slice none 0 0] 207)).alloc (by simp; omega) (.cells #[.slice (some ⟨wr.heap.size, 0, none⟩) 1 1] 193)).grown hgr3 (by simp; omega) (fun j hj => (HA.out.2.1.lt j hj).1)
          have R3 : Hid (Rp w.heap.size w w3 g4 (k1 + 1 + 1) c4 (i + 1)) := ⟨⟨_, wr.heap.size, 1, 1, [.slice none 0 0], none, 0, 0, [], hown3, by rw [Nat.add_sub_cancel, List.getElem?_append_right (by omega), hxl]; simp, ⟨hN, Nat.le_refl _, rfl, World.ownsRow_nil _ _ _ _⟩, by omega, by omega⟩, by omega, by omega, hX3⟩
          clear hown3 hgr3 hN hX3 hxl
          go_wp2
          go_roundw
          case rel => exact ⟨i + 1, g4, k1 + 1 + 1, c4, by omega, by go_num, rfl, HFR.out, R3.out⟩
          case measure => simp [intOf]; omega
        have e1' : ((s[i].toNat : Int) == 124) = false := by simp [e1]
        by_cases e2 : (s[i].toNat : Int) = 42
        · have e2' : ((s[i].toNat : Int) == 42) = true := by simp [e2]
          have HFR := hid (hfr.out.plain hlt (by omega))
          clear e1 e2
          go_wp2_with (at_builtin; refine wpList_append_own _ rfl (.tmp 51) (.tmp 52) 193 rfl w.heap.size 207 i0 (.slice none 0 0) 1 24 Tryz.underlying193 i1 i2 i3 i4 rfl (by decide) _ _ _ rfl (HA.out.2.2.1.own.alloc _) ⟨wr.heap.size, 0, none⟩ 1 1 [.slice none 0 0] rfl rfl ?d1 ?d2 ?d3 ?d4 ?d5 ?_)
          case d1 => exact one_row _ _ _
          case d2 => intro u hu; simp at hu; subst hu; rfl
          case d3 => unfold maxLen; omega
          case d4 => omega
          case d5 => simp; omega
          intro v3 w3 hown3 hgr3 _
          obtain ⟨g4, c4, rfl⟩ := own_shape hown3 (by omega)
          have hx2 : x2.length = n2 := by have := HA.out.2.2.1.own.1; omega
          have hxl : x1.length = k1 + 1 := by have := HA.out.2.1.1; omega
          have O63 := (HA.out.2.1.alloc (.cells #[.slice none 0 0] 207)).kept hgr3 (own_apart HA.out.2.1 HA.out.2.2.1.own (by decide))
          have fz := O63.frozenAt k1
          have d3 : w3.cell? ⟨g1, k1, none⟩ = some (.slice (some ⟨g2, 0, none⟩) n2 c2) := (O63.cellAt k1 (by omega)).trans hlast
          have hst := O63.stored k1 (.slice (some ⟨g4, 0, none⟩) (n2 + 1) c4)
          have hX3 : Below w.heap.size w w3 := (HR.out.below.alloc hsz (.cells #[.slice none 0 0] 207)).grown hgr3 (by simp; omega) (fun j hj => (HA.out.2.2.1.own.lt j hj).1)
          have R3 : Hid (Rp w.heap.size w (w3.setCell ⟨g1, k1, none⟩ (.slice (some ⟨g4, 0, none⟩) (n2 + 1) c4)) g1 (k1 + 1) c1 (i + 1)) := ⟨⟨_, g4, n2 + 1, c4, _, none, 0, 0, [], hst.1, by rw [Nat.add_sub_cancel, List.getElem?_set_self (by omega)], ⟨hown3.kept hst.2 (own_apart hown3 O63 (by decide)), by omega, by rw [Nat.add_sub_cancel, List.getElem?_append_right (by omega), hx2]; simp, World.ownsRow_nil _ _ _ _⟩, by omega, by omega⟩, by omega, by omega, hX3.setCell (HA.out.2.1.lt g1 rfl).1 _⟩
          clear hown3 hgr3 hst hX3 hxl hx2 O63
          go_wp2
          go_roundw
          case rel => exact ⟨i + 1, g1, k1 + 1, c1, by omega, by go_num, rfl, HFR.out, R3.out⟩
          case measure => simp [intOf]; omega
        have e2' : ((s[i].toNat : Int) == 42) = false := by simp [e2]
        by_cases e3 : (s[i].toNat : Int) = 63
        · have e3' : ((s[i].toNat : Int) == 63) = true := by simp [e3]
          have HFR := hid (hfr.out.plain hlt (by omega))
          clear e1 e2 e3
          go_wp2_with fail
          go_region_with (first | (go_at_call 178; refine (f178 _).mono ?_; rintro e w2 ⟨⟨F, rfl⟩, hw2⟩; subst hw2) | (go_at_call 177; refine (f177 w.heap.size g2 n2 c2 n3 c3 a3 x2 x3 _ _ _ _ ?_ ?_ hn2b hn3b).mono ?_; (exact HA.out.drew.2.2.1); (exact hsz); rintro e w3 ⟨rfl, h3⟩; have R3 := hid (Rp.added (j := i + 1) HA.out.drew hp1 hle1 hlast hn2 hn3 h3 (Nat.le_refl _)); clear h3))
          all_goals
            go_wp2
            go_roundw
            case rel => exact ⟨i + 1, g1, k1 + 1, c1, by omega, by go_num, rfl, HFR.out, R3.out⟩
            case measure => simp [intOf]; omega
        have e3' : ((s[i].toNat : Int) == 63) = false := by simp [e3]
        by_cases e4 : (s[i].toNat : Int) = 92
        · have e4' : ((s[i].toNat : Int) == 92) = true := by simp [e4]
          have HE4 := hid e4
          clear e1 e2 e3 e4
          by_cases hl2 : i + 1 < s.size
          · have hne : ((i : Int) + 1 == (s.size : Int)) = false := by simp; omega
            have il2 : (i : Int) + 1 < (s.size : Int) := by omega
            by_cases hsg : sgB (s[i + 1].toNat : Int) = true
            · have HFR := hid (hfr.out.sign hlt HE4.out hl2 hsg)
              have HSG := hid hsg
              clear hsg
              go_wp2_with (go_at_call 179; refine (f179 s[i + 1] _).mono ?_; rintro e w2 ⟨⟨y, rfl, hy⟩, hw2⟩; subst hw2; have hy0 : ¬ y < 0 := (by have h1 := HSG.out; rw [h1] at hy; simpa using hy); clear hy)
              go_region_with (first | (go_at_call 180; refine (f180 _ _).mono ?_; rintro e w2 ⟨⟨F, ts, us, rfl⟩, hb2⟩; have hA2 := hid (Ad.below HA.out.drew hb2); have d2 : w2.cell? ⟨g1, k1, none⟩ = some (.slice (some ⟨g2, 0, none⟩) n2 c2) := hA2.out.1; clear hb2) | (go_at_call 177; refine (f177 w.heap.size g2 n2 c2 n3 c3 a3 x2 x3 _ _ _ _ ?_ ?_ hn2b hn3b).mono ?_; (exact hA2.out.2.2.1); (exact Nat.le_trans hA2.out.2.2.2.size (Nat.le_refl _)); rintro e w3 ⟨rfl, h3⟩; have R3 := hid (Rp.added (j := i + 1 + 1) hA2.out hp1 hle1 hlast hn2 hn3 h3 (by omega)); clear h3))
              all_goals
                go_wp2
                go_roundw
                case rel => exact ⟨i + 1 + 1, g1, k1 + 1, c1, by omega, by go_num, rfl, HFR.out, R3.out⟩
                case measure => simp [intOf]; omega
            · have hsg' : sgB (s[i + 1].toNat : Int) = false := by simpa using hsg
              have HP := hid (HPO.out false (hfr.out.bad hlt HE4.out hl2 hsg'))
              have HSG := hid hsg'
              clear hsg hsg'
              go_wp2_with (go_at_call 179; refine (f179 s[i + 1] _).mono ?_; rintro e w2 ⟨⟨y, rfl, hy⟩, hw2⟩; subst hw2; have hy0 : y < 0 := (by have h1 := HSG.out; rw [h1] at hy; simpa using hy); clear hy)
              go_ret2
              exact ⟨⟨_, by rw [HP.out]; rfl⟩, HR.out.below⟩
          · have hl3 : i + 1 = s.size := by omega
            have HP := hid (HPO.out false (hfr.out.last hlt HE4.out hl3))
            have hne : ((i : Int) + 1 == (s.size : Int)) = true := by simp; omega
            clear hl3
            go_wp2
            go_ret2
            exact ⟨⟨_, by rw [HP.out]; rfl⟩, HR.out.below⟩
        have e4' : ((s[i].toNat : Int) == 92) = false := by simp [e4]
        have HFR := hid (hfr.out.plain hlt e4)
        clear e1 e2 e3 e4
        go_wp2_with fail
        go_region_with (first | (go_at_call 180; refine (f180 _ _).mono ?_; rintro e w2 ⟨⟨F, ts, us, rfl⟩, hb2⟩; have hA2 := hid (Ad.below HA.out.drew hb2); have d2 : w2.cell? ⟨g1, k1, none⟩ = some (.slice (some ⟨g2, 0, none⟩) n2 c2) := hA2.out.1; clear hb2) | (go_at_call 177; refine (f177 w.heap.size g2 n2 c2 n3 c3 a3 x2 x3 _ _ _ _ ?_ ?_ hn2b hn3b).mono ?_; (exact hA2.out.2.2.1); (exact Nat.le_trans hA2.out.2.2.2.size (Nat.le_refl _)); rintro e w3 ⟨rfl, h3⟩; have R3 := hid (Rp.added (j := i + 1) hA2.out hp1 hle1 hlast hn2 hn3 h3 (Nat.le_refl _)); clear h3))
        all_goals
          go_wp2
          go_roundw
          case rel => exact ⟨i + 1, g1, k1 + 1, c1, by omega, by go_num, rfl, HFR.out, R3.out⟩
          case measure => simp [intOf]; omega
      · have HP := hid (HPO.out true (hfr.out.done (by omega)))
        go_wp2
        go_ret2
        exact ⟨⟨_, by rw [HP.out]; rfl⟩, HR.out.below⟩
  · have hpr' : printL s.data.toList = false := by simpa using hpr
    clear hpr
    go_enter Tryz.func153, Tryz.ntmps153
    go_wp2_with (go_at_call 127; refine (f127 s _ hs).mono ?_; rintro e w' ⟨rfl, hw'⟩; have hw2 := hw'.symm; clear hw'; subst hw2)
    go_ret2
    exact ⟨⟨_, by rw [pat_unprinted hpr']; rfl⟩, Below.refl _ _⟩

theorem f128 (s : ByteArray) (w : World) (hs : s.size ≤ maxLen) : Calls Tryz.prog 128 #[.string s] w fun e w' => e = .returned (.bool (patB s)) ∧ Below w.heap.size w w' := by
  go_enter Tryz.func128, Tryz.ntmps128
  go_wp2_with fail
  refine (f153 s _ hs).mono ?_
  rintro e w1 ⟨⟨V, rfl⟩, hb⟩
  go_wp2
  go_ret
  exact ⟨rfl, hb⟩
end Go.Proofs.YtjhdmghpklagkaaGreat.Pat
namespace Go.Proofs.YtjhdmghpklagkaaGreat.Pat
open Go.RowKit

abbrev Mt := ByteArray × Int × ByteArray
def m0 : Mt := (ByteArray.empty, 0, ByteArray.empty)
def HasM (w : World) (a : Option Addr) (ms : List Mt) : Prop :=
  ms = [] ∨ ∃ b off, a = some ⟨b, off, none⟩ ∧ b < w.heap.size ∧ ∀ i, i < ms.length → w.cell? ⟨b, off + i * 3, none⟩ = some (.string (ms.getD i m0).1) ∧ w.cell? ⟨b, off + i * 3 + 1, none⟩ = some (.int .i64 (ms.getD i m0).2.1) ∧ w.cell? ⟨b, off + i * 3 + 2, none⟩ = some (.string (ms.getD i m0).2.2)
theorem HasM.below {w w' : World} {a : Option Addr} {ms : List Mt} (h : HasM w a ms) (hb : Below w.heap.size w w') : HasM w' a ms := by
  rcases h with h | ⟨b, off, h1, h2, h3⟩
  · exact .inl h
  · exact .inr ⟨b, off, h1, Nat.lt_of_lt_of_le h2 hb.size, fun i hi => ⟨(hb.cell (by exact h2)).trans (h3 i hi).1, (hb.cell (by exact h2)).trans (h3 i hi).2.1, (hb.cell (by exact h2)).trans (h3 i hi).2.2⟩⟩
def FitM (ms : List Mt) : Prop := ∀ i, (ms.getD i m0).1.size ≤ maxLen ∧ (ms.getD i m0).2.2.size ≤ maxLen ∧ -9223372036854775808 ≤ (ms.getD i m0).2.1 ∧ (ms.getD i m0).2.1 ≤ 9223372036854775807

end Go.Proofs.YtjhdmghpklagkaaGreat.Pat
