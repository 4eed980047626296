/- What the program's GoodPattern comes to. -/
import Derived.Test.YtpobpanmkdjkjaaPai
import Derived.Test.YtpobpanmkdjkjaaPas
import Derived.Deep.RegionWith
namespace Go.Proofs.Ytpobpanmkdjkjaa.Pat
open Go.RowKit

theorem own_new (w : World) (x : Value) (t B : Nat) (hB : B ≤ w.heap.size) : (w.alloc (.cells #[x] t)).ownsRow B t 1 (.slice (some ⟨w.heap.size, 0, none⟩) 1 1) 1 [x] :=
  ⟨rfl, .inr ⟨w.heap.size, 1, #[x], rfl, hB, heap_alloc_new w _, Nat.le_refl _, by unfold maxLen; omega, rfl, rfl⟩⟩
theorem own_shape {w : World} {base e size n : Nat} {v : Value} {xs : List Value} (h : w.ownsRow base e size v n xs) (hn : 1 ≤ n) : ∃ g c, v = .slice (some ⟨g, 0, none⟩) n c := by
  rcases h.2 with ⟨_, h2⟩ | ⟨g, cap, cur, h1, _⟩
  · omega
  · exact ⟨g, cap, h1⟩
theorem Rp.start (w : World) : Rp w.heap.size w ((w.alloc (.cells #[.slice none 0 0] 96)).alloc (.cells #[.slice (some ⟨w.heap.size, 0, none⟩) 1 1] 79)) (w.heap.size + 1) 1 1 0 := by
  have h := own_new (w.alloc (.cells #[.slice none 0 0] 96)) (.slice (some ⟨w.heap.size, 0, none⟩) 1 1) 79 w.heap.size (by simp)
  simp only [World.size_alloc] at h
  exact ⟨⟨_, w.heap.size, 1, 1, [.slice none 0 0], none, 0, 0, [], h, rfl, ⟨(own_new w (.slice none 0 0) 96 w.heap.size (Nat.le_refl _)).alloc _, Nat.le_refl _, rfl, World.ownsRow_nil _ _ _ _⟩, Nat.le_refl _, Nat.le_refl _⟩, Nat.le_refl _, Nat.le_refl _, ((Below.refl w.heap.size w).alloc (Nat.le_refl _) _).alloc (by simp) _⟩

set_option maxHeartbeats 8000000 in
set_option maxRecDepth 100000 in
theorem f30 (s : ByteArray) (w : World) (hs : s.size ≤ maxLen) :
    Calls Try.prog 30 #[.string s] w fun e w' => (∃ V, e = .returned (.tuple #[V, .bool (patB s)])) ∧ Below w.heap.size w w' := by
  obtain ⟨i0, i1, i2, i3, i4⟩ := info_parts info91
  obtain ⟨j0, j1, j2, j3, j4⟩ := info_parts info63
  have hs' := hs
  unfold maxLen at hs'
  by_cases h100 : 100 < s.size
  · go_enter Try.func30, Try.ntmps30
    go_wp2
    go_ret2
    exact ⟨⟨_, by rw [pat_long h100]; rfl⟩, Below.refl _ _⟩
  by_cases hpr : printL s.data.toList = true
  · have HPO := hid (fun (b : Bool) => pat_ok (s := s) (b := b) (by omega) hpr)
    have HST := hid (Rp.start w)
    go_enter Try.func30, Try.ntmps30
    go_wp2_with (go_at_call 50; refine (f50 s _ hs).mono ?_; rintro e w' ⟨rfl, hw'⟩; have hw2 := hw'.symm; clear hw'; subst hw2)
    go_loopw [4, 5] (fun so si wr => ∃ (i g1 n1 c1 : Nat), i ≤ s.size ∧ si = .int .i64 i ∧ so = .slice (some ⟨g1, 0, none⟩) n1 c1 ∧ Hid (From s i) ∧ Rp w.heap.size w wr g1 n1 c1 i) (fun _ si _ => s.size - (intOf si).toNat)
    case atStart => exact ⟨0, w.heap.size + 1, 1, 1, Nat.zero_le _, rfl, rfl, From.zero s, HST.out⟩
    case round =>
      obtain ⟨i, g1, n1, c1, hi, rfl, rfl, hfr, hR⟩ := hrel
      have HR := hid hR
      have hp1 := hR.pos
      have hle1 := hR.le
      obtain ⟨k1, rfl⟩ : ∃ k1, n1 = k1 + 1 := ⟨n1 - 1, by omega⟩
      clear hR
      by_cases hlt : i < s.size
      · obtain ⟨x1, g2, n2, c2, x2, a3, n3, c3, x3, hA, hlast, hn2, hn3⟩ := HR.out.open
        have HA := hid hA
        have d0 : wr.cell? ⟨g1, k1, none⟩ = some (.slice (some ⟨g2, 0, none⟩) n2 c2) := hA.1
        have hsz : w.heap.size ≤ wr.heap.size := HR.out.below.size
        have hn2b : n2 ≤ 1000 := by omega
        have hn3b : n3 ≤ 1000 := by omega
        have ik : (k1 : Int) < ((k1 + 1 : Nat) : Int) := by omega
        clear hA
        by_cases e1 : (s[i].toNat : Int) = 124
        · have e1' : ((s[i].toNat : Int) == 124) = true := by simp [e1]
          have HFR := hid (hfr.out.plain hlt (by omega))
          clear e1
          go_wp2_with (at_builtin; refine wpList_append_own _ rfl (.tmp 40) (.tmp 42) 57 rfl w.heap.size 79 j0 (.slice none 0 0) 1 24 Try.underlying57 j1 j2 j3 j4 rfl (by decide) _ _ _ rfl ((HA.out.2.1.alloc _).alloc _) ⟨wr.heap.size + 1, 0, none⟩ 1 1 [.slice (some ⟨wr.heap.size, 0, none⟩) 1 1] rfl rfl ?d1 ?d2 ?d3 ?d4 ?d5 ?_)
          case d1 =>
            have := one_row (wr.alloc (.cells #[.slice none 0 0] 96)) (.slice (some ⟨wr.heap.size, 0, none⟩) 1 1) 79
            simp only [World.size_alloc] at this
            exact this
          case d2 => intro u hu; simp at hu; subst hu; rfl
          case d3 => unfold maxLen; omega
          case d4 => omega
          case d5 => simp; omega
          intro v3 w3 hown3 hgr3 _
          obtain ⟨g4, c4, rfl⟩ := own_shape hown3 (by omega)
          have hN := ((own_new wr (.slice none 0 0) 96 w.heap.size hsz).alloc (.cells #[.slice (some ⟨wr.heap.size, 0, none⟩) 1 1] 79)).kept hgr3 (own_apart ((own_new wr (.slice none 0 0) 96 w.heap.size hsz).alloc (.cells #[.slice (some ⟨wr.heap.size, 0, none⟩) 1 1] 79)) ((HA.out.2.1.alloc (.cells #[.slice none 0 0] 96)).alloc (.cells #[.slice (some ⟨wr.heap.size, 0, none⟩) 1 1] 79)) (by decide))
          have hxl : x1.length = k1 + 1 := by have := HA.out.2.1.1; omega
          have hX3 : Below w.heap.size w w3 := ((HR.out.below.alloc hsz (.cells #[.slice none 0 0] 96)).alloc (by simp; omega) (.cells #[.slice (some ⟨wr.heap.size, 0, none⟩) 1 1] 79)).grown hgr3 (by simp; omega) (fun j hj => (HA.out.2.1.lt j hj).1)
          have R3 : Hid (Rp w.heap.size w w3 g4 (k1 + 1 + 1) c4 (i + 1)) := ⟨⟨_, wr.heap.size, 1, 1, [.slice none 0 0], none, 0, 0, [], hown3, by rw [Nat.add_sub_cancel, List.getElem?_append_right (by omega), hxl]; simp, ⟨hN, Nat.le_refl _, rfl, World.ownsRow_nil _ _ _ _⟩, by omega, by omega⟩, by omega, by omega, hX3⟩
          clear hown3 hgr3 hN hX3 hxl
          go_wp2
          go_roundw
          case rel => exact ⟨i + 1, g4, k1 + 1 + 1, c4, by omega, by go_num, rfl, HFR.out, R3.out⟩
          case measure => simp [intOf]; omega
        have e1' : ((s[i].toNat : Int) == 124) = false := by simp [e1]
        by_cases e2 : (s[i].toNat : Int) = 42
        · have e2' : ((s[i].toNat : Int) == 42) = true := by simp [e2]
          have HFR := hid (hfr.out.plain hlt (by omega))
          clear e1 e2
          go_wp2_with (at_builtin; refine wpList_append_own _ rfl (.tmp 51) (.tmp 52) 79 rfl w.heap.size 96 i0 (.slice none 0 0) 1 24 Try.underlying79 i1 i2 i3 i4 rfl (by decide) _ _ _ rfl (HA.out.2.2.1.own.alloc _) ⟨wr.heap.size, 0, none⟩ 1 1 [.slice none 0 0] rfl rfl ?d1 ?d2 ?d3 ?d4 ?d5 ?_)
          case d1 => exact one_row _ _ _
          case d2 => intro u hu; simp at hu; subst hu; rfl
          case d3 => unfold maxLen; omega
          case d4 => omega
          case d5 => simp; omega
          intro v3 w3 hown3 hgr3 _
          obtain ⟨g4, c4, rfl⟩ := own_shape hown3 (by omega)
          have hx2 : x2.length = n2 := by have := HA.out.2.2.1.own.1; omega
          have hxl : x1.length = k1 + 1 := by have := HA.out.2.1.1; omega
          have O63 := (HA.out.2.1.alloc (.cells #[.slice none 0 0] 96)).kept hgr3 (own_apart HA.out.2.1 HA.out.2.2.1.own (by decide))
          have fz := O63.frozenAt k1
          have d3 : w3.cell? ⟨g1, k1, none⟩ = some (.slice (some ⟨g2, 0, none⟩) n2 c2) := (O63.cellAt k1 (by omega)).trans hlast
          have hst := O63.stored k1 (.slice (some ⟨g4, 0, none⟩) (n2 + 1) c4)
          have hX3 : Below w.heap.size w w3 := (HR.out.below.alloc hsz (.cells #[.slice none 0 0] 96)).grown hgr3 (by simp; omega) (fun j hj => (HA.out.2.2.1.own.lt j hj).1)
          have R3 : Hid (Rp w.heap.size w (w3.setCell ⟨g1, k1, none⟩ (.slice (some ⟨g4, 0, none⟩) (n2 + 1) c4)) g1 (k1 + 1) c1 (i + 1)) := ⟨⟨_, g4, n2 + 1, c4, _, none, 0, 0, [], hst.1, by rw [Nat.add_sub_cancel, List.getElem?_set_self (by omega)], ⟨hown3.kept hst.2 (own_apart hown3 O63 (by decide)), by omega, by rw [Nat.add_sub_cancel, List.getElem?_append_right (by omega), hx2]; simp, World.ownsRow_nil _ _ _ _⟩, by omega, by omega⟩, by omega, by omega, hX3.setCell (HA.out.2.1.lt g1 rfl).1 _⟩
          clear hown3 hgr3 hst hX3 hxl hx2 O63
          go_wp2
          go_roundw
          case rel => exact ⟨i + 1, g1, k1 + 1, c1, by omega, by go_num, rfl, HFR.out, R3.out⟩
          case measure => simp [intOf]; omega
        have e2' : ((s[i].toNat : Int) == 42) = false := by simp [e2]
        by_cases e3 : (s[i].toNat : Int) = 63
        · have e3' : ((s[i].toNat : Int) == 63) = true := by simp [e3]
          have HFR := hid (hfr.out.plain hlt (by omega))
          clear e1 e2 e3
          go_wp2_with fail
          go_region_with (first | (go_at_call 52; refine (f52 _).mono ?_; rintro e w2 ⟨⟨F, rfl⟩, hw2⟩; subst hw2) | (go_at_call 51; refine (f51 w.heap.size g2 n2 c2 n3 c3 a3 x2 x3 _ _ _ _ ?_ ?_ hn2b hn3b).mono ?_; (exact HA.out.drew.2.2.1); (exact hsz); rintro e w3 ⟨rfl, h3⟩; have R3 := hid (Rp.added (j := i + 1) HA.out.drew hp1 hle1 hlast hn2 hn3 h3 (Nat.le_refl _)); clear h3))
          all_goals
            go_wp2
            go_roundw
            case rel => exact ⟨i + 1, g1, k1 + 1, c1, by omega, by go_num, rfl, HFR.out, R3.out⟩
            case measure => simp [intOf]; omega
        have e3' : ((s[i].toNat : Int) == 63) = false := by simp [e3]
        by_cases e4 : (s[i].toNat : Int) = 92
        · have e4' : ((s[i].toNat : Int) == 92) = true := by simp [e4]
          have HE4 := hid e4
          clear e1 e2 e3 e4
          by_cases hl2 : i + 1 < s.size
          · have hne : ((i : Int) + 1 == (s.size : Int)) = false := by simp; omega
            have il2 : (i : Int) + 1 < (s.size : Int) := by omega
            by_cases hsg : sgB (s[i + 1].toNat : Int) = true
            · have HFR := hid (hfr.out.sign hlt HE4.out hl2 hsg)
              have HSG := hid hsg
              clear hsg
              go_wp2_with (go_at_call 53; refine (f53 s[i + 1] _).mono ?_; rintro e w2 ⟨⟨y, rfl, hy⟩, hw2⟩; subst hw2; have hy0 : ¬ y < 0 := (by have h1 := HSG.out; rw [h1] at hy; simpa using hy); clear hy)
              go_region_with (first | (go_at_call 54; refine (f54 _ _).mono ?_; rintro e w2 ⟨⟨F, ts, us, rfl⟩, hb2⟩; have hA2 := hid (Ad.below HA.out.drew hb2); have d2 : w2.cell? ⟨g1, k1, none⟩ = some (.slice (some ⟨g2, 0, none⟩) n2 c2) := hA2.out.1; clear hb2) | (go_at_call 51; refine (f51 w.heap.size g2 n2 c2 n3 c3 a3 x2 x3 _ _ _ _ ?_ ?_ hn2b hn3b).mono ?_; (exact hA2.out.2.2.1); (exact Nat.le_trans hA2.out.2.2.2.size (Nat.le_refl _)); rintro e w3 ⟨rfl, h3⟩; have R3 := hid (Rp.added (j := i + 1 + 1) hA2.out hp1 hle1 hlast hn2 hn3 h3 (by omega)); clear h3))
              all_goals
                go_wp2
                go_roundw
                case rel => exact ⟨i + 1 + 1, g1, k1 + 1, c1, by omega, by go_num, rfl, HFR.out, R3.out⟩
                case measure => simp [intOf]; omega
            · have hsg' : sgB (s[i + 1].toNat : Int) = false := by simpa using hsg
              have HP := hid (HPO.out false (hfr.out.bad hlt HE4.out hl2 hsg'))
              have HSG := hid hsg'
              clear hsg hsg'
              go_wp2_with (go_at_call 53; refine (f53 s[i + 1] _).mono ?_; rintro e w2 ⟨⟨y, rfl, hy⟩, hw2⟩; subst hw2; have hy0 : y < 0 := (by have h1 := HSG.out; rw [h1] at hy; simpa using hy); clear hy)
              go_ret2
              exact ⟨⟨_, by rw [HP.out]; rfl⟩, HR.out.below⟩
          · have hl3 : i + 1 = s.size := by omega
            have HP := hid (HPO.out false (hfr.out.last hlt HE4.out hl3))
            have hne : ((i : Int) + 1 == (s.size : Int)) = true := by simp; omega
            clear hl3
            go_wp2
            go_ret2
            exact ⟨⟨_, by rw [HP.out]; rfl⟩, HR.out.below⟩
        have e4' : ((s[i].toNat : Int) == 92) = false := by simp [e4]
        have HFR := hid (hfr.out.plain hlt e4)
        clear e1 e2 e3 e4
        go_wp2_with fail
        go_region_with (first | (go_at_call 54; refine (f54 _ _).mono ?_; rintro e w2 ⟨⟨F, ts, us, rfl⟩, hb2⟩; have hA2 := hid (Ad.below HA.out.drew hb2); have d2 : w2.cell? ⟨g1, k1, none⟩ = some (.slice (some ⟨g2, 0, none⟩) n2 c2) := hA2.out.1; clear hb2) | (go_at_call 51; refine (f51 w.heap.size g2 n2 c2 n3 c3 a3 x2 x3 _ _ _ _ ?_ ?_ hn2b hn3b).mono ?_; (exact hA2.out.2.2.1); (exact Nat.le_trans hA2.out.2.2.2.size (Nat.le_refl _)); rintro e w3 ⟨rfl, h3⟩; have R3 := hid (Rp.added (j := i + 1) hA2.out hp1 hle1 hlast hn2 hn3 h3 (Nat.le_refl _)); clear h3))
        all_goals
          go_wp2
          go_roundw
          case rel => exact ⟨i + 1, g1, k1 + 1, c1, by omega, by go_num, rfl, HFR.out, R3.out⟩
          case measure => simp [intOf]; omega
      · have HP := hid (HPO.out true (hfr.out.done (by omega)))
        go_wp2
        go_ret2
        exact ⟨⟨_, by rw [HP.out]; rfl⟩, HR.out.below⟩
  · have hpr' : printL s.data.toList = false := by simpa using hpr
    clear hpr
    go_enter Try.func30, Try.ntmps30
    go_wp2_with (go_at_call 50; refine (f50 s _ hs).mono ?_; rintro e w' ⟨rfl, hw'⟩; have hw2 := hw'.symm; clear hw'; subst hw2)
    go_ret2
    exact ⟨⟨_, by rw [pat_unprinted hpr']; rfl⟩, Below.refl _ _⟩

theorem f8 (s : ByteArray) (w : World) (hs : s.size ≤ maxLen) : Calls Try.prog 8 #[.string s] w fun e w' => e = .returned (.bool (patB s)) ∧ Below w.heap.size w w' := by
  go_enter Try.func8, Try.ntmps8
  go_wp2_with fail
  refine (f29 s _ hs).mono ?_
  rintro e w1 ⟨⟨V, rfl⟩, hb⟩
  go_wp2
  go_ret
  exact ⟨rfl, hb⟩
theorem f77 (s : ByteArray) (w : World) (hs : s.size ≤ maxLen) : Calls Try.prog 77 #[.string s] w fun e w' => e = .returned (.bool (patB s)) ∧ Below w.heap.size w w' := by
  go_enter Try.func77, Try.ntmps77
  go_wp2_with fail
  refine (f30 s _ hs).mono ?_
  rintro e w1 ⟨⟨V, rfl⟩, hb⟩
  go_wp2
  go_ret
  exact ⟨rfl, hb⟩
end Go.Proofs.Ytpobpanmkdjkjaa.Pat
