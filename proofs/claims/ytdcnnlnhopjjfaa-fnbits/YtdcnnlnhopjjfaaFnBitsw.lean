/- What the law FnBits comes to. -/
import Derived.Test.YtdcnnlnhopjjfaaCur5
import Derived.Test.YtdcnnlnhopjjfaaFb
import Derived.Test.YtdcnnlnhopjjfaaAddw
import Derived.Test.YtdcnnlnhopjjfaaBack
namespace Go.Proofs.Ytdcnnlnhopjjfaa.FnBitsW
open Go.RowKit Go.Proofs.Ytdcnnlnhopjjfaa.Byt Go.Proofs.Ytdcnnlnhopjjfaa.Bts

/-- All that the law asks of the bits that were added. -/
structure Ad2 (zs L : List Int) (s k : Nat) (v : Int) : Prop where
  good : Bts.good L ((s : Int) + (k : Int)) = true
  byte : ∀ j, 0 ≤ L.getD j 0 ∧ L.getD j 0 ≤ 255
  len : L.length ≤ 10000
  all : k = 64 → takeB L ((s : Int) + (k : Int)) s k = (v, true)
  some : k ≤ 63 → takeB L ((s : Int) + (k : Int)) s k = (v % 2 ^ k, true)
  ahead : ∀ i : Nat, i < s → ∃ x : Int, takeB L ((s : Int) + (k : Int)) i 1 = (x, true) ∧ takeB zs s i 1 = (x, true)

theorem ad2 (zs : List Int) (s k : Nat) (v : Int) (hg : Bts.good zs s = true) (h255 : ∀ j, 0 ≤ zs.getD j 0 ∧ zs.getD j 0 ≤ 255) (hk : k ≤ 64) (hsk : s + k ≤ 80000) (v0 : -9223372036854775808 ≤ v) (v1 : v ≤ 9223372036854775807) :
    Ad2 zs (addL zs s (IntKind.u64.wrap v) k k) s k v := by
  have hG := G_of_good zs s hg h255
  have hGL := hG.addL (IntKind.u64.wrap v) k k
  have hgL := good_of_G hGL hsk
  rw [Int.natCast_add] at hgL
  have ht := tk_addL hG (IntKind.u64.wrap v) k k (Nat.le_refl _)
  refine ⟨hgL, Put.bytes_getD hGL.byte, by have := hGL.len; omega, ?_, ?_, ?_⟩
  · rintro rfl
    rw [takeB_good _ _ _ _ hgL, take_in _ _ s 64 (by omega) (by omega), ht, took_all v v0 v1]
  · intro h63
    rw [takeB_good _ _ _ _ hgL, take_in _ _ s k (by omega) (by omega), ht, took v k h63]
  · intro i hi
    refine ⟨wrap64 (tk zs i 1), ?_, ?_⟩
    · rw [takeB_good _ _ _ _ hgL]
      have e := take_in (addL zs s (IntKind.u64.wrap v) k k) ((s : Int) + (k : Int)) i 1 (by omega) (by omega)
      rw [show ((1 : Nat) : Int) = 1 from rfl] at e
      rw [e, tk_congr _ zs i 1 (fun j hj => bitOf_addL_lt hG _ _ j (by omega) _)]
    · rw [takeB_good _ _ _ _ hg]
      exact take_in zs s i 1 (by omega) (by omega)

theorem mask63 (k : Nat) (hk : k ≤ 63) : wrap64 (wrap64 (2 ^ k) - 1) = 2 ^ k - 1 := by
  by_cases h : k = 63
  · subst h
    rw [show (2 : Int) ^ 63 = 9223372036854775808 from rfl]
    unfold wrap64; omega
  · have h2 : 2 ^ k ≤ 2 ^ 62 := Nat.pow_le_pow_right (by omega) (by omega)
    have h1 : 0 < 2 ^ k := Nat.pow_pos (by omega)
    have e : (2 : Nat) ^ 62 = 4611686018427387904 := rfl
    rw [pow_cast k]
    unfold wrap64; omega

set_option maxHeartbeats 8000000 in
set_option maxRecDepth 100000 in
theorem walk (ca : Option Addr) (cn cc : Nat) (w : World) (hn : cn ≤ 1048576) (hd : cn = 0 ∨ ∃ b off, ca = some ⟨b, off, none⟩ ∧ b < w.heap.size ∧ ∀ i, i < cn → ∃ z : Int, 0 ≤ z ∧ z ≤ 255 ∧ w.cell? ⟨b, off + i, none⟩ = some (.int .u8 z)) :
    Calls Try.prog 3 #[.slice ca cn cc] w fun e w' => e = .returned (.bool true) ∧ Below w.heap.size w w' := by
  have HD := hid hd
  clear hd
  go_enter Try.func3, Try.ntmps3
  go_wp2_with fail
  refine (Cur.f13 ca cn cc _ hn HD.out).mono ?_
  rintro e w1 ⟨a1, n1, c1, s1, v, m, zs, rfl, s10, s11, n11, hz, v0, v1, m0, m1, ho1, hb1⟩
  have HF := hid (Put.bytes_getD hz)
  have HN := hid (own_len ho1)
  have hnil : Hid (a1 = none → n1 = 0 ∧ c1 = 0) := by
    intro h
    rcases own_form ho1 with ⟨_, h1, h2⟩ | ⟨g, h1⟩
    · exact ⟨h1, h2⟩
    · rw [h] at h1; cases h1
  have A1 : (w1.alloc (.cells #[.slice a1 n1 c1, .int .i64 s1] 24)).heap[w1.heap.size]? = some (.cells #[.slice a1 n1 c1, .int .i64 s1] 24 (0, 0)) := heap_alloc_new _ _
  have hr1 := has_alloc (has_own ho1) (.cells #[.slice a1 n1 c1, .int .i64 s1] 24)
  have HB1 := hid (hb1.alloc hb1.size (.cells #[.slice a1 n1 c1, .int .i64 s1] 24))
  have sz1 := hb1.size
  clear HD hz ho1 hb1
  by_cases hin : good zs s1 = true ∧ 0 ≤ m ∧ m ≤ 64 ∧ s1 + m ≤ 80000
  · obtain ⟨hg, hm0, hm64, hsm⟩ := hin
    have hs0 := (good_bd zs s1 hg).1
    obtain ⟨s, rfl⟩ := Int.eq_ofNat_of_zero_le hs0
    obtain ⟨k, rfl⟩ := Int.eq_ofNat_of_zero_le hm0
    have hA := ad2 zs s k v hg HF.out (by omega) (by omega) v0 v1
    have h14 := fun (W : World) (hr : Has W a1 zs) => f14_in a1 n1 c1 s k v zs W HN.out (by omega) hr HF.out hg (by omega) (by omega) (fun h => (hnil.out h).1)
    generalize addL zs s (IntKind.u64.wrap v) k k = L at hA h14
    rw [Int.natCast_add] at h14
    have HA := hid hA
    have H14 := hid h14
    have hLl := hA.len
    have HG := hid hg
    clear hA h14 hg
    go_wp2_with fail
    refine (H14.out _ hr1).mono ?_
    rintro e w2 ⟨a2, n2, c2, rfl, ho2, hb2⟩
    obtain rfl := own_len ho2
    have A2 := box_below A1 hb2
    have hr2 := has_below hr1 hb2
    have HB2 : Hid (Below w.heap.size w w2) := HB1.out.trans (hb2.mono (by simp; omega))
    have l2 : w1.heap.size < w2.heap.size := lt_of_block A2
    have q0 := two0 A2
    have q1 := two1 A2
    clear hb2 hr1 A1 HB1 H14
    go_wp2_with fail
    have h15 := f15 a1 n1 c1 s zs (w2.alloc (.cells #[.slice a2 L.length c2, .int .i64 ((s : Int) + (k : Int))] 24)) HN.out (by omega) (has_alloc hr2 _) HF.out
    rw [HG.out] at h15
    refine h15.mono ?_
    clear h15
    rintro e w3 ⟨rfl, hb3⟩
    have A3 := box_below (box_alloc A2 _) hb3
    have X3 := box_below (heap_alloc_new w2 (.cells #[.slice a2 L.length c2, .int .i64 ((s : Int) + (k : Int))] 24)) hb3
    have hr3 := has_below (has_alloc hr2 _) hb3
    have hL3 := has_below (has_alloc (has_own ho2) _) hb3
    have HB3 : Hid (Below w.heap.size w w3) := (HB2.out.alloc (by omega) _).trans (hb3.mono (by simp; omega))
    have l3 : w2.heap.size < w3.heap.size := lt_of_block X3
    have b30 := two0 A3
    have b31 := two1 A3
    have x30 := two0 X3
    have x31 := two1 X3
    clear q0 q1 hb3 hr2 ho2 A2 HB2
    have hk64 : k ≤ 64 := by omega
    have hsk : s + k ≤ 80000 := by omega
    go_wp2_with fail
    have h16 := f16 a2 L.length c2 ((s : Int) + (k : Int)) s k L w3 rfl (by omega) hL3 HA.out.byte (by omega) (by omega) (by omega) (by omega)
    obtain ⟨V, hV, hV64, hV63⟩ : ∃ V : Int, takeB L ((s : Int) + (k : Int)) s k = (V, true) ∧ (k = 64 → V = v) ∧ (k ≤ 63 → V = v % 2 ^ k) := by
      by_cases hk : k = 64
      · exact ⟨v, HA.out.all hk, fun _ => rfl, fun h => by omega⟩
      · exact ⟨_, HA.out.some (by omega), fun h => absurd h hk, fun _ => rfl⟩
    rw [hV] at h16
    refine h16.mono ?_
    clear h16 hV
    rintro e w4 ⟨rfl, hb4⟩
    have A4 := box_below A3 hb4
    have X4 := box_below X3 hb4
    have hr4 := has_below hr3 hb4
    have hL4 := has_below hL3 hb4
    have HB4 : Hid (Below w.heap.size w w4) := HB3.out.trans (hb4.mono (by omega))
    have l4 : w2.heap.size < w4.heap.size := lt_of_block X4
    have b40 := two0 A4
    have b41 := two1 A4
    have x40 := two0 X4
    have x41 := two1 X4
    have h17 := f17 a2 L.length c2 ((s : Int) + (k : Int)) L w4 rfl (by omega) hL4 HA.out.byte
    rw [HA.out.good] at h17
    have H17 := hid h17
    clear b30 b31 x30 x31 hb4 hr3 hL3 A3 X3 HB3 h17
    by_cases hk : k = 64
    · have hk1 : ¬ (k : Int) < 64 := by omega
      have hVv := hV64 hk
      subst hVv
      clear hV64 hV63 hk
      go_wp2_with fail
      refine H17.out.mono ?_
      rintro e w5 ⟨rfl, hb5⟩
      have A5 := hid (box_below A4 hb5)
      have X5 := hid (box_below X4 hb5)
      have hr5 := hid (has_below hr4 hb5)
      have hL5 := hid (has_below hL4 hb5)
      have HB5 : Hid (Below w.heap.size w w5) := HB4.out.trans (hb5.mono (by omega))
      clear b40 b41 x40 x41 hb5 hr4 hL4 A4 X4 HB4 H17
      go_wp2
      go_loopw [10] (fun si wr => ∃ i : Nat, i ≤ s ∧ si = .int .i64 i ∧ wr.heap[w1.heap.size]? = some (.cells #[.slice a1 n1 c1, .int .i64 s] 24 (0, 0)) ∧ wr.heap[w2.heap.size]? = some (.cells #[.slice a2 L.length c2, .int .i64 ((s : Int) + (k : Int))] 24 (0, 0)) ∧ Has wr a1 zs ∧ Has wr a2 L ∧ Below w.heap.size w wr) (fun si _ => s - (intOf si).toNat)
      case atStart => exact ⟨0, by omega, rfl, A5.out, X5.out, hr5.out, hL5.out, HB5.out⟩
      case round =>
        obtain ⟨i, hi, rfl, hA, hX, hr, hL, hb⟩ := hrel
        have c0 := two0 hA
        have c1' := two1 hA
        have d0 := two0 hX
        have d1 := two1 hX
        have lA := lt_of_block hA
        have lX := lt_of_block hX
        have HAx := hid hA
        have HXx := hid hX
        have HRx := hid hr
        have HLx := hid hL
        have HBx := hid hb
        clear hA hX hr hL hb A5 X5 hr5 hL5 HB5
        by_cases hi1 : i < s
        · by_cases hi2 : i < 200
          · obtain ⟨x, hx1, hx2⟩ := HA.out.ahead i hi1
            have HX1 := hid hx1
            have HX2 := hid hx2
            clear hx1 hx2
            go_wp2_with fail
            have h16 := f16 a2 L.length c2 ((s : Int) + (k : Int)) i 1 L _ rfl (by omega) HLx.out HA.out.byte (by omega) (by omega) (by omega) (by omega)
            rw [HX1.out] at h16
            refine h16.mono ?_
            clear h16
            rintro e w6 ⟨rfl, hb6⟩
            have HA6 := hid (box_below HAx.out hb6)
            have HX6 := hid (box_below HXx.out hb6)
            have HR6 := hid (has_below HRx.out hb6)
            have HL6 := hid (has_below HLx.out hb6)
            have HB6 : Hid (Below w.heap.size w w6) := HBx.out.trans (hb6.mono (by omega))
            have g0 := two0 HA6.out
            have g1 := two1 HA6.out
            have l6 := lt_of_block HA6.out
            clear hb6
            go_wp2_with fail
            have h18 := f18 a1 n1 c1 s i 1 zs _ HN.out (by omega) HR6.out HF.out (by omega) (by omega) (by omega) (by omega)
            rw [HX2.out] at h18
            refine h18.mono ?_
            clear h18
            rintro e w7 ⟨rfl, hb7⟩
            have HA7 := hid (box_below HA6.out hb7)
            have HX7 := hid (box_below HX6.out hb7)
            have HR7 := hid (has_below HR6.out hb7)
            have HL7 := hid (has_below HL6.out hb7)
            have HB7 : Hid (Below w.heap.size w w7) := HB6.out.trans (hb7.mono (by omega))
            clear hb7
            go_wp2
            go_roundw
            case rel => exact ⟨i + 1, by omega, by go_num, HA7.out, HX7.out, HR7.out, HL7.out, HB7.out⟩
            case measure => simp [intOf]; omega
          · go_wp2
            go_ret
            exact ⟨rfl, HBx.out⟩
        · go_wp2
          go_ret
          exact ⟨rfl, HBx.out⟩
    · have hk1 : (k : Int) < 64 := by omega
      have hW : bits .and .i64 v (wrap64 (wrap64 (2 ^ k) - 1)) = v % 2 ^ k := by rw [mask63 k (by omega), i64_and_mask v k (by omega)]
      have hVv := hV63 (by omega)
      subst hVv
      clear hV64 hV63 hk
      go_wp2_with fail
      refine H17.out.mono ?_
      rintro e w5 ⟨rfl, hb5⟩
      have A5 := hid (box_below A4 hb5)
      have X5 := hid (box_below X4 hb5)
      have hr5 := hid (has_below hr4 hb5)
      have hL5 := hid (has_below hL4 hb5)
      have HB5 : Hid (Below w.heap.size w w5) := HB4.out.trans (hb5.mono (by omega))
      clear b40 b41 x40 x41 hb5 hr4 hL4 A4 X4 HB4 H17
      go_wp2
      go_loopw [10] (fun si wr => ∃ i : Nat, i ≤ s ∧ si = .int .i64 i ∧ wr.heap[w1.heap.size]? = some (.cells #[.slice a1 n1 c1, .int .i64 s] 24 (0, 0)) ∧ wr.heap[w2.heap.size]? = some (.cells #[.slice a2 L.length c2, .int .i64 ((s : Int) + (k : Int))] 24 (0, 0)) ∧ Has wr a1 zs ∧ Has wr a2 L ∧ Below w.heap.size w wr) (fun si _ => s - (intOf si).toNat)
      case atStart => exact ⟨0, by omega, rfl, A5.out, X5.out, hr5.out, hL5.out, HB5.out⟩
      case round =>
        obtain ⟨i, hi, rfl, hA, hX, hr, hL, hb⟩ := hrel
        have c0 := two0 hA
        have c1' := two1 hA
        have d0 := two0 hX
        have d1 := two1 hX
        have lA := lt_of_block hA
        have lX := lt_of_block hX
        have HAx := hid hA
        have HXx := hid hX
        have HRx := hid hr
        have HLx := hid hL
        have HBx := hid hb
        clear hA hX hr hL hb A5 X5 hr5 hL5 HB5
        by_cases hi1 : i < s
        · by_cases hi2 : i < 200
          · obtain ⟨x, hx1, hx2⟩ := HA.out.ahead i hi1
            have HX1 := hid hx1
            have HX2 := hid hx2
            clear hx1 hx2
            go_wp2_with fail
            have h16 := f16 a2 L.length c2 ((s : Int) + (k : Int)) i 1 L _ rfl (by omega) HLx.out HA.out.byte (by omega) (by omega) (by omega) (by omega)
            rw [HX1.out] at h16
            refine h16.mono ?_
            clear h16
            rintro e w6 ⟨rfl, hb6⟩
            have HA6 := hid (box_below HAx.out hb6)
            have HX6 := hid (box_below HXx.out hb6)
            have HR6 := hid (has_below HRx.out hb6)
            have HL6 := hid (has_below HLx.out hb6)
            have HB6 : Hid (Below w.heap.size w w6) := HBx.out.trans (hb6.mono (by omega))
            have g0 := two0 HA6.out
            have g1 := two1 HA6.out
            have l6 := lt_of_block HA6.out
            clear hb6
            go_wp2_with fail
            have h18 := f18 a1 n1 c1 s i 1 zs _ HN.out (by omega) HR6.out HF.out (by omega) (by omega) (by omega) (by omega)
            rw [HX2.out] at h18
            refine h18.mono ?_
            clear h18
            rintro e w7 ⟨rfl, hb7⟩
            have HA7 := hid (box_below HA6.out hb7)
            have HX7 := hid (box_below HX6.out hb7)
            have HR7 := hid (has_below HR6.out hb7)
            have HL7 := hid (has_below HL6.out hb7)
            have HB7 : Hid (Below w.heap.size w w7) := HB6.out.trans (hb7.mono (by omega))
            clear hb7
            go_wp2
            go_roundw
            case rel => exact ⟨i + 1, by omega, by go_num, HA7.out, HX7.out, HR7.out, HL7.out, HB7.out⟩
            case measure => simp [intOf]; omega
          · go_wp2
            go_ret
            exact ⟨rfl, HBx.out⟩
        · go_wp2
          go_ret
          exact ⟨rfl, HBx.out⟩
  · have H14 := hid (fun (W : World) (hr : Has W a1 zs) => f14_out a1 n1 c1 s1 v m zs W HN.out (by omega) hr HF.out (by omega) (by omega) hin)
    have HIN := hid hin
    clear hin
    go_wp2_with fail
    refine (H14.out _ hr1).mono ?_
    rintro e w2 ⟨rfl, hb2⟩
    have A2 := box_below A1 hb2
    have hr2 := has_below hr1 hb2
    have HB2 : Hid (Below w.heap.size w w2) := HB1.out.trans (hb2.mono (by simp; omega))
    have l2 : w1.heap.size < w2.heap.size := lt_of_block A2
    have q0 := two0 A2
    have q1 := two1 A2
    clear hb2 hr1 A1 HB1 H14
    go_wp2_with fail
    have h15 := f15 a1 n1 c1 s1 zs (w2.alloc (.cells #[.slice none 0 0, .int .i64 0] 24)) HN.out (by omega) (has_alloc hr2 _) HF.out
    by_cases hg : good zs s1 = true
    · have hout : Hid (¬ (0 ≤ m ∧ m ≤ 64 ∧ s1 + m ≤ 80000)) := fun h => HIN.out ⟨hg, h⟩
      rw [hg] at h15
      refine h15.mono ?_
      clear h15 hg HIN
      rintro e w3 ⟨rfl, hb3⟩
      have A3 := box_below (box_alloc A2 _) hb3
      have X3 := box_below (heap_alloc_new w2 (.cells #[.slice none 0 0, .int .i64 0] 24)) hb3
      have HB3 : Hid (Below w.heap.size w w3) := (HB2.out.alloc (by omega) _).trans (hb3.mono (by simp; omega))
      have l3 : w2.heap.size < w3.heap.size := lt_of_block X3
      have b30 := two0 A3
      have b31 := two1 A3
      have x30 := two0 X3
      have x31 := two1 X3
      clear q0 q1 hb3 hr2 A2 HB2 A3 X3
      by_cases h1 : m < 0
      · go_wp2
        go_ret
        exact ⟨rfl, HB3.out⟩
      · by_cases h2 : 64 < m
        · go_wp2
          go_ret
          exact ⟨rfl, HB3.out⟩
        · have h3 : 80000 < s1 + m := by have := hout.out; omega
          go_wp2
          go_ret
          exact ⟨rfl, HB3.out⟩
    · rw [show good zs s1 = false from by simpa using hg] at h15
      refine h15.mono ?_
      clear h15 hg HIN
      rintro e w3 ⟨rfl, hb3⟩
      have A3 := box_below (box_alloc A2 _) hb3
      have X3 := box_below (heap_alloc_new w2 (.cells #[.slice none 0 0, .int .i64 0] 24)) hb3
      have HB3 : Hid (Below w.heap.size w w3) := (HB2.out.alloc (by omega) _).trans (hb3.mono (by simp; omega))
      have l3 : w2.heap.size < w3.heap.size := lt_of_block X3
      have b30 := two0 A3
      have b31 := two1 A3
      have x30 := two0 X3
      have x31 := two1 X3
      clear q0 q1 hb3 hr2 A2 HB2 A3 X3
      go_wp2
      go_ret
      exact ⟨rfl, HB3.out⟩
end Go.Proofs.Ytdcnnlnhopjjfaa.FnBitsW
