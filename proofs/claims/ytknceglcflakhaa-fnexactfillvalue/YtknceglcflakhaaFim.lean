/- Fillings filled: what the program's FillValue comes to; the walk of FnExactFillValue. -/
import Derived.Test.YtknceglcflakhaaFil
import Derived.Test.YtknceglcflakhaaBld
namespace Go.Proofs.Ytknceglcflakhaa.Fil
open Go.RowKit

theorem bc_snoc (l : List UInt8) (c : UInt8) : Lib.byteCells l ++ [.int .u8 c.toNat] = Lib.byteCells (l ++ [c]) := by simp [Lib.byteCells]
theorem bc_str (l : List UInt8) (s : ByteArray) : Lib.byteCells l ++ Lib.strCells s = Lib.byteCells (l ++ s.data.toList) := by simp [Lib.byteCells, Lib.strCells]

set_option maxHeartbeats 2000000 in
theorem f7g (s : ByteArray) (a : Option Addr) (n c : Nat) (ss : List ByteArray) (w : World) (hs : filB s = true) (hn : ss.length = n) (h1 : n ≤ 100) (hr : HasT w a ss) (hz : ∀ i, i < n → (ss.getD i ByteArray.empty).size ≤ 1048576) :
    Calls Try.prog 7 #[.string s, .slice a n c] w fun e w' => e = .returned (.string (mkS (fillL ss s.data.toList))) ∧ Below w.heap.size w w' := by
  have h100 := fil_size hs
  have HN := hid hn
  have HZ : Hid (∀ i, i < ss.length → (ss.getD i ByteArray.empty).size ≤ 1048576) := by rw [hn]; exact hz
  have HF := hid hs
  have HR := hid hr
  clear hn hz hr
  go_enter Try.func7, Try.ntmps7
  go_wp2_with (go_at_call 11; refine (f11 s _ (by unfold maxLen; omega)).mono ?_; rintro e w' ⟨rfl, hw'⟩; have hw2 := hw'.symm; clear hw'; subst hw2)
  clear hs
  have HI0 := hid (Lib.fresh_isBuilder 32 5 w)
  have HB0 := hid ((Below.refl w.heap.size w).alloc (Nat.le_refl _) (.cells #[.pointer none, .slice none 0 0] 32))
  go_loopw [6] (fun i wr => ∃ (k : Nat) (t : List UInt8), k ≤ s.size ∧ i = .int .i64 k ∧ Hid (Lib.IsBuilder 32 5 w.heap.size w.heap.size (Lib.byteCells t) wr) ∧ Hid (Below w.heap.size w wr) ∧ Hid (At ss s k t)) (fun i _ => s.size - (intOf i).toNat)
  case atStart => exact ⟨0, [], Nat.zero_le _, rfl, HI0, HB0, At.zero HF.out⟩
  case round =>
    clear HI0 HB0
    obtain ⟨k, t, hk, rfl, HI, HB, HA⟩ := hrel
    have hts : (Lib.byteCells t).length ≤ 104857600 := by rw [Lib.byteCells_length]; exact HA.out.sz (by omega)
    by_cases hlt : k < s.size
    · by_cases hd : (s[k].toNat : Int) = 36
      · have hl2 := HA.out.more hlt hd
        have hsg := (HA.out.sg hlt hd hl2).1
        have hd' : ((s[k].toNat : Int) != 36) = false := by simp [hd]
        by_cases h36 : (s[k + 1].toNat : Int) = 36
        · have HN2 := hid (HA.out.dollar hlt hd hl2 h36)
          have q1 : ((s[k + 1].toNat : Int) == 36) = true := by simp [h36]
          clear h36 hd hsg
          go_wp2_with fail
          refine (Try.Builder_WriteByte w.heap.size w.heap.size _ 36 _ HI.out (by omega) HB.out.size).mono ?_
          rintro e w2 ⟨rfl, h3, hb2⟩
          have HB2 := hid (HB.out.trans hb2)
          have HI2 : Hid (Lib.IsBuilder 32 5 w.heap.size w.heap.size (Lib.byteCells (t ++ [36])) w2) := by
            unfold Hid; rw [← bc_snoc]; exact .inr h3
          clear h3 hb2
          go_wp2
          go_roundw
          case rel => exact ⟨k + 1 + 1, _, by omega, by go_num, HI2, HB2, HN2⟩
          case measure => simp [intOf]; omega
        · have HN2 := hid (HA.out.part HZ.out hlt hd hl2 h36)
          have q1 : ((s[k + 1].toNat : Int) == 36) = false := by simp [h36]
          have hz2 : 49 ≤ (s[k + 1].toNat : Int) ∧ (s[k + 1].toNat : Int) ≤ 57 := by
            unfold sgB at hsg; have := of_decide_eq_true hsg; omega
          obtain ⟨q2, q3⟩ := hz2
          obtain ⟨m, hm, hm8⟩ : ∃ m : Nat, (s[k + 1].toNat : Int) = 49 + m ∧ m ≤ 8 := ⟨s[k + 1].toNat - 49, by omega, by omega⟩
          have e1 : (49 : Int) + (m : Int) - 48 = (m : Int) + 1 := by omega
          clear h36 hd hsg
          by_cases hmn : m < n
          · rcases HR.out with hr | ⟨b, off, rfl, hbl, hc⟩
            · exact absurd HN.out (by rw [hr]; simp; omega)
            have c0 := (HB.out.cell (p := ⟨b, off + m, none⟩) hbl).trans (hc m (by rw [HN.out]; exact hmn))
            have HP : Hid (t ++ (ss.getD m ByteArray.empty).data.toList = t ++ partL ss s[k + 1]) := by
              unfold Hid partL
              rw [show s[k + 1].toNat - 49 = m from by omega]
            have hsz := HZ.out m (by rw [HN.out]; exact hmn)
            clear hc
            generalize ss.getD m ByteArray.empty = u at *
            go_wp2_with fail
            refine (Try.Builder_WriteString w.heap.size w.heap.size _ u _ HI.out (by omega) HB.out.size).mono ?_
            rintro e w2 ⟨rfl, h3, hb2⟩
            have HB2 := hid (HB.out.trans hb2)
            have HI2 : Hid (Lib.IsBuilder 32 5 w.heap.size w.heap.size (Lib.byteCells (t ++ partL ss s[k + 1])) w2) := by
              unfold Hid; rw [← HP.out, ← bc_str]; exact .inr h3
            clear h3 hb2
            go_wp2
            go_roundw
            case rel => exact ⟨k + 1 + 1, _, by omega, by go_num, HI2, HB2, HN2⟩
            case measure => simp [intOf]; omega
          · have HP : Hid (t = t ++ partL ss s[k + 1]) := by
              unfold Hid
              rw [part_none (by have := HN.out; omega), List.append_nil]
            go_wp2
            go_roundw
            case rel => exact ⟨k + 1 + 1, t, by omega, by go_num, HI, HB, by unfold Hid; rw [HP.out]; exact HN2.out⟩
            case measure => simp [intOf]; omega
      · have HN2 := hid (HA.out.plain hlt hd)
        have hd' : ((s[k].toNat : Int) != 36) = true := by simp only [bne_iff_ne, ne_eq]; exact hd
        clear hd
        go_wp2_with fail
        refine (Try.Builder_WriteByte w.heap.size w.heap.size _ _ _ HI.out (by omega) HB.out.size).mono ?_
        rintro e w2 ⟨rfl, h3, hb2⟩
        have HB2 := hid (HB.out.trans hb2)
        have HI2 : Hid (Lib.IsBuilder 32 5 w.heap.size w.heap.size (Lib.byteCells (t ++ [s[k]])) w2) := by
          unfold Hid; rw [← bc_snoc]; exact .inr h3
        clear h3 hb2
        go_wp2
        go_roundw
        case rel => exact ⟨k + 1, _, by omega, by go_num, HI2, HB2, HN2⟩
        case measure => simp [intOf]; omega
    · have HD := hid (HA.out.done (by omega))
      go_wp2_with fail
      refine (Try.Builder_String_any w.heap.size w.heap.size _ _ HI.out HB.out.size).mono ?_
      rintro e w3 ⟨rfl, hb3⟩
      have HB3 := hid (HB.out.trans hb3)
      go_wp2
      go_ret
      exact ⟨by rw [← HD.out]; rfl, HB3.out⟩

set_option maxHeartbeats 1000000 in
theorem f7 (s : ByteArray) (a : Option Addr) (n c : Nat) (ss : List ByteArray) (w : World) (hs : s.size ≤ 1048576) (hn : ss.length = n) (hb : n ≤ 1048576) (hr : HasT w a ss) (hz : ∀ i, i < n → (ss.getD i ByteArray.empty).size ≤ 1048576) :
    Calls Try.prog 7 #[.string s, .slice a n c] w fun e w' => e = .returned (.string (mkS (valB ss s))) ∧ Below w.heap.size w w' := by
  by_cases hf : filB s = true
  · by_cases h1 : n ≤ 100
    · rw [val_yes hf (by rw [hn]; exact h1)]
      exact f7g s a n c ss w hf hn h1 hr hz
    · have HV := hid (val_no (s := s) (fun h => h1 (by rw [← hn]; exact h.2)))
      clear hn
      go_enter Try.func7, Try.ntmps7
      go_wp2_with (go_at_call 11; refine (f11 s _ (by unfold maxLen; omega)).mono ?_; rintro e w' ⟨rfl, hw'⟩; have hw2 := hw'.symm; clear hw'; subst hw2)
      go_ret
      exact ⟨by rw [HV.out]; rfl, Below.refl _ _⟩
  · have HV := hid (val_no (ss := ss) (fun h => hf h.1))
    have hf' : filB s = false := by simpa using hf
    clear hn hf
    go_enter Try.func7, Try.ntmps7
    go_wp2_with (go_at_call 11; refine (f11 s _ (by unfold maxLen; omega)).mono ?_; rintro e w' ⟨rfl, hw'⟩; have hw2 := hw'.symm; clear hw'; subst hw2)
    go_ret
    exact ⟨by rw [HV.out]; rfl, Below.refl _ _⟩

theorem str_eq' {a b : ByteArray} (h : a = b) : (a.toList != b.toList) = false := by rw [h]; simp
set_option maxHeartbeats 2000000 in
theorem walk3 (s : ByteArray) (a : Option Addr) (n c : Nat) (ss : List ByteArray) (w : World) (hs : s.size ≤ maxLen) (hn : ss.length = n) (hmax : n ≤ maxLen) (hr : HasT w a ss) (hf : FitT ss) :
    Calls Try.prog 3 #[.string s, .slice a n c] w fun e w' => e = .returned (.bool true) ∧ Below w.heap.size w w' := by
  have HN := hid hn
  have HR := hid hr
  clear hn hr
  by_cases hs1 : 1048576 < s.size
  · unfold maxLen at hs
    go_enter Try.func3, Try.ntmps3
    go_wp2
    go_ret
    exact ⟨rfl, Below.refl _ _⟩
  clear hs
  go_enter Try.func3, Try.ntmps3
  go_wp2_with fail
  refine (f4 a n c 1048576 ss _ (by omega) (by omega) HN.out HR.out hf hmax).mono ?_
  rintro e w1 ⟨y, rfl, hy, y0, y1, hw1⟩
  have hw2 := hw1.symm
  clear hw1
  subst hw2
  by_cases h0 : y < 0
  · go_wp2
    go_ret
    exact ⟨rfl, Below.refl _ _⟩
  obtain ⟨hbig, hz⟩ := hy (by omega)
  clear hy
  have HZ := hid hz
  clear hz
  go_wp2_with fail
  refine (f6 a n c ss _ HN.out hbig HR.out).mono ?_
  rintro e w3 ⟨rfl, ho3, hb3⟩
  have HB3 := hid hb3
  have A3 := hid (HasT.own ho3)
  clear hb3 ho3
  go_wp2_with fail
  refine (f5 s _ n n ss _ (by omega) HN.out hbig A3.out HZ.out).mono ?_
  rintro e w4 ⟨rfl, hw4⟩
  have hw5 := hw4.symm
  clear hw4
  subst hw5
  clear A3
  go_wp2_with fail
  refine (f6 a n c ss _ HN.out hbig (HR.out.below HB3.out)).mono ?_
  rintro e w6 ⟨rfl, ho6, hb6⟩
  have HB6 := hid (HB3.out.trans (hb6.mono HB3.out.size))
  have X6 := hid (HasT.own ho6)
  clear hb6 ho6
  go_wp2_with fail
  refine (f7 s _ n n ss _ (by omega) HN.out hbig X6.out HZ.out).mono ?_
  rintro e w7 ⟨rfl, hb7⟩
  have HB7 := hid (HB6.out.trans (hb7.mono HB6.out.size))
  have X7 := hid (X6.out.below hb7)
  clear hb7 X6
  have hq := str_eq' (rfl : mkS (valB ss s) = mkS (valB ss s))
  generalize mkS (valB ss s) = v at *
  go_wp2_with fail
  refine (f6 a n c ss _ HN.out hbig (HR.out.below HB7.out)).mono ?_
  rintro e w8 ⟨rfl, ho8, hb8⟩
  have HB8 := hid (HB7.out.trans (hb8.mono HB7.out.size))
  have X8 := hid (X7.out.below hb8)
  have Y8 := hid (HasT.own ho8)
  clear hb8 ho8 X7
  go_wp2_with fail
  refine (f8 _ _ n n n ss _ HN.out hbig X8.out Y8.out).mono ?_
  rintro e w9 ⟨rfl, hb9⟩
  have HB9 := hid (HB8.out.trans (hb9.mono HB8.out.size))
  clear hb9
  go_wp2
  go_ret
  exact ⟨rfl, HB9.out⟩
end Go.Proofs.Ytknceglcflakhaa.Fil
