/- Fillings filled: what the model's l4Fill and FillValue come to. -/
import Derived.Test.YtknceglcflakhaaTx
import Derived.Lib.Bytealg
namespace Go.Proofs.Ytknceglcflakhaa.Fil
open Go.RowKit

abbrev mkS (l : List UInt8) : ByteArray := ⟨l.toArray⟩
def partL (ss : List ByteArray) (d : UInt8) : List UInt8 := (ss.getD (d.toNat - 49) ByteArray.empty).data.toList
def fillL (ss : List ByteArray) : List UInt8 → List UInt8
  | [] => []
  | [c] => [c]
  | c :: d :: r => if (c.toNat : Int) = 36 then (if (d.toNat : Int) = 36 then [36] else partL ss d) ++ fillL ss r else c :: fillL ss (d :: r)
theorem fill_plain (ss : List ByteArray) (c : UInt8) (r : List UInt8) (h : (c.toNat : Int) ≠ 36) : fillL ss (c :: r) = c :: fillL ss r := by
  cases r with
  | nil => simp [fillL]
  | cons d r => rw [fillL, if_neg h]
theorem fill_dollar (ss : List ByteArray) (c d : UInt8) (r : List UInt8) (h : (c.toNat : Int) = 36) (hd : (d.toNat : Int) = 36) : fillL ss (c :: d :: r) = [36] ++ fillL ss r := by rw [fillL, if_pos h, if_pos hd]
theorem fill_part (ss : List ByteArray) (c d : UInt8) (r : List UInt8) (h : (c.toNat : Int) = 36) (hd : (d.toNat : Int) ≠ 36) : fillL ss (c :: d :: r) = partL ss d ++ fillL ss r := by rw [fillL, if_pos h, if_neg hd]

/-- What was told up to k, and what is still to be told. -/
structure At (ss : List ByteArray) (s : ByteArray) (k : Nat) (t : List UInt8) : Prop where
  all : t ++ fillL ss (s.data.toList.drop k) = fillL ss s.data.toList
  good : escL (s.data.toList.drop k) = true
  len : t.length ≤ k * 1048576
theorem At.zero {ss : List ByteArray} {s : ByteArray} (h : filB s = true) : At ss s 0 [] := by
  refine ⟨rfl, ?_, by simp⟩
  unfold filB at h; simp at h; simpa using h.2
theorem At.plain {ss : List ByteArray} {s : ByteArray} {k : Nat} {t : List UInt8} (h : At ss s k t) (hk : k < s.size) (hc : (s[k].toNat : Int) ≠ 36) : At ss s (k + 1) (t ++ [s[k]]) := by
  obtain ⟨h1, h2, h3⟩ := h
  rw [drop_str s k hk] at h1 h2
  rw [fill_plain _ _ _ hc] at h1
  rw [esc_plain _ _ hc] at h2
  refine ⟨by rw [← h1]; simp, h2, ?_⟩
  simp only [List.length_append, List.length_singleton]; omega
theorem At.more {ss : List ByteArray} {s : ByteArray} {k : Nat} {t : List UInt8} (h : At ss s k t) (hk : k < s.size) (hc : (s[k].toNat : Int) = 36) : k + 1 < s.size := by
  obtain ⟨h1, h2, h3⟩ := h
  by_cases hl : k + 1 < s.size
  · exact hl
  · rw [drop_str s k hk, List.drop_eq_nil_of_le (by simp; omega), esc_end _ hc] at h2; cases h2
theorem At.sg {ss : List ByteArray} {s : ByteArray} {k : Nat} {t : List UInt8} (h : At ss s k t) (hk : k < s.size) (hc : (s[k].toNat : Int) = 36) (hk1 : k + 1 < s.size) : sgB (s[k + 1].toNat : Int) = true ∧ escL (s.data.toList.drop (k + 1 + 1)) = true := by
  obtain ⟨h1, h2, h3⟩ := h
  rw [drop_str s k hk, drop_str s (k + 1) hk1, esc_sign _ _ _ hc] at h2
  simpa using h2
theorem At.dollar {ss : List ByteArray} {s : ByteArray} {k : Nat} {t : List UInt8} (h : At ss s k t) (hk : k < s.size) (hc : (s[k].toNat : Int) = 36) (hk1 : k + 1 < s.size) (hd : (s[k + 1].toNat : Int) = 36) : At ss s (k + 1 + 1) (t ++ [36]) := by
  have h2 := (h.sg hk hc hk1).2
  obtain ⟨h1, _, h3⟩ := h
  rw [drop_str s k hk, drop_str s (k + 1) hk1, fill_dollar _ _ _ _ hc hd] at h1
  refine ⟨by rw [← h1]; simp, h2, ?_⟩
  simp only [List.length_append, List.length_singleton]; omega
theorem At.part {ss : List ByteArray} {s : ByteArray} {k : Nat} {t : List UInt8} (h : At ss s k t) (hz : ∀ i, i < ss.length → (ss.getD i ByteArray.empty).size ≤ 1048576) (hk : k < s.size) (hc : (s[k].toNat : Int) = 36) (hk1 : k + 1 < s.size) (hd : (s[k + 1].toNat : Int) ≠ 36) : At ss s (k + 1 + 1) (t ++ partL ss s[k + 1]) := by
  have h2 := (h.sg hk hc hk1).2
  obtain ⟨h1, _, h3⟩ := h
  rw [drop_str s k hk, drop_str s (k + 1) hk1, fill_part _ _ _ _ hc hd] at h1
  refine ⟨by rw [← h1]; simp, h2, ?_⟩
  have : (partL ss s[k + 1]).length ≤ 1048576 := by
    unfold partL
    by_cases hi : s[k + 1].toNat - 49 < ss.length
    · have := hz _ hi; simpa using this
    · rw [List.getD_eq_getElem?_getD, List.getElem?_eq_none (by omega)]; simp
  simp only [List.length_append]; omega
theorem At.done {ss : List ByteArray} {s : ByteArray} {k : Nat} {t : List UInt8} (h : At ss s k t) (hk : s.size ≤ k) : t = fillL ss s.data.toList := by
  have := h.all
  rw [List.drop_eq_nil_of_le (by simpa using hk)] at this
  simpa [fillL] using this
theorem At.sz {ss : List ByteArray} {s : ByteArray} {k : Nat} {t : List UInt8} (h : At ss s k t) (hk : k ≤ 100) : t.length ≤ 104857600 := by
  have := h.len
  have : k * 1048576 ≤ 100 * 1048576 := Nat.mul_le_mul_right _ hk
  omega
theorem part_none {ss : List ByteArray} {d : UInt8} (h : ss.length ≤ d.toNat - 49) : partL ss d = [] := by
  unfold partL; rw [List.getD_eq_getElem?_getD, List.getElem?_eq_none h]; simp
theorem mkS_app (a b : List UInt8) : mkS a ++ mkS b = mkS (a ++ b) := by
  apply ByteArray.ext; simp
theorem mkS_self (s : ByteArray) : mkS s.data.toList = s := by apply ByteArray.ext; simp
theorem mkS_size (l : List UInt8) : (mkS l).size = l.length := by simp [ByteArray.size]
theorem add_run (a b : ByteArray) (h : a.size + b.size ≤ 9223372036854775807) : ∀ w, (Op.stringOp .add a b).run Try.prog w = .ok (.string (a ++ b)) w := fun w => run_string_add_sum w a b h
theorem one_ext (s : ByteArray) (k : Nat) (h : k < s.size) : s.extract k (k + 1) = mkS [s[k]] := by
  apply ByteArray.ext
  apply Array.ext'
  rw [Lib.extract_data]
  rw [drop_str s k h, show k + 1 - k = 1 from by omega]
  rfl

theorem slice_one (s : ByteArray) (k : Nat) (h : k < s.size) : ∀ w, (Instr.slice 9 (.string s) (some (.int .i64 (k : Int))) (some (.int .i64 ((k : Int) + 1))) none).run Try.prog w = .ok (.string (mkS [s[k]])) w := by
  intro w
  rw [run_slice_string w 9 s .i64 .i64 _ _ Try.underlying9 (by omega) (by omega) (by omega), ← one_ext s k h]
  rfl

set_option maxHeartbeats 2000000 in
theorem f10 (s : ByteArray) (a : Option Addr) (n c : Nat) (ss : List ByteArray) (w : World) (hs : filB s = true) (h100 : s.size ≤ 100) (hn : ss.length = n) (_hb : n ≤ 100) (hr : HasT w a ss) (hz : ∀ i, i < n → (ss.getD i ByteArray.empty).size ≤ 1048576) :
    Calls Try.prog 10 #[.string s, .slice a n c] w fun e w' => e = .returned (.string (mkS (fillL ss s.data.toList))) ∧ w' = w := by
  have HN := hid hn
  have HZ : Hid (∀ i, i < ss.length → (ss.getD i ByteArray.empty).size ≤ 1048576) := by rw [hn]; exact hz
  have HF := hid hs
  have HR := hid hr
  clear hn hz hs hr
  go_enter Try.func10, Try.ntmps10
  go_wp2
  go_loop [5, 6] (fun st i => ∃ (k : Nat) (t : List UInt8), k ≤ s.size ∧ i = .int .i64 k ∧ st = .string (mkS t) ∧ Hid (At ss s k t)) (fun _ i => s.size - (intOf i).toNat)
  case atStart => exact ⟨0, [], Nat.zero_le _, rfl, rfl, At.zero HF.out⟩
  case round =>
    obtain ⟨k, t, hk, rfl, rfl, HA⟩ := hrel
    have hts : (mkS t).size ≤ 104857600 := by rw [mkS_size]; exact HA.out.sz (by omega)
    by_cases hlt : k < s.size
    · by_cases hd : (s[k].toNat : Int) = 36
      · have hl2 := HA.out.more hlt hd
        have hsg := (HA.out.sg hlt hd hl2).1
        have hd' : ((s[k].toNat : Int) != 36) = false := by simp [hd]
        by_cases h36 : (s[k + 1].toNat : Int) = 36
        · have HN2 := hid (HA.out.dollar hlt hd hl2 h36)
          have q1 : ((s[k + 1].toNat : Int) == 36) = true := by simp [h36]
          have ha := add_run (mkS t) ⟨#[36]⟩ (by have : (⟨#[36]⟩ : ByteArray).size = 1 := rfl; omega)
          have HE : Hid (mkS t ++ ⟨#[36]⟩ = mkS (t ++ [36])) := mkS_app t [36]
          clear h36 hd hsg
          go_wp2
          go_round
          case rel => exact ⟨k + 1 + 1, _, by omega, by go_num, by rw [← HE.out], HN2⟩
          case measure => simp [intOf]; omega
        · have HN2 := hid (HA.out.part HZ.out hlt hd hl2 h36)
          have q1 : ((s[k + 1].toNat : Int) == 36) = false := by simp [h36]
          have hz2 : 49 ≤ (s[k + 1].toNat : Int) ∧ (s[k + 1].toNat : Int) ≤ 57 := by
            unfold sgB at hsg; have := of_decide_eq_true hsg; omega
          obtain ⟨q2, q3⟩ := hz2
          obtain ⟨m, hm, hm8⟩ : ∃ m : Nat, (s[k + 1].toNat : Int) = 49 + m ∧ m ≤ 8 := ⟨s[k + 1].toNat - 49, by omega, by omega⟩
          clear h36 hd hsg
          by_cases hmn : m < n
          · rcases HR.out with hr | ⟨b, off, rfl, hbl, hc⟩
            · exact absurd HN.out (by rw [hr]; simp; omega)
            have c0 := hc m (by rw [HN.out]; exact hmn)
            have HP : Hid (mkS t ++ ss.getD m ByteArray.empty = mkS (t ++ partL ss s[k + 1])) := by
              unfold Hid partL
              rw [← mkS_app, mkS_self, show s[k + 1].toNat - 49 = m from by omega]
            have hsz := HZ.out m (by rw [HN.out]; exact hmn)
            clear hc
            generalize ss.getD m ByteArray.empty = u at *
            have ha := add_run (mkS t) u (by omega)
            go_wp2
            go_round
            case rel => exact ⟨k + 1 + 1, _, by omega, by go_num, by rw [← HP.out], HN2⟩
            case measure => simp [intOf]; omega
          · have HP : Hid (mkS t = mkS (t ++ partL ss s[k + 1])) := by
              unfold Hid
              rw [part_none (by have := HN.out; omega), List.append_nil]
            go_wp2
            go_round
            case rel => exact ⟨k + 1 + 1, _, by omega, by go_num, by rw [← HP.out], HN2⟩
            case measure => simp [intOf]; omega
      · have HN2 := hid (HA.out.plain hlt hd)
        have hd' : ((s[k].toNat : Int) != 36) = true := by simp only [bne_iff_ne, ne_eq]; exact hd
        have hsl := slice_one s k hlt
        have ha := add_run (mkS t) (mkS [s[k]]) (by have : (mkS [s[k]]).size = 1 := rfl; omega)
        have HE : Hid (mkS t ++ mkS [s[k]] = mkS (t ++ [s[k]])) := mkS_app _ _
        clear hd
        go_wp2
        go_round
        case rel => exact ⟨k + 1, _, by omega, by go_num, by rw [← HE.out], HN2⟩
        case measure => simp [intOf]; omega
    · have HD := hid (HA.out.done (by omega))
      go_wp2
      go_ret
      exact ⟨by rw [← HD.out]; rfl, rfl⟩

theorem fil_size {s : ByteArray} (h : filB s = true) : s.size ≤ 100 := by
  unfold filB at h; simp at h; exact h.1.1
def valB (ss : List ByteArray) (s : ByteArray) : List UInt8 := if filB s = true ∧ ss.length ≤ 100 then fillL ss s.data.toList else []
theorem val_no {ss : List ByteArray} {s : ByteArray} (h : ¬ (filB s = true ∧ ss.length ≤ 100)) : valB ss s = [] := if_neg h
theorem val_yes {ss : List ByteArray} {s : ByteArray} (h : filB s = true) (h1 : ss.length ≤ 100) : valB ss s = fillL ss s.data.toList := if_pos ⟨h, h1⟩

set_option maxHeartbeats 1000000 in
theorem f5 (s : ByteArray) (a : Option Addr) (n c : Nat) (ss : List ByteArray) (w : World) (hs : s.size ≤ 1048576) (hn : ss.length = n) (hb : n ≤ 1048576) (hr : HasT w a ss) (hz : ∀ i, i < n → (ss.getD i ByteArray.empty).size ≤ 1048576) :
    Calls Try.prog 5 #[.string s, .slice a n c] w fun e w' => e = .returned (.string (mkS (valB ss s))) ∧ w' = w := by
  by_cases hf : filB s = true
  · by_cases h1 : n ≤ 100
    · have HV := hid (val_yes hf (by rw [hn]; exact h1))
      have HF := hid hf
      have HZ := hid hz
      have HN := hid hn
      clear hz hn
      go_enter Try.func5, Try.ntmps5
      go_wp2_with (first | (go_at_call 9; refine (f9 s _ (by unfold maxLen; omega)).mono ?_; rintro e w' ⟨rfl, hw'⟩; have hw2 := hw'.symm; clear hw'; subst hw2) | (go_at_call 10; refine (f10 s a n c ss _ HF.out (fil_size HF.out) HN.out h1 hr HZ.out).mono ?_; rintro e w' ⟨rfl, hw'⟩; have hw2 := hw'.symm; clear hw'; subst hw2))
      go_ret
      exact ⟨by rw [HV.out]; rfl, rfl⟩
    · have HV := hid (val_no (s := s) (fun h => h1 (by rw [← hn]; exact h.2)))
      clear hn
      go_enter Try.func5, Try.ntmps5
      go_wp2_with (go_at_call 9; refine (f9 s _ (by unfold maxLen; omega)).mono ?_; rintro e w' ⟨rfl, hw'⟩; have hw2 := hw'.symm; clear hw'; subst hw2)
      go_ret
      exact ⟨by rw [HV.out]; rfl, rfl⟩
  · have HV := hid (val_no (ss := ss) (fun h => hf h.1))
    have hf' : filB s = false := by simpa using hf
    clear hn hf
    go_enter Try.func5, Try.ntmps5
    go_wp2_with (go_at_call 9; refine (f9 s _ (by unfold maxLen; omega)).mono ?_; rintro e w' ⟨rfl, hw'⟩; have hw2 := hw'.symm; clear hw'; subst hw2)
    go_ret
    exact ⟨by rw [HV.out]; rfl, rfl⟩
end Go.Proofs.Ytknceglcflakhaa.Fil
