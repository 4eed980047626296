/- The walk of FnPatterns. -/
import Derived.Test.YtpobpanmkdjkjaaDu
namespace Go.Proofs.Ytpobpanmkdjkjaa.Cur
open Go.RowKit Go.Proofs.Ytpobpanmkdjkjaa.Pat

theorem own_cells {w : World} {base n c i : Nat} {a : Option Addr} {ps : List (List UInt8)} (h : w.ownsRow base 9 1 (.slice a n c) n (txts ps)) (hi : i < n) (hip : i < ps.length) : ∃ g, a = some ⟨g, 0, none⟩ ∧ g < w.heap.size ∧ w.cell? ⟨g, i, none⟩ = some (.string (mkS ps[i])) := by
  rcases h.2 with ⟨_, h0⟩ | ⟨g, cap, cur, hv, _⟩
  · omega
  simp only [Value.slice.injEq] at hv
  obtain ⟨rfl, -, rfl⟩ := hv
  exact ⟨g, rfl, (h.lt g rfl).2, (h.cellAt i (by omega)).trans (by simp [txts, hip])⟩

set_option maxHeartbeats 4000000 in
theorem walk3 (a : Option Addr) (n c : Nat) (w : World) (h : Byt w a n) (hmax : n ≤ maxLen) :
    Calls Try.prog 3 #[.slice a n c] w fun e w' => e = .returned (.bool true) ∧ Below w.heap.size w w' := by
  unfold maxLen at hmax
  have HY := hid h
  clear h
  by_cases hbig : 1048576 < n
  · go_enter Try.func3, Try.ntmps3
    go_wp2
    go_ret
    exact ⟨rfl, Below.refl _ _⟩
  go_enter Try.func3, Try.ntmps3
  go_wp2_with fail
  refine (f7 a n c _ HY.out (by omega)).mono ?_
  rintro e w1 ⟨p, s, rfl, hp, hs, hb1⟩
  have HB1 := hid hb1
  clear hb1
  have hp' : p.size ≤ maxLen := by unfold maxLen; omega
  have hs' : s.size ≤ maxLen := by unfold maxLen; omega
  have HPP : Hid (p.size ≤ maxLen) := hp'
  have HSS : Hid (s.size ≤ maxLen) := hs'
  clear hp' hs'
  go_wp2_with fail
  refine (f8 p _ HPP.out).mono ?_
  rintro e w2 ⟨rfl, hb2⟩
  have HB2 := hid (HB1.out.trans (hb2.mono HB1.out.size))
  clear hb2 HB1
  by_cases hg : patB p = true
  · by_cases h100 : s.size ≤ 100
    · have i1 : ¬ 100 < (s.size : Int) := by omega
      go_wp2_with fail
      refine (f10 p s _ HPP.out HSS.out).mono ?_
      rintro e w3 ⟨hb3, h3⟩
      have HB3 := hid (HB2.out.trans (hb3.mono HB2.out.size))
      clear hb3 HB2
      rcases h3 with ⟨hno, rfl⟩ | ⟨ps, a3, c3, hyes, rfl, ho⟩
      · have HF := hid (fits_no hno)
        clear hno
        have hf0 : fitsB p s = false := HF.out
        go_wp2_with fail
        refine (f11 p s _ HPP.out HSS.out).mono ?_
        rintro e w4 ⟨rfl, hb4⟩
        have HB4 := hid (HB3.out.trans (hb4.mono HB3.out.size))
        clear hb4
        go_wp2_with fail
        refine (f9 p s _ HPP.out HSS.out).mono ?_
        rintro e w5 ⟨rfl, hb5⟩
        have HB5 := hid (HB4.out.trans (hb5.mono HB4.out.size))
        clear hb5
        go_wp2
        go_loop [7, 50] (fun sn si => sn = .int .i64 0 ∧ si = .int .i64 0) (fun _ _ => 0)
        case atStart => exact ⟨rfl, rfl⟩
        case round =>
          obtain ⟨rfl, rfl⟩ := hrel
          have i2 : (0 : Int) ≤ (s.size : Int) := by omega
          go_wp2
          go_ret
          exact ⟨rfl, HB5.out⟩
      · have HF := hid (fits_yes hyes)
        have HT := hid (pp_tot hyes)
        have HO3 := hid ho
        clear hyes ho
        have hf0 : fitsB p s = true := HF.out
        go_wp2_with fail
        refine (f11 p s _ HPP.out HSS.out).mono ?_
        rintro e w4 ⟨rfl, hb4⟩
        have HB4 := hid (HB3.out.trans (hb4.mono HB3.out.size))
        have HO4 := hid (own_agree HO3.out (fun g hg => hb4.block g (HO3.out.lt g hg).2))
        clear hb4
        go_wp2_with fail
        refine (f9 p s _ HPP.out HSS.out).mono ?_
        rintro e w5 ⟨rfl, hb5⟩
        have HB5 := hid (HB4.out.trans (hb5.mono HB4.out.size))
        have HO5 := hid (own_agree HO4.out (fun g hg => hb5.block g (HO4.out.lt g hg).2))
        clear hb5 HO3 HO4 HB3 HB4
        obtain ⟨L, hL⟩ : ∃ L, L = ps.length := ⟨_, rfl⟩
        rw [← hL] at HO5
        have HL := hid hL
        have hLb : L ≤ 9223372036854775807 := by
          have := HO5.out.2
          rcases this with ⟨_, h0⟩ | ⟨g, cap, cur, hv, h1, h2, h3, h4, h5⟩
          · omega
          · unfold maxLen at h4; omega
        simp only [← hL]
        clear hL
        go_wp2
        go_loop [7, 50] (fun sn si => ∃ (i m : Nat), i ≤ L ∧ si = .int .i64 i ∧ sn = .int .i64 m ∧ m ≤ s.size ∧ Hid (m = tot (ps.take i))) (fun _ si => L - (intOf si).toNat)
        case atStart => exact ⟨0, 0, Nat.zero_le _, rfl, rfl, Nat.zero_le _, rfl⟩
        case round =>
          obtain ⟨i, m, hi, rfl, rfl, hm, HM⟩ := hrel
          by_cases hlt : i < L
          · have hip : i < ps.length := by rw [← HL.out]; exact hlt
            obtain ⟨g, rfl, hgl, c0⟩ := own_cells HO5.out hlt hip
            have e1 : (mkS ps[i]).size = ps[i].length := by simp [ByteArray.size]
            have e2 := tot_succ hip
            have e3 := tot_take ps (i + 1)
            have e4 := HT.out
            have e5 := HM.out
            have HM2 : Hid (m + (mkS ps[i]).size = tot (ps.take (i + 1))) := by unfold Hid; omega
            have hm2 : m + (mkS ps[i]).size ≤ s.size := by omega
            clear e1 e2 e3 e4 e5
            generalize mkS ps[i] = t at *
            clear hip
            go_wp2
            go_round
            case rel => exact ⟨i + 1, m + t.size, by omega, by go_num, by go_num, hm2, HM2.out⟩
            case measure => simp [intOf]; omega
          · have i2 : (m : Int) ≤ (s.size : Int) := by omega
            go_wp2
            go_ret
            exact ⟨rfl, HB5.out⟩
    · have HF := hid (fits_no (ppF_long (p := p) h100))
      have hf0 : fitsB p s = false := HF.out
      have i1 : 100 < (s.size : Int) := by omega
      go_wp2_with fail
      refine (f9 p s _ HPP.out HSS.out).mono ?_
      rintro e w3 ⟨rfl, hb3⟩
      have HB3 := hid (HB2.out.trans (hb3.mono HB2.out.size))
      clear hb3
      go_wp2
      go_ret
      exact ⟨by simp, HB3.out⟩
  · have hg' : patB p = false := by simpa using hg
    have HF := hid (fits_no (ppF_bad (s := s) hg'))
    have hf0 : fitsB p s = false := HF.out
    clear hg
    go_wp2_with fail
    refine (f9 p s _ HPP.out HSS.out).mono ?_
    rintro e w3 ⟨rfl, hb3⟩
    have HB3 := hid (HB2.out.trans (hb3.mono HB2.out.size))
    clear hb3
    go_wp2
    go_ret
    exact ⟨by simp, HB3.out⟩
end Go.Proofs.Ytpobpanmkdjkjaa.Cur
