/- What both GoodMatchers come to. -/
import Derived.Test.YtpobpanmkdjkjaaMat
namespace Go.Proofs.Ytpobpanmkdjkjaa.Pat
open Go.RowKit

def okM (m : Mt) : Bool := nameL m.1.data.toList && decide (1 ≤ m.2.1 ∧ m.2.1 ≤ 4) && decide (m.2.2.size ≤ 100) && printL m.2.2.data.toList && (decide (m.2.1 < 3) || patB m.2.2)
def GoodMP (ms : List Mt) : Prop := ms.length ≤ 10 ∧ ∀ i, i < ms.length → okM (ms.getD i m0) = true
instance (ms : List Mt) : Decidable (GoodMP ms) := by unfold GoodMP; infer_instance
def goodM (ms : List Mt) : Bool := decide (GoodMP ms)
theorem gm_no {ms : List Mt} {k : Nat} (hk : k < ms.length) (h : okM (ms.getD k m0) = false) : goodM ms = false := decide_eq_false fun g => by have := g.2 k hk; rw [h] at this; cases this
theorem gm_yes {ms : List Mt} {k : Nat} (hk : ms.length ≤ k) (h : ∀ i, i < k → okM (ms.getD i m0) = true) (h10 : ms.length ≤ 10) : goodM ms = true := decide_eq_true ⟨h10, fun i hi => h i (by omega)⟩
theorem gm_long {ms : List Mt} (h : 10 < ms.length) : goodM ms = false := decide_eq_false fun g => by have := g.1; omega

set_option maxHeartbeats 4000000 in
theorem f62 (s t : ByteArray) (o : Int) (w : World) (hs : s.size ≤ maxLen) (ht : t.size ≤ maxLen) :
    Calls Try.prog 62 #[.agg #[.string s, .int .i64 o, .string t]] w fun e w' => e = .returned (.bool (okM (s, o, t))) ∧ Below w.heap.size w w' := by
  have ht' := ht
  unfold maxLen at ht'
  have HB := hid ((Below.refl w.heap.size w).alloc (Nat.le_refl _) (.cells #[.string s, .int .i64 o, .string t] 70))
  have hsz := (heap_alloc_new w (.cells #[.string s, .int .i64 o, .string t] 70))
  clear hsz
  by_cases h1 : nameL s.data.toList = true
  · by_cases h2 : t.size ≤ 100
    · by_cases h3 : printL t.data.toList = true
      · by_cases o1 : o = 1
        · subst o1
          have HK : Hid (okM (s, 1, t) = true) := by unfold Hid okM; simp [h1, h2, h3]
          go_enter Try.func62, Try.ntmps62
          go_wp2_with (first | (go_at_call 63; refine (f63 s _ hs).mono ?_; rintro e w' ⟨rfl, hw'⟩; subst hw') | (go_at_call 50; refine (f50 t _ ht).mono ?_; rintro e w' ⟨rfl, hw'⟩; subst hw'))
          go_ret
          exact ⟨ret_bool HK.out.symm, HB.out⟩
        · have o1' : (o == 1) = false := by simp [o1]
          by_cases o2 : o = 2
          · subst o2
            have HK : Hid (okM (s, 2, t) = true) := by unfold Hid okM; simp [h1, h2, h3]
            go_enter Try.func62, Try.ntmps62
            go_wp2_with (first | (go_at_call 63; refine (f63 s _ hs).mono ?_; rintro e w' ⟨rfl, hw'⟩; subst hw') | (go_at_call 50; refine (f50 t _ ht).mono ?_; rintro e w' ⟨rfl, hw'⟩; subst hw'))
            go_ret
            exact ⟨ret_bool HK.out.symm, HB.out⟩
          · have o2' : (o == 2) = false := by simp [o2]
            by_cases o3 : o = 3
            · subst o3
              have HK : Hid (okM (s, 3, t) = patB t) := by unfold Hid okM; simp [h1, h2, h3]
              go_enter Try.func62, Try.ntmps62
              go_wp2_with (first | (go_at_call 63; refine (f63 s _ hs).mono ?_; rintro e w' ⟨rfl, hw'⟩; subst hw') | (go_at_call 50; refine (f50 t _ ht).mono ?_; rintro e w' ⟨rfl, hw'⟩; subst hw') | (go_at_call 77; refine (f77 t _ ht).mono ?_; rintro e w2 ⟨rfl, hb2⟩))
              go_ret
              exact ⟨ret_bool HK.out.symm, HB.out.trans (hb2.mono (by simp))⟩
            · have o3' : (o == 3) = false := by simp [o3]
              by_cases o4 : o = 4
              · subst o4
                have HK : Hid (okM (s, 4, t) = patB t) := by unfold Hid okM; simp [h1, h2, h3]
                go_enter Try.func62, Try.ntmps62
                go_wp2_with (first | (go_at_call 63; refine (f63 s _ hs).mono ?_; rintro e w' ⟨rfl, hw'⟩; subst hw') | (go_at_call 50; refine (f50 t _ ht).mono ?_; rintro e w' ⟨rfl, hw'⟩; subst hw') | (go_at_call 77; refine (f77 t _ ht).mono ?_; rintro e w2 ⟨rfl, hb2⟩))
                go_ret
                exact ⟨ret_bool HK.out.symm, HB.out.trans (hb2.mono (by simp))⟩
              · have o4' : (o == 4) = false := by simp [o4]
                have HK : Hid (okM (s, o, t) = false) := by
                  unfold Hid okM
                  have : decide (1 ≤ o ∧ o ≤ 4) = false := decide_eq_false (by omega)
                  simp only [this]; simp
                clear o1 o2 o3 o4
                go_enter Try.func62, Try.ntmps62
                go_wp2_with (first | (go_at_call 63; refine (f63 s _ hs).mono ?_; rintro e w' ⟨rfl, hw'⟩; subst hw') | (go_at_call 50; refine (f50 t _ ht).mono ?_; rintro e w' ⟨rfl, hw'⟩; subst hw'))
                go_ret
                exact ⟨ret_bool HK.out.symm, HB.out⟩
      · have h3' : printL t.data.toList = false := by simpa using h3
        have HK : Hid (okM (s, o, t) = false) := by unfold Hid okM; simp [h3']
        clear h3
        go_enter Try.func62, Try.ntmps62
        go_wp2_with (first | (go_at_call 63; refine (f63 s _ hs).mono ?_; rintro e w' ⟨rfl, hw'⟩; subst hw') | (go_at_call 50; refine (f50 t _ ht).mono ?_; rintro e w' ⟨rfl, hw'⟩; subst hw'))
        go_ret
        exact ⟨ret_bool HK.out.symm, HB.out⟩
    · have HK : Hid (okM (s, o, t) = false) := by
        unfold Hid okM
        have : decide (t.size ≤ 100) = false := decide_eq_false h2
        simp only [this]; simp
      go_enter Try.func62, Try.ntmps62
      go_wp2_with (first | (go_at_call 63; refine (f63 s _ hs).mono ?_; rintro e w' ⟨rfl, hw'⟩; subst hw') | (go_at_call 50; refine (f50 t _ ht).mono ?_; rintro e w' ⟨rfl, hw'⟩; subst hw'))
      go_ret
      exact ⟨ret_bool HK.out.symm, HB.out⟩
  · have h1' : nameL s.data.toList = false := by simpa using h1
    have HK : Hid (okM (s, o, t) = false) := by unfold Hid okM; simp [h1']
    clear h1
    go_enter Try.func62, Try.ntmps62
    go_wp2_with (first | (go_at_call 63; refine (f63 s _ hs).mono ?_; rintro e w' ⟨rfl, hw'⟩; subst hw') | (go_at_call 50; refine (f50 t _ ht).mono ?_; rintro e w' ⟨rfl, hw'⟩; subst hw'))
    go_ret
    exact ⟨ret_bool HK.out.symm, HB.out⟩

set_option maxHeartbeats 4000000 in
theorem f42 (a : Option Addr) (n c : Nat) (ms : List Mt) (w : World) (hn : ms.length = n) (hmax : n ≤ maxLen) (hr : HasM w a ms) (hf : FitM ms) :
    Calls Try.prog 42 #[.slice a n c] w fun e w' => e = .returned (.bool (goodM ms)) ∧ Below w.heap.size w w' := by
  unfold maxLen at hmax
  have HN := hid hn
  clear hn
  by_cases h10 : n ≤ 10
  · go_enter Try.func42, Try.ntmps42
    go_wp2
    go_loopw [10] (fun i wr => ∃ k : Nat, k ≤ n ∧ i = .int .i64 k ∧ Hid (∀ i, i < k → okM (ms.getD i m0) = true) ∧ Below w.heap.size w wr) (fun i _ => n - (intOf i).toNat)
    case atStart => exact ⟨0, Nat.zero_le _, rfl, fun i hi => by omega, Below.refl _ _⟩
    case round =>
      obtain ⟨k, hk, rfl, hu, hnx⟩ := hrel
      have HX := hid hnx
      by_cases hlt : k < n
      · rcases hr with hr | ⟨b, off, rfl, hbl, hc⟩
        · exact absurd HN.out (by rw [hr]; simp; omega)
        obtain ⟨c0, c1, c2⟩ := hc k (by rw [HN.out]; exact hlt)
        have d0 := (hnx.cell (p := ⟨b, off + k * 3, none⟩) hbl).trans c0
        have d1 := (hnx.cell (p := ⟨b, off + k * 3 + 1, none⟩) hbl).trans c1
        have d2 := (hnx.cell (p := ⟨b, off + k * 3 + 2, none⟩) hbl).trans c2
        obtain ⟨g0, g1, g2, g3⟩ := hf k
        have HNo := hid (gm_no (ms := ms) (k := k) (by rw [HN.out]; exact hlt))
        have HUs : Hid (okM (ms.getD k m0) = true → ∀ i, i < k + 1 → okM (ms.getD i m0) = true) := by
          intro h i hi
          by_cases e : i = k
          · subst e; exact h
          · exact hu.out i (by omega)
        have lb : b < wr.heap.size := Nat.lt_of_lt_of_le hbl hnx.size
        have hsz := hnx.size
        clear hc c0 c1 c2 hnx
        generalize ms.getD k m0 = p at *
        obtain ⟨s, o, t⟩ := p
        have HX1 := hid (HX.out.alloc HX.out.size (.cells #[.string s, .int .i64 o, .string t] 70))
        by_cases hok : okM (s, o, t) = true
        · go_wp2_with (go_at_call 62; refine (f62 s t o _ g0 g1).mono ?_; rintro e w2 ⟨rfl, hb2⟩)
          have HX2 := hid (HX1.out.trans (hb2.mono (by simp; omega)))
          clear hb2
          go_roundw
          case rel => exact ⟨k + 1, by omega, by go_num, HUs.out hok, HX2.out⟩
          case measure => simp [intOf]; omega
        · have hok' : okM (s, o, t) = false := by simpa using hok
          go_wp2_with (go_at_call 62; refine (f62 s t o _ g0 g1).mono ?_; rintro e w2 ⟨rfl, hb2⟩)
          have HX2 := hid (HX1.out.trans (hb2.mono (by simp; omega)))
          clear hb2
          go_ret
          exact ⟨ret_bool (HNo.out hok').symm, HX2.out⟩
      · go_wp2
        go_ret
        exact ⟨ret_bool (gm_yes (k := k) (by rw [HN.out]; omega) hu.out (by rw [HN.out]; exact h10)).symm, HX.out⟩
  · go_enter Try.func42, Try.ntmps42
    go_wp2
    go_ret
    exact ⟨ret_bool (gm_long (by rw [HN.out]; omega)).symm, Below.refl _ _⟩

set_option maxHeartbeats 4000000 in
theorem f37 (a : Option Addr) (n c : Nat) (ms : List Mt) (w : World) (hn : ms.length = n) (hmax : n ≤ maxLen) (hr : HasM w a ms) (hf : FitM ms) :
    Calls Try.prog 37 #[.slice a n c] w fun e w' => e = .returned (.bool (goodM ms)) ∧ Below w.heap.size w w' := by
  unfold maxLen at hmax
  have HN := hid hn
  clear hn
  by_cases h10 : n ≤ 10
  · go_enter Try.func37, Try.ntmps37
    go_wp2
    go_loopw [10] (fun i wr => ∃ k : Nat, k ≤ n ∧ i = .int .i64 k ∧ Hid (∀ i, i < k → okM (ms.getD i m0) = true) ∧ Below w.heap.size w wr) (fun i _ => n - (intOf i).toNat)
    case atStart => exact ⟨0, Nat.zero_le _, rfl, fun i hi => by omega, Below.refl _ _⟩
    case round =>
      obtain ⟨k, hk, rfl, hu, hnx⟩ := hrel
      have HX := hid hnx
      by_cases hlt : k < n
      · rcases hr with hr | ⟨b, off, rfl, hbl, hc⟩
        · exact absurd HN.out (by rw [hr]; simp; omega)
        obtain ⟨c0, c1, c2⟩ := hc k (by rw [HN.out]; exact hlt)
        have d0 := (hnx.cell (p := ⟨b, off + k * 3, none⟩) hbl).trans c0
        have d1 := (hnx.cell (p := ⟨b, off + k * 3 + 1, none⟩) hbl).trans c1
        have d2 := (hnx.cell (p := ⟨b, off + k * 3 + 2, none⟩) hbl).trans c2
        obtain ⟨g0, g1, g2, g3⟩ := hf k
        have HNo := hid (gm_no (ms := ms) (k := k) (by rw [HN.out]; exact hlt))
        have HUs : Hid (okM (ms.getD k m0) = true → ∀ i, i < k + 1 → okM (ms.getD i m0) = true) := by
          intro h i hi
          by_cases e : i = k
          · subst e; exact h
          · exact hu.out i (by omega)
        have lb : b < wr.heap.size := Nat.lt_of_lt_of_le hbl hnx.size
        have hsz := hnx.size
        clear hc c0 c1 c2 hnx
        generalize ms.getD k m0 = p at *
        obtain ⟨s, o, t⟩ := p
        have HX1 := hid (HX.out.alloc HX.out.size (.cells #[.string s, .int .i64 o, .string t] 70))
        have g1' := g1
        simp only at g1' g2 g3
        unfold maxLen at g1'
        by_cases h1 : nameL s.data.toList = true
        · by_cases o1 : o < 1
          · have HK : Hid (okM (s, o, t) = false) := by
              unfold Hid okM
              have : decide (1 ≤ o ∧ o ≤ 4) = false := decide_eq_false (by omega)
              simp only [this]; simp
            go_wp2_with (first | (go_at_call 57; refine (f57 s _ g0).mono ?_; rintro e w' ⟨rfl, hw'⟩; subst hw') | (go_at_call 49; refine (f49 t _ g1).mono ?_; rintro e w' ⟨rfl, hw'⟩; subst hw'))
            go_ret
            exact ⟨ret_bool (HNo.out HK.out).symm, HX1.out⟩
          · by_cases o4 : 4 < o
            · have HK : Hid (okM (s, o, t) = false) := by
                unfold Hid okM
                have : decide (1 ≤ o ∧ o ≤ 4) = false := decide_eq_false (by omega)
                simp only [this]; simp
              go_wp2_with (first | (go_at_call 57; refine (f57 s _ g0).mono ?_; rintro e w' ⟨rfl, hw'⟩; subst hw') | (go_at_call 49; refine (f49 t _ g1).mono ?_; rintro e w' ⟨rfl, hw'⟩; subst hw'))
              go_ret
              exact ⟨ret_bool (HNo.out HK.out).symm, HX1.out⟩
            · by_cases h2 : 100 < t.size
              · have HK : Hid (okM (s, o, t) = false) := by
                  unfold Hid okM
                  have : decide (t.size ≤ 100) = false := decide_eq_false (by omega)
                  simp only [this]; simp
                go_wp2_with (first | (go_at_call 57; refine (f57 s _ g0).mono ?_; rintro e w' ⟨rfl, hw'⟩; subst hw') | (go_at_call 49; refine (f49 t _ g1).mono ?_; rintro e w' ⟨rfl, hw'⟩; subst hw'))
                go_ret
                exact ⟨ret_bool (HNo.out HK.out).symm, HX1.out⟩
              · by_cases h3 : printL t.data.toList = true
                · by_cases o3 : o < 3
                  · have HK : Hid (okM (s, o, t) = true) := by
                      unfold Hid okM
                      have q1 : decide (1 ≤ o ∧ o ≤ 4) = true := decide_eq_true (by omega)
                      have q2 : decide (t.size ≤ 100) = true := decide_eq_true (by omega)
                      have q3 : decide (o < 3) = true := decide_eq_true o3
                      simp only [h1, h3, q1, q2, q3]; rfl
                    go_wp2_with (first | (go_at_call 57; refine (f57 s _ g0).mono ?_; rintro e w' ⟨rfl, hw'⟩; subst hw') | (go_at_call 49; refine (f49 t _ g1).mono ?_; rintro e w' ⟨rfl, hw'⟩; subst hw'))
                    go_roundw
                    case rel => exact ⟨k + 1, by omega, by go_num, HUs.out HK.out, HX1.out⟩
                    case measure => simp [intOf]; omega
                  · have HKP : Hid (okM (s, o, t) = patB t) := by
                      unfold Hid okM
                      have q1 : decide (1 ≤ o ∧ o ≤ 4) = true := decide_eq_true (by omega)
                      have q2 : decide (t.size ≤ 100) = true := decide_eq_true (by omega)
                      have q3 : decide (o < 3) = false := decide_eq_false o3
                      simp only [h1, h3, q1, q2, q3]; simp
                    by_cases hp : patB t = true
                    · go_wp2_with (first | (go_at_call 57; refine (f57 s _ g0).mono ?_; rintro e w' ⟨rfl, hw'⟩; subst hw') | (go_at_call 49; refine (f49 t _ g1).mono ?_; rintro e w' ⟨rfl, hw'⟩; subst hw') | (go_at_call 8; refine (f8 t _ g1).mono ?_; rintro e w2 ⟨rfl, hb2⟩))
                      have HX2 := hid (HX1.out.trans (hb2.mono (by simp; omega)))
                      clear hb2
                      go_roundw
                      case rel => exact ⟨k + 1, by omega, by go_num, HUs.out (by rw [HKP.out]; exact hp), HX2.out⟩
                      case measure => simp [intOf]; omega
                    · have hp' : patB t = false := by simpa using hp
                      go_wp2_with (first | (go_at_call 57; refine (f57 s _ g0).mono ?_; rintro e w' ⟨rfl, hw'⟩; subst hw') | (go_at_call 49; refine (f49 t _ g1).mono ?_; rintro e w' ⟨rfl, hw'⟩; subst hw') | (go_at_call 8; refine (f8 t _ g1).mono ?_; rintro e w2 ⟨rfl, hb2⟩))
                      have HX2 := hid (HX1.out.trans (hb2.mono (by simp; omega)))
                      clear hb2
                      go_ret
                      exact ⟨ret_bool (HNo.out (by rw [HKP.out]; exact hp')).symm, HX2.out⟩
                · have h3' : printL t.data.toList = false := by simpa using h3
                  clear h3
                  have HK : Hid (okM (s, o, t) = false) := by
                    unfold Hid okM
                    simp [h3']
                  go_wp2_with (first | (go_at_call 57; refine (f57 s _ g0).mono ?_; rintro e w' ⟨rfl, hw'⟩; subst hw') | (go_at_call 49; refine (f49 t _ g1).mono ?_; rintro e w' ⟨rfl, hw'⟩; subst hw'))
                  go_ret
                  exact ⟨ret_bool (HNo.out HK.out).symm, HX1.out⟩
        · have h1' : nameL s.data.toList = false := by simpa using h1
          clear h1
          have HK : Hid (okM (s, o, t) = false) := by
            unfold Hid okM
            simp [h1']
          go_wp2_with (first | (go_at_call 57; refine (f57 s _ g0).mono ?_; rintro e w' ⟨rfl, hw'⟩; subst hw') | (go_at_call 49; refine (f49 t _ g1).mono ?_; rintro e w' ⟨rfl, hw'⟩; subst hw'))
          go_ret
          exact ⟨ret_bool (HNo.out HK.out).symm, HX1.out⟩
      · go_wp2
        go_ret
        exact ⟨ret_bool (gm_yes (k := k) (by rw [HN.out]; omega) hu.out (by rw [HN.out]; exact h10)).symm, HX.out⟩
  · go_enter Try.func37, Try.ntmps37
    go_wp2
    go_ret
    exact ⟨ret_bool (gm_long (by rw [HN.out]; omega)).symm, Below.refl _ _⟩

end Go.Proofs.Ytpobpanmkdjkjaa.Pat
