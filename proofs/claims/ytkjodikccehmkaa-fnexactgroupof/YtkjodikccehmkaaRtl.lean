/- The model's GoodRoutes. -/
import Derived.Test.YtkjodikccehmkaaRtk
namespace Go.Proofs.Ytkjodikccehmkaa.Rou
open Go.RowKit
open Go.Proofs.Ytkjodikccehmkaa.Rwc

set_option maxHeartbeats 8000000 in
theorem f21 (ts : List T) (a : Option Addr) (c : Nat) (w : World) (_hb : ts.length ≤ 1048576) (hr : Has w a ts) (hf : Fit ts) (hz : Sml ts) :
    Calls Try.prog 21 #[.slice a ts.length c] w fun e w' => e = .returned (.bool (goodR ts)) ∧ Below w.heap.size w w' := by
  have HR := hid hr
  have HF := hid hf
  have HZ := hid hz
  clear hr hf hz
  by_cases h0 : ts.length = 0
  · have HY : Hid (goodR ts = false) := goodP_false fun g => by
      obtain ⟨_, t, ht⟩ := g
      have := rows_pos t
      rw [← ht.rows] at this
      simp at this
      rw [List.length_eq_zero_iff.1 h0] at this; simp at this
    have g0 : ¬ ((ts.length : Int) > 0) := by omega
    rw [HY.out, h0]
    clear h0 g0
    go_enter Try.func21, Try.ntmps21
    go_wp2
    go_ret
    exact ⟨rfl, Below.refl _ _⟩
  obtain ⟨n, hn⟩ : ∃ n, n = ts.length := ⟨_, rfl⟩
  have HN := hid hn
  have g0 : (n : Int) > 0 := by omega
  have g0' : ¬ n = 0 := by omega
  by_cases h40 : (n : Int) ≤ 40
  rotate_left
  · have HY : Hid (goodR ts = false) := goodP_false fun g => by have := g.1; simp at this; omega
    rw [HY.out, ← hn]
    clear hn h0
    go_enter Try.func21, Try.ntmps21
    go_wp2
    go_ret
    exact ⟨rfl, Below.refl _ _⟩
  have HC : Hid (Calls Try.prog 45 #[.slice a ts.length c, .int .i64 0, .int .i64 1] w (TakeR ts 0 1 w)) := take_ok 8 ts a c 0 1 w (by omega) (by omega) (Nat.zero_le _) (by omega) HR.out HF.out HZ.out
  obtain ⟨b, off, hab, hbl, hcl, _⟩ := HR.out.at2 0 (by omega)
  have hcl' : Cells w b off (ts.getD 0 t0) := by simpa using hcl
  have HCL := hid hcl'
  have HD1 := hid (drop_at (ts := ts) (k := 0) (by omega))
  generalize ts.getD 0 t0 = q at *
  subst hab
  rw [← hn] at HC ⊢
  clear hcl hcl' hn h0
  obtain ⟨R, hR⟩ : ∃ R, R = goodR ts := ⟨_, rfl⟩
  have HRR := hid hR
  rw [← hR]
  clear hR
  go_enter Try.func21, Try.ntmps21
  go_wp2_with fail
  refine HC.out.mono ?_
  clear HC
  rintro e w1 ⟨hb1, hk⟩
  have HB1 := hid hb1
  obtain ⟨x0, x1, x2, x3, x4, x5, x6, x7, x8⟩ := (HCL.out.below hb1 hbl).all
  rcases hk with ⟨rfl, hno⟩ | ⟨t, x, rfl, he2, hgt, hle⟩
  · have HY : Hid (R = false) := by
      unfold Hid; rw [HRR.out]
      refine goodP_false fun g => ?_
      obtain ⟨_, t, ht⟩ := g
      exact hno t [] (by simpa using ht.rows) ht.gt
    have e1 : ((-1 : Int) == (n : Int)) = false := by first | simp | (simp; omega)
    clear hno hb1
    go_wp2
    go_ret
    exact ⟨by rw [HY.out]; first | rfl | simp, HB1.out⟩
  · have HE2 : Hid (ts.map pl = rows t ++ x) := he2
    have HGT := hid hgt
    have HLN : Hid (n = (rows t).length + x.length) := by unfold Hid; have := congrArg List.length he2; simp at this; have := HN.out; omega
    have HR0 : Hid (t.r = pl q) := by
      obtain ⟨r, ks⟩ := t
      have := HD1.out
      have h2 := he2
      rw [h2] at this
      simp only [rows, List.cons_append, List.cons.injEq] at this
      exact this.1
    have HONE : Hid (∀ t', Is (ts.map pl) t' → t' = t ∧ x = []) := fun t' h => by
      have h1 : rows t' ++ [] = rows t ++ x := by rw [List.append_nil, ← h.rows]; exact he2
      obtain ⟨e1, e2⟩ := rows_one NR NR t' t 1 1 [] x h.gt hgt h1
      exact ⟨e1, e2.symm⟩
    clear he2 hgt hle hb1
    rw [Nat.zero_add]
    by_cases hx : (rows t).length = n
    rotate_left
    · have HY : Hid (R = false) := by
        unfold Hid; rw [HRR.out]
        refine goodP_false fun g => ?_
        obtain ⟨_, t', ht⟩ := g
        have := (HONE.out t' ht).2
        have h2 := HLN.out
        rw [this] at h2
        simp at h2
        omega
      have e1 : (((rows t).length : Int) == (n : Int)) = false := by simp; omega
      generalize (rows t).length = L at *
      go_wp2
      go_ret
      exact ⟨by rw [HY.out]; first | rfl | simp, HB1.out⟩
    have hx0 : x = [] := List.length_eq_zero_iff.1 (by have := HLN.out; omega)
    have HX0 := hid hx0
    have HM : Hid (t.r.ms = q.ms) := by unfold Hid; rw [HR0.out]; rfl
    have HO : Hid (t.r.on = q.on) := by unfold Hid; rw [HR0.out]; rfl
    rw [hx]
    have e1 : ((n : Int) == (n : Int)) = true := by simp
    clear hx hx0
    by_cases hms : q.ms.length = 0
    rotate_left
    · have HY : Hid (R = false) := by
        unfold Hid; rw [HRR.out]
        refine goodP_false fun g => ?_
        obtain ⟨_, t', ht⟩ := g
        have := ht.ms
        rw [(HONE.out t' ht).1] at this
        exact hms (by rw [← HM.out, this]; rfl)
      have e2 : ((q.ms.length : Int) == 0) = false := by simp; intro h; exact hms (by rw [h]; rfl)
      go_wp2
      go_ret
      exact ⟨by rw [HY.out]; first | rfl | simp, HB1.out⟩
    have HM0 := hid (List.length_eq_zero_iff.1 hms)
    rw [hms] at x1
    clear hms
    have HY : Hid (R = !q.on) := by
      unfold Hid; rw [HRR.out]
      cases hon : q.on
      · exact goodP_true ⟨by simp; have := HN.out; omega, t, by have := HE2.out; rw [HX0.out, List.append_nil] at this; exact this, HGT.out, HM.out.trans HM0.out, HO.out.trans hon⟩
      · refine goodP_false fun g => ?_
        obtain ⟨_, t', ht⟩ := g
        have := ht.on
        rw [(HONE.out t' ht).1, HO.out, hon] at this
        cases this
    go_wp2
    go_ret
    exact ⟨by rw [HY.out]; rfl, HB1.out⟩
end Go.Proofs.Ytkjodikccehmkaa.Rou
