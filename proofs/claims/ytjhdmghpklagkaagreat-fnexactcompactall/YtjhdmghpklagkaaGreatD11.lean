/- The program's GoodBlock. -/
import Derived.Test.YtjhdmghpklagkaaGreatD10
import Derived.Test.YtjhdmghpklagkaaGreatD05
import Derived.Test.YtjhdmghpklagkaaGreatD08
import Derived.Test.YtjhdmghpklagkaaGreatD09
namespace Go.Proofs.YtjhdmghpklagkaaGreat.Blk
open Go.RowKit
open Go.Proofs.YtjhdmghpklagkaaGreat.Lab (Lb HasL cmpList orC goodL two0 two1)
open Go.Proofs.YtjhdmghpklagkaaGreat.Smp (In64 ret_bool ret_int TimeP HasS Sm)
open Go.Proofs.YtjhdmghpklagkaaGreat.Srs (hid lt_at kept Q HasQ FitQ SmlQ GoodQ gdQ gdQ_yes gdQ_no gdQ_iff agQ pl q0 two)
open Go.Proofs.YtjhdmghpklagkaaGreat.Stn (T HasT FitT SmlT agT t0 three Cells)

theorem ends_at {x : World} {q : Q} (hs : HasS x q.b q.s) (hne : q.s ≠ []) : ∃ b off, q.b = some ⟨b, off, none⟩ ∧ b < x.heap.size ∧ x.cell? ⟨b, off, none⟩ = some (.int .i64 (firstT q.s)) ∧ x.cell? ⟨b, off + (q.s.length - 1) * 2, none⟩ = some (.int .i64 (lastT q.s)) := by
  have hl : 0 < q.s.length := List.length_pos_iff.2 hne
  rcases hs with h | ⟨b, off, h1, h2, h3⟩
  · exact absurd h hne
  · refine ⟨b, off, h1, h2, ?_, (h3 (q.s.length - 1) (by omega)).1⟩
    have := (h3 0 hl).1
    rw [Nat.zero_mul, Nat.add_zero] at this
    exact this

set_option maxRecDepth 100000 in
set_option maxHeartbeats 8000000 in
theorem f70 (h : Bk) (w : World) (hr : HasB w h) (hf : FitB h) (hz : SmlB h) :
    Calls Tryz.prog 70 #[agB h] w fun e w' => e = .returned (.bool (gdB h)) ∧ Below w.heap.size w w' := by
  obtain ⟨F, T, L, qs, a, c, ts, b, d⟩ := h
  have H0 := hid (HB.new hr)
  have HF := hid hf
  have HZ := hid hz
  clear hr hf hz
  simp only [clB] at H0
  obtain ⟨b0, b1, b2, b3, b4⟩ := five H0.out.box
  have hmax : ts.length ≤ 1048576 := HZ.out.2.2.1
  simp only [agB, clB]
  go_enter Tryz.func70, Tryz.ntmps70
  by_cases h1 : TimeP F
  rotate_left
  · go_wp2_with (go_at_call 106; refine (Smp.f106 F _).mono ?_; rw [decide_eq_false h1]; rintro e w1 ⟨rfl, rfl⟩)
    go_ret
    exact ⟨ret_bool (gdB_no fun g => by have := g.1.1; simp only at this; exact h1 this).symm, H0.out.bel⟩
  by_cases h2 : T ≤ F
  · go_wp2_with (go_at_call 106; refine (Smp.f106 F _).mono ?_; rw [decide_eq_true h1]; rintro e w1 ⟨rfl, rfl⟩)
    go_ret
    exact ⟨ret_bool (gdB_no fun g => by have := g.1.2.1; simp only at this; omega).symm, H0.out.bel⟩
  by_cases h3 : 1000000000001 < T
  · go_wp2_with (go_at_call 106; refine (Smp.f106 F _).mono ?_; rw [decide_eq_true h1]; rintro e w1 ⟨rfl, rfl⟩)
    go_ret
    exact ⟨ret_bool (gdB_no fun g => by have := g.1.2.2.1; simp only at this; omega).symm, H0.out.bel⟩
  by_cases h4 : L < 1
  · go_wp2_with (go_at_call 106; refine (Smp.f106 F _).mono ?_; rw [decide_eq_true h1]; rintro e w1 ⟨rfl, rfl⟩)
    go_ret
    exact ⟨ret_bool (gdB_no fun g => by have := g.1.2.2.2.1; simp only at this; omega).symm, H0.out.bel⟩
  by_cases h5 : 9 < L
  · go_wp2_with (go_at_call 106; refine (Smp.f106 F _).mono ?_; rw [decide_eq_true h1]; rintro e w1 ⟨rfl, rfl⟩)
    go_ret
    exact ⟨ret_bool (gdB_no fun g => by have := g.1.2.2.2.2; simp only at this; omega).symm, H0.out.bel⟩
  have HH : Hid (Head ⟨F, T, L, qs, a, c, ts, b, d⟩) := ⟨h1, by simp only; omega, by simp only; omega, by simp only; omega, by simp only; omega⟩
  cases h6 : gdQ qs
  · have HQ : Hid (¬ GoodQ qs) := fun g => by rw [gdQ_yes g] at h6; cases h6
    go_wp2_with (first | (go_at_call 106; refine (Smp.f106 F _).mono ?_; rw [decide_eq_true h1]; rintro e w1 ⟨rfl, rfl⟩) | fail)
    refine (Srs.f54 a qs.length c qs _ rfl HF.out.2.2.2.2.1 H0.out.has.1 HF.out.2.2.2.1 HZ.out.2.1).mono ?_
    rw [h6]
    rintro e w2 ⟨rfl, hb2⟩
    have H2 := hid (H0.out.below hb2)
    clear hb2
    go_wp2
    go_ret
    exact ⟨ret_bool (gdB_no fun g => HQ.out g.2.1).symm, H2.out.bel⟩
  have HQ := hid (gdQ_iff.1 h6)
  have h200 : qs.length ≤ 200 := HQ.out.1
  go_wp2_with (first | (go_at_call 106; refine (Smp.f106 F _).mono ?_; rw [decide_eq_true h1]; rintro e w1 ⟨rfl, rfl⟩) | fail)
  refine (Srs.f54 a qs.length c qs _ rfl HF.out.2.2.2.2.1 H0.out.has.1 HF.out.2.2.2.1 HZ.out.2.1).mono ?_
  rw [h6]
  rintro e w2 ⟨rfl, hb2⟩
  have H2 := hid (H0.out.below hb2)
  clear hb2
  clear b0 b1 b2 b3 b4
  obtain ⟨b0, b1, b2, b3, b4⟩ := five H2.out.box
  go_wp2
  go_loopw [40] (fun i wr => ∃ k : Nat, k ≤ qs.length ∧ i = .int .i64 k ∧ Hid (∀ i, i < k → SerAt ⟨F, T, L, qs, a, c, ts, b, d⟩ i) ∧ Hid (HB w ⟨F, T, L, qs, a, c, ts, b, d⟩ wr)) (fun i _ => qs.length - (intOf i).toNat)
  case atStart => exact ⟨0, Nat.zero_le _, rfl, fun i hi => by omega, H2.out⟩
  case round =>
    obtain ⟨k, hk, rfl, HU, HX⟩ := hrel
    clear b0 b1 b2 b3 b4
    obtain ⟨b0, b1, b2, b3, b4⟩ := five HX.out.box
    by_cases hlt : k < qs.length
    rotate_left
    · have HSer : Hid (∀ i, i < qs.length → SerAt ⟨F, T, L, qs, a, c, ts, b, d⟩ i) := fun i hi => HU.out i (by omega)
      go_wp2_with fail
      refine (f107 ⟨F, T, L, qs, a, c, ts, b, d⟩ _ HX.out.has HF.out HZ.out HH.out HQ.out HSer.out).mono ?_
      rintro e w3 ⟨rfl, hb3⟩
      have HX2 := hid (HX.out.below hb3).bel
      clear hb3
      go_wp2
      go_ret
      exact ⟨rfl, HX2.out⟩
    have HNo : Hid (¬ SerAt ⟨F, T, L, qs, a, c, ts, b, d⟩ k → gdB ⟨F, T, L, qs, a, c, ts, b, d⟩ = false) := fun g => gdB_no fun g' => g (g'.2.2.1 k hlt)
    have HUs : Hid (SerAt ⟨F, T, L, qs, a, c, ts, b, d⟩ k → ∀ i, i < k + 1 → SerAt ⟨F, T, L, qs, a, c, ts, b, d⟩ i) := by
      intro g i hi
      by_cases e : i = k
      · rw [e]; exact g
      · exact HU.out i (by omega)
    have hne := (HQ.out.2 k hlt).1.2.2
    obtain ⟨g, off, e0, hbl, c0, c1, t1, t2⟩ := HX.out.has.1.at2 k hlt
    simp only [pl] at e0 c0 c1 t1 t2 hne
    subst e0
    have HM := hid (HZ.out.2.1 k hlt).2
    simp only at HM
    obtain ⟨q, hq⟩ : ∃ q, q = qs.getD k q0 := ⟨_, rfl⟩
    have HSt : Hid (SerAt ⟨F, T, L, qs, some ⟨g, off, none⟩, c, ts, b, d⟩ k ↔ F ≤ firstT q.s ∧ lastT q.s < T) := by unfold Hid SerAt; rw [hq]
    rw [← hq] at c0 c1 t1 t2 hne HM
    clear hq
    obtain ⟨bs, os, e1, hbs, cf, cs⟩ := ends_at t2 hne
    obtain ⟨m, hm⟩ : ∃ m, q.s.length = m + 1 := ⟨q.s.length - 1, by have : q.s.length ≠ 0 := fun e => hne (List.length_eq_zero_iff.1 e); omega⟩
    rw [hm] at c1 cs HM
    rw [e1] at c1
    rw [show m + 1 - 1 = m from rfl] at cs
    have lb0 : w.heap.size < wr.heap.size := lt_at HX.out.box
    have hm1 : m + 1 ≤ 1048576 := HM.out
    have hw1 : IntKind.i64.wrap (m : Int) = (m : Int) := by rw [IntKind.wrap_i64]; omega
    have hw2 : IntKind.i64.wrap ((m : Int) + 1 - 1) = (m : Int) := by rw [IntKind.wrap_i64]; omega
    have hw3 : IntKind.i64.wrap (((m + 1 : Nat) : Int) - 1) = (m : Int) := by rw [IntKind.wrap_i64]; omega
    have j1 : (0 : Int) ≤ (m : Int) := by omega
    have j2 : (m : Int) < (m : Int) + 1 := by omega
    have j3 : (m : Int) < ((m + 1 : Nat) : Int) := by omega
    have HXa := hid (HX.out.below ((Below.refl wr.heap.size wr).alloc (Nat.le_refl _) (.cells #[.slice q.a q.l.length q.c, .slice (some ⟨bs, os, none⟩) (m + 1) q.d] 80)))
    clear t1 t2 hm hne HM e1
    generalize firstT q.s = f1 at *
    generalize lastT q.s = f2 at *
    generalize q.a = qa at *
    generalize q.c = qc at *
    generalize q.d = qd at *
    generalize q.l.length = ll at *
    by_cases h7 : F ≤ f1
    rotate_left
    · have h7' : f1 < F := by omega
      have HNN := hid (fun g' => h7 (HSt.out.1 g').1)
      go_wp2
      go_quiet (fail)
      have HX3 := hid (HXa.out.below (Lab.below_drewN (Below.refl _ _) nq)).bel
      clear HXa
      go_wp2
      go_ret
      exact ⟨ret_bool (HNo.out HNN.out).symm, HX3.out⟩
    have h7' : ¬ f1 < F := by omega
    by_cases h8 : f2 < T
    · have h8' : ¬ T ≤ f2 := by omega
      have HYY := hid (HSt.out.2 ⟨h7, h8⟩)
      go_wp2
      go_quiet (fail)
      have HX3 := hid (HXa.out.below (Lab.below_drewN (Below.refl _ _) nq))
      clear HXa
      go_wp2
      go_roundw
      case rel => exact ⟨k + 1, by omega, by go_num, HUs.out HYY.out, HX3⟩
      case measure => simp [intOf]; omega
    · have h8' : T ≤ f2 := by omega
      have HNN := hid (fun g' => h8 (HSt.out.1 g').2)
      go_wp2
      go_quiet (fail)
      have HX3 := hid (HXa.out.below (Lab.below_drewN (Below.refl _ _) nq)).bel
      clear HXa
      go_wp2
      go_ret
      exact ⟨ret_bool (HNo.out HNN.out).symm, HX3.out⟩
end Go.Proofs.YtjhdmghpklagkaaGreat.Blk
namespace Go.Proofs.YtjhdmghpklagkaaGreat.Blk
open Go.RowKit
open Go.Proofs.YtjhdmghpklagkaaGreat.Lab (Lb HasL cmpList orC goodL two0 two1)
open Go.Proofs.YtjhdmghpklagkaaGreat.Smp (In64 ret_bool ret_int TimeP HasS Sm)
open Go.Proofs.YtjhdmghpklagkaaGreat.Srs (hid lt_at kept Q HasQ FitQ SmlQ GoodQ gdQ gdQ_yes gdQ_no gdQ_iff agQ pl q0 two)
open Go.Proofs.YtjhdmghpklagkaaGreat.Stn (T HasT FitT SmlT agT t0 three Cells)


set_option maxRecDepth 100000 in
set_option maxHeartbeats 8000000 in
theorem f65 (h : Bk) (w : World) (hr : HasB w h) (hf : FitB h) (hz : SmlB h) :
    Calls Tryz.prog 65 #[agB h] w fun e w' => e = .returned (.bool (gdB h)) ∧ Below w.heap.size w w' := by
  obtain ⟨F, T, L, qs, a, c, ts, b, d⟩ := h
  have H0 := hid (HB.new hr)
  have HF := hid hf
  have HZ := hid hz
  clear hr hf hz
  simp only [clB] at H0
  obtain ⟨b0, b1, b2, b3, b4⟩ := five H0.out.box
  have hmax : ts.length ≤ 1048576 := HZ.out.2.2.1
  simp only [agB, clB]
  go_enter Tryz.func65, Tryz.ntmps65
  by_cases h1 : TimeP F
  rotate_left
  · go_wp2_with (go_at_call 101; refine (Smp.f101 F _).mono ?_; rw [decide_eq_false h1]; rintro e w1 ⟨rfl, rfl⟩)
    go_ret
    exact ⟨ret_bool (gdB_no fun g => by have := g.1.1; simp only at this; exact h1 this).symm, H0.out.bel⟩
  by_cases h2 : T ≤ F
  · go_wp2_with (go_at_call 101; refine (Smp.f101 F _).mono ?_; rw [decide_eq_true h1]; rintro e w1 ⟨rfl, rfl⟩)
    go_ret
    exact ⟨ret_bool (gdB_no fun g => by have := g.1.2.1; simp only at this; omega).symm, H0.out.bel⟩
  by_cases h3 : 1000000000001 < T
  · go_wp2_with (go_at_call 101; refine (Smp.f101 F _).mono ?_; rw [decide_eq_true h1]; rintro e w1 ⟨rfl, rfl⟩)
    go_ret
    exact ⟨ret_bool (gdB_no fun g => by have := g.1.2.2.1; simp only at this; omega).symm, H0.out.bel⟩
  by_cases h4 : L < 1
  · go_wp2_with (go_at_call 101; refine (Smp.f101 F _).mono ?_; rw [decide_eq_true h1]; rintro e w1 ⟨rfl, rfl⟩)
    go_ret
    exact ⟨ret_bool (gdB_no fun g => by have := g.1.2.2.2.1; simp only at this; omega).symm, H0.out.bel⟩
  by_cases h5 : 9 < L
  · go_wp2_with (go_at_call 101; refine (Smp.f101 F _).mono ?_; rw [decide_eq_true h1]; rintro e w1 ⟨rfl, rfl⟩)
    go_ret
    exact ⟨ret_bool (gdB_no fun g => by have := g.1.2.2.2.2; simp only at this; omega).symm, H0.out.bel⟩
  have HH : Hid (Head ⟨F, T, L, qs, a, c, ts, b, d⟩) := ⟨h1, by simp only; omega, by simp only; omega, by simp only; omega, by simp only; omega⟩
  cases h6 : gdQ qs
  · have HQ : Hid (¬ GoodQ qs) := fun g => by rw [gdQ_yes g] at h6; cases h6
    go_wp2_with (first | (go_at_call 101; refine (Smp.f101 F _).mono ?_; rw [decide_eq_true h1]; rintro e w1 ⟨rfl, rfl⟩) | fail)
    refine (Srs.f50 a qs.length c qs _ rfl HF.out.2.2.2.2.1 H0.out.has.1 HF.out.2.2.2.1 HZ.out.2.1).mono ?_
    rw [h6]
    rintro e w2 ⟨rfl, hb2⟩
    have H2 := hid (H0.out.below hb2)
    clear hb2
    go_wp2
    go_ret
    exact ⟨ret_bool (gdB_no fun g => HQ.out g.2.1).symm, H2.out.bel⟩
  have HQ := hid (gdQ_iff.1 h6)
  have h200 : qs.length ≤ 200 := HQ.out.1
  by_cases h100 : 100 < ts.length
  · have h100' : (100 : Int) < (ts.length : Int) := by omega
    go_wp2_with (first | (go_at_call 101; refine (Smp.f101 F _).mono ?_; rw [decide_eq_true h1]; rintro e w1 ⟨rfl, rfl⟩) | fail)
    refine (Srs.f50 a qs.length c qs _ rfl HF.out.2.2.2.2.1 H0.out.has.1 HF.out.2.2.2.1 HZ.out.2.1).mono ?_
    rw [h6]
    rintro e w2 ⟨rfl, hb2⟩
    have H2 := hid (H0.out.below hb2)
    clear hb2 b0 b1 b2 b3 b4
    obtain ⟨b0, b1, b2, b3, b4⟩ := five H2.out.box
    go_wp2
    go_ret
    exact ⟨ret_bool (gdB_no fun g => by have := g.2.2.2.1; simp only at this; omega).symm, H2.out.bel⟩
  have h100' : ¬ (100 : Int) < (ts.length : Int) := by omega
  go_wp2_with (first | (go_at_call 101; refine (Smp.f101 F _).mono ?_; rw [decide_eq_true h1]; rintro e w1 ⟨rfl, rfl⟩) | fail)
  refine (Srs.f50 a qs.length c qs _ rfl HF.out.2.2.2.2.1 H0.out.has.1 HF.out.2.2.2.1 HZ.out.2.1).mono ?_
  rw [h6]
  rintro e w2 ⟨rfl, hb2⟩
  have H2 := hid (H0.out.below hb2)
  clear hb2
  clear b0 b1 b2 b3 b4
  obtain ⟨b0, b1, b2, b3, b4⟩ := five H2.out.box
  go_wp2
  go_loopw [50] (fun i wr => ∃ k : Nat, k ≤ qs.length ∧ i = .int .i64 k ∧ Hid (∀ i, i < k → SerAt ⟨F, T, L, qs, a, c, ts, b, d⟩ i) ∧ Hid (HB w ⟨F, T, L, qs, a, c, ts, b, d⟩ wr)) (fun i _ => qs.length - (intOf i).toNat)
  case atStart => exact ⟨0, Nat.zero_le _, rfl, fun i hi => by omega, H2.out⟩
  case round =>
    obtain ⟨k, hk, rfl, HU, HX⟩ := hrel
    clear b0 b1 b2 b3 b4
    obtain ⟨b0, b1, b2, b3, b4⟩ := five HX.out.box
    by_cases hlt : k < qs.length
    rotate_left
    · have HSer : Hid (∀ i, i < qs.length → SerAt ⟨F, T, L, qs, a, c, ts, b, d⟩ i) := fun i hi => HU.out i (by omega)
      have HE : Hid ((∀ i, i < ts.length → StoAt ⟨F, T, L, qs, a, c, ts, b, d⟩ i) → (∀ i, i < ts.length → 0 < i → Ahead (ts.getD (i - 1) t0) (ts.getD i t0)) → gdB ⟨F, T, L, qs, a, c, ts, b, d⟩ = true) := fun g g' => gdB_yes ⟨HH.out, HQ.out, HSer.out, by simp only; omega, g, g'⟩
      clear HU
      go_wp2
      go_loopw [80] (fun i wr => ∃ k : Nat, k ≤ ts.length ∧ i = .int .i64 k ∧ Hid (∀ i, i < k → StoAt ⟨F, T, L, qs, a, c, ts, b, d⟩ i) ∧ Hid (∀ i, i < k → 0 < i → Ahead (ts.getD (i - 1) t0) (ts.getD i t0)) ∧ Hid (HB w ⟨F, T, L, qs, a, c, ts, b, d⟩ wr)) (fun i _ => ts.length - (intOf i).toNat)
      case atStart => exact ⟨0, Nat.zero_le _, rfl, fun i hi => by omega, fun i hi => by omega, HX⟩
      case round =>
        clear HX b0 b1 b2 b3 b4
        obtain ⟨k, hk, rfl, HU, HV, HX⟩ := hrel
        obtain ⟨b0, b1, b2, b3, b4⟩ := five HX.out.box
        by_cases hlt : k < ts.length
        rotate_left
        · have HEE := hid (HE.out (fun i hi => HU.out i (by omega)) (fun i hi => HV.out i (by omega)))
          go_wp2
          go_ret
          exact ⟨ret_bool HEE.out.symm, HX.out.bel⟩
        have HNo : Hid (¬ StoAt ⟨F, T, L, qs, a, c, ts, b, d⟩ k → gdB ⟨F, T, L, qs, a, c, ts, b, d⟩ = false) := fun g => gdB_no fun g' => g (g'.2.2.2.2.1 k hlt)
        have HNo2 : Hid (0 < k → ¬ Ahead (ts.getD (k - 1) t0) (ts.getD k t0) → gdB ⟨F, T, L, qs, a, c, ts, b, d⟩ = false) := fun h0 g => gdB_no fun g' => g (g'.2.2.2.2.2 k hlt h0)
        have HUs : Hid (StoAt ⟨F, T, L, qs, a, c, ts, b, d⟩ k → ∀ i, i < k + 1 → StoAt ⟨F, T, L, qs, a, c, ts, b, d⟩ i) := by
          intro g i hi
          by_cases e : i = k
          · rw [e]; exact g
          · exact HU.out i (by omega)
        have HVs : Hid ((0 < k → Ahead (ts.getD (k - 1) t0) (ts.getD k t0)) → ∀ i, i < k + 1 → 0 < i → Ahead (ts.getD (i - 1) t0) (ts.getD i t0)) := by
          intro g i hi h0
          by_cases e : i = k
          · subst e; exact g h0
          · exact HV.out i (by omega) h0
        obtain ⟨g, off, e0, hbl, hc, t1⟩ := HX.out.has.2.at2 k hlt
        simp only at e0 hc t1
        subst e0
        have N1 := hid (HZ.out.2.2.2 k hlt)
        have G1 := hid (HF.out.2.2.2.2.2.1 k)
        simp only at N1 G1
        obtain ⟨q, hq⟩ : ∃ q, q = ts.getD k t0 := ⟨_, rfl⟩
        have HSt : Hid (StoAt ⟨F, T, L, qs, a, c, ts, some ⟨g, off, none⟩, d⟩ k ↔ InQ qs q.l ∧ F ≤ q.f ∧ q.t < T ∧ q.f ≤ q.t) := by unfold Hid StoAt; rw [hq]
        rw [← hq] at hc t1 N1 G1 HVs HNo2
        have HQq := hid hq
        clear hq
        obtain ⟨d0, d1, d2⟩ := hc
        have HXa := hid (HX.out.below ((Below.refl wr.heap.size wr).alloc (Nat.le_refl _) (boxT q)))
        have HBx := hid (heap_alloc_new wr (boxT q))
        have HTa := hid (t1.below ((Below.refl wr.heap.size wr).alloc (Nat.le_refl _) (boxT q)))
        have lb0 : Hid (w.heap.size < wr.heap.size) := lt_at HX.out.box
        clear t1
        have i1 : (k : Int) < (ts.length : Int) := by omega
        go_wp2_with fail
        refine (Lab.f102 q.a q.l.length q.c q.l _ rfl (Nat.le_trans N1.out (by unfold maxLen; omega)) HTa.out G1.out.1).mono ?_
        rintro e w3 ⟨rfl, hb3⟩
        have HX3 := hid (HXa.out.below hb3)
        have HB3 := hid (kept HBx.out hb3)
        have HT3 := hid (HTa.out.below hb3)
        clear hb3 HXa HBx HTa d0 d1 d2 b0 b1 b2 b3 b4
        generalize wr.heap.size = B at *
        cases h9 : goodL q.l
        · have HNN : Hid (¬ StoAt ⟨F, T, L, qs, a, c, ts, some ⟨g, off, none⟩, d⟩ k) := fun g' => by rw [((HSt.out.1 g').1).good HQ.out] at h9; cases h9
          go_wp2
          go_ret
          exact ⟨ret_bool (HNo.out HNN.out).symm, HX3.out.bel⟩
        obtain ⟨b0, b1, b2, b3, b4⟩ := five HX3.out.box
        obtain ⟨x0, x1, x2⟩ := three HB3.out
        go_wp2_with fail
        refine (f103 a qs.length c qs q.a q.c q.l _ rfl HZ.out.1 HX3.out.has.1 HF.out.2.2.2.1 HZ.out.2.1 HQ.out HT3.out N1.out).mono ?_
        rintro e w4 ⟨rfl, hb4⟩
        have HX4 := hid (HX3.out.below hb4)
        have HB4 := hid (kept HB3.out hb4)
        have HT4 := hid (HT3.out.below hb4)
        clear hb4 HX3 HB3 HT3 b0 b1 b2 b3 b4 x0 x1 x2
        cases h10 : hasQ qs q.l
        · have HNN : Hid (¬ StoAt ⟨F, T, L, qs, a, c, ts, some ⟨g, off, none⟩, d⟩ k) := fun g' => by have := decide_eq_true (HSt.out.1 g').1; rw [show hasQ qs q.l = decide (InQ qs q.l) from rfl, this] at h10; cases h10
          go_wp2
          go_ret
          exact ⟨ret_bool (HNo.out HNN.out).symm, HX4.out.bel⟩
        have HIn : Hid (InQ qs q.l) := by unfold Hid; exact of_decide_eq_true h10
        obtain ⟨b0, b1, b2, b3, b4⟩ := five HX4.out.box
        obtain ⟨x0, x1, x2⟩ := three HB4.out
        by_cases h11 : q.f < F
        · have HNN : Hid (¬ StoAt ⟨F, T, L, qs, a, c, ts, some ⟨g, off, none⟩, d⟩ k) := fun g' => by have := (HSt.out.1 g').2.1; omega
          go_wp2
          go_ret
          exact ⟨ret_bool (HNo.out HNN.out).symm, HX4.out.bel⟩
        by_cases h12 : T ≤ q.t
        · have HNN : Hid (¬ StoAt ⟨F, T, L, qs, a, c, ts, some ⟨g, off, none⟩, d⟩ k) := fun g' => by have := (HSt.out.1 g').2.2.1; omega
          go_wp2
          go_ret
          exact ⟨ret_bool (HNo.out HNN.out).symm, HX4.out.bel⟩
        by_cases h13 : q.t < q.f
        · have HNN : Hid (¬ StoAt ⟨F, T, L, qs, a, c, ts, some ⟨g, off, none⟩, d⟩ k) := fun g' => by have := (HSt.out.1 g').2.2.2; omega
          go_wp2
          go_ret
          exact ⟨ret_bool (HNo.out HNN.out).symm, HX4.out.bel⟩
        have HYY := hid (HSt.out.2 ⟨HIn.out, by omega, by omega, by omega⟩)
        rcases k with _ | j
        · have HVV := hid (HVs.out (fun h => by omega))
          go_wp2
          go_roundw
          case rel => exact ⟨1, by omega, by go_num, HUs.out HYY.out, HVV.out, HX4⟩
          case measure => simp [intOf]; omega
        obtain ⟨g', off', e0, hbl', hc', t1'⟩ := HX4.out.has.2.at2 j (by simp only; omega)
        simp only at e0 hc' t1'
        obtain ⟨rfl, rfl⟩ : g = g' ∧ off = off' := by cases e0; exact ⟨rfl, rfl⟩
        have N3 := hid (HZ.out.2.2.2 j (by simp only; omega))
        have G3 := hid (HF.out.2.2.2.2.2.1 j)
        have T3 : Hid (F ≤ (ts.getD j t0).f ∧ (ts.getD j t0).t < T ∧ (ts.getD j t0).f ≤ (ts.getD j t0).t) := (HU.out j (by omega)).2
        simp only at N3 G3
        rw [show j + 1 - 1 = j from rfl] at HVs HNo2
        generalize ts.getD j t0 = p at *
        obtain ⟨u1, u2, u3⟩ := T3.out
        obtain ⟨⟨v1, v2⟩, v3, v4, -⟩ := id HH.out
        simp only at v1 v2 v3 v4
        obtain ⟨d0, d1, d2⟩ := hc'
        have hw1 : IntKind.i64.wrap (j : Int) = (j : Int) := by rw [IntKind.wrap_i64]; omega
        have hw2 : IntKind.i64.wrap ((j : Int) + 1 - 1) = (j : Int) := by rw [IntKind.wrap_i64]; omega
        have hw3 : IntKind.i64.wrap (p.t + 1) = p.t + 1 := by rw [IntKind.wrap_i64]; omega
        have j1 : (0 : Int) ≤ (j : Int) := by omega
        have j2 : (j : Int) < (ts.length : Int) := by omega
        have lb1 : B < w4.heap.size := lt_at HB4.out
        have lb2 : w.heap.size < w4.heap.size := lt_at HX4.out.box
        have HB0 := hid ((Below.refl w4.heap.size w4).alloc (Nat.le_refl _) (boxT p))
        have HX5 := hid (HX4.out.below HB0.out)
        have HP5 := hid (heap_alloc_new w4 (boxT p))
        have HB5 := hid (kept HB4.out HB0.out)
        have HTp := hid (t1'.below HB0.out)
        have HTq := hid (HT4.out.below HB0.out)
        clear e0 t1' hbl' HX4 HB4 HT4 u1 u2 u3 v1 v2 v3 v4
        go_wp2_with fail
        refine (Lab.f88 p.a q.a p.l.length q.l.length p.c q.c p.l q.l _ rfl rfl N3.out N1.out HTp.out HTq.out G3.out.1).mono ?_
        rintro e w5 ⟨rfl, nq, hw5⟩
        have HX6 : Hid (HB w ⟨F, T, L, qs, a, c, ts, some ⟨g, off, none⟩, d⟩ w5) := by unfold Hid; rw [hw5]; exact HX5.out.below (Lab.below_drewN (Below.refl _ _) nq)
        have HP6 : Hid (w5.heap[w4.heap.size]? = some (boxT p)) := by unfold Hid; rw [hw5]; exact HP5.out
        have HB6 : Hid (w5.heap[B]? = some (boxT q)) := by unfold Hid; rw [hw5]; exact HB5.out
        clear hw5 HX5 HP5 HB5 HTp HTq d0 d1 d2 b0 b1 b2 b3 b4 x0 x1 x2 HB0
        clear lb1 lb2
        generalize w4.heap.size = B2 at *
        obtain ⟨y0, y1, y2⟩ := three HP6.out
        obtain ⟨x0, x1, x2⟩ := three HB6.out
        by_cases c1 : 0 < cmpList p.l q.l
        · have HNN := hid (HNo2.out (by omega) (fun g' => by rcases g' with g' | g' <;> omega))
          go_wp2
          go_ret
          exact ⟨ret_bool HNN.out.symm, HX6.out.bel⟩
        by_cases c2 : cmpList p.l q.l = 0
        · by_cases c3 : q.f ≤ p.t + 1
          · have HNN := hid (HNo2.out (by omega) (fun g' => by rcases g' with g' | g' <;> omega))
            have c2' : (cmpList p.l q.l == 0) = true := by rw [c2]; rfl
            clear c2
            go_wp2
            go_ret
            exact ⟨ret_bool HNN.out.symm, HX6.out.bel⟩
          · have HVV := hid (HVs.out (fun _ => .inr ⟨c2, by omega⟩))
            have c2' : (cmpList p.l q.l == 0) = true := by rw [c2]; rfl
            clear c2
            go_wp2
            go_roundw
            case rel => exact ⟨j + 1 + 1, by omega, by go_num, HUs.out HYY.out, HVV.out, HX6⟩
            case measure => simp [intOf]; omega
        · have HVV := hid (HVs.out (fun _ => .inl (by omega)))
          have c2' : (cmpList p.l q.l == 0) = false := by rw [beq_eq_false_iff_ne]; exact c2
          go_wp2
          go_roundw
          case rel => exact ⟨j + 1 + 1, by omega, by go_num, HUs.out HYY.out, HVV.out, HX6⟩
          case measure => simp [intOf]; omega
    have HNo : Hid (¬ SerAt ⟨F, T, L, qs, a, c, ts, b, d⟩ k → gdB ⟨F, T, L, qs, a, c, ts, b, d⟩ = false) := fun g => gdB_no fun g' => g (g'.2.2.1 k hlt)
    have HUs : Hid (SerAt ⟨F, T, L, qs, a, c, ts, b, d⟩ k → ∀ i, i < k + 1 → SerAt ⟨F, T, L, qs, a, c, ts, b, d⟩ i) := by
      intro g i hi
      by_cases e : i = k
      · rw [e]; exact g
      · exact HU.out i (by omega)
    have hne := (HQ.out.2 k hlt).1.2.2
    obtain ⟨g, off, e0, hbl, c0, c1, t1, t2⟩ := HX.out.has.1.at2 k hlt
    simp only [pl] at e0 c0 c1 t1 t2 hne
    subst e0
    have HM := hid (HZ.out.2.1 k hlt).2
    simp only at HM
    obtain ⟨q, hq⟩ : ∃ q, q = qs.getD k q0 := ⟨_, rfl⟩
    have HSt : Hid (SerAt ⟨F, T, L, qs, some ⟨g, off, none⟩, c, ts, b, d⟩ k ↔ F ≤ firstT q.s ∧ lastT q.s < T) := by unfold Hid SerAt; rw [hq]
    rw [← hq] at c0 c1 t1 t2 hne HM
    clear hq
    obtain ⟨bs, os, e1, hbs, cf, cs⟩ := ends_at t2 hne
    obtain ⟨m, hm⟩ : ∃ m, q.s.length = m + 1 := ⟨q.s.length - 1, by have : q.s.length ≠ 0 := fun e => hne (List.length_eq_zero_iff.1 e); omega⟩
    rw [hm] at c1 cs HM
    rw [e1] at c1
    rw [show m + 1 - 1 = m from rfl] at cs
    have lb0 : w.heap.size < wr.heap.size := lt_at HX.out.box
    have hm1 : m + 1 ≤ 1048576 := HM.out
    have hw1 : IntKind.i64.wrap (m : Int) = (m : Int) := by rw [IntKind.wrap_i64]; omega
    have hw2 : IntKind.i64.wrap ((m : Int) + 1 - 1) = (m : Int) := by rw [IntKind.wrap_i64]; omega
    have hw3 : IntKind.i64.wrap (((m + 1 : Nat) : Int) - 1) = (m : Int) := by rw [IntKind.wrap_i64]; omega
    have j1 : (0 : Int) ≤ (m : Int) := by omega
    have j2 : (m : Int) < (m : Int) + 1 := by omega
    have j3 : (m : Int) < ((m + 1 : Nat) : Int) := by omega
    have HXa := hid (HX.out.below ((Below.refl wr.heap.size wr).alloc (Nat.le_refl _) (.cells #[.slice q.a q.l.length q.c, .slice (some ⟨bs, os, none⟩) (m + 1) q.d] 80)))
    clear t1 t2 hm hne HM e1
    generalize firstT q.s = f1 at *
    generalize lastT q.s = f2 at *
    generalize q.a = qa at *
    generalize q.c = qc at *
    generalize q.d = qd at *
    generalize q.l.length = ll at *
    by_cases h7 : F ≤ f1
    rotate_left
    · have h7' : f1 < F := by omega
      have HNN := hid (fun g' => h7 (HSt.out.1 g').1)
      go_wp2
      go_quiet (fail)
      have HX3 := hid (HXa.out.below (Lab.below_drewN (Below.refl _ _) nq)).bel
      clear HXa
      go_wp2
      go_ret
      exact ⟨ret_bool (HNo.out HNN.out).symm, HX3.out⟩
    have h7' : ¬ f1 < F := by omega
    by_cases h8 : f2 < T
    · have h8' : ¬ T ≤ f2 := by omega
      have HYY := hid (HSt.out.2 ⟨h7, h8⟩)
      go_wp2
      go_quiet (fail)
      have HX3 := hid (HXa.out.below (Lab.below_drewN (Below.refl _ _) nq))
      clear HXa
      go_wp2
      go_roundw
      case rel => exact ⟨k + 1, by omega, by go_num, HUs.out HYY.out, HX3⟩
      case measure => simp [intOf]; omega
    · have h8' : T ≤ f2 := by omega
      have HNN := hid (fun g' => h8 (HSt.out.1 g').2)
      go_wp2
      go_quiet (fail)
      have HX3 := hid (HXa.out.below (Lab.below_drewN (Below.refl _ _) nq)).bel
      clear HXa
      go_wp2
      go_ret
      exact ⟨ret_bool (HNo.out HNN.out).symm, HX3.out⟩
end Go.Proofs.YtjhdmghpklagkaaGreat.Blk
namespace Go.Proofs.YtjhdmghpklagkaaGreat.Srs
open Go.RowKit
open Go.Proofs.YtjhdmghpklagkaaGreat.Lab (Lb HasL)
open Go.Proofs.YtjhdmghpklagkaaGreat.Smp (Sm HasS)

theorem getD_out {qs : List Q} {i : Nat} (h : ¬ i < qs.length) : qs.getD i q0 = q0 := by
  rw [List.getD_eq_getElem?_getD, List.getElem?_eq_none (by omega)]; rfl
theorem FitQ.same {n : Nat} {qs d : List Q} (h : FitQ qs) (h1 : d.length = n) (hs : Same n qs d) : FitQ d := by
  intro i
  by_cases hi : i < n
  · have e := hs i hi
    simp only [pl, Prod.mk.injEq] at e
    have := h i
    unfold Fq at this ⊢
    rw [e.1, e.2]; exact this
  · rw [getD_out (by omega)]; exact fit_q0
theorem SmlQ.same {n : Nat} {qs d : List Q} (h : SmlQ qs) (h0 : qs.length = n) (h1 : d.length = n) (hs : Same n qs d) : SmlQ d := by
  intro i hi
  have e := hs i (by omega)
  simp only [pl, Prod.mk.injEq] at e
  have := h i (by omega)
  rw [e.1, e.2]; exact this
end Go.Proofs.YtjhdmghpklagkaaGreat.Srs
