/- The program's GoodBlock. -/
import Derived.Test.YtkbaaidnkkcpoaaGreatRGD
namespace Go.Proofs.YtkbaaidnkkcpoaaGreat.Blk
open Go.RowKit
open Go.Proofs.YtkbaaidnkkcpoaaGreat.Lab (Lb HasL cmpList orC goodL two0 two1)
open Go.Proofs.YtkbaaidnkkcpoaaGreat.Smp (In64 ret_bool ret_int TimeP HasS Sm)
open Go.Proofs.YtkbaaidnkkcpoaaGreat.Srs (hid lt_at kept Q HasQ FitQ SmlQ GoodQ gdQ gdQ_yes gdQ_no gdQ_iff agQ pl q0 two)
open Go.Proofs.YtkbaaidnkkcpoaaGreat.Stn (T HasT FitT SmlT agT t0 three Cells)

theorem ends_at {x : World} {q : Q} (hs : HasS x q.b q.s) (hne : q.s ≠ []) : ∃ b off, q.b = some ⟨b, off, none⟩ ∧ b < x.heap.size ∧ x.cell? ⟨b, off, none⟩ = some (.int .i64 (firstT q.s)) ∧ x.cell? ⟨b, off + (q.s.length - 1) * 2, none⟩ = some (.int .i64 (lastT q.s)) := by
  have hl : 0 < q.s.length := List.length_pos_iff.2 hne
  rcases hs with h | ⟨b, off, h1, h2, h3⟩
  · exact absurd h hne
  · refine ⟨b, off, h1, h2, ?_, (h3 (q.s.length - 1) (by omega)).1⟩
    have := (h3 0 hl).1
    rw [Nat.zero_mul, Nat.add_zero] at this
    exact this

set_option maxRecDepth 100000 in
set_option maxHeartbeats 8000000 in
theorem f44 (h : Bk) (w : World) (hr : HasB w h) (hf : FitB h) (hz : SmlB h) :
    Calls Tryz.prog 44 #[agB h] w fun e w' => e = .returned (.bool (gdB h)) ∧ Below w.heap.size w w' := by
  obtain ⟨F, T, L, qs, a, c, ts, b, d⟩ := h
  have H0 := hid (HB.new hr)
  have HF := hid hf
  have HZ := hid hz
  clear hr hf hz
  simp only [clB] at H0
  obtain ⟨b0, b1, b2, b3, b4⟩ := five H0.out.box
  have hmax : ts.length ≤ 1048576 := HZ.out.2.2.1
  simp only [agB, clB]
  go_enter Tryz.func44, Tryz.ntmps44
  by_cases h1 : TimeP F
  rotate_left
  · go_wp2_with (go_at_call 79; refine (Smp.f79 F _).mono ?_; rw [decide_eq_false h1]; rintro e w1 ⟨rfl, rfl⟩)
    go_ret
    exact ⟨ret_bool (gdB_no fun g => by have := g.1.1; simp only at this; exact h1 this).symm, H0.out.bel⟩
  by_cases h2 : T ≤ F
  · go_wp2_with (go_at_call 79; refine (Smp.f79 F _).mono ?_; rw [decide_eq_true h1]; rintro e w1 ⟨rfl, rfl⟩)
    go_ret
    exact ⟨ret_bool (gdB_no fun g => by have := g.1.2.1; simp only at this; omega).symm, H0.out.bel⟩
  by_cases h3 : 1000000000001 < T
  · go_wp2_with (go_at_call 79; refine (Smp.f79 F _).mono ?_; rw [decide_eq_true h1]; rintro e w1 ⟨rfl, rfl⟩)
    go_ret
    exact ⟨ret_bool (gdB_no fun g => by have := g.1.2.2.1; simp only at this; omega).symm, H0.out.bel⟩
  by_cases h4 : L < 1
  · go_wp2_with (go_at_call 79; refine (Smp.f79 F _).mono ?_; rw [decide_eq_true h1]; rintro e w1 ⟨rfl, rfl⟩)
    go_ret
    exact ⟨ret_bool (gdB_no fun g => by have := g.1.2.2.2.1; simp only at this; omega).symm, H0.out.bel⟩
  by_cases h5 : 9 < L
  · go_wp2_with (go_at_call 79; refine (Smp.f79 F _).mono ?_; rw [decide_eq_true h1]; rintro e w1 ⟨rfl, rfl⟩)
    go_ret
    exact ⟨ret_bool (gdB_no fun g => by have := g.1.2.2.2.2; simp only at this; omega).symm, H0.out.bel⟩
  have HH : Hid (Head ⟨F, T, L, qs, a, c, ts, b, d⟩) := ⟨h1, by simp only; omega, by simp only; omega, by simp only; omega, by simp only; omega⟩
  cases h6 : gdQ qs
  · have HQ : Hid (¬ GoodQ qs) := fun g => by rw [gdQ_yes g] at h6; cases h6
    go_wp2_with (first | (go_at_call 79; refine (Smp.f79 F _).mono ?_; rw [decide_eq_true h1]; rintro e w1 ⟨rfl, rfl⟩) | fail)
    refine (Srs.f80 a qs.length c qs _ rfl HF.out.2.2.2.2.1 H0.out.has.1 HF.out.2.2.2.1 HZ.out.2.1).mono ?_
    rw [h6]
    rintro e w2 ⟨rfl, hb2⟩
    have H2 := hid (H0.out.below hb2)
    clear hb2
    go_wp2
    go_ret
    exact ⟨ret_bool (gdB_no fun g => HQ.out g.2.1).symm, H2.out.bel⟩
  have HQ := hid (gdQ_iff.1 h6)
  have h200 : qs.length ≤ 200 := HQ.out.1
  go_wp2_with (first | (go_at_call 79; refine (Smp.f79 F _).mono ?_; rw [decide_eq_true h1]; rintro e w1 ⟨rfl, rfl⟩) | fail)
  refine (Srs.f80 a qs.length c qs _ rfl HF.out.2.2.2.2.1 H0.out.has.1 HF.out.2.2.2.1 HZ.out.2.1).mono ?_
  rw [h6]
  rintro e w2 ⟨rfl, hb2⟩
  have H2 := hid (H0.out.below hb2)
  clear hb2
  clear b0 b1 b2 b3 b4
  obtain ⟨b0, b1, b2, b3, b4⟩ := five H2.out.box
  go_wp2
  go_loopw [40] (fun i wr => ∃ k : Nat, k ≤ qs.length ∧ i = .int .i64 k ∧ Hid (∀ i, i < k → SerAt ⟨F, T, L, qs, a, c, ts, b, d⟩ i) ∧ Hid (HB w ⟨F, T, L, qs, a, c, ts, b, d⟩ wr)) (fun i _ => qs.length - (intOf i).toNat)
  case atStart => exact ⟨0, Nat.zero_le _, rfl, fun i hi => by omega, H2.out⟩
  case round =>
    obtain ⟨k, hk, rfl, HU, HX⟩ := hrel
    clear b0 b1 b2 b3 b4
    obtain ⟨b0, b1, b2, b3, b4⟩ := five HX.out.box
    by_cases hlt : k < qs.length
    rotate_left
    · have HSer : Hid (∀ i, i < qs.length → SerAt ⟨F, T, L, qs, a, c, ts, b, d⟩ i) := fun i hi => HU.out i (by omega)
      go_wp2_with fail
      refine (f81 ⟨F, T, L, qs, a, c, ts, b, d⟩ _ HX.out.has HF.out HZ.out HH.out HQ.out HSer.out).mono ?_
      rintro e w3 ⟨rfl, hb3⟩
      have HX2 := hid (HX.out.below hb3).bel
      clear hb3
      go_wp2
      go_ret
      exact ⟨rfl, HX2.out⟩
    have HNo : Hid (¬ SerAt ⟨F, T, L, qs, a, c, ts, b, d⟩ k → gdB ⟨F, T, L, qs, a, c, ts, b, d⟩ = false) := fun g => gdB_no fun g' => g (g'.2.2.1 k hlt)
    have HUs : Hid (SerAt ⟨F, T, L, qs, a, c, ts, b, d⟩ k → ∀ i, i < k + 1 → SerAt ⟨F, T, L, qs, a, c, ts, b, d⟩ i) := by
      intro g i hi
      by_cases e : i = k
      · rw [e]; exact g
      · exact HU.out i (by omega)
    have hne := (HQ.out.2 k hlt).1.2.2
    obtain ⟨g, off, e0, hbl, c0, c1, t1, t2⟩ := HX.out.has.1.at2 k hlt
    simp only [pl] at e0 c0 c1 t1 t2 hne
    subst e0
    have HM := hid (HZ.out.2.1 k hlt).2
    simp only at HM
    obtain ⟨q, hq⟩ : ∃ q, q = qs.getD k q0 := ⟨_, rfl⟩
    have HSt : Hid (SerAt ⟨F, T, L, qs, some ⟨g, off, none⟩, c, ts, b, d⟩ k ↔ F ≤ firstT q.s ∧ lastT q.s < T) := by unfold Hid SerAt; rw [hq]
    rw [← hq] at c0 c1 t1 t2 hne HM
    clear hq
    obtain ⟨bs, os, e1, hbs, cf, cs⟩ := ends_at t2 hne
    obtain ⟨m, hm⟩ : ∃ m, q.s.length = m + 1 := ⟨q.s.length - 1, by have : q.s.length ≠ 0 := fun e => hne (List.length_eq_zero_iff.1 e); omega⟩
    rw [hm] at c1 cs HM
    rw [e1] at c1
    rw [show m + 1 - 1 = m from rfl] at cs
    have lb0 : w.heap.size < wr.heap.size := lt_at HX.out.box
    have hm1 : m + 1 ≤ 1048576 := HM.out
    have hw1 : IntKind.i64.wrap (m : Int) = (m : Int) := by rw [IntKind.wrap_i64]; omega
    have hw2 : IntKind.i64.wrap ((m : Int) + 1 - 1) = (m : Int) := by rw [IntKind.wrap_i64]; omega
    have hw3 : IntKind.i64.wrap (((m + 1 : Nat) : Int) - 1) = (m : Int) := by rw [IntKind.wrap_i64]; omega
    have j1 : (0 : Int) ≤ (m : Int) := by omega
    have j2 : (m : Int) < (m : Int) + 1 := by omega
    have j3 : (m : Int) < ((m + 1 : Nat) : Int) := by omega
    have HXa := hid (HX.out.below ((Below.refl wr.heap.size wr).alloc (Nat.le_refl _) (.cells #[.slice q.a q.l.length q.c, .slice (some ⟨bs, os, none⟩) (m + 1) q.d] 81)))
    clear t1 t2 hm hne HM e1
    generalize firstT q.s = f1 at *
    generalize lastT q.s = f2 at *
    generalize q.a = qa at *
    generalize q.c = qc at *
    generalize q.d = qd at *
    generalize q.l.length = ll at *
    by_cases h7 : F ≤ f1
    rotate_left
    · have h7' : f1 < F := by omega
      have HNN := hid (fun g' => h7 (HSt.out.1 g').1)
      go_wp2
      go_quiet (fail)
      have HX3 := hid (HXa.out.below (Lab.below_drewN (Below.refl _ _) nq)).bel
      clear HXa
      go_wp2
      go_ret
      exact ⟨ret_bool (HNo.out HNN.out).symm, HX3.out⟩
    have h7' : ¬ f1 < F := by omega
    by_cases h8 : f2 < T
    · have h8' : ¬ T ≤ f2 := by omega
      have HYY := hid (HSt.out.2 ⟨h7, h8⟩)
      go_wp2
      go_quiet (fail)
      have HX3 := hid (HXa.out.below (Lab.below_drewN (Below.refl _ _) nq))
      clear HXa
      go_wp2
      go_roundw
      case rel => exact ⟨k + 1, by omega, by go_num, HUs.out HYY.out, HX3⟩
      case measure => simp [intOf]; omega
    · have h8' : T ≤ f2 := by omega
      have HNN := hid (fun g' => h8 (HSt.out.1 g').2)
      go_wp2
      go_quiet (fail)
      have HX3 := hid (HXa.out.below (Lab.below_drewN (Below.refl _ _) nq)).bel
      clear HXa
      go_wp2
      go_ret
      exact ⟨ret_bool (HNo.out HNN.out).symm, HX3.out⟩
end Go.Proofs.YtkbaaidnkkcpoaaGreat.Blk
