/- Whether a head is good: the model's GoodHead. -/
import Derived.Test.YtnhikdlhjdjmdaaXk
namespace Go.Proofs.Ytnhikdlhjdjmdaa.Srs
open Go.RowKit
open Go.Proofs.Ytnhikdlhjdjmdaa.Lab (Lb HasL OfV goodL GoodP cmpList)
open Go.Proofs.Ytnhikdlhjdjmdaa.Smp (Sm HasS goodS ret_bool TimeP)
open Go.Proofs.Ytnhikdlhjdjmdaa.Hdn (OkN)

set_option maxHeartbeats 4000000 in
theorem f27 (h : Hd) (w : World) (hr : HasQ w h.a h.qs) (hf : FitH h) (hz : SmlQ h.qs) :
    Calls Try.prog 27 #[agH h] w fun e w' => e = .returned (.bool (gdH h)) ∧ Below w.heap.size w w' := by
  obtain ⟨W, L, N, qs, a, c⟩ := h
  have H0 := hid (HB.new hr)
  have HF := hid hf
  have HZ := hid hz
  clear hr hf hz
  simp only [clH] at H0
  obtain ⟨b0, b1, b2, b3⟩ := four H0.out.box
  simp only [agH, clH]
  go_enter Try.func27, Try.ntmps27
  by_cases h1 : TimeP W
  rotate_left
  · go_wp2_with (first | (go_at_call 58; refine (Smp.f58 W _).mono ?_; rw [decide_eq_false h1]; rintro e w1 ⟨rfl, rfl⟩))
    go_ret
    exact ⟨ret_bool (gdH_no fun g => h1 g.1.1).symm, H0.out.bel⟩
  by_cases h2 : L < 0
  · go_wp2_with (first | (go_at_call 58; refine (Smp.f58 W _).mono ?_; rw [decide_eq_true h1]; rintro e w1 ⟨rfl, rfl⟩))
    go_ret
    exact ⟨ret_bool (gdH_no fun g => by have := g.1.2.1; simp only at this; omega).symm, H0.out.bel⟩
  by_cases h3 : 200 < L
  · go_wp2_with (first | (go_at_call 58; refine (Smp.f58 W _).mono ?_; rw [decide_eq_true h1]; rintro e w1 ⟨rfl, rfl⟩))
    go_ret
    exact ⟨ret_bool (gdH_no fun g => by have := g.1.2.2; simp only at this; omega).symm, H0.out.bel⟩
  have HOk : Hid (OkN W L) := ⟨h1, by omega, by omega⟩
  cases h6 : gdQ qs
  · have HQ : Hid (¬ GoodQ qs) := fun g => by rw [gdQ_yes g] at h6; cases h6
    go_wp2_with (first | (go_at_call 58; refine (Smp.f58 W _).mono ?_; rw [decide_eq_true h1]; rintro e w1 ⟨rfl, rfl⟩) | fail)
    refine (f17 a qs.length c qs _ rfl HF.out.2.2.2.2 H0.out.has HF.out.2.2.2.1 HZ.out).mono ?_
    rw [h6]
    rintro e w2 ⟨rfl, hb2⟩
    have H2 := hid (H0.out.below hb2)
    clear hb2
    go_wp2
    go_ret
    exact ⟨ret_bool (gdH_no fun g => HQ.out g.2.2.2.1).symm, H2.out.bel⟩
  have HQ := hid (gdQ_iff.1 h6)
  have h200 : qs.length ≤ 200 := HQ.out.1
  by_cases g27 : L < (qs.length : Int)
  · go_wp2_with (first | (go_at_call 58; refine (Smp.f58 W _).mono ?_; rw [decide_eq_true h1]; rintro e w1 ⟨rfl, rfl⟩) | fail)
    refine (f17 a qs.length c qs _ rfl HF.out.2.2.2.2 H0.out.has HF.out.2.2.2.1 HZ.out).mono ?_
    rw [h6]
    rintro e w2 ⟨rfl, hb2⟩
    have H2 := hid (H0.out.below hb2)
    clear hb2
    clear b0 b1 b2 b3
    obtain ⟨b0, b1, b2, b3⟩ := four H2.out.box
    go_wp2
    go_ret
    exact ⟨ret_bool (gdH_no fun g => by have := g.2.2.1; simp only at this; omega).symm, H2.out.bel⟩
  by_cases g39 : N < -1
  · go_wp2_with (first | (go_at_call 58; refine (Smp.f58 W _).mono ?_; rw [decide_eq_true h1]; rintro e w1 ⟨rfl, rfl⟩) | fail)
    refine (f17 a qs.length c qs _ rfl HF.out.2.2.2.2 H0.out.has HF.out.2.2.2.1 HZ.out).mono ?_
    rw [h6]
    rintro e w2 ⟨rfl, hb2⟩
    have H2 := hid (H0.out.below hb2)
    clear hb2
    clear b0 b1 b2 b3
    obtain ⟨b0, b1, b2, b3⟩ := four H2.out.box
    go_wp2
    go_ret
    exact ⟨ret_bool (gdH_no fun g => by have := g.2.1; simp only [TimeP] at this; omega).symm, H2.out.bel⟩
  by_cases g51 : 1000000000000 < N
  · go_wp2_with (first | (go_at_call 58; refine (Smp.f58 W _).mono ?_; rw [decide_eq_true h1]; rintro e w1 ⟨rfl, rfl⟩) | fail)
    refine (f17 a qs.length c qs _ rfl HF.out.2.2.2.2 H0.out.has HF.out.2.2.2.1 HZ.out).mono ?_
    rw [h6]
    rintro e w2 ⟨rfl, hb2⟩
    have H2 := hid (H0.out.below hb2)
    clear hb2
    clear b0 b1 b2 b3
    obtain ⟨b0, b1, b2, b3⟩ := four H2.out.box
    go_wp2
    go_ret
    exact ⟨ret_bool (gdH_no fun g => by have := g.2.1; simp only [TimeP] at this; omega).symm, H2.out.bel⟩
  have HE : Hid ((∀ i, i < qs.length → lastT (pl (qs.getD i q0)).2 ≤ N) → gdH ⟨W, L, N, qs, a, c⟩ = true) := fun g => gdH_yes ⟨HOk.out, by simp only [TimeP]; omega, by simp only; omega, HQ.out, g⟩
  go_wp2_with (first | (go_at_call 58; refine (Smp.f58 W _).mono ?_; rw [decide_eq_true h1]; rintro e w1 ⟨rfl, rfl⟩) | fail)
  refine (f17 a qs.length c qs _ rfl HF.out.2.2.2.2 H0.out.has HF.out.2.2.2.1 HZ.out).mono ?_
  rw [h6]
  rintro e w2 ⟨rfl, hb2⟩
  have H2 := hid (H0.out.below hb2)
  clear hb2
  clear b0 b1 b2 b3
  obtain ⟨b0, b1, b2, b3⟩ := four H2.out.box
  go_wp2
  go_loopw [46] (fun i wr => ∃ k : Nat, k ≤ qs.length ∧ i = .int .i64 k ∧ Hid (∀ i, i < k → lastT (pl (qs.getD i q0)).2 ≤ N) ∧ Hid (HB w ⟨W, L, N, qs, a, c⟩ wr)) (fun i _ => qs.length - (intOf i).toNat)
  case atStart => exact ⟨0, Nat.zero_le _, rfl, fun i hi => by omega, H2.out⟩
  case round =>
    obtain ⟨k, hk, rfl, HU, HX⟩ := hrel
    by_cases hlt : k < qs.length
    rotate_left
    · have HX2 := hid HX.out.bel
      go_wp2
      go_ret
      exact ⟨ret_bool (HE.out fun i hi => HU.out i (by omega)).symm, HX2.out⟩
    have HNo : Hid (¬ lastT (pl (qs.getD k q0)).2 ≤ N → gdH ⟨W, L, N, qs, a, c⟩ = false) := fun g => gdH_no fun g' => g (g'.2.2.2.2 k hlt)
    have HUs : Hid (lastT (pl (qs.getD k q0)).2 ≤ N → ∀ i, i < k + 1 → lastT (pl (qs.getD i q0)).2 ≤ N) := by
      intro g i hi
      by_cases e : i = k
      · rw [e]; exact g
      · exact HU.out i (by omega)
    have hne := (HQ.out.2 k hlt).1.2.2
    obtain ⟨b, off, e0, hbl, c0, c1, t1, t2⟩ := HX.out.has.at2 k hlt
    obtain ⟨bs, os, e1, hbs, cs⟩ := last_at t2 hne
    obtain ⟨m, hm⟩ : ∃ m, (qs.getD k q0).s.length = m + 1 := ⟨(qs.getD k q0).s.length - 1, by have : (qs.getD k q0).s.length ≠ 0 := fun e => hne (List.length_eq_zero_iff.1 e); omega⟩
    have HM := hid (HZ.out k hlt).2
    rw [hm] at c1 cs HM
    rw [e1] at c1
    rw [show m + 1 - 1 = m from rfl] at cs
    obtain ⟨z0, z1, z2, z3⟩ := four HX.out.box
    have lb0 : w.heap.size < wr.heap.size := lt_at HX.out.box
    have hm1 : m + 1 ≤ 1048576 := HM.out
    have hw1 : IntKind.i64.wrap (m : Int) = (m : Int) := by rw [IntKind.wrap_i64]; omega
    have hw2 : IntKind.i64.wrap ((m : Int) + 1 - 1) = (m : Int) := by rw [IntKind.wrap_i64]; omega
    have HXa := hid (HX.out.below ((Below.refl wr.heap.size wr).alloc (Nat.le_refl _) (.cells #[.slice (qs.getD k q0).a (qs.getD k q0).l.length (qs.getD k q0).c, .slice (some ⟨bs, os, none⟩) (m + 1) (qs.getD k q0).d] 79)))
    have HLT : Hid (lastT (pl (qs.getD k q0)).2 = lastT (qs.getD k q0).s) := rfl
    rw [HLT.out] at HNo HUs
    clear HLT
    clear t1 t2 hm hne HM e1
    simp only at e0
    subst e0
    generalize lastT (qs.getD k q0).s = T at *
    generalize (qs.getD k q0).a = qa at *
    generalize (qs.getD k q0).c = qc at *
    generalize (qs.getD k q0).d = qd at *
    generalize (qs.getD k q0).l.length = ll at *
    by_cases h7 : T ≤ N
    · have h7' : ¬ N < T := by omega
      go_wp2
      go_quiet (fail)
      have HX3 := hid (HXa.out.below (Lab.below_drewN (Below.refl _ _) nq))
      clear HXa
      go_wp2
      go_roundw
      case rel => exact ⟨k + 1, by omega, by go_num, HUs.out h7, HX3.out⟩
      case measure => simp [intOf]; omega
    · have h7' : N < T := by omega
      go_wp2
      go_quiet (fail)
      have HX3 := hid (HXa.out.below (Lab.below_drewN (Below.refl _ _) nq)).bel
      clear HXa
      go_wp2
      go_ret
      exact ⟨ret_bool (HNo.out h7).symm, HX3.out⟩
end Go.Proofs.Ytnhikdlhjdjmdaa.Srs
