/- Whether a head is good: both GoodHeads. -/
import Derived.Test.YtnhikdlhjdjmdaaXj
import Derived.Test.YtnhikdlhjdjmdaaXf
import Derived.Test.YtnhikdlhjdjmdaaXg
import Derived.Test.YtnhikdlhjdjmdaaXn
namespace Go.Proofs.Ytnhikdlhjdjmdaa.Srs
open Go.RowKit
open Go.Proofs.Ytnhikdlhjdjmdaa.Lab (Lb HasL OfV goodL GoodP cmpList)
open Go.Proofs.Ytnhikdlhjdjmdaa.Smp (Sm HasS goodS ret_bool TimeP)
open Go.Proofs.Ytnhikdlhjdjmdaa.Hdn (OkN)

/-- The Time of the last sample. -/
def lastT (s : List Sm) : Int := (s.getD (s.length - 1) Smp.e0).1
def GoodH (h : Hd) : Prop := OkN h.W h.L ∧ (h.N = -1 ∨ TimeP h.N) ∧ (h.qs.length : Int) ≤ h.L ∧ GoodQ h.qs ∧ ∀ i, i < h.qs.length → lastT (pl (h.qs.getD i q0)).2 ≤ h.N
instance (h : Hd) : Decidable (GoodH h) := by unfold GoodH TimeP; infer_instance
def gdH (h : Hd) : Bool := decide (GoodH h)
theorem gdH_no {h : Hd} (g : ¬ GoodH h) : gdH h = false := decide_eq_false g
theorem gdH_yes {h : Hd} (g : GoodH h) : gdH h = true := decide_eq_true g
/-- A head in its box. -/
structure HB (w : World) (h : Hd) (x : World) : Prop where
  box : x.heap[w.heap.size]? = some (.cells (clH h) 42)
  has : HasQ x h.a h.qs
  bel : Below w.heap.size w x
theorem HB.below {w : World} {h : Hd} {x y : World} (g : HB w h x) (hb : Below x.heap.size x y) : HB w h y := ⟨kept g.box hb, g.has.below hb, g.bel.trans (hb.mono g.bel.size)⟩
theorem HB.new {w : World} {h : Hd} (g : HasQ w h.a h.qs) : HB w h (w.alloc (.cells (clH h) 42)) := by
  have hb := (Below.refl w.heap.size w).alloc (Nat.le_refl _) (.cells (clH h) 42)
  exact ⟨heap_alloc_new w _, g.below hb, hb⟩
/-- The last sample of a series in its box, the head's Newest. -/
theorem last_at {x : World} {q : Q} (hs : HasS x q.b q.s) (hne : q.s ≠ []) : ∃ b off, q.b = some ⟨b, off, none⟩ ∧ b < x.heap.size ∧ x.cell? ⟨b, off + (q.s.length - 1) * 2, none⟩ = some (.int .i64 (lastT q.s)) := by
  have hl : 0 < q.s.length := by cases h : q.s with | nil => exact absurd h hne | cons _ _ => simp
  rcases hs with h | ⟨b, off, h1, h2, h3⟩
  · exact absurd h hne
  · exact ⟨b, off, h1, h2, (h3 (q.s.length - 1) (by omega)).1⟩
set_option maxHeartbeats 4000000 in
theorem f29 (h : Hd) (w : World) (hr : HasQ w h.a h.qs) (hf : FitH h) (hz : SmlQ h.qs) :
    Calls Try.prog 29 #[agH h] w fun e w' => e = .returned (.bool (gdH h)) ∧ Below w.heap.size w w' := by
  obtain ⟨W, L, N, qs, a, c⟩ := h
  have H0 := hid (HB.new hr)
  have HF := hid hf
  have HZ := hid hz
  clear hr hf hz
  simp only [clH] at H0
  obtain ⟨b0, b1, b2, b3⟩ := four H0.out.box
  simp only [agH, clH]
  go_enter Try.func29, Try.ntmps29
  by_cases h1 : OkN W L
  rotate_left
  · go_wp2_with (go_at_call 59; refine (Hdn.f59 W L _).mono ?_; rw [decide_eq_false h1]; rintro e w1 ⟨rfl, rfl⟩)
    go_ret
    exact ⟨ret_bool (gdH_no fun g => h1 g.1).symm, H0.out.bel⟩
  by_cases hN : N = -1
  · have hN' : (N != -1) = false := by simp [hN]
    have HN1 := hid hN
    clear hN
    by_cases h5 : (qs.length : Int) ≤ L
    rotate_left
    · have h5' : L < (qs.length : Int) := by omega
      go_wp2_with (first | (go_at_call 59; refine (Hdn.f59 W L _).mono ?_; rw [decide_eq_true h1]; rintro e w1 ⟨rfl, rfl⟩))
      go_ret
      exact ⟨ret_bool (gdH_no fun g => by have := g.2.2.1; simp only at this; omega).symm, H0.out.bel⟩
    have h5' : ¬ L < (qs.length : Int) := by omega
    cases h6 : gdQ qs
    · have HQ : Hid (¬ GoodQ qs) := fun g => by rw [gdQ_yes g] at h6; cases h6
      go_wp2_with (first | (go_at_call 59; refine (Hdn.f59 W L _).mono ?_; rw [decide_eq_true h1]; rintro e w1 ⟨rfl, rfl⟩) | fail)
      refine (f19 a qs.length c qs _ rfl HF.out.2.2.2.2 H0.out.has HF.out.2.2.2.1 HZ.out).mono ?_
      rw [h6]
      rintro e w2 ⟨rfl, hb2⟩
      have H2 := hid (H0.out.below hb2)
      clear hb2
      go_wp2
      go_ret
      exact ⟨ret_bool (gdH_no fun g => HQ.out g.2.2.2.1).symm, H2.out.bel⟩
    have HQ := hid (gdQ_iff.1 h6)
    have h200 : qs.length ≤ 200 := HQ.out.1
    have HE : Hid ((∀ i, i < qs.length → lastT (pl (qs.getD i q0)).2 ≤ N) → gdH ⟨W, L, N, qs, a, c⟩ = true) := fun g => gdH_yes ⟨h1, .inl HN1.out, h5, HQ.out, g⟩
    go_wp2_with (first | (go_at_call 59; refine (Hdn.f59 W L _).mono ?_; rw [decide_eq_true h1]; rintro e w1 ⟨rfl, rfl⟩) | fail)
    refine (f19 a qs.length c qs _ rfl HF.out.2.2.2.2 H0.out.has HF.out.2.2.2.1 HZ.out).mono ?_
    rw [h6]
    rintro e w2 ⟨rfl, hb2⟩
    have H2 := hid (H0.out.below hb2)
    clear hb2
    clear b0 b1 b2 b3
    obtain ⟨b0, b1, b2, b3⟩ := four H2.out.box
    go_wp2
    go_loopw [37] (fun i wr => ∃ k : Nat, k ≤ qs.length ∧ i = .int .i64 k ∧ Hid (∀ i, i < k → lastT (pl (qs.getD i q0)).2 ≤ N) ∧ Hid (HB w ⟨W, L, N, qs, a, c⟩ wr)) (fun i _ => qs.length - (intOf i).toNat)
    case atStart => exact ⟨0, Nat.zero_le _, rfl, fun i hi => by omega, H2.out⟩
    case round =>
      obtain ⟨k, hk, rfl, HU, HX⟩ := hrel
      by_cases hlt : k < qs.length
      rotate_left
      · have HX2 := hid HX.out.bel
        go_wp2
        go_ret
        exact ⟨ret_bool (HE.out fun i hi => HU.out i (by omega)).symm, HX2.out⟩
      have HNo : Hid (¬ lastT (pl (qs.getD k q0)).2 ≤ N → gdH ⟨W, L, N, qs, a, c⟩ = false) := fun g => gdH_no fun g' => g (g'.2.2.2.2 k hlt)
      have HUs : Hid (lastT (pl (qs.getD k q0)).2 ≤ N → ∀ i, i < k + 1 → lastT (pl (qs.getD i q0)).2 ≤ N) := by
        intro g i hi
        by_cases e : i = k
        · rw [e]; exact g
        · exact HU.out i (by omega)
      have hne := (HQ.out.2 k hlt).1.2.2
      obtain ⟨b, off, e0, hbl, c0, c1, t1, t2⟩ := HX.out.has.at2 k hlt
      obtain ⟨bs, os, e1, hbs, cs⟩ := last_at t2 hne
      obtain ⟨m, hm⟩ : ∃ m, (qs.getD k q0).s.length = m + 1 := ⟨(qs.getD k q0).s.length - 1, by have : (qs.getD k q0).s.length ≠ 0 := fun e => hne (List.length_eq_zero_iff.1 e); omega⟩
      have HM := hid (HZ.out k hlt).2
      rw [hm] at c1 cs HM
      rw [e1] at c1
      rw [show m + 1 - 1 = m from rfl] at cs
      obtain ⟨z0, z1, z2, z3⟩ := four HX.out.box
      have lb0 : w.heap.size < wr.heap.size := lt_at HX.out.box
      have hm1 : m + 1 ≤ 1048576 := HM.out
      have hw1 : IntKind.i64.wrap (m : Int) = (m : Int) := by rw [IntKind.wrap_i64]; omega
      have hw2 : IntKind.i64.wrap ((m : Int) + 1 - 1) = (m : Int) := by rw [IntKind.wrap_i64]; omega
      have HXa := hid (HX.out.below ((Below.refl wr.heap.size wr).alloc (Nat.le_refl _) (.cells #[.slice (qs.getD k q0).a (qs.getD k q0).l.length (qs.getD k q0).c, .slice (some ⟨bs, os, none⟩) (m + 1) (qs.getD k q0).d] 79)))
      have HLT : Hid (lastT (pl (qs.getD k q0)).2 = lastT (qs.getD k q0).s) := rfl
      rw [HLT.out] at HNo HUs
      clear HLT
      clear t1 t2 hm hne HM e1
      simp only at e0
      subst e0
      generalize lastT (qs.getD k q0).s = T at *
      generalize (qs.getD k q0).a = qa at *
      generalize (qs.getD k q0).c = qc at *
      generalize (qs.getD k q0).d = qd at *
      generalize (qs.getD k q0).l.length = ll at *
      by_cases h7 : T ≤ N
      · have h7' : ¬ N < T := by omega
        go_wp2
        go_quiet (fail)
        have HX3 := hid (HXa.out.below (Lab.below_drewN (Below.refl _ _) nq))
        clear HXa
        go_wp2
        go_roundw
        case rel => exact ⟨k + 1, by omega, by go_num, HUs.out h7, HX3.out⟩
        case measure => simp [intOf]; omega
      · have h7' : N < T := by omega
        go_wp2
        go_quiet (fail)
        have HX3 := hid (HXa.out.below (Lab.below_drewN (Below.refl _ _) nq)).bel
        clear HXa
        go_wp2
        go_ret
        exact ⟨ret_bool (HNo.out h7).symm, HX3.out⟩
  by_cases h4 : TimeP N
  rotate_left
  · go_wp2_with (first | (go_at_call 59; refine (Hdn.f59 W L _).mono ?_; rw [decide_eq_true h1]; rintro e w1 ⟨rfl, rfl⟩) | (go_at_call 61; refine (Smp.f61 N _).mono ?_; rw [decide_eq_false h4]; rintro e w1 ⟨rfl, rfl⟩))
    go_ret
    exact ⟨ret_bool (gdH_no fun g => g.2.1.elim hN h4).symm, H0.out.bel⟩
  by_cases h5 : (qs.length : Int) ≤ L
  rotate_left
  · have h5' : L < (qs.length : Int) := by omega
    go_wp2_with (first | (go_at_call 59; refine (Hdn.f59 W L _).mono ?_; rw [decide_eq_true h1]; rintro e w1 ⟨rfl, rfl⟩) | (go_at_call 61; refine (Smp.f61 N _).mono ?_; rw [decide_eq_true h4]; rintro e w1 ⟨rfl, rfl⟩))
    go_ret
    exact ⟨ret_bool (gdH_no fun g => by have := g.2.2.1; simp only at this; omega).symm, H0.out.bel⟩
  have h5' : ¬ L < (qs.length : Int) := by omega
  cases h6 : gdQ qs
  · have HQ : Hid (¬ GoodQ qs) := fun g => by rw [gdQ_yes g] at h6; cases h6
    go_wp2_with (first | (go_at_call 59; refine (Hdn.f59 W L _).mono ?_; rw [decide_eq_true h1]; rintro e w1 ⟨rfl, rfl⟩) | (go_at_call 61; refine (Smp.f61 N _).mono ?_; rw [decide_eq_true h4]; rintro e w1 ⟨rfl, rfl⟩) | fail)
    refine (f19 a qs.length c qs _ rfl HF.out.2.2.2.2 H0.out.has HF.out.2.2.2.1 HZ.out).mono ?_
    rw [h6]
    rintro e w2 ⟨rfl, hb2⟩
    have H2 := hid (H0.out.below hb2)
    clear hb2
    go_wp2
    go_ret
    exact ⟨ret_bool (gdH_no fun g => HQ.out g.2.2.2.1).symm, H2.out.bel⟩
  have HQ := hid (gdQ_iff.1 h6)
  have h200 : qs.length ≤ 200 := HQ.out.1
  have HE : Hid ((∀ i, i < qs.length → lastT (pl (qs.getD i q0)).2 ≤ N) → gdH ⟨W, L, N, qs, a, c⟩ = true) := fun g => gdH_yes ⟨h1, .inr h4, h5, HQ.out, g⟩
  go_wp2_with (first | (go_at_call 59; refine (Hdn.f59 W L _).mono ?_; rw [decide_eq_true h1]; rintro e w1 ⟨rfl, rfl⟩) | (go_at_call 61; refine (Smp.f61 N _).mono ?_; rw [decide_eq_true h4]; rintro e w1 ⟨rfl, rfl⟩) | fail)
  refine (f19 a qs.length c qs _ rfl HF.out.2.2.2.2 H0.out.has HF.out.2.2.2.1 HZ.out).mono ?_
  rw [h6]
  rintro e w2 ⟨rfl, hb2⟩
  have H2 := hid (H0.out.below hb2)
  clear hb2
  clear b0 b1 b2 b3
  obtain ⟨b0, b1, b2, b3⟩ := four H2.out.box
  go_wp2
  go_loopw [37] (fun i wr => ∃ k : Nat, k ≤ qs.length ∧ i = .int .i64 k ∧ Hid (∀ i, i < k → lastT (pl (qs.getD i q0)).2 ≤ N) ∧ Hid (HB w ⟨W, L, N, qs, a, c⟩ wr)) (fun i _ => qs.length - (intOf i).toNat)
  case atStart => exact ⟨0, Nat.zero_le _, rfl, fun i hi => by omega, H2.out⟩
  case round =>
    obtain ⟨k, hk, rfl, HU, HX⟩ := hrel
    by_cases hlt : k < qs.length
    rotate_left
    · have HX2 := hid HX.out.bel
      go_wp2
      go_ret
      exact ⟨ret_bool (HE.out fun i hi => HU.out i (by omega)).symm, HX2.out⟩
    have HNo : Hid (¬ lastT (pl (qs.getD k q0)).2 ≤ N → gdH ⟨W, L, N, qs, a, c⟩ = false) := fun g => gdH_no fun g' => g (g'.2.2.2.2 k hlt)
    have HUs : Hid (lastT (pl (qs.getD k q0)).2 ≤ N → ∀ i, i < k + 1 → lastT (pl (qs.getD i q0)).2 ≤ N) := by
      intro g i hi
      by_cases e : i = k
      · rw [e]; exact g
      · exact HU.out i (by omega)
    have hne := (HQ.out.2 k hlt).1.2.2
    obtain ⟨b, off, e0, hbl, c0, c1, t1, t2⟩ := HX.out.has.at2 k hlt
    obtain ⟨bs, os, e1, hbs, cs⟩ := last_at t2 hne
    obtain ⟨m, hm⟩ : ∃ m, (qs.getD k q0).s.length = m + 1 := ⟨(qs.getD k q0).s.length - 1, by have : (qs.getD k q0).s.length ≠ 0 := fun e => hne (List.length_eq_zero_iff.1 e); omega⟩
    have HM := hid (HZ.out k hlt).2
    rw [hm] at c1 cs HM
    rw [e1] at c1
    rw [show m + 1 - 1 = m from rfl] at cs
    obtain ⟨z0, z1, z2, z3⟩ := four HX.out.box
    have lb0 : w.heap.size < wr.heap.size := lt_at HX.out.box
    have hm1 : m + 1 ≤ 1048576 := HM.out
    have hw1 : IntKind.i64.wrap (m : Int) = (m : Int) := by rw [IntKind.wrap_i64]; omega
    have hw2 : IntKind.i64.wrap ((m : Int) + 1 - 1) = (m : Int) := by rw [IntKind.wrap_i64]; omega
    have HXa := hid (HX.out.below ((Below.refl wr.heap.size wr).alloc (Nat.le_refl _) (.cells #[.slice (qs.getD k q0).a (qs.getD k q0).l.length (qs.getD k q0).c, .slice (some ⟨bs, os, none⟩) (m + 1) (qs.getD k q0).d] 79)))
    have HLT : Hid (lastT (pl (qs.getD k q0)).2 = lastT (qs.getD k q0).s) := rfl
    rw [HLT.out] at HNo HUs
    clear HLT
    clear t1 t2 hm hne HM e1
    simp only at e0
    subst e0
    generalize lastT (qs.getD k q0).s = T at *
    generalize (qs.getD k q0).a = qa at *
    generalize (qs.getD k q0).c = qc at *
    generalize (qs.getD k q0).d = qd at *
    generalize (qs.getD k q0).l.length = ll at *
    by_cases h7 : T ≤ N
    · have h7' : ¬ N < T := by omega
      go_wp2
      go_quiet (fail)
      have HX3 := hid (HXa.out.below (Lab.below_drewN (Below.refl _ _) nq))
      clear HXa
      go_wp2
      go_roundw
      case rel => exact ⟨k + 1, by omega, by go_num, HUs.out h7, HX3.out⟩
      case measure => simp [intOf]; omega
    · have h7' : N < T := by omega
      go_wp2
      go_quiet (fail)
      have HX3 := hid (HXa.out.below (Lab.below_drewN (Below.refl _ _) nq)).bel
      clear HXa
      go_wp2
      go_ret
      exact ⟨ret_bool (HNo.out h7).symm, HX3.out⟩
end Go.Proofs.Ytnhikdlhjdjmdaa.Srs
