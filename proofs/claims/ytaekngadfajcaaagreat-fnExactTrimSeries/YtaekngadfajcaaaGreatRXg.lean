/- Whether lists of series are good: the program's GoodSeries. -/
import Derived.Test.YtaekngadfajcaaaGreatRXe
namespace Go.Proofs.YtaekngadfajcaaaGreat.Srs
open Go.RowKit
open Go.Proofs.YtaekngadfajcaaaGreat.Lab (Lb HasL OfV goodL GoodP cmpList)
open Go.Proofs.YtaekngadfajcaaaGreat.Smp (Sm HasS goodS ret_bool)

theorem len_zero' {s : List Sm} : s ≠ [] ↔ ¬ (s.length : Int) = 0 := by
  constructor
  · intro h e; exact h (List.length_eq_zero_iff.1 (by omega))
  · rintro h rfl; exact h rfl
set_option maxHeartbeats 1000000 in
theorem f51 (q p : Q) (w : World) (n1 : q.l.length ≤ 1048576) (n2 : p.l.length ≤ 1048576) (hq : HasL w q.a q.l) (hp : HasL w p.a p.l) :
    Calls Tryz.prog 51 #[agQ q, agQ p] w fun e w' => e = .returned (.int .i64 (cmpList q.l p.l)) ∧ Below w.heap.size w w' := by
  obtain ⟨l, a, c, s, b, d⟩ := q
  obtain ⟨l', a', c', s', b', d'⟩ := p
  simp only at n1 n2 hq hp
  have HB := hid (((Below.refl w.heap.size w).alloc (Nat.le_refl _) (.cells #[.slice a l.length c, .slice b s.length d] 53)).alloc (by simp) (.cells #[.slice a' l'.length c', .slice b' s'.length d'] 53))
  have HL := hid (hq.below HB.out)
  have HL' := hid (hp.below HB.out)
  clear hq hp
  simp only [agQ]
  go_enter Tryz.func51, Tryz.ntmps51
  go_wp2_with fail
  refine (Lab.f77 a a' l.length l'.length c c' l l' _ rfl rfl n1 n2 HL.out HL'.out).mono ?_
  rintro e w1 ⟨rfl, hb1⟩
  have HB1 := hid (HB.out.trans (hb1.mono HB.out.size))
  clear hb1
  go_wp2
  go_ret
  exact ⟨rfl, HB1.out⟩
def RiseP (qs : List Q) : Prop := ∀ i, i < qs.length → 0 < i → cmpList (pl (qs.getD (i - 1) q0)).1 (pl (qs.getD i q0)).1 < 0
instance (qs : List Q) : Decidable (RiseP qs) := by unfold RiseP; infer_instance
def riseQ (qs : List Q) : Bool := decide (RiseP qs)
set_option maxHeartbeats 2000000 in
theorem f50 (a : Option Addr) (n c : Nat) (qs : List Q) (w : World) (hn : qs.length = n) (hb : n ≤ 1048576) (hr : HasQ w a qs) (hz : SmlQ qs) :
    Calls Tryz.prog 50 #[.slice a n c, .func (.func 51) #[] #[]] w fun e w' => e = .returned (.bool (riseQ qs)) ∧ Below w.heap.size w w' := by
  have HN := hid hn
  have HR := hid hr
  have HZ := hid hz
  clear hn hr hz
  go_enter Tryz.func50, Tryz.ntmps50
  go_wp2
  go_loopw [5] (fun i wr => ∃ k : Nat, (k ≤ n ∨ k = 0) ∧ i = .int .i64 ((k : Int) + 1) ∧ Hid (∀ i, i ≤ k → 0 < i → cmpList (pl (qs.getD (i - 1) q0)).1 (pl (qs.getD i q0)).1 < 0) ∧ Hid (Below w.heap.size w wr)) (fun i _ => n + 1 - (intOf i).toNat)
  case atStart => exact ⟨0, .inr rfl, by go_num, fun i hi h => by omega, Below.refl _ _⟩
  case round =>
    obtain ⟨k, hk, rfl, HU, HX⟩ := hrel
    by_cases hlt : k + 1 < n
    · obtain ⟨b, off, rfl, hbl, c0, c1, t1, t2⟩ := (HR.out.below HX.out).at2 k (by rw [HN.out]; omega)
      obtain ⟨b', off', e0, hbl', c0', c1', t1', t2'⟩ := (HR.out.below HX.out).at2 (k + 1) (by rw [HN.out]; omega)
      obtain ⟨rfl, rfl⟩ : b = b' ∧ off = off' := by cases e0; exact ⟨rfl, rfl⟩
      have i1 : (k : Int) < (n : Int) := by omega
      have i2 : (k : Int) + 1 < (n : Int) := by omega
      have i3 : (0 : Int) ≤ (k : Int) := by omega
      have i4 : (0 : Int) ≤ (k : Int) + 1 := by omega
      have i5 : ((k : Int) + 1).toNat = k + 1 := by omega
      have hw1 : IntKind.i64.wrap (k : Int) = (k : Int) := by rw [IntKind.wrap_i64]; omega
      have hw2 : IntKind.i64.wrap ((k : Int) + 1 - 1) = (k : Int) := by rw [IntKind.wrap_i64]; omega
      have HNo : Hid (¬ cmpList (qs.getD k q0).l (qs.getD (k + 1) q0).l < 0 → riseQ qs = false) := fun h => decide_eq_false fun g => h (g (k + 1) (by rw [HN.out]; exact hlt) (by omega))
      have HUs : Hid (cmpList (qs.getD k q0).l (qs.getD (k + 1) q0).l < 0 → ∀ i, i ≤ k + 1 → 0 < i → cmpList (pl (qs.getD (i - 1) q0)).1 (pl (qs.getD i q0)).1 < 0) := by
        intro h i hi h0
        by_cases e : i = k + 1
        · subst e; exact h
        · exact HU.out i (by omega) h0
      have N1 := hid (HZ.out k (by rw [HN.out]; omega)).1
      have N2 := hid (HZ.out (k + 1) (by rw [HN.out]; omega)).1
      generalize qs.getD k q0 = p at *
      generalize qs.getD (k + 1) q0 = q at *
      have HE : Hid (EE w p q b (off + k * 2) b (off + (k + 1) * 2) wr) := ⟨c0, c1, c0', c1', t1, t2, t1', t2', hbl, hbl, HX.out⟩
      clear c0 c1 c0' c1' t1 t2 t1' t2' hbl hbl' e0
      by_cases h3 : 0 ≤ cmpList p.l q.l
      · go_wp2_with fail
        go_region_held3 (fun x => EE w p q b (off + k * 2) b (off + (k + 1) * 2) x) (first | exact HE.out.drew | assumption) (first | (go_at_call 51; refine (f51 p q _ N1.out N2.out (EE.t1 (by assumption)) (EE.t3 (by assumption))).mono ?_; rintro e w2 ⟨rfl, hb2⟩; have hs2 := EE.below (by assumption) hb2; clear hb2))
        have HX2 := hid hs2.bel
        clear hs2
        go_wp2
        go_ret
        exact ⟨ret_bool (HNo.out (by omega)).symm, HX2.out⟩
      · go_wp2_with fail
        go_region_held3 (fun x => EE w p q b (off + k * 2) b (off + (k + 1) * 2) x) (first | exact HE.out.drew | assumption) (first | (go_at_call 51; refine (f51 p q _ N1.out N2.out (EE.t1 (by assumption)) (EE.t3 (by assumption))).mono ?_; rintro e w2 ⟨rfl, hb2⟩; have hs2 := EE.below (by assumption) hb2; clear hb2))
        have HX2 := hid hs2.bel
        clear hs2
        go_wp2
        go_roundw
        case rel => exact ⟨k + 1, .inl (by omega), by go_num, HUs.out (by omega), HX2.out⟩
        case measure => simp [intOf]; omega
    · go_wp2
      go_ret
      exact ⟨ret_bool (by symm; refine decide_eq_true fun i hi h0 => HU.out i (by have := HN.out; omega) h0), HX.out⟩
theorem good_split {qs : List Q} (h1 : qs.length ≤ 200) (h : ∀ i, i < qs.length → OkQ (pl (qs.getD i q0))) : gdQ qs = riseQ qs := by
  unfold gdQ riseQ
  rw [decide_eq_decide]
  exact ⟨fun g i hi h0 => (g.2 i hi).2 h0, fun g => ⟨h1, fun i hi => ⟨h i hi, g i hi⟩⟩⟩
set_option maxHeartbeats 2000000 in
theorem f22 (a : Option Addr) (n c : Nat) (qs : List Q) (w : World) (hn : qs.length = n) (hmax : n ≤ maxLen) (hr : HasQ w a qs) (hf : FitQ qs) (hz : SmlQ qs) :
    Calls Tryz.prog 22 #[.slice a n c] w fun e w' => e = .returned (.bool (gdQ qs)) ∧ Below w.heap.size w w' := by
  unfold maxLen at hmax
  have HN := hid hn
  have HR := hid hr
  have HF := hid hf
  have HZ := hid hz
  clear hn hr hf hz
  by_cases h200 : n ≤ 200
  rotate_left
  · have h200' : 200 < (n : Int) := by omega
    go_enter Tryz.func22, Tryz.ntmps22
    go_wp2
    go_ret
    exact ⟨ret_bool (gdQ_no fun g => by have := g.1; rw [HN.out] at this; omega).symm, Below.refl _ _⟩
  go_enter Tryz.func22, Tryz.ntmps22
  go_wp2
  go_loopw [10] (fun i wr => ∃ k : Nat, k ≤ n ∧ i = .int .i64 k ∧ Hid (∀ i, i < k → OkQ (pl (qs.getD i q0))) ∧ Hid (Below w.heap.size w wr)) (fun i _ => n - (intOf i).toNat)
  case atStart => exact ⟨0, Nat.zero_le _, rfl, fun i hi => by omega, Below.refl _ _⟩
  case round =>
    obtain ⟨k, hk, rfl, HU, HX⟩ := hrel
    by_cases hlt : k < n
    rotate_left
    · have HE := hid (good_split (qs := qs) (by rw [HN.out]; exact h200) (fun i hi => HU.out i (by have := HN.out; omega)))
      go_wp2_with fail
      refine (f50 a n c qs _ HN.out (by omega) (HR.out.below HX.out) HZ.out).mono ?_
      rintro e w2 ⟨rfl, hb2⟩
      have HX2 := hid (HX.out.trans (hb2.mono HX.out.size))
      clear hb2
      go_wp2
      go_ret
      exact ⟨ret_bool HE.out.symm, HX2.out⟩
    have HNo : Hid (¬ OkQ (pl (qs.getD k q0)) → gdQ qs = false) := fun h => gdQ_no fun g => h (g.2 k (by rw [HN.out]; exact hlt)).1
    have HUs : Hid (OkQ (pl (qs.getD k q0)) → ∀ i, i < k + 1 → OkQ (pl (qs.getD i q0))) := by
      intro h i hi
      by_cases e : i = k
      · rw [e]; exact h
      · exact HU.out i (by omega)
    obtain ⟨b, off, rfl, hbl, c0, c1, t1, t2⟩ := (HR.out.below HX.out).at2 k (by rw [HN.out]; exact hlt)
    have HFq := hid (HF.out k)
    generalize qs.getD k q0 = q at *
    have HG := hid (box_gg (w := w) (q := q) (p := q) c0 t1 t2 t1 hbl HX.out)
    clear t1 t2 hbl
    go_wp2_with fail
    refine (f48 q.a q.c q.l _ (GG.t1 HG.out) HFq.out.1 HFq.out.2.1).mono ?_
    rintro e w2 ⟨rfl, hb2⟩
    have HG2 := hid (GG.below HG.out hb2)
    obtain ⟨e0, e1, _⟩ := id HG2.out
    clear hb2 HG c0 c1
    cases h1 : nmd q.l
    · have HNN : Hid (¬ OkQ (pl q)) := fun h => by have := nmd_yes h.1; simp only [pl] at this; rw [h1] at this; cases this
      have HX2 := hid HG2.out.bel
      go_wp2
      go_ret
      exact ⟨ret_bool (HNo.out HNN.out).symm, HX2.out⟩
    by_cases h3 : (q.s.length : Int) = 0
    · have HNN : Hid (¬ OkQ (pl q)) := fun h => absurd h3 (len_zero'.1 h.2.2)
      have HX2 := hid HG2.out.bel
      go_wp2
      go_ret
      exact ⟨ret_bool (HNo.out HNN.out).symm, HX2.out⟩
    have h3' : ¬ q.s = [] := len_zero'.2 h3
    go_wp2_with fail
    refine (Smp.f49 q.b q.d q.s _ HFq.out.2.2.2 (GG.t2 HG2.out)).mono ?_
    rintro e w3 ⟨rfl, hb3⟩
    have HX3 := hid (GG.below HG2.out hb3).bel
    clear hb3 HG2 e0 e1
    cases h2 : goodS q.s
    · have HNN : Hid (¬ OkQ (pl q)) := fun h => by have := h.2.1; simp only [pl] at this; rw [h2] at this; cases this
      go_wp2
      go_ret
      exact ⟨ret_bool (HNo.out HNN.out).symm, HX3.out⟩
    · have HYY : Hid (OkQ (pl q)) := ⟨nmd_iff.1 h1, h2, h3'⟩
      go_wp2
      go_roundw
      case rel => exact ⟨k + 1, by omega, by go_num, HUs.out HYY.out, HX3.out⟩
      case measure => simp [intOf]; omega
end Go.Proofs.YtaekngadfajcaaaGreat.Srs
