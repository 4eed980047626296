/- Both GoodSilences. -/
import Derived.Test.YthcogkoleiejgaaGreatDoorRSlo
import Derived.Test.YthcogkoleiejgaaGreatDoorRIhb
namespace Go.Proofs.YthcogkoleiejgaaGreatDoor.Sln
open Go.RowKit
open Go.Proofs.YthcogkoleiejgaaGreatDoor.Pat (Mt HasM FitM goodM nameL)
open Go.Proofs.YthcogkoleiejgaaGreatDoor.Rwc
open Go.Proofs.YthcogkoleiejgaaGreatDoor.Nmt (isT cmpS)
open Go.Proofs.YthcogkoleiejgaaGreatDoor.Inh (some1)

def okS (q : T) : Bool := nameL q.s.data.toList && some1 q.ls && isT q.f && isT q.t && decide (q.f ≤ q.t)
def riseT (ts : List T) : Bool := decide (∀ i, i < ts.length → 0 < i → cmpS (ts.getD (i - 1) t0).s (ts.getD i t0).s < 0)
def GoodSP (ts : List T) : Prop := ts.length ≤ 50 ∧ (∀ i, i < ts.length → okS (ts.getD i t0) = true) ∧ riseT ts = true
instance (ts : List T) : Decidable (GoodSP ts) := by unfold GoodSP; infer_instance
def goodS (ts : List T) : Bool := decide (GoodSP ts)
theorem okS_pl {q q' : T} (h : pl q' = pl q) : okS q' = okS q := by
  have h1 : q'.s = q.s := congrArg Pl.s h
  have h2 : q'.ls = q.ls := congrArg Pl.ls h
  have h3 : q'.f = q.f := congrArg Pl.f h
  have h4 : q'.t = q.t := congrArg Pl.t h
  unfold okS; rw [h1, h2, h3, h4]
theorem id_pl {q q' : T} (h : pl q' = pl q) : q'.s = q.s := congrArg Pl.s h
theorem riseT_same {n : Nat} {ts ts' : List T} (h : Same n ts ts') (hn : ts.length = n) (hn' : ts'.length = n) : riseT ts' = riseT ts := by
  unfold riseT
  refine decide_eq_decide.2 ⟨fun g i hi h0 => ?_, fun g i hi h0 => ?_⟩
  · rw [← id_pl (h (i - 1) (by omega)), ← id_pl (h i (by omega))]; exact g i (by omega) h0
  · rw [id_pl (h (i - 1) (by omega)), id_pl (h i (by omega))]; exact g i (by omega) h0
theorem goodS_same {n : Nat} {ts ts' : List T} (h : Same n ts ts') (hn : ts.length = n) (hn' : ts'.length = n) : goodS ts' = goodS ts := by
  have hr := riseT_same h hn hn'
  refine decide_eq_decide.2 ⟨fun g => ⟨by have := g.1; omega, fun i hi => ?_, by rw [← hr]; exact g.2.2⟩, fun g => ⟨by have := g.1; omega, fun i hi => ?_, by rw [hr]; exact g.2.2⟩⟩
  · rw [← okS_pl (h i (by omega))]; exact g.2.1 i (by omega)
  · rw [okS_pl (h i (by omega))]; exact g.2.1 i (by omega)
abbrev BX (q : T) : Obj := .cells (arT q) 101

set_option maxHeartbeats 1000000 in
theorem f67 (q q' : T) (w : World) :
    Calls Tryz.prog 67 #[agT q, agT q'] w fun e w' => e = .returned (.int .i64 (cmpS q.s q'.s)) ∧ Below w.heap.size w w' := by
  have HC := fun x => hid (Str.f103 q.s q'.s x)
  have HB := hid (((Below.refl w.heap.size w).alloc (Nat.le_refl _) (BX q)).alloc (by simp) (BX q'))
  simp only [agT]
  go_enter Tryz.func67, Tryz.ntmps67
  go_wp2_with fail
  refine (HC _).out.mono ?_
  rintro e w1 ⟨rfl, hw⟩; subst w1
  go_wp2
  go_ret
  exact ⟨rfl, HB.out⟩

set_option maxHeartbeats 4000000 in
theorem f66 (a : Option Addr) (n c : Nat) (ts : List T) (w : World) (hn : ts.length = n) (hb : n ≤ 1048576) (hr : Has w a ts) :
    Calls Tryz.prog 66 #[.slice a n c, .func (.func 67) #[] #[]] w fun e w' => e = .returned (.bool (riseT ts)) ∧ Below w.heap.size w w' := by
  have HN := hid hn
  have HR := hid hr
  clear hn hr
  go_enter Tryz.func66, Tryz.ntmps66
  go_wp2
  go_loopw [5] (fun i wr => ∃ k : Nat, (k ≤ n ∨ k = 0) ∧ i = .int .i64 ((k : Int) + 1) ∧ Hid (∀ i, i ≤ k → 0 < i → cmpS (ts.getD (i - 1) t0).s (ts.getD i t0).s < 0) ∧ Hid (Below w.heap.size w wr)) (fun i _ => n + 1 - (intOf i).toNat)
  case atStart => exact ⟨0, .inr rfl, by go_num, fun i hi h => by omega, Below.refl _ _⟩
  case round =>
    obtain ⟨k, hk, rfl, HU, HX⟩ := hrel
    by_cases hlt : k + 1 < n
    · obtain ⟨b, off, rfl, hbl, hc, hl⟩ := (HR.out.below HX.out).at2 k (by rw [HN.out]; omega)
      obtain ⟨b', off', heq, hbl', hc', hl'⟩ := (HR.out.below HX.out).at2 (k + 1) (by rw [HN.out]; exact hlt)
      simp only [Option.some.injEq, Addr.mk.injEq] at heq
      obtain ⟨rfl, rfl, _⟩ := heq
      have i1 : (k : Int) < (n : Int) := by omega
      have i2 : (k : Int) + 1 < (n : Int) := by omega
      have i3 : (0 : Int) ≤ (k : Int) + 1 := by omega
      have i4 : ¬ (k : Int) + 1 < 0 := by omega
      have i5 : ((k : Int) + 1).toNat = k + 1 := by omega
      have i6 : ¬ (n : Int) ≤ (k : Int) + 1 := by omega
      have hw1 : IntKind.i64.wrap (k : Int) = (k : Int) := by rw [IntKind.wrap_i64]; omega
      have HNo : Hid (¬ cmpS (ts.getD k t0).s (ts.getD (k + 1) t0).s < 0 → riseT ts = false) := fun h => decide_eq_false fun g => h (g (k + 1) (by rw [HN.out]; exact hlt) (by omega))
      have HUs : Hid (cmpS (ts.getD k t0).s (ts.getD (k + 1) t0).s < 0 → ∀ i, i ≤ k + 1 → 0 < i → cmpS (ts.getD (i - 1) t0).s (ts.getD i t0).s < 0) := by
        intro h i hi h0
        by_cases e : i = k + 1
        · subst e; exact h
        · exact HU.out i (by omega) h0
      generalize ts.getD k t0 = q at *
      generalize ts.getD (k + 1) t0 = q' at *
      obtain ⟨h0, h1, h2, h3⟩ := hc.all
      obtain ⟨k0, k1, k2, k3⟩ := hc'.all
      have HE : Hid (EE w q q' b (off + k * 4) b (off + (k + 1) * 4) wr) := ⟨h0, h1, h2, h3, k0, k1, k2, k3, hl, hl', hbl, hbl, HX.out⟩
      clear hc hc' hl hl' hbl hbl' h0 h1 h2 h3 k0 k1 k2 k3 HX
      have HC := fun x => hid (f67 q q' x)
      generalize cmpS q.s q'.s = z at *
      by_cases g : 0 ≤ z
      · have HY := hid (HNo.out (by omega))
        go_wp2_with fail
        go_region_held3 (fun x => EE w q q' b (off + k * 4) b (off + (k + 1) * 4) x) (first | exact HE.out.drew | assumption) (first | (go_at_call 67; refine (HC _).out.mono ?_; rintro e w2 ⟨rfl, hb2⟩; have hs2 := EE.below (by assumption) hb2; clear hb2))
        have HX2 := hid hs2.bel
        clear hs2
        go_wp2
        go_ret
        exact ⟨by rw [HY.out]; rfl, HX2.out⟩
      · have HY := hid (HUs.out (by omega))
        go_wp2_with fail
        go_region_held3 (fun x => EE w q q' b (off + k * 4) b (off + (k + 1) * 4) x) (first | exact HE.out.drew | assumption) (first | (go_at_call 67; refine (HC _).out.mono ?_; rintro e w2 ⟨rfl, hb2⟩; have hs2 := EE.below (by assumption) hb2; clear hb2))
        have HX2 := hid hs2.bel
        clear hs2
        go_wp2
        go_roundw
        case rel => exact ⟨k + 1, .inl (by omega), by go_num, HY, HX2⟩
        case measure => simp [intOf]; omega
    · have HY : Hid (riseT ts = true) := decide_eq_true fun i hi h0 => HU.out i (by have := HN.out; omega) h0
      have i2 : ¬ (k : Int) + 1 < (n : Int) := by omega
      go_wp2
      go_ret
      exact ⟨by rw [HY.out]; rfl, HX.out⟩

set_option maxHeartbeats 8000000 in
theorem f31 (a : Option Addr) (n c : Nat) (ts : List T) (w : World) (hn : ts.length = n) (hb : n ≤ 1048576) (hr : Has w a ts) (hf : Fit ts) (_hz : Sml ts) :
    Calls Tryz.prog 31 #[.slice a n c] w fun e w' => e = .returned (.bool (goodS ts)) ∧ Below w.heap.size w w' := by
  have HN := hid hn
  have HR := hid hr
  have HF := hid hf
  clear hn hr hf
  by_cases g : (n : Int) > 50
  · have HX : Hid (goodS ts = false) := decide_eq_false fun q => by have := q.1; have := HN.out; omega
    go_enter Tryz.func31, Tryz.ntmps31
    go_wp2
    go_ret
    exact ⟨by rw [HX.out]; rfl, Below.refl _ _⟩
  go_enter Tryz.func31, Tryz.ntmps31
  go_wp2
  go_loopw [10] (fun i wr => ∃ k : Nat, k ≤ n ∧ i = .int .i64 k ∧ Hid (∀ i, i < k → okS (ts.getD i t0) = true) ∧ Hid (Below w.heap.size w wr)) (fun i _ => n - (intOf i).toNat)
  case atStart => exact ⟨0, Nat.zero_le _, rfl, fun i hi => absurd hi (by omega), Below.refl _ _⟩
  case round =>
    obtain ⟨k, hk, rfl, HA, HB⟩ := hrel
    by_cases hlt : k < n
    · obtain ⟨b, off, rfl, hbl, hc, hl⟩ := (HR.out.below HB.out).at2 k (by rw [HN.out]; exact hlt)
      obtain ⟨d0, d1, d2, d3⟩ := hc.all
      have HL := hid hl
      have G := hid (HF.out k)
      have HNo : Hid (okS (ts.getD k t0) = false → goodS ts = false) := fun h => decide_eq_false fun q => by have := q.2.1 k (by rw [HN.out]; exact hlt); rw [h] at this; cases this
      have HNx : Hid (okS (ts.getD k t0) = true → ∀ i, i < k + 1 → okS (ts.getD i t0) = true) := by
        intro h i hi
        by_cases e : i = k
        · subst e; exact h
        · exact HA.out i (by omega)
      have i1 : (k : Int) < (n : Int) := by omega
      clear hc hl
      generalize ts.getD k t0 = q at *
      have HB0 := hid (HB.out.alloc HB.out.size (BX q))
      have HX0 := hid (heap_alloc_new wr (BX q))
      have HL0 := hid (HL.out.below ((Below.refl _ _).alloc (Nat.le_refl _) (BX q)))
      have H1 := fun x => hid (Pat.f64 q.s x G.out.s)
      have H2 := fun x a => hid (Inh.f65 q.la q.lc q.ls x G.out.l.2 a G.out.l.1)
      have H3 := fun x => hid (Nmt.f43 q.f x)
      have H4 := fun x => hid (Nmt.f43 q.t x)
      have HO : Hid (okS q = (nameL q.s.data.toList && some1 q.ls && isT q.f && isT q.t && decide (q.f ≤ q.t))) := rfl
      obtain ⟨W0, hW⟩ : ∃ W, W = wr.alloc (BX q) := ⟨_, rfl⟩
      rw [← hW] at HB0 HX0 HL0
      have HW := hid hW
      clear hW
      go_upto_region 6 with fail
      rw [← HW.out]
      clear HW d0 d1 d2 d3
      generalize wr.heap.size = B at *
      obtain ⟨x0, x1, x2, x3⟩ := cellsN HX0.out
      generalize nameL q.s.data.toList = b1 at *
      generalize some1 q.ls = b2 at *
      generalize isT q.f = b3 at *
      generalize isT q.t = b4 at *
      cases b1
      · have HY : Hid (goodS ts = false) := HNo.out (by rw [HO.out]; simp)
        go_wp2_with fail
        refine (H1 _).out.mono ?_
        rintro e w1 ⟨rfl, hw⟩; subst w1
        go_wp2
        go_ret
        exact ⟨by rw [HY.out]; rfl, HB0.out⟩
      go_wp2_with fail
      refine (H1 _).out.mono ?_
      rintro e w1 ⟨rfl, hw⟩; subst w1
      cases b2
      · have HY : Hid (goodS ts = false) := HNo.out (by rw [HO.out]; simp)
        go_wp2_with fail
        refine (H2 _ HL0.out.l).out.mono ?_
        rintro e w1 ⟨rfl, hb⟩
        have HB1 := hid (HB0.out.trans (hb.mono HB0.out.size))
        clear hb
        go_wp2
        go_ret
        exact ⟨by rw [HY.out]; rfl, HB1.out⟩
      go_wp2_with fail
      refine (H2 _ HL0.out.l).out.mono ?_
      rintro e w1 ⟨rfl, hb⟩
      have HB1 := hid (HB0.out.trans (hb.mono HB0.out.size))
      have HX1 := hid (kept HX0.out hb)
      clear hb HB0 HX0 HL0 x0 x1 x2 x3 H2
      obtain ⟨x0, x1, x2, x3⟩ := cellsN HX1.out
      cases b3
      · have HY : Hid (goodS ts = false) := HNo.out (by rw [HO.out]; simp)
        go_wp2_with fail
        refine (H3 _).out.mono ?_
        rintro e w2 ⟨rfl, hw⟩; subst w2
        go_wp2
        go_ret
        exact ⟨by rw [HY.out]; rfl, HB1.out⟩
      go_wp2_with fail
      refine (H3 _).out.mono ?_
      rintro e w2 ⟨rfl, hw⟩; subst w2
      cases b4
      · have HY : Hid (goodS ts = false) := HNo.out (by rw [HO.out]; simp)
        go_wp2_with fail
        refine (H4 _).out.mono ?_
        rintro e w2 ⟨rfl, hw⟩; subst w2
        go_wp2
        go_ret
        exact ⟨by rw [HY.out]; rfl, HB1.out⟩
      go_wp2_with fail
      refine (H4 _).out.mono ?_
      rintro e w2 ⟨rfl, hw⟩; subst w2
      by_cases gt : q.f > q.t
      · have HY : Hid (goodS ts = false) := HNo.out (by rw [HO.out, decide_eq_false (show ¬ q.f ≤ q.t by omega)]; simp)
        go_wp2
        go_ret
        exact ⟨by rw [HY.out]; rfl, HB1.out⟩
      · have HY := hid (HNx.out (by rw [HO.out, decide_eq_true (show q.f ≤ q.t by omega)]; simp))
        go_wp2
        go_roundw
        case rel => exact ⟨k + 1, by omega, by go_num, HY, HB1⟩
        case measure => simp [intOf]; omega
    · have HY : Hid (goodS ts = riseT ts) := by
        have := HN.out
        by_cases hx : riseT ts = true
        · rw [Hid, hx]; exact decide_eq_true ⟨by omega, fun i hi => HA.out i (by omega), hx⟩
        · have hx' : riseT ts = false := by simpa using hx
          rw [Hid, hx']; exact decide_eq_false fun g => hx g.2.2
      have i1 : ¬ (k : Int) < (n : Int) := by omega
      have HC := hid (f66 a n c ts wr HN.out hb (HR.out.below HB.out))
      generalize riseT ts = z at *
      go_wp2_with fail
      refine HC.out.mono ?_
      rintro e w2 ⟨rfl, hb2⟩
      have HB2 := hid (HB.out.trans (hb2.mono HB.out.size))
      clear hb2
      go_wp2
      go_ret
      exact ⟨by rw [HY.out]; rfl, HB2.out⟩
end Go.Proofs.YthcogkoleiejgaaGreatDoor.Sln
