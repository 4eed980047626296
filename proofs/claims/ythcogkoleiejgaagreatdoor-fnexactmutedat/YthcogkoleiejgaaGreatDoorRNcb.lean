/- Good configurations of telling: both GoodNotifys. -/
import Derived.Test.YthcogkoleiejgaaGreatDoorRNca
import Derived.Test.YthcogkoleiejgaaGreatDoorRRK
import Derived.Test.YthcogkoleiejgaaGreatDoorRSld
import Derived.Test.YthcogkoleiejgaaGreatDoorRIhb
import Derived.Test.YthcogkoleiejgaaGreatDoorRIvf
namespace Go.Proofs.YthcogkoleiejgaaGreatDoor.Ntf
open Go.RowKit
open Go.Proofs.YthcogkoleiejgaaGreatDoor.Rwc

/-- An interval of a list, as one by itself. -/
abbrev ivO (q : Ivn.T) : Rng.Iv := ⟨q.z, q.ms, q.ks, q.ds, q.os, q.ys, q.us, q.ma, q.mc, q.ka, q.kc, q.da, q.dc, q.oa, q.oc, q.ya, q.yc, q.ua, q.uc⟩
theorem ivO_has {w : World} {q : Ivn.T} (h : Ivn.Lst w q) : Rng.Has w (ivO q) := ⟨h.m, h.k, h.d, h.o, h.y, h.u⟩
theorem ivO_sml {q : Ivn.T} (h : Ivn.wt q ≤ 1048576) : Rng.Sml (ivO q) := by
  unfold Ivn.wt at h
  exact ⟨by simp only; omega, by simp only; omega, by simp only; omega, by simp only; omega, by simp only; omega, by simp only; omega⟩
theorem gi_pl {q q' : Ivn.T} (h : Ivn.pl q' = Ivn.pl q) : Rng.gi (ivO q') = Rng.gi (ivO q) :=
  Rng.gi_same ⟨congrArg Ivn.Pl.z h, congrArg Ivn.Pl.ms h, congrArg Ivn.Pl.ks h, congrArg Ivn.Pl.ds h, congrArg Ivn.Pl.os h, congrArg Ivn.Pl.ys h, congrArg Ivn.Pl.us h⟩
def GoodIv (ts : List Ivn.T) : Prop := ts.length ≤ 20 ∧ ∀ i, i < ts.length → Rng.gi (ivO (ts.getD i Ivn.t0)) = true
noncomputable def goodIv (ts : List Ivn.T) : Bool := @decide (GoodIv ts) (Classical.propDecidable _)
theorem iv_long {ts : List Ivn.T} (h : 20 < ts.length) : goodIv ts = false := @decide_eq_false _ (_) fun g => by have := g.1; omega
theorem iv_no {ts : List Ivn.T} {k : Nat} (hk : k < ts.length) (h : Rng.gi (ivO (ts.getD k Ivn.t0)) = false) : goodIv ts = false := @decide_eq_false _ (_) fun g => by have := g.2 k hk; rw [h] at this; cases this
theorem iv_yes {ts : List Ivn.T} {k : Nat} (hk : ts.length ≤ k) (h : ∀ i, i < k → Rng.gi (ivO (ts.getD i Ivn.t0)) = true) (hl : ts.length ≤ 20) : goodIv ts = true := @decide_eq_true _ (_) ⟨hl, fun i hi => h i (by omega)⟩
theorem iv_of {ts : List Ivn.T} (h : goodIv ts = true) : GoodIv ts := by
  unfold goodIv at h
  exact @of_decide_eq_true _ (Classical.propDecidable _) h
theorem iv_same {n : Nat} {ts ts' : List Ivn.T} (h : Ivn.Same n ts ts') (hn : ts.length = n) (hn' : ts'.length = n) : goodIv ts' = goodIv ts := by
  have : GoodIv ts' ↔ GoodIv ts := by
    unfold GoodIv
    rw [hn, hn']
    constructor
    · rintro ⟨a, b⟩
      exact ⟨a, fun i hi => by rw [← gi_pl (h i hi)]; exact b i hi⟩
    · rintro ⟨a, b⟩
      exact ⟨a, fun i hi => by rw [gi_pl (h i hi)]; exact b i hi⟩
  unfold goodIv
  by_cases g : GoodIv ts
  · rw [@decide_eq_true _ (_) g, @decide_eq_true _ (_) (this.2 g)]
  · rw [@decide_eq_false _ (_) g, @decide_eq_false _ (_) (fun x => g (this.1 x))]
/-- The numbers of a route's intervals, all below how many there are. -/
def muteP (N : Nat) (q : Rou.T) : Prop := ∀ i, i < q.us.length → q.us.getD i 0 < (N : Int)
instance (N : Nat) (q : Rou.T) : Decidable (muteP N q) := by unfold muteP; infer_instance
def MutesP (N : Nat) (ts : List Rou.T) (k : Nat) : Prop := ∀ i, i < k → muteP N (ts.getD i Rou.t0)
instance (N : Nat) (ts : List Rou.T) (k : Nat) : Decidable (MutesP N ts k) := by unfold MutesP; infer_instance
theorem MutesP.succ {N : Nat} {ts : List Rou.T} {k : Nat} (h : MutesP N ts k) (g : muteP N (ts.getD k Rou.t0)) : MutesP N ts (k + 1) := by
  intro i hi
  by_cases e : i = k
  · subst e; exact g
  · exact h i (by omega)
theorem goodR_iff {ts : List Rou.T} : Rou.goodR ts = true ↔ Rou.GoodRt (ts.map Rou.pl) := by
  constructor
  · intro h
    by_cases g : Rou.GoodRt (ts.map Rou.pl)
    · exact g
    · rw [show Rou.goodR ts = false from Rou.goodP_false g] at h; cases h
  · exact Rou.goodP_true
theorem good_row {ts : List Rou.T} {k : Nat} (h : Rou.goodR ts = true) (hk : k < ts.length) : Rou.okR (ts.getD k Rou.t0) = true := by
  obtain ⟨_, h1, _⟩ := Rou.good_iff.1 (goodR_iff.1 h)
  exact (h1 (Rou.pl (ts.getD k Rou.t0)) (List.mem_map.2 ⟨_, by simp [List.getD_eq_getElem?_getD, hk], rfl⟩)).1
theorem ok_frb {q : Rou.T} (h : Rou.okR q = true) : Ino.frb 20 19 q.us := by
  unfold Rou.okR Rou.okP at h
  simp only [Bool.and_eq_true, decide_eq_true_eq] at h
  exact h.2
theorem ok_parts {q : Rou.T} (h : Rou.okR q = true) : Nmt.isT q.ev = true := by
  unfold Rou.okR Rou.okP Rou.isP at h
  simp only [Bool.and_eq_true] at h
  exact h.1.1.2.1
theorem frb_mute {N : Nat} {q : Rou.T} (h : Rou.okR q = true) : decide (Ino.frb 20 ((N : Int) - 1) q.us) = decide (muteP N q) := by
  obtain ⟨h1, h2, h3⟩ := ok_frb h
  have : Ino.frb 20 ((N : Int) - 1) q.us ↔ muteP N q := by
    constructor
    · rintro ⟨_, _, g⟩ i hi
      have := (g i hi).2
      omega
    · intro g
      exact ⟨h1, h2, fun i hi => ⟨(h3 i hi).1, by have := g i hi; omega⟩⟩
  exact decide_eq_decide.2 this
theorem mute_pl {N : Nat} {q q' : Rou.T} (h : Rou.pl q' = Rou.pl q) : muteP N q' ↔ muteP N q := by
  unfold muteP
  rw [show q'.us = q.us from congrArg Rou.Pl.us h]
/-- What is asked of a configuration. -/
noncomputable def gN (c : C) : Bool := Rou.goodR c.r && Sln.goodS c.s && Inh.goodX c.x && goodIv c.i && decide (MutesP c.i.length c.r c.r.length)
theorem gN_same {c d : C} (h : Same c d) : gN d = gN c := by
  unfold gN
  rw [Rou.goodR_same h.r.2 rfl h.r.1, Sln.goodS_same h.s.2 rfl h.s.1, Inh.goodX_same h.x.2 rfl h.x.1, iv_same h.i.2 rfl h.i.1, h.i.1, h.r.1]
  congr 1
  refine decide_eq_decide.2 ⟨fun g i hi => (mute_pl (h.r.2 i hi)).1 (g i hi), fun g i hi => (mute_pl (h.r.2 i hi)).2 (g i hi)⟩
structure GN (c : C) : Prop where
  r : Rou.goodR c.r = true
  s : Sln.goodS c.s = true
  x : Inh.goodX c.x = true
  i : GoodIv c.i
  m : MutesP c.i.length c.r c.r.length
theorem gN_of {c : C} (h : gN c = true) : GN c := by
  unfold gN at h
  simp only [Bool.and_eq_true, decide_eq_true_eq] at h
  exact ⟨h.1.1.1.1, h.1.1.1.2, h.1.1.2, iv_of h.1.2, h.2⟩
theorem at_int {w : World} {a : Option Addr} {l : List Int} (h : Ino.Has w a l) {k : Nat} (hk : k < l.length) : ∃ b off, a = some ⟨b, off, none⟩ ∧ w.cell? ⟨b, off + k, none⟩ = some (.int .i64 (l.getD k 0)) := by
  rcases h with h | ⟨b, off, h1, h2, h3⟩
  · rw [h] at hk; simp at hk
  · exact ⟨b, off, h1, h3 k hk⟩
abbrev BXI (q : Ivn.T) : Obj := .cells (Ivn.arT q) 62
abbrev BXR (q : Rou.T) : Obj := .cells (Rou.arT q) 67
abbrev BXC (c : C) : Obj := .cells (arC c) 35

set_option maxHeartbeats 4000000 in
theorem f33 (a : Option Addr) (n c : Nat) (ts : List Ivn.T) (w : World) (hn : ts.length = n) (hb : n ≤ 1048576) (hr : Ivn.Has w a ts) (hz : Ivn.Sml ts) (hR : Cal.Rgl w) :
    Calls Tryz.prog 33 #[.slice a n c] w fun e w' => e = .returned (.bool (goodIv ts)) ∧ Below w.heap.size w w' := by
  have HN := hid hn
  have HR := hid hr
  have HZ := hid hz
  have HG := hid hR
  clear hn hr hz hR
  by_cases g : (n : Int) > 20
  · have HX := hid (iv_long (ts := ts) (by have := HN.out; omega))
    go_enter Tryz.func33, Tryz.ntmps33
    go_wp2
    go_ret
    exact ⟨by rw [HX.out]; rfl, Below.refl _ _⟩
  go_enter Tryz.func33, Tryz.ntmps33
  go_wp2
  go_loopw [10] (fun i wr => ∃ k : Nat, k ≤ n ∧ i = .int .i64 k ∧ Hid (∀ i, i < k → Rng.gi (ivO (ts.getD i Ivn.t0)) = true) ∧ Hid (Below w.heap.size w wr)) (fun i _ => n - (intOf i).toNat)
  case atStart => exact ⟨0, Nat.zero_le _, rfl, fun i hi => absurd hi (by omega), Below.refl _ _⟩
  case round =>
    obtain ⟨k, hk, rfl, HA, HB⟩ := hrel
    by_cases hlt : k < n
    rotate_left
    · have HY := hid (iv_yes (ts := ts) (k := k) (by have := HN.out; omega) HA.out (by have := HN.out; omega))
      have i1 : ¬ (k : Int) < (n : Int) := by omega
      go_wp2
      go_ret
      exact ⟨by rw [HY.out]; rfl, HB.out⟩
    obtain ⟨b, off, rfl, hbl, hc, hl⟩ := (HR.out.below HB.out).at2 k (by rw [HN.out]; exact hlt)
    obtain ⟨d0, d1, d2, d3, d4, d5, d6⟩ := hc.all
    have HNo : Hid (Rng.gi (ivO (ts.getD k Ivn.t0)) = false → goodIv ts = false) := fun h => iv_no (by rw [HN.out]; exact hlt) h
    have HNx : Hid (Rng.gi (ivO (ts.getD k Ivn.t0)) = true → ∀ i, i < k + 1 → Rng.gi (ivO (ts.getD i Ivn.t0)) = true) := by
      intro h i hi
      by_cases e : i = k
      · subst e; exact h
      · exact HA.out i (by omega)
    have hq := HZ.out k (by rw [HN.out]; exact hlt)
    have i1 : (k : Int) < (n : Int) := by omega
    clear hc
    generalize ts.getD k Ivn.t0 = q at *
    have hal := (Below.refl wr.heap.size wr).alloc (Nat.le_refl _) (BXI q)
    have HB0 := hid (HB.out.alloc HB.out.size (BXI q))
    have HX0 := hid (heap_alloc_new wr (BXI q))
    have HL0 := hid (hl.below hal)
    have HC := fun (x : World) (h1 : Rng.Has x (ivO q)) (h2 : Cal.Rgl x) => hid (Rng.f69 (ivO q) x h1 (ivO_sml hq) h2)
    obtain ⟨W0, hW⟩ : ∃ W, W = wr.alloc (BXI q) := ⟨_, rfl⟩
    rw [← hW] at HB0 HX0 HL0
    have HW := hid hW
    clear hW hl hal hbl hq
    go_upto_region 6 with fail
    rw [← HW.out]
    clear HW d0 d1 d2 d3 d4 d5 d6 HB
    obtain ⟨x0, x1, x2, x3, x4, x5, x6⟩ := Ivn.cellsN HX0.out
    go_wp2_with fail
    refine (HC _ (ivO_has HL0.out) (HG.out.below HB0.out)).out.mono ?_
    rintro e w2 ⟨rfl, hb2⟩
    have HB2 := hid (HB0.out.trans (hb2.mono HB0.out.size))
    clear hb2 HC x0 x1 x2 x3 x4 x5 x6 HX0 HL0 HB0
    cases hx : Rng.gi (ivO q)
    · have HY := hid (HNo.out hx)
      clear hx
      go_wp2
      go_ret
      exact ⟨by rw [HY.out]; rfl, HB2.out⟩
    · have HY := hid (HNx.out hx)
      clear hx
      go_wp2
      go_roundw
      case rel => exact ⟨k + 1, by omega, by go_num, HY, HB2⟩
      case measure => simp [intOf]; omega

set_option maxHeartbeats 8000000 in
theorem f9 (c : C) (w : World) (hr : Has w c) (hf : Fit c) (hz : Sml c) (hR : Cal.Rgl w) :
    Calls Tryz.prog 9 #[agC c] w fun e w' => e = .returned (.bool (gN c)) ∧ Below w.heap.size w w' := by
  have HB0 := hid ((Below.refl w.heap.size w).alloc (Nat.le_refl _) (BXC c))
  have HX0 := hid (heap_alloc_new w (BXC c))
  have HR := hid hr
  have HF := hid hf
  have HZ := hid hz
  have HG := hid hR
  have H1 := fun x a => hid (Rou.f30n c.ra c.r.length c.rc c.r x rfl hz.r.1 a hf.r.1 hz.r.2)
  have H2 := fun x a => hid (Sln.f31 c.sa c.s.length c.sc c.s x rfl hz.s.1 a hf.s.1 hz.s.2)
  have H3 := fun x a => hid (Inh.f32 c.xa c.x.length c.xc c.x x rfl hz.x.1 a hf.x.1 hz.x.2)
  have H4 := fun x a b => hid (f33 c.ia c.i.length c.ic c.i x rfl hz.i.1 a hz.i.2 b)
  have HO : Hid (gN c = (Rou.goodR c.r && Sln.goodS c.s && Inh.goodX c.x && goodIv c.i && decide (MutesP c.i.length c.r c.r.length))) := rfl
  have hrz := hz.r.1
  obtain ⟨W0, hW⟩ : ∃ W, W = w.alloc (BXC c) := ⟨_, rfl⟩
  rw [← hW] at HB0 HX0
  have HW := hid hW
  clear hW hr hf hz hR
  obtain ⟨b1, hb1⟩ : ∃ b, b = Rou.goodR c.r := ⟨_, rfl⟩
  obtain ⟨b2, hb2⟩ : ∃ b, b = Sln.goodS c.s := ⟨_, rfl⟩
  obtain ⟨b3, hb3⟩ : ∃ b, b = Inh.goodX c.x := ⟨_, rfl⟩
  obtain ⟨b4, hb4⟩ : ∃ b, b = goodIv c.i := ⟨_, rfl⟩
  rw [← hb1, ← hb2, ← hb3, ← hb4] at HO
  rw [← hb1] at H1
  rw [← hb2] at H2
  rw [← hb3] at H3
  have G1 := hid hb1
  have G4 := hid hb4
  clear hb1 hb2 hb3
  rw [← hb4] at H4
  clear hb4
  simp only [agC]
  go_enter Tryz.func9, Tryz.ntmps9
  go_upto_region 1 with fail
  rw [← HW.out]
  clear HW
  obtain ⟨x0, x1, x2, x3⟩ := cells4 HX0.out
  cases b1
  · have HY : Hid (gN c = false) := by unfold Hid; rw [HO.out]; simp
    go_wp2_with fail
    refine (H1 _ (HR.out.r.below HB0.out)).out.mono ?_
    rintro e w1 ⟨rfl, hb⟩
    have HB1 := hid (HB0.out.trans (hb.mono HB0.out.size))
    clear hb
    go_wp2
    go_ret
    exact ⟨by rw [HY.out]; rfl, HB1.out⟩
  go_wp2_with fail
  refine (H1 _ (HR.out.r.below HB0.out)).out.mono ?_
  rintro e w1 ⟨rfl, hb⟩
  have HB1 := hid (HB0.out.trans (hb.mono HB0.out.size))
  have HX1 := hid (kept HX0.out hb)
  clear hb HB0 HX0 x0 x1 x2 x3 H1
  obtain ⟨x0, x1, x2, x3⟩ := cells4 HX1.out
  cases b2
  · have HY : Hid (gN c = false) := by unfold Hid; rw [HO.out]; simp
    go_wp2_with fail
    refine (H2 _ (HR.out.s.below HB1.out)).out.mono ?_
    rintro e w2 ⟨rfl, hb⟩
    have HB2 := hid (HB1.out.trans (hb.mono HB1.out.size))
    clear hb
    go_wp2
    go_ret
    exact ⟨by rw [HY.out]; rfl, HB2.out⟩
  go_wp2_with fail
  refine (H2 _ (HR.out.s.below HB1.out)).out.mono ?_
  rintro e w2 ⟨rfl, hb⟩
  have HB2 := hid (HB1.out.trans (hb.mono HB1.out.size))
  have HX2 := hid (kept HX1.out hb)
  clear hb HB1 HX1 x0 x1 x2 x3 H2
  obtain ⟨x0, x1, x2, x3⟩ := cells4 HX2.out
  cases b3
  · have HY : Hid (gN c = false) := by unfold Hid; rw [HO.out]; simp
    go_wp2_with fail
    refine (H3 _ (HR.out.x.below HB2.out)).out.mono ?_
    rintro e w3 ⟨rfl, hb⟩
    have HB3 := hid (HB2.out.trans (hb.mono HB2.out.size))
    clear hb
    go_wp2
    go_ret
    exact ⟨by rw [HY.out]; rfl, HB3.out⟩
  go_wp2_with fail
  refine (H3 _ (HR.out.x.below HB2.out)).out.mono ?_
  rintro e w3 ⟨rfl, hb⟩
  have HB3 := hid (HB2.out.trans (hb.mono HB2.out.size))
  have HX3 := hid (kept HX2.out hb)
  clear hb HB2 HX2 x0 x1 x2 x3 H3
  obtain ⟨x0, x1, x2, x3⟩ := cells4 HX3.out
  cases b4
  · have HY : Hid (gN c = false) := by unfold Hid; rw [HO.out]; simp
    go_wp2_with fail
    refine (H4 _ (HR.out.i.below HB3.out) (HG.out.below HB3.out)).out.mono ?_
    rintro e w4 ⟨rfl, hb⟩
    have HB4 := hid (HB3.out.trans (hb.mono HB3.out.size))
    clear hb
    go_wp2
    go_ret
    exact ⟨by rw [HY.out]; rfl, HB4.out⟩
  go_wp2_with fail
  refine (H4 _ (HR.out.i.below HB3.out) (HG.out.below HB3.out)).out.mono ?_
  rintro e w4 ⟨rfl, hb⟩
  have HB4 := hid (HB3.out.trans (hb.mono HB3.out.size))
  have HX4 := hid (kept HX3.out hb)
  clear hb HB3 HX3 x0 x1 x2 x3 H4
  have HO2 : Hid (gN c = decide (MutesP c.i.length c.r c.r.length)) := by unfold Hid; rw [HO.out]; rfl
  have HN : Hid (c.i.length ≤ 20) := (iv_of G4.out.symm).1
  have hin := HN.out
  clear HO G4
  generalize hN : c.i.length = N at *
  generalize hn : c.r.length = n at *
  have HNN := hid hN
  have Hn := hid hn
  clear hN hn
  obtain ⟨x0, x1, x2, x3⟩ := cells4 HX4.out
  rw [Hn.out] at x0
  go_wp2
  go_loopw [30] (fun i wr => ∃ k : Nat, k ≤ n ∧ i = .int .i64 k ∧ Hid (MutesP N c.r k) ∧ Hid (wr.heap[w.heap.size]? = some (BXC c)) ∧ Hid (Below w.heap.size w wr)) (fun i _ => n - (intOf i).toNat)
  case atStart => exact ⟨0, Nat.zero_le _, rfl, fun i hi => absurd hi (by omega), HX4, HB4⟩
  case round =>
    clear HX4 HB4 x0 x1 x2 x3
    obtain ⟨k, hk, rfl, HA, HX, HB⟩ := hrel
    by_cases hlt : k < n
    rotate_left
    · obtain rfl : k = n := by omega
      have HY : Hid (gN c = true) := by unfold Hid; rw [HO2.out]; exact decide_eq_true HA.out
      have i1 : ¬ (k : Int) < (k : Int) := by omega
      go_wp2
      go_ret
      exact ⟨by rw [HY.out]; rfl, HB.out⟩
    obtain ⟨b, off, ha, hbl, hc, hl⟩ := (HR.out.r.below HB.out).at2 k (by rw [Hn.out]; exact hlt)
    rw [ha]
    obtain ⟨d0, d1, d2, d3, d4, d5, d6, d7, d8⟩ := hc.all
    have hok := good_row G1.out.symm (k := k) (by rw [Hn.out]; exact hlt)
    have HNo : Hid (muteP N (c.r.getD k Rou.t0) → MutesP N c.r (k + 1)) := fun h => HA.out.succ h
    have HYe : Hid (¬ muteP N (c.r.getD k Rou.t0) → gN c = false) := fun h => by rw [HO2.out]; exact decide_eq_false fun g => h (g k hlt)
    have hus : (c.r.getD k Rou.t0).us.length ≤ 1048576 := by have := (ok_frb hok).1; omega
    have i1 : (k : Int) < (n : Int) := by omega
    clear hc ha
    generalize c.r.getD k Rou.t0 = q at *
    have hal := (Below.refl wr.heap.size wr).alloc (Nat.le_refl _) (BXR q)
    have HB0 := hid (HB.out.alloc HB.out.size (BXR q))
    have HQ0 := hid (heap_alloc_new wr (BXR q))
    have HX0 := hid (kept HX.out hal)
    have HL0 := hid (hl.below hal)
    have HC := fun (x : World) (h1 : Ino.Has x q.ua q.us) => hid (Ino.f34 q.ua q.uc q.us 20 ((N : Int) - 1) x hus h1)
    rw [frb_mute hok] at HC
    obtain ⟨W0, hW⟩ : ∃ W, W = wr.alloc (BXR q) := ⟨_, rfl⟩
    rw [← hW] at HB0 HX0 HL0 HQ0
    have HW := hid hW
    clear hW hl hal hbl hus hok
    go_upto_region 6 with fail
    rw [← HW.out]
    clear HW d0 d1 d2 d3 d4 d5 d6 d7 d8 HB HX
    obtain ⟨y0, y1, y2, y3, y4, y5, y6, y7, y8⟩ := Rou.cellsN HQ0.out
    obtain ⟨x0, x1, x2, x3⟩ := cells4 HX0.out
    rw [HNN.out] at x1
    go_wp2_with fail
    refine (HC _ HL0.out.u).out.mono ?_
    rintro e w2 ⟨rfl, hb2⟩
    have HB2 := hid (HB0.out.trans (hb2.mono HB0.out.size))
    have HX2 := hid (kept HX0.out hb2)
    clear hb2 HC x0 x1 x2 x3 y0 y1 y2 y3 y4 y5 y6 y7 y8 HX0 HL0 HB0 HQ0
    by_cases hx : muteP N q
    · have HY := hid (HNo.out hx)
      simp only [decide_eq_true hx]
      clear hx
      go_wp2
      go_roundw
      case rel => exact ⟨k + 1, by omega, by go_num, HY, HX2, HB2⟩
      case measure => simp [intOf]; omega
    · have HY := hid (HYe.out hx)
      simp only [decide_eq_false hx]
      clear hx
      go_wp2
      go_ret
      exact ⟨by rw [HY.out]; rfl, HB2.out⟩

set_option maxHeartbeats 8000000 in
theorem f7 (c : C) (w : World) (hr : Has w c) (hf : Fit c) (hz : Sml c) :
    Calls Tryz.prog 7 #[agC c] w fun e w' => e = .returned (.bool (gN c)) ∧ Below w.heap.size w w' := by
  have HB0 := hid ((Below.refl w.heap.size w).alloc (Nat.le_refl _) (BXC c))
  have HX0 := hid (heap_alloc_new w (BXC c))
  have HR := hid hr
  have HF := hid hf
  have HZ := hid hz
  have H1 := fun x a => hid (Rou.f22n c.ra c.r.length c.rc c.r x rfl hz.r.1 a hf.r.1 hz.r.2)
  have H2 := fun x a => hid (Sln.f23 c.sa c.s.length c.sc c.s x rfl hz.s.1 a hf.s.1 hz.s.2)
  have H3 := fun x a => hid (Inh.f24 c.xa c.x.length c.xc c.x x rfl hz.x.1 a hf.x.1 hz.x.2)
  have hiz := hz.i.1
  have HO : Hid (gN c = (Rou.goodR c.r && Sln.goodS c.s && Inh.goodX c.x && goodIv c.i && decide (MutesP c.i.length c.r c.r.length))) := rfl
  have hrz := hz.r.1
  obtain ⟨W0, hW⟩ : ∃ W, W = w.alloc (BXC c) := ⟨_, rfl⟩
  rw [← hW] at HB0 HX0
  have HW := hid hW
  clear hW hr hf hz
  obtain ⟨b1, hb1⟩ : ∃ b, b = Rou.goodR c.r := ⟨_, rfl⟩
  obtain ⟨b2, hb2⟩ : ∃ b, b = Sln.goodS c.s := ⟨_, rfl⟩
  obtain ⟨b3, hb3⟩ : ∃ b, b = Inh.goodX c.x := ⟨_, rfl⟩
  obtain ⟨b4, hb4⟩ : ∃ b, b = goodIv c.i := ⟨_, rfl⟩
  rw [← hb1, ← hb2, ← hb3, ← hb4] at HO
  rw [← hb1] at H1
  rw [← hb2] at H2
  rw [← hb3] at H3
  have G1 := hid hb1
  have G4 := hid hb4
  clear hb1 hb2 hb3
  clear hb4
  simp only [agC]
  go_enter Tryz.func7, Tryz.ntmps7
  go_upto_region 1 with fail
  rw [← HW.out]
  clear HW
  obtain ⟨x0, x1, x2, x3⟩ := cells4 HX0.out
  cases b1
  · have HY : Hid (gN c = false) := by unfold Hid; rw [HO.out]; simp
    go_wp2_with fail
    refine (H1 _ (HR.out.r.below HB0.out)).out.mono ?_
    rintro e w1 ⟨rfl, hb⟩
    have HB1 := hid (HB0.out.trans (hb.mono HB0.out.size))
    clear hb
    go_wp2
    go_ret
    exact ⟨by rw [HY.out]; rfl, HB1.out⟩
  go_wp2_with fail
  refine (H1 _ (HR.out.r.below HB0.out)).out.mono ?_
  rintro e w1 ⟨rfl, hb⟩
  have HB1 := hid (HB0.out.trans (hb.mono HB0.out.size))
  have HX1 := hid (kept HX0.out hb)
  clear hb HB0 HX0 x0 x1 x2 x3 H1
  obtain ⟨x0, x1, x2, x3⟩ := cells4 HX1.out
  cases b2
  · have HY : Hid (gN c = false) := by unfold Hid; rw [HO.out]; simp
    go_wp2_with fail
    refine (H2 _ (HR.out.s.below HB1.out)).out.mono ?_
    rintro e w2 ⟨rfl, hb⟩
    have HB2 := hid (HB1.out.trans (hb.mono HB1.out.size))
    clear hb
    go_wp2
    go_ret
    exact ⟨by rw [HY.out]; rfl, HB2.out⟩
  go_wp2_with fail
  refine (H2 _ (HR.out.s.below HB1.out)).out.mono ?_
  rintro e w2 ⟨rfl, hb⟩
  have HB2 := hid (HB1.out.trans (hb.mono HB1.out.size))
  have HX2 := hid (kept HX1.out hb)
  clear hb HB1 HX1 x0 x1 x2 x3 H2
  obtain ⟨x0, x1, x2, x3⟩ := cells4 HX2.out
  cases b3
  · have HY : Hid (gN c = false) := by unfold Hid; rw [HO.out]; simp
    go_wp2_with fail
    refine (H3 _ (HR.out.x.below HB2.out)).out.mono ?_
    rintro e w3 ⟨rfl, hb⟩
    have HB3 := hid (HB2.out.trans (hb.mono HB2.out.size))
    clear hb
    go_wp2
    go_ret
    exact ⟨by rw [HY.out]; rfl, HB3.out⟩
  go_wp2_with fail
  refine (H3 _ (HR.out.x.below HB2.out)).out.mono ?_
  rintro e w3 ⟨rfl, hb⟩
  have HB3 := hid (HB2.out.trans (hb.mono HB2.out.size))
  have HX3 := hid (kept HX2.out hb)
  clear hb HB2 HX2 x0 x1 x2 x3 H3
  obtain ⟨x0, x1, x2, x3⟩ := cells4 HX3.out
  generalize hN : c.i.length = N at *
  generalize hn : c.r.length = n at *
  have HNN := hid hN
  have Hn := hid hn
  clear hN hn
  by_cases g : (N : Int) > 20
  · have HY : Hid (gN c = false) := by unfold Hid; rw [HO.out, G4.out, iv_long (ts := c.i) (by have := HNN.out; omega)]; simp
    go_wp2
    go_ret
    exact ⟨by rw [HY.out]; rfl, HB3.out⟩
  have hin : N ≤ 20 := by omega
  have HO1 : Hid (b4 = false → gN c = false) := fun h => by rw [HO.out, h]; simp
  have HO2 : Hid (b4 = true → gN c = decide (MutesP N c.r n)) := fun h => by rw [HO.out, h]; simp
  clear HO
  go_wp2
  go_loopw [34] (fun i wr => ∃ k : Nat, k ≤ N ∧ i = .int .i64 k ∧ Hid (∀ i, i < k → Rng.gi (ivO (c.i.getD i Ivn.t0)) = true) ∧ Hid (wr.heap[w.heap.size]? = some (BXC c)) ∧ Hid (Below w.heap.size w wr)) (fun i _ => N - (intOf i).toNat)
  case atStart => exact ⟨0, Nat.zero_le _, rfl, fun i hi => absurd hi (by omega), HX3, HB3⟩
  case round =>
    clear HX3 HB3 x0 x1 x2 x3
    obtain ⟨k, hk, rfl, HA, HX, HB⟩ := hrel
    by_cases hlt : k < N
    · obtain ⟨b, off, ha, hbl, hc, hl⟩ := (HR.out.i.below HB.out).at2 k (by rw [HNN.out]; exact hlt)
      rw [ha]
      obtain ⟨d0, d1, d2, d3, d4, d5, d6⟩ := hc.all
      have HNo : Hid (Rng.gi (ivO (c.i.getD k Ivn.t0)) = false → gN c = false) := fun h => HO1.out (by rw [G4.out]; exact iv_no (by rw [HNN.out]; exact hlt) h)
      have HNx : Hid (Rng.gi (ivO (c.i.getD k Ivn.t0)) = true → ∀ i, i < k + 1 → Rng.gi (ivO (c.i.getD i Ivn.t0)) = true) := by
        intro h i hi
        by_cases e : i = k
        · subst e; exact h
        · exact HA.out i (by omega)
      have hq := HZ.out.i.2 k (by rw [HNN.out]; exact hlt)
      have i1 : (k : Int) < (N : Int) := by omega
      clear hc ha
      generalize c.i.getD k Ivn.t0 = q at *
      have hal := (Below.refl wr.heap.size wr).alloc (Nat.le_refl _) (BXI q)
      have HB0 := hid (HB.out.alloc HB.out.size (BXI q))
      have HQ0 := hid (heap_alloc_new wr (BXI q))
      have HX0 := hid (kept HX.out hal)
      have HL0 := hid (hl.below hal)
      have HC := fun (x : World) (h1 : Rng.Has x (ivO q)) => hid (Rng.f25 (ivO q) x h1 (ivO_sml hq))
      obtain ⟨W0, hW⟩ : ∃ W, W = wr.alloc (BXI q) := ⟨_, rfl⟩
      rw [← hW] at HB0 HX0 HL0 HQ0
      have HW := hid hW
      clear hW hl hal hbl hq
      go_upto_region 6 with fail
      rw [← HW.out]
      clear HW d0 d1 d2 d3 d4 d5 d6 HB HX
      obtain ⟨y0, y1, y2, y3, y4, y5, y6⟩ := Ivn.cellsN HQ0.out
      go_wp2_with fail
      refine (HC _ (ivO_has HL0.out)).out.mono ?_
      rintro e w2 ⟨rfl, hb2⟩
      have HB2 := hid (HB0.out.trans (hb2.mono HB0.out.size))
      have HX2 := hid (kept HX0.out hb2)
      clear hb2 HC y0 y1 y2 y3 y4 y5 y6 HX0 HL0 HB0 HQ0
      cases hx : Rng.gi (ivO q)
      · have HY := hid (HNo.out hx)
        clear hx
        go_wp2
        go_ret
        exact ⟨by rw [HY.out]; rfl, HB2.out⟩
      · have HY := hid (HNx.out hx)
        clear hx
        go_wp2
        go_roundw
        case rel => exact ⟨k + 1, by omega, by go_num, HY, HX2, HB2⟩
        case measure => simp [intOf]; omega
    obtain rfl : k = N := by omega
    have HO3 : Hid (gN c = decide (MutesP k c.r n)) := HO2.out (by rw [G4.out]; exact iv_yes (by have := HNN.out; omega) HA.out (by have := HNN.out; omega))
    have i1 : ¬ (k : Int) < (k : Int) := by omega
    clear HA HO2 HO1 G4
    obtain ⟨x0, x1, x2, x3⟩ := cells4 HX.out
    rw [Hn.out] at x0
    go_wp2
    go_loopw [45] (fun i wx => ∃ j : Nat, j ≤ n ∧ i = .int .i64 j ∧ Hid (MutesP k c.r j) ∧ Hid (wx.heap[w.heap.size]? = some (BXC c)) ∧ Hid (Below w.heap.size w wx)) (fun i _ => n - (intOf i).toNat)
    case atStart => exact ⟨0, Nat.zero_le _, rfl, fun i hi => absurd hi (by omega), HX, HB⟩
    case round =>
      clear HX HB x0 x1 x2 x3
      obtain ⟨j, hj, rfl, HA, HX, HB⟩ := hrel
      by_cases hlt : j < n
      rotate_left
      · obtain rfl : j = n := by omega
        have HY : Hid (gN c = true) := by unfold Hid; rw [HO3.out]; exact decide_eq_true HA.out
        have i2 : ¬ (j : Int) < (j : Int) := by omega
        go_wp2
        go_ret
        exact ⟨by rw [HY.out]; rfl, HB.out⟩
      obtain ⟨b, off, ha, hbl, hc, hl⟩ := (HR.out.r.below HB.out).at2 j (by rw [Hn.out]; exact hlt)
      rw [ha]
      obtain ⟨d0, d1, d2, d3, d4, d5, d6, d7, d8⟩ := hc.all
      have hok := good_row G1.out.symm (k := j) (by rw [Hn.out]; exact hlt)
      have HNo : Hid (muteP k (c.r.getD j Rou.t0) → MutesP k c.r (j + 1)) := fun h => HA.out.succ h
      have HYe : Hid (¬ muteP k (c.r.getD j Rou.t0) → gN c = false) := fun h => by rw [HO3.out]; exact decide_eq_false fun g => h (g j hlt)
      have hus : (c.r.getD j Rou.t0).us.length ≤ 20 := (ok_frb hok).1
      have i2 : (j : Int) < (n : Int) := by omega
      clear hc ha hok
      generalize c.r.getD j Rou.t0 = q at *
      have hal := (Below.refl wr.heap.size wr).alloc (Nat.le_refl _) (BXR q)
      have HB0 := hid (HB.out.alloc HB.out.size (BXR q))
      have HQ0 := hid (heap_alloc_new wr (BXR q))
      have HX0 := hid (kept HX.out hal)
      have HU0 := hid (hl.u.below hal)
      obtain ⟨W0, hW⟩ : ∃ W, W = wr.alloc (BXR q) := ⟨_, rfl⟩
      rw [← hW] at HB0 HX0 HU0 HQ0
      have HW := hid hW
      clear hW hl hal hbl
      go_upto_region 12 with fail
      rw [← HW.out]
      clear HW d0 d1 d2 d3 d4 d5 d6 d7 d8 HB HX
      obtain ⟨y0, y1, y2, y3, y4, y5, y6, y7, y8⟩ := Rou.cellsN HQ0.out
      obtain ⟨m, hm⟩ : ∃ m, m = q.us.length := ⟨_, rfl⟩
      rw [← hm] at y6 hus
      have HM := hid hm
      clear hm
      go_wp2
      go_loopw [52] (fun i wz => ∃ u : Nat, u ≤ m ∧ i = .int .i64 u ∧ Hid (∀ i, i < u → q.us.getD i 0 < (k : Int)) ∧ Hid (wz.heap[w.heap.size]? = some (BXC c)) ∧ Hid (Ino.Has wz q.ua q.us) ∧ Hid (Below w.heap.size w wz)) (fun i _ => m - (intOf i).toNat)
      case atStart => exact ⟨0, Nat.zero_le _, rfl, fun i hi => absurd hi (by omega), HX0, HU0, HB0⟩
      case round =>
        clear HX0 HU0 HB0 HQ0 y0 y1 y2 y3 y4 y5 y6 y7 y8
        obtain ⟨u, hu, rfl, HD, HX, HU, HB⟩ := hrel
        by_cases hlu : u < m
        rotate_left
        · have HY := hid (HNo.out (fun i hi => HD.out i (by have := HM.out; omega)))
          have i3 : ¬ (u : Int) < (m : Int) := by omega
          go_wp2
          go_roundw
          case rel => exact ⟨j + 1, by omega, by go_num, HY, HX, HB⟩
          case measure => simp [intOf]; omega
        obtain ⟨bu, ou, hau, hcu⟩ := at_int HU.out (k := u) (by have := HM.out; omega)
        have HU2 : Hid (Ino.Has wr (some ⟨bu, ou, none⟩) q.us) := by have h := HU.out; rw [hau] at h; exact h
        rw [hau]
        have HGo : Hid (q.us.getD u 0 < (k : Int) → ∀ i, i < u + 1 → q.us.getD i 0 < (k : Int)) := by
          intro h i hi
          by_cases e : i = u
          · subst e; exact h
          · exact HD.out i (by omega)
        have HSt : Hid (¬ q.us.getD u 0 < (k : Int) → gN c = false) := fun h => HYe.out fun g => h (g u (by have := HM.out; omega))
        have i3 : (u : Int) < (m : Int) := by omega
        obtain ⟨x0, x1, x2, x3⟩ := cells4 HX.out
        rw [HNN.out] at x1
        clear hau
        generalize q.us.getD u 0 = z at *
        by_cases hz : z ≥ (k : Int)
        · have HY := hid (HSt.out (by omega))
          go_wp2
          go_ret
          exact ⟨by rw [HY.out]; rfl, HB.out⟩
        · have HY := hid (HGo.out (by omega))
          go_wp2
          go_roundw
          case rel => exact ⟨u + 1, by omega, by go_num, HY, HX, HU2, HB⟩
          case measure => simp [intOf]; omega
end Go.Proofs.YthcogkoleiejgaaGreatDoor.Ntf
