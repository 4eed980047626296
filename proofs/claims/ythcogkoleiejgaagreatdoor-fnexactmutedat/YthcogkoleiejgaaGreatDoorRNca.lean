/- Configurations of telling: how they lie in memory; measured, copied, compared. -/
import Derived.Test.YthcogkoleiejgaaGreatDoorRRoo
import Derived.Test.YthcogkoleiejgaaGreatDoorRIvo
import Derived.Test.YthcogkoleiejgaaGreatDoorRSlo
import Derived.Test.YthcogkoleiejgaaGreatDoorRIho
namespace Go.Proofs.YthcogkoleiejgaaGreatDoor.Rou
open Go.RowKit Go.Proofs.YthcogkoleiejgaaGreatDoor.Rwc
theorem OwnT.setl {X g n b o : Nat} {ts : List T} {w : World} (h : OwnT X g n ts w) (hc : b < g) (v : Value) : OwnT X g n ts (w.setCell ⟨b, o, none⟩ v) := by
  obtain ⟨Z, hZ⟩ := h.kin
  exact ⟨own_set h.row (by simp only; omega) v, Z, hZ.len, hZ.low, hZ.up, fun i hi => (hZ.own i hi).set (.inl (by have := hZ.low; have := hZ.zle i 0 (Nat.zero_le _) (by omega); omega)) v, by simpa using hZ.top⟩
theorem Same.rfl' {n : Nat} {ts : List T} : Same n ts ts := fun _ _ => rfl
end Go.Proofs.YthcogkoleiejgaaGreatDoor.Rou
namespace Go.Proofs.YthcogkoleiejgaaGreatDoor.Ivn
open Go.RowKit Go.Proofs.YthcogkoleiejgaaGreatDoor.Rwc
theorem OwnT.setl {X g n b o : Nat} {ts : List T} {w : World} (h : OwnT X g n ts w) (hc : b < g) (v : Value) : OwnT X g n ts (w.setCell ⟨b, o, none⟩ v) := by
  obtain ⟨Z, hZ⟩ := h.kin
  exact ⟨own_set h.row (by simp only; omega) v, Z, hZ.len, hZ.low, hZ.up, fun i hi => (hZ.own i hi).set (.inl (by have := hZ.low; have := hZ.zle i 0 (Nat.zero_le _) (by omega); omega)) v, by simpa using hZ.top⟩
theorem Same.rfl' {n : Nat} {ts : List T} : Same n ts ts := fun _ _ => rfl
end Go.Proofs.YthcogkoleiejgaaGreatDoor.Ivn
namespace Go.Proofs.YthcogkoleiejgaaGreatDoor.Sln
open Go.RowKit Go.Proofs.YthcogkoleiejgaaGreatDoor.Rwc
theorem OwnT.setl {X g n b o : Nat} {ts : List T} {w : World} (h : OwnT X g n ts w) (hc : b < g) (v : Value) : OwnT X g n ts (w.setCell ⟨b, o, none⟩ v) := by
  obtain ⟨Z, hZ⟩ := h.kin
  exact ⟨own_set h.row (by simp only; omega) v, Z, hZ.len, hZ.low, hZ.up, fun i hi => (hZ.own i hi).set (.inl (by have := hZ.low; have := hZ.zle i 0 (Nat.zero_le _) (by omega); omega)) v, by simpa using hZ.top⟩
theorem Same.rfl' {n : Nat} {ts : List T} : Same n ts ts := fun _ _ => rfl
end Go.Proofs.YthcogkoleiejgaaGreatDoor.Sln
namespace Go.Proofs.YthcogkoleiejgaaGreatDoor.Inh
open Go.RowKit Go.Proofs.YthcogkoleiejgaaGreatDoor.Rwc
theorem OwnT.setl {X g n b o : Nat} {ts : List T} {w : World} (h : OwnT X g n ts w) (hc : b < g) (v : Value) : OwnT X g n ts (w.setCell ⟨b, o, none⟩ v) := by
  obtain ⟨Z, hZ⟩ := h.kin
  exact ⟨own_set h.row (by simp only; omega) v, Z, hZ.len, hZ.low, hZ.up, fun i hi => (hZ.own i hi).set (.inl (by have := hZ.low; have := hZ.zle i 0 (Nat.zero_le _) (by omega); omega)) v, by simpa using hZ.top⟩
theorem Same.rfl' {n : Nat} {ts : List T} : Same n ts ts := fun _ _ => rfl
end Go.Proofs.YthcogkoleiejgaaGreatDoor.Inh
namespace Go.Proofs.YthcogkoleiejgaaGreatDoor.Ntf
open Go.RowKit
open Go.Proofs.YthcogkoleiejgaaGreatDoor.Rwc

structure C where
  r : List Rou.T
  ra : Option Addr
  rc : Nat
  i : List Ivn.T
  ia : Option Addr
  ic : Nat
  s : List Sln.T
  sa : Option Addr
  sc : Nat
  x : List Inh.T
  xa : Option Addr
  xc : Nat
abbrev arC (c : C) : Array Value := #[.slice c.ra c.r.length c.rc, .slice c.ia c.i.length c.ic, .slice c.sa c.s.length c.sc, .slice c.xa c.x.length c.xc]
abbrev agC (c : C) : Value := .agg #[.slice c.ra c.r.length c.rc, .slice c.ia c.i.length c.ic, .slice c.sa c.s.length c.sc, .slice c.xa c.x.length c.xc]
structure Has (w : World) (c : C) : Prop where
  r : Rou.Has w c.ra c.r
  i : Ivn.Has w c.ia c.i
  s : Sln.Has w c.sa c.s
  x : Inh.Has w c.xa c.x
theorem Has.below {w w' : World} {c : C} (h : Has w c) (hb : Below w.heap.size w w') : Has w' c := ⟨h.r.below hb, h.i.below hb, h.s.below hb, h.x.below hb⟩
structure Fit (c : C) : Prop where
  r : Rou.Fit c.r ∧ c.r.length ≤ maxLen
  i : Ivn.Fit c.i ∧ c.i.length ≤ maxLen
  s : Sln.Fit c.s ∧ c.s.length ≤ maxLen
  x : Inh.Fit c.x ∧ c.x.length ≤ maxLen
structure Sml (c : C) : Prop where
  r : c.r.length ≤ 1048576 ∧ Rou.Sml c.r
  i : c.i.length ≤ 1048576 ∧ Ivn.Sml c.i
  s : c.s.length ≤ 1048576 ∧ Sln.Sml c.s
  x : c.x.length ≤ 1048576 ∧ Inh.Sml c.x
/-- The same, somewhere else. -/
structure Same (c d : C) : Prop where
  r : d.r.length = c.r.length ∧ Rou.Same c.r.length c.r d.r
  i : d.i.length = c.i.length ∧ Ivn.Same c.i.length c.i d.i
  s : d.s.length = c.s.length ∧ Sln.Same c.s.length c.s d.s
  x : d.x.length = c.x.length ∧ Inh.Same c.x.length c.x d.x
theorem Same.fit {c d : C} (h : Same c d) (g : Fit c) : Fit d := ⟨⟨h.r.2.fit h.r.1 g.r.1, by rw [h.r.1]; exact g.r.2⟩, ⟨h.i.2.fit h.i.1 g.i.1, by rw [h.i.1]; exact g.i.2⟩, ⟨h.s.2.fit h.s.1 g.s.1, by rw [h.s.1]; exact g.s.2⟩, ⟨h.x.2.fit h.x.1 g.x.1, by rw [h.x.1]; exact g.x.2⟩⟩
theorem Same.sml {c d : C} (h : Same c d) (g : Sml c) : Sml d := ⟨⟨by rw [h.r.1]; exact g.r.1, h.r.2.sml rfl h.r.1 g.r.2⟩, ⟨by rw [h.i.1]; exact g.i.1, h.i.2.sml rfl h.i.1 g.i.2⟩, ⟨by rw [h.s.1]; exact g.s.1, h.s.2.sml rfl h.s.1 g.s.2⟩, ⟨by rw [h.x.1]; exact g.x.1, h.x.2.sml rfl h.x.1 g.x.2⟩⟩
theorem Same.trans' {c d e : C} (h : Same c d) (g : Same c e) : Same d e := ⟨⟨g.r.1.trans h.r.1.symm, by rw [h.r.1]; exact h.r.2.trans' g.r.2⟩, ⟨g.i.1.trans h.i.1.symm, by rw [h.i.1]; exact h.i.2.trans' g.i.2⟩, ⟨g.s.1.trans h.s.1.symm, by rw [h.s.1]; exact h.s.2.trans' g.s.2⟩, ⟨g.x.1.trans h.x.1.symm, by rw [h.x.1]; exact h.x.2.trans' g.x.2⟩⟩
theorem cells4 {x : World} {b : Nat} {v0 v1 v2 v3 : Value} {t : TypeId} (h : x.heap[b]? = some (.cells #[v0, v1, v2, v3] t)) : x.cell? ⟨b, 0, none⟩ = some v0 ∧ x.cell? ⟨b, 1, none⟩ = some v1 ∧ x.cell? ⟨b, 2, none⟩ = some v2 ∧ x.cell? ⟨b, 3, none⟩ = some v3 :=
  ⟨cell_at h 0, cell_at h 1, cell_at h 2, cell_at h 3⟩
theorem froz4 {x : World} {b : Nat} {v0 v1 v2 v3 : Value} {t : TypeId} (h : x.heap[b]? = some (.cells #[v0, v1, v2, v3] t)) : x.frozen? ⟨b, 0, none⟩ = false ∧ x.frozen? ⟨b, 1, none⟩ = false ∧ x.frozen? ⟨b, 2, none⟩ = false ∧ x.frozen? ⟨b, 3, none⟩ = false :=
  ⟨froz_at h 0, froz_at h 1, froz_at h 2, froz_at h 3⟩

set_option maxHeartbeats 4000000 in
theorem f6 (c : C) (L : Int) (w : World) (hL0 : 0 ≤ L) (hL1 : L ≤ 1048576) (hr : Has w c) (hf : Fit c) :
    Calls Tryz.prog 6 #[agC c, .int .i64 L] w fun e w' => ∃ y : Int, e = .returned (.int .i64 y) ∧ -1 ≤ y ∧ y ≤ L ∧ (0 ≤ y → Sml c) ∧ Below w.heap.size w w' := by
  have HB0 := hid ((Below.refl w.heap.size w).alloc (Nat.le_refl _) (.cells (arC c) 27))
  have HX0 := hid (heap_alloc_new w (.cells (arC c) 27))
  have HR := hid hr
  have HF := hid hf
  have HNO : Hid (∀ y : Int, y < 0 → 0 ≤ y → Sml c) := fun y h1 h2 => by omega
  clear hr hf
  obtain ⟨W0, hW⟩ : ∃ W, W = w.alloc (.cells (arC c) 27) := ⟨_, rfl⟩
  rw [← hW] at HB0 HX0
  have HW := hid hW
  clear hW
  simp only [agC]
  go_enter Tryz.func6, Tryz.ntmps6
  go_upto_region 1 with fail
  rw [← HW.out]
  clear HW
  obtain ⟨y, hy⟩ : ∃ y : Int, y = L := ⟨_, rfl⟩
  have hy0 : 0 ≤ y := by omega
  have hyL : y ≤ L := by omega
  rw [← hy]
  clear hy
  obtain ⟨x0, x1, x2, x3⟩ := cells4 HX0.out
  go_wp2_with fail
  refine (Rou.f18 c.ra c.r.length c.rc y c.r _ (by omega) (by omega) rfl (HR.out.r.below HB0.out) HF.out.r.1 HF.out.r.2).mono ?_
  rintro e w1 ⟨u0, rfl, u0l, u0h, hu, hb⟩
  have HB1 := hid (HB0.out.trans (hb.mono HB0.out.size))
  have HX1 := hid (kept HX0.out hb)
  have HU0 := hid hu
  clear hb hu x0 x1 x2 x3
  by_cases g0 : u0 < 0
  · go_wp2
    go_ret
    exact ⟨-1, rfl, by omega, by omega, HNO.out _ (by omega), HB1.out⟩
  have HV0 := hid (HU0.out (by omega))
  obtain ⟨x0, x1, x2, x3⟩ := cells4 HX1.out
  go_wp2_with fail
  refine (Ivn.f19 c.ia c.i.length c.ic u0 c.i _ (by omega) (by omega) rfl (HR.out.i.below HB1.out) HF.out.i.1 HF.out.i.2).mono ?_
  rintro e w2 ⟨u1, rfl, u1l, u1h, hu, hb⟩
  have HB2 := hid (HB1.out.trans (hb.mono HB1.out.size))
  have HX2 := hid (kept HX1.out hb)
  have HU1 := hid hu
  clear hb hu x0 x1 x2 x3
  by_cases g1 : u1 < 0
  · go_wp2
    go_ret
    exact ⟨-1, rfl, by omega, by omega, HNO.out _ (by omega), HB2.out⟩
  have HV1 := hid (HU1.out (by omega))
  obtain ⟨x0, x1, x2, x3⟩ := cells4 HX2.out
  go_wp2_with fail
  refine (Sln.f20 c.sa c.s.length c.sc u1 c.s _ (by omega) (by omega) rfl (HR.out.s.below HB2.out) HF.out.s.1 HF.out.s.2).mono ?_
  rintro e w3 ⟨u2, rfl, u2l, u2h, hu, hb⟩
  have HB3 := hid (HB2.out.trans (hb.mono HB2.out.size))
  have HX3 := hid (kept HX2.out hb)
  have HU2 := hid hu
  clear hb hu x0 x1 x2 x3
  by_cases g2 : u2 < 0
  · go_wp2
    go_ret
    exact ⟨-1, rfl, by omega, by omega, HNO.out _ (by omega), HB3.out⟩
  have HV2 := hid (HU2.out (by omega))
  obtain ⟨x0, x1, x2, x3⟩ := cells4 HX3.out
  go_wp2_with fail
  refine (Inh.f21 c.xa c.x.length c.xc u2 c.x _ (by omega) (by omega) rfl (HR.out.x.below HB3.out) HF.out.x.1 HF.out.x.2).mono ?_
  rintro e w4 ⟨u3, rfl, u3l, u3h, hu, hb⟩
  have HB4 := hid (HB3.out.trans (hb.mono HB3.out.size))
  have HX4 := hid (kept HX3.out hb)
  have HU3 := hid hu
  clear hb hu x0 x1 x2 x3
  by_cases g3 : u3 < 0
  · go_wp2
    go_ret
    exact ⟨-1, rfl, by omega, by omega, HNO.out _ (by omega), HB4.out⟩
  have HV3 := hid (HU3.out (by omega))
  have HS : Hid (Sml c) := by
    have a0 := HV0.out; have a1 := HV1.out; have a2 := HV2.out; have a3 := HV3.out
    exact ⟨⟨by omega, Rou.sml_tot (by omega)⟩, ⟨by omega, Ivn.sml_tot (by omega)⟩, ⟨by omega, Sln.sml_tot (by omega)⟩, ⟨by omega, Inh.sml_tot (by omega)⟩⟩
  go_wp2
  go_ret
  exact ⟨_, rfl, by omega, by omega, fun _ => HS.out, HB4.out⟩

/-- The three boxes of toNotifyConf, the copy up to somewhere. -/
structure Ti (w : World) (c : C) (m0 m1 m2 m3 : Value) (W : World) : Prop where
  arg : W.heap[w.heap.size]? = some (.cells (arC c) 27)
  res : W.heap[w.heap.size + 1]? = some (.cells #[.slice none 0 0, .slice none 0 0, .slice none 0 0, .slice none 0 0] 35)
  out : W.heap[w.heap.size + 2]? = some (.cells #[m0, m1, m2, m3] 35)
  bel : Below w.heap.size w W
theorem Ti.mv {w W W' : World} {c : C} {m0 m1 m2 m3 : Value} (h : Ti w c m0 m1 m2 m3 W) (hb : Below W.heap.size W W') : Ti w c m0 m1 m2 m3 W' :=
  ⟨kept h.arg hb, kept h.res hb, kept h.out hb, h.bel.trans (hb.mono h.bel.size)⟩
theorem Ti.s0 {w W : World} {c : C} {m0 m1 m2 m3 : Value} (h : Ti w c m0 m1 m2 m3 W) (x : Value) : Ti w c x m1 m2 m3 (W.setCell ⟨w.heap.size + 2, 0, none⟩ x) := ⟨set_else h.arg (by simp only; omega), set_else h.res (by simp only; omega), set_at h.out, h.bel.setCell (by simp) _⟩
theorem Ti.s1 {w W : World} {c : C} {m0 m1 m2 m3 : Value} (h : Ti w c m0 m1 m2 m3 W) (x : Value) : Ti w c m0 x m2 m3 (W.setCell ⟨w.heap.size + 2, 1, none⟩ x) := ⟨set_else h.arg (by simp only; omega), set_else h.res (by simp only; omega), set_at h.out, h.bel.setCell (by simp) _⟩
theorem Ti.s2 {w W : World} {c : C} {m0 m1 m2 m3 : Value} (h : Ti w c m0 m1 m2 m3 W) (x : Value) : Ti w c m0 m1 x m3 (W.setCell ⟨w.heap.size + 2, 2, none⟩ x) := ⟨set_else h.arg (by simp only; omega), set_else h.res (by simp only; omega), set_at h.out, h.bel.setCell (by simp) _⟩
theorem Ti.s3 {w W : World} {c : C} {m0 m1 m2 m3 : Value} (h : Ti w c m0 m1 m2 m3 W) (x : Value) : Ti w c m0 m1 m2 x (W.setCell ⟨w.heap.size + 2, 3, none⟩ x) := ⟨set_else h.arg (by simp only; omega), set_else h.res (by simp only; omega), set_at h.out, h.bel.setCell (by simp) _⟩
theorem Ti.first (w : World) (c : C) : Ti w c (.slice none 0 0) (.slice none 0 0) (.slice none 0 0) (.slice none 0 0) (((w.alloc (.cells (arC c) 27)).alloc (.cells #[.slice none 0 0, .slice none 0 0, .slice none 0 0, .slice none 0 0] 35)).alloc (.cells #[.slice none 0 0, .slice none 0 0, .slice none 0 0, .slice none 0 0] 35)) := by
  have b1 := fun (W : World) o => (Below.refl W.heap.size W).alloc (Nat.le_refl _) o
  refine ⟨kept (kept (heap_alloc_new w _) (b1 _ _)) (b1 _ _), ?_, ?_, ((b1 w _).alloc (by simp) _).alloc (by simp; omega) _⟩
  · have := kept (heap_alloc_new (w.alloc (.cells (arC c) 27)) (.cells #[.slice none 0 0, .slice none 0 0, .slice none 0 0, .slice none 0 0] 35)) (b1 _ (.cells #[.slice none 0 0, .slice none 0 0, .slice none 0 0, .slice none 0 0] 35))
    simpa using this
  · have := heap_alloc_new ((w.alloc (.cells (arC c) 27)).alloc (.cells #[.slice none 0 0, .slice none 0 0, .slice none 0 0, .slice none 0 0] 35)) (.cells #[.slice none 0 0, .slice none 0 0, .slice none 0 0, .slice none 0 0] 35)
    simpa using this

set_option maxRecDepth 100000 in
set_option maxHeartbeats 8000000 in
theorem f8 (c : C) (w : World) (hr : Has w c) (hs : Sml c) :
    Calls Tryz.prog 8 #[agC c] w fun e w' => ∃ d : C, e = .returned (agC d) ∧ Same c d ∧ Has w' d ∧ Below w.heap.size w w' := by
  have HR := hid hr
  have HS := hid hs
  clear hr hs
  have HT := hid (Ti.first w c)
  obtain ⟨W0, hW0⟩ : ∃ W, W = ((w.alloc (.cells (arC c) 27)).alloc (.cells #[.slice none 0 0, .slice none 0 0, .slice none 0 0, .slice none 0 0] 35)).alloc (.cells #[.slice none 0 0, .slice none 0 0, .slice none 0 0, .slice none 0 0] 35) := ⟨_, rfl⟩
  rw [← hW0] at HT
  have HW := hid hW0
  clear hW0
  simp only [agC]
  go_enter Tryz.func8, Tryz.ntmps8
  go_upto_region 2 with fail
  rw [← HW.out]
  clear HW
  obtain ⟨x0, x1, x2, x3⟩ := cells4 HT.out.arg
  go_wp2_with fail
  refine (Rou.f26 c.ra c.r.length c.rc c.r _ rfl HS.out.r.1 (HR.out.r.below HT.out.bel) HS.out.r.2).mono ?_
  rintro e v0 ⟨r', rfl, hsm, ho, hb⟩
  have hlt : w.heap.size + 2 < W0.heap.size := lt_at HT.out.out
  have HQr := hid ho
  have HMr := hid hsm
  have HGr := hid hlt
  have HU := hid (HT.out.mv hb)
  clear HT x0 x1 x2 x3 ho hb hlt hsm
  obtain ⟨Sr, hS⟩ : ∃ S, S = W0.heap.size := ⟨_, rfl⟩
  rw [← hS] at HQr HGr ⊢
  clear hS
  obtain ⟨x0, x1, x2, x3⟩ := cells4 HU.out.out
  obtain ⟨f0, f1, f2, f3⟩ := froz4 HU.out.out
  have HT := hid (HU.out.s0 (.slice (some ⟨Sr, 0, none⟩) c.r.length c.r.length))
  have HQr' := hid (HQr.out.setl (o := 0) HGr.out (.slice (some ⟨Sr, 0, none⟩) c.r.length c.r.length))
  clear HQr
  obtain ⟨W1, hW⟩ : ∃ W, W = v0.setCell ⟨w.heap.size + 2, 0, none⟩ (.slice (some ⟨Sr, 0, none⟩) c.r.length c.r.length) := ⟨_, rfl⟩
  rw [← hW] at HT HQr'
  have HQr := HQr'
  clear HQr'
  have HW := hid hW
  clear hW HU
  go_upto_region 3 with fail
  rw [← HW.out]
  clear HW x0 x1 x2 x3 f0 f1 f2 f3
  obtain ⟨x0, x1, x2, x3⟩ := cells4 HT.out.arg
  go_wp2_with fail
  refine (Ivn.f27 c.ia c.i.length c.ic c.i _ rfl HS.out.i.1 (HR.out.i.below HT.out.bel) HS.out.i.2).mono ?_
  rintro e v1 ⟨i', rfl, hsm, ho, hb⟩
  have hlt : w.heap.size + 2 < W1.heap.size := lt_at HT.out.out
  have HQi := hid ho
  have HMi := hid hsm
  have HGi := hid hlt
  have HPr := hid (HQr.out.below hb)
  clear HQr
  have HU := hid (HT.out.mv hb)
  clear HT x0 x1 x2 x3 ho hb hlt hsm
  obtain ⟨Si, hS⟩ : ∃ S, S = W1.heap.size := ⟨_, rfl⟩
  rw [← hS] at HQi HGi ⊢
  clear hS
  have HQr := HPr
  clear HPr
  obtain ⟨x0, x1, x2, x3⟩ := cells4 HU.out.out
  obtain ⟨f0, f1, f2, f3⟩ := froz4 HU.out.out
  have HT := hid (HU.out.s1 (.slice (some ⟨Si, 0, none⟩) c.i.length c.i.length))
  have HQr' := hid (HQr.out.setl (o := 1) HGr.out (.slice (some ⟨Si, 0, none⟩) c.i.length c.i.length))
  clear HQr
  have HQi' := hid (HQi.out.setl (o := 1) HGi.out (.slice (some ⟨Si, 0, none⟩) c.i.length c.i.length))
  clear HQi
  obtain ⟨W2, hW⟩ : ∃ W, W = v1.setCell ⟨w.heap.size + 2, 1, none⟩ (.slice (some ⟨Si, 0, none⟩) c.i.length c.i.length) := ⟨_, rfl⟩
  rw [← hW] at HT HQr' HQi'
  have HQr := HQr'
  clear HQr'
  have HQi := HQi'
  clear HQi'
  have HW := hid hW
  clear hW HU
  go_upto_region 4 with fail
  rw [← HW.out]
  clear HW x0 x1 x2 x3 f0 f1 f2 f3
  obtain ⟨x0, x1, x2, x3⟩ := cells4 HT.out.arg
  go_wp2_with fail
  refine (Sln.f28 c.sa c.s.length c.sc c.s _ rfl HS.out.s.1 (HR.out.s.below HT.out.bel) HS.out.s.2).mono ?_
  rintro e v2 ⟨s', rfl, hsm, ho, hb⟩
  have hlt : w.heap.size + 2 < W2.heap.size := lt_at HT.out.out
  have HQs := hid ho
  have HMs := hid hsm
  have HGs := hid hlt
  have HPr := hid (HQr.out.below hb)
  clear HQr
  have HPi := hid (HQi.out.below hb)
  clear HQi
  have HU := hid (HT.out.mv hb)
  clear HT x0 x1 x2 x3 ho hb hlt hsm
  obtain ⟨Ss, hS⟩ : ∃ S, S = W2.heap.size := ⟨_, rfl⟩
  rw [← hS] at HQs HGs ⊢
  clear hS
  have HQr := HPr
  clear HPr
  have HQi := HPi
  clear HPi
  obtain ⟨x0, x1, x2, x3⟩ := cells4 HU.out.out
  obtain ⟨f0, f1, f2, f3⟩ := froz4 HU.out.out
  have HT := hid (HU.out.s2 (.slice (some ⟨Ss, 0, none⟩) c.s.length c.s.length))
  have HQr' := hid (HQr.out.setl (o := 2) HGr.out (.slice (some ⟨Ss, 0, none⟩) c.s.length c.s.length))
  clear HQr
  have HQi' := hid (HQi.out.setl (o := 2) HGi.out (.slice (some ⟨Ss, 0, none⟩) c.s.length c.s.length))
  clear HQi
  have HQs' := hid (HQs.out.setl (o := 2) HGs.out (.slice (some ⟨Ss, 0, none⟩) c.s.length c.s.length))
  clear HQs
  obtain ⟨W3, hW⟩ : ∃ W, W = v2.setCell ⟨w.heap.size + 2, 2, none⟩ (.slice (some ⟨Ss, 0, none⟩) c.s.length c.s.length) := ⟨_, rfl⟩
  rw [← hW] at HT HQr' HQi' HQs'
  have HQr := HQr'
  clear HQr'
  have HQi := HQi'
  clear HQi'
  have HQs := HQs'
  clear HQs'
  have HW := hid hW
  clear hW HU
  go_upto_region 5 with fail
  rw [← HW.out]
  clear HW x0 x1 x2 x3 f0 f1 f2 f3
  obtain ⟨x0, x1, x2, x3⟩ := cells4 HT.out.arg
  go_wp2_with fail
  refine (Inh.f29 c.xa c.x.length c.xc c.x _ rfl HS.out.x.1 (HR.out.x.below HT.out.bel) HS.out.x.2).mono ?_
  rintro e v3 ⟨x', rfl, hsm, ho, hb⟩
  have hlt : w.heap.size + 2 < W3.heap.size := lt_at HT.out.out
  have HQx := hid ho
  have HMx := hid hsm
  have HGx := hid hlt
  have HPr := hid (HQr.out.below hb)
  clear HQr
  have HPi := hid (HQi.out.below hb)
  clear HQi
  have HPs := hid (HQs.out.below hb)
  clear HQs
  have HU := hid (HT.out.mv hb)
  clear HT x0 x1 x2 x3 ho hb hlt hsm
  obtain ⟨Sx, hS⟩ : ∃ S, S = W3.heap.size := ⟨_, rfl⟩
  rw [← hS] at HQx HGx ⊢
  clear hS
  have HQr := HPr
  clear HPr
  have HQi := HPi
  clear HPi
  have HQs := HPs
  clear HPs
  obtain ⟨x0, x1, x2, x3⟩ := cells4 HU.out.out
  obtain ⟨f0, f1, f2, f3⟩ := froz4 HU.out.out
  have HT := hid (HU.out.s3 (.slice (some ⟨Sx, 0, none⟩) c.x.length c.x.length))
  have HQr' := hid (HQr.out.setl (o := 3) HGr.out (.slice (some ⟨Sx, 0, none⟩) c.x.length c.x.length))
  clear HQr
  have HQi' := hid (HQi.out.setl (o := 3) HGi.out (.slice (some ⟨Sx, 0, none⟩) c.x.length c.x.length))
  clear HQi
  have HQs' := hid (HQs.out.setl (o := 3) HGs.out (.slice (some ⟨Sx, 0, none⟩) c.x.length c.x.length))
  clear HQs
  have HQx' := hid (HQx.out.setl (o := 3) HGx.out (.slice (some ⟨Sx, 0, none⟩) c.x.length c.x.length))
  clear HQx
  obtain ⟨W4, hW⟩ : ∃ W, W = v3.setCell ⟨w.heap.size + 2, 3, none⟩ (.slice (some ⟨Sx, 0, none⟩) c.x.length c.x.length) := ⟨_, rfl⟩
  rw [← hW] at HT HQr' HQi' HQs' HQx'
  have HQr := HQr'
  clear HQr'
  have HQi := HQi'
  clear HQi'
  have HQs := HQs'
  clear HQs'
  have HQx := HQx'
  clear HQx'
  have HW := hid hW
  clear hW HU
  go_upto_region 6 with fail
  rw [← HW.out]
  clear HW x0 x1 x2 x3 f0 f1 f2 f3
  obtain ⟨x0, x1, x2, x3⟩ := cells4 HT.out.out
  obtain ⟨y0, y1, y2, y3⟩ := cells4 HT.out.res
  obtain ⟨f0, f1, f2, f3⟩ := froz4 HT.out.res
  have HE : Hid (∀ x, x = (((W4.setCell ⟨w.heap.size + 1, 0, none⟩ (.slice (some ⟨Sr, 0, none⟩) c.r.length c.r.length)).setCell ⟨w.heap.size + 1, 1, none⟩ (.slice (some ⟨Si, 0, none⟩) c.i.length c.i.length)).setCell ⟨w.heap.size + 1, 2, none⟩ (.slice (some ⟨Ss, 0, none⟩) c.s.length c.s.length)).setCell ⟨w.heap.size + 1, 3, none⟩ (.slice (some ⟨Sx, 0, none⟩) c.x.length c.x.length) → x.heap[w.heap.size + 1]? = some (.cells #[.slice (some ⟨Sr, 0, none⟩) c.r.length c.r.length, .slice (some ⟨Si, 0, none⟩) c.i.length c.i.length, .slice (some ⟨Ss, 0, none⟩) c.s.length c.s.length, .slice (some ⟨Sx, 0, none⟩) c.x.length c.x.length] 35) ∧ Below w.heap.size w x ∧ Rou.Has x (some ⟨Sr, 0, none⟩) r' ∧ Ivn.Has x (some ⟨Si, 0, none⟩) i' ∧ Sln.Has x (some ⟨Ss, 0, none⟩) s' ∧ Inh.Has x (some ⟨Sx, 0, none⟩) x') := by
    rintro x rfl
    refine ⟨?_, Below.setCell (Below.setCell (Below.setCell (Below.setCell (HT.out.bel) (by simp) _) (by simp) _) (by simp) _) (by simp) _, (Rou.OwnT.setl (Rou.OwnT.setl (Rou.OwnT.setl (Rou.OwnT.setl (HQr.out) (by have := HGr.out; omega) _) (by have := HGr.out; omega) _) (by have := HGr.out; omega) _) (by have := HGr.out; omega) _).has, (Ivn.OwnT.setl (Ivn.OwnT.setl (Ivn.OwnT.setl (Ivn.OwnT.setl (HQi.out) (by have := HGi.out; omega) _) (by have := HGi.out; omega) _) (by have := HGi.out; omega) _) (by have := HGi.out; omega) _).has, (Sln.OwnT.setl (Sln.OwnT.setl (Sln.OwnT.setl (Sln.OwnT.setl (HQs.out) (by have := HGs.out; omega) _) (by have := HGs.out; omega) _) (by have := HGs.out; omega) _) (by have := HGs.out; omega) _).has, (Inh.OwnT.setl (Inh.OwnT.setl (Inh.OwnT.setl (Inh.OwnT.setl (HQx.out) (by have := HGx.out; omega) _) (by have := HGx.out; omega) _) (by have := HGx.out; omega) _) (by have := HGx.out; omega) _).has⟩
    have h0 : (W4.setCell ⟨w.heap.size + 1, 0, none⟩ (.slice (some ⟨Sr, 0, none⟩) c.r.length c.r.length)).heap[w.heap.size + 1]? = some (.cells #[.slice (some ⟨Sr, 0, none⟩) c.r.length c.r.length, .slice none 0 0, .slice none 0 0, .slice none 0 0] 35) := set_at HT.out.res
    have h1 : ((W4.setCell ⟨w.heap.size + 1, 0, none⟩ (.slice (some ⟨Sr, 0, none⟩) c.r.length c.r.length)).setCell ⟨w.heap.size + 1, 1, none⟩ (.slice (some ⟨Si, 0, none⟩) c.i.length c.i.length)).heap[w.heap.size + 1]? = some (.cells #[.slice (some ⟨Sr, 0, none⟩) c.r.length c.r.length, .slice (some ⟨Si, 0, none⟩) c.i.length c.i.length, .slice none 0 0, .slice none 0 0] 35) := set_at h0
    have h2 : (((W4.setCell ⟨w.heap.size + 1, 0, none⟩ (.slice (some ⟨Sr, 0, none⟩) c.r.length c.r.length)).setCell ⟨w.heap.size + 1, 1, none⟩ (.slice (some ⟨Si, 0, none⟩) c.i.length c.i.length)).setCell ⟨w.heap.size + 1, 2, none⟩ (.slice (some ⟨Ss, 0, none⟩) c.s.length c.s.length)).heap[w.heap.size + 1]? = some (.cells #[.slice (some ⟨Sr, 0, none⟩) c.r.length c.r.length, .slice (some ⟨Si, 0, none⟩) c.i.length c.i.length, .slice (some ⟨Ss, 0, none⟩) c.s.length c.s.length, .slice none 0 0] 35) := set_at h1
    have h3 : ((((W4.setCell ⟨w.heap.size + 1, 0, none⟩ (.slice (some ⟨Sr, 0, none⟩) c.r.length c.r.length)).setCell ⟨w.heap.size + 1, 1, none⟩ (.slice (some ⟨Si, 0, none⟩) c.i.length c.i.length)).setCell ⟨w.heap.size + 1, 2, none⟩ (.slice (some ⟨Ss, 0, none⟩) c.s.length c.s.length)).setCell ⟨w.heap.size + 1, 3, none⟩ (.slice (some ⟨Sx, 0, none⟩) c.x.length c.x.length)).heap[w.heap.size + 1]? = some (.cells #[.slice (some ⟨Sr, 0, none⟩) c.r.length c.r.length, .slice (some ⟨Si, 0, none⟩) c.i.length c.i.length, .slice (some ⟨Ss, 0, none⟩) c.s.length c.s.length, .slice (some ⟨Sx, 0, none⟩) c.x.length c.x.length] 35) := set_at h2
    exact h3
  have HN : Hid (agC ⟨r', some ⟨Sr, 0, none⟩, c.r.length, i', some ⟨Si, 0, none⟩, c.i.length, s', some ⟨Ss, 0, none⟩, c.s.length, x', some ⟨Sx, 0, none⟩, c.x.length⟩ = .agg #[.slice (some ⟨Sr, 0, none⟩) c.r.length c.r.length, .slice (some ⟨Si, 0, none⟩) c.i.length c.i.length, .slice (some ⟨Ss, 0, none⟩) c.s.length c.s.length, .slice (some ⟨Sx, 0, none⟩) c.x.length c.x.length]) := by unfold Hid agC; simp only [HQr.out.len, HQi.out.len, HQs.out.len, HQx.out.len]
  go_wp2
  revert HE
  generalize hwf : World.setCell _ _ _ = wf
  intro HE
  obtain ⟨k1, k2, kr, ki, ks, kx⟩ := HE.out wf (by rw [← hwf])
  obtain ⟨r0, r1, r2, r3⟩ := cells4 k1
  refine bodyPost_ret (v := .agg #[.slice (some ⟨Sr, 0, none⟩) c.r.length c.r.length, .slice (some ⟨Si, 0, none⟩) c.i.length c.i.length, .slice (some ⟨Ss, 0, none⟩) c.s.length c.s.length, .slice (some ⟨Sx, 0, none⟩) c.x.length c.x.length]) (by simp [results, Tryz.results8, go_sem, r0, r1, r2, r3]) rfl ⟨⟨r', some ⟨Sr, 0, none⟩, c.r.length, i', some ⟨Si, 0, none⟩, c.i.length, s', some ⟨Ss, 0, none⟩, c.s.length, x', some ⟨Sx, 0, none⟩, c.x.length⟩, congrArg _ HN.out.symm, ⟨⟨HQr.out.len, HMr.out⟩, ⟨HQi.out.len, HMi.out⟩, ⟨HQs.out.len, HMs.out⟩, ⟨HQx.out.len, HMx.out⟩⟩, ⟨kr, ki, ks, kx⟩, k2⟩

set_option maxHeartbeats 4000000 in
theorem f10 (c d : C) (w : World) (hr : Has w c) (hr' : Has w d) (hs : Sml c) (he : Same c d) :
    Calls Tryz.prog 10 #[agC c, agC d] w fun e w' => e = .returned (.bool true) ∧ Below w.heap.size w w' := by
  have HB := hid (((Below.refl w.heap.size w).alloc (Nat.le_refl _) (.cells (arC c) 35)).alloc (by simp) (.cells (arC d) 35))
  have HA : Hid (((w.alloc (.cells (arC c) 35)).alloc (.cells (arC d) 35)).heap[w.heap.size]? = some (.cells (arC c) 35)) := kept (heap_alloc_new w _) ((Below.refl _ _).alloc (Nat.le_refl _) _)
  have HC : Hid (((w.alloc (.cells (arC c) 35)).alloc (.cells (arC d) 35)).heap[w.heap.size + 1]? = some (.cells (arC d) 35)) := by
    have := heap_alloc_new (w.alloc (.cells (arC c) 35)) (.cells (arC d) 35)
    unfold Hid
    simpa using this
  have HR := hid hr
  have HR' := hid hr'
  have HS := hid hs
  have HE := hid he
  clear hr hr' hs he
  obtain ⟨W0, hW⟩ : ∃ W, W = ((w.alloc (.cells (arC c) 35)).alloc (.cells (arC d) 35)) := ⟨_, rfl⟩
  rw [← hW] at HA HC HB
  have HW := hid hW
  clear hW
  simp only [agC]
  go_enter Tryz.func10, Tryz.ntmps10
  go_upto_region 1 with fail
  rw [← HW.out]
  clear HW
  obtain ⟨x0, x1, x2, x3⟩ := cells4 HA.out
  obtain ⟨y0, y1, y2, y3⟩ := cells4 HC.out
  have HL := hid HE.out.r.1
  go_wp2_with fail
  rw [HL.out]
  refine (Rou.f35 c.ra d.ra c.r.length c.rc d.rc c.r d.r _ rfl HL.out HS.out.r.1 (HR.out.r.below HB.out) (HR'.out.r.below HB.out) HE.out.r.2 HS.out.r.2).mono ?_
  rintro e W1 ⟨rfl, hb⟩
  have HA' := hid (kept HA.out hb)
  have HC' := hid (kept HC.out hb)
  have HB' := hid (HB.out.trans (hb.mono HB.out.size))
  clear HA HC HB HL hb x0 x1 x2 x3 y0 y1 y2 y3
  have HA := HA'
  have HC := HC'
  have HB := HB'
  clear HA' HC' HB'
  obtain ⟨x0, x1, x2, x3⟩ := cells4 HA.out
  obtain ⟨y0, y1, y2, y3⟩ := cells4 HC.out
  have HL := hid HE.out.i.1
  go_wp2_with fail
  rw [HL.out]
  refine (Ivn.f36 c.ia d.ia c.i.length c.ic d.ic c.i d.i _ rfl HL.out HS.out.i.1 (HR.out.i.below HB.out) (HR'.out.i.below HB.out) HE.out.i.2 HS.out.i.2).mono ?_
  rintro e W2 ⟨rfl, hb⟩
  have HA' := hid (kept HA.out hb)
  have HC' := hid (kept HC.out hb)
  have HB' := hid (HB.out.trans (hb.mono HB.out.size))
  clear HA HC HB HL hb x0 x1 x2 x3 y0 y1 y2 y3
  have HA := HA'
  have HC := HC'
  have HB := HB'
  clear HA' HC' HB'
  obtain ⟨x0, x1, x2, x3⟩ := cells4 HA.out
  obtain ⟨y0, y1, y2, y3⟩ := cells4 HC.out
  have HL := hid HE.out.s.1
  go_wp2_with fail
  rw [HL.out]
  refine (Sln.f37 c.sa d.sa c.s.length c.sc d.sc c.s d.s _ rfl HL.out HS.out.s.1 (HR.out.s.below HB.out) (HR'.out.s.below HB.out) HE.out.s.2 HS.out.s.2).mono ?_
  rintro e W3 ⟨rfl, hb⟩
  have HA' := hid (kept HA.out hb)
  have HC' := hid (kept HC.out hb)
  have HB' := hid (HB.out.trans (hb.mono HB.out.size))
  clear HA HC HB HL hb x0 x1 x2 x3 y0 y1 y2 y3
  have HA := HA'
  have HC := HC'
  have HB := HB'
  clear HA' HC' HB'
  obtain ⟨x0, x1, x2, x3⟩ := cells4 HA.out
  obtain ⟨y0, y1, y2, y3⟩ := cells4 HC.out
  have HL := hid HE.out.x.1
  go_wp2_with fail
  rw [HL.out]
  refine (Inh.f38 c.xa d.xa c.x.length c.xc d.xc c.x d.x _ rfl HL.out HS.out.x.1 (HR.out.x.below HB.out) (HR'.out.x.below HB.out) HE.out.x.2 HS.out.x.2).mono ?_
  rintro e W4 ⟨rfl, hb⟩
  have HA' := hid (kept HA.out hb)
  have HC' := hid (kept HC.out hb)
  have HB' := hid (HB.out.trans (hb.mono HB.out.size))
  clear HA HC HB HL hb x0 x1 x2 x3 y0 y1 y2 y3
  have HA := HA'
  have HC := HC'
  have HB := HB'
  clear HA' HC' HB'
  go_wp2
  go_ret
  exact ⟨rfl, HB.out⟩
end Go.Proofs.YthcogkoleiejgaaGreatDoor.Ntf
