/- Whether a route is muted: both MutedAts. -/
import Derived.Test.YthcogkoleiejgaaGreatDoorRNcb
import Derived.Test.YthcogkoleiejgaaGreatDoorRIvi
import Derived.Test.YthcogkoleiejgaaGreatDoorRNmt
import Derived.OrdersHeld
namespace Go.Proofs.YthcogkoleiejgaaGreatDoor.Ntf
open Go.RowKit
open Go.Proofs.YthcogkoleiejgaaGreatDoor.Rwc
open Go.Proofs.YthcogkoleiejgaaGreatDoor.Nmt (isT)

/-- Whether the interval of a number has a time. -/
noncomputable def hvK (c : C) (t : Int) (z : Int) : Bool := Rng.hv (ivO (c.i.getD z.toNat Ivn.t0)) t
noncomputable def mtd (c : C) (us : List Int) (t : Int) : Bool := us.any (hvK c t)
theorem mtd_none {c : C} {us : List Int} {t : Int} {k : Nat} (h : ∀ j, j < k → hvK c t (us.getD j 0) = false) (hk : us.length ≤ k) : mtd c us t = false := by
  unfold mtd
  rw [List.any_eq_false]
  intro s hs
  obtain ⟨i, hi, e⟩ := List.getElem_of_mem hs
  have := h i (by omega)
  have h1 : us.getD i 0 = us[i] := by simp [hi]
  rw [h1, e] at this
  simp [this]
theorem mtd_hit {c : C} {us : List Int} {t : Int} {k : Nat} (hk : k < us.length) (h : hvK c t (us.getD k 0) = true) : mtd c us t = true := by
  unfold mtd
  rw [List.any_eq_true]
  have h1 : us.getD k 0 = us[k] := by simp [hk]
  rw [h1] at h
  exact ⟨_, List.getElem_mem hk, h⟩
/-- Numbers of intervals that there are. -/
def Nums (N : Nat) (us : List Int) : Prop := ∀ i, i < us.length → 0 ≤ us.getD i 0 ∧ us.getD i 0 < (N : Int)
theorem nums_of {c : C} (h : GN c) {k : Nat} (hk : k < c.r.length) : Nums c.i.length (c.r.getD k Rou.t0).us ∧ (c.r.getD k Rou.t0).us.length ≤ 20 := by
  have hf := ok_frb (good_row h.r hk)
  exact ⟨fun i hi => ⟨(hf.2.2 i hi).1, h.m k hk i hi⟩, hf.1⟩
theorem gi_of {c : C} (h : GN c) {k : Nat} (hk : k < c.i.length) : Rng.GoodI (ivO (c.i.getD k Ivn.t0)) := by
  have := h.i.2 k hk
  refine Classical.byContradiction fun g => ?_
  rw [Rng.gi_false g] at this
  cases this
/-- The two boxes that the closure has. -/
structure Cap (c : C) (t : Int) (P T : Nat) (x : World) : Prop where
  p : x.heap[P]? = some (BXC c)
  t : x.heap[T]? = some (.cells #[.int .i64 t] 3)
theorem Cap.below {c : C} {t : Int} {P T : Nat} {x y : World} (h : Cap c t P T x) (hb : Below x.heap.size x y) : Cap c t P T y := ⟨kept h.p hb, kept h.t hb⟩
/-- What an interval's test wants. -/
structure Wld (c : C) (x : World) : Prop where
  has : Has x c
  mon : Cal.Mon x
  rgl : Cal.Rgl x
theorem Wld.below {c : C} {x y : World} (h : Wld c x) (hb : Below x.heap.size x y) : Wld c y := ⟨h.has.below hb, h.mon.below hb, h.rgl.below hb⟩

set_option maxHeartbeats 4000000 in
theorem f80 (c : C) (k P T : Nat) (t : Int) (w : World) (hk : k < c.i.length) (hg : GN c) (hz : Sml c) (hw : Wld c w) (hc : Cap c t P T w) :
    Calls Tryz.prog 80 #[.int .i64 k, .pointer (some ⟨P, 0, none⟩), .pointer (some ⟨T, 0, none⟩)] w fun e w' => e = .returned (.bool (hvK c t k)) ∧ Below w.heap.size w w' := by
  have HO : Hid (hvK c t k = Rng.hv (ivO (c.i.getD k Ivn.t0)) t) := by unfold Hid hvK; simp
  obtain ⟨b, off, ha, hbl, hcl, hl⟩ := hw.has.i.at2 k hk
  have hsm := hz.i.2 k hk
  have hgi := gi_of hg hk
  obtain ⟨d0, d1, d2, d3, d4, d5, d6⟩ := hcl.all
  obtain ⟨p0, p1, p2, p3⟩ := cells4 hc.p
  have t0 : w.cell? ⟨T, 0, none⟩ = some (.int .i64 t) := cell_at hc.t 0
  have HM := hid hw.mon
  have HRG := hid hw.rgl
  rw [ha] at p1
  have HLs := hid hl
  generalize c.i.getD k Ivn.t0 = q at *
  have HI := fun x h1 h2 h3 => hid (Rng.f81 (ivO q) t x h1 (ivO_sml hsm) hgi h2 h3)
  generalize Rng.hv (ivO q) t = R at *
  have hk' : (k : Int) < (c.i.length : Int) := by omega
  have hSd : (fun x : World => x.cell? ⟨P, 1, none⟩ = some (.slice (some ⟨b, off, none⟩) c.i.length c.ic) ∧ x.cell? ⟨T, 0, none⟩ = some (.int .i64 t) ∧ x.cell? ⟨b, off + k * 7, none⟩ = some (.int .i64 q.z) ∧ x.cell? ⟨b, off + k * 7 + 1, none⟩ = some (.slice q.ma q.ms.length q.mc) ∧ x.cell? ⟨b, off + k * 7 + 2, none⟩ = some (.slice q.ka q.ks.length q.kc) ∧ x.cell? ⟨b, off + k * 7 + 3, none⟩ = some (.slice q.da q.ds.length q.dc) ∧ x.cell? ⟨b, off + k * 7 + 4, none⟩ = some (.slice q.oa q.os.length q.oc) ∧ x.cell? ⟨b, off + k * 7 + 5, none⟩ = some (.slice q.ya q.ys.length q.yc) ∧ x.cell? ⟨b, off + k * 7 + 6, none⟩ = some (.slice q.ua q.us.length q.uc)) w.drew := ⟨p1, t0, d0, d1, d2, d3, d4, d5, d6⟩
  clear hcl hl hsm hgi hw hc ha hg hz p0 p2 p3
  go_enter Tryz.func80, Tryz.ntmps80
  go_upto_region 1 with fail
  refine wp_region_held_drew (S := fun x : World => x.cell? ⟨P, 1, none⟩ = some (.slice (some ⟨b, off, none⟩) c.i.length c.ic) ∧ x.cell? ⟨T, 0, none⟩ = some (.int .i64 t) ∧ x.cell? ⟨b, off + k * 7, none⟩ = some (.int .i64 q.z) ∧ x.cell? ⟨b, off + k * 7 + 1, none⟩ = some (.slice q.ma q.ms.length q.mc) ∧ x.cell? ⟨b, off + k * 7 + 2, none⟩ = some (.slice q.ka q.ks.length q.kc) ∧ x.cell? ⟨b, off + k * 7 + 3, none⟩ = some (.slice q.da q.ds.length q.dc) ∧ x.cell? ⟨b, off + k * 7 + 4, none⟩ = some (.slice q.oa q.os.length q.oc) ∧ x.cell? ⟨b, off + k * 7 + 5, none⟩ = some (.slice q.ya q.ys.length q.yc) ∧ x.cell? ⟨b, off + k * 7 + 6, none⟩ = some (.slice q.ua q.us.length q.uc)) rfl hSd (fun hHeld => ?_)
  refine wpAnyH_take (i := 0) (oi := { dst := some 5, op := _, type := _, pos := _, after := _, guard := _ }) (v := .pointer (some ⟨P, 1, none⟩)) rfl (by kernel_rfl) (by kernel_rfl) (by kernel_rfl) (fun _ _ _ h => h) (Or.inl ⟨by rfl, fun w hSw => by (try dsimp only at hSw); (try go_split_ands); go_simp⟩) (by first | trivial | assumption) ?_
  try simp only [Act.put, List.setIfInBounds_toArray, List.set_cons_zero, List.set_cons_succ]
  refine wpAnyH_take (i := 1) (oi := { dst := some 6, op := _, type := _, pos := _, after := _, guard := _ }) (v := .slice (some ⟨b, off, none⟩) c.i.length c.ic) rfl (by kernel_rfl) (by kernel_rfl) (by kernel_rfl) (fun _ _ _ h => h) (Or.inl ⟨by rfl, fun w hSw => by (try dsimp only at hSw); (try go_split_ands); go_simp⟩) (by first | trivial | assumption) ?_
  try simp only [Act.put, List.setIfInBounds_toArray, List.set_cons_zero, List.set_cons_succ]
  refine wpAnyH_take (i := 2) (oi := { dst := some 7, op := _, type := _, pos := _, after := _, guard := _ }) (v := .int .i64 k) rfl (by kernel_rfl) (by kernel_rfl) (by kernel_rfl) (fun _ _ _ h => h) (Or.inl ⟨by rfl, fun w hSw => by (try dsimp only at hSw); (try go_split_ands); go_simp⟩) (by first | trivial | assumption) ?_
  try simp only [Act.put, List.setIfInBounds_toArray, List.set_cons_zero, List.set_cons_succ]
  refine wpAnyH_take (i := 3) (oi := { dst := some 8, op := _, type := _, pos := _, after := _, guard := _ }) (v := .pointer (some ⟨b, off + k * 7, none⟩)) rfl (by kernel_rfl) (by kernel_rfl) (by kernel_rfl) (fun _ _ _ h => h) (Or.inl ⟨by rfl, fun w hSw => by (try dsimp only at hSw); (try go_split_ands); go_simp⟩) (by first | trivial | assumption) ?_
  try simp only [Act.put, List.setIfInBounds_toArray, List.set_cons_zero, List.set_cons_succ]
  refine wpAnyH_take (i := 4) (oi := { dst := some 9, op := _, type := _, pos := _, after := _, guard := _ }) (v := .agg #[.int .i64 q.z, .slice q.ma q.ms.length q.mc, .slice q.ka q.ks.length q.kc, .slice q.da q.ds.length q.dc, .slice q.oa q.os.length q.oc, .slice q.ya q.ys.length q.yc, .slice q.ua q.us.length q.uc]) rfl (by kernel_rfl) (by kernel_rfl) (by kernel_rfl) (fun _ _ _ h => h) (Or.inl ⟨by rfl, fun w hSw => by (try dsimp only at hSw); (try go_split_ands); go_simp⟩) (by first | trivial | assumption) ?_
  try simp only [Act.put, List.setIfInBounds_toArray, List.set_cons_zero, List.set_cons_succ]
  refine wpAnyH_take (i := 5) (oi := { dst := some 10, op := _, type := _, pos := _, after := _, guard := _ }) (v := .int .i64 t) rfl (by kernel_rfl) (by kernel_rfl) (by kernel_rfl) (fun _ _ _ h => h) (Or.inl ⟨by rfl, fun w hSw => by (try dsimp only at hSw); (try go_split_ands); go_simp⟩) (by first | trivial | assumption) ?_
  try simp only [Act.put, List.setIfInBounds_toArray, List.set_cons_zero, List.set_cons_succ]
  refine wpAnyH_ready (rs := [6]) (by kernel_rfl) (by simp) (AllReadyH.cons (o := { dst := some 11, op := _, type := _, pos := _, after := _, guard := _ }) rfl ?_ AllReadyH.nil)
  intro K1 hK1
  go_simp
  go_wp2_with (go_at_call 81; refine (HI _ (ivO_has (HLs.out.below (Below.refl _ _).drew)) (HM.out.below (Below.refl _ _).drew) (HRG.out.below (Below.refl _ _).drew)).out.mono ?_; rintro e w1 ⟨rfl, hb⟩)
  have HB := hid ((Below.refl w.heap.size w).drew.trans hb)
  have hS1 : (fun x : World => x.cell? ⟨P, 1, none⟩ = some (.slice (some ⟨b, off, none⟩) c.i.length c.ic) ∧ x.cell? ⟨T, 0, none⟩ = some (.int .i64 t) ∧ x.cell? ⟨b, off + k * 7, none⟩ = some (.int .i64 q.z) ∧ x.cell? ⟨b, off + k * 7 + 1, none⟩ = some (.slice q.ma q.ms.length q.mc) ∧ x.cell? ⟨b, off + k * 7 + 2, none⟩ = some (.slice q.ka q.ks.length q.kc) ∧ x.cell? ⟨b, off + k * 7 + 3, none⟩ = some (.slice q.da q.ds.length q.dc) ∧ x.cell? ⟨b, off + k * 7 + 4, none⟩ = some (.slice q.oa q.os.length q.oc) ∧ x.cell? ⟨b, off + k * 7 + 5, none⟩ = some (.slice q.ya q.ys.length q.yc) ∧ x.cell? ⟨b, off + k * 7 + 6, none⟩ = some (.slice q.ua q.us.length q.uc)) w1 := ⟨(hb.cell (p := ⟨P, 1, none⟩) (World.block_lt_of_cell? w _ p1)).trans p1, (hb.cell (p := ⟨T, 0, none⟩) (World.block_lt_of_cell? w _ t0)).trans t0, (hb.cell (p := ⟨b, off + k * 7, none⟩) hbl).trans d0, (hb.cell (p := ⟨b, off + k * 7 + 1, none⟩) hbl).trans d1, (hb.cell (p := ⟨b, off + k * 7 + 2, none⟩) hbl).trans d2, (hb.cell (p := ⟨b, off + k * 7 + 3, none⟩) hbl).trans d3, (hb.cell (p := ⟨b, off + k * 7 + 4, none⟩) hbl).trans d4, (hb.cell (p := ⟨b, off + k * 7 + 5, none⟩) hbl).trans d5, (hb.cell (p := ⟨b, off + k * 7 + 6, none⟩) hbl).trans d6⟩
  clear hb
  refine hK1.out _ _ hS1 (fun _ => ?_)
  clear hK1 K1
  try simp only [Act.put, List.setIfInBounds_toArray, List.set_cons_zero, List.set_cons_succ]
  refine wpAnyH_take (i := 7) (oi := { dst := some 4, op := _, type := _, pos := _, after := _, guard := _ }) (v := .bool R) rfl (by kernel_rfl) (by kernel_rfl) (by kernel_rfl) (fun _ _ _ h => h) (Or.inl ⟨by rfl, fun w hSw => by (try dsimp only at hSw); (try go_split_ands); go_simp⟩) (by first | trivial | assumption) ?_
  try simp only [Act.put, List.setIfInBounds_toArray, List.set_cons_zero, List.set_cons_succ]
  refine wpAnyH_done (by kernel_rfl) ?_ _
  go_wp2
  (try simp only [Exit.inBlock, Exit.then])
  go_ret
  exact ⟨by rw [HO.out]; rfl, HB.out⟩

set_option maxHeartbeats 4000000 in
theorem f117 (a : Option Addr) (n d : Nat) (us : List Int) (c : C) (t : Int) (P T : Nat) (w : World) (hn : us.length = n) (h60 : n ≤ 1000) (hr : Ino.Has w a us) (hu : Nums c.i.length us) (hg : GN c) (hz : Sml c) (hw : Wld c w) (hc : Cap c t P T w) :
    Calls Tryz.prog 117 #[.slice a n d, .func (.func 80) #[] #[.pointer (some ⟨P, 0, none⟩), .pointer (some ⟨T, 0, none⟩)]] w fun e w' => ∃ r : Int, e = .returned (.int .i64 r) ∧ Hid (decide (0 ≤ r) = mtd c us t) ∧ Below w.heap.size w w' := by
  have HN := hid hn
  have HR := hid hr
  have HU := hid hu
  have HW := hid hw
  have HC := hid hc
  have HGG := hid hg
  have HZZ := hid hz
  clear hn hr hu hw hc hg hz
  go_enter Tryz.func117, Tryz.ntmps117
  go_wp2
  go_loopw [8] (fun si wr => ∃ k : Nat, k ≤ n ∧ si = .int .i64 k ∧ Hid (∀ j, j < k → hvK c t (us.getD j 0) = false) ∧ Hid (Below w.heap.size w wr)) (fun si _ => n - (intOf si).toNat)
  case atStart => exact ⟨0, Nat.zero_le _, rfl, fun j hj => absurd hj (by omega), Below.refl _ _⟩
  case round =>
    obtain ⟨k, hk, rfl, HA, HX⟩ := hrel
    by_cases hlt : k < n
    rotate_left
    · have HE : Hid (decide ((0 : Int) ≤ -1) = mtd c us t) := by unfold Hid; rw [mtd_none HA.out (by rw [HN.out]; omega)]; rfl
      have i1 : ¬ (k : Int) < (n : Int) := by omega
      go_wp2
      go_ret
      exact ⟨-1, rfl, HE.out, HX.out⟩
    obtain ⟨b, off, rfl, d0⟩ := at_int (HR.out.below HX.out) (k := k) (by rw [HN.out]; exact hlt)
    have hnum := HU.out k (by rw [HN.out]; exact hlt)
    have HG : Hid (hvK c t (us.getD k 0) = true → decide ((0 : Int) ≤ (k : Int)) = mtd c us t) := fun h => by
      rw [mtd_hit (by rw [HN.out]; exact hlt) h]; exact decide_eq_true (by omega)
    have HG2 : Hid (hvK c t (us.getD k 0) = false → ∀ j, j < k + 1 → hvK c t (us.getD j 0) = false) := fun h j hj => by
      by_cases e : j = k
      · rw [e]; exact h
      · exact HA.out j (by omega)
    have i1 : (k : Int) < (n : Int) := by omega
    generalize us.getD k 0 = z at *
    obtain ⟨m, rfl⟩ : ∃ m : Nat, z = (m : Int) := ⟨z.toNat, by omega⟩
    have hm : m < c.i.length := by omega
    have HCl := hid (f80 c m P T t wr hm HGG.out HZZ.out (HW.out.below HX.out) (HC.out.below HX.out))
    clear hnum
    go_wp2_with fail
    go_at_call 80
    refine HCl.out.mono ?_
    rintro e w1 ⟨rfl, hb1⟩
    have HX1 := hid (HX.out.trans (hb1.mono HX.out.size))
    clear hb1 d0 HCl
    cases hh : hvK c t m
    · have HU2 := hid (HG2.out hh)
      clear hh
      go_wp2
      go_roundw
      case rel => exact ⟨k + 1, by omega, by go_num, HU2.out, HX1.out⟩
      case measure => simp [intOf]; omega
    · have HE := hid (HG.out hh)
      clear hh
      go_wp2
      go_ret
      exact ⟨k, rfl, HE.out, HX1.out⟩
set_option maxHeartbeats 1000000 in
theorem f79 (a : Option Addr) (n d : Nat) (us : List Int) (c : C) (t : Int) (P T : Nat) (w : World) (hn : us.length = n) (h60 : n ≤ 1000) (hr : Ino.Has w a us) (hu : Nums c.i.length us) (hg : GN c) (hz : Sml c) (hw : Wld c w) (hc : Cap c t P T w) :
    Calls Tryz.prog 79 #[.slice a n d, .func (.func 80) #[] #[.pointer (some ⟨P, 0, none⟩), .pointer (some ⟨T, 0, none⟩)]] w fun e w' => e = .returned (.bool (mtd c us t)) ∧ Below w.heap.size w w' := by
  have HC := hid (f117 a n d us c t P T w hn h60 hr hu hg hz hw hc)
  clear hn hr hu hg hz hw hc
  go_enter Tryz.func79, Tryz.ntmps79
  go_wp2_with fail
  refine HC.out.mono ?_
  rintro e w1 ⟨r, rfl, HE, hb1⟩
  have HX := hid hb1
  clear hb1
  go_wp2
  go_ret
  exact ⟨Pat.ret_bool HE.out, HX.out⟩
abbrev BX1 (t : Int) : Obj := .cells #[.int .i64 t] 3

set_option maxHeartbeats 4000000 in
theorem f47 (c : C) (q : Rou.T) (t : Int) (w : World) (hl : q.us.length ≤ 20) (hr : Ino.Has w q.ua q.us) (hu : Nums c.i.length q.us) (hg : GN c) (hz : Sml c) (hw : Wld c w) :
    Calls Tryz.prog 47 #[agC c, Rou.agT q, .int .i64 t] w fun e w' => e = .returned (.bool (mtd c q.us t)) ∧ Below w.heap.size w w' := by
  obtain ⟨W, hW⟩ : ∃ W, W = ((w.alloc (BXC c)).alloc (BXR q)).alloc (BX1 t) := ⟨_, rfl⟩
  have b1 := fun (W : World) o => (Below.refl W.heap.size W).alloc (Nat.le_refl _) o
  have HB : Hid (Below w.heap.size w W) := by rw [hW]; exact ((b1 w _).alloc (by simp) _).alloc (by simp; omega) _
  have h1 : W.heap[w.heap.size]? = some (BXC c) := by rw [hW]; exact kept (kept (heap_alloc_new w _) (b1 _ _)) (b1 _ _)
  have h2 : W.heap[w.heap.size + 1]? = some (BXR q) := by
    have := kept (heap_alloc_new (w.alloc (BXC c)) (BXR q)) (b1 _ (BX1 t))
    rw [hW]; simpa using this
  have h3 : W.heap[w.heap.size + 2]? = some (BX1 t) := by
    have := heap_alloc_new ((w.alloc (BXC c)).alloc (BXR q)) (BX1 t)
    rw [hW]; simpa using this
  have HC := hid (f79 q.ua q.us.length q.uc q.us c t w.heap.size (w.heap.size + 2) W rfl (by omega) (hr.below HB.out) hu hg hz (hw.below HB.out) ⟨h1, h3⟩)
  obtain ⟨z0, z1, z2, z3, z4, z5, z6, z7, z8⟩ := Rou.cellsN h2
  have HW := hid hW
  clear hW h1 h2 h3 b1 hr hu hg hz hw
  simp only [agC, Rou.agT]
  go_enter Tryz.func47, Tryz.ntmps47
  go_upto_region 1 with fail
  rw [← HW.out]
  clear HW
  go_wp2_with fail
  refine HC.out.mono ?_
  rintro e w1 ⟨rfl, hb1⟩
  have HX := hid (HB.out.trans (hb1.mono HB.out.size))
  clear hb1
  go_wp2
  go_ret
  exact ⟨rfl, HX.out⟩

/-- What MutedAt says. -/
noncomputable def mA (c : C) (z t : Int) : Bool := gN c && decide (0 ≤ z ∧ z < (c.r.length : Int)) && isT t && mtd c (c.r.getD z.toNat Rou.t0).us t
theorem hvK_time {c : C} {t z : Int} (h : isT t = false) : hvK c t z = false := by
  unfold hvK
  refine Rng.hv_none fun g => ?_
  rw [show isT t = true by unfold isT; exact decide_eq_true ⟨g.1, g.2.1⟩] at h
  cases h
theorem mtd_time {c : C} {us : List Int} {t : Int} (h : isT t = false) : mtd c us t = false := mtd_none (k := us.length) (fun _ _ => hvK_time h) (Nat.le_refl _)
theorem mtd_same {c d : C} {us : List Int} {t : Int} (h : Same c d) (hu : Nums c.i.length us) : mtd d us t = mtd c us t := by
  have key : ∀ j, j < us.length → hvK d t (us.getD j 0) = hvK c t (us.getD j 0) := by
    intro j hj
    have hb := hu j hj
    have hp := h.i.2 (us.getD j 0).toNat (by omega)
    unfold hvK
    exact Rng.hv_same ⟨congrArg Ivn.Pl.z hp, congrArg Ivn.Pl.ms hp, congrArg Ivn.Pl.ks hp, congrArg Ivn.Pl.ds hp, congrArg Ivn.Pl.os hp, congrArg Ivn.Pl.ys hp, congrArg Ivn.Pl.us hp⟩
  cases hm : mtd c us t
  · refine mtd_none (k := us.length) (fun j hj => ?_) (Nat.le_refl _)
    rw [key j hj]
    cases hh : hvK c t (us.getD j 0)
    · rfl
    · rw [mtd_hit hj hh] at hm; cases hm
  · have : ∃ j, j < us.length ∧ hvK c t (us.getD j 0) = true := by
      refine Classical.byContradiction fun hn => ?_
      rw [mtd_none (c := c) (t := t) (k := us.length) (fun j hj => by cases hh : hvK c t (us.getD j 0) <;> first | rfl | exact absurd ⟨j, hj, hh⟩ hn) (Nat.le_refl _)] at hm
      cases hm
    obtain ⟨j, hj, hh⟩ := this
    exact mtd_hit hj (by rw [key j hj]; exact hh)
theorem mA_same {c d : C} {z t : Int} (h : Same c d) : mA d z t = mA c z t := by
  unfold mA
  rw [gN_same h, h.r.1]
  cases hg : gN c
  · rfl
  by_cases hz : 0 ≤ z ∧ z < (c.r.length : Int)
  · have hp := h.r.2 z.toNat (by omega)
    have hu := (nums_of (gN_of hg) (k := z.toNat) (by omega)).1
    rw [show (d.r.getD z.toNat Rou.t0).us = (c.r.getD z.toNat Rou.t0).us from congrArg Rou.Pl.us hp, mtd_same h hu]
  · rw [decide_eq_false hz]; simp

abbrev CCc (b : Nat) (c : C) (x : World) : Prop := x.cell? ⟨b, 0, none⟩ = some (.slice c.ra c.r.length c.rc) ∧ x.cell? ⟨b, 1, none⟩ = some (.slice c.ia c.i.length c.ic) ∧ x.cell? ⟨b, 2, none⟩ = some (.slice c.sa c.s.length c.sc) ∧ x.cell? ⟨b, 3, none⟩ = some (.slice c.xa c.x.length c.xc)
set_option maxHeartbeats 8000000 in
theorem f17 (c : C) (z t : Int) (w : World) (hr : Has w c) (hf : Fit c) (hz : Sml c) (hM : Cal.Mon w) (hR : Cal.Rgl w) :
    Calls Tryz.prog 17 #[agC c, .int .i64 z, .int .i64 t] w fun e w' => e = .returned (.bool (mA c z t)) ∧ Below w.heap.size w w' := by
  have hal := (Below.refl w.heap.size w).alloc (Nat.le_refl _) (BXC c)
  have HB0 := hid hal
  have HX0 := hid (heap_alloc_new w (BXC c))
  have HW0 := hid ((⟨hr, hM, hR⟩ : Wld c w).below hal)
  have H1 := fun x a b => hid (f9 c x a hf hz b)
  have HO : Hid (mA c z t = (gN c && decide (0 ≤ z ∧ z < (c.r.length : Int)) && isT t && mtd c (c.r.getD z.toNat Rou.t0).us t)) := rfl
  have HG := fun h => hid (gN_of (c := c) h)
  obtain ⟨b1, hb1⟩ : ∃ b, b = gN c := ⟨_, rfl⟩
  rw [← hb1] at HO H1 HG
  have HZ := hid hz
  obtain ⟨W0, hW⟩ : ∃ W, W = w.alloc (BXC c) := ⟨_, rfl⟩
  rw [← hW] at HB0 HX0 HW0
  have HW := hid hW
  clear hW hal hr hf hz hM hR hb1
  simp only [agC]
  go_enter Tryz.func17, Tryz.ntmps17
  go_upto_region 1 with fail
  rw [← HW.out]
  clear HW
  have hSd : CCc w.heap.size c W0.drew := cells4 HX0.out
  cases b1
  · have HY : Hid (mA c z t = false) := by unfold Hid; rw [HO.out]; simp
    refine wp_region_held_drew (S := fun x => CCc w.heap.size c x) rfl hSd (fun hHeld => ?_)
    refine wpAnyH_take (i := 0) (oi := { dst := some 7, op := _, type := _, pos := _, after := _, guard := _ }) (v := .agg #[.slice c.ra c.r.length c.rc, .slice c.ia c.i.length c.ic, .slice c.sa c.s.length c.sc, .slice c.xa c.x.length c.xc]) rfl (by kernel_rfl) (by kernel_rfl) (by kernel_rfl) (fun _ _ _ h => h) (Or.inl ⟨by rfl, fun w hSw => by (try dsimp only at hSw); (try go_split_ands); go_simp⟩) (by first | trivial | assumption) ?_
    try simp only [Act.put, List.setIfInBounds_toArray, List.set_cons_zero, List.set_cons_succ]
    refine wpAnyH_ready (rs := [1]) (by kernel_rfl) (by simp) (AllReadyH.cons (o := { dst := some 8, op := _, type := _, pos := _, after := _, guard := _ }) rfl ?_ AllReadyH.nil)
    intro K1 hK1
    go_simp
    go_wp2_with (go_at_call 9; refine (H1 _ (HW0.out.has.below (Below.refl _ _).drew) (HW0.out.rgl.below (Below.refl _ _).drew)).out.mono ?_; rintro e w1 ⟨rfl, hb⟩)
    have hbb := (Below.refl W0.heap.size W0).drew.trans hb
    have HB1 := hid (HB0.out.trans (hbb.mono HB0.out.size))
    have HX1 := hid (kept HX0.out hbb)
    have HW1 := hid (HW0.out.below hbb)
    clear hb hbb
    have hS1 : CCc w.heap.size c w1 := cells4 HX1.out
    refine hK1.out _ _ hS1 (fun _ => ?_)
    clear hK1 K1
    try simp only [Act.put, List.setIfInBounds_toArray, List.set_cons_zero, List.set_cons_succ]
    refine wpAnyH_take (i := 2) (oi := { dst := some 9, op := _, type := _, pos := _, after := _, guard := _ }) (v := .bool false) rfl (by kernel_rfl) (by kernel_rfl) (by kernel_rfl) (fun _ _ _ h => h) (Or.inl ⟨by rfl, fun w hSw => by (try dsimp only at hSw); (try go_split_ands); go_simp⟩) (by first | trivial | assumption) ?_
    try simp only [Act.put, List.setIfInBounds_toArray, List.set_cons_zero, List.set_cons_succ]
    refine wpAnyH_take (i := 3) (oi := { dst := some 10, op := _, type := _, pos := _, after := _, guard := _ }) (v := undef) rfl (by kernel_rfl) (by kernel_rfl) (by kernel_rfl) (fun _ _ _ h => h) (Or.inr ⟨by rfl, rfl⟩) (by first | trivial | assumption) ?_
    try simp only [Act.put, List.setIfInBounds_toArray, List.set_cons_zero, List.set_cons_succ]
    refine wpAnyH_take (i := 4) (oi := { dst := some 11, op := _, type := _, pos := _, after := _, guard := _ }) (v := undef) rfl (by kernel_rfl) (by kernel_rfl) (by kernel_rfl) (fun _ _ _ h => h) (Or.inr ⟨by rfl, rfl⟩) (by first | trivial | assumption) ?_
    try simp only [Act.put, List.setIfInBounds_toArray, List.set_cons_zero, List.set_cons_succ]
    refine wpAnyH_take (i := 5) (oi := { dst := some 12, op := _, type := _, pos := _, after := _, guard := _ }) (v := .bool false) rfl (by kernel_rfl) (by kernel_rfl) (by kernel_rfl) (fun _ _ _ h => h) (Or.inl ⟨by rfl, fun w hSw => by (try dsimp only at hSw); (try go_split_ands); go_simp⟩) (by first | trivial | assumption) ?_
    try simp only [Act.put, List.setIfInBounds_toArray, List.set_cons_zero, List.set_cons_succ]
    refine wpAnyH_take (i := 6) (oi := { dst := some 13, op := _, type := _, pos := _, after := _, guard := _ }) (v := .bool false) rfl (by kernel_rfl) (by kernel_rfl) (by kernel_rfl) (fun _ _ _ h => h) (Or.inl ⟨by rfl, fun w hSw => by (try dsimp only at hSw); (try go_split_ands); go_simp⟩) (by first | trivial | assumption) ?_
    try simp only [Act.put, List.setIfInBounds_toArray, List.set_cons_zero, List.set_cons_succ]
    refine wpAnyH_take (i := 7) (oi := { dst := some 14, op := _, type := _, pos := _, after := _, guard := _ }) (v := undef) rfl (by kernel_rfl) (by kernel_rfl) (by kernel_rfl) (fun _ _ _ h => h) (Or.inr ⟨by rfl, rfl⟩) (by first | trivial | assumption) ?_
    try simp only [Act.put, List.setIfInBounds_toArray, List.set_cons_zero, List.set_cons_succ]
    refine wpAnyH_take (i := 8) (oi := { dst := some 15, op := _, type := _, pos := _, after := _, guard := _ }) (v := undef) rfl (by kernel_rfl) (by kernel_rfl) (by kernel_rfl) (fun _ _ _ h => h) (Or.inr ⟨by rfl, rfl⟩) (by first | trivial | assumption) ?_
    try simp only [Act.put, List.setIfInBounds_toArray, List.set_cons_zero, List.set_cons_succ]
    refine wpAnyH_take (i := 9) (oi := { dst := some 16, op := _, type := _, pos := _, after := _, guard := _ }) (v := undef) rfl (by kernel_rfl) (by kernel_rfl) (by kernel_rfl) (fun _ _ _ h => h) (Or.inr ⟨by rfl, rfl⟩) (by first | trivial | assumption) ?_
    try simp only [Act.put, List.setIfInBounds_toArray, List.set_cons_zero, List.set_cons_succ]
    refine wpAnyH_take (i := 10) (oi := { dst := some 17, op := _, type := _, pos := _, after := _, guard := _ }) (v := undef) rfl (by kernel_rfl) (by kernel_rfl) (by kernel_rfl) (fun _ _ _ h => h) (Or.inr ⟨by rfl, rfl⟩) (by first | trivial | assumption) ?_
    try simp only [Act.put, List.setIfInBounds_toArray, List.set_cons_zero, List.set_cons_succ]
    refine wpAnyH_take (i := 11) (oi := { dst := some 18, op := _, type := _, pos := _, after := _, guard := _ }) (v := undef) rfl (by kernel_rfl) (by kernel_rfl) (by kernel_rfl) (fun _ _ _ h => h) (Or.inr ⟨by rfl, rfl⟩) (by first | trivial | assumption) ?_
    try simp only [Act.put, List.setIfInBounds_toArray, List.set_cons_zero, List.set_cons_succ]
    refine wpAnyH_take (i := 12) (oi := { dst := some 19, op := _, type := _, pos := _, after := _, guard := _ }) (v := .bool false) rfl (by kernel_rfl) (by kernel_rfl) (by kernel_rfl) (fun _ _ _ h => h) (Or.inl ⟨by rfl, fun w hSw => by (try dsimp only at hSw); (try go_split_ands); go_simp⟩) (by first | trivial | assumption) ?_
    try simp only [Act.put, List.setIfInBounds_toArray, List.set_cons_zero, List.set_cons_succ]
    refine wpAnyH_take (i := 13) (oi := { dst := some 20, op := _, type := _, pos := _, after := _, guard := _ }) (v := .bool false) rfl (by kernel_rfl) (by kernel_rfl) (by kernel_rfl) (fun _ _ _ h => h) (Or.inl ⟨by rfl, fun w hSw => by (try dsimp only at hSw); (try go_split_ands); go_simp⟩) (by first | trivial | assumption) ?_
    try simp only [Act.put, List.setIfInBounds_toArray, List.set_cons_zero, List.set_cons_succ]
    refine wpAnyH_take (i := 14) (oi := { dst := some 21, op := _, type := _, pos := _, after := _, guard := _ }) (v := undef) rfl (by kernel_rfl) (by kernel_rfl) (by kernel_rfl) (fun _ _ _ h => h) (Or.inr ⟨by rfl, rfl⟩) (by first | trivial | assumption) ?_
    try simp only [Act.put, List.setIfInBounds_toArray, List.set_cons_zero, List.set_cons_succ]
    refine wpAnyH_take (i := 15) (oi := { dst := some 22, op := _, type := _, pos := _, after := _, guard := _ }) (v := undef) rfl (by kernel_rfl) (by kernel_rfl) (by kernel_rfl) (fun _ _ _ h => h) (Or.inr ⟨by rfl, rfl⟩) (by first | trivial | assumption) ?_
    try simp only [Act.put, List.setIfInBounds_toArray, List.set_cons_zero, List.set_cons_succ]
    refine wpAnyH_take (i := 16) (oi := { dst := some 23, op := _, type := _, pos := _, after := _, guard := _ }) (v := undef) rfl (by kernel_rfl) (by kernel_rfl) (by kernel_rfl) (fun _ _ _ h => h) (Or.inr ⟨by rfl, rfl⟩) (by first | trivial | assumption) ?_
    try simp only [Act.put, List.setIfInBounds_toArray, List.set_cons_zero, List.set_cons_succ]
    refine wpAnyH_take (i := 17) (oi := { dst := some 24, op := _, type := _, pos := _, after := _, guard := _ }) (v := undef) rfl (by kernel_rfl) (by kernel_rfl) (by kernel_rfl) (fun _ _ _ h => h) (Or.inr ⟨by rfl, rfl⟩) (by first | trivial | assumption) ?_
    try simp only [Act.put, List.setIfInBounds_toArray, List.set_cons_zero, List.set_cons_succ]
    refine wpAnyH_take (i := 18) (oi := { dst := some 25, op := _, type := _, pos := _, after := _, guard := _ }) (v := undef) rfl (by kernel_rfl) (by kernel_rfl) (by kernel_rfl) (fun _ _ _ h => h) (Or.inr ⟨by rfl, rfl⟩) (by first | trivial | assumption) ?_
    try simp only [Act.put, List.setIfInBounds_toArray, List.set_cons_zero, List.set_cons_succ]
    refine wpAnyH_take (i := 19) (oi := { dst := some 26, op := _, type := _, pos := _, after := _, guard := _ }) (v := undef) rfl (by kernel_rfl) (by kernel_rfl) (by kernel_rfl) (fun _ _ _ h => h) (Or.inr ⟨by rfl, rfl⟩) (by first | trivial | assumption) ?_
    try simp only [Act.put, List.setIfInBounds_toArray, List.set_cons_zero, List.set_cons_succ]
    refine wpAnyH_take (i := 20) (oi := { dst := some 27, op := _, type := _, pos := _, after := _, guard := _ }) (v := undef) rfl (by kernel_rfl) (by kernel_rfl) (by kernel_rfl) (fun _ _ _ h => h) (Or.inr ⟨by rfl, rfl⟩) (by first | trivial | assumption) ?_
    try simp only [Act.put, List.setIfInBounds_toArray, List.set_cons_zero, List.set_cons_succ]
    refine wpAnyH_take (i := 21) (oi := { dst := some 28, op := _, type := _, pos := _, after := _, guard := _ }) (v := undef) rfl (by kernel_rfl) (by kernel_rfl) (by kernel_rfl) (fun _ _ _ h => h) (Or.inr ⟨by rfl, rfl⟩) (by first | trivial | assumption) ?_
    try simp only [Act.put, List.setIfInBounds_toArray, List.set_cons_zero, List.set_cons_succ]
    refine wpAnyH_take (i := 22) (oi := { dst := some 29, op := _, type := _, pos := _, after := _, guard := _ }) (v := .bool false) rfl (by kernel_rfl) (by kernel_rfl) (by kernel_rfl) (fun _ _ _ h => h) (Or.inl ⟨by rfl, fun w hSw => by (try dsimp only at hSw); (try go_split_ands); go_simp⟩) (by first | trivial | assumption) ?_
    try simp only [Act.put, List.setIfInBounds_toArray, List.set_cons_zero, List.set_cons_succ]
    refine wpAnyH_take (i := 23) (oi := { dst := some 6, op := _, type := _, pos := _, after := _, guard := _ }) (v := .bool false) rfl (by kernel_rfl) (by kernel_rfl) (by kernel_rfl) (fun _ _ _ h => h) (Or.inl ⟨by rfl, fun w hSw => by (try dsimp only at hSw); (try go_split_ands); go_simp⟩) (by first | trivial | assumption) ?_
    try simp only [Act.put, List.setIfInBounds_toArray, List.set_cons_zero, List.set_cons_succ]
    refine wpAnyH_done (by kernel_rfl) ?_ _
    go_wp2
    (try simp only [Exit.inBlock, Exit.then])
    go_ret
    exact ⟨by rw [HY.out]; rfl, HB1.out⟩
  have HGN := HG rfl
  by_cases g1 : z ≥ 0
  rotate_left
  · have HY : Hid (mA c z t = false) := by unfold Hid; rw [HO.out, decide_eq_false (show ¬ (0 ≤ z ∧ z < (c.r.length : Int)) by omega)]; simp
    refine wp_region_held_drew (S := fun x => CCc w.heap.size c x) rfl hSd (fun hHeld => ?_)
    refine wpAnyH_take (i := 0) (oi := { dst := some 7, op := _, type := _, pos := _, after := _, guard := _ }) (v := .agg #[.slice c.ra c.r.length c.rc, .slice c.ia c.i.length c.ic, .slice c.sa c.s.length c.sc, .slice c.xa c.x.length c.xc]) rfl (by kernel_rfl) (by kernel_rfl) (by kernel_rfl) (fun _ _ _ h => h) (Or.inl ⟨by rfl, fun w hSw => by (try dsimp only at hSw); (try go_split_ands); go_simp⟩) (by first | trivial | assumption) ?_
    try simp only [Act.put, List.setIfInBounds_toArray, List.set_cons_zero, List.set_cons_succ]
    refine wpAnyH_ready (rs := [1]) (by kernel_rfl) (by simp) (AllReadyH.cons (o := { dst := some 8, op := _, type := _, pos := _, after := _, guard := _ }) rfl ?_ AllReadyH.nil)
    intro K1 hK1
    go_simp
    go_wp2_with (go_at_call 9; refine (H1 _ (HW0.out.has.below (Below.refl _ _).drew) (HW0.out.rgl.below (Below.refl _ _).drew)).out.mono ?_; rintro e w1 ⟨rfl, hb⟩)
    have hbb := (Below.refl W0.heap.size W0).drew.trans hb
    have HB1 := hid (HB0.out.trans (hbb.mono HB0.out.size))
    have HX1 := hid (kept HX0.out hbb)
    have HW1 := hid (HW0.out.below hbb)
    clear hb hbb
    have hS1 : CCc w.heap.size c w1 := cells4 HX1.out
    refine hK1.out _ _ hS1 (fun _ => ?_)
    clear hK1 K1
    try simp only [Act.put, List.setIfInBounds_toArray, List.set_cons_zero, List.set_cons_succ]
    refine wpAnyH_take (i := 2) (oi := { dst := some 9, op := _, type := _, pos := _, after := _, guard := _ }) (v := .bool true) rfl (by kernel_rfl) (by kernel_rfl) (by kernel_rfl) (fun _ _ _ h => h) (Or.inl ⟨by rfl, fun w hSw => by (try dsimp only at hSw); (try go_split_ands); go_simp⟩) (by first | trivial | assumption) ?_
    try simp only [Act.put, List.setIfInBounds_toArray, List.set_cons_zero, List.set_cons_succ]
    refine wpAnyH_take (i := 3) (oi := { dst := some 10, op := _, type := _, pos := _, after := _, guard := _ }) (v := .int .i64 z) rfl (by kernel_rfl) (by kernel_rfl) (by kernel_rfl) (fun _ _ _ h => h) (Or.inl ⟨by rfl, fun w hSw => by (try dsimp only at hSw); (try go_split_ands); go_simp⟩) (by first | trivial | assumption) ?_
    try simp only [Act.put, List.setIfInBounds_toArray, List.set_cons_zero, List.set_cons_succ]
    refine wpAnyH_take (i := 4) (oi := { dst := some 11, op := _, type := _, pos := _, after := _, guard := _ }) (v := .bool false) rfl (by kernel_rfl) (by kernel_rfl) (by kernel_rfl) (fun _ _ _ h => h) (Or.inl ⟨by rfl, fun w hSw => by (try dsimp only at hSw); (try go_split_ands); go_simp⟩) (by first | trivial | assumption) ?_
    try simp only [Act.put, List.setIfInBounds_toArray, List.set_cons_zero, List.set_cons_succ]
    refine wpAnyH_take (i := 5) (oi := { dst := some 12, op := _, type := _, pos := _, after := _, guard := _ }) (v := .bool false) rfl (by kernel_rfl) (by kernel_rfl) (by kernel_rfl) (fun _ _ _ h => h) (Or.inl ⟨by rfl, fun w hSw => by (try dsimp only at hSw); (try go_split_ands); go_simp⟩) (by first | trivial | assumption) ?_
    try simp only [Act.put, List.setIfInBounds_toArray, List.set_cons_zero, List.set_cons_succ]
    refine wpAnyH_take (i := 6) (oi := { dst := some 13, op := _, type := _, pos := _, after := _, guard := _ }) (v := .bool false) rfl (by kernel_rfl) (by kernel_rfl) (by kernel_rfl) (fun _ _ _ h => h) (Or.inl ⟨by rfl, fun w hSw => by (try dsimp only at hSw); (try go_split_ands); go_simp⟩) (by first | trivial | assumption) ?_
    try simp only [Act.put, List.setIfInBounds_toArray, List.set_cons_zero, List.set_cons_succ]
    refine wpAnyH_take (i := 7) (oi := { dst := some 14, op := _, type := _, pos := _, after := _, guard := _ }) (v := undef) rfl (by kernel_rfl) (by kernel_rfl) (by kernel_rfl) (fun _ _ _ h => h) (Or.inr ⟨by rfl, rfl⟩) (by first | trivial | assumption) ?_
    try simp only [Act.put, List.setIfInBounds_toArray, List.set_cons_zero, List.set_cons_succ]
    refine wpAnyH_take (i := 8) (oi := { dst := some 15, op := _, type := _, pos := _, after := _, guard := _ }) (v := undef) rfl (by kernel_rfl) (by kernel_rfl) (by kernel_rfl) (fun _ _ _ h => h) (Or.inr ⟨by rfl, rfl⟩) (by first | trivial | assumption) ?_
    try simp only [Act.put, List.setIfInBounds_toArray, List.set_cons_zero, List.set_cons_succ]
    refine wpAnyH_take (i := 9) (oi := { dst := some 16, op := _, type := _, pos := _, after := _, guard := _ }) (v := undef) rfl (by kernel_rfl) (by kernel_rfl) (by kernel_rfl) (fun _ _ _ h => h) (Or.inr ⟨by rfl, rfl⟩) (by first | trivial | assumption) ?_
    try simp only [Act.put, List.setIfInBounds_toArray, List.set_cons_zero, List.set_cons_succ]
    refine wpAnyH_take (i := 10) (oi := { dst := some 17, op := _, type := _, pos := _, after := _, guard := _ }) (v := undef) rfl (by kernel_rfl) (by kernel_rfl) (by kernel_rfl) (fun _ _ _ h => h) (Or.inr ⟨by rfl, rfl⟩) (by first | trivial | assumption) ?_
    try simp only [Act.put, List.setIfInBounds_toArray, List.set_cons_zero, List.set_cons_succ]
    refine wpAnyH_take (i := 11) (oi := { dst := some 18, op := _, type := _, pos := _, after := _, guard := _ }) (v := undef) rfl (by kernel_rfl) (by kernel_rfl) (by kernel_rfl) (fun _ _ _ h => h) (Or.inr ⟨by rfl, rfl⟩) (by first | trivial | assumption) ?_
    try simp only [Act.put, List.setIfInBounds_toArray, List.set_cons_zero, List.set_cons_succ]
    refine wpAnyH_take (i := 12) (oi := { dst := some 19, op := _, type := _, pos := _, after := _, guard := _ }) (v := .bool false) rfl (by kernel_rfl) (by kernel_rfl) (by kernel_rfl) (fun _ _ _ h => h) (Or.inl ⟨by rfl, fun w hSw => by (try dsimp only at hSw); (try go_split_ands); go_simp⟩) (by first | trivial | assumption) ?_
    try simp only [Act.put, List.setIfInBounds_toArray, List.set_cons_zero, List.set_cons_succ]
    refine wpAnyH_take (i := 13) (oi := { dst := some 20, op := _, type := _, pos := _, after := _, guard := _ }) (v := .bool false) rfl (by kernel_rfl) (by kernel_rfl) (by kernel_rfl) (fun _ _ _ h => h) (Or.inl ⟨by rfl, fun w hSw => by (try dsimp only at hSw); (try go_split_ands); go_simp⟩) (by first | trivial | assumption) ?_
    try simp only [Act.put, List.setIfInBounds_toArray, List.set_cons_zero, List.set_cons_succ]
    refine wpAnyH_take (i := 14) (oi := { dst := some 21, op := _, type := _, pos := _, after := _, guard := _ }) (v := undef) rfl (by kernel_rfl) (by kernel_rfl) (by kernel_rfl) (fun _ _ _ h => h) (Or.inr ⟨by rfl, rfl⟩) (by first | trivial | assumption) ?_
    try simp only [Act.put, List.setIfInBounds_toArray, List.set_cons_zero, List.set_cons_succ]
    refine wpAnyH_take (i := 15) (oi := { dst := some 22, op := _, type := _, pos := _, after := _, guard := _ }) (v := undef) rfl (by kernel_rfl) (by kernel_rfl) (by kernel_rfl) (fun _ _ _ h => h) (Or.inr ⟨by rfl, rfl⟩) (by first | trivial | assumption) ?_
    try simp only [Act.put, List.setIfInBounds_toArray, List.set_cons_zero, List.set_cons_succ]
    refine wpAnyH_take (i := 16) (oi := { dst := some 23, op := _, type := _, pos := _, after := _, guard := _ }) (v := undef) rfl (by kernel_rfl) (by kernel_rfl) (by kernel_rfl) (fun _ _ _ h => h) (Or.inr ⟨by rfl, rfl⟩) (by first | trivial | assumption) ?_
    try simp only [Act.put, List.setIfInBounds_toArray, List.set_cons_zero, List.set_cons_succ]
    refine wpAnyH_take (i := 17) (oi := { dst := some 24, op := _, type := _, pos := _, after := _, guard := _ }) (v := undef) rfl (by kernel_rfl) (by kernel_rfl) (by kernel_rfl) (fun _ _ _ h => h) (Or.inr ⟨by rfl, rfl⟩) (by first | trivial | assumption) ?_
    try simp only [Act.put, List.setIfInBounds_toArray, List.set_cons_zero, List.set_cons_succ]
    refine wpAnyH_take (i := 18) (oi := { dst := some 25, op := _, type := _, pos := _, after := _, guard := _ }) (v := undef) rfl (by kernel_rfl) (by kernel_rfl) (by kernel_rfl) (fun _ _ _ h => h) (Or.inr ⟨by rfl, rfl⟩) (by first | trivial | assumption) ?_
    try simp only [Act.put, List.setIfInBounds_toArray, List.set_cons_zero, List.set_cons_succ]
    refine wpAnyH_take (i := 19) (oi := { dst := some 26, op := _, type := _, pos := _, after := _, guard := _ }) (v := undef) rfl (by kernel_rfl) (by kernel_rfl) (by kernel_rfl) (fun _ _ _ h => h) (Or.inr ⟨by rfl, rfl⟩) (by first | trivial | assumption) ?_
    try simp only [Act.put, List.setIfInBounds_toArray, List.set_cons_zero, List.set_cons_succ]
    refine wpAnyH_take (i := 20) (oi := { dst := some 27, op := _, type := _, pos := _, after := _, guard := _ }) (v := undef) rfl (by kernel_rfl) (by kernel_rfl) (by kernel_rfl) (fun _ _ _ h => h) (Or.inr ⟨by rfl, rfl⟩) (by first | trivial | assumption) ?_
    try simp only [Act.put, List.setIfInBounds_toArray, List.set_cons_zero, List.set_cons_succ]
    refine wpAnyH_take (i := 21) (oi := { dst := some 28, op := _, type := _, pos := _, after := _, guard := _ }) (v := undef) rfl (by kernel_rfl) (by kernel_rfl) (by kernel_rfl) (fun _ _ _ h => h) (Or.inr ⟨by rfl, rfl⟩) (by first | trivial | assumption) ?_
    try simp only [Act.put, List.setIfInBounds_toArray, List.set_cons_zero, List.set_cons_succ]
    refine wpAnyH_take (i := 22) (oi := { dst := some 29, op := _, type := _, pos := _, after := _, guard := _ }) (v := .bool false) rfl (by kernel_rfl) (by kernel_rfl) (by kernel_rfl) (fun _ _ _ h => h) (Or.inl ⟨by rfl, fun w hSw => by (try dsimp only at hSw); (try go_split_ands); go_simp⟩) (by first | trivial | assumption) ?_
    try simp only [Act.put, List.setIfInBounds_toArray, List.set_cons_zero, List.set_cons_succ]
    refine wpAnyH_take (i := 23) (oi := { dst := some 6, op := _, type := _, pos := _, after := _, guard := _ }) (v := .bool false) rfl (by kernel_rfl) (by kernel_rfl) (by kernel_rfl) (fun _ _ _ h => h) (Or.inl ⟨by rfl, fun w hSw => by (try dsimp only at hSw); (try go_split_ands); go_simp⟩) (by first | trivial | assumption) ?_
    try simp only [Act.put, List.setIfInBounds_toArray, List.set_cons_zero, List.set_cons_succ]
    refine wpAnyH_done (by kernel_rfl) ?_ _
    go_wp2
    (try simp only [Exit.inBlock, Exit.then])
    go_ret
    exact ⟨by rw [HY.out]; rfl, HB1.out⟩
  by_cases g2 : z < (c.r.length : Int)
  rotate_left
  · have HY : Hid (mA c z t = false) := by unfold Hid; rw [HO.out, decide_eq_false (show ¬ (0 ≤ z ∧ z < (c.r.length : Int)) by omega)]; simp
    refine wp_region_held_drew (S := fun x => CCc w.heap.size c x) rfl hSd (fun hHeld => ?_)
    refine wpAnyH_take (i := 0) (oi := { dst := some 7, op := _, type := _, pos := _, after := _, guard := _ }) (v := .agg #[.slice c.ra c.r.length c.rc, .slice c.ia c.i.length c.ic, .slice c.sa c.s.length c.sc, .slice c.xa c.x.length c.xc]) rfl (by kernel_rfl) (by kernel_rfl) (by kernel_rfl) (fun _ _ _ h => h) (Or.inl ⟨by rfl, fun w hSw => by (try dsimp only at hSw); (try go_split_ands); go_simp⟩) (by first | trivial | assumption) ?_
    try simp only [Act.put, List.setIfInBounds_toArray, List.set_cons_zero, List.set_cons_succ]
    refine wpAnyH_ready (rs := [1]) (by kernel_rfl) (by simp) (AllReadyH.cons (o := { dst := some 8, op := _, type := _, pos := _, after := _, guard := _ }) rfl ?_ AllReadyH.nil)
    intro K1 hK1
    go_simp
    go_wp2_with (go_at_call 9; refine (H1 _ (HW0.out.has.below (Below.refl _ _).drew) (HW0.out.rgl.below (Below.refl _ _).drew)).out.mono ?_; rintro e w1 ⟨rfl, hb⟩)
    have hbb := (Below.refl W0.heap.size W0).drew.trans hb
    have HB1 := hid (HB0.out.trans (hbb.mono HB0.out.size))
    have HX1 := hid (kept HX0.out hbb)
    have HW1 := hid (HW0.out.below hbb)
    clear hb hbb
    have hS1 : CCc w.heap.size c w1 := cells4 HX1.out
    refine hK1.out _ _ hS1 (fun _ => ?_)
    clear hK1 K1
    try simp only [Act.put, List.setIfInBounds_toArray, List.set_cons_zero, List.set_cons_succ]
    refine wpAnyH_take (i := 2) (oi := { dst := some 9, op := _, type := _, pos := _, after := _, guard := _ }) (v := .bool true) rfl (by kernel_rfl) (by kernel_rfl) (by kernel_rfl) (fun _ _ _ h => h) (Or.inl ⟨by rfl, fun w hSw => by (try dsimp only at hSw); (try go_split_ands); go_simp⟩) (by first | trivial | assumption) ?_
    try simp only [Act.put, List.setIfInBounds_toArray, List.set_cons_zero, List.set_cons_succ]
    refine wpAnyH_take (i := 3) (oi := { dst := some 10, op := _, type := _, pos := _, after := _, guard := _ }) (v := .int .i64 z) rfl (by kernel_rfl) (by kernel_rfl) (by kernel_rfl) (fun _ _ _ h => h) (Or.inl ⟨by rfl, fun w hSw => by (try dsimp only at hSw); (try go_split_ands); go_simp⟩) (by first | trivial | assumption) ?_
    try simp only [Act.put, List.setIfInBounds_toArray, List.set_cons_zero, List.set_cons_succ]
    refine wpAnyH_take (i := 4) (oi := { dst := some 11, op := _, type := _, pos := _, after := _, guard := _ }) (v := .bool true) rfl (by kernel_rfl) (by kernel_rfl) (by kernel_rfl) (fun _ _ _ h => h) (Or.inl ⟨by rfl, fun w hSw => by (try dsimp only at hSw); (try go_split_ands); go_simp⟩) (by first | trivial | assumption) ?_
    try simp only [Act.put, List.setIfInBounds_toArray, List.set_cons_zero, List.set_cons_succ]
    refine wpAnyH_take (i := 5) (oi := { dst := some 12, op := _, type := _, pos := _, after := _, guard := _ }) (v := .bool true) rfl (by kernel_rfl) (by kernel_rfl) (by kernel_rfl) (fun _ _ _ h => h) (Or.inl ⟨by rfl, fun w hSw => by (try dsimp only at hSw); (try go_split_ands); go_simp⟩) (by first | trivial | assumption) ?_
    try simp only [Act.put, List.setIfInBounds_toArray, List.set_cons_zero, List.set_cons_succ]
    refine wpAnyH_take (i := 6) (oi := { dst := some 13, op := _, type := _, pos := _, after := _, guard := _ }) (v := .bool true) rfl (by kernel_rfl) (by kernel_rfl) (by kernel_rfl) (fun _ _ _ h => h) (Or.inl ⟨by rfl, fun w hSw => by (try dsimp only at hSw); (try go_split_ands); go_simp⟩) (by first | trivial | assumption) ?_
    try simp only [Act.put, List.setIfInBounds_toArray, List.set_cons_zero, List.set_cons_succ]
    refine wpAnyH_take (i := 7) (oi := { dst := some 14, op := _, type := _, pos := _, after := _, guard := _ }) (v := .int .i64 z) rfl (by kernel_rfl) (by kernel_rfl) (by kernel_rfl) (fun _ _ _ h => h) (Or.inl ⟨by rfl, fun w hSw => by (try dsimp only at hSw); (try go_split_ands); go_simp⟩) (by first | trivial | assumption) ?_
    try simp only [Act.put, List.setIfInBounds_toArray, List.set_cons_zero, List.set_cons_succ]
    refine wpAnyH_take (i := 8) (oi := { dst := some 15, op := _, type := _, pos := _, after := _, guard := _ }) (v := .pointer (some ⟨w.heap.size, 0, none⟩)) rfl (by kernel_rfl) (by kernel_rfl) (by kernel_rfl) (fun _ _ _ h => h) (Or.inl ⟨by rfl, fun w hSw => by (try dsimp only at hSw); (try go_split_ands); go_simp⟩) (by first | trivial | assumption) ?_
    try simp only [Act.put, List.setIfInBounds_toArray, List.set_cons_zero, List.set_cons_succ]
    refine wpAnyH_take (i := 9) (oi := { dst := some 16, op := _, type := _, pos := _, after := _, guard := _ }) (v := .slice c.ra c.r.length c.rc) rfl (by kernel_rfl) (by kernel_rfl) (by kernel_rfl) (fun _ _ _ h => h) (Or.inl ⟨by rfl, fun w hSw => by (try dsimp only at hSw); (try go_split_ands); go_simp⟩) (by first | trivial | assumption) ?_
    try simp only [Act.put, List.setIfInBounds_toArray, List.set_cons_zero, List.set_cons_succ]
    refine wpAnyH_take (i := 10) (oi := { dst := some 17, op := _, type := _, pos := _, after := _, guard := _ }) (v := .int .i64 c.r.length) rfl (by kernel_rfl) (by kernel_rfl) (by kernel_rfl) (fun _ _ _ h => h) (Or.inl ⟨by rfl, fun w hSw => by (try dsimp only at hSw); (try go_split_ands); go_simp⟩) (by first | trivial | assumption) ?_
    try simp only [Act.put, List.setIfInBounds_toArray, List.set_cons_zero, List.set_cons_succ]
    refine wpAnyH_take (i := 11) (oi := { dst := some 18, op := _, type := _, pos := _, after := _, guard := _ }) (v := .bool false) rfl (by kernel_rfl) (by kernel_rfl) (by kernel_rfl) (fun _ _ _ h => h) (Or.inl ⟨by rfl, fun w hSw => by (try dsimp only at hSw); (try go_split_ands); go_simp⟩) (by first | trivial | assumption) ?_
    try simp only [Act.put, List.setIfInBounds_toArray, List.set_cons_zero, List.set_cons_succ]
    refine wpAnyH_take (i := 12) (oi := { dst := some 19, op := _, type := _, pos := _, after := _, guard := _ }) (v := .bool false) rfl (by kernel_rfl) (by kernel_rfl) (by kernel_rfl) (fun _ _ _ h => h) (Or.inl ⟨by rfl, fun w hSw => by (try dsimp only at hSw); (try go_split_ands); go_simp⟩) (by first | trivial | assumption) ?_
    try simp only [Act.put, List.setIfInBounds_toArray, List.set_cons_zero, List.set_cons_succ]
    refine wpAnyH_take (i := 13) (oi := { dst := some 20, op := _, type := _, pos := _, after := _, guard := _ }) (v := .bool false) rfl (by kernel_rfl) (by kernel_rfl) (by kernel_rfl) (fun _ _ _ h => h) (Or.inl ⟨by rfl, fun w hSw => by (try dsimp only at hSw); (try go_split_ands); go_simp⟩) (by first | trivial | assumption) ?_
    try simp only [Act.put, List.setIfInBounds_toArray, List.set_cons_zero, List.set_cons_succ]
    refine wpAnyH_take (i := 14) (oi := { dst := some 21, op := _, type := _, pos := _, after := _, guard := _ }) (v := undef) rfl (by kernel_rfl) (by kernel_rfl) (by kernel_rfl) (fun _ _ _ h => h) (Or.inr ⟨by rfl, rfl⟩) (by first | trivial | assumption) ?_
    try simp only [Act.put, List.setIfInBounds_toArray, List.set_cons_zero, List.set_cons_succ]
    refine wpAnyH_take (i := 15) (oi := { dst := some 22, op := _, type := _, pos := _, after := _, guard := _ }) (v := undef) rfl (by kernel_rfl) (by kernel_rfl) (by kernel_rfl) (fun _ _ _ h => h) (Or.inr ⟨by rfl, rfl⟩) (by first | trivial | assumption) ?_
    try simp only [Act.put, List.setIfInBounds_toArray, List.set_cons_zero, List.set_cons_succ]
    refine wpAnyH_take (i := 16) (oi := { dst := some 23, op := _, type := _, pos := _, after := _, guard := _ }) (v := undef) rfl (by kernel_rfl) (by kernel_rfl) (by kernel_rfl) (fun _ _ _ h => h) (Or.inr ⟨by rfl, rfl⟩) (by first | trivial | assumption) ?_
    try simp only [Act.put, List.setIfInBounds_toArray, List.set_cons_zero, List.set_cons_succ]
    refine wpAnyH_take (i := 17) (oi := { dst := some 24, op := _, type := _, pos := _, after := _, guard := _ }) (v := undef) rfl (by kernel_rfl) (by kernel_rfl) (by kernel_rfl) (fun _ _ _ h => h) (Or.inr ⟨by rfl, rfl⟩) (by first | trivial | assumption) ?_
    try simp only [Act.put, List.setIfInBounds_toArray, List.set_cons_zero, List.set_cons_succ]
    refine wpAnyH_take (i := 18) (oi := { dst := some 25, op := _, type := _, pos := _, after := _, guard := _ }) (v := undef) rfl (by kernel_rfl) (by kernel_rfl) (by kernel_rfl) (fun _ _ _ h => h) (Or.inr ⟨by rfl, rfl⟩) (by first | trivial | assumption) ?_
    try simp only [Act.put, List.setIfInBounds_toArray, List.set_cons_zero, List.set_cons_succ]
    refine wpAnyH_take (i := 19) (oi := { dst := some 26, op := _, type := _, pos := _, after := _, guard := _ }) (v := undef) rfl (by kernel_rfl) (by kernel_rfl) (by kernel_rfl) (fun _ _ _ h => h) (Or.inr ⟨by rfl, rfl⟩) (by first | trivial | assumption) ?_
    try simp only [Act.put, List.setIfInBounds_toArray, List.set_cons_zero, List.set_cons_succ]
    refine wpAnyH_take (i := 20) (oi := { dst := some 27, op := _, type := _, pos := _, after := _, guard := _ }) (v := undef) rfl (by kernel_rfl) (by kernel_rfl) (by kernel_rfl) (fun _ _ _ h => h) (Or.inr ⟨by rfl, rfl⟩) (by first | trivial | assumption) ?_
    try simp only [Act.put, List.setIfInBounds_toArray, List.set_cons_zero, List.set_cons_succ]
    refine wpAnyH_take (i := 21) (oi := { dst := some 28, op := _, type := _, pos := _, after := _, guard := _ }) (v := undef) rfl (by kernel_rfl) (by kernel_rfl) (by kernel_rfl) (fun _ _ _ h => h) (Or.inr ⟨by rfl, rfl⟩) (by first | trivial | assumption) ?_
    try simp only [Act.put, List.setIfInBounds_toArray, List.set_cons_zero, List.set_cons_succ]
    refine wpAnyH_take (i := 22) (oi := { dst := some 29, op := _, type := _, pos := _, after := _, guard := _ }) (v := .bool false) rfl (by kernel_rfl) (by kernel_rfl) (by kernel_rfl) (fun _ _ _ h => h) (Or.inl ⟨by rfl, fun w hSw => by (try dsimp only at hSw); (try go_split_ands); go_simp⟩) (by first | trivial | assumption) ?_
    try simp only [Act.put, List.setIfInBounds_toArray, List.set_cons_zero, List.set_cons_succ]
    refine wpAnyH_take (i := 23) (oi := { dst := some 6, op := _, type := _, pos := _, after := _, guard := _ }) (v := .bool false) rfl (by kernel_rfl) (by kernel_rfl) (by kernel_rfl) (fun _ _ _ h => h) (Or.inl ⟨by rfl, fun w hSw => by (try dsimp only at hSw); (try go_split_ands); go_simp⟩) (by first | trivial | assumption) ?_
    try simp only [Act.put, List.setIfInBounds_toArray, List.set_cons_zero, List.set_cons_succ]
    refine wpAnyH_done (by kernel_rfl) ?_ _
    go_wp2
    (try simp only [Exit.inBlock, Exit.then])
    go_ret
    exact ⟨by rw [HY.out]; rfl, HB1.out⟩
  obtain ⟨k, rfl⟩ : ∃ k : Nat, z = (k : Int) := ⟨z.toNat, by omega⟩
  have hk : k < c.r.length := by omega
  have HY : Hid (mA c (k : Int) t = mtd c (c.r.getD k Rou.t0).us t) := by
    unfold Hid
    rw [HO.out, decide_eq_true (show (0 : Int) ≤ k ∧ (k : Int) < (c.r.length : Int) by omega)]
    cases ht : isT t
    · rw [mtd_time ht, mtd_time ht]; rfl
    · simp
  obtain ⟨hnu, hlu⟩ := nums_of HGN.out hk
  obtain ⟨b, off, ha, hbl, hcl, hl⟩ := HW0.out.has.r.at2 k hk
  obtain ⟨d0, d1, d2, d3, d4, d5, d6, d7, d8⟩ := hcl.all
  have HLs := hid hl
  clear hcl hl HO HG
  generalize c.r.getD k Rou.t0 = q at *
  obtain ⟨p0, p1, p2, p3⟩ := hSd
  rw [ha] at p0
  have hSe : (fun x : World => x.cell? ⟨w.heap.size, 0, none⟩ = some (.slice (some ⟨b, off, none⟩) c.r.length c.rc) ∧ x.cell? ⟨w.heap.size, 1, none⟩ = some (.slice c.ia c.i.length c.ic) ∧ x.cell? ⟨w.heap.size, 2, none⟩ = some (.slice c.sa c.s.length c.sc) ∧ x.cell? ⟨w.heap.size, 3, none⟩ = some (.slice c.xa c.x.length c.xc) ∧ x.cell? ⟨b, off + k * 9, none⟩ = some (.string q.rv) ∧ x.cell? ⟨b, off + k * 9 + 1, none⟩ = some (.slice q.ma q.ms.length q.mc) ∧ x.cell? ⟨b, off + k * 9 + 2, none⟩ = some (.slice q.da q.ds.length q.dc) ∧ x.cell? ⟨b, off + k * 9 + 3, none⟩ = some (.int .i64 q.wa) ∧ x.cell? ⟨b, off + k * 9 + 4, none⟩ = some (.int .i64 q.ev) ∧ x.cell? ⟨b, off + k * 9 + 5, none⟩ = some (.int .i64 q.ag) ∧ x.cell? ⟨b, off + k * 9 + 6, none⟩ = some (.slice q.ua q.us.length q.uc) ∧ x.cell? ⟨b, off + k * 9 + 7, none⟩ = some (.bool q.on) ∧ x.cell? ⟨b, off + k * 9 + 8, none⟩ = some (.int .i64 q.kd)) W0.drew := ⟨p0, p1, p2, p3, d0, d1, d2, d3, d4, d5, d6, d7, d8⟩
  have HQ := fun x a b => hid (f47 c q t x hlu a hnu HGN.out HZ.out b)
  have HX1c := H1 W0.drew (HW0.out.has.below (Below.refl _ _).drew) (HW0.out.rgl.below (Below.refl _ _).drew)
  simp only [agC, ha] at HX1c
  refine wp_region_held_drew (S := fun x : World => x.cell? ⟨w.heap.size, 0, none⟩ = some (.slice (some ⟨b, off, none⟩) c.r.length c.rc) ∧ x.cell? ⟨w.heap.size, 1, none⟩ = some (.slice c.ia c.i.length c.ic) ∧ x.cell? ⟨w.heap.size, 2, none⟩ = some (.slice c.sa c.s.length c.sc) ∧ x.cell? ⟨w.heap.size, 3, none⟩ = some (.slice c.xa c.x.length c.xc) ∧ x.cell? ⟨b, off + k * 9, none⟩ = some (.string q.rv) ∧ x.cell? ⟨b, off + k * 9 + 1, none⟩ = some (.slice q.ma q.ms.length q.mc) ∧ x.cell? ⟨b, off + k * 9 + 2, none⟩ = some (.slice q.da q.ds.length q.dc) ∧ x.cell? ⟨b, off + k * 9 + 3, none⟩ = some (.int .i64 q.wa) ∧ x.cell? ⟨b, off + k * 9 + 4, none⟩ = some (.int .i64 q.ev) ∧ x.cell? ⟨b, off + k * 9 + 5, none⟩ = some (.int .i64 q.ag) ∧ x.cell? ⟨b, off + k * 9 + 6, none⟩ = some (.slice q.ua q.us.length q.uc) ∧ x.cell? ⟨b, off + k * 9 + 7, none⟩ = some (.bool q.on) ∧ x.cell? ⟨b, off + k * 9 + 8, none⟩ = some (.int .i64 q.kd)) rfl hSe (fun hHeld => ?_)
  refine wpAnyH_take (i := 0) (oi := { dst := some 7, op := _, type := _, pos := _, after := _, guard := _ }) (v := .agg #[.slice (some ⟨b, off, none⟩) c.r.length c.rc, .slice c.ia c.i.length c.ic, .slice c.sa c.s.length c.sc, .slice c.xa c.x.length c.xc]) rfl (by kernel_rfl) (by kernel_rfl) (by kernel_rfl) (fun _ _ _ h => h) (Or.inl ⟨by rfl, fun w hSw => by (try dsimp only at hSw); (try go_split_ands); go_simp⟩) (by first | trivial | assumption) ?_
  try simp only [Act.put, List.setIfInBounds_toArray, List.set_cons_zero, List.set_cons_succ]
  refine wpAnyH_ready (rs := [1]) (by kernel_rfl) (by simp) (AllReadyH.cons (o := { dst := some 8, op := _, type := _, pos := _, after := _, guard := _ }) rfl ?_ AllReadyH.nil)
  intro K1 hK1
  go_simp
  go_wp2_with (go_at_call 9; refine (HX1c).out.mono ?_; rintro e w1 ⟨rfl, hb⟩)
  have hbb := (Below.refl W0.heap.size W0).drew.trans hb
  have hS1 : (fun x : World => x.cell? ⟨w.heap.size, 0, none⟩ = some (.slice (some ⟨b, off, none⟩) c.r.length c.rc) ∧ x.cell? ⟨w.heap.size, 1, none⟩ = some (.slice c.ia c.i.length c.ic) ∧ x.cell? ⟨w.heap.size, 2, none⟩ = some (.slice c.sa c.s.length c.sc) ∧ x.cell? ⟨w.heap.size, 3, none⟩ = some (.slice c.xa c.x.length c.xc) ∧ x.cell? ⟨b, off + k * 9, none⟩ = some (.string q.rv) ∧ x.cell? ⟨b, off + k * 9 + 1, none⟩ = some (.slice q.ma q.ms.length q.mc) ∧ x.cell? ⟨b, off + k * 9 + 2, none⟩ = some (.slice q.da q.ds.length q.dc) ∧ x.cell? ⟨b, off + k * 9 + 3, none⟩ = some (.int .i64 q.wa) ∧ x.cell? ⟨b, off + k * 9 + 4, none⟩ = some (.int .i64 q.ev) ∧ x.cell? ⟨b, off + k * 9 + 5, none⟩ = some (.int .i64 q.ag) ∧ x.cell? ⟨b, off + k * 9 + 6, none⟩ = some (.slice q.ua q.us.length q.uc) ∧ x.cell? ⟨b, off + k * 9 + 7, none⟩ = some (.bool q.on) ∧ x.cell? ⟨b, off + k * 9 + 8, none⟩ = some (.int .i64 q.kd)) w1 := ⟨(hbb.cell (p := ⟨w.heap.size, 0, none⟩) (World.block_lt_of_cell? W0 _ p0)).trans p0, (hbb.cell (p := ⟨w.heap.size, 1, none⟩) (World.block_lt_of_cell? W0 _ p1)).trans p1, (hbb.cell (p := ⟨w.heap.size, 2, none⟩) (World.block_lt_of_cell? W0 _ p2)).trans p2, (hbb.cell (p := ⟨w.heap.size, 3, none⟩) (World.block_lt_of_cell? W0 _ p3)).trans p3, (hbb.cell (p := ⟨b, off + k * 9, none⟩) hbl).trans d0, (hbb.cell (p := ⟨b, off + k * 9 + 1, none⟩) hbl).trans d1, (hbb.cell (p := ⟨b, off + k * 9 + 2, none⟩) hbl).trans d2, (hbb.cell (p := ⟨b, off + k * 9 + 3, none⟩) hbl).trans d3, (hbb.cell (p := ⟨b, off + k * 9 + 4, none⟩) hbl).trans d4, (hbb.cell (p := ⟨b, off + k * 9 + 5, none⟩) hbl).trans d5, (hbb.cell (p := ⟨b, off + k * 9 + 6, none⟩) hbl).trans d6, (hbb.cell (p := ⟨b, off + k * 9 + 7, none⟩) hbl).trans d7, (hbb.cell (p := ⟨b, off + k * 9 + 8, none⟩) hbl).trans d8⟩
  have HB1 := hid (HB0.out.trans (hbb.mono HB0.out.size))
  have HW1 := hid (HW0.out.below hbb)
  have HBB1 := hid hbb
  have HL1 := hid (HLs.out.below hbb)
  clear hb hbb
  refine hK1.out _ _ hS1 (fun _ => ?_)
  clear hK1 K1
  try simp only [Act.put, List.setIfInBounds_toArray, List.set_cons_zero, List.set_cons_succ]
  refine wpAnyH_take (i := 2) (oi := { dst := some 9, op := _, type := _, pos := _, after := _, guard := _ }) (v := .bool true) rfl (by kernel_rfl) (by kernel_rfl) (by kernel_rfl) (fun _ _ _ h => h) (Or.inl ⟨by rfl, fun w hSw => by (try dsimp only at hSw); (try go_split_ands); go_simp⟩) (by first | trivial | assumption) ?_
  try simp only [Act.put, List.setIfInBounds_toArray, List.set_cons_zero, List.set_cons_succ]
  refine wpAnyH_take (i := 3) (oi := { dst := some 10, op := _, type := _, pos := _, after := _, guard := _ }) (v := .int .i64 (k : Int)) rfl (by kernel_rfl) (by kernel_rfl) (by kernel_rfl) (fun _ _ _ h => h) (Or.inl ⟨by rfl, fun w hSw => by (try dsimp only at hSw); (try go_split_ands); go_simp⟩) (by first | trivial | assumption) ?_
  try simp only [Act.put, List.setIfInBounds_toArray, List.set_cons_zero, List.set_cons_succ]
  refine wpAnyH_take (i := 4) (oi := { dst := some 11, op := _, type := _, pos := _, after := _, guard := _ }) (v := .bool true) rfl (by kernel_rfl) (by kernel_rfl) (by kernel_rfl) (fun _ _ _ h => h) (Or.inl ⟨by rfl, fun w hSw => by (try dsimp only at hSw); (try go_split_ands); go_simp⟩) (by first | trivial | assumption) ?_
  try simp only [Act.put, List.setIfInBounds_toArray, List.set_cons_zero, List.set_cons_succ]
  refine wpAnyH_take (i := 5) (oi := { dst := some 12, op := _, type := _, pos := _, after := _, guard := _ }) (v := .bool true) rfl (by kernel_rfl) (by kernel_rfl) (by kernel_rfl) (fun _ _ _ h => h) (Or.inl ⟨by rfl, fun w hSw => by (try dsimp only at hSw); (try go_split_ands); go_simp⟩) (by first | trivial | assumption) ?_
  try simp only [Act.put, List.setIfInBounds_toArray, List.set_cons_zero, List.set_cons_succ]
  refine wpAnyH_take (i := 6) (oi := { dst := some 13, op := _, type := _, pos := _, after := _, guard := _ }) (v := .bool true) rfl (by kernel_rfl) (by kernel_rfl) (by kernel_rfl) (fun _ _ _ h => h) (Or.inl ⟨by rfl, fun w hSw => by (try dsimp only at hSw); (try go_split_ands); go_simp⟩) (by first | trivial | assumption) ?_
  try simp only [Act.put, List.setIfInBounds_toArray, List.set_cons_zero, List.set_cons_succ]
  refine wpAnyH_take (i := 7) (oi := { dst := some 14, op := _, type := _, pos := _, after := _, guard := _ }) (v := .int .i64 (k : Int)) rfl (by kernel_rfl) (by kernel_rfl) (by kernel_rfl) (fun _ _ _ h => h) (Or.inl ⟨by rfl, fun w hSw => by (try dsimp only at hSw); (try go_split_ands); go_simp⟩) (by first | trivial | assumption) ?_
  try simp only [Act.put, List.setIfInBounds_toArray, List.set_cons_zero, List.set_cons_succ]
  refine wpAnyH_take (i := 8) (oi := { dst := some 15, op := _, type := _, pos := _, after := _, guard := _ }) (v := .pointer (some ⟨w.heap.size, 0, none⟩)) rfl (by kernel_rfl) (by kernel_rfl) (by kernel_rfl) (fun _ _ _ h => h) (Or.inl ⟨by rfl, fun w hSw => by (try dsimp only at hSw); (try go_split_ands); go_simp⟩) (by first | trivial | assumption) ?_
  try simp only [Act.put, List.setIfInBounds_toArray, List.set_cons_zero, List.set_cons_succ]
  refine wpAnyH_take (i := 9) (oi := { dst := some 16, op := _, type := _, pos := _, after := _, guard := _ }) (v := .slice (some ⟨b, off, none⟩) c.r.length c.rc) rfl (by kernel_rfl) (by kernel_rfl) (by kernel_rfl) (fun _ _ _ h => h) (Or.inl ⟨by rfl, fun w hSw => by (try dsimp only at hSw); (try go_split_ands); go_simp⟩) (by first | trivial | assumption) ?_
  try simp only [Act.put, List.setIfInBounds_toArray, List.set_cons_zero, List.set_cons_succ]
  refine wpAnyH_take (i := 10) (oi := { dst := some 17, op := _, type := _, pos := _, after := _, guard := _ }) (v := .int .i64 c.r.length) rfl (by kernel_rfl) (by kernel_rfl) (by kernel_rfl) (fun _ _ _ h => h) (Or.inl ⟨by rfl, fun w hSw => by (try dsimp only at hSw); (try go_split_ands); go_simp⟩) (by first | trivial | assumption) ?_
  try simp only [Act.put, List.setIfInBounds_toArray, List.set_cons_zero, List.set_cons_succ]
  refine wpAnyH_take (i := 11) (oi := { dst := some 18, op := _, type := _, pos := _, after := _, guard := _ }) (v := .bool true) rfl (by kernel_rfl) (by kernel_rfl) (by kernel_rfl) (fun _ _ _ h => h) (Or.inl ⟨by rfl, fun w hSw => by (try dsimp only at hSw); (try go_split_ands); go_simp⟩) (by first | trivial | assumption) ?_
  try simp only [Act.put, List.setIfInBounds_toArray, List.set_cons_zero, List.set_cons_succ]
  refine wpAnyH_take (i := 12) (oi := { dst := some 19, op := _, type := _, pos := _, after := _, guard := _ }) (v := .bool true) rfl (by kernel_rfl) (by kernel_rfl) (by kernel_rfl) (fun _ _ _ h => h) (Or.inl ⟨by rfl, fun w hSw => by (try dsimp only at hSw); (try go_split_ands); go_simp⟩) (by first | trivial | assumption) ?_
  try simp only [Act.put, List.setIfInBounds_toArray, List.set_cons_zero, List.set_cons_succ]
  refine wpAnyH_take (i := 13) (oi := { dst := some 20, op := _, type := _, pos := _, after := _, guard := _ }) (v := .bool true) rfl (by kernel_rfl) (by kernel_rfl) (by kernel_rfl) (fun _ _ _ h => h) (Or.inl ⟨by rfl, fun w hSw => by (try dsimp only at hSw); (try go_split_ands); go_simp⟩) (by first | trivial | assumption) ?_
  try simp only [Act.put, List.setIfInBounds_toArray, List.set_cons_zero, List.set_cons_succ]
  refine wpAnyH_take (i := 14) (oi := { dst := some 21, op := _, type := _, pos := _, after := _, guard := _ }) (v := .agg #[.slice (some ⟨b, off, none⟩) c.r.length c.rc, .slice c.ia c.i.length c.ic, .slice c.sa c.s.length c.sc, .slice c.xa c.x.length c.xc]) rfl (by kernel_rfl) (by kernel_rfl) (by kernel_rfl) (fun _ _ _ h => h) (Or.inl ⟨by rfl, fun w hSw => by (try dsimp only at hSw); (try go_split_ands); go_simp⟩) (by first | trivial | assumption) ?_
  try simp only [Act.put, List.setIfInBounds_toArray, List.set_cons_zero, List.set_cons_succ]
  refine wpAnyH_take (i := 15) (oi := { dst := some 22, op := _, type := _, pos := _, after := _, guard := _ }) (v := .pointer (some ⟨w.heap.size, 0, none⟩)) rfl (by kernel_rfl) (by kernel_rfl) (by kernel_rfl) (fun _ _ _ h => h) (Or.inl ⟨by rfl, fun w hSw => by (try dsimp only at hSw); (try go_split_ands); go_simp⟩) (by first | trivial | assumption) ?_
  try simp only [Act.put, List.setIfInBounds_toArray, List.set_cons_zero, List.set_cons_succ]
  refine wpAnyH_take (i := 16) (oi := { dst := some 23, op := _, type := _, pos := _, after := _, guard := _ }) (v := .slice (some ⟨b, off, none⟩) c.r.length c.rc) rfl (by kernel_rfl) (by kernel_rfl) (by kernel_rfl) (fun _ _ _ h => h) (Or.inl ⟨by rfl, fun w hSw => by (try dsimp only at hSw); (try go_split_ands); go_simp⟩) (by first | trivial | assumption) ?_
  try simp only [Act.put, List.setIfInBounds_toArray, List.set_cons_zero, List.set_cons_succ]
  refine wpAnyH_take (i := 17) (oi := { dst := some 24, op := _, type := _, pos := _, after := _, guard := _ }) (v := .int .i64 (k : Int)) rfl (by kernel_rfl) (by kernel_rfl) (by kernel_rfl) (fun _ _ _ h => h) (Or.inl ⟨by rfl, fun w hSw => by (try dsimp only at hSw); (try go_split_ands); go_simp⟩) (by first | trivial | assumption) ?_
  try simp only [Act.put, List.setIfInBounds_toArray, List.set_cons_zero, List.set_cons_succ]
  refine wpAnyH_take (i := 18) (oi := { dst := some 25, op := _, type := _, pos := _, after := _, guard := _ }) (v := .pointer (some ⟨b, off + k * 9, none⟩)) rfl (by kernel_rfl) (by kernel_rfl) (by kernel_rfl) (fun _ _ _ h => h) (Or.inl ⟨by rfl, fun w hSw => by (try dsimp only at hSw); (try go_split_ands); go_simp⟩) (by first | trivial | assumption) ?_
  try simp only [Act.put, List.setIfInBounds_toArray, List.set_cons_zero, List.set_cons_succ]
  refine wpAnyH_take (i := 19) (oi := { dst := some 26, op := _, type := _, pos := _, after := _, guard := _ }) (v := .agg #[.string q.rv, .slice q.ma q.ms.length q.mc, .slice q.da q.ds.length q.dc, .int .i64 q.wa, .int .i64 q.ev, .int .i64 q.ag, .slice q.ua q.us.length q.uc, .bool q.on, .int .i64 q.kd]) rfl (by kernel_rfl) (by kernel_rfl) (by kernel_rfl) (fun _ _ _ h => h) (Or.inl ⟨by rfl, fun w hSw => by (try dsimp only at hSw); (try go_split_ands); go_simp⟩) (by first | trivial | assumption) ?_
  try simp only [Act.put, List.setIfInBounds_toArray, List.set_cons_zero, List.set_cons_succ]
  refine wpAnyH_take (i := 20) (oi := { dst := some 27, op := _, type := _, pos := _, after := _, guard := _ }) (v := .int .i64 t) rfl (by kernel_rfl) (by kernel_rfl) (by kernel_rfl) (fun _ _ _ h => h) (Or.inl ⟨by rfl, fun w hSw => by (try dsimp only at hSw); (try go_split_ands); go_simp⟩) (by first | trivial | assumption) ?_
  try simp only [Act.put, List.setIfInBounds_toArray, List.set_cons_zero, List.set_cons_succ]
  have HQ1 := HQ w1 HL1.out.u HW1.out
  simp only [agC, Rou.agT, ha] at HQ1
  refine wpAnyH_ready (rs := [21]) (by kernel_rfl) (by simp) (AllReadyH.cons (o := { dst := some 28, op := _, type := _, pos := _, after := _, guard := _ }) rfl ?_ AllReadyH.nil)
  intro K2 hK2
  go_simp
  go_wp2_with (go_at_call 47; refine (HQ1).out.mono ?_; rintro e w2 ⟨rfl, hb⟩)
  have hbb := HBB1.out.trans (hb.mono HBB1.out.size)
  have hS2 : (fun x : World => x.cell? ⟨w.heap.size, 0, none⟩ = some (.slice (some ⟨b, off, none⟩) c.r.length c.rc) ∧ x.cell? ⟨w.heap.size, 1, none⟩ = some (.slice c.ia c.i.length c.ic) ∧ x.cell? ⟨w.heap.size, 2, none⟩ = some (.slice c.sa c.s.length c.sc) ∧ x.cell? ⟨w.heap.size, 3, none⟩ = some (.slice c.xa c.x.length c.xc) ∧ x.cell? ⟨b, off + k * 9, none⟩ = some (.string q.rv) ∧ x.cell? ⟨b, off + k * 9 + 1, none⟩ = some (.slice q.ma q.ms.length q.mc) ∧ x.cell? ⟨b, off + k * 9 + 2, none⟩ = some (.slice q.da q.ds.length q.dc) ∧ x.cell? ⟨b, off + k * 9 + 3, none⟩ = some (.int .i64 q.wa) ∧ x.cell? ⟨b, off + k * 9 + 4, none⟩ = some (.int .i64 q.ev) ∧ x.cell? ⟨b, off + k * 9 + 5, none⟩ = some (.int .i64 q.ag) ∧ x.cell? ⟨b, off + k * 9 + 6, none⟩ = some (.slice q.ua q.us.length q.uc) ∧ x.cell? ⟨b, off + k * 9 + 7, none⟩ = some (.bool q.on) ∧ x.cell? ⟨b, off + k * 9 + 8, none⟩ = some (.int .i64 q.kd)) w2 := ⟨(hbb.cell (p := ⟨w.heap.size, 0, none⟩) (World.block_lt_of_cell? W0 _ p0)).trans p0, (hbb.cell (p := ⟨w.heap.size, 1, none⟩) (World.block_lt_of_cell? W0 _ p1)).trans p1, (hbb.cell (p := ⟨w.heap.size, 2, none⟩) (World.block_lt_of_cell? W0 _ p2)).trans p2, (hbb.cell (p := ⟨w.heap.size, 3, none⟩) (World.block_lt_of_cell? W0 _ p3)).trans p3, (hbb.cell (p := ⟨b, off + k * 9, none⟩) hbl).trans d0, (hbb.cell (p := ⟨b, off + k * 9 + 1, none⟩) hbl).trans d1, (hbb.cell (p := ⟨b, off + k * 9 + 2, none⟩) hbl).trans d2, (hbb.cell (p := ⟨b, off + k * 9 + 3, none⟩) hbl).trans d3, (hbb.cell (p := ⟨b, off + k * 9 + 4, none⟩) hbl).trans d4, (hbb.cell (p := ⟨b, off + k * 9 + 5, none⟩) hbl).trans d5, (hbb.cell (p := ⟨b, off + k * 9 + 6, none⟩) hbl).trans d6, (hbb.cell (p := ⟨b, off + k * 9 + 7, none⟩) hbl).trans d7, (hbb.cell (p := ⟨b, off + k * 9 + 8, none⟩) hbl).trans d8⟩
  have HB2 := hid (HB1.out.trans (hb.mono HB1.out.size))
  clear hb hbb
  refine hK2.out _ _ hS2 (fun _ => ?_)
  clear hK2 K2
  try simp only [Act.put, List.setIfInBounds_toArray, List.set_cons_zero, List.set_cons_succ]
  refine wpAnyH_take (i := 22) (oi := { dst := some 29, op := _, type := _, pos := _, after := _, guard := _ }) (v := .bool (mtd c q.us t)) rfl (by kernel_rfl) (by kernel_rfl) (by kernel_rfl) (fun _ _ _ h => h) (Or.inl ⟨by rfl, fun w hSw => by (try dsimp only at hSw); (try go_split_ands); go_simp⟩) (by first | trivial | assumption) ?_
  try simp only [Act.put, List.setIfInBounds_toArray, List.set_cons_zero, List.set_cons_succ]
  refine wpAnyH_take (i := 23) (oi := { dst := some 6, op := _, type := _, pos := _, after := _, guard := _ }) (v := .bool (mtd c q.us t)) rfl (by kernel_rfl) (by kernel_rfl) (by kernel_rfl) (fun _ _ _ h => h) (Or.inl ⟨by rfl, fun w hSw => by (try dsimp only at hSw); (try go_split_ands); go_simp⟩) (by first | trivial | assumption) ?_
  try simp only [Act.put, List.setIfInBounds_toArray, List.set_cons_zero, List.set_cons_succ]
  refine wpAnyH_done (by kernel_rfl) ?_ _
  go_wp2
  (try simp only [Exit.inBlock, Exit.then])
  go_ret
  exact ⟨by rw [HY.out]; rfl, HB2.out⟩

set_option maxHeartbeats 8000000 in
theorem f46 (c : C) (k : Nat) (t : Int) (w : World) (hk : k < c.r.length) (hr : Has w c) (hz : Sml c) (hg : GN c) :
    Calls Tryz.prog 46 #[agC c, .int .i64 k, .int .i64 t] w fun e w' => e = .returned (.bool (mtd c (c.r.getD k Rou.t0).us t)) ∧ Below w.heap.size w w' := by
  obtain ⟨hnu, hlu⟩ := nums_of hg hk
  obtain ⟨b, off, ha, hbl, hcl, hl⟩ := hr.r.at2 k hk
  have hal := (Below.refl w.heap.size w).alloc (Nat.le_refl _) (BXC c)
  have HB0 := hid hal
  have HX0 := hid (heap_alloc_new w (BXC c))
  have HR0 := hid (hr.below hal)
  obtain ⟨d0, d1, d2, d3, d4, d5, d6, d7, d8⟩ := (hcl.below hal hbl).all
  have HU0 := hid (hl.u.below hal)
  have HNU := hid hnu
  have HZ := hid hz
  have hk' : (k : Int) < (c.r.length : Int) := by omega
  have hin : Hid (c.r.length ≤ 1048576) := hz.r.1
  have HAa := hid ha
  clear hcl hl hg hr hz hnu hal ha
  generalize c.r.getD k Rou.t0 = q at *
  generalize hm : q.us.length = m at *
  have HM := hid hm
  clear hm d0 d1 d2 d3 d4 d5 d7 d8
  obtain ⟨W0, hW⟩ : ∃ W, W = w.alloc (BXC c) := ⟨_, rfl⟩
  rw [← hW] at HB0 HX0 HR0 HU0 d6
  have HW := hid hW
  clear hW
  simp only [agC]
  go_enter Tryz.func46, Tryz.ntmps46
  go_upto_region 1 with fail
  rw [← HW.out]
  clear HW
  obtain ⟨x0, x1, x2, x3⟩ := cells4 HX0.out
  rw [HAa.out] at x0
  go_wp2
  go_loopw [16] (fun i wr => ∃ j : Nat, j ≤ m ∧ i = .int .i64 j ∧ Hid (∀ i, i < j → hvK c t (q.us.getD i 0) = false) ∧ Hid (wr.heap[w.heap.size]? = some (BXC c)) ∧ Hid (Has wr c) ∧ Hid (Ino.Has wr q.ua q.us) ∧ Hid (Below w.heap.size w wr)) (fun i _ => m - (intOf i).toNat)
  case atStart => exact ⟨0, Nat.zero_le _, rfl, fun i hi => absurd hi (by omega), HX0, HR0, HU0, HB0⟩
  case round =>
    clear HX0 HR0 HU0 HB0 x0 x1 x2 x3 d6
    obtain ⟨j, hj, rfl, HA, HX, HR, HU, HB⟩ := hrel
    by_cases hlt : j < m
    rotate_left
    · have HY : Hid (mtd c q.us t = false) := mtd_none HA.out (by have := HM.out; omega)
      have i1 : ¬ (j : Int) < (m : Int) := by omega
      go_wp2
      go_ret
      exact ⟨by rw [HY.out]; rfl, HB.out⟩
    have hjl : j < q.us.length := by have := HM.out; omega
    obtain ⟨bu, ou, hau, d0⟩ := at_int HU.out (k := j) hjl
    have hnum := HNU.out j hjl
    have HG : Hid (hvK c t (q.us.getD j 0) = true → mtd c q.us t = true) := fun h => mtd_hit hjl h
    have HG2 : Hid (hvK c t (q.us.getD j 0) = false → ∀ i, i < j + 1 → hvK c t (q.us.getD i 0) = false) := fun h i hi => by
      by_cases e : i = j
      · rw [e]; exact h
      · exact HA.out i (by omega)
    have i1 : (j : Int) < (m : Int) := by omega
    have HU2 : Hid (Ino.Has wr (some ⟨bu, ou, none⟩) q.us) := by have h := HU.out; rw [hau] at h; exact h
    rw [hau]
    generalize q.us.getD j 0 = z at *
    obtain ⟨n, rfl⟩ : ∃ n : Nat, z = (n : Int) := ⟨z.toNat, by omega⟩
    have hn : n < c.i.length := by omega
    have hn' : (n : Int) < (c.i.length : Int) := by omega
    obtain ⟨bi, oi, hai, hbi, hci, hli⟩ := HR.out.i.at2 n hn
    obtain ⟨e0, e1, e2, e3, e4, e5, e6⟩ := hci.all
    have HO : Hid (hvK c t n = Rng.hv (ivO (c.i.getD n Ivn.t0)) t) := by unfold Hid hvK; simp
    have hsm := HZ.out.i.2 n hn
    have HLi := hid hli
    have HAi := hid hai
    clear hci hli hnum hau hjl hai
    generalize c.i.getD n Ivn.t0 = v at *
    have HC := fun x a => hid (Rng.f78 (ivO v) t x a (ivO_sml hsm))
    rw [← HO.out] at HC
    obtain ⟨x0, x1, x2, x3⟩ := cells4 HX.out
    rw [HAi.out] at x1
    go_wp2_with fail
    refine (HC _ (ivO_has HLi.out)).out.mono ?_
    rintro e w2 ⟨rfl, hb⟩
    have HX2 := hid (kept HX.out hb)
    have HR2 := hid (HR.out.below hb)
    have HU3 := hid (HU2.out.below hb)
    have HB2 := hid (HB.out.trans (hb.mono HB.out.size))
    clear hb HX HR HU HU2 HB x0 x1 x2 x3 e0 e1 e2 e3 e4 e5 e6 HC d0 HO hsm
    cases hh : hvK c t n
    · have HY := hid (HG2.out hh)
      clear hh
      go_wp2
      go_roundw
      case rel => exact ⟨j + 1, by omega, by go_num, HY, HX2, HR2, HU3, HB2⟩
      case measure => simp [intOf]; omega
    · have HY := hid (HG.out hh)
      clear hh
      go_wp2
      go_ret
      exact ⟨by rw [HY.out]; rfl, HB2.out⟩

set_option maxHeartbeats 8000000 in
theorem f16 (c : C) (z t : Int) (w : World) (hr : Has w c) (hf : Fit c) (hz : Sml c) :
    Calls Tryz.prog 16 #[agC c, .int .i64 z, .int .i64 t] w fun e w' => e = .returned (.bool (mA c z t)) ∧ Below w.heap.size w w' := by
  have hal := (Below.refl w.heap.size w).alloc (Nat.le_refl _) (BXC c)
  have HB0 := hid hal
  have HX0 := hid (heap_alloc_new w (BXC c))
  have HR0 := hid (hr.below hal)
  have H1 := fun x a => hid (f7 c x a hf hz)
  have H2 := fun x => hid (Nmt.f40 t x)
  have HO : Hid (mA c z t = (gN c && decide (0 ≤ z ∧ z < (c.r.length : Int)) && isT t && mtd c (c.r.getD z.toNat Rou.t0).us t)) := rfl
  have HG := fun h => hid (gN_of (c := c) h)
  have H3 := fun (k : Nat) x a b d => hid (f46 c k t x a b hz d)
  obtain ⟨b1, hb1⟩ : ∃ b, b = gN c := ⟨_, rfl⟩
  obtain ⟨b2, hb2⟩ : ∃ b, b = isT t := ⟨_, rfl⟩
  rw [← hb1] at HO H1 HG
  rw [← hb2] at HO H2
  have hin : Hid (c.r.length ≤ 1048576) := hz.r.1
  obtain ⟨W0, hW⟩ : ∃ W, W = w.alloc (BXC c) := ⟨_, rfl⟩
  rw [← hW] at HB0 HX0 HR0
  have HW := hid hW
  clear hW hal hr hf hz hb1 hb2
  simp only [agC]
  go_enter Tryz.func16, Tryz.ntmps16
  go_upto_region 1 with fail
  rw [← HW.out]
  clear HW
  obtain ⟨x0, x1, x2, x3⟩ := cells4 HX0.out
  cases b1
  · have HY : Hid (mA c z t = false) := by unfold Hid; rw [HO.out]; simp
    go_wp2_with fail
    refine (H1 _ HR0.out).out.mono ?_
    rintro e w1 ⟨rfl, hb⟩
    have HB1 := hid (HB0.out.trans (hb.mono HB0.out.size))
    clear hb
    go_wp2
    go_ret
    exact ⟨by rw [HY.out]; rfl, HB1.out⟩
  have HGN := HG rfl
  go_wp2_with fail
  refine (H1 _ HR0.out).out.mono ?_
  rintro e w1 ⟨rfl, hb⟩
  have HB1 := hid (HB0.out.trans (hb.mono HB0.out.size))
  have HX1 := hid (kept HX0.out hb)
  have HR1 := hid (HR0.out.below hb)
  clear hb HB0 HX0 HR0 x0 x1 x2 x3 H1
  obtain ⟨x0, x1, x2, x3⟩ := cells4 HX1.out
  by_cases g1 : z ≥ 0
  rotate_left
  · have HY : Hid (mA c z t = false) := by unfold Hid; rw [HO.out, decide_eq_false (show ¬ (0 ≤ z ∧ z < (c.r.length : Int)) by omega)]; simp
    go_wp2
    go_ret
    exact ⟨by rw [HY.out]; rfl, HB1.out⟩
  by_cases g2 : z < (c.r.length : Int)
  rotate_left
  · have HY : Hid (mA c z t = false) := by unfold Hid; rw [HO.out, decide_eq_false (show ¬ (0 ≤ z ∧ z < (c.r.length : Int)) by omega)]; simp
    go_wp2
    go_ret
    exact ⟨by rw [HY.out]; rfl, HB1.out⟩
  obtain ⟨k, rfl⟩ : ∃ k : Nat, z = (k : Int) := ⟨z.toNat, by omega⟩
  have hk : k < c.r.length := by omega
  cases b2
  · have HY : Hid (mA c (k : Int) t = false) := by unfold Hid; rw [HO.out]; simp
    go_wp2_with fail
    refine (H2 _).out.mono ?_
    rintro e w2 ⟨rfl, hw⟩
    subst w2
    go_wp2
    go_ret
    exact ⟨by rw [HY.out]; rfl, HB1.out⟩
  have HY : Hid (mA c (k : Int) t = mtd c (c.r.getD k Rou.t0).us t) := by
    unfold Hid
    rw [HO.out, decide_eq_true (show (0 : Int) ≤ k ∧ (k : Int) < (c.r.length : Int) by omega)]
    simp
  go_wp2_with fail
  refine (H2 _).out.mono ?_
  rintro e w2 ⟨rfl, hw⟩
  subst w2
  go_wp2_with fail
  refine (H3 k _ hk HR1.out HGN.out).out.mono ?_
  rintro e w3 ⟨rfl, hb⟩
  have HB3 := hid (HB1.out.trans (hb.mono HB1.out.size))
  clear hb
  obtain ⟨R, hR⟩ : ∃ R, R = mtd c (c.r.getD k Rou.t0).us t := ⟨_, rfl⟩
  rw [← hR] at HY ⊢
  clear hR
  go_wp2
  go_ret
  exact ⟨by rw [HY.out]; first | rfl | (cases R <;> rfl), HB3.out⟩
end Go.Proofs.YthcogkoleiejgaaGreatDoor.Ntf
