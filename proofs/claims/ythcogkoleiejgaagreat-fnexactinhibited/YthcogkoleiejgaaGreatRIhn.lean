/- The program's areInhibited, by sides. -/
import Derived.Test.YthcogkoleiejgaaGreatRIhm
namespace Go.Proofs.YthcogkoleiejgaaGreat.Inh
open Go.RowKit
open Go.Proofs.YthcogkoleiejgaaGreat.Pat (Mt HasM FitM goodM allM)
open Go.Proofs.YthcogkoleiejgaaGreat.Lab (Lb HasL goodL GoodP OfV keyL selL mkK)
open Go.Proofs.YthcogkoleiejgaaGreat.Rwc

theorem hit_gen {q : T} {f l : List Lb} (hf : goodL f = true) (hl : goodL l = true) (h2 : fit q.rs l = true) : (fit q.ms f && fit q.rs l && decide (mkK (keyL (selL q.es true f)) = mkK (keyL (selL q.es true l))) && !(fit q.rs f && fit q.ms l)) = hit q f l := by
  rw [← hit_sides hf hl, h2]
  unfold bites
  rw [decide_eq_decide.2 (mk_inj (a := keyL (selL q.es true f)) (b := keyL (selL q.es true l)))]
/-- The two boxes of a round. -/
abbrev RS (q : T) (B O : Nat) (c1 c2 : Bool) (s : ByteArray) (x : World) : Prop :=
  (x.cell? ⟨B, 0, none⟩ = some (.slice q.ma q.ms.length q.mc) ∧ x.cell? ⟨B, 1, none⟩ = some (.slice q.ra q.rs.length q.rc) ∧ x.cell? ⟨B, 2, none⟩ = some (.slice q.ea q.es.length q.ec)) ∧ x.cell? ⟨O, 0, none⟩ = some (.bool c1) ∧ x.cell? ⟨O, 1, none⟩ = some (.bool c2) ∧ x.cell? ⟨O, 2, none⟩ = some (.string s)
theorem rs_of {q : T} {B O : Nat} {c1 c2 : Bool} {s : ByteArray} {x : World} (h1 : x.heap[B]? = some (BX q)) (h2 : x.heap[O]? = some (BT c1 c2 s)) : RS q B O c1 c2 s x := ⟨cellsN h1, cells3 h2⟩

set_option maxHeartbeats 8000000 in
theorem f25 (a fa la : Option Addr) (n c m fc nl lc : Nat) (ts : List T) (fs : List Lss.T) (l : List Lb) (w : World) (hn : ts.length = n) (hm : fs.length = m) (hnl : l.length = nl) (hb : n ≤ 1048576) (hz : Sml ts) (gx : goodX ts = true) (gf : fires fs = true) (gl : goodL l = true) (hr : Has w a ts) (hrf : Lss.Has w fa fs) (hrl : HasL w la l) :
    Calls Tryz.prog 25 #[.slice a n c, .slice fa m fc, .slice la nl lc] w fun e w' => e = .returned (.bool (inh ts fs l)) ∧ Below w.heap.size w w' := by
  have HN := hid hn
  have HM := hid hm
  have HNL := hid hnl
  have HZ := hid hz
  have GX : Hid (∀ i, i < n → okX (ts.getD i t0) = true) := fun i hi => (of_decide_eq_true gx).2 i (by omega)
  have GF := hid gf
  have GL := hid gl
  have HR := hid hr
  have RF := hid hrf
  have RL := hid hrl
  have hm' : m ≤ 200 := by rw [← hm]; exact fires_len gf
  clear hn hm hnl hz gx gf gl hr hrf hrl
  go_enter Tryz.func25, Tryz.ntmps25
  go_wp2
  go_loopw [14] (fun i wr => ∃ k : Nat, k ≤ n ∧ i = .int .i64 k ∧ Hid (¬ InhP ts fs l k) ∧ Hid (Below w.heap.size w wr)) (fun i _ => n - (intOf i).toNat)
  case atStart => exact ⟨0, Nat.zero_le _, rfl, InhP.zero, Below.refl _ _⟩
  case round =>
    obtain ⟨k, hk, rfl, HA, HB⟩ := hrel
    by_cases hlt : k < n
    rotate_left
    · have HY := hid (inh_no (k := k) (by rw [HN.out]; omega) HA.out)
      have i1 : ¬ (k : Int) < (n : Int) := by omega
      go_wp2
      go_ret
      exact ⟨by rw [HY.out]; rfl, HB.out⟩
    obtain ⟨b, off, rfl, hbl, hc, hl⟩ := (HR.out.below HB.out).at2 k (by rw [HN.out]; exact hlt)
    obtain ⟨d0, d1, d2⟩ := hc.all
    have HL := hid hl
    have Z := HZ.out k (by rw [HN.out]; exact hlt)
    have G := hid (GX.out k hlt)
    have HNx : Hid (¬ (fit (ts.getD k t0).rs l = true ∧ Bites (ts.getD k t0) fs l fs.length) → ¬ InhP ts fs l (k + 1)) := fun h => InhP.step HA.out h
    have HYs : Hid (fit (ts.getD k t0).rs l = true → ∀ j, j < fs.length → hit (ts.getD k t0) (fs.getD j Lss.t0).l l = true → inh ts fs l = true) := fun h j hj e => inh_yes (by rw [HN.out]; exact hlt) h hj e
    have i1 : (k : Int) < (n : Int) := by omega
    clear hc hl
    generalize ts.getD k t0 = q at *
    have he : q.es.length ≤ 1048576 := by unfold wt at Z; omega
    have HE := hid he
    have HB0 := hid (HB.out.alloc HB.out.size (BX q))
    have HX0 := hid (heap_alloc_new wr (BX q))
    have HL0 := hid (HL.out.below ((Below.refl _ _).alloc (Nat.le_refl _) (BX q)))
    have HS1 := fun x a b => hid (f44 q la nl lc l x HNL.out G.out a GL.out b he)
    have hsz := HB.out.size
    obtain ⟨W0, hW⟩ : ∃ W, W = wr.alloc (BX q) := ⟨_, rfl⟩
    rw [← hW] at HB0 HX0 HL0
    have HW := hid hW
    clear hW Z he
    obtain ⟨c1, hc1⟩ : ∃ c, c = fit q.ms l := ⟨_, rfl⟩
    obtain ⟨c2, hc2⟩ : ∃ c, c = fit q.rs l := ⟨_, rfl⟩
    obtain ⟨s, hs⟩ : ∃ s, s = mkK (keyL (selL q.es true l)) := ⟨_, rfl⟩
    simp only [sidA, sdA] at HS1
    rw [← hc1, ← hc2, ← hs] at HS1
    rw [← hc2] at HNx HYs
    have HC1 := hid hc1
    have HC2 := hid hc2
    have HSS := hid hs
    clear hc1 hc2 hs
    go_upto_region 4 with fail
    rw [← HW.out]
    clear HW d0 d1 d2 HL HB
    generalize wr.heap.size = B at *
    obtain ⟨x0, x1, x2⟩ := cellsN HX0.out
    go_wp2_with fail
    refine (HS1 _ HL0.out (RL.out.below HB0.out)).out.mono ?_
    rintro e w1 ⟨rfl, hb⟩
    have HB1 := hid (HB0.out.trans (hb.mono HB0.out.size))
    have HX1 := hid (kept HX0.out hb)
    have HL1 := hid (HL0.out.below hb)
    clear hb HB0 HX0 HL0 x0 x1 x2 HS1
    have hal := (Below.refl w1.heap.size w1).alloc (Nat.le_refl _) (BT c1 c2 s)
    have HB2 := hid (HB1.out.trans (hal.mono HB1.out.size))
    have HX2 := hid (kept HX1.out hal)
    have HL2 := hid (HL1.out.below hal)
    have HO2 := hid (heap_alloc_new w1 (BT c1 c2 s))
    obtain ⟨W2, hW2⟩ : ∃ W, W = w1.alloc (BT c1 c2 s) := ⟨_, rfl⟩
    rw [← hW2] at HB2 HX2 HL2 HO2
    have HW2 := hid hW2
    clear hW2 hal HB1 HX1 HL1
    go_upto_region 5 with fail
    rw [← HW2.out]
    clear HW2
    generalize w1.heap.size = O at *
    obtain ⟨y0, y1, y2⟩ := cells3 HO2.out
    cases c2
    · have HY := hid (HNx.out (fun g => by cases g.1))
      go_wp2
      go_roundw
      case rel => exact ⟨k + 1, by omega, by go_num, HY, HB2⟩
      case measure => simp [intOf]; omega
    have HYt := hid (HYs.out rfl)
    clear HYs
    go_wp2
    go_loopw [26] (fun i wx => ∃ j : Nat, j ≤ m ∧ i = .int .i64 j ∧ Hid (¬ Bites q fs l j) ∧ Hid (Below w.heap.size w wx) ∧ Hid (wx.heap[B]? = some (BX q)) ∧ Hid (wx.heap[O]? = some (BT c1 true s)) ∧ Hid (Lst wx q)) (fun i _ => m - (intOf i).toNat)
    case atStart => exact ⟨0, Nat.zero_le _, rfl, Bites.zero, HB2, HX2, HO2, HL2⟩
    case round =>
      clear HB2 HX2 HO2 HL2 y0 y1 y2
      obtain ⟨j, hj, rfl, HBt, HB2, HX2, HO2, HL2⟩ := hrel
      by_cases hlj : j < m
      rotate_left
      · have hjm : j = fs.length := by have := HM.out; omega
        have HY := hid (HNx.out (fun g => HBt.out (by rw [hjm]; exact g.2)))
        clear hjm
        have i2 : ¬ (j : Int) < (m : Int) := by omega
        go_wp2
        go_roundw
        case rel => exact ⟨k + 1, by omega, by go_num, HY, HB2⟩
        case measure => simp [intOf]; omega
      obtain ⟨b', off', rfl, hbl', hc', hl'⟩ := (RF.out.below HB2.out).at2 j (by rw [HM.out]; exact hlj)
      have HF' := hid hl'
      have HGf := fires_at GF.out j (by rw [HM.out]; exact hlj)
      have HNo : Hid (hit q (fs.getD j Lss.t0).l l = false → ¬ Bites q fs l (j + 1)) := fun h => Bites.step HBt.out h
      have HYe := hid (HYt.out j (by rw [HM.out]; exact hlj))
      have i2 : (j : Int) < (m : Int) := by omega
      clear hl' hbl'
      generalize fs.getD j Lss.t0 = f at *
      have HS2 := fun x a b => hid (f44 q f.a f.l.length f.c f.l x rfl G.out a HGf b HE.out)
      have HHg := hit_gen (q := q) HGf GL.out HC2.out.symm
      obtain ⟨f1, hf1⟩ : ∃ c, c = fit q.ms f.l := ⟨_, rfl⟩
      obtain ⟨f2, hf2⟩ : ∃ c, c = fit q.rs f.l := ⟨_, rfl⟩
      obtain ⟨t, ht⟩ : ∃ s, s = mkK (keyL (selL q.es true f.l)) := ⟨_, rfl⟩
      simp only [sidA, sdA] at HS2
      rw [← hf1, ← hf2, ← ht] at HS2
      rw [← hf1, ← hf2, ← ht, ← HC1.out, ← HC2.out, ← HSS.out] at HHg
      obtain ⟨R, hR⟩ : ∃ R, R = hit q f.l l := ⟨_, rfl⟩
      rw [← hR] at HNo HYe HHg
      have HI := fun x => hid (f45g f1 f2 c1 true t s x)
      rw [HHg] at HI
      have hRs := rs_of HX2.out HO2.out
      clear hf1 hf2 ht hR HHg HGf
      go_upto_region 9 with fail
      have hRd : RS q B O c1 true s wr.drew := hRs
      clear hRs
      refine wp_region_held_drew (S := fun x => RS q B O c1 true s x) rfl hRd (fun hHeld => ?_)
      refine wpAnyH_take (i := 0) (oi := { dst := some 30, op := _, type := _, pos := _, after := _, guard := _ }) (v := .agg #[.slice q.ma q.ms.length q.mc, .slice q.ra q.rs.length q.rc, .slice q.ea q.es.length q.ec]) rfl (by kernel_rfl) (by kernel_rfl) (by kernel_rfl) (fun _ _ _ h => h) (Or.inl ⟨by rfl, fun w hSw => by (try dsimp only at hSw); (try go_split_ands); go_simp⟩) (by first | trivial | assumption) ?_
      try simp only [Act.put, List.setIfInBounds_toArray, List.set_cons_zero, List.set_cons_succ]
      refine wpAnyH_take (i := 1) (oi := { dst := some 31, op := _, type := _, pos := _, after := _, guard := _ }) (v := .slice f.a f.l.length f.c) rfl (by kernel_rfl) (by kernel_rfl) (by kernel_rfl) (fun _ _ _ h => h) (Or.inl ⟨by rfl, fun w hSw => by (try dsimp only at hSw); (try go_split_ands); go_simp⟩) (by first | trivial | assumption) ?_
      try simp only [Act.put, List.setIfInBounds_toArray, List.set_cons_zero, List.set_cons_succ]
      refine wpAnyH_take (i := 3) (oi := { dst := some 33, op := _, type := _, pos := _, after := _, guard := _ }) (v := .agg #[.bool c1, .bool true, .string s]) rfl (by kernel_rfl) (by kernel_rfl) (by kernel_rfl) (fun _ _ _ h => h) (Or.inl ⟨by rfl, fun w hSw => by (try dsimp only at hSw); (try go_split_ands); go_simp⟩) (by first | trivial | assumption) ?_
      try simp only [Act.put, List.setIfInBounds_toArray, List.set_cons_zero, List.set_cons_succ]
      refine wpAnyH_ready (rs := [2]) (by kernel_rfl) (by simp) (AllReadyH.cons (o := { dst := some 32, op := _, type := _, pos := _, after := _, guard := _ }) rfl ?_ AllReadyH.nil)
      intro K1 hK1
      go_simp
      go_wp2_with (go_at_call 44; refine (HS2 _ (HL2.out.below (Below.refl _ _).drew) (HF'.out.below (Below.refl _ _).drew)).out.mono ?_; rintro e w3 ⟨rfl, hb⟩)
      have hbb := (Below.refl wr.heap.size wr).drew.trans hb
      have HB3 := hid (HB2.out.trans (hbb.mono HB2.out.size))
      have HX3 := hid (kept HX2.out hbb)
      have HO3 := hid (kept HO2.out hbb)
      have HL3 := hid (HL2.out.below hbb)
      clear hb hbb HB2 HX2 HO2 HL2
      have hR3 := rs_of HX3.out HO3.out
      refine hK1.out _ _ hR3 (fun _ => ?_)
      clear hK1 K1
      try simp only [Act.put, List.setIfInBounds_toArray, List.set_cons_zero, List.set_cons_succ]
      refine wpAnyH_ready (rs := [4]) (by kernel_rfl) (by simp) (AllReadyH.cons (o := { dst := some 34, op := _, type := _, pos := _, after := _, guard := _ }) rfl ?_ AllReadyH.nil)
      intro K2 hK2
      go_simp
      go_wp2_with (go_at_call 45; refine (HI _).out.mono ?_; rintro e w4 ⟨rfl, hb⟩)
      have HB4 := hid (HB3.out.trans (hb.mono HB3.out.size))
      have HX4 := hid (kept HX3.out hb)
      have HO4 := hid (kept HO3.out hb)
      have HL4 := hid (HL3.out.below hb)
      clear hb HB3 HX3 HO3 HL3 hR3
      have hR4 := rs_of HX4.out HO4.out
      refine hK2.out _ _ hR4 (fun _ => ?_)
      clear hK2 K2
      try simp only [Act.put, List.setIfInBounds_toArray, List.set_cons_zero, List.set_cons_succ]
      refine wpAnyH_done (by kernel_rfl) ?_ _
      clear hR4
      cases R
      · have HY := hid (HNo.out rfl)
        go_wp2
        (try simp only [Exit.inBlock, Exit.then])
        go_roundw
        case rel => exact ⟨j + 1, by omega, by go_num, HY, HB4, HX4, HO4, HL4⟩
        case measure => simp [intOf]; omega
      · have HY := hid (HYe.out rfl)
        go_wp2
        (try simp only [Exit.inBlock, Exit.then])
        go_ret
        exact ⟨by rw [HY.out]; rfl, HB4.out⟩
end Go.Proofs.YthcogkoleiejgaaGreat.Inh
