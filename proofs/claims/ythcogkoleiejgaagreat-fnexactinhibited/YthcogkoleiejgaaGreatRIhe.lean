/- Which inhibits bite: the model's; both Inhibited. -/
import Derived.Test.YthcogkoleiejgaaGreatRIhd
namespace Go.Proofs.YthcogkoleiejgaaGreat.Inh
open Go.RowKit
open Go.Proofs.YthcogkoleiejgaaGreat.Pat (Mt HasM FitM goodM allM)
open Go.Proofs.YthcogkoleiejgaaGreat.Lab (Lb HasL goodL GoodP OfV str_eq str_ne)
open Go.Proofs.YthcogkoleiejgaaGreat.Fil (HasT)
open Go.Proofs.YthcogkoleiejgaaGreat.Rwc

noncomputable def sayK (f l : List Lb) (es : List ByteArray) (k : Nat) : Bool := @decide (SayP f l es k) (Classical.propDecidable _)
theorem sayK_zero (f l : List Lb) (es : List ByteArray) : sayK f l es 0 = true := by
  unfold sayK; exact @decide_eq_true _ (_) fun i hi => absurd hi (by omega)
theorem sayK_ne {f l : List Lb} {es : List ByteArray} {k : Nat} (h : ¬ vl f (es.getD k ByteArray.empty) = vl l (es.getD k ByteArray.empty)) : sayK f l es (k + 1) = false := by
  unfold sayK; exact @decide_eq_false _ (_) fun g => h (g k (by omega))
theorem sayK_eq {f l : List Lb} {es : List ByteArray} {k : Nat} (h : vl f (es.getD k ByteArray.empty) = vl l (es.getD k ByteArray.empty)) : sayK f l es (k + 1) = sayK f l es k := by
  by_cases g : SayP f l es k
  · unfold sayK; rw [@decide_eq_true _ (_) g, @decide_eq_true _ (_) (g.succ h)]
  · unfold sayK; rw [@decide_eq_false _ (_) g, @decide_eq_false _ (_) fun x => g fun i hi => x i (by omega)]
theorem sayK_no {f l : List Lb} {es : List ByteArray} {k : Nat} (h : sayK f l es k = false) : sayK f l es (k + 1) = false := by
  by_cases e : vl f (es.getD k ByteArray.empty) = vl l (es.getD k ByteArray.empty)
  · rw [sayK_eq e, h]
  · exact sayK_ne e
/-- What is asked beside the names. -/
noncomputable def base (q : T) (f l : List Lb) : Bool := fit q.ms f && !(fit q.rs f && fit q.ms l)
theorem hit_eq (q : T) (f l : List Lb) : hit q f l = (base q f l && sayK f l q.es q.es.length) := by
  unfold hit base says sayK
  cases fit q.ms f <;> cases fit q.rs f <;> cases fit q.ms l <;> simp

set_option maxHeartbeats 16000000 in
theorem f19 (a fa la : Option Addr) (n c m fc nl lc : Nat) (ts : List T) (fs : List Lss.T) (l : List Lb) (w : World) (hn : ts.length = n) (hm : fs.length = m) (hnl : l.length = nl) (hb : n ≤ 1048576) (hz : Sml ts) (gx : goodX ts = true) (gf : fires fs = true) (gl : goodL l = true) (hr : Has w a ts) (hrf : Lss.Has w fa fs) (hrl : HasL w la l) :
    Calls Tryz.prog 19 #[.slice a n c, .slice fa m fc, .slice la nl lc] w fun e w' => e = .returned (.bool (inh ts fs l)) ∧ Below w.heap.size w w' := by
  have HN := hid hn
  have HM := hid hm
  have HNL := hid hnl
  have HZ := hid hz
  have GX : Hid (∀ i, i < n → okX (ts.getD i t0) = true) := fun i hi => (of_decide_eq_true gx).2 i (by omega)
  have GF := hid gf
  have GL := hid (Lab.good_iff gl)
  have HR := hid hr
  have RF := hid hrf
  have RL := hid hrl
  have hm' : m ≤ 200 := by rw [← hm]; exact fires_len gf
  have h20 : nl ≤ 20 := by rw [← hnl]; exact (Lab.good_iff gl).1
  clear hn hm hnl hz gx gf gl hr hrf hrl
  go_enter Tryz.func19, Tryz.ntmps19
  go_wp2
  go_loopw [16] (fun i wr => ∃ k : Nat, k ≤ n ∧ i = .int .i64 k ∧ Hid (¬ InhP ts fs l k) ∧ Hid (Below w.heap.size w wr)) (fun i _ => n - (intOf i).toNat)
  case atStart => exact ⟨0, Nat.zero_le _, rfl, InhP.zero, Below.refl _ _⟩
  case round =>
    obtain ⟨k, hk, rfl, HA, HB⟩ := hrel
    by_cases hlt : k < n
    rotate_left
    · have HY := hid (inh_no (k := k) (by rw [HN.out]; omega) HA.out)
      have i1 : ¬ (k : Int) < (n : Int) := by omega
      go_wp2
      go_ret
      exact ⟨by rw [HY.out]; rfl, HB.out⟩
    obtain ⟨b, off, rfl, hbl, hc, hl⟩ := (HR.out.below HB.out).at2 k (by rw [HN.out]; exact hlt)
    obtain ⟨d0, d1, d2⟩ := hc.all
    have HL := hid hl
    have Z := HZ.out k (by rw [HN.out]; exact hlt)
    have G := hid (GX.out k hlt)
    have HNx : Hid (¬ (fit (ts.getD k t0).rs l = true ∧ Bites (ts.getD k t0) fs l fs.length) → ¬ InhP ts fs l (k + 1)) := fun h => InhP.step HA.out h
    have HYs : Hid (fit (ts.getD k t0).rs l = true → ∀ j, j < fs.length → hit (ts.getD k t0) (fs.getD j Lss.t0).l l = true → inh ts fs l = true) := fun h j hj e => inh_yes (by rw [HN.out]; exact hlt) h hj e
    have i1 : (k : Int) < (n : Int) := by omega
    clear hc hl
    generalize ts.getD k t0 = q at *
    have he : q.es.length ≤ 1048576 := by unfold wt at Z; omega
    obtain ⟨g1, g2⟩ := okX_parts G.out
    have HB0 := hid (HB.out.alloc HB.out.size (BX q))
    have HX0 := hid (heap_alloc_new wr (BX q))
    have HL0 := hid (HL.out.below ((Below.refl _ _).alloc (Nat.le_refl _) (BX q)))
    have H1 := fun x a b => hid (Pat.f35 q.ra la q.rs.length q.rc nl lc q.rs l (vl l) x rfl HNL.out a b g2 GL.out (vl_of l))
    have H4 := fun x a b => hid (Pat.f35 q.ma la q.ms.length q.mc nl lc q.ms l (vl l) x rfl HNL.out a b g1 GL.out (vl_of l))
    have hsz := HB.out.size
    obtain ⟨W0, hW⟩ : ∃ W, W = wr.alloc (BX q) := ⟨_, rfl⟩
    rw [← hW] at HB0 HX0 HL0
    have HW := hid hW
    have K1 := hid g1
    have K2 := hid g2
    clear hW g1 g2 Z
    go_upto_region 4 with fail
    rw [← HW.out]
    clear HW d0 d1 d2 HL HB
    generalize wr.heap.size = B at *
    obtain ⟨x0, x1, x2⟩ := cellsN HX0.out
    go_wp2_with fail
    refine (H1 _ HL0.out.r (RL.out.below HB0.out)).out.mono ?_
    rintro e w1 ⟨rfl, hb⟩
    have HB1 := hid (HB0.out.trans (hb.mono HB0.out.size))
    have HX1 := hid (kept HX0.out hb)
    have HL1 := hid (HL0.out.below hb)
    clear hb HB0 HX0 HL0 x0 x1 x2 H1
    cases hfit : allM q.rs (vl l)
    · have HY := hid (HNx.out (fun g => by have := g.1; unfold fit at this; rw [hfit] at this; cases this))
      clear hfit
      go_wp2
      go_roundw
      case rel => exact ⟨k + 1, by omega, by go_num, HY, HB1⟩
      case measure => simp [intOf]; omega
    have HYt := hid (HYs.out hfit)
    clear hfit HYs
    go_wp2
    go_loopw [27] (fun i wx => ∃ j : Nat, j ≤ m ∧ i = .int .i64 j ∧ Hid (¬ Bites q fs l j) ∧ Hid (Below w.heap.size w wx) ∧ Hid (wx.heap[B]? = some (BX q)) ∧ Hid (Lst wx q)) (fun i _ => m - (intOf i).toNat)
    case atStart => exact ⟨0, Nat.zero_le _, rfl, Bites.zero, HB1, HX1, HL1⟩
    case round =>
      clear HB1 HX1 HL1
      obtain ⟨j, hj, rfl, HBt, HB2, HX2, HL2⟩ := hrel
      by_cases hlj : j < m
      rotate_left
      · have hjm : j = fs.length := by have := HM.out; omega
        have HY := hid (HNx.out (fun g => HBt.out (by rw [hjm]; exact g.2)))
        clear hjm
        have i2 : ¬ (j : Int) < (m : Int) := by omega
        go_wp2
        go_roundw
        case rel => exact ⟨k + 1, by omega, by go_num, HY, HB2⟩
        case measure => simp [intOf]; omega
      obtain ⟨b', off', rfl, hbl', hc', hl'⟩ := (RF.out.below HB2.out).at2 j (by rw [HM.out]; exact hlj)
      have HF' := hid hl'
      have HGf := hid (Lab.good_iff (fires_at GF.out j (by rw [HM.out]; exact hlj)))
      have HNo : Hid (hit q (fs.getD j Lss.t0).l l = false → ¬ Bites q fs l (j + 1)) := fun h => Bites.step HBt.out h
      have HYe := hid (HYt.out j (by rw [HM.out]; exact hlj))
      have i2 : (j : Int) < (m : Int) := by omega
      clear hl' hbl'
      generalize fs.getD j Lss.t0 = f at *
      have hf20 : f.l.length ≤ 20 := HGf.out.1
      obtain ⟨x0, x1, x2⟩ := cellsN HX2.out
      have H2 := fun x a b => hid (Pat.f35 q.ma f.a q.ms.length q.mc f.l.length f.c q.ms f.l (vl f.l) x rfl rfl a b K1.out HGf.out (vl_of f.l))
      have H3 := fun x a b => hid (Pat.f35 q.ra f.a q.rs.length q.rc f.l.length f.c q.rs f.l (vl f.l) x rfl rfl a b K2.out HGf.out (vl_of f.l))
      obtain ⟨s0, hs0⟩ : ∃ s0, s0 = base q f.l l := ⟨_, rfl⟩
      have HS0 := hid hs0
      have HBs : Hid (s0 = (allM q.ms (vl f.l) && !(allM q.rs (vl f.l) && allM q.ms (vl l)))) := hs0
      clear hs0
      have H4' := H4
      generalize allM q.ms (vl f.l) = b1 at *
      generalize allM q.rs (vl f.l) = b2 at *
      generalize allM q.ms (vl l) = b3 at *
      go_wp2_with fail
      refine (H2 _ HL2.out.m HF'.out).out.mono ?_
      rintro e w3 ⟨rfl, hb⟩
      have HB3 := hid (HB2.out.trans (hb.mono HB2.out.size))
      have HX3 := hid (kept HX2.out hb)
      have HL3 := hid (HL2.out.below hb)
      have HF3 := hid (HF'.out.below hb)
      clear hb HB2 HX2 HL2 HF' x0 x1 x2 H2
      obtain ⟨x0, x1, x2⟩ := cellsN HX3.out
      cases b1
      · clear H3 H4 H4'
        go_wp2
        go_loopw [11, 51] (fun sx i wy => ∃ (p : Nat) (b : Bool), p ≤ q.es.length ∧ i = .int .i64 p ∧ sx = .bool b ∧ Hid (b = (s0 && sayK f.l l q.es p)) ∧ Hid (Below w.heap.size w wy) ∧ Hid (wy.heap[B]? = some (BX q)) ∧ Hid (Lst wy q) ∧ Hid (HasL wy f.a f.l)) (fun _ i _ => q.es.length - (intOf i).toNat)
        case atStart => exact ⟨0, _, Nat.zero_le _, rfl, rfl, by unfold Hid; rw [HBs.out, sayK_zero]; simp, HB3, HX3, HL3, HF3⟩
        case round =>
          clear HB3 HX3 HL3 HF3 x0 x1 x2
          obtain ⟨p, b, hp, rfl, rfl, HV, HB6, HX6, HL6, HF6⟩ := hrel
          by_cases hlp : p < q.es.length
          rotate_left
          · have i3 : ¬ (p : Int) < (q.es.length : Int) := by omega
            have hpe : p = q.es.length := by omega
            have HH : Hid (hit q f.l l = b) := by unfold Hid; rw [hit_eq, ← HS0.out, HV.out, hpe]
            clear hpe
            cases b
            · have HY := hid (HNo.out HH.out)
              go_wp2
              go_roundw
              case rel => exact ⟨j + 1, by omega, by go_num, HY, HB6, HX6, HL6⟩
              case measure => simp [intOf]; omega
            · have HY := hid (HYe.out HH.out)
              go_wp2
              go_ret
              exact ⟨by rw [HY.out]; rfl, HB6.out⟩
          rcases HL6.out.e with hr | ⟨b6, o6, he6, hbl6, hc6⟩
          · exact absurd hlp (by rw [hr]; simp)
          have dp := hc6 p hlp
          have i3 : (p : Int) < (q.es.length : Int) := by omega
          have HVe : Hid (vl f.l (q.es.getD p ByteArray.empty) = vl l (q.es.getD p ByteArray.empty) → b = (s0 && sayK f.l l q.es (p + 1))) := fun h => by rw [sayK_eq h]; exact HV.out
          have HVn : Hid (¬ vl f.l (q.es.getD p ByteArray.empty) = vl l (q.es.getD p ByteArray.empty) → false = (s0 && sayK f.l l q.es (p + 1))) := fun h => by rw [sayK_ne h]; simp
          have HVf : Hid (b = false → false = (s0 && sayK f.l l q.es (p + 1))) := fun h => by
            have hv := HV.out
            rw [h] at hv
            cases s0
            · rfl
            · rw [sayK_no (by simpa using hv.symm)]; rfl
          clear hc6 hbl6
          generalize q.es.getD p ByteArray.empty = x at *
          rw [he6]
          cases b
          · have HY := hid (HVf.out rfl)
            go_wp2
            go_roundw
            case rel => exact ⟨p + 1, false, by omega, by go_num, rfl, HY, HB6, HX6, HL6, HF6⟩
            case measure => simp [intOf]; omega
          go_wp2_with fail
          refine (Lab.f36 f.a f.l.length f.c f.l x _ rfl hf20 HF6.out).mono ?_
          rintro e w7 ⟨v, hv, rfl, hb⟩
          obtain rfl := hv.uniq (vl_of f.l x)
          have HB7 := hid (HB6.out.trans (hb.mono HB6.out.size))
          have HX7 := hid (kept HX6.out hb)
          have HL7 := hid (HL6.out.below hb)
          have HF7 := hid (HF6.out.below hb)
          clear hb hv HB6 HX6 HL6 HF6
          go_wp2_with fail
          refine (Lab.f36 la nl lc l x _ HNL.out h20 (RL.out.below HB7.out)).mono ?_
          rintro e w8 ⟨v, hv, rfl, hb⟩
          obtain rfl := hv.uniq (vl_of l x)
          have HB8 := hid (HB7.out.trans (hb.mono HB7.out.size))
          have HX8 := hid (kept HX7.out hb)
          have HL8 := hid (HL7.out.below hb)
          have HF8 := hid (HF7.out.below hb)
          clear hb hv HB7 HX7 HL7 HF7
          by_cases g : vl f.l x = vl l x
          · have hq := str_eq g
            have HY := hid (HVe.out g)
            clear g HVe HVn HVf
            go_wp2
            go_roundw
            case rel => exact ⟨p + 1, true, by omega, by go_num, rfl, HY, HB8, HX8, HL8, HF8⟩
            case measure => simp [intOf]; omega
          · have hq := str_ne g
            have HY := hid (HVn.out g)
            clear g HVe HVn HVf
            go_wp2
            go_roundw
            case rel => exact ⟨p + 1, false, by omega, by go_num, rfl, HY, HB8, HX8, HL8, HF8⟩
            case measure => simp [intOf]; omega
      go_wp2_with fail
      refine (H3 _ HL3.out.r HF3.out).out.mono ?_
      rintro e w4 ⟨rfl, hb⟩
      have HB4 := hid (HB3.out.trans (hb.mono HB3.out.size))
      have HX4 := hid (kept HX3.out hb)
      have HL4 := hid (HL3.out.below hb)
      have HF4 := hid (HF3.out.below hb)
      clear hb HB3 HX3 HL3 HF3 x0 x1 x2 H3
      obtain ⟨x0, x1, x2⟩ := cellsN HX4.out
      cases b2
      · clear H4 H4'
        go_wp2
        go_loopw [11, 51] (fun sx i wy => ∃ (p : Nat) (b : Bool), p ≤ q.es.length ∧ i = .int .i64 p ∧ sx = .bool b ∧ Hid (b = (s0 && sayK f.l l q.es p)) ∧ Hid (Below w.heap.size w wy) ∧ Hid (wy.heap[B]? = some (BX q)) ∧ Hid (Lst wy q) ∧ Hid (HasL wy f.a f.l)) (fun _ i _ => q.es.length - (intOf i).toNat)
        case atStart => exact ⟨0, _, Nat.zero_le _, rfl, rfl, by unfold Hid; rw [HBs.out, sayK_zero]; simp, HB4, HX4, HL4, HF4⟩
        case round =>
          clear HB4 HX4 HL4 HF4 x0 x1 x2
          obtain ⟨p, b, hp, rfl, rfl, HV, HB6, HX6, HL6, HF6⟩ := hrel
          by_cases hlp : p < q.es.length
          rotate_left
          · have i3 : ¬ (p : Int) < (q.es.length : Int) := by omega
            have hpe : p = q.es.length := by omega
            have HH : Hid (hit q f.l l = b) := by unfold Hid; rw [hit_eq, ← HS0.out, HV.out, hpe]
            clear hpe
            cases b
            · have HY := hid (HNo.out HH.out)
              go_wp2
              go_roundw
              case rel => exact ⟨j + 1, by omega, by go_num, HY, HB6, HX6, HL6⟩
              case measure => simp [intOf]; omega
            · have HY := hid (HYe.out HH.out)
              go_wp2
              go_ret
              exact ⟨by rw [HY.out]; rfl, HB6.out⟩
          rcases HL6.out.e with hr | ⟨b6, o6, he6, hbl6, hc6⟩
          · exact absurd hlp (by rw [hr]; simp)
          have dp := hc6 p hlp
          have i3 : (p : Int) < (q.es.length : Int) := by omega
          have HVe : Hid (vl f.l (q.es.getD p ByteArray.empty) = vl l (q.es.getD p ByteArray.empty) → b = (s0 && sayK f.l l q.es (p + 1))) := fun h => by rw [sayK_eq h]; exact HV.out
          have HVn : Hid (¬ vl f.l (q.es.getD p ByteArray.empty) = vl l (q.es.getD p ByteArray.empty) → false = (s0 && sayK f.l l q.es (p + 1))) := fun h => by rw [sayK_ne h]; simp
          have HVf : Hid (b = false → false = (s0 && sayK f.l l q.es (p + 1))) := fun h => by
            have hv := HV.out
            rw [h] at hv
            cases s0
            · rfl
            · rw [sayK_no (by simpa using hv.symm)]; rfl
          clear hc6 hbl6
          generalize q.es.getD p ByteArray.empty = x at *
          rw [he6]
          cases b
          · have HY := hid (HVf.out rfl)
            go_wp2
            go_roundw
            case rel => exact ⟨p + 1, false, by omega, by go_num, rfl, HY, HB6, HX6, HL6, HF6⟩
            case measure => simp [intOf]; omega
          go_wp2_with fail
          refine (Lab.f36 f.a f.l.length f.c f.l x _ rfl hf20 HF6.out).mono ?_
          rintro e w7 ⟨v, hv, rfl, hb⟩
          obtain rfl := hv.uniq (vl_of f.l x)
          have HB7 := hid (HB6.out.trans (hb.mono HB6.out.size))
          have HX7 := hid (kept HX6.out hb)
          have HL7 := hid (HL6.out.below hb)
          have HF7 := hid (HF6.out.below hb)
          clear hb hv HB6 HX6 HL6 HF6
          go_wp2_with fail
          refine (Lab.f36 la nl lc l x _ HNL.out h20 (RL.out.below HB7.out)).mono ?_
          rintro e w8 ⟨v, hv, rfl, hb⟩
          obtain rfl := hv.uniq (vl_of l x)
          have HB8 := hid (HB7.out.trans (hb.mono HB7.out.size))
          have HX8 := hid (kept HX7.out hb)
          have HL8 := hid (HL7.out.below hb)
          have HF8 := hid (HF7.out.below hb)
          clear hb hv HB7 HX7 HL7 HF7
          by_cases g : vl f.l x = vl l x
          · have hq := str_eq g
            have HY := hid (HVe.out g)
            clear g HVe HVn HVf
            go_wp2
            go_roundw
            case rel => exact ⟨p + 1, true, by omega, by go_num, rfl, HY, HB8, HX8, HL8, HF8⟩
            case measure => simp [intOf]; omega
          · have hq := str_ne g
            have HY := hid (HVn.out g)
            clear g HVe HVn HVf
            go_wp2
            go_roundw
            case rel => exact ⟨p + 1, false, by omega, by go_num, rfl, HY, HB8, HX8, HL8, HF8⟩
            case measure => simp [intOf]; omega
      go_wp2_with fail
      refine (H4 _ HL4.out.m (RL.out.below HB4.out)).out.mono ?_
      rintro e w5 ⟨rfl, hb⟩
      have HB5 := hid (HB4.out.trans (hb.mono HB4.out.size))
      have HX5 := hid (kept HX4.out hb)
      have HL5 := hid (HL4.out.below hb)
      have HF5 := hid (HF4.out.below hb)
      clear hb HB4 HX4 HL4 HF4 x0 x1 x2 H4 H4'
      obtain ⟨x0, x1, x2⟩ := cellsN HX5.out
      go_wp2
      go_loopw [11, 51] (fun sx i wy => ∃ (p : Nat) (b : Bool), p ≤ q.es.length ∧ i = .int .i64 p ∧ sx = .bool b ∧ Hid (b = (s0 && sayK f.l l q.es p)) ∧ Hid (Below w.heap.size w wy) ∧ Hid (wy.heap[B]? = some (BX q)) ∧ Hid (Lst wy q) ∧ Hid (HasL wy f.a f.l)) (fun _ i _ => q.es.length - (intOf i).toNat)
      case atStart => exact ⟨0, _, Nat.zero_le _, rfl, rfl, by unfold Hid; rw [HBs.out, sayK_zero]; simp, HB5, HX5, HL5, HF5⟩
      case round =>
        clear HB5 HX5 HL5 HF5 x0 x1 x2
        obtain ⟨p, b, hp, rfl, rfl, HV, HB6, HX6, HL6, HF6⟩ := hrel
        by_cases hlp : p < q.es.length
        rotate_left
        · have i3 : ¬ (p : Int) < (q.es.length : Int) := by omega
          have hpe : p = q.es.length := by omega
          have HH : Hid (hit q f.l l = b) := by unfold Hid; rw [hit_eq, ← HS0.out, HV.out, hpe]
          clear hpe
          cases b
          · have HY := hid (HNo.out HH.out)
            go_wp2
            go_roundw
            case rel => exact ⟨j + 1, by omega, by go_num, HY, HB6, HX6, HL6⟩
            case measure => simp [intOf]; omega
          · have HY := hid (HYe.out HH.out)
            go_wp2
            go_ret
            exact ⟨by rw [HY.out]; rfl, HB6.out⟩
        rcases HL6.out.e with hr | ⟨b6, o6, he6, hbl6, hc6⟩
        · exact absurd hlp (by rw [hr]; simp)
        have dp := hc6 p hlp
        have i3 : (p : Int) < (q.es.length : Int) := by omega
        have HVe : Hid (vl f.l (q.es.getD p ByteArray.empty) = vl l (q.es.getD p ByteArray.empty) → b = (s0 && sayK f.l l q.es (p + 1))) := fun h => by rw [sayK_eq h]; exact HV.out
        have HVn : Hid (¬ vl f.l (q.es.getD p ByteArray.empty) = vl l (q.es.getD p ByteArray.empty) → false = (s0 && sayK f.l l q.es (p + 1))) := fun h => by rw [sayK_ne h]; simp
        have HVf : Hid (b = false → false = (s0 && sayK f.l l q.es (p + 1))) := fun h => by
          have hv := HV.out
          rw [h] at hv
          cases s0
          · rfl
          · rw [sayK_no (by simpa using hv.symm)]; rfl
        clear hc6 hbl6
        generalize q.es.getD p ByteArray.empty = x at *
        rw [he6]
        cases b
        · have HY := hid (HVf.out rfl)
          go_wp2
          go_roundw
          case rel => exact ⟨p + 1, false, by omega, by go_num, rfl, HY, HB6, HX6, HL6, HF6⟩
          case measure => simp [intOf]; omega
        go_wp2_with fail
        refine (Lab.f36 f.a f.l.length f.c f.l x _ rfl hf20 HF6.out).mono ?_
        rintro e w7 ⟨v, hv, rfl, hb⟩
        obtain rfl := hv.uniq (vl_of f.l x)
        have HB7 := hid (HB6.out.trans (hb.mono HB6.out.size))
        have HX7 := hid (kept HX6.out hb)
        have HL7 := hid (HL6.out.below hb)
        have HF7 := hid (HF6.out.below hb)
        clear hb hv HB6 HX6 HL6 HF6
        go_wp2_with fail
        refine (Lab.f36 la nl lc l x _ HNL.out h20 (RL.out.below HB7.out)).mono ?_
        rintro e w8 ⟨v, hv, rfl, hb⟩
        obtain rfl := hv.uniq (vl_of l x)
        have HB8 := hid (HB7.out.trans (hb.mono HB7.out.size))
        have HX8 := hid (kept HX7.out hb)
        have HL8 := hid (HL7.out.below hb)
        have HF8 := hid (HF7.out.below hb)
        clear hb hv HB7 HX7 HL7 HF7
        by_cases g : vl f.l x = vl l x
        · have hq := str_eq g
          have HY := hid (HVe.out g)
          clear g HVe HVn HVf
          go_wp2
          go_roundw
          case rel => exact ⟨p + 1, true, by omega, by go_num, rfl, HY, HB8, HX8, HL8, HF8⟩
          case measure => simp [intOf]; omega
        · have hq := str_ne g
          have HY := hid (HVn.out g)
          clear g HVe HVn HVf
          go_wp2
          go_roundw
          case rel => exact ⟨p + 1, false, by omega, by go_num, rfl, HY, HB8, HX8, HL8, HF8⟩
          case measure => simp [intOf]; omega
end Go.Proofs.YthcogkoleiejgaaGreat.Inh
