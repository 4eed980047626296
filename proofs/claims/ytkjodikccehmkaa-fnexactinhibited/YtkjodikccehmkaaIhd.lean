/- Which inhibits bite: what is asked, and the program's. -/
import Derived.Test.YtkjodikccehmkaaIhb
import Derived.Test.YtkjodikccehmkaaLss
import Derived.Test.YtkjodikccehmkaaFm
namespace Go.Proofs.Ytkjodikccehmkaa.Inh
open Go.RowKit
open Go.Proofs.Ytkjodikccehmkaa.Pat (Mt HasM FitM goodM allM)
open Go.Proofs.Ytkjodikccehmkaa.Lab (Lb HasL goodL GoodP OfV str_eq str_ne)
open Go.Proofs.Ytkjodikccehmkaa.Fil (HasT)
open Go.Proofs.Ytkjodikccehmkaa.Rwc

noncomputable def vl (ls : List Lb) (x : ByteArray) : ByteArray := Classical.choose (Lab.has_of ls x)
theorem vl_of (ls : List Lb) (x : ByteArray) : OfV ls x (vl ls x) := Classical.choose_spec (Lab.has_of ls x)
noncomputable def fit (ms : List Mt) (ls : List Lb) : Bool := allM ms (vl ls)
def SayP (f l : List Lb) (es : List ByteArray) (k : Nat) : Prop := ∀ i, i < k → vl f (es.getD i ByteArray.empty) = vl l (es.getD i ByteArray.empty)
noncomputable def says (f l : List Lb) (es : List ByteArray) : Bool := @decide (SayP f l es es.length) (Classical.propDecidable _)
theorem says_yes {f l : List Lb} {es : List ByteArray} {k : Nat} (h : SayP f l es k) (hk : es.length ≤ k) : says f l es = true := by
  unfold says; exact @decide_eq_true _ (_) fun i hi => h i (by omega)
theorem says_no {f l : List Lb} {es : List ByteArray} {k : Nat} (hk : k < es.length) (h : ¬ vl f (es.getD k ByteArray.empty) = vl l (es.getD k ByteArray.empty)) : says f l es = false := by
  unfold says; exact @decide_eq_false _ (_) fun g => h (g k hk)
theorem SayP.succ {f l : List Lb} {es : List ByteArray} {k : Nat} (h : SayP f l es k) (e : vl f (es.getD k ByteArray.empty) = vl l (es.getD k ByteArray.empty)) : SayP f l es (k + 1) := by
  intro i hi
  by_cases c : i = k
  · subst c; exact e
  · exact h i (by omega)
/-- One that fires bites. -/
noncomputable def hit (q : T) (f l : List Lb) : Bool := fit q.ms f && says f l q.es && (!fit q.rs f || !fit q.ms l)
def Bites (q : T) (fs : List Lss.T) (l : List Lb) (m : Nat) : Prop := ∃ j, j < m ∧ hit q (fs.getD j Lss.t0).l l = true
def InhP (ts : List T) (fs : List Lss.T) (l : List Lb) (k : Nat) : Prop := ∃ i, i < k ∧ fit (ts.getD i t0).rs l = true ∧ Bites (ts.getD i t0) fs l fs.length
noncomputable def inh (ts : List T) (fs : List Lss.T) (l : List Lb) : Bool := @decide (InhP ts fs l ts.length) (Classical.propDecidable _)
theorem inh_yes {ts : List T} {fs : List Lss.T} {l : List Lb} {k j : Nat} (hk : k < ts.length) (hf : fit (ts.getD k t0).rs l = true) (hj : j < fs.length) (h : hit (ts.getD k t0) (fs.getD j Lss.t0).l l = true) : inh ts fs l = true := by
  unfold inh; exact @decide_eq_true _ (_) ⟨k, hk, hf, j, hj, h⟩
theorem inh_no {ts : List T} {fs : List Lss.T} {l : List Lb} {k : Nat} (hk : ts.length ≤ k) (h : ¬ InhP ts fs l k) : inh ts fs l = false := by
  unfold inh; exact @decide_eq_false _ (_) fun ⟨i, hi, g⟩ => h ⟨i, by omega, g⟩
theorem InhP.zero {ts : List T} {fs : List Lss.T} {l : List Lb} : ¬ InhP ts fs l 0 := fun ⟨i, hi, _⟩ => by omega
theorem Bites.zero {q : T} {fs : List Lss.T} {l : List Lb} : ¬ Bites q fs l 0 := fun ⟨i, hi, _⟩ => by omega
theorem InhP.step {ts : List T} {fs : List Lss.T} {l : List Lb} {k : Nat} (h : ¬ InhP ts fs l k) (g : ¬ (fit (ts.getD k t0).rs l = true ∧ Bites (ts.getD k t0) fs l fs.length)) : ¬ InhP ts fs l (k + 1) := fun ⟨i, hi, c⟩ => by
  by_cases e : i = k
  · subst e; exact g c
  · exact h ⟨i, by omega, c⟩
theorem Bites.step {q : T} {fs : List Lss.T} {l : List Lb} {k : Nat} (h : ¬ Bites q fs l k) (g : hit q (fs.getD k Lss.t0).l l = false) : ¬ Bites q fs l (k + 1) := fun ⟨i, hi, c⟩ => by
  by_cases e : i = k
  · subst e; rw [g] at c; cases c
  · exact h ⟨i, by omega, c⟩
theorem okX_parts {q : T} (h : okX q = true) : goodM q.ms = true ∧ goodM q.rs = true := by
  unfold okX some1 at h
  simp only [Bool.and_eq_true] at h
  exact ⟨h.1.1.2, h.1.2.2⟩

set_option maxHeartbeats 4000000 in
theorem f103 (fa la ea : Option Addr) (nf nl n fc lc ec : Nat) (f l : List Lb) (es : List ByteArray) (w : World) (hnf : f.length = nf) (hnl : l.length = nl) (hn : es.length = n) (hf : GoodP f) (hl : GoodP l) (he : n ≤ 1048576) (rf : HasL w fa f) (rl : HasL w la l) (re : HasT w ea es) :
    Calls Try.prog 103 #[.slice fa nf fc, .slice la nl lc, .slice ea n ec] w fun e w' => e = .returned (.bool (says f l es)) ∧ Below w.heap.size w w' := by
  have HNF := hid hnf
  have HNL := hid hnl
  have HN := hid hn
  have HF := hid hf
  have HL := hid hl
  have RF := hid rf
  have RL := hid rl
  have RE := hid re
  clear hnf hnl hn hf hl rf rl re
  go_enter Try.func103, Try.ntmps103
  go_wp2
  go_loopw [11] (fun i wr => ∃ k : Nat, k ≤ n ∧ i = .int .i64 k ∧ Hid (SayP f l es k) ∧ Hid (Below w.heap.size w wr)) (fun i _ => n - (intOf i).toNat)
  case atStart => exact ⟨0, Nat.zero_le _, rfl, fun i hi => absurd hi (by omega), Below.refl _ _⟩
  case round =>
    obtain ⟨k, hk, rfl, HS, HB⟩ := hrel
    by_cases hlt : k < n
    · rcases (RE.out.below HB.out) with hr | ⟨b, off, rfl, hbl, hc⟩
      · exact absurd HN.out (by rw [hr]; simp; omega)
      have d0 := hc k (by rw [HN.out]; exact hlt)
      have HNo : Hid (_ → _) := fun h => says_no (f := f) (l := l) (es := es) (k := k) (by rw [HN.out]; exact hlt) h
      have HYe : Hid (_ → _) := fun h => HS.out.succ h
      have i1 : (k : Int) < (n : Int) := by omega
      clear hc hbl
      generalize es.getD k ByteArray.empty = x at *
      go_wp2_with fail
      refine (Lab.f102 fa nf fc f x _ HNF.out HF.out (RF.out.below HB.out)).mono ?_
      rintro e w1 ⟨v, hv, rfl, hb1⟩
      obtain rfl := hv.uniq (vl_of f x)
      have HB1 := hid (HB.out.trans (hb1.mono HB.out.size))
      clear hb1 hv
      go_wp2_with fail
      refine (Lab.f102 la nl lc l x _ HNL.out HL.out (RL.out.below HB1.out)).mono ?_
      rintro e w2 ⟨v, hv, rfl, hb2⟩
      obtain rfl := hv.uniq (vl_of l x)
      have HB2 := hid (HB1.out.trans (hb2.mono HB1.out.size))
      clear hb2 hv
      by_cases g : vl f x = vl l x
      · have hq := str_eq g
        have HY := hid (HYe.out g)
        clear g HNo HYe
        go_wp2
        go_roundw
        case rel => exact ⟨k + 1, by omega, by go_num, HY, HB2⟩
        case measure => simp [intOf]; omega
      · have hq := str_ne g
        have HY := hid (HNo.out g)
        clear g HNo HYe
        go_wp2
        go_ret
        exact ⟨by rw [HY.out]; rfl, HB2.out⟩
    · have HY := hid (says_yes HS.out (by rw [HN.out]; omega))
      have i1 : ¬ (k : Int) < (n : Int) := by omega
      go_wp2
      go_ret
      exact ⟨by rw [HY.out]; rfl, HB.out⟩

set_option maxHeartbeats 4000000 in
theorem f76 (q : T) (fa la : Option Addr) (nf nl fc lc : Nat) (f l : List Lb) (w : World) (hnf : f.length = nf) (hnl : l.length = nl) (hq : okX q = true) (hL : Lst w q) (hz : wt q ≤ 1048576) (gf : goodL f = true) (gl : goodL l = true) (rf : HasL w fa f) (rl : HasL w la l) :
    Calls Try.prog 76 #[agT q, .slice fa nf fc, .slice la nl lc] w fun e w' => e = .returned (.bool (hit q f l)) ∧ Below w.heap.size w w' := by
  have HL := hid hL
  have RF := hid rf
  have RL := hid rl
  have he : q.es.length ≤ 1048576 := by unfold wt at hz; omega
  obtain ⟨g1, g2⟩ := okX_parts hq
  have HB0 := hid ((Below.refl w.heap.size w).alloc (Nat.le_refl _) (BX q))
  have HX0 := hid (heap_alloc_new w (BX q))
  have H1 := fun x a b => hid (Pat.f75 q.ma fa q.ms.length q.mc nf fc q.ms f (vl f) x rfl hnf g1 gf a b (vl_of f))
  have H2 := fun x a b c => hid (f103 fa la q.ea nf nl q.es.length fc lc q.ec f l q.es x hnf hnl rfl (Lab.good_iff gf) (Lab.good_iff gl) he a b c)
  have H3 := fun x a b => hid (Pat.f75 q.ra fa q.rs.length q.rc nf fc q.rs f (vl f) x rfl hnf g2 gf a b (vl_of f))
  have H4 := fun x a b => hid (Pat.f75 q.ma la q.ms.length q.mc nl lc q.ms l (vl l) x rfl hnl g1 gl a b (vl_of l))
  have HO : Hid (hit q f l = (allM q.ms (vl f) && says f l q.es && (!allM q.rs (vl f) || !allM q.ms (vl l)))) := rfl
  obtain ⟨W0, hW⟩ : ∃ W, W = w.alloc (BX q) := ⟨_, rfl⟩
  rw [← hW] at HB0 HX0
  have HW := hid hW
  clear hW hz he g1 g2 hq hL rf rl gf gl hnf hnl
  generalize allM q.ms (vl f) = b1 at *
  generalize says f l q.es = b2 at *
  generalize allM q.rs (vl f) = b3 at *
  generalize allM q.ms (vl l) = b4 at *
  simp only [agT]
  go_enter Try.func76, Try.ntmps76
  go_upto_region 1 with fail
  rw [← HW.out]
  clear HW
  obtain ⟨x0, x1, x2⟩ := cellsN HX0.out
  cases b1
  · have HY : Hid (hit q f l = false) := by unfold Hid; rw [HO.out]; simp
    go_wp2_with fail
    refine (H1 _ (HL.out.m.below HB0.out) (RF.out.below HB0.out)).out.mono ?_
    rintro e w1 ⟨rfl, hb⟩
    have HB1 := hid (HB0.out.trans (hb.mono HB0.out.size))
    clear hb
    go_wp2
    go_ret
    exact ⟨by rw [HY.out]; rfl, HB1.out⟩
  go_wp2_with fail
  refine (H1 _ (HL.out.m.below HB0.out) (RF.out.below HB0.out)).out.mono ?_
  rintro e w1 ⟨rfl, hb⟩
  have HB1 := hid (HB0.out.trans (hb.mono HB0.out.size))
  have HX1 := hid (kept HX0.out hb)
  clear hb HB0 HX0 x0 x1 x2 H1
  obtain ⟨x0, x1, x2⟩ := cellsN HX1.out
  cases b2
  · have HY : Hid (hit q f l = false) := by unfold Hid; rw [HO.out]; simp
    go_wp2_with fail
    refine (H2 _ (RF.out.below HB1.out) (RL.out.below HB1.out) (HL.out.e.below HB1.out)).out.mono ?_
    rintro e w2 ⟨rfl, hb⟩
    have HB2 := hid (HB1.out.trans (hb.mono HB1.out.size))
    clear hb
    go_wp2
    go_ret
    exact ⟨by rw [HY.out]; rfl, HB2.out⟩
  go_wp2_with fail
  refine (H2 _ (RF.out.below HB1.out) (RL.out.below HB1.out) (HL.out.e.below HB1.out)).out.mono ?_
  rintro e w2 ⟨rfl, hb⟩
  have HB2 := hid (HB1.out.trans (hb.mono HB1.out.size))
  have HX2 := hid (kept HX1.out hb)
  clear hb HB1 HX1 x0 x1 x2 H2
  obtain ⟨x0, x1, x2⟩ := cellsN HX2.out
  go_wp2_with fail
  refine (H3 _ (HL.out.r.below HB2.out) (RF.out.below HB2.out)).out.mono ?_
  rintro e w3 ⟨rfl, hb⟩
  have HB3 := hid (HB2.out.trans (hb.mono HB2.out.size))
  have HX3 := hid (kept HX2.out hb)
  clear hb HB2 HX2 x0 x1 x2 H3
  obtain ⟨x0, x1, x2⟩ := cellsN HX3.out
  cases b3
  · have HY : Hid (hit q f l = true) := by unfold Hid; rw [HO.out]; simp
    go_wp2
    go_ret
    exact ⟨by rw [HY.out]; rfl, HB3.out⟩
  have HY : Hid (hit q f l = !b4) := by unfold Hid; rw [HO.out]; simp
  go_wp2_with fail
  refine (H4 _ (HL.out.m.below HB3.out) (RL.out.below HB3.out)).out.mono ?_
  rintro e w4 ⟨rfl, hb⟩
  have HB4 := hid (HB3.out.trans (hb.mono HB3.out.size))
  clear hb
  go_wp2
  go_ret
  exact ⟨by rw [HY.out]; first | rfl | simp, HB4.out⟩

/-- Lists of labels that may fire. -/
def fires (fs : List Lss.T) : Bool := decide (fs.length ≤ 200 ∧ ∀ i, i < fs.length → goodL (fs.getD i Lss.t0).l = true)
theorem fires_no {fs : List Lss.T} {k : Nat} (hk : k < fs.length) (h : goodL (fs.getD k Lss.t0).l = false) : fires fs = false := decide_eq_false fun g => by have := g.2 k hk; rw [h] at this; cases this
theorem fires_long {fs : List Lss.T} (h : 200 < fs.length) : fires fs = false := decide_eq_false fun g => by have := g.1; omega
theorem fires_yes {fs : List Lss.T} {k : Nat} (hk : fs.length ≤ k) (h : ∀ i, i < k → goodL (fs.getD i Lss.t0).l = true) (hl : fs.length ≤ 200) : fires fs = true := decide_eq_true ⟨hl, fun i hi => h i (by omega)⟩
theorem fires_at {fs : List Lss.T} (h : fires fs = true) (k : Nat) (hk : k < fs.length) : goodL (fs.getD k Lss.t0).l = true := (of_decide_eq_true h).2 k hk
theorem fires_len {fs : List Lss.T} (h : fires fs = true) : fs.length ≤ 200 := (of_decide_eq_true h).1

set_option maxHeartbeats 4000000 in
theorem f40 (a : Option Addr) (n c : Nat) (fs : List Lss.T) (w : World) (hn : fs.length = n) (hb : n ≤ 1048576) (hr : Lss.Has w a fs) (hf : Lss.Fit fs) :
    Calls Try.prog 40 #[.slice a n c] w fun e w' => e = .returned (.bool (fires fs)) ∧ Below w.heap.size w w' := by
  have HN := hid hn
  have HR := hid hr
  have HF := hid hf
  clear hn hr hf
  by_cases g : (n : Int) > 200
  · have HX := hid (fires_long (fs := fs) (by have := HN.out; omega))
    go_enter Try.func40, Try.ntmps40
    go_wp2
    go_ret
    exact ⟨by rw [HX.out]; rfl, Below.refl _ _⟩
  go_enter Try.func40, Try.ntmps40
  go_wp2
  go_loopw [10] (fun i wr => ∃ k : Nat, k ≤ n ∧ i = .int .i64 k ∧ Hid (∀ i, i < k → goodL (fs.getD i Lss.t0).l = true) ∧ Hid (Below w.heap.size w wr)) (fun i _ => n - (intOf i).toNat)
  case atStart => exact ⟨0, Nat.zero_le _, rfl, fun i hi => absurd hi (by omega), Below.refl _ _⟩
  case round =>
    obtain ⟨k, hk, rfl, HA, HB⟩ := hrel
    by_cases hlt : k < n
    · obtain ⟨b, off, rfl, hbl, hc, hl⟩ := (HR.out.below HB.out).at2 k (by rw [HN.out]; exact hlt)
      have HL := hid hl
      have G := hid (HF.out k)
      have HNo : Hid (goodL (fs.getD k Lss.t0).l = false → fires fs = false) := fun h => fires_no (by rw [HN.out]; exact hlt) h
      have HNx : Hid (goodL (fs.getD k Lss.t0).l = true → ∀ i, i < k + 1 → goodL (fs.getD i Lss.t0).l = true) := by
        intro h i hi
        by_cases e : i = k
        · subst e; exact h
        · exact HA.out i (by omega)
      have i1 : (k : Int) < (n : Int) := by omega
      clear hl hbl
      generalize fs.getD k Lss.t0 = q at *
      go_wp2_with fail
      refine (Lab.f41 q.a q.l.length q.c q.l _ rfl G.out.2 HL.out G.out.1).mono ?_
      rintro e w2 ⟨rfl, hb2⟩
      have HB2 := hid (HB.out.trans (hb2.mono HB.out.size))
      clear hb2
      cases hx : goodL q.l
      · have HY := hid (HNo.out hx)
        clear hx
        go_wp2
        go_ret
        exact ⟨by rw [HY.out]; rfl, HB2.out⟩
      · have HY := hid (HNx.out hx)
        clear hx
        go_wp2
        go_roundw
        case rel => exact ⟨k + 1, by omega, by go_num, HY, HB2⟩
        case measure => simp [intOf]; omega
    · have HY := hid (fires_yes (fs := fs) (k := k) (by have := HN.out; omega) HA.out (by have := HN.out; omega))
      have i1 : ¬ (k : Int) < (n : Int) := by omega
      go_wp2
      go_ret
      exact ⟨by rw [HY.out]; rfl, HB.out⟩

set_option maxHeartbeats 8000000 in
theorem f42 (a fa la : Option Addr) (n c m fc nl lc : Nat) (ts : List T) (fs : List Lss.T) (l : List Lb) (w : World) (hn : ts.length = n) (hm : fs.length = m) (hnl : l.length = nl) (hb : n ≤ 1048576) (hz : Sml ts) (gx : goodX ts = true) (gf : fires fs = true) (gl : goodL l = true) (hr : Has w a ts) (hrf : Lss.Has w fa fs) (hrl : HasL w la l) :
    Calls Try.prog 42 #[.slice a n c, .slice fa m fc, .slice la nl lc] w fun e w' => e = .returned (.bool (inh ts fs l)) ∧ Below w.heap.size w w' := by
  have HN := hid hn
  have HM := hid hm
  have HNL := hid hnl
  have HZ := hid hz
  have GX : Hid (∀ i, i < n → okX (ts.getD i t0) = true) := fun i hi => (of_decide_eq_true gx).2 i (by omega)
  have GF := hid gf
  have GL := hid gl
  have HR := hid hr
  have RF := hid hrf
  have RL := hid hrl
  have hm' : m ≤ 200 := by rw [← hm]; exact fires_len gf
  clear hn hm hnl hz gx gf gl hr hrf hrl
  go_enter Try.func42, Try.ntmps42
  go_wp2
  go_loopw [13] (fun i wr => ∃ k : Nat, k ≤ n ∧ i = .int .i64 k ∧ Hid (¬ InhP ts fs l k) ∧ Hid (Below w.heap.size w wr)) (fun i _ => n - (intOf i).toNat)
  case atStart => exact ⟨0, Nat.zero_le _, rfl, InhP.zero, Below.refl _ _⟩
  case round =>
    obtain ⟨k, hk, rfl, HA, HB⟩ := hrel
    by_cases hlt : k < n
    rotate_left
    · have HY := hid (inh_no (k := k) (by rw [HN.out]; omega) HA.out)
      have i1 : ¬ (k : Int) < (n : Int) := by omega
      go_wp2
      go_ret
      exact ⟨by rw [HY.out]; rfl, HB.out⟩
    obtain ⟨b, off, rfl, hbl, hc, hl⟩ := (HR.out.below HB.out).at2 k (by rw [HN.out]; exact hlt)
    obtain ⟨d0, d1, d2⟩ := hc.all
    have HL := hid hl
    have Z := hid (HZ.out k (by rw [HN.out]; exact hlt))
    have G := hid (GX.out k hlt)
    have HNx : Hid (¬ (fit (ts.getD k t0).rs l = true ∧ Bites (ts.getD k t0) fs l fs.length) → ¬ InhP ts fs l (k + 1)) := fun h => InhP.step HA.out h
    have HYs : Hid (fit (ts.getD k t0).rs l = true → ∀ j, j < fs.length → hit (ts.getD k t0) (fs.getD j Lss.t0).l l = true → inh ts fs l = true) := fun h j hj e => inh_yes (by rw [HN.out]; exact hlt) h hj e
    have i1 : (k : Int) < (n : Int) := by omega
    clear hc hl
    generalize ts.getD k t0 = q at *
    obtain ⟨g1, g2⟩ := okX_parts G.out
    have HB0 := hid (HB.out.alloc HB.out.size (BX q))
    have HX0 := hid (heap_alloc_new wr (BX q))
    have HL0 := hid (HL.out.below ((Below.refl _ _).alloc (Nat.le_refl _) (BX q)))
    have H1 := fun x a b => hid (Pat.f75 q.ra la q.rs.length q.rc nl lc q.rs l (vl l) x rfl HNL.out g2 GL.out a b (vl_of l))
    have hsz := HB.out.size
    obtain ⟨W0, hW⟩ : ∃ W, W = wr.alloc (BX q) := ⟨_, rfl⟩
    rw [← hW] at HB0 HX0 HL0
    have HW := hid hW
    clear hW g1 g2
    go_upto_region 4 with fail
    rw [← HW.out]
    clear HW d0 d1 d2 HL HB
    generalize wr.heap.size = B at *
    obtain ⟨x0, x1, x2⟩ := cellsN HX0.out
    go_wp2_with fail
    refine (H1 _ HL0.out.r (RL.out.below HB0.out)).out.mono ?_
    rintro e w1 ⟨rfl, hb⟩
    have HB1 := hid (HB0.out.trans (hb.mono HB0.out.size))
    have HX1 := hid (kept HX0.out hb)
    have HL1 := hid (HL0.out.below hb)
    clear hb HB0 HX0 HL0 x0 x1 x2 H1
    cases hfit : allM q.rs (vl l)
    · have HY := hid (HNx.out (fun g => by have := g.1; unfold fit at this; rw [hfit] at this; cases this))
      clear hfit
      go_wp2
      go_roundw
      case rel => exact ⟨k + 1, by omega, by go_num, HY, HB1⟩
      case measure => simp [intOf]; omega
    have HYt := hid (HYs.out hfit)
    clear hfit HYs
    go_wp2
    go_loopw [24] (fun i wx => ∃ j : Nat, j ≤ m ∧ i = .int .i64 j ∧ Hid (¬ Bites q fs l j) ∧ Hid (Below w.heap.size w wx) ∧ Hid (wx.heap[B]? = some (BX q)) ∧ Hid (Lst wx q)) (fun i _ => m - (intOf i).toNat)
    case atStart => exact ⟨0, Nat.zero_le _, rfl, Bites.zero, HB1, HX1, HL1⟩
    case round =>
      clear HB1 HX1 HL1
      obtain ⟨j, hj, rfl, HBt, HB2, HX2, HL2⟩ := hrel
      by_cases hlj : j < m
      rotate_left
      · have hjm : j = fs.length := by have := HM.out; omega
        have HY := hid (HNx.out (fun g => HBt.out (by rw [hjm]; exact g.2)))
        clear hjm
        have i2 : ¬ (j : Int) < (m : Int) := by omega
        go_wp2
        go_roundw
        case rel => exact ⟨k + 1, by omega, by go_num, HY, HB2⟩
        case measure => simp [intOf]; omega
      obtain ⟨b', off', rfl, hbl', hc', hl'⟩ := (RF.out.below HB2.out).at2 j (by rw [HM.out]; exact hlj)
      have HF' := hid hl'
      have HGf := hid (fires_at GF.out j (by rw [HM.out]; exact hlj))
      have HNo : Hid (hit q (fs.getD j Lss.t0).l l = false → ¬ Bites q fs l (j + 1)) := fun h => Bites.step HBt.out h
      have HYe := hid (HYt.out j (by rw [HM.out]; exact hlj))
      have i2 : (j : Int) < (m : Int) := by omega
      clear hl' hbl'
      generalize fs.getD j Lss.t0 = f at *
      obtain ⟨x0, x1, x2⟩ := cellsN HX2.out
      have HC := hid (f76 q f.a la f.l.length nl f.c lc f.l l wr rfl HNL.out G.out HL2.out Z.out HGf.out GL.out HF'.out (RL.out.below HB2.out))
      go_wp2_with fail
      refine HC.out.mono ?_
      rintro e w3 ⟨rfl, hb⟩
      have HB3 := hid (HB2.out.trans (hb.mono HB2.out.size))
      have HX3 := hid (kept HX2.out hb)
      have HL3 := hid (HL2.out.below hb)
      clear hb HC HB2 HX2 HL2 x0 x1 x2
      cases hx : hit q f.l l
      · have HY := hid (HNo.out hx)
        clear hx
        go_wp2
        go_roundw
        case rel => exact ⟨j + 1, by omega, by go_num, HY, HB3, HX3, HL3⟩
        case measure => simp [intOf]; omega
      · have HY := hid (HYe.out hx)
        clear hx
        go_wp2
        go_ret
        exact ⟨by rw [HY.out]; rfl, HB3.out⟩
end Go.Proofs.Ytkjodikccehmkaa.Inh
