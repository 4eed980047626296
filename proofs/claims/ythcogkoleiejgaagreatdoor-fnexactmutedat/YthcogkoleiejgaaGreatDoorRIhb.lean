/- Both GoodInhibits. -/
import Derived.Test.YthcogkoleiejgaaGreatDoorRIho
import Derived.Test.YthcogkoleiejgaaGreatDoorRMgd
import Derived.Test.YthcogkoleiejgaaGreatDoorRNrn
namespace Go.Proofs.YthcogkoleiejgaaGreatDoor.Inh
open Go.RowKit
open Go.Proofs.YthcogkoleiejgaaGreatDoor.Pat (Mt HasM FitM goodM)
open Go.Proofs.YthcogkoleiejgaaGreatDoor.Fil (HasT)
open Go.Proofs.YthcogkoleiejgaaGreatDoor.Rwc
open Go.Proofs.YthcogkoleiejgaaGreatDoor.Nmt (namesL namesS riseS two)

/-- Good matchers, at least one. -/
def some1 (ms : List Mt) : Bool := decide (0 < ms.length) && goodM ms
theorem f65 (a : Option Addr) (c : Nat) (ms : List Mt) (w : World) (hm : ms.length ≤ maxLen) (hr : HasM w a ms) (hf : FitM ms) :
    Calls Tryz.prog 65 #[.slice a ms.length c] w fun e w' => e = .returned (.bool (some1 ms)) ∧ Below w.heap.size w w' := by
  have HC := hid (Pat.f102 a ms.length c ms w rfl hm hr hf)
  by_cases g : 0 < ms.length
  · have HS : Hid (some1 ms = goodM ms) := by unfold Hid some1; rw [decide_eq_true g, Bool.true_and]
    have g' : (0 : Int) < (ms.length : Int) := by omega
    have gn : ¬ ms = [] := by intro e; rw [e] at g; simp at g
    generalize goodM ms = G at *
    generalize hn : ms.length = n at *
    clear hn
    go_enter Tryz.func65, Tryz.ntmps65
    go_wp2_with fail
    refine HC.out.mono ?_
    rintro e w1 ⟨rfl, hb⟩
    have HB := hid hb
    clear hb
    go_wp2
    go_ret
    exact ⟨by rw [HS.out]; rfl, HB.out⟩
  · have HS : Hid (some1 ms = false) := by unfold Hid some1; rw [decide_eq_false g, Bool.false_and]
    have g' : ms.length = 0 := by omega
    rw [g']
    go_enter Tryz.func65, Tryz.ntmps65
    go_wp2
    go_ret
    exact ⟨by rw [HS.out]; rfl, Below.refl _ _⟩
/-- What is asked of an inhibit. -/
def okX (q : T) : Bool := some1 q.ms && some1 q.rs && namesL q.es
def goodX (ts : List T) : Bool := decide (ts.length ≤ 20 ∧ ∀ i, i < ts.length → okX (ts.getD i t0) = true)
theorem goodX_no {ts : List T} {k : Nat} (hk : k < ts.length) (h : okX (ts.getD k t0) = false) : goodX ts = false := decide_eq_false fun g => by have := g.2 k hk; rw [h] at this; cases this
theorem goodX_long {ts : List T} (h : 20 < ts.length) : goodX ts = false := decide_eq_false fun g => by have := g.1; omega
theorem goodX_yes {ts : List T} {k : Nat} (hk : ts.length ≤ k) (h : ∀ i, i < k → okX (ts.getD i t0) = true) (hl : ts.length ≤ 20) : goodX ts = true := decide_eq_true ⟨hl, fun i hi => h i (by omega)⟩
theorem okX_pl {q q' : T} (h : pl q' = pl q) : okX q' = okX q := by
  have h1 : q'.ms = q.ms := congrArg Pl.ms h
  have h2 : q'.rs = q.rs := congrArg Pl.rs h
  have h3 : q'.es = q.es := congrArg Pl.es h
  unfold okX; rw [h1, h2, h3]
theorem goodX_same {n : Nat} {ts ts' : List T} (h : Same n ts ts') (hn : ts.length = n) (hn' : ts'.length = n) : goodX ts' = goodX ts := by
  unfold goodX
  refine decide_eq_decide.2 ⟨fun g => ⟨by omega, fun i hi => ?_⟩, fun g => ⟨by omega, fun i hi => ?_⟩⟩
  · rw [← okX_pl (h i (by omega))]; exact g.2 i (by omega)
  · rw [okX_pl (h i (by omega))]; exact g.2 i (by omega)

abbrev BX (q : T) : Obj := .cells (arT q) 106
set_option maxHeartbeats 4000000 in
theorem f68 (q : T) (w : World) (hl : Lst w q) (hf : Ft q) (hs : wt q ≤ 1048576) :
    Calls Tryz.prog 68 #[agT q] w fun e w' => e = .returned (.bool (okX q)) ∧ Below w.heap.size w w' := by
  have HL := hid hl
  have HF := hid hf
  clear hl hf
  have hs' : q.es.length ≤ 1048576 := by unfold wt at hs; omega
  have HB0 := hid ((Below.refl w.heap.size w).alloc (Nat.le_refl _) (BX q))
  have HX0 := hid (heap_alloc_new w (BX q))
  have H1 := fun x a => hid (f65 q.ma q.mc q.ms x HF.out.m.2 a HF.out.m.1)
  have H2 := fun x a => hid (f65 q.ra q.rc q.rs x HF.out.r.2 a HF.out.r.1)
  have H3 := fun x a => hid (Nmt.f104 q.ea q.ec q.es x hs' HF.out.e.1 a)
  have HO : Hid (okX q = (some1 q.ms && some1 q.rs && namesL q.es)) := rfl
  obtain ⟨W0, hW⟩ : ∃ W, W = w.alloc (BX q) := ⟨_, rfl⟩
  rw [← hW] at HB0 HX0
  have HW := hid hW
  clear hW hs hs'
  generalize some1 q.ms = b1 at *
  generalize some1 q.rs = b2 at *
  generalize namesL q.es = b3 at *
  simp only [agT]
  go_enter Tryz.func68, Tryz.ntmps68
  go_upto_region 1 with fail
  rw [← HW.out]
  clear HW
  obtain ⟨x0, x1, x2⟩ := cellsN HX0.out
  cases b1
  · have HY : Hid (okX q = false) := by unfold Hid; rw [HO.out]; simp
    go_wp2_with fail
    refine (H1 _ (HL.out.m.below HB0.out)).out.mono ?_
    rintro e w1 ⟨rfl, hb⟩
    have HB1 := hid (HB0.out.trans (hb.mono HB0.out.size))
    clear hb
    go_wp2
    go_ret
    exact ⟨by rw [HY.out]; rfl, HB1.out⟩
  go_wp2_with fail
  refine (H1 _ (HL.out.m.below HB0.out)).out.mono ?_
  rintro e w1 ⟨rfl, hb⟩
  have HB1 := hid (HB0.out.trans (hb.mono HB0.out.size))
  have HX1 := hid (kept HX0.out hb)
  clear hb HB0 HX0 x0 x1 x2 H1
  obtain ⟨x0, x1, x2⟩ := cellsN HX1.out
  cases b2
  · have HY : Hid (okX q = false) := by unfold Hid; rw [HO.out]; simp
    go_wp2_with fail
    refine (H2 _ (HL.out.r.below HB1.out)).out.mono ?_
    rintro e w2 ⟨rfl, hb⟩
    have HB2 := hid (HB1.out.trans (hb.mono HB1.out.size))
    clear hb
    go_wp2
    go_ret
    exact ⟨by rw [HY.out]; rfl, HB2.out⟩
  go_wp2_with fail
  refine (H2 _ (HL.out.r.below HB1.out)).out.mono ?_
  rintro e w2 ⟨rfl, hb⟩
  have HB2 := hid (HB1.out.trans (hb.mono HB1.out.size))
  have HX2 := hid (kept HX1.out hb)
  clear hb HB1 HX1 x0 x1 x2 H2
  obtain ⟨x0, x1, x2⟩ := cellsN HX2.out
  have HY : Hid (okX q = b3) := by unfold Hid; rw [HO.out]; simp
  go_wp2_with fail
  refine (H3 _ (HL.out.e.below HB2.out)).out.mono ?_
  rintro e w3 ⟨rfl, hb⟩
  have HB3 := hid (HB2.out.trans (hb.mono HB2.out.size))
  clear hb
  go_wp2
  go_ret
  exact ⟨by rw [HY.out]; first | rfl | simp, HB3.out⟩

set_option maxHeartbeats 4000000 in
theorem f32 (a : Option Addr) (n c : Nat) (ts : List T) (w : World) (hn : ts.length = n) (hb : n ≤ 1048576) (hr : Has w a ts) (hf : Fit ts) (hz : Sml ts) :
    Calls Tryz.prog 32 #[.slice a n c] w fun e w' => e = .returned (.bool (goodX ts)) ∧ Below w.heap.size w w' := by
  have HN := hid hn
  have HR := hid hr
  have HF := hid hf
  have HZ := hid hz
  clear hn hr hf hz
  by_cases g : (n : Int) > 20
  · have HX := hid (goodX_long (ts := ts) (by have := HN.out; omega))
    go_enter Tryz.func32, Tryz.ntmps32
    go_wp2
    go_ret
    exact ⟨by rw [HX.out]; rfl, Below.refl _ _⟩
  go_enter Tryz.func32, Tryz.ntmps32
  go_wp2
  go_loopw [10] (fun i wr => ∃ k : Nat, k ≤ n ∧ i = .int .i64 k ∧ Hid (∀ i, i < k → okX (ts.getD i t0) = true) ∧ Hid (Below w.heap.size w wr)) (fun i _ => n - (intOf i).toNat)
  case atStart => exact ⟨0, Nat.zero_le _, rfl, fun i hi => absurd hi (by omega), Below.refl _ _⟩
  case round =>
    obtain ⟨k, hk, rfl, HA, HB⟩ := hrel
    by_cases hlt : k < n
    · obtain ⟨b, off, rfl, hbl, hc, hl⟩ := (HR.out.below HB.out).at2 k (by rw [HN.out]; exact hlt)
      obtain ⟨d0, d1, d2⟩ := hc.all
      have HL := hid hl
      have G := hid (HF.out k)
      have Z := hid (HZ.out k (by rw [HN.out]; exact hlt))
      have HNo : Hid (okX (ts.getD k t0) = false → goodX ts = false) := fun h => goodX_no (by rw [HN.out]; exact hlt) h
      have HNx : Hid (okX (ts.getD k t0) = true → ∀ i, i < k + 1 → okX (ts.getD i t0) = true) := by
        intro h i hi
        by_cases e : i = k
        · subst e; exact h
        · exact HA.out i (by omega)
      have i1 : (k : Int) < (n : Int) := by omega
      clear hc hl
      generalize ts.getD k t0 = q at *
      have hb1 := HB.out.alloc HB.out.size (BX q)
      have HB1 := hid hb1
      have HX1 := hid (heap_alloc_new wr (BX q))
      have HC := hid (f68 q (wr.alloc (BX q)) (HL.out.below ((Below.refl _ _).alloc (Nat.le_refl _) _)) G.out Z.out)
      clear hb1
      cases hx : okX q
      · rw [hx] at HC
        have HY := hid (HNo.out hx)
        clear hx
        go_wp2_with fail
        refine HC.out.mono ?_
        rintro e w2 ⟨rfl, hb2⟩
        have HB2 := hid (HB1.out.trans (hb2.mono HB1.out.size))
        clear hb2
        go_wp2
        go_ret
        exact ⟨by rw [HY.out]; rfl, HB2.out⟩
      · rw [hx] at HC
        have HY := hid (HNx.out hx)
        clear hx
        go_wp2_with fail
        refine HC.out.mono ?_
        rintro e w2 ⟨rfl, hb2⟩
        have HB2 := hid (HB1.out.trans (hb2.mono HB1.out.size))
        clear hb2
        go_wp2
        go_roundw
        case rel => exact ⟨k + 1, by omega, by go_num, HY, HB2⟩
        case measure => simp [intOf]; omega
    · have HY := hid (goodX_yes (ts := ts) (k := k) (by have := HN.out; omega) HA.out (by have := HN.out; omega))
      have i1 : ¬ (k : Int) < (n : Int) := by omega
      go_wp2
      go_ret
      exact ⟨by rw [HY.out]; rfl, HB.out⟩

set_option maxHeartbeats 8000000 in
theorem f24 (a : Option Addr) (n c : Nat) (ts : List T) (w : World) (hn : ts.length = n) (hb : n ≤ 1048576) (hr : Has w a ts) (hf : Fit ts) (hz : Sml ts) :
    Calls Tryz.prog 24 #[.slice a n c] w fun e w' => e = .returned (.bool (goodX ts)) ∧ Below w.heap.size w w' := by
  have HN := hid hn
  have HR := hid hr
  have HF := hid hf
  have HZ := hid hz
  clear hn hr hf hz
  go_enter Tryz.func24, Tryz.ntmps24
  go_wp2
  go_loopw [7] (fun i wr => ∃ k : Nat, k ≤ n ∧ i = .int .i64 k ∧ Hid (∀ i, i < k → okX (ts.getD i t0) = true) ∧ Hid (Below w.heap.size w wr)) (fun i _ => n - (intOf i).toNat)
  case atStart => exact ⟨0, Nat.zero_le _, rfl, fun i hi => absurd hi (by omega), Below.refl _ _⟩
  case round =>
    obtain ⟨k, hk, rfl, HA, HB⟩ := hrel
    by_cases hlt : k < n
    · obtain ⟨b, off, rfl, hbl, hc, hl⟩ := (HR.out.below HB.out).at2 k (by rw [HN.out]; exact hlt)
      obtain ⟨d0, d1, d2⟩ := hc.all
      have HL := hid hl
      have G := hid (HF.out k)
      have Z := HZ.out k (by rw [HN.out]; exact hlt)
      have HNo : Hid (okX (ts.getD k t0) = false → goodX ts = false) := fun h => goodX_no (by rw [HN.out]; exact hlt) h
      have HNx : Hid (okX (ts.getD k t0) = true → ∀ i, i < k + 1 → okX (ts.getD i t0) = true) := by
        intro h i hi
        by_cases e : i = k
        · subst e; exact h
        · exact HA.out i (by omega)
      have i1 : (k : Int) < (n : Int) := by omega
      clear hc hl
      generalize ts.getD k t0 = q at *
      have hs' : q.es.length ≤ 1048576 := by unfold wt at Z; omega
      have HB0 := hid (HB.out.alloc HB.out.size (BX q))
      have HX0 := hid (heap_alloc_new wr (BX q))
      have HL0 := hid (HL.out.below ((Below.refl _ _).alloc (Nat.le_refl _) (BX q)))
      have H1 := fun x a => hid (Pat.f54 q.ma q.ms.length q.mc q.ms x rfl G.out.m.2 a G.out.m.1)
      have H2 := fun x a => hid (Pat.f54 q.ra q.rs.length q.rc q.rs x rfl G.out.r.2 a G.out.r.1)
      have H3 := fun x a => hid (Nmt.f56 q.ea q.es.length q.ec q.es x rfl hs' G.out.e.1 a)
      have HO : Hid (okX q = (decide (0 < q.ms.length) && goodM q.ms && (decide (0 < q.rs.length) && goodM q.rs) && namesL q.es)) := rfl
      obtain ⟨W0, hW⟩ : ∃ W, W = wr.alloc (BX q) := ⟨_, rfl⟩
      rw [← hW] at HB0 HX0 HL0
      have HW := hid hW
      clear hW Z hs'
      go_upto_region 4 with fail
      rw [← HW.out]
      clear HW d0 d1 d2
      generalize wr.heap.size = B at *
      obtain ⟨x0, x1, x2⟩ := cellsN HX0.out
      generalize goodM q.ms = b1 at *
      generalize goodM q.rs = b2 at *
      generalize namesL q.es = b3 at *
      cases b1
      · have HY : Hid (goodX ts = false) := HNo.out (by rw [HO.out]; simp)
        go_wp2_with fail
        refine (H1 _ HL0.out.m).out.mono ?_
        rintro e w1 ⟨rfl, hb⟩
        have HB1 := hid (HB0.out.trans (hb.mono HB0.out.size))
        clear hb
        go_wp2
        go_ret
        exact ⟨by rw [HY.out]; rfl, HB1.out⟩
      go_wp2_with fail
      refine (H1 _ HL0.out.m).out.mono ?_
      rintro e w1 ⟨rfl, hb⟩
      have HB1 := hid (HB0.out.trans (hb.mono HB0.out.size))
      have HX1 := hid (kept HX0.out hb)
      have HL1 := hid (HL0.out.below hb)
      clear hb HB0 HX0 HL0 x0 x1 x2 H1
      obtain ⟨x0, x1, x2⟩ := cellsN HX1.out
      cases b2
      · have HY : Hid (goodX ts = false) := HNo.out (by rw [HO.out]; simp)
        go_wp2_with fail
        refine (H2 _ HL1.out.r).out.mono ?_
        rintro e w2 ⟨rfl, hb⟩
        have HB2 := hid (HB1.out.trans (hb.mono HB1.out.size))
        clear hb
        go_wp2
        go_ret
        exact ⟨by rw [HY.out]; rfl, HB2.out⟩
      go_wp2_with fail
      refine (H2 _ HL1.out.r).out.mono ?_
      rintro e w2 ⟨rfl, hb⟩
      have HB2 := hid (HB1.out.trans (hb.mono HB1.out.size))
      have HX2 := hid (kept HX1.out hb)
      have HL2 := hid (HL1.out.below hb)
      clear hb HB1 HX1 HL1 x0 x1 x2 H2
      obtain ⟨x0, x1, x2⟩ := cellsN HX2.out
      by_cases g1 : q.ms.length = 0
      · have HY : Hid (goodX ts = false) := HNo.out (by rw [HO.out, decide_eq_false (show ¬ 0 < q.ms.length by omega)]; simp)
        have k1 : ((q.ms.length : Int) == 0) = true := by rw [g1]; rfl
        clear g1
        generalize q.ms.length = N1 at *
        go_wp2
        go_ret
        exact ⟨by rw [HY.out]; rfl, HB2.out⟩
      by_cases g2 : q.rs.length = 0
      · have HY : Hid (goodX ts = false) := HNo.out (by rw [HO.out, decide_eq_false (show ¬ 0 < q.rs.length by omega)]; simp)
        have k1 : ((q.ms.length : Int) == 0) = false := by rw [beq_eq_false_iff_ne]; omega
        have k2 : ((q.rs.length : Int) == 0) = true := by rw [g2]; rfl
        clear g1 g2
        generalize q.ms.length = N1 at *
        generalize q.rs.length = N2 at *
        go_wp2
        go_ret
        exact ⟨by rw [HY.out]; rfl, HB2.out⟩
      have k1 : ((q.ms.length : Int) == 0) = false := by rw [beq_eq_false_iff_ne]; omega
      have k2 : ((q.rs.length : Int) == 0) = false := by rw [beq_eq_false_iff_ne]; omega
      have HP : Hid (okX q = b3) := by unfold Hid; rw [HO.out, decide_eq_true (show 0 < q.ms.length by omega), decide_eq_true (show 0 < q.rs.length by omega)]; simp
      clear g1 g2
      generalize q.ms.length = N1 at *
      generalize q.rs.length = N2 at *
      cases b3
      · have HY : Hid (goodX ts = false) := HNo.out HP.out
        go_wp2_with fail
        refine (H3 _ HL2.out.e).out.mono ?_
        rintro e w3 ⟨rfl, hb⟩
        have HB3 := hid (HB2.out.trans (hb.mono HB2.out.size))
        clear hb
        go_wp2
        go_ret
        exact ⟨by rw [HY.out]; rfl, HB3.out⟩
      · have HY := hid (HNx.out HP.out)
        go_wp2_with fail
        refine (H3 _ HL2.out.e).out.mono ?_
        rintro e w3 ⟨rfl, hb⟩
        have HB3 := hid (HB2.out.trans (hb.mono HB2.out.size))
        clear hb
        go_wp2
        go_roundw
        case rel => exact ⟨k + 1, by omega, by go_num, HY, HB3⟩
        case measure => simp [intOf]; omega
    · have i1 : ¬ (k : Int) < (n : Int) := by omega
      by_cases g : (n : Int) ≤ 20
      · have HY := hid (goodX_yes (ts := ts) (k := k) (by have := HN.out; omega) HA.out (by have := HN.out; omega))
        go_wp2
        go_ret
        exact ⟨by rw [HY.out]; first | rfl | simp | (simp; omega), HB.out⟩
      · have HY := hid (goodX_long (ts := ts) (by have := HN.out; omega))
        go_wp2
        go_ret
        exact ⟨by rw [HY.out]; first | rfl | simp | (simp; omega), HB.out⟩
end Go.Proofs.YthcogkoleiejgaaGreatDoor.Inh
