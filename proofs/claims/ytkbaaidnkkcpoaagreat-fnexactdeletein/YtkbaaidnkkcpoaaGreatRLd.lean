/- The walk of FnExactDeleteIn. -/
import Derived.Test.YtkbaaidnkkcpoaaGreatRLb
import Derived.Test.YtkbaaidnkkcpoaaGreatRLc
import Derived.Test.YtkbaaidnkkcpoaaGreatRJl
import Derived.Test.YtkbaaidnkkcpoaaGreatRGM
namespace Go.Proofs.YtkbaaidnkkcpoaaGreat.Blk
open Go.RowKit
open Go.Proofs.YtkbaaidnkkcpoaaGreat.Srs (hid lt_at kept Q HasQ SmlQ q0 blk Fr own_fr own_below)
open Go.Proofs.YtkbaaidnkkcpoaaGreat.Stn (T t0 mk)
open Go.Proofs.YtkbaaidnkkcpoaaGreat.Pat (Mt HasM goodM FitM)

theorem fr_belowD {X Y B : Nat} {w x : World} (h : Fr X Y w x) (hb : B ≤ X) (hs : B ≤ w.heap.size) : Below B w x := ⟨h.os, h.tape, h.output, h.size, fun k hk => h.block k (by omega) (.inl (by omega))⟩
theorem grown_belowD {B r : Nat} {w x : World} (h : w.grownBy x (some r)) (hb : B ≤ r) (hs : B ≤ w.heap.size) : Below B w x := (Below.refl B w).grown h hs (fun k hk => by cases hk; exact hb)
/-- Two boxes cell by cell; what was there at w7 is as it was. -/
abbrev WT (w7 : World) (A B : Nat) (h h' : Bk) (x : World) : Prop :=
  x.cell? ⟨A, 0, none⟩ = some (.int .i64 h.F) ∧ x.cell? ⟨A, 1, none⟩ = some (.int .i64 h.T) ∧ x.cell? ⟨A, 2, none⟩ = some (.int .i64 h.L) ∧ x.cell? ⟨A, 3, none⟩ = some (.slice h.a h.qs.length h.c) ∧ x.cell? ⟨A, 4, none⟩ = some (.slice h.b h.ts.length h.d) ∧
  x.cell? ⟨B, 0, none⟩ = some (.int .i64 h'.F) ∧ x.cell? ⟨B, 1, none⟩ = some (.int .i64 h'.T) ∧ x.cell? ⟨B, 2, none⟩ = some (.int .i64 h'.L) ∧ x.cell? ⟨B, 3, none⟩ = some (.slice h'.a h'.qs.length h'.c) ∧ x.cell? ⟨B, 4, none⟩ = some (.slice h'.b h'.ts.length h'.d) ∧
  x.heap[A]? = some (.cells (clB h) 39) ∧ x.heap[B]? = some (.cells (clB h') 44) ∧ Below w7.heap.size w7 x
theorem WT.new {w7 : World} {A B : Nat} {h h' : Bk} {x : World} (h1 : x.heap[A]? = some (.cells (clB h) 39)) (h2 : x.heap[B]? = some (.cells (clB h') 44)) (hb : Below w7.heap.size w7 x) : WT w7 A B h h' x := by
  obtain ⟨b0, b1, b2, b3, b4⟩ := five h1
  obtain ⟨c0, c1, c2, c3, c4⟩ := five h2
  exact ⟨b0, b1, b2, b3, b4, c0, c1, c2, c3, c4, h1, h2, hb⟩
theorem WT.bel {w7 : World} {A B : Nat} {h h' : Bk} {x : World} (g : WT w7 A B h h' x) : Below w7.heap.size w7 x := g.2.2.2.2.2.2.2.2.2.2.2.2
theorem WT.below {w7 : World} {A B : Nat} {h h' : Bk} {x y : World} (g : WT w7 A B h h' x) (hb : Below x.heap.size x y) : WT w7 A B h h' y :=
  WT.new (kept g.2.2.2.2.2.2.2.2.2.2.1 hb) (kept g.2.2.2.2.2.2.2.2.2.2.2.1 hb) (g.bel.trans (hb.mono g.bel.size))
/-- The argument in its box, the matchers, the model's answer in its box. -/
structure Ke (w : World) (h : Bk) (am : Option Addr) (ms : List Mt) (BW : Nat) (hW : Bk) (x : World) : Prop where
  one : x.heap[w.heap.size]? = some (.cells (clB h) 39)
  two : x.heap[BW]? = some (.cells (clB hW) 44)
  arg : HasB x h
  mat : HasM x am ms
  ans : HasB x hW
  bel : Below w.heap.size w x
theorem Ke.below {w : World} {h : Bk} {am : Option Addr} {ms : List Mt} {BW : Nat} {hW : Bk} {x y : World} (g : Ke w h am ms BW hW x) (hb : Below x.heap.size x y) : Ke w h am ms BW hW y := ⟨kept g.one hb, kept g.two hb, g.arg.below hb, g.mat.below hb, g.ans.below hb, g.bel.trans (hb.mono g.bel.size)⟩
/-- What both give. -/
noncomputable def dn (ms : List Mt) (x y : Int) (h : Bk) : Bk := if Dc ms x y h then dlb ms x y h else k0
theorem dc_same {ms : List Mt} {x y : Int} {h h' : Bk} (s : SameB h h') : Dc ms x y h' ↔ Dc ms x y h := by
  unfold Dc
  rw [s.gd, okD_same s]
theorem dn_same {ms : List Mt} {x y : Int} {h h' : Bk} (s : SameB h h') : SameB (dn ms x y h) (dn ms x y h') := by
  by_cases hc : Dc ms x y h
  · have e1 : dn ms x y h = dlb ms x y h := if_pos hc
    have e2 : dn ms x y h' = dlb ms x y h' := if_pos ((dc_same s).2 hc)
    rw [e1, e2]; exact dlb_same s
  · have e1 : dn ms x y h = k0 := if_neg hc
    have e2 : dn ms x y h' = k0 := if_neg (fun g => hc ((dc_same s).1 g))
    rw [e1, e2]; exact SameB.refl _
theorem tott_leD {ts : List T} (h : ∀ i, i < ts.length → (ts.getD i t0).l.length ≤ 20) : ∀ k, k ≤ ts.length → Stn.tot ts k ≤ 20 * k := by
  intro k
  induction k with
  | zero => intro _; exact Nat.le_refl _
  | succ k ih =>
    intro hk
    have := ih (by omega)
    have := h k (by omega)
    simp only [Stn.tot]
    omega
theorem dn_sml {ms : List Mt} {x y : Int} {h : Bk} (ht : tb h ≤ 1048576) : SmlB (dn ms x y h) ∧ Srs.tot (dn ms x y h).qs (dn ms x y h).qs.length ≤ 1048576 ∧ (dn ms x y h).ts.length ≤ 100 ∧ Stn.tot (dn ms x y h).ts (dn ms x y h).ts.length ≤ 2000 := by
  by_cases hc : Dc ms x y h
  · have e1 : dn ms x y h = dlb ms x y h := if_pos hc
    rw [e1]
    have g := gdB_iff.1 hc.1
    have hz := sml_tb ht
    have hd : (delB ms h x y).length ≤ 100 := hc.2.2
    have key : ∀ j, j < (delB ms h x y).length → ((delB ms h x y).getD j t0).l.length ≤ 20 := fun j hj => by
      have hm : (delB ms h x y).getD j t0 ∈ delB ms h x y := by rw [List.getD_eq_getElem?_getD, List.getElem?_eq_getElem hj]; exact List.getElem_mem _
      obtain ⟨j', g1, g2⟩ := delB_mem g hm
      rw [g2]
      exact (Srs.good_goodP (g.2.1.2 j' g1).1.1.1).1
    have h1 := tott_leD key _ (Nat.le_refl _)
    unfold tb at ht
    refine ⟨⟨hz.1, hz.2.1, ?_, fun j hj => ?_⟩, ?_, hd, ?_⟩
    · show (delB ms h x y).length ≤ 1048576
      omega
    · exact Nat.le_trans (key j hj) (by decide)
    · show Srs.tot h.qs h.qs.length ≤ 1048576
      omega
    · show Stn.tot (delB ms h x y) (delB ms h x y).length ≤ 2000
      omega
  · have e1 : dn ms x y h = k0 := if_neg hc
    rw [e1]
    exact ⟨⟨Nat.zero_le _, fun i hi => by simp [k0] at hi, Nat.zero_le _, fun i hi => by simp [k0] at hi⟩, Nat.zero_le _, Nat.zero_le _, Nat.zero_le _⟩
theorem totq_sameD {n : Nat} {qs d : List Q} (h : Srs.Same n qs d) : ∀ k, k ≤ n → Srs.tot d k = Srs.tot qs k := by
  intro k
  induction k with
  | zero => intro _; rfl
  | succ k ih =>
    intro hk
    have e := h k (by omega)
    simp only [Srs.pl, Prod.mk.injEq] at e
    simp only [Srs.tot]
    rw [ih (by omega), e.1, e.2]
theorem tott_sameD {n : Nat} {ts d : List T} (h : Stn.Same n ts d) : ∀ k, k ≤ n → Stn.tot d k = Stn.tot ts k := by
  intro k
  induction k with
  | zero => intro _; rfl
  | succ k ih =>
    intro hk
    have e := same_l (h k (by omega))
    simp only [Stn.tot]
    rw [ih (by omega), e.1]
theorem mkbb_le {p h : Bk} (s : SameB p h) (h1 : Srs.tot p.qs p.qs.length ≤ 1048576) (h2 : p.ts.length ≤ 100) (h3 : Stn.tot p.ts p.ts.length ≤ 2000) : 1 + mkbb h ≤ 10000000 := by
  have e1 := totq_sameD s.sq _ (Nat.le_refl _)
  have e2 := tott_sameD s.st _ (Nat.le_refl _)
  have e3 := s.lq
  have e4 := s.lt
  unfold mkbb mk
  rw [e3, e4, e1, e2]
  omega
theorem agB_mbb (k : Nat) (h : Bk) : agB (mbb k h) = agB h := by simp only [agB, clB, mbb, Srs.mqs_len, Stn.mts_len]
theorem ownb_cap {X g k S : Nat} {h h' : Bk} {w : World} (o : OwnB X g k S h h' w) : (∀ i, i < h'.qs.length → (h'.qs.getD i q0).d = (h'.qs.getD i q0).s.length) ∧ h'.ts.length ≤ h'.d :=
  ⟨fun i hi => (o.sq i (by rw [← o.lq]; exact hi)).2.2, by rw [o.lt, o.ed]; exact Nat.le_refl _⟩
/-- What the copies ask. -/
structure Cq (h h' : Bk) : Prop where
  same : SameB h h'
  cap : ∀ i, i < h'.qs.length → (h'.qs.getD i q0).d = (h'.qs.getD i q0).s.length
  room : h'.ts.length ≤ h'.d
theorem OwnB.cq {X g k S : Nat} {h h' : Bk} {w : World} (o : OwnB X g k S h h' w) : Cq h h' := ⟨o.same, (ownb_cap o).1, (ownb_cap o).2⟩
set_option maxRecDepth 10000 in
set_option maxHeartbeats 8000000 in
theorem walkDeleteIn (h : Bk) (am : Option Addr) (cm : Nat) (ms : List Mt) (x y : Int) (w : World) (hr : HasB w h) (hf : FitB h) (hm : HasM w am ms) (hfm : FitM ms) (hmx : ms.length ≤ maxLen) :
    Calls Tryz.prog 4 #[agB h, .slice am ms.length cm, .int .i64 x, .int .i64 y] w fun e w' => e = .returned (.bool true) ∧ Below w.heap.size w w' := by
  have HR := hid hr
  have HF := hid hf
  have HM := hid hm
  have HFM := hid hfm
  have HMX := hid hmx
  have H0 : Hid (Wp w h (w.alloc (.cells (clB h) 39))) := ⟨heap_alloc_new w _, (Below.refl w.heap.size w).alloc (Nat.le_refl _) _⟩
  clear hr hf hm hfm hmx
  obtain ⟨n, hn⟩ : ∃ n, n = ms.length := ⟨_, rfl⟩
  have HN : Hid (ms.length = n) := hn.symm
  rw [← hn]
  rw [← hn] at HMX
  clear hn
  have HDs : Hid (tb h ≤ 1048576 → SmlB (dn ms x y h) ∧ Srs.tot (dn ms x y h).qs (dn ms x y h).qs.length ≤ 1048576 ∧ (dn ms x y h).ts.length ≤ 100 ∧ Stn.tot (dn ms x y h).ts (dn ms x y h).ts.length ≤ 2000) := fun ht => dn_sml ht
  have HSp : Hid (∀ h' am' cm' w', Cq h h' → SmlB h → HasB w' h' → HasM w' am' ms → Calls Tryz.prog 17 #[agB h', .slice am' n cm', .int .i64 x, .int .i64 y] w' fun e w'' => ∃ hW, e = .returned (agB hW) ∧ Hid (SameB (dn ms x y h) hW ∧ HasB w'' hW) ∧ Below w'.heap.size w' w'') := by
    intro h' am' cm' w' s z hb hm
    have hc := f17 h' am' cm' ms x y w' hb (s.same.fit HF.out) (s.same.sml z) s.cap hm HFM.out (by rw [HN.out]; exact HMX.out)
    rw [HN.out] at hc
    refine hc.mono ?_
    rintro e w'' ⟨hW, rfl, hh, hb⟩
    refine ⟨hW, rfl, ?_, hb⟩
    have hd := dn_same (ms := ms) (x := x) (y := y) s.same
    rcases hh.out with ⟨d, q1, q2⟩ | ⟨d, rfl⟩
    · have e1 : dn ms x y h' = dlb ms x y h' := if_pos d
      rw [e1] at hd
      exact ⟨hd.symm.trans q1, q2⟩
    · have e1 : dn ms x y h' = k0 := if_neg d
      rw [e1] at hd
      exact ⟨hd, .inl rfl, .inl rfl⟩
  have HIm : Hid (∀ h' am' cm' w', Cq h h' → SmlB h → HasB w' h' → HasM w' am' ms → Calls Tryz.prog 19 #[agB h', .slice am' n cm', .int .i64 x, .int .i64 y] w' fun e w'' => ∃ hG, e = .returned (agB hG) ∧ Hid (SameB (dn ms x y h) hG ∧ ∃ X, w'.heap.size ≤ X ∧ An X w''.heap.size hG w'') ∧ Below w'.heap.size w' w'') := by
    intro h' am' cm' w' s z hb hm
    have hc := f19 h' am' cm' ms x y w' hb (s.same.fit HF.out) (s.same.sml z) s.cap s.room hm HFM.out (by rw [HN.out]; exact HMX.out)
    rw [HN.out] at hc
    refine hc.mono ?_
    rintro e w'' ⟨hW, rfl, hh, hb⟩
    refine ⟨hW, rfl, ?_, hb⟩
    have hd := dn_same (ms := ms) (x := x) (y := y) s.same
    rcases hh.out with ⟨d, q1, X, q2, q3⟩ | ⟨d, rfl⟩
    · have e1 : dn ms x y h' = dlb ms x y h' := if_pos d
      rw [e1] at hd
      exact ⟨hd.symm.trans q1, X, q2, .inl q3⟩
    · have e1 : dn ms x y h' = k0 := if_neg d
      rw [e1] at hd
      exact ⟨hd, w'.heap.size, Nat.le_refl _, .inr rfl⟩
  generalize dn ms x y h = D at *
  go_enter Tryz.func4, Tryz.ntmps4
  go_wp2_with fail
  refine (f16t h _ (HR.out.below H0.out.bel) HF.out).mono ?_
  rintro e w1 ⟨y1, rfl, y10, y11, hy, hb1⟩
  have H1 := hid (H0.out.below hb1)
  clear hb1 H0
  by_cases g0 : y1 < 0
  · go_wp2
    go_ret
    exact ⟨rfl, H1.out.bel⟩
  have HTB := hid (hy (by omega))
  have HZ := hid (sml_tb HTB.out)
  have HDz := hid (HDs.out HTB.out)
  clear hy HDs
  go_wp2_with fail
  refine (Srs.f6t am n cm y1 ms _ (by omega) y11 HN.out (HM.out.below H1.out.bel) HFM.out HMX.out).mono ?_
  rintro e w2 ⟨z, rfl, z0, hz, hb1⟩
  have H2 := hid (H1.out.below hb1)
  clear hb1 H1
  by_cases g1 : z < 0
  · go_wp2
    go_ret
    exact ⟨rfl, H2.out.bel⟩
  have hbn := hz (by omega)
  clear hz
  obtain ⟨b0, b1, b2, b3, b4⟩ := five H2.out.one
  -- the model's answer
  go_wp2_with fail
  refine (f18 h _ (HR.out.below H2.out.bel) HZ.out).mono ?_
  rintro e w3 ⟨h3, g3, k3, S3, rfl, ho3, hk3, hb3⟩
  have H3 := hid (H2.out.below hb3)
  have HS3 := hid ho3.cq
  have HO3 := hid ho3.has
  clear hb3 ho3 hk3 H2 b0 b1 b2 b3 b4
  go_wp2_with fail
  refine (Pat.f9 am n cm ms _ HN.out hbn (HM.out.below H3.out.bel)).mono ?_
  rintro e w4 ⟨rfl, hm4, hb4⟩
  have H4 := hid (H3.out.below hb4)
  have HO4 := hid (HO3.out.below hb4)
  have HM4 := hid (Pat.HasM.own hm4)
  clear hb4 hm4 H3 HO3
  go_wp2_with fail
  refine (HSp.out h3 _ _ _ HS3.out HZ.out HO4.out HM4.out).mono ?_
  rintro e w5 ⟨hW, rfl, hh5, hb5⟩
  have HSW := hid hh5.out.1
  have HK5 : Hid (Ke w h am ms w5.heap.size hW (w5.alloc (.cells (clB hW) 44))) := by
    have hba := (Below.refl w5.heap.size w5).alloc (Nat.le_refl _) (.cells (clB hW) 44)
    have hb := H4.out.bel.trans ((hb5.trans (hba.mono hb5.size)).mono H4.out.bel.size)
    exact ⟨kept (kept H4.out.one hb5) hba, heap_alloc_new w5 _, HR.out.below hb, HM.out.below hb, hh5.out.2.below hba, hb⟩
  clear hb5 hh5 H4 HO4 HM4 HS3
  -- the program's
  simp only [clB] at HK5
  obtain ⟨b0, b1, b2, b3, b4⟩ := five HK5.out.one
  obtain ⟨W5, hW5⟩ : ∃ W, W = w5.alloc (.cells #[.int .i64 hW.F, .int .i64 hW.T, .int .i64 hW.L, .slice hW.a hW.qs.length hW.c, .slice hW.b hW.ts.length hW.d] 44) := ⟨_, rfl⟩
  go_wp2_with fail
  rw [← hW5] at HK5 ⊢
  clear hW5 b0 b1 b2 b3 b4
  generalize w5.heap.size = BW at *
  have hl5 : w.heap.size < W5.heap.size := lt_at HK5.out.one
  have hlW : BW < W5.heap.size := lt_at HK5.out.two
  refine (f18 h _ HK5.out.arg HZ.out).mono ?_
  rintro e w6 ⟨h6, g6, k6, S6, rfl, ho6, hk6, hb6⟩
  have HB6 := hid hb6
  have HC6 := hid ho6.cq
  have HG6 : Hid (W5.heap.size ≤ g6) := ho6.lo
  have HK6 := hid hk6
  have HY6 : Hid (∀ i, i < h.ts.length → blk (h6.ts.getD i t0).a < w6.heap.size) := fun i hi => (ho6.ot.kin.own i hi).lts
  obtain ⟨W6, hW6⟩ : ∃ X, X = w6.alloc (.cells (clB h6) 44) := ⟨_, rfl⟩
  have HA6 : Hid (Below w6.heap.size w6 W6 ∧ W6.heap[w6.heap.size]? = some (.cells (clB h6) 44) ∧ W6.heap.size = w6.heap.size + 1) := by
    rw [hW6]; exact ⟨(Below.refl _ _).alloc (Nat.le_refl _) _, heap_alloc_new w6 _, by simp⟩
  have HO6 := hid (ho6.below HA6.out.1)
  have HBW := hid (HB6.out.trans (HA6.out.1.mono HB6.out.size))
  clear ho6 hb6 hk6
  have HM6 := hid (HK5.out.mat.below HBW.out)
  go_wp2_with fail
  rw [← hW6]
  refine (Pat.f9 am n cm ms _ HN.out hbn HM6.out).mono ?_
  rintro e w7 ⟨rfl, ho7, hb7⟩
  have HB7 := hid (HBW.out.trans (hb7.mono HBW.out.size))
  have HX7 := hid (kept HA6.out.2.1 hb7)
  have HO7 := hid (HO6.out.below hb7)
  have HP7 := hid ho7
  have HSZ : Hid (W6.heap.size = w6.heap.size + 1 ∧ W5.heap.size ≤ w6.heap.size ∧ W6.heap.size < w7.heap.size) := ⟨HA6.out.2.2, HB6.out.size, (ho7.lt W6.heap.size rfl).2⟩
  clear ho7 hb7 hW6 HA6 HO6 HM6 HBW HB6
  generalize W6.heap.size = gm at *
  generalize w6.heap.size = Y at *
  obtain ⟨c0, c1, c2, c3, c4⟩ := five HX7.out
  go_wp2_with fail
  refine (HIm.out h6 _ _ _ HC6.out HZ.out HO7.out.has (Pat.HasM.own HP7.out)).mono ?_
  rintro e w8a ⟨hG, rfl, hh8, hb8⟩
  obtain ⟨XG, hXG, hAn⟩ := hh8.out.2
  have hba := (Below.refl w8a.heap.size w8a).alloc (Nat.le_refl _) (.cells (clB hG) 44)
  obtain ⟨w8, hw8⟩ : ∃ w8, w8 = w8a.alloc (.cells (clB hG) 44) := ⟨_, rfl⟩
  rw [← hw8] at hba
  have hb8' := hb8.trans (hba.mono hb8.size)
  have HB8 := hid (HB7.out.trans (hb8'.mono HB7.out.size))
  have HX8 := hid (kept HX7.out hb8')
  have HO8 := hid (HO7.out.below hb8')
  have HP8 := hid (own_below HP7.out hb8')
  have HG8 := hid (hAn.below hba)
  have HGb : Hid (w8.heap[w8a.heap.size]? = some (.cells (clB hG) 44)) := by unfold Hid; rw [hw8]; exact heap_alloc_new w8a _
  have HXX : Hid (gm < w7.heap.size ∧ w7.heap.size ≤ XG ∧ w7.heap.size ≤ w8a.heap.size ∧ w8a.heap.size < w8.heap.size) := ⟨HSZ.out.2.2, hXG, hb8.size, by rw [hw8]; simp⟩
  have HSG := hid hh8.out.1
  have HSm := hid (HSG.out.trans HSW.out)
  have HZG : Hid (SmlB hG) := HSG.out.sml HDz.out.1
  have HTG : Hid (1 + mkbb hG ≤ 10000000) := mkbb_le HSG.out HDz.out.2.1 HDz.out.2.2.1 HDz.out.2.2.2
  clear hh8 hb8 hb8' hba hAn hXG HX7 HO7 HP7 HB7 c0 c1 c2 c3 c4
  -- alike
  have HK8 := hid (HK5.out.below HB8.out)
  obtain ⟨d0, d1, d2, d3, d4⟩ := five HGb.out
  obtain ⟨e0, e1, e2, e3, e4⟩ := five HK8.out.two
  go_upto_region 12 with fail
  rw [← hw8]
  clear hw8
  generalize w8a.heap.size = Y8 at *
  go_wp2_with fail
  refine (f20 hG hW _ HSm.out.eF HSm.out.eT HSm.out.eL HSm.out.lq HSm.out.lt HG8.out.has HK8.out.ans HSm.out.sq HSm.out.st HZG.out).mono ?_
  rintro e w9 ⟨rfl, hb9⟩
  have HB9 := hid (HB8.out.trans (hb9.mono HB8.out.size))
  have HX9 := hid (kept HX8.out hb9)
  have HO9 := hid (HO8.out.below hb9)
  have HP9 := hid (own_below HP8.out hb9)
  have HG9 := hid (HG8.out.below hb9)
  have HGb9 := hid (kept HGb.out hb9)
  have HK9 := hid (HK8.out.below hb9)
  clear hb9 HB8 HX8 HO8 HP8 HG8 HGb HK8 d0 d1 d2 d3 d4 e0 e1 e2 e3 e4
  -- the block is as it was
  have HW9 := hid (WT.new HK9.out.one HX9.out (below_drew w9) (x := w9.drew))
  have HRx : Hid (∀ x, Below w9.heap.size w9 x → HasB x h) := fun x hx => HK9.out.arg.below hx
  have HXx : Hid (∀ x, Below w9.heap.size w9 x → HasB x h6) := fun x hx => HO9.out.has.below hx
  have HS6 := hid HC6.out.same
  go_wp2_with fail
  go_region_held3 (fun x => WT w9 w.heap.size Y h h6 x) (first | exact HW9.out | assumption) (first | (go_at_call 18; refine (f18 h _ (HRx.out _ (WT.bel (by assumption))) HZ.out).mono ?_; rintro e w10 ⟨h10, g10, k10, S10, rfl, ho10, _, hb10⟩; have hh10 := ho10.has; have hs10 := HS6.out.trans ho10.same; clear ho10; have hq10 := WT.below (by assumption) hb10; clear hb10) | (go_at_call 20; refine (f20 h6 h10 _ hs10.eF hs10.eT hs10.eL hs10.lq hs10.lt (HXx.out _ (WT.bel (by assumption))) hh10 hs10.sq hs10.st (HS6.out.sml HZ.out)).mono ?_; rintro e w11 ⟨rfl, hb11⟩; have hq11 := WT.below (by assumption) hb11; clear hb11))
  have hb11 := hq11.bel
  have HB11 := hid (HB9.out.trans (hb11.mono HB9.out.size))
  have HX11 := hid (kept HX9.out hb11)
  have HO11 := hid (HO9.out.below hb11)
  have HP11 := hid (own_below HP9.out hb11)
  have HG11 := hid (HG9.out.below hb11)
  have HGb11 := hid (kept HGb9.out hb11)
  have HK11 := hid (HK9.out.below hb11)
  clear hb11 hq11 HW9 HRx HXx HB9 HX9 HO9 HP9 HG9 HGb9 HK9
  -- the matchers are as they were
  go_wp2_with fail
  refine (Pat.f9 am n cm ms _ HN.out hbn HK11.out.mat).mono ?_
  rintro e w12 ⟨rfl, ho12, hb12⟩
  have HB12 := hid (HB11.out.trans (hb12.mono HB11.out.size))
  have HX12 := hid (kept HX11.out hb12)
  have HO12 := hid (HO11.out.below hb12)
  have HP12 := hid (own_below HP11.out hb12)
  have HG12 := hid (HG11.out.below hb12)
  have HGb12 := hid (kept HGb11.out hb12)
  have HQ12 := hid (Pat.HasM.own ho12)
  clear hb12 ho12 HB11 HX11 HO11 HP11 HG11 HGb11 HK11
  go_wp2_with fail
  refine (Pat.f12 _ _ n n n ms _ HN.out hbn (Pat.HasM.own HP12.out) HQ12.out).mono ?_
  rintro e w13 ⟨rfl, hb13⟩
  have HB13 := hid (HB12.out.trans (hb13.mono HB12.out.size))
  have HX13 := hid (kept HX12.out hb13)
  have HO13 := hid (HO12.out.below hb13)
  have HP13 := hid (own_below HP12.out hb13)
  have HG13 := hid (HG12.out.below hb13)
  have HGb13 := hid (kept HGb12.out hb13)
  clear hb13 HB12 HX12 HO12 HP12 HG12 HGb12 HQ12
  obtain ⟨c0, c1, c2, c3, c4⟩ := five HX13.out
  have LY13 : Hid (Y ≤ w13.heap.size) := Nat.le_of_lt (lt_at HX13.out)
  -- what came in is marked
  go_wp2_with fail
  refine (f21 W5.heap.size g6 k6 S6 Y h h6 _ HO13.out HTB.out HK6.out LY13.out HY6.out).mono ?_
  rintro e w14 ⟨kk, rfl, hkb, hf14⟩
  have HB14 := hid (HB13.out.trans (fr_belowD hf14 HG6.out HB13.out.size))
  have HP14 := hid (own_fr HP13.out hf14 (.inr (by have := HSZ.out; omega)))
  have HG14 := hid (HG13.out.fr hf14 (.inl (by have := HSZ.out; have := HXX.out; omega)))
  have HGb14 := hid ((hf14.block Y8 (lt_at HGb13.out) (.inr (by have := HSZ.out; have := HXX.out; omega))).trans HGb13.out)
  clear hf14 c0 c1 c2 c3 c4 HB13 HX13 HO13 HP13 HG13 HGb13
  go_wp2_with fail
  refine (Srs.f14 gm n gm kk _ _ hbn (by omega) HP14.out).mono ?_
  rintro e w15 ⟨rfl, hg15⟩
  have HB15 := hid (HB14.out.trans (grown_belowD hg15 (by have := HSZ.out; omega) HB14.out.size))
  have HG15 := hid (HG14.out.grown hg15 (fun g e => by cases e; exact .inl (by have := HXX.out; omega)))
  have HGb15 := hid ((hg15.block Y8 (lt_at HGb14.out) (fun e => by have := Option.some.inj e; have := HXX.out; omega)).trans HGb14.out)
  clear hg15 HB14 HP14 HG14 HGb14
  obtain ⟨k2, hk2⟩ : ∃ k2 : Nat, k2 = kk + 3 * n := ⟨_, rfl⟩
  rw [← hk2]
  clear hk2
  have hk3 : ¬ (k2 : Int) < 0 := by omega
  have HK15 := hid (HK5.out.below HB15.out)
  obtain ⟨d0, d1, d2, d3, d4⟩ := five HGb15.out
  obtain ⟨e0, e1, e2, e3, e4⟩ := five HK15.out.two
  go_wp2_with fail
  refine (f20 hG hW _ HSm.out.eF HSm.out.eT HSm.out.eL HSm.out.lq HSm.out.lt HG15.out.has HK15.out.ans HSm.out.sq HSm.out.st HZG.out).mono ?_
  rintro e w16 ⟨rfl, hb16⟩
  have HB16 := hid (HB15.out.trans (hb16.mono HB15.out.size))
  have HG16 := hid (HG15.out.below hb16)
  have HGb16 := hid (kept HGb15.out hb16)
  clear hb16 HB15 HG15 HGb15 HK15 d0 d1 d2 d3 d4 e0 e1 e2 e3 e4
  -- what came out is marked, and held
  obtain ⟨d0, d1, d2, d3, d4⟩ := five HGb16.out
  obtain ⟨k4, hk4⟩ : ∃ k4 : Nat, k4 = 1 + mkbb hG := ⟨_, rfl⟩
  have HK4 := hid hk4
  have hk4b : k4 ≤ 10000000 := by rw [hk4]; exact HTG.out
  clear hk4
  have hk5 : ¬ (k4 : Int) < 0 := by omega
  go_wp2_with fail
  refine (f21c XG Y8 1 hG _ HG16.out HZG.out (by have := HTG.out; omega)).mono ?_
  rw [← HK4.out]
  rintro e w17 ⟨rfl, ho17, hf17⟩
  have HB17 := hid (HB16.out.trans (fr_belowD hf17 (by have := HXX.out; have := HSZ.out; omega) HB16.out.size))
  have HG17 := hid ho17
  have HGb17 := hid ((hf17.block Y8 (lt_at HGb16.out) (.inr (Nat.le_refl _))).trans HGb16.out)
  clear ho17 hf17 HB16 HG16 HGb16 d0 d1 d2 d3 d4
  obtain ⟨d0, d1, d2, d3, d4⟩ := five HGb17.out
  have HHd : Hid (∀ z, An XG Y8 (mbb 1 hG) z → Calls Tryz.prog 22 #[agB hG, .int .i64 1] z fun e w' => e = .returned (.int .i64 (k4 : Int)) ∧ Below z.heap.size z w') := by
    intro z hz
    have := f22c XG Y8 1 hG z hz HZG.out (by have := HTG.out; omega)
    rw [← HK4.out] at this
    exact this
  simp only [agB, clB] at HHd
  go_wp2_with fail
  refine (HHd.out _ HG17.out).mono ?_
  rintro e w18 ⟨rfl, hb18⟩
  have HB18 := hid (HB17.out.trans (hb18.mono HB17.out.size))
  have HG18 := hid (HG17.out.below hb18)
  have HGb18 := hid (kept HGb17.out hb18)
  clear hb18 HB17 HG17 HGb17 d0 d1 d2 d3 d4
  -- once more
  have HK18 := hid (HK5.out.below HB18.out)
  obtain ⟨b0, b1, b2, b3, b4⟩ := five HK18.out.one
  go_wp2_with fail
  refine (f18 h _ HK18.out.arg HZ.out).mono ?_
  rintro e w19 ⟨h19, g19, k19, S19, rfl, ho19, _, hb19⟩
  have HB19 := hid (HB18.out.trans (hb19.mono HB18.out.size))
  have HG19 := hid (HG18.out.below hb19)
  have HGb19 := hid (kept HGb18.out hb19)
  have HC19 := hid ho19.cq
  have HO19 := hid ho19.has
  clear hb19 ho19 b0 b1 b2 b3 b4 HB18 HG18 HGb18 HK18
  have HK19 := hid (HK5.out.below HB19.out)
  go_wp2_with fail
  refine (Pat.f9 am n cm ms _ HN.out hbn HK19.out.mat).mono ?_
  rintro e w20 ⟨rfl, ho20, hb20⟩
  have HB20 := hid (HB19.out.trans (hb20.mono HB19.out.size))
  have HG20 := hid (HG19.out.below hb20)
  have HGb20 := hid (kept HGb19.out hb20)
  have HO20 := hid (HO19.out.below hb20)
  have HP20 := hid (Pat.HasM.own ho20)
  clear hb20 ho20 HB19 HG19 HGb19 HO19 HK19
  go_wp2_with fail
  refine (HIm.out h19 _ _ _ HC19.out HZ.out HO20.out HP20.out).mono ?_
  rintro e w21a ⟨hH, rfl, hh21, hb21⟩
  obtain ⟨XH, _, hAnH⟩ := hh21.out.2
  have hba := (Below.refl w21a.heap.size w21a).alloc (Nat.le_refl _) (.cells (clB hH) 44)
  obtain ⟨w21, hw21⟩ : ∃ w21, w21 = w21a.alloc (.cells (clB hH) 44) := ⟨_, rfl⟩
  rw [← hw21] at hba
  have hb21' := hb21.trans (hba.mono hb21.size)
  have HB21 := hid (HB20.out.trans (hb21'.mono HB20.out.size))
  have HG21 := hid (HG20.out.below hb21')
  have HGb21 := hid (kept HGb20.out hb21')
  have HHb : Hid (w21.heap[w21a.heap.size]? = some (.cells (clB hH) 44)) := by unfold Hid; rw [hw21]; exact heap_alloc_new w21a _
  have HHh := hid (hAnH.has.below hba)
  have HSH := hid (hh21.out.1.trans HSW.out)
  have HZH : Hid (SmlB hH) := hh21.out.1.sml HDz.out.1
  clear hh21 hb21 hb21' hba hAnH HB20 HG20 HGb20 HO20 HP20
  have HK21 := hid (HK5.out.below HB21.out)
  obtain ⟨c0, c1, c2, c3, c4⟩ := five HHb.out
  obtain ⟨e0, e1, e2, e3, e4⟩ := five HK21.out.two
  go_upto_region 32 with fail
  rw [← hw21]
  clear hw21
  go_wp2_with fail
  refine (f20 hH hW _ HSH.out.eF HSH.out.eT HSH.out.eL HSH.out.lq HSH.out.lt HHh.out HK21.out.ans HSH.out.sq HSH.out.st HZH.out).mono ?_
  rintro e w22 ⟨rfl, hb22⟩
  have HB22 := hid (HB21.out.trans (hb22.mono HB21.out.size))
  have HG22 := hid (HG21.out.below hb22)
  have HGb22 := hid (kept HGb21.out hb22)
  clear hb22 HB21 HG21 HGb21 HK21 HHh HHb c0 c1 c2 c3 c4 e0 e1 e2 e3 e4
  obtain ⟨d0, d1, d2, d3, d4⟩ := five HGb22.out
  go_wp2_with fail
  refine (HHd.out _ HG22.out).mono ?_
  rintro e w23 ⟨rfl, hb23⟩
  have HB23 := hid (HB22.out.trans (hb23.mono HB22.out.size))
  have HEnd := hid (HK5.out.below HB23.out).bel
  clear hb23 HB22 HG22
  go_wp2
  go_ret
  exact ⟨rfl, HEnd.out⟩
end Go.Proofs.YtkbaaidnkkcpoaaGreat.Blk
