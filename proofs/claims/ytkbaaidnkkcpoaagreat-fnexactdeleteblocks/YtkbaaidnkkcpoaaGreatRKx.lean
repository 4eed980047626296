/- A block with a span deleted: the model's l9Delete. -/
import Derived.Test.YtkbaaidnkkcpoaaGreatRKw
import Derived.Test.YtkbaaidnkkcpoaaGreatRKR
import Derived.Test.YtkbaaidnkkcpoaaGreatRKI
import Derived.Deep.CutRange
namespace Go.Proofs.YtkbaaidnkkcpoaaGreat.Blk
open Go.RowKit
open Go.Proofs.YtkbaaidnkkcpoaaGreat.Lab (Lb HasL cmpList)
open Go.Proofs.YtkbaaidnkkcpoaaGreat.Smp (In64 own_form)
open Go.Proofs.YtkbaaidnkkcpoaaGreat.Srs (hid lt_at kept own_base own_below set_at set_else Q q0 HasQ SmlQ two own_formC OwnL)
open Go.Proofs.YtkbaaidnkkcpoaaGreat.Stn (T t0 HasT SmlT agT three three_frz infoT pl)
open Go.Proofs.YtkbaaidnkkcpoaaGreat.Pat (Mt m0 HasM goodM allM)

theorem own1_same {ts ts' : List T} (h : ts.map pl = ts'.map pl) (l : List Lb) : (own1 ts l).map pl = (own1 ts' l).map pl := by
  have key : ∀ L : List T, (own1 L l).map pl = (L.map pl).filter fun u => decide (cmpList u.1 l = 0) := fun L => by
    rw [List.filter_map]; rfl
  rw [key, key, h]
theorem delQ_same {ms : List Mt} {ts ts' : List T} {f t : Int} {q q' : Q} (h : ts.map pl = ts'.map pl) (hq : q.l = q'.l) : (delQ ms ts f t q).map pl = (delQ ms ts' f t q').map pl := by
  unfold delQ
  rw [hq]
  split
  · exact cov_same (own1_same h _) (by simp [pl])
  · exact own1_same h _
theorem delK_same {ms : List Mt} {qs qs' : List Q} {ts ts' : List T} {f t : Int} (h : ts.map pl = ts'.map pl) (hl : qs'.length = qs.length) (hq : ∀ i, i < qs.length → (qs.getD i q0).l = (qs'.getD i q0).l) : ∀ k, k ≤ qs.length → (delK ms qs ts f t k).map pl = (delK ms qs' ts' f t k).map pl := by
  intro k
  induction k with
  | zero => intro _; simp [delK]
  | succ k ih =>
    intro hk
    rw [delK_succ (by omega), delK_succ (by omega), List.map_append, List.map_append, ih (by omega), delQ_same h (hq k (by omega))]
theorem same_map {ts ts' : List T} (hl : ts'.length = ts.length) (h : Stn.Same ts.length ts ts') : ts.map pl = ts'.map pl := by
  refine List.ext_getElem (by simp [hl]) fun i h1 h2 => ?_
  simp only [List.length_map] at h1 h2
  have := h i h1
  simp only [List.getElem_map]
  rw [List.getD_eq_getElem?_getD, List.getD_eq_getElem?_getD, List.getElem?_eq_getElem h1, List.getElem?_eq_getElem h2] at this
  exact this.symm
theorem map_same {ts ts' : List T} (h : ts.map pl = ts'.map pl) : ts'.length = ts.length ∧ Stn.Same ts.length ts ts' := by
  have hl : ts'.length = ts.length := by have := congrArg List.length h; simpa using this.symm
  refine ⟨hl, fun i hi => ?_⟩
  have e := congrArg (fun L => L[i]?) h
  simp only [List.getElem?_map] at e
  rw [List.getElem?_eq_getElem hi, List.getElem?_eq_getElem (by omega : i < ts'.length)] at e
  simp only [Option.map_some, Option.some.injEq] at e
  rw [List.getD_eq_getElem?_getD, List.getD_eq_getElem?_getD, List.getElem?_eq_getElem hi, List.getElem?_eq_getElem (by omega : i < ts'.length)]
  exact e.symm
theorem SameB.maps {h h' : Bk} (s : SameB h h') : h.ts.map pl = h'.ts.map pl := same_map s.lt s.st
/-- What the model gives is the block with these stones. -/
theorem delB_same {ms : List Mt} {h h' : Bk} (s : SameB h h') {x y : Int} : (delB ms h x y).map pl = (delB ms h' x y).map pl := by
  unfold delB
  rw [s.eF, s.eT, s.lq]
  split
  · exact s.maps
  · exact delK_same s.maps s.lq (fun i hi => (s.lb hi).symm) _ (Nat.le_refl _)
theorem InB.keep {X Y X' : Nat} {h : Bk} {w w' : World} (o : InB X Y h w) (hs : w.heap.size ≤ w'.heap.size) (he : ∀ k, X ≤ k → k < Y → w'.heap[k]? = w.heap[k]?) (hx : X' ≤ X) : InB X' w'.heap.size h w' :=
  ⟨Nat.le_refl _, fun y hy => o.lies y ⟨Nat.le_trans hs hy.size, fun k h1 h2 => (hy.same k (by omega) (by have := o.top; omega)).trans (he k h1 h2)⟩⟩
/-- A row of stones of the call's own; the labels lie with the stones of S, or in rows of their own. -/
structure RowL (S : List T) (X : Nat) (v : Value) (R : List T) (x : World) : Prop where
  row : x.ownsRow X 87 3 v R.length (Stn.flat R)
  lab : ∀ p ∈ R, p ∈ S ∨ (HasL x p.a p.l ∧ ∃ b, p.a = some ⟨b, 0, none⟩ ∧ X ≤ b ∧ b < x.heap.size ∧ v.ownBlock ≠ some b)
theorem RowL.nil (S : List T) (X : Nat) (x : World) : RowL S X (.slice none 0 0) [] x := ⟨World.ownsRow_nil _ _ _ _, fun p hp => by simp at hp⟩
theorem RowL.below {S : List T} {X : Nat} {v : Value} {R : List T} {x y : World} (h : RowL S X v R x) (hb : Below x.heap.size x y) : RowL S X v R y :=
  ⟨own_below h.row hb, fun p hp => by
    rcases h.lab p hp with g | ⟨g, b, g1, g2, g3, g4⟩
    · exact .inl g
    · exact .inr ⟨g.below hb, b, g1, g2, Nat.lt_of_lt_of_le g3 hb.size, g4⟩⟩
theorem hasL_grown {x y : World} {r : Option Nat} {b : Nat} {l : List Lb} (h : HasL x (some ⟨b, 0, none⟩) l) (hg : x.grownBy y r) (hb : b < x.heap.size) (hr : r ≠ some b) : HasL y (some ⟨b, 0, none⟩) l :=
  hasL_agr (X := b) (Y := b + 1) ⟨hg.size, fun k h1 h2 => by obtain rfl : k = b := by omega
                                                             exact hg.block k hb (fun e => hr e.symm)⟩ h (fun _ b' o' e => by cases e; omega)
theorem RowL.push {S : List T} {X : Nat} {v v' : Value} {R L : List T} {x y : World} (h : RowL S X v R x) (hr : y.ownsRow X 87 3 v' (R.length + L.length) (Stn.flat R ++ Stn.flat L)) (hg : x.grownBy y v.ownBlock) (hv : v'.ownBlock = v.ownBlock ∨ v'.ownBlock = some x.heap.size)
    (hl : ∀ p ∈ L, p ∈ S ∨ (HasL x p.a p.l ∧ ∃ b, p.a = some ⟨b, 0, none⟩ ∧ X ≤ b ∧ b < x.heap.size ∧ v.ownBlock ≠ some b)) : RowL S X v' (R ++ L) y := by
  refine ⟨by rw [Stn.flat_append, List.length_append]; exact hr, fun p hp => ?_⟩
  have hp' : p ∈ S ∨ (HasL x p.a p.l ∧ ∃ b, p.a = some ⟨b, 0, none⟩ ∧ X ≤ b ∧ b < x.heap.size ∧ v.ownBlock ≠ some b) := by
    rcases List.mem_append.1 hp with g | g
    · exact h.lab p g
    · exact hl p g
  rcases hp' with g | ⟨g, b, g1, g2, g3, g4⟩
  · exact .inl g
  · refine .inr ⟨by rw [g1] at g ⊢; exact hasL_grown g hg g3 g4, b, g1, g2, Nat.lt_of_lt_of_le g3 hg.size, fun e => ?_⟩
    rcases hv with hv | hv
    · exact g4 (hv ▸ e)
    · rw [hv] at e; have := Option.some.inj e; omega
/-- The row and the labels, in every world that has what lies from X0 on. -/
theorem RowL.agr {S : List T} {X0 X n c : Nat} {a : Option Addr} {R : List T} {x y : World} (h : RowL S X (.slice a n c) R x) (hn : n = R.length) (hx : X0 ≤ X) (hS : ∀ p ∈ S, HasL y p.a p.l) (hy : AgrI X0 x.heap.size x y) : HasT y a R := by
  subst hn
  rcases h.row.2 with ⟨_, h2⟩ | ⟨g, cap, cur, h1, h2, h3, h4, h5, h6, h7⟩
  · exact .inl (List.eq_nil_of_length_eq_zero h2)
  · have e1 : a = some ⟨g, 0, none⟩ := by simp only [Value.slice.injEq] at h1; exact h1.1
    have hg : g < x.heap.size := lt_at h3
    have hr : y.ownsRow X 87 3 (.slice (some ⟨g, 0, none⟩) R.length c) R.length (Stn.flat R) := by
      refine ⟨h.row.1, .inr ⟨g, cap, cur, ?_, h2, ?_, h4, h5, h6, h7⟩⟩
      · rw [← h1, e1]
      · rw [hy.same g (by omega) hg]; exact h3
    rw [e1]
    refine Stn.own_has hr fun i hi => ?_
    have hm : R.getD i t0 ∈ R := by rw [List.getD_eq_getElem?_getD, List.getElem?_eq_getElem hi]; exact List.getElem_mem _
    rcases h.lab _ hm with g' | ⟨g', b, g1, g2, g3, _⟩
    · exact hS _ g'
    · exact hasL_agr hy g' (fun _ b' o' e => by rw [g1] at e; cases e; omega)
theorem own1_take {ts : List T} {l : List Lb} {j : Nat} (hj : j < ts.length) : own1 (ts.take (j + 1)) l = own1 (ts.take j) l ++ (if cmpList (ts.getD j t0).l l = 0 then [ts.getD j t0] else []) := by
  unfold own1
  rw [List.take_succ_eq_append_getElem hj, List.filter_append]
  congr 1
  have e : ts.getD j t0 = ts[j] := by simp [hj]
  rw [e]
  by_cases h : cmpList ts[j].l l = 0
  · rw [if_pos h, List.filter_cons_of_pos (by simpa using h)]; rfl
  · rw [if_neg h, List.filter_cons_of_neg (by simpa using h)]; rfl
theorem own1_takelen (ts : List T) (l : List Lb) (j : Nat) : (own1 (ts.take j) l).length ≤ ts.length := by
  have := own1_len (ts.take j) l
  have h2 : (ts.take j).length ≤ ts.length := by simp; omega
  omega
theorem res_same {ms : List Mt} {h h' : Bk} {x y : Int} (s : SameB h h') {R : List T} {ao : Option Addr} {co : Nat} (e : R.map pl = (delB ms h' x y).map pl) : SameB ⟨h.F, h.T, h.L, h.qs, h.a, h.c, delB ms h x y, none, 0⟩ ⟨h'.F, h'.T, h'.L, h'.qs, h'.a, h'.c, R, ao, co⟩ := by
  obtain ⟨e1, e2⟩ := map_same ((delB_same (ms := ms) s (x := x) (y := y)).trans e.symm)
  exact ⟨s.eF, s.eT, s.eL, s.lq, e1, s.sq, e2⟩
theorem put5_else {x : World} {B k : Nat} {v0 v1 v2 v3 v4 : Value} (hk : k ≠ B) : (put5 x B v0 v1 v2 v3 v4).heap[k]? = x.heap[k]? := by
  unfold put5
  rw [Below.heap_setCell _ _ _ k hk, Below.heap_setCell _ _ _ k hk, Below.heap_setCell _ _ _ k hk, Below.heap_setCell _ _ _ k hk, Below.heap_setCell _ _ _ k hk]
theorem named_neD {ls : List Lb} (h : Srs.Named ls) : ls ≠ [] := by
  rintro rfl
  exact h.2 (.inr ⟨fun k hk => by simp at hk, rfl⟩)
theorem nonempty_of_mem {h : Bk} (g : GoodB h) {p : T} (hp : p ∈ h.ts) : ∃ i, i < h.qs.length ∧ cmpList (lb h.qs i) p.l = 0 := by
  obtain ⟨i, hi, rfl⟩ := List.getElem_of_mem hp
  have h1 := (g.2.2.2.2.1 i hi).1
  rw [List.getD_eq_getElem?_getD, List.getElem?_eq_getElem hi] at h1
  exact h1
set_option maxRecDepth 10000 in
set_option maxHeartbeats 8000000 in
theorem f41 (h : Bk) (am : Option Addr) (cm : Nat) (ms : List Mt) (x y : Int) (w : World) (hr : HasB w h) (hc : Cpb h) (hff : FitB h) (g : GoodB h) (hm : HasM w am ms) (hgm : goodM ms = true) :
    Calls Tryz.prog 41 #[agB h, .slice am ms.length cm, .int .i64 x, .int .i64 y] w fun e w' => ∃ h'', e = .returned (agB h'') ∧ Hid (SameB ⟨h.F, h.T, h.L, h.qs, h.a, h.c, delB ms h x y, none, 0⟩ h'') ∧ Hid (InB w.heap.size w'.heap.size h'' w') ∧ Below w.heap.size w w' := by
  obtain ⟨i0, hi, hz0, hz1, hz2⟩ := info_parts infoT
  have HM := hid hm
  have HC9 := fun z (hz : HasB z h) => hid (f73 h z hz hc)
  have HSml := hid hc.sml
  have HFit := hid hff
  have HGd := hid g
  obtain ⟨h0, hh0⟩ : ∃ h0, h0 = h := ⟨_, rfl⟩
  have HH0 := hid hh0
  obtain ⟨F, TT, LL, qs, a, c, ts, b, d⟩ := h
  obtain ⟨W, hW⟩ : ∃ W, W = (w.alloc (.cells #[.int .i64 F, .int .i64 TT, .int .i64 LL, .slice a qs.length c, .slice b ts.length d] 44)).alloc Z5 := ⟨_, rfl⟩
  have HWb : Hid (Below w.heap.size w W ∧ W.heap[w.heap.size]? = some (.cells #[.int .i64 F, .int .i64 TT, .int .i64 LL, .slice a qs.length c, .slice b ts.length d] 44) ∧ W.heap[w.heap.size + 1]? = some Z5 ∧ W.heap.size = w.heap.size + 1 + 1) := by
    subst hW
    have h2 := heap_alloc_new (w.alloc (.cells #[.int .i64 F, .int .i64 TT, .int .i64 LL, .slice a qs.length c, .slice b ts.length d] 44)) Z5
    simp only [World.size_alloc] at h2
    exact ⟨((Below.refl w.heap.size w).alloc (Nat.le_refl _) _).alloc (by simp) _, (Below.heap_alloc _ _ w.heap.size (by simp)).trans (heap_alloc_new w _), h2, by simp⟩
  have HCW := HC9 W (hr.below HWb.out.1)
  clear hr hm hc hff g hh0 HC9
  simp only [agB, clB] at HCW ⊢
  go_enter Tryz.func41, Tryz.ntmps41
  obtain ⟨b0, b1, b2, b3, b4⟩ := five HWb.out.2.1
  go_wp2_with fail
  rw [← hW]
  clear hW
  refine HCW.out.mono ?_
  rintro e w1 ⟨h', rfl, hs1, hi1, hb1⟩
  have HS1 := hid hs1.out
  have HI1 := hid hi1.out
  have HG' := hid (hs1.out.good HGd.out)
  have HF' := hid (hs1.out.fit HFit.out)
  have HB1 : Hid (Below w.heap.size w w1 ∧ w1.heap[w.heap.size]? = some (.cells #[.int .i64 F, .int .i64 TT, .int .i64 LL, .slice a qs.length c, .slice b ts.length d] 44) ∧ w1.heap[w.heap.size + 1]? = some Z5 ∧ W.heap.size = w.heap.size + 1 + 1 ∧ W.heap.size ≤ w1.heap.size) := ⟨HWb.out.1.trans (hb1.mono HWb.out.1.size), kept HWb.out.2.1 hb1, kept HWb.out.2.2.1 hb1, HWb.out.2.2.2, hb1.size⟩
  clear hs1 hi1 hb1 HWb HCW b0 b1 b2 b3 b4
  obtain ⟨F', TT', LL', qs', a', c', ts', b', d'⟩ := h'
  obtain rfl : F' = F := HS1.out.eF
  obtain rfl : TT' = TT := HS1.out.eT
  obtain rfl : LL' = LL := HS1.out.eL
  dsimp only
  obtain ⟨b0, b1, b2, b3, b4⟩ := five HB1.out.2.1
  have u0 := five_frz (o := 0) HB1.out.2.1
  have u1 := five_frz (o := 1) HB1.out.2.1
  have u2 := five_frz (o := 2) HB1.out.2.1
  have u3 := five_frz (o := 3) HB1.out.2.1
  have u4 := five_frz (o := 4) HB1.out.2.1
  obtain ⟨w2, hw2⟩ : ∃ w2, w2 = put5 w1 w.heap.size (.int .i64 F') (.int .i64 TT') (.int .i64 LL') (.slice a' qs'.length c') (.slice b' ts'.length d') := ⟨_, rfl⟩
  have H2 : Hid (Below w.heap.size w w2 ∧ w2.heap[w.heap.size]? = some (.cells #[.int .i64 F', .int .i64 TT', .int .i64 LL', .slice a' qs'.length c', .slice b' ts'.length d'] 44) ∧ w2.heap[w.heap.size + 1]? = some Z5 ∧ InB W.heap.size w2.heap.size ⟨F', TT', LL', qs', a', c', ts', b', d'⟩ w2 ∧ w.heap.size + 2 ≤ W.heap.size ∧ W.heap.size ≤ w2.heap.size) := by
    rw [hw2]
    have e4 := HB1.out.2.2.2.1
    refine ⟨put5_below HB1.out.1 (Nat.le_refl _), put5_at HB1.out.2.1, ?_, ?_, by omega, by rw [put5_size]; exact HB1.out.2.2.2.2⟩
    · exact set_else (set_else (set_else (set_else (set_else HB1.out.2.2.1 (by simp)) (by simp)) (by simp)) (by simp)) (by simp)
    · refine HI1.out.keep (by rw [put5_size]; exact Nat.le_refl _) (fun k h1 h2 => ?_) (Nat.le_refl _)
      have hk : k ≠ w.heap.size := by omega
      unfold put5
      rw [Below.heap_setCell _ _ _ k hk, Below.heap_setCell _ _ _ k hk, Below.heap_setCell _ _ _ k hk, Below.heap_setCell _ _ _ k hk, Below.heap_setCell _ _ _ k hk]
  rw [put5] at hw2
  obtain ⟨f, hf⟩ : ∃ f, f = max x F' := ⟨_, rfl⟩
  obtain ⟨t, ht⟩ : ∃ t, t = min y (TT' - 1) := ⟨_, rfl⟩
  have HF := hid hf
  have HT := hid ht
  have HDB : Hid (delB ms ⟨F', TT', LL', qs', a', c', ts', b', d'⟩ x y = if f > t then ts' else delK ms qs' ts' f t qs'.length) := by rw [hf, ht]; rfl
  have hh := HG'.out.1
  unfold Head at hh
  obtain ⟨⟨q1, q2⟩, q3, q4, _, _⟩ := hh
  simp only at q1 q2 q3 q4
  have HFT : Hid (¬ f > t → Tm f ∧ Tm t) := fun h => by unfold Tm; omega
  clear hf ht
  go_upto_if 20 with fail
  rw [← hw2]
  clear hw2 b0 b1 b2 b3 b4 u0 u1 u2 u3 u4 HB1 HI1
  obtain ⟨b0, b1, b2, b3, b4⟩ := five H2.out.2.1
  go_cut [2] from 17 to 23 (fun s2 wx => s2 = .int .i64 f ∧ Hid (w2 = wx))
  case first =>
    by_cases h1 : x < F'
    · go_wp2
      go_meet
      exact ⟨by rw [HF.out, show max x F' = F' by omega], rfl⟩
    · go_wp2
      go_meet
      exact ⟨by rw [HF.out, show max x F' = x by omega], rfl⟩
  case rest =>
  obtain ⟨rfl, hw⟩ := hcut
  have hw := hw.out
  subst hw
  go_upto_if 26 with fail
  go_cut [3] from 23 to 30 (fun s3 wx => s3 = .int .i64 t ∧ Hid (w2 = wx))
  case first =>
    by_cases h1 : y ≥ TT'
    · go_wp2
      go_meet
      exact ⟨by rw [HT.out, show min y (TT' - 1) = TT' - 1 by omega], rfl⟩
    · go_wp2
      go_meet
      exact ⟨by rw [HT.out, show min y (TT' - 1) = y by omega], rfl⟩
  case rest =>
  obtain ⟨rfl, hw⟩ := hcut
  have hw := hw.out
  subst hw
  clear HF HT
  by_cases hgt : f > t
  · have HE : Hid (delB ms ⟨F', TT', LL', qs', a', c', ts', b', d'⟩ x y = ts') := by unfold Hid; rw [HDB.out, if_pos hgt]
    obtain ⟨e0, e1, e2, e3, e4⟩ := five H2.out.2.2.1
    have u0 := five_frz (o := 0) H2.out.2.2.1
    have u1 := five_frz (o := 1) H2.out.2.2.1
    have u2 := five_frz (o := 2) H2.out.2.2.1
    have u3 := five_frz (o := 3) H2.out.2.2.1
    have u4 := five_frz (o := 4) H2.out.2.2.1
    have HP : Hid ((put5 w2 (w.heap.size + 1) (.int .i64 F') (.int .i64 TT') (.int .i64 LL') (.slice a' qs'.length c') (.slice b' ts'.length d')).heap[w.heap.size + 1]? = some (.cells #[.int .i64 F', .int .i64 TT', .int .i64 LL', .slice a' qs'.length c', .slice b' ts'.length d'] 44) ∧ Below w.heap.size w (put5 w2 (w.heap.size + 1) (.int .i64 F') (.int .i64 TT') (.int .i64 LL') (.slice a' qs'.length c') (.slice b' ts'.length d')) ∧ InB w.heap.size (put5 w2 (w.heap.size + 1) (.int .i64 F') (.int .i64 TT') (.int .i64 LL') (.slice a' qs'.length c') (.slice b' ts'.length d')).heap.size ⟨F', TT', LL', qs', a', c', ts', b', d'⟩ (put5 w2 (w.heap.size + 1) (.int .i64 F') (.int .i64 TT') (.int .i64 LL') (.slice a' qs'.length c') (.slice b' ts'.length d'))) :=
      ⟨put5_at H2.out.2.2.1, put5_below H2.out.1 (Nat.le_succ _), H2.out.2.2.2.1.keep (by rw [put5_size]; exact Nat.le_refl _) (fun k h1 _ => put5_else (by have := H2.out.2.2.2.2.1; omega)) (by have := H2.out.2.2.2.2.1; omega)⟩
    rw [put5] at HP
    have HSR := hid (res_same (ms := ms) (x := x) (y := y) HS1.out (R := ts') (ao := b') (co := d') (by rw [HE.out]))
    go_wp2
    generalize hwf : World.setCell _ _ _ = wf
    rw [hwf] at HP
    clear hwf
    refine bodyPost_ret (v := .agg #[.int .i64 F', .int .i64 TT', .int .i64 LL', .slice a' qs'.length c', .slice b' ts'.length d']) ?_ rfl ⟨⟨F', TT', LL', qs', a', c', ts', b', d'⟩, rfl, HSR.out, HP.out.2.2, HP.out.2.1⟩
    obtain ⟨y0, y1, y2, y3, y4⟩ := five HP.out.1
    simp [results, Tryz.results41, go_sem, y0, y1, y2, y3, y4]
  have HE : Hid (delB ms ⟨F', TT', LL', qs', a', c', ts', b', d'⟩ x y = delK ms qs' ts' f t qs'.length) := by unfold Hid; rw [HDB.out, if_neg hgt]
  obtain ⟨tf, tt⟩ := HFT.out hgt
  have HTf := hid tf
  have HTt := hid tt
  have HTm := hid (stone_tm HG'.out)
  have h200 : qs'.length ≤ 200 := HG'.out.2.1.1
  have h100 : ts'.length ≤ 100 := HG'.out.2.2.2.1
  simp only at HTm
  clear tf tt HFT HDB
  go_wp2
  go_loopw [9, 37] (fun so si wr => ∃ (k : Nat) (v : Value) (R : List T), k ≤ qs'.length ∧ si = .int .i64 k ∧ so = v ∧ Hid (RowL ts' w2.heap.size v R wr) ∧ Hid (R.map pl = (delK ms qs' ts' f t k).map pl) ∧ Hid (Below w2.heap.size w2 wr)) (fun _ si _ => qs'.length - (intOf si).toNat)
  case atStart => exact ⟨0, _, [], Nat.zero_le _, rfl, rfl, RowL.nil _ _ _, rfl, Below.refl _ _⟩
  case round =>
    clear b0 b1 b2 b3 b4
    obtain ⟨k, v, R, hk, rfl, rfl, HO, HR, HX⟩ := hrel
    have HXw : Hid (Below w.heap.size w wr) := H2.out.1.trans (HX.out.mono H2.out.1.size)
    have HBx := hid (kept H2.out.2.1 HX.out)
    have HBz := hid (kept H2.out.2.2.1 HX.out)
    have hsz : w.heap.size + 1 < w2.heap.size := lt_at H2.out.2.2.1
    obtain ⟨ao, co, rfl⟩ := own_form HO.out.row
    by_cases hlt : k < qs'.length
    rotate_left
    · obtain rfl : k = qs'.length := by omega
      have i1 : ¬ (qs'.length : Int) < (qs'.length : Int) := by omega
      have HSR := hid (res_same (ms := ms) (x := x) (y := y) HS1.out (R := R) (ao := ao) (co := co) (by rw [HE.out]; exact HR.out))
      obtain ⟨b0, b1, b2, b3, b4⟩ := five HBx.out
      have fz := five_frz (o := 4) HBx.out
      obtain ⟨e0, e1, e2, e3, e4⟩ := five HBz.out
      have u0 := five_frz (o := 0) HBz.out
      have u1 := five_frz (o := 1) HBz.out
      have u2 := five_frz (o := 2) HBz.out
      have u3 := five_frz (o := 3) HBz.out
      have u4 := five_frz (o := 4) HBz.out
      obtain ⟨wf, hwf⟩ : ∃ wf, wf = put5 (wr.setCell ⟨w.heap.size, 4, none⟩ (.slice ao R.length co)) (w.heap.size + 1) (.int .i64 F') (.int .i64 TT') (.int .i64 LL') (.slice a' qs'.length c') (.slice ao R.length co) := ⟨_, rfl⟩
      have HP : Hid (wf.heap[w.heap.size + 1]? = some (.cells #[.int .i64 F', .int .i64 TT', .int .i64 LL', .slice a' qs'.length c', .slice ao R.length co] 44) ∧ Below w.heap.size w wf ∧ InB w.heap.size wf.heap.size ⟨F', TT', LL', qs', a', c', R, ao, co⟩ wf) := by
        have z := set_else (p := ⟨w.heap.size, 4, none⟩) (v := .slice ao R.length co) HBz.out (by simp)
        have hsz2 : wf.heap.size = wr.heap.size := by rw [hwf, put5_size]; simp
        have hsm : ∀ j, W.heap.size ≤ j → wf.heap[j]? = wr.heap[j]? := fun j hj => by
          have := H2.out.2.2.2.2.1
          rw [hwf, put5_else (by omega), Below.heap_setCell _ _ _ j (by simp only; omega)]
        have hrow : RowL ts' w2.heap.size (.slice ao R.length co) R wf := by
          refine ⟨by rw [hwf]; exact put5_row (own_setX HO.out.row (by simp only; omega) _) (by omega), fun p hp => ?_⟩
          rcases HO.out.lab p hp with g | ⟨g, bq, g1, g2, g3, g4⟩
          · exact .inl g
          · refine .inr ⟨?_, bq, g1, g2, by omega, g4⟩
            rw [g1] at g ⊢
            have hb1 : ∀ k', bq ≤ k' → k' < bq + 1 → wf.heap[k']? = wr.heap[k']? := by
              intro k' h1 h2
              exact hsm k' (by have := H2.out.2.2.2.2.2; omega)
            exact hasL_agr (X := bq) (Y := bq + 1) ⟨by omega, hb1⟩ g (fun _ b' o' e => by cases e; omega)
        refine ⟨by rw [hwf]; exact put5_at z, by rw [hwf]; exact put5_below (HXw.out.setCell (p := ⟨w.heap.size, 4, none⟩) (Nat.le_refl _) _) (Nat.le_succ _), ⟨Nat.le_refl _, fun y' hy => ?_⟩⟩
        have hin : InB w.heap.size wf.heap.size ⟨F', TT', LL', qs', a', c', ts', b', d'⟩ wf := H2.out.2.2.2.1.keep (by rw [hsz2]; exact HX.out.size) (fun j h1 h2 => (hsm j h1).trans (HX.out.block j h2)) (by have := H2.out.2.2.2.2.1; omega)
        have hb := hin.lies y' hy
        exact ⟨hb.1, hrow.agr rfl (by omega) (fun p hp => hasT_mem hb.2 hp) hy⟩
      rw [put5] at hwf
      have HWf := hid hwf
      clear HO HX HXw HBx HBz hwf
      go_wp2
      rw [← HWf.out]
      clear HWf
      refine bodyPost_ret (v := .agg #[.int .i64 F', .int .i64 TT', .int .i64 LL', .slice a' qs'.length c', .slice ao R.length co]) ?_ rfl ⟨⟨F', TT', LL', qs', a', c', R, ao, co⟩, rfl, HSR.out, HP.out.2.2, HP.out.2.1⟩
      obtain ⟨y0, y1, y2, y3, y4⟩ := five HP.out.1
      simp [results, Tryz.results41, go_sem, y0, y1, y2, y3, y4]
    have HHb : Hid (HasB wr ⟨F', TT', LL', qs', a', c', ts', b', d'⟩) := H2.out.2.2.2.1.has.below HX.out
    obtain ⟨bb, off, hbb, hbl, c0, c1, t1, t2⟩ := HHb.out.1.at2 k hlt
    simp only at hbb c0 c1 t1 t2
    subst hbb
    have HQ := hid (HG'.out.2.1.2 k hlt).1
    have HDk := hid (delK_succ (ms := ms) (ts := ts') (f := f) (t := t) hlt)
    have hle : R.length ≤ 101 * k := by
      have h1 := delK_len (ms := ms) (qs := qs') HTf.out HTt.out HTm.out h100 k (by omega)
      have h2 := congrArg List.length HR.out
      simp only [List.length_map] at h2
      omega
    have i1 : (k : Int) < (qs'.length : Int) := by omega
    generalize qs'.getD k q0 = q at *
    have HGp := hid (Srs.good_goodP HQ.out.1.1)
    have HNe := hid (named_neD HQ.out.1)
    simp only [Srs.pl] at HGp HNe
    have hll : q.l.length ≤ 20 := HGp.out.1
    have hlp : 0 < q.l.length := List.length_pos_iff.2 HNe.out
    obtain ⟨bl, ol, hql⟩ : ∃ b o, q.a = some ⟨b, o, none⟩ := by
      rcases t1 with h | ⟨b, o, h, _⟩
      · exact absurd h HNe.out
      · exact ⟨b, o, h⟩
    have HQl := hid hql
    have hba := (Below.refl wr.heap.size wr).alloc (Nat.le_refl _) (.cells #[.slice q.a q.l.length q.c, .slice q.b q.s.length q.d] 81)
    have HSx := hid (heap_alloc_new wr (.cells #[.slice q.a q.l.length q.c, .slice q.b q.s.length q.d] 81))
    have HT1 := hid (t1.below hba)
    have HX1 : Hid (Below w2.heap.size w2 (wr.alloc (.cells #[.slice q.a q.l.length q.c, .slice q.b q.s.length q.d] 81))) := HX.out.trans (hba.mono HX.out.size)
    have HO1 := hid (HO.out.below hba)
    have HBx1 := hid (kept HBx.out hba)
    have HOlt : Hid (∀ g, (Value.slice ao R.length co).ownBlock = some g → g < wr.heap.size) := fun g hg => (HO.out.row.lt g hg).2
    have hXr : w2.heap.size ≤ wr.heap.size := HX.out.size
    have hrW : wr.heap.size ≤ (wr.alloc (.cells #[.slice q.a q.l.length q.c, .slice q.b q.s.length q.d] 81)).heap.size := hba.size
    obtain ⟨b0, b1, b2, b3, b4⟩ := five HBx1.out
    clear t1 t2 hbl hba HQ HHb HBx HBz HXw HX HO hql
    obtain ⟨W3, hW3⟩ : ∃ W, W = wr.alloc (.cells #[.slice q.a q.l.length q.c, .slice q.b q.s.length q.d] 81) := ⟨_, rfl⟩
    go_wp2
    rw [← hW3] at HSx HT1 HX1 HO1 HBx1 hrW
    rw [← hW3]
    clear hW3 b0 b1 b2 b3 b4 c0 c1
    generalize wr.heap.size = Bq at *
    go_loopw [12, 44] (fun so si wx => ∃ (j : Nat) (v : Value), j ≤ ts'.length ∧ si = .int .i64 j ∧ so = v ∧ Hid (RowO w2 W3.heap.size v (own1 (ts'.take j) q.l) wx) ∧ Hid (Below W3.heap.size W3 wx)) (fun _ si _ => ts'.length - (intOf si).toNat)
    case atStart => exact ⟨0, _, Nat.zero_le _, rfl, rfl, RowO.nil _ _ _, Below.refl _ _⟩
    case round =>
      obtain ⟨j, v, hj, rfl, rfl, HI, HY⟩ := hrel
      obtain ⟨ai, ci, rfl⟩ := HI.out.form
      have HX2 : Hid (Below w2.heap.size w2 wr) := HX1.out.trans (HY.out.mono HX1.out.size)
      have HS2 := hid (kept HSx.out HY.out)
      have HTq := hid (HT1.out.below HY.out)
      have hoj := own1_takelen ts' q.l j
      by_cases hjt : j < ts'.length
      · have j1 : (j : Int) < (ts'.length : Int) := by omega
        have HHb : Hid (HasT wr b' ts') := H2.out.2.2.2.1.has.2.below HX2.out
        obtain ⟨bs, os, hbs, hbsl, ⟨c0, c1, c2⟩, t1⟩ := HHb.out.at2 j hjt
        subst hbs
        have HTk := hid (own1_take (l := q.l) hjt)
        have HFp := hid (HF'.out.2.2.2.2.2.1 j)
        have HLp : Hid (HasL w2 (ts'.getD j t0).a (ts'.getD j t0).l) := by
          obtain ⟨_, _, _, _, _, g1⟩ := H2.out.2.2.2.1.has.2.at2 j hjt
          exact g1
        have hpm : ts'.getD j t0 ∈ ts' := by rw [List.getD_eq_getElem?_getD, List.getElem?_eq_getElem hjt]; exact List.getElem_mem _
        have HPl : Hid ((ts'.getD j t0).l.length ≤ 20) := by
          obtain ⟨i, hi1, hi2⟩ := nonempty_of_mem HG'.out (p := ts'.getD j t0) hpm
          have e := lst_zero hi2
          have hq := Srs.good_goodP (HG'.out.2.1.2 i hi1).1.1.1
          rw [← e]
          exact hq.1
        clear hpm
        generalize ts'.getD j t0 = p at *
        have hba := (Below.refl wr.heap.size wr).alloc (Nat.le_refl _) (boxT p)
        have HPb := hid (heap_alloc_new wr (boxT p))
        have HTp := hid (t1.below hba)
        have HTq1 := hid (HTq.out.below hba)
        have HS3 := hid (kept HS2.out hba)
        have HI1 := hid (HI.out.below hba)
        have HY1 : Hid (Below W3.heap.size W3 (wr.alloc (boxT p))) := HY.out.trans (hba.mono HY.out.size)
        obtain ⟨d0, d1, d2⟩ := three HPb.out
        obtain ⟨s0, s1⟩ := two HS3.out
        clear t1 hbsl hba HHb HTq HS2 HI HY HX2
        go_wp2_with fail
        obtain ⟨W4, hW4⟩ : ∃ W, W = wr.alloc (boxT p) := ⟨_, rfl⟩
        rw [← hW4] at HPb HTp HTq1 HS3 HI1 HY1
        rw [← hW4]
        clear hW4 d0 d1 d2 s0 s1 c0 c1 c2
        refine (Lab.f72 p.a q.a p.l.length q.l.length p.c q.c p.l q.l _ rfl rfl (by have := HPl.out; omega) (by omega) HTp.out HTq1.out HFp.out.1).mono ?_
        rintro e w5 ⟨rfl, nd, hw5⟩
        have hb5 : Below W4.heap.size W4 w5 := by rw [hw5]; exact Ino.below_drewN (Below.refl _ _) _
        clear hw5
        have HI5 := hid (HI1.out.below hb5)
        have HY5 : Hid (Below W3.heap.size W3 w5) := HY1.out.trans (hb5.mono HY1.out.size)
        have HPb5 := hid (kept HPb.out hb5)
        clear hb5 HPb HTp HTq1 HS3 HI1 HY1
        by_cases hz : cmpList p.l q.l = 0
        · have HTk2 : Hid (own1 (ts'.take (j + 1)) q.l = own1 (ts'.take j) q.l ++ [p]) := by unfold Hid; rw [HTk.out, if_pos hz]
          have g1 : (cmpList p.l q.l == 0) = true := by rw [hz]; rfl
          clear hz HTk
          generalize cmpList p.l q.l = z at *
          generalize hO : own1 (ts'.take j) q.l = O at *
          obtain ⟨d0, d1, d2⟩ := three HPb5.out
          have hba := (Below.refl w5.heap.size w5).alloc (Nat.le_refl _) (boxT p)
          have HI6 := hid (HI5.out.below hba)
          have HY6 : Hid (Below W3.heap.size W3 (w5.alloc (boxT p))) := HY5.out.trans (hba.mono HY5.out.size)
          have HCl := hid (cells_new w5 p)
          have HC1' := hid (cl_one p)
          clear hba
          go_wp2_with (at_builtin; refine wpList_append_own _ rfl (.tmp 54) (.tmp 56) 42 rfl W3.heap.size 87 i0 (.agg #[.slice none 0 0, .int .i64 0, .int .i64 0]) 3 40 Tryz.underlying42 hi hz0 hz1 hz2 rfl (by decide) _ _ _ rfl HI6.out.row ⟨w5.heap.size, 0, none⟩ 1 1 (Stn.cl p) rfl rfl HCl.out HC1'.out ?d3 ?d4 ?d5 ?_)
          case d3 => unfold maxLen; omega
          case d4 => omega
          case d5 => first | exact HY6.out.size | (have := HY5.out.size; omega)
          intro v7 w7 hown7 hgr7 _
          have HI7 : Hid (RowO w2 W3.heap.size v7 (own1 (ts'.take (j + 1)) q.l) w7) := by
            unfold Hid
            rw [HTk2.out]
            refine HI6.out.push ?_ (fun p' hp' => by rw [List.mem_singleton.1 hp']; exact HLp.out)
            rw [show Stn.flat [p] = Stn.cl p by simp [Stn.flat]]
            exact hown7
          have HY7 := hid (HY6.out.grown hgr7 HY6.out.size (fun i hi => (HI6.out.row.lt i hi).1))
          clear hown7 hgr7
          go_wp2
          go_roundw
          case rel => exact ⟨j + 1, _, by omega, by go_num, rfl, HI7, HY7⟩
          case measure => simp [intOf]; omega
        · have HTk2 : Hid (own1 (ts'.take (j + 1)) q.l = own1 (ts'.take j) q.l) := by unfold Hid; rw [HTk.out, if_neg hz, List.append_nil]
          have g1 : (cmpList p.l q.l == 0) = false := by rw [beq_eq_false_iff_ne]; exact hz
          clear hz HTk
          generalize cmpList p.l q.l = z at *
          go_wp2
          go_roundw
          case rel => exact ⟨j + 1, _, by omega, by go_num, rfl, by rw [HTk2.out]; exact HI5, HY5⟩
          case measure => simp [intOf]; omega
      · obtain rfl : j = ts'.length := by omega
        have j1 : ¬ (ts'.length : Int) < (ts'.length : Int) := by omega
        have hol := own1_len ts' q.l
        have HIe : Hid (RowO w2 W3.heap.size (.slice ai (own1 ts' q.l).length ci) (own1 ts' q.l) wr) := by have h := HI.out; rw [List.take_length] at h; exact h
        have HMr : Hid (HasM wr am ms) := HM.out.below (H2.out.1.trans (HX2.out.mono H2.out.1.size))
        have HO2 := hid (HO1.out.below HY.out)
        obtain ⟨s0, s1⟩ := two HS2.out
        clear HI hoj
        go_wp2_with fail
        refine (Pat.f74 am q.a ms.length cm q.l.length q.c ms q.l (val q.l) _ rfl rfl HMr.out HTq.out hgm HGp.out (val_of q.l)).mono ?_
        rintro e w5 ⟨rfl, hb5⟩
        have HX5 : Hid (Below w2.heap.size w2 w5) := HX2.out.trans (hb5.mono HX2.out.size)
        have HS5 := hid (kept HS2.out hb5)
        have HT5 := hid (HTq.out.below hb5)
        have HO5 := hid (HO2.out.below hb5)
        have HI5 := hid (HIe.out.below hb5)
        have hW5 : Bq ≤ w5.heap.size := by have := HY.out.size; have := hb5.size; omega
        clear hb5 HX2 HS2 HTq HO2 HIe HMr HY s0 s1
        cases hal : allM ms (val q.l)
        · have HDq : Hid ((own1 ts' q.l).map pl = (delQ ms ts' f t q).map pl) := by unfold Hid delQ; rw [hal]; rfl
          have HSrc := hid (Src.own HI5.out.row)
          have HLab : Hid (∀ p ∈ own1 ts' q.l, p ∈ ts' ∨ (HasL w5 p.a p.l ∧ ∃ b, p.a = some ⟨b, 0, none⟩ ∧ w2.heap.size ≤ b ∧ b < w5.heap.size ∧ (Value.slice ao R.length co).ownBlock ≠ some b)) := fun p hp => .inl (own1_mem hp).1
          clear HI5
          generalize own1 ts' q.l = O at *
          generalize hv : Value.slice ai O.length ci = v2 at *
          clear hv
          rcases HSrc.out with ⟨rfl, hL0⟩ | ⟨ad, cc, rfl, hcs⟩
          · have HK : Hid (R.map pl = (delK ms qs' ts' f t (k + 1)).map pl) := by unfold Hid; rw [HDk.out, List.map_append, ← HDq.out, hL0, ← HR.out]; simp
            go_wp2_with (at_builtin; refine wpList_append_own_none rfl (.tmp 71) (.tmp 72) 42 rfl w2.heap.size 87 i0 3 Tryz.underlying42 hi _ _ _ rfl HO5.out.row rfl ?_)
            go_roundw
            case rel => exact ⟨k + 1, _, R, by omega, by go_num, rfl, HO5, HK, HX5⟩
            case measure => simp [intOf]; omega
          · have HCS := hid hcs
            have HOC := hid (flatT_oneCell (O))
            have HFL := hid (Stn.flat_len (O))
            clear hcs
            go_wp2_with (at_builtin; refine wpList_append_own_at _ rfl (.tmp 71) (.tmp 72) 42 rfl w2.heap.size 87 i0 (.agg #[.slice none 0 0, .int .i64 0, .int .i64 0]) 3 40 Tryz.underlying42 hi hz0 hz1 hz2 rfl (by decide) _ _ _ rfl HO5.out.row ad (O).length cc (Stn.flat (O)) rfl HFL.out HCS.out HOC.out ?d3 ?d4 ?d5 ?_)
            case d3 => unfold maxLen; omega
            case d4 => omega
            case d5 => exact HX5.out.size
            intro v7 w7 hown7 hgr7 _ hat7
            have HO7 : Hid (RowL ts' w2.heap.size v7 (R ++ O) w7) := HO5.out.push hown7 hgr7 hat7 HLab.out
            have HK : Hid ((R ++ O).map pl = (delK ms qs' ts' f t (k + 1)).map pl) := by unfold Hid; rw [HDk.out, List.map_append, List.map_append, ← HDq.out, HR.out]
            have HX7 := hid (HX5.out.grown hgr7 HX5.out.size (fun j hj => (HO5.out.row.lt j hj).1))
            clear hown7 hgr7 hat7
            go_wp2
            go_roundw
            case rel => exact ⟨k + 1, _, _, by omega, by go_num, rfl, HO7, HK, HX7⟩
            case measure => simp [intOf]; omega
        · obtain ⟨s0, s1⟩ := two HS5.out
          have HC3 : Hid (Calls Tryz.prog 76 #[.slice q.a q.l.length q.c] w5 fun e w' => ∃ v', e = .returned v' ∧ OwnL w' w5.heap.size v' q.l ∧ Below w5.heap.size w5 w') := by
            have h := HT5.out
            rw [HQl.out] at h ⊢
            exact Srs.f76 bl ol q.c q.l w5 (by omega) h
          go_wp2_with fail
          refine HC3.out.mono ?_
          rintro e w6 ⟨v6, rfl, ho6, hb6⟩
          obtain ⟨ga, ca, rfl⟩ := own_formC ho6 hlp
          have HL6 : Hid (HasL w6 (some ⟨ga, 0, none⟩) q.l ∧ w5.heap.size ≤ ga ∧ ga < w6.heap.size) := ⟨Lab.HasL.own ho6, (ho6.lt ga rfl).1, (ho6.lt ga rfl).2⟩
          have HX6 : Hid (Below w2.heap.size w2 w6) := HX5.out.trans (hb6.mono HX5.out.size)
          have HO6 := hid (HO5.out.below hb6)
          have HI6 := hid (HI5.out.below hb6)
          clear ho6 hb6 HC3 HX5 HO5 HI5 HS5 HT5 s0 s1
          have HT6 : Hid (HasT w6 ai (own1 ts' q.l)) := HI6.out.has HX6.out
          have HTm2 : Hid (∀ p ∈ own1 ts' q.l, Tm p.f ∧ Tm p.t) := fun p hp => HTm.out p (own1_mem hp).1
          have HCv := hid (f75 ai ci (own1 ts' q.l) ⟨q.l, some ⟨ga, 0, none⟩, ca, f, t⟩ w6 (by omega) HT6.out HL6.out.1 HTm2.out HTf.out HTt.out)
          have HDq : Hid ((cov (own1 ts' q.l) ⟨q.l, some ⟨ga, 0, none⟩, ca, f, t⟩).map pl = (delQ ms ts' f t q).map pl) := by unfold Hid delQ; rw [if_pos hal]; exact cov_same rfl rfl
          have hcl : (cov (own1 ts' q.l) ⟨q.l, some ⟨ga, 0, none⟩, ca, f, t⟩).length ≤ 101 := by have := cov_len (q := ⟨q.l, some ⟨ga, 0, none⟩, ca, f, t⟩) HTf.out HTt.out HTm2.out; omega
          have HMe : Hid (∀ p ∈ cov (own1 ts' q.l) ⟨q.l, some ⟨ga, 0, none⟩, ca, f, t⟩, p ∈ ts' ∨ (p.l = q.l ∧ p.a = some ⟨ga, 0, none⟩)) := fun p hp => by
            rcases cov_mem (q := ⟨q.l, some ⟨ga, 0, none⟩, ca, f, t⟩) HTf.out HTt.out HTm2.out hp with h | h
            · exact .inl (own1_mem h).1
            · exact .inr h
          simp only [agT] at HCv
          clear HT6 HTm2
          go_wp2_with fail
          refine HCv.out.mono ?_
          rintro e w7c ⟨v7c, rfl, hr7, hb7⟩
          have HX7c : Hid (Below w2.heap.size w2 w7c) := HX6.out.trans (hb7.mono HX6.out.size)
          have HO7c := hid (HO6.out.below hb7)
          have HSrc := hid (Src.own hr7.out.row)
          have HLab : Hid (∀ p ∈ cov (own1 ts' q.l) ⟨q.l, some ⟨ga, 0, none⟩, ca, f, t⟩, p ∈ ts' ∨ (HasL w7c p.a p.l ∧ ∃ b, p.a = some ⟨b, 0, none⟩ ∧ w2.heap.size ≤ b ∧ b < w7c.heap.size ∧ (Value.slice ao R.length co).ownBlock ≠ some b)) := fun p hp => by
            rcases HMe.out p hp with h | ⟨h1, h2⟩
            · exact .inl h
            · have h6 := HL6.out
              refine .inr ⟨by rw [h1, h2]; exact h6.1.below hb7, ga, h2, by omega, Nat.lt_of_lt_of_le h6.2.2 hb7.size, fun e => ?_⟩
              have := HOlt.out ga e
              omega
          clear hr7 hb7 HX6 HO6 HI6 HCv HMe HL6
          generalize cov (own1 ts' q.l) ⟨q.l, some ⟨ga, 0, none⟩, ca, f, t⟩ = C at *
          rcases HSrc.out with ⟨rfl, hL0⟩ | ⟨ad, cc, rfl, hcs⟩
          · have HK : Hid (R.map pl = (delK ms qs' ts' f t (k + 1)).map pl) := by unfold Hid; rw [HDk.out, List.map_append, ← HDq.out, hL0, ← HR.out]; simp
            go_wp2_with (at_builtin; refine wpList_append_own_none rfl (.tmp 71) (.tmp 72) 42 rfl w2.heap.size 87 i0 3 Tryz.underlying42 hi _ _ _ rfl HO7c.out.row rfl ?_)
            go_roundw
            case rel => exact ⟨k + 1, _, R, by omega, by go_num, rfl, HO7c, HK, HX7c⟩
            case measure => simp [intOf]; omega
          · have HCS := hid hcs
            have HOC := hid (flatT_oneCell (C))
            have HFL := hid (Stn.flat_len (C))
            clear hcs
            go_wp2_with (at_builtin; refine wpList_append_own_at _ rfl (.tmp 71) (.tmp 72) 42 rfl w2.heap.size 87 i0 (.agg #[.slice none 0 0, .int .i64 0, .int .i64 0]) 3 40 Tryz.underlying42 hi hz0 hz1 hz2 rfl (by decide) _ _ _ rfl HO7c.out.row ad (C).length cc (Stn.flat (C)) rfl HFL.out HCS.out HOC.out ?d3 ?d4 ?d5 ?_)
            case d3 => unfold maxLen; omega
            case d4 => omega
            case d5 => exact HX7c.out.size
            intro v7 w7 hown7 hgr7 _ hat7
            have HO7 : Hid (RowL ts' w2.heap.size v7 (R ++ C) w7) := HO7c.out.push hown7 hgr7 hat7 HLab.out
            have HK : Hid ((R ++ C).map pl = (delK ms qs' ts' f t (k + 1)).map pl) := by unfold Hid; rw [HDk.out, List.map_append, List.map_append, ← HDq.out, HR.out]
            have HX7 := hid (HX7c.out.grown hgr7 HX7c.out.size (fun j hj => (HO7c.out.row.lt j hj).1))
            clear hown7 hgr7 hat7
            go_wp2
            go_roundw
            case rel => exact ⟨k + 1, _, _, by omega, by go_num, rfl, HO7, HK, HX7⟩
            case measure => simp [intOf]; omega
end Go.Proofs.YtkbaaidnkkcpoaaGreat.Blk
