/- The walk of FnExactDeleteBlocks. -/
import Derived.Test.YtkbaaidnkkcpoaaGreatRKz
import Derived.Test.YtkbaaidnkkcpoaaGreatRKM
import Derived.Test.YtkbaaidnkkcpoaaGreatRKd
namespace Go.Proofs.YtkbaaidnkkcpoaaGreat.Blk
open Go.RowKit
open Go.Proofs.YtkbaaidnkkcpoaaGreat.Smp (Sm HasS own_form ret_bool)
open Go.Proofs.YtkbaaidnkkcpoaaGreat.Srs (hid lt_at kept blk own_base own_below own_grown Q q0 HasQ SmlQ OwnG Own2 Fr own_fr tot)
open Go.Proofs.YtkbaaidnkkcpoaaGreat.Stn (T t0 OwnT HasT SmlT mk)
open Go.Proofs.YtkbaaidnkkcpoaaGreat.Pat (Mt m0 HasM goodM allM FitM)

theorem SameK.trans {n : Nat} {bs d e : List Bk} (s : SameK n bs d) (r : SameK n bs e) : SameK n d e := fun i hi => (s i hi).trans (r i hi)
theorem totq_sameK {n : Nat} {qs d : List Q} (h : Srs.Same n qs d) : ∀ k, k ≤ n → Srs.tot d k = Srs.tot qs k := by
  intro k
  induction k with
  | zero => intro _; rfl
  | succ k ih =>
    intro hk
    have e := h k (by omega)
    simp only [Srs.pl, Prod.mk.injEq] at e
    simp only [Srs.tot]
    rw [ih (by omega), e.1, e.2]
theorem tott_sameK {n : Nat} {ts d : List T} (h : Stn.Same n ts d) : ∀ k, k ≤ n → Stn.tot d k = Stn.tot ts k := by
  intro k
  induction k with
  | zero => intro _; rfl
  | succ k ih =>
    intro hk
    have e := same_l (h k (by omega))
    simp only [Stn.tot]
    rw [ih (by omega), e.1]
theorem SameB.tk {h h' : Bk} (s : SameB h h') : Blk.tk h' = Blk.tk h := by
  unfold Blk.tk
  rw [s.lq, s.lt, totq_sameK s.sq _ (Nat.le_refl _), tott_sameK s.st _ (Nat.le_refl _)]
theorem SameK.totK {n : Nat} {bs d : List Bk} (s : SameK n bs d) : ∀ k, k ≤ n → Blk.totK d k = Blk.totK bs k := by
  intro k
  induction k with
  | zero => intro _; rfl
  | succ k ih => intro hk; simp only [Blk.totK]; rw [ih (by omega), (s k (by omega)).tk]
theorem totK_sum : ∀ (L : List Bk), totK L L.length = (L.map tk).sum := by
  intro L
  have key : ∀ k, k ≤ L.length → totK L k = ((L.take k).map tk).sum := by
    intro k
    induction k with
    | zero => intro _; rfl
    | succ k ih =>
      intro hk
      rw [totK, ih (by omega), List.take_succ_eq_append_getElem (by omega), List.map_append, List.sum_append]
      have e : L.getD k k0 = L[k] := by simp [show k < L.length by omega]
      rw [e]
      simp
  rw [key L.length (Nat.le_refl _), List.take_length]
theorem mkK_tot (R : List Bk) : ∀ k, mkK R k ≤ 3 * k + 2 * totK R k := by
  intro k
  induction k with
  | zero => exact Nat.le_refl _
  | succ k ih =>
    simp only [mkK, totK]
    have : mkb (R.getD k k0) ≤ 3 + 2 * tk (R.getD k k0) := by unfold mkb tk mk; omega
    omega
theorem sameB_to {p q r : Bk} (h1 : SameB p q) (h2 : SameB q r) : SameB p r := h1.symm.trans h2
theorem dk_len (b : Int) (bs : List Bk) (ms : List Mt) (x y : Int) : (dk b bs ms x y).length ≤ bs.length := by
  unfold dk
  split
  · simp
  · simp
theorem dk_same {b : Int} {ms : List Mt} {x y : Int} {n : Nat} {bs d : List Bk} (s : SameK n bs d) (hn : bs.length = n) (hl : d.length = n) : (dk b d ms x y).length = (dk b bs ms x y).length ∧ SameK (dk b bs ms x y).length (dk b bs ms x y) (dk b d ms x y) := by
  have hA : AllD ms x y d ↔ AllD ms x y bs := by
    unfold AllD
    rw [hl, hn]
    exact ⟨fun h i hi => (okD_same (s i hi)).1 (h i hi), fun h i hi => (okD_same (s i hi)).2 (h i hi)⟩
  by_cases hc : gdK b bs = true ∧ goodM ms = true ∧ AllD ms x y bs
  · have hc' : gdK b d = true ∧ goodM ms = true ∧ AllD ms x y d := ⟨by rw [s.gd hn hl]; exact hc.1, hc.2.1, hA.2 hc.2.2⟩
    have e1 : dk b bs ms x y = bs.map (dlb ms x y) := if_pos hc
    have e2 : dk b d ms x y = d.map (dlb ms x y) := if_pos hc'
    rw [e1, e2]
    refine ⟨by simp [hl, hn], fun i hi => ?_⟩
    rw [List.length_map, hn] at hi
    rw [map_getK ms x y (by omega), map_getK ms x y (by omega)]
    exact dlb_same (s i hi)
  · have hc' : ¬ (gdK b d = true ∧ goodM ms = true ∧ AllD ms x y d) := fun h => hc ⟨by rw [← s.gd hn hl]; exact h.1, h.2.1, hA.1 h.2.2⟩
    have e1 : dk b bs ms x y = [] := if_neg hc
    have e2 : dk b d ms x y = [] := if_neg hc'
    rw [e1, e2]
    exact ⟨rfl, fun i hi => by simp at hi⟩
theorem tott_le {ts : List T} (h : ∀ i, i < ts.length → (ts.getD i t0).l.length ≤ 20) : ∀ k, k ≤ ts.length → Stn.tot ts k ≤ 21 * k := by
  intro k
  induction k with
  | zero => intro _; exact Nat.le_refl _
  | succ k ih =>
    intro hk
    have := ih (by omega)
    have := h k (by omega)
    simp only [Stn.tot]
    omega
theorem dlb_tk {ms : List Mt} {x y : Int} {h : Bk} (g : GoodB h) (h100 : OkD ms x y h) : tk (dlb ms x y h) ≤ tk h + 2200 := by
  have key : ∀ i, i < (delB ms h x y).length → ((delB ms h x y).getD i t0).l.length ≤ 20 := fun i hi => by
    have hm : (delB ms h x y).getD i t0 ∈ delB ms h x y := by rw [List.getD_eq_getElem?_getD, List.getElem?_eq_getElem hi]; exact List.getElem_mem _
    obtain ⟨j, h1, h2⟩ := delB_mem g hm
    rw [h2]
    exact (Srs.good_goodP (g.2.1.2 j h1).1.1.1).1
  have h1 := tott_le key _ (Nat.le_refl _)
  unfold OkD at h100
  unfold tk dlb
  simp only
  omega
theorem dlb_sml {ms : List Mt} {x y : Int} {h : Bk} (g : GoodB h) (hz : SmlB h) (hd : OkD ms x y h) : SmlB (dlb ms x y h) := by
  unfold OkD at hd
  refine ⟨hz.1, hz.2.1, ?_, fun j hj => ?_⟩
  · show (delB ms h x y).length ≤ 1048576
    omega
  · have hj' : j < (delB ms h x y).length := hj
    have hm : (delB ms h x y).getD j t0 ∈ delB ms h x y := by rw [List.getD_eq_getElem?_getD, List.getElem?_eq_getElem hj']; exact List.getElem_mem _
    obtain ⟨j', g1, g2⟩ := delB_mem g hm
    show ((delB ms h x y).getD j t0).l.length ≤ 1048576
    rw [g2]
    have h20 : (lb h.qs j').length ≤ 20 := (Srs.good_goodP (g.2.1.2 j' g1).1.1.1).1
    exact Nat.le_trans h20 (by decide)
theorem dk_sml {b : Int} {ms : List Mt} {x y : Int} {bs : List Bk} (h : totK bs bs.length ≤ 1048576) : totK (dk b bs ms x y) (dk b bs ms x y).length ≤ 2000000 ∧ SmlK (dk b bs ms x y) := by
  unfold dk
  split
  · rename_i hh
    obtain ⟨h1, _, h3⟩ := hh
    have hg := gdK_iff.1 h1
    have hz := sml_totK h
    have key : ∀ k, k ≤ bs.length → totK (bs.map (dlb ms x y)) k ≤ totK bs k + 2200 * k := by
      intro k
      induction k with
      | zero => intro _; exact Nat.le_refl _
      | succ k ih =>
        intro hk
        have e1 := ih (by omega)
        have e2 := dlb_tk (hg.2.2 k (by omega)).2.1 (h3 k (by omega))
        simp only [totK]
        rw [map_getK ms x y (by omega)]
        omega
    have h100 : bs.length ≤ 100 := hg.2.1
    refine ⟨?_, fun i hi => ?_⟩
    · have := key bs.length (Nat.le_refl _)
      rw [List.length_map]
      omega
    · rw [List.length_map] at hi
      rw [map_getK ms x y hi]
      exact dlb_sml (hg.2.2 i hi).2.1 (hz i hi) (h3 i hi)
  · exact ⟨Nat.zero_le _, fun i hi => by simp at hi⟩
theorem fr_belowK {X Y B : Nat} {w x : World} (h : Fr X Y w x) (hb : B ≤ X) (hs : B ≤ w.heap.size) : Below B w x := ⟨h.os, h.tape, h.output, h.size, fun k hk => h.block k (by omega) (.inl (by omega))⟩
theorem rowk_fr {X X' Y' n c : Nat} {a : Option Addr} {R : List Bk} {L U : Nat → Nat} {w x : World} (h : RowK OwnC X a n c R L U w) (hlo : ∀ i, i < n → X ≤ L i) (hf : Fr X' Y' w x) (hd : Y' ≤ X) : RowK OwnC X a n c R L U x := by
  refine ⟨h.len, ?_, fun i hi => ownc_fr (h.each i hi) hf (.inl (by have := hlo i hi; omega)), h.off⟩
  rcases h.row.2 with ⟨h1, h2⟩ | ⟨g, cap, cur, h1, _⟩
  · have hr := h.row
    simp only [Value.slice.injEq] at h1
    obtain ⟨rfl, rfl, rfl⟩ := h1
    have e : flatK R = [] := List.eq_nil_of_length_eq_zero (by have h5 := hr.1; simpa using h5)
    rw [e]; exact World.ownsRow_nil _ _ _ _
  · have hr := h.row
    simp only [Value.slice.injEq] at h1
    obtain ⟨rfl, -, rfl⟩ := h1
    exact own_fr hr hf (.inr (Nat.le_trans hd (hr.lt g rfl).1))
theorem rowk_grown {X n c r : Nat} {a : Option Addr} {R : List Bk} {L U : Nat → Nat} {w x : World} (h : RowK OwnC X a n c R L U w) (hlo : ∀ i, i < n → X ≤ L i) (hg : w.grownBy x (some r)) (hr : r < X) : RowK OwnC X a n c R L U x := by
  refine ⟨h.len, h.row.kept hg ?_, fun i hi => ownc_grown (h.each i hi) hg (fun g e => by cases e; exact .inl (by have := hlo i hi; omega)), h.off⟩
  cases e : (Value.slice a n c).ownBlock with
  | none => exact .inl rfl
  | some g => exact .inr fun e' => by have := (h.row.lt g e).1; have := Option.some.inj e'; omega
theorem grown_belowK {B g : Nat} {w x : World} (h : w.grownBy x (some g)) (hg : B ≤ g) (hs : B ≤ w.heap.size) : Below B w x := ⟨h.os, h.tape, h.output, h.size, fun k hk => h.block k (by omega) (fun e => by have := Option.some.inj e; omega)⟩
/-- The arguments, and the model's answer. -/
structure Kd (w : World) (a : Option Addr) (bs : List Bk) (am : Option Addr) (ms : List Mt) (aW : Option Addr) (R : List Bk) (x : World) : Prop where
  arg : HasK x a bs
  mat : HasM x am ms
  ans : HasK x aW R
  bel : Below w.heap.size w x
theorem Kd.below {w : World} {a : Option Addr} {bs : List Bk} {am : Option Addr} {ms : List Mt} {aW : Option Addr} {R : List Bk} {x y : World} (g : Kd w a bs am ms aW R x) (hb : Below x.heap.size x y) : Kd w a bs am ms aW R y := ⟨g.arg.below hb, g.mat.below hb, g.ans.below hb, g.bel.trans (hb.mono g.bel.size)⟩
theorem ownk_room {R0 : Nat} {Z : Nat → Nat} {n : Nat} {bs d : List Bk} {w : World} (h : OwnK R0 Z n bs d w) : ∀ j, j < n → (d.getD j k0).ts.length ≤ (d.getD j k0).d := fun j hj => by
  obtain ⟨_, _, _, _, _, _, e, _⟩ := ((ownk_row h).each j hj).ex
  omega
set_option maxHeartbeats 8000000 in
theorem walkDeleteBs (b : Int) (a : Option Addr) (n c : Nat) (bs : List Bk) (am : Option Addr) (nm cm : Nat) (ms : List Mt) (x y : Int) (w : World) (hb0 : -9223372036854775808 ≤ b) (hb1 : b ≤ 9223372036854775807) (hn : bs.length = n) (hmax : n ≤ maxLen) (hr : HasK w a bs) (hf : FitK bs) (hnm : ms.length = nm) (hm : HasM w am ms) (hfm : FitM ms) (hmx : nm ≤ maxLen) :
    Calls Tryz.prog 3 #[.int .i64 b, .slice a n c, .slice am nm cm, .int .i64 x, .int .i64 y] w fun e w' => e = .returned (.bool true) ∧ Below w.heap.size w w' := by
  have HN := hid hn
  have HR := hid hr
  have HF := hid hf
  have HM := hid hmax
  have HNm := hid hnm
  have HMt := hid hm
  have HFm := hid hfm
  have HMx := hid hmx
  clear hn hr hf hmax hnm hm hfm hmx
  have HLn : Hid ((dk b bs ms x y).length ≤ n) := by unfold Hid; have := dk_len b bs ms x y; rw [HN.out] at this; exact this
  have HRt : Hid (totK bs bs.length ≤ 1048576 → totK (dk b bs ms x y) (dk b bs ms x y).length ≤ 2000000 ∧ SmlK (dk b bs ms x y)) := fun h => dk_sml h
  have HSp : Hid (∀ (d : List Bk) (R0 : Nat) (Z : Nat → Nat) (am' : Option Addr) (cm' : Nat) (w' : World), SmlK bs → n ≤ 1048576 → OwnK R0 Z n bs d w' → HasM w' am' ms → Calls Tryz.prog 7 #[.int .i64 b, .slice (some ⟨R0, 0, none⟩) n n, .slice am' nm cm', .int .i64 x, .int .i64 y] w' fun e w'' => ∃ (a' : Option Addr) (m c' : Nat) (R : List Bk), e = .returned (.slice a' m c') ∧ Hid (R.length = m ∧ m = (dk b bs ms x y).length ∧ SameK m (dk b bs ms x y) R ∧ HasK w'' a' R) ∧ Below w'.heap.size w' w'') := by
    intro d R0 Z am' cm' w' hz hle o hmm
    have hcall := f7 b _ n n d am' cm' ms x y w' hb0 hb1 o.kin.len hle o.has (o.kin.same.fit o.kin.len HF.out) (o.kin.same.sml o.kin.len HN.out hz) (ownk_cap o) hmm (by rw [HNm.out]; exact HMx.out) HFm.out
    rw [HNm.out] at hcall
    refine hcall.mono ?_
    rintro e w'' ⟨a', m, c', R, rfl, h1, hb⟩
    obtain ⟨s1, s2⟩ := dk_same (b := b) (ms := ms) (x := x) (y := y) o.kin.same HN.out o.kin.len
    obtain ⟨q1, q2, q3, q4⟩ := h1.out
    exact ⟨a', m, c', R, rfl, ⟨q1, by rw [q2, s1], fun i hi => sameB_to (s2 i (by rw [← s1, ← q2]; exact hi)) (q3 i hi), q4⟩, hb⟩
  have HIm : Hid (∀ (d : List Bk) (R0 : Nat) (Z : Nat → Nat) (am' : Option Addr) (cm' : Nat) (w' : World), SmlK bs → n ≤ 1048576 → OwnK R0 Z n bs d w' → HasM w' am' ms → Calls Tryz.prog 10 #[.int .i64 b, .slice (some ⟨R0, 0, none⟩) n n, .slice am' nm cm', .int .i64 x, .int .i64 y] w' fun e w'' => ∃ (a' : Option Addr) (m c' : Nat) (R : List Bk), e = .returned (.slice a' m c') ∧ Hid (R.length = m ∧ m = (dk b bs ms x y).length ∧ SameK m (dk b bs ms x y) R ∧ Ans w'.heap.size a' m c' R w'') ∧ Below w'.heap.size w' w'') := by
    intro d R0 Z am' cm' w' hz hle o hmm
    have hcall := f10 b _ n n d am' cm' ms x y w' hb0 hb1 o.kin.len hle o.has (o.kin.same.fit o.kin.len HF.out) (o.kin.same.sml o.kin.len HN.out hz) (ownk_cap o) (ownk_room o) hmm (by rw [HNm.out]; exact HMx.out) HFm.out
    rw [HNm.out] at hcall
    refine hcall.mono ?_
    rintro e w'' ⟨a', m, c', R, rfl, h1, hb⟩
    obtain ⟨s1, s2⟩ := dk_same (b := b) (ms := ms) (x := x) (y := y) o.kin.same HN.out o.kin.len
    obtain ⟨q1, q2, q3, q4⟩ := h1.out
    exact ⟨a', m, c', R, rfl, ⟨q1, by rw [q2, s1], fun i hi => sameB_to (s2 i (by rw [← s1, ← q2]; exact hi)) (q3 i hi), q4⟩, hb⟩
  generalize dk b bs ms x y = sel at *
  go_enter Tryz.func3, Tryz.ntmps3
  go_wp2_with fail
  refine (f5 a n c 1048576 bs _ (by omega) (by omega) HN.out HR.out HF.out HM.out).mono ?_
  rintro e w1 ⟨yy, rfl, y0, y1, hy, hb⟩
  have HB1 := hid hb
  have HR1 := hid (HR.out.below hb)
  clear hb
  by_cases g0 : yy < 0
  · go_wp2
    go_ret
    exact ⟨rfl, HB1.out⟩
  have h1 := hy (by omega)
  have hle : n ≤ 1048576 := by omega
  have HTt : Hid (totK bs n ≤ 1048576) := by unfold Hid; omega
  have HZ : Hid (SmlK bs) := sml_totK (by rw [HN.out]; exact HTt.out)
  have HSel := hid (HRt.out (by rw [HN.out]; exact HTt.out))
  clear h1 hy HRt
  go_wp2_with fail
  refine (Srs.f6t am nm cm yy ms _ (by omega) (by omega) HNm.out (HMt.out.below HB1.out) HFm.out HMx.out).mono ?_
  rintro e w1b ⟨zz, rfl, z0, hzz, hb⟩
  have HB1b := hid (HB1.out.trans (hb.mono HB1.out.size))
  have HR1b := hid (HR1.out.below hb)
  clear hb HB1 HR1
  by_cases g1 : zz < 0
  · go_wp2
    go_ret
    exact ⟨rfl, HB1b.out⟩
  have hbn := hzz (by omega)
  clear hzz
  -- the model
  go_wp2_with fail
  refine (f8 a n c bs _ HN.out hle HR1b.out HZ.out).mono ?_
  rintro e w2a ⟨d2, Z2, rfl, ho, hb⟩
  have HB2a := hid (HB1b.out.trans (hb.mono HB1b.out.size))
  have HO2a := hid ho
  clear hb ho HB1b HR1b
  generalize w1b.heap.size = X1 at *
  go_wp2_with fail
  refine (Pat.f9 am nm cm ms _ HNm.out hbn (HMt.out.below HB2a.out)).mono ?_
  rintro e w2 ⟨rfl, hm2, hb⟩
  have HB2 := hid (HB2a.out.trans (hb.mono HB2a.out.size))
  have HO2 := hid (HO2a.out.below hb)
  have HM2 := hid (Pat.HasM.own hm2)
  clear hb hm2 HB2a HO2a
  go_wp2_with fail
  refine (HSp.out d2 X1 Z2 _ _ _ HZ.out hle HO2.out HM2.out).mono ?_
  rintro e w3 ⟨aW, mW, cW, RW, rfl, hW, hb⟩
  have HK3 : Hid (Kd w a bs am ms aW RW w3) := by
    have hb' := HB2.out.trans (hb.mono HB2.out.size)
    exact ⟨HR.out.below hb', HMt.out.below hb', hW.out.2.2.2, hb'⟩
  have HWl := hid hW.out.1
  have HWn := hid hW.out.2.1
  have HWs := hid hW.out.2.2.1
  clear hb hW HO2 HB2 HM2
  -- the program
  go_wp2_with fail
  refine (f8 a n c bs _ HN.out hle HK3.out.arg HZ.out).mono ?_
  rintro e w4a ⟨d4, Z4, rfl, ho4, hb⟩
  have HB4a := hid hb
  have HO4a := hid ho4
  have hS : w3.heap.size < w4a.heap.size := (ho4.row.lt w3.heap.size rfl).2
  clear hb ho4
  go_wp2_with fail
  refine (Pat.f9 am nm cm ms _ HNm.out hbn (HK3.out.below HB4a.out).mat).mono ?_
  rintro e w4 ⟨rfl, hm4, hb⟩
  have HB4 := hid (HB4a.out.trans (hb.mono (Nat.le_of_lt hS)))
  have HO4 := hid (HO4a.out.below hb)
  have HP4 := hid hm4
  have hSm : w4a.heap.size < w4.heap.size := (hm4.lt w4a.heap.size rfl).2
  have HTop4 : Hid (∀ i, i < n → Z4 (i + 1) ≤ w4a.heap.size) := fun i hi => Nat.le_trans (zmono HO4a.out.kin n (i + 1) hi (Nat.le_refl _)) HO4a.out.kin.top
  clear hb hm4 HB4a HO4a
  generalize w4a.heap.size = Sa at *
  go_wp2_with fail
  refine (HIm.out d4 _ Z4 _ _ _ HZ.out hle HO4.out (Pat.HasM.own HP4.out)).mono ?_
  rintro e w5 ⟨aG, mG, cG, RG, rfl, hG, hb⟩
  have HB5 : Hid (Below w3.heap.size w3 w5) := HB4.out.trans (hb.mono (by omega))
  have HO5 := hid (HO4.out.below hb)
  have HP5 := hid (own_below HP4.out hb)
  have HGl := hid hG.out.1
  have HGn := hid hG.out.2.1
  have HGs := hid hG.out.2.2.1
  obtain ⟨LG, UG, hrow, hlo, hord⟩ := hG.out.2.2.2.ex
  have HA5 := hid hrow
  have HLo := hid hlo
  have HOr := hid hord
  have HZ4m := hid (zmono HO4.out.kin)
  have HZ4l := hid HO4.out.kin.lo
  have HD4l := hid HO4.out.kin.len
  have HD4s := hid HO4.out.kin.same
  have hmm : mW = mG := by rw [HWn.out, HGn.out]
  subst hmm
  clear hG hb hrow hlo hord HB4 HO4 HP4
  have hmn : mW ≤ n := by rw [HWn.out]; exact HLn.out
  have HRGs : Hid (SmlK RG) := HGs.out.sml HGl.out HWn.out.symm HSel.out.2
  have HSme : Hid (SameK mW RG RW) := HGs.out.trans HWs.out
  have HTG : Hid (1 + mkK RG mW ≤ 100000000) := by
    unfold Hid
    have h1 := mkK_tot RG mW
    have h2 := HGs.out.totK mW (Nat.le_refl _)
    have h3 := HSel.out.1
    rw [← HWn.out] at h3
    omega
  have HTD : Hid (1 + mkK d4 n ≤ 10000000) := by
    unfold Hid
    have h1 := mkK_tot d4 n
    have h2 := HD4s.out.totK n (Nat.le_refl _)
    have h3 := HTt.out
    omega
  have HD4z : Hid (SmlK d4) := HD4s.out.sml HD4l.out HN.out HZ.out
  generalize w4.heap.size = S4 at *
  -- alike
  have HK5 := hid (HK3.out.below HB5.out)
  go_wp2_with fail
  refine (f11 aG aW mW cG cW RG RW _ HGl.out HWl.out (by omega) (HA5.out.has wayOwn) HK5.out.ans HSme.out HRGs.out).mono ?_
  rintro e w6 ⟨rfl, hb⟩
  have HB6 := hid (HB5.out.trans (hb.mono HB5.out.size))
  have HO6 := hid (HO5.out.below hb)
  have HP6 := hid (own_below HP5.out hb)
  have HA6 := hid (HA5.out.below wayOwn hb)
  have HK6 := hid (HK5.out.below hb)
  clear hb HB5 HO5 HA5 HK5 HP5
  -- the argument is as it was
  go_wp2_with fail
  refine (f8 a n c bs _ HN.out hle HK6.out.arg HZ.out).mono ?_
  rintro e w7 ⟨d7, Z7, rfl, ho7, hb⟩
  have HB7 := hid (HB6.out.trans (hb.mono HB6.out.size))
  have HO7 := hid (HO6.out.below hb)
  have HP7 := hid (own_below HP6.out hb)
  have HA7 := hid (HA6.out.below wayOwn hb)
  have HV7 := hid ho7
  clear hb ho7 HB6 HO6 HA6 HK6 HP6
  generalize w6.heap.size = S6 at *
  go_wp2_with fail
  refine (f11 _ _ n n n d4 d7 _ HD4l.out HV7.out.kin.len hle HO7.out.has HV7.out.has (HD4s.out.trans HV7.out.kin.same) HD4z.out).mono ?_
  rintro e w8 ⟨rfl, hb⟩
  have HB8 := hid (HB7.out.trans (hb.mono HB7.out.size))
  have HO8 := hid (HO7.out.below hb)
  have HP8 := hid (own_below HP7.out hb)
  have HA8 := hid (HA7.out.below wayOwn hb)
  clear hb HB7 HO7 HA7 HP7 HV7
  -- the matchers are as they were
  go_wp2_with fail
  refine (Pat.f9 am nm cm ms _ HNm.out hbn (HK3.out.below HB8.out).mat).mono ?_
  rintro e w8a ⟨rfl, hm8, hb⟩
  have HB8a := hid (HB8.out.trans (hb.mono HB8.out.size))
  have HO8a := hid (HO8.out.below hb)
  have HP8a := hid (own_below HP8.out hb)
  have HA8a := hid (HA8.out.below wayOwn hb)
  have HM8 := hid (Pat.HasM.own hm8)
  clear hb hm8 HB8 HO8 HP8 HA8
  go_wp2_with fail
  refine (Pat.f12 _ _ nm nm nm ms _ HNm.out hbn (Pat.HasM.own HP8a.out) HM8.out).mono ?_
  rintro e w8b ⟨rfl, hb⟩
  have HB8 := hid (HB8a.out.trans (hb.mono HB8a.out.size))
  have HO8 := hid (HO8a.out.below hb)
  have HP8 := hid (own_below HP8a.out hb)
  have HA8 := hid (HA8a.out.below wayOwn hb)
  clear hb HB8a HO8a HP8a HA8a HM8
  -- what came in is marked
  have hs8 : w3.heap.size ≤ w8b.heap.size := HB8.out.size
  go_wp2_with fail
  refine (f13 w3.heap.size Sa _ n n 1 d4 Z4 (fun i => Z4 (i + 1)) _ hle (by have := HTD.out; omega) (ownk_row HO8.out) (fun i hi => Nat.le_of_lt (HZ4l.out i (by omega))) (fun i j hij hj => HZ4m.out j (i + 1) (by omega) (by omega)) HTop4.out (fun g e => by cases e; exact hS) (fun i hi => HD4z.out i (by rw [HD4l.out]; exact hi))).mono ?_
  rintro e w9 ⟨rfl, _, hf9⟩
  have HB9a := hid (HB8.out.trans (fr_belowK hf9 (Nat.le_refl _) hs8))
  have HA9a := hid (rowk_fr HA8.out HLo.out hf9 (by omega))
  have HP9a := hid (own_fr HP8.out hf9 (.inr (Nat.le_refl _)))
  clear hf9 HB8 HO8 HA8 HP8
  obtain ⟨k1, hk1⟩ : ∃ k1 : Nat, k1 = 1 + mkK d4 n := ⟨_, rfl⟩
  have hk1b : k1 ≤ 10000000 := by rw [hk1]; exact HTD.out
  rw [← hk1]
  clear hk1
  go_wp2_with fail
  refine (Srs.f14 Sa nm Sa k1 _ _ hbn (by omega) HP9a.out).mono ?_
  rintro e w9b ⟨rfl, hg9⟩
  have HB9 := hid (HB9a.out.trans (grown_belowK hg9 (Nat.le_of_lt hS) HB9a.out.size))
  have HA9 := hid (rowk_grown HA9a.out HLo.out hg9 hSm)
  clear hg9 HB9a HA9a HP9a
  obtain ⟨k1', hk1'⟩ : ∃ k2 : Nat, k2 = k1 + 3 * nm := ⟨_, rfl⟩
  rw [← hk1']
  clear hk1'
  have hk2 : ¬ (k1' : Int) < 0 := by omega
  have HK9 := hid (HK3.out.below HB9.out)
  go_wp2_with fail
  refine (f11 aG aW mW cG cW RG RW _ HGl.out HWl.out (by omega) (HA9.out.has wayOwn) HK9.out.ans HSme.out HRGs.out).mono ?_
  rintro e w10 ⟨rfl, hb⟩
  have HB10 := hid (HB9.out.trans (hb.mono HB9.out.size))
  have HA10 := hid (HA9.out.below wayOwn hb)
  clear hb HB9 HA9 HK9
  -- what came out is marked, and held
  have hS4 : S4 ≤ w10.heap.size ∨ mW = 0 := by
    by_cases h0 : mW = 0
    · exact .inr h0
    · have h2 := HLo.out 0 (by omega)
      have h3 := (HA10.out.each 0 (by omega)).ex
      obtain ⟨g, k, M, _, _, _, _, o1, _, _, _, _, _, _, _⟩ := h3
      have h4 := o1.row.lt g rfl
      exact .inl (by omega)
  have HMk : Hid (Calls Tryz.prog 13 #[.slice aG mW cG, .int .i64 1] w10 fun e w' => e = .returned (.int .i64 ((1 + mkK RG mW : Nat) : Int)) ∧ RowK OwnC S4 aG mW cG (mbs 1 RG) LG UG w' ∧ Below w3.heap.size w10 w') := by
    refine (f13 S4 w10.heap.size aG mW cG 1 RG LG UG w10 (by omega) HTG.out HA10.out HLo.out HOr.out (fun i hi => (HA10.out.each i hi).top) (fun g e => (HA10.out.row.lt g e).2) (fun i hi => HRGs.out i (by rw [HGl.out]; exact hi))).mono ?_
    rintro e w' ⟨h1, h2, h3⟩
    exact ⟨h1, h2, fr_belowK h3 (by omega) (HB10.out.size)⟩
  obtain ⟨k4, hk4⟩ : ∃ k4 : Nat, k4 = 1 + mkK RG mW := ⟨_, rfl⟩
  have HK4 := hid hk4
  rw [← hk4] at HMk
  clear hk4
  have hk5 : ¬ (k4 : Int) < 0 := by omega
  go_wp2_with fail
  refine HMk.out.mono ?_
  rintro e w11 ⟨rfl, hr11, hb⟩
  have HB11 := hid (HB10.out.trans hb)
  have HA11 := hid hr11
  clear hb hr11 HB10 HA10 HMk hS4
  have HHd : Hid (∀ z, RowK OwnC S4 aG mW cG (mbs 1 RG) LG UG z → Calls Tryz.prog 15 #[.slice aG mW cG, .int .i64 1] z fun e w' => e = .returned (.int .i64 (k4 : Int)) ∧ Below z.heap.size z w') := by
    intro z hz
    have := f15 S4 aG mW cG 1 RG LG UG z HGl.out (by omega) HTG.out hz (fun i hi => HRGs.out i (by rw [HGl.out]; exact hi))
    rw [← HK4.out] at this
    exact this
  go_wp2_with fail
  refine (HHd.out _ HA11.out).mono ?_
  rintro e w12 ⟨rfl, hb⟩
  have HB12 := hid (HB11.out.trans (hb.mono HB11.out.size))
  have HA12 := hid (HA11.out.below wayOwn hb)
  clear hb HB11 HA11
  -- once more
  have HK12 := hid (HK3.out.below HB12.out)
  go_wp2_with fail
  refine (f8 a n c bs _ HN.out hle HK12.out.arg HZ.out).mono ?_
  rintro e w13a ⟨d13, Z13, rfl, ho13, hb⟩
  have HB13a := hid (HB12.out.trans (hb.mono HB12.out.size))
  have HA13a := hid (HA12.out.below wayOwn hb)
  have HV13 := hid ho13
  clear hb ho13 HB12 HA12 HK12
  generalize w12.heap.size = S12 at *
  go_wp2_with fail
  refine (Pat.f9 am nm cm ms _ HNm.out hbn (HK3.out.below HB13a.out).mat).mono ?_
  rintro e w13 ⟨rfl, hm13, hb⟩
  have HB13 := hid (HB13a.out.trans (hb.mono HB13a.out.size))
  have HA13 := hid (HA13a.out.below wayOwn hb)
  have HP13 := hid (HV13.out.below hb)
  have HM13 := hid (Pat.HasM.own hm13)
  clear hb hm13 HB13a HA13a HV13
  go_wp2_with fail
  refine (HIm.out d13 _ Z13 _ _ _ HZ.out hle HP13.out HM13.out).mono ?_
  rintro e w14 ⟨aH, mH, cH, RH, rfl, hH, hb⟩
  have HB14 := hid (HB13.out.trans (hb.mono HB13.out.size))
  have HA14 := hid (HA13.out.below wayOwn hb)
  have HHl := hid hH.out.1
  have HHs := hid hH.out.2.2.1
  have hmH : mW = mH := by rw [HWn.out, hH.out.2.1]
  obtain ⟨LH, UH, hrowH, _, _⟩ := hH.out.2.2.2.ex
  have HHh := hid (hrowH.has wayOwn)
  subst hmH
  clear hH hb hrowH HB13 HA13 HP13 HM13
  have HK14 := hid (HK3.out.below HB14.out)
  go_wp2_with fail
  refine (f11 aH aW mW cH cW RH RW _ HHl.out HWl.out (by omega) HHh.out HK14.out.ans (HHs.out.trans HWs.out) (HHs.out.sml HHl.out HWn.out.symm HSel.out.2)).mono ?_
  rintro e w15 ⟨rfl, hb⟩
  have HB15 := hid (HB14.out.trans (hb.mono HB14.out.size))
  have HA15 := hid (HA14.out.below wayOwn hb)
  clear hb HB14 HA14 HK14 HHh
  go_wp2_with fail
  refine (HHd.out _ HA15.out).mono ?_
  rintro e w16 ⟨rfl, hb⟩
  have HB16 := hid (HB15.out.trans (hb.mono HB15.out.size))
  have HEnd := hid (HK3.out.below HB16.out).bel
  clear hb HB15 HA15
  go_wp2
  go_ret
  exact ⟨rfl, HEnd.out⟩
end Go.Proofs.YtkbaaidnkkcpoaaGreat.Blk
