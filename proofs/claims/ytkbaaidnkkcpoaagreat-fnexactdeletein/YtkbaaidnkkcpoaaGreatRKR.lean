/- Stones with one more: plain facts; rows of stones of the call's own; slices.Grow and slices.Concat at stones. -/
import Derived.Test.YtkbaaidnkkcpoaaGreatRGD
import Derived.Test.YtkbaaidnkkcpoaaGreatRTA
import Derived.Maps.AppendAt
import Derived.Lib.AppendZeros
import Derived.Lib.MinMax
namespace Go.Proofs.YtkbaaidnkkcpoaaGreat.Blk
open Go.RowKit
open Go.Proofs.YtkbaaidnkkcpoaaGreat.Lab (Lb HasL cmpList)
open Go.Proofs.YtkbaaidnkkcpoaaGreat.Smp (In64 own_form)
open Go.Proofs.YtkbaaidnkkcpoaaGreat.Srs (hid lt_at kept own_base own_below)
open Go.Proofs.YtkbaaidnkkcpoaaGreat.Stn (T t0 HasT SmlT agT three three_frz infoT pl)

/-- What is ahead, the span so far, what is behind. -/
structure Cv where
  A : List T
  f : Int
  t : Int
  B : List T
def cvStep (s : Cv) (x : T) : Cv := if x.t + 1 < s.f then ⟨s.A ++ [x], s.f, s.t, s.B⟩ else if s.t + 1 < x.f then ⟨s.A, s.f, s.t, s.B ++ [x]⟩ else ⟨s.A, min s.f x.f, max s.t x.t, s.B⟩
def cvK (L : List T) (f t : Int) (k : Nat) : Cv := (L.take k).foldl cvStep ⟨[], f, t, []⟩
/-- Stones with one more, those that it meets or lies beside becoming one with it. -/
def cov (L : List T) (q : T) : List T := (cvK L q.f q.t L.length).A ++ [⟨q.l, q.a, q.c, (cvK L q.f q.t L.length).f, (cvK L q.f q.t L.length).t⟩] ++ (cvK L q.f q.t L.length).B
theorem cvK_succ {L : List T} {f t : Int} {k : Nat} (hk : k < L.length) : cvK L f t (k + 1) = cvStep (cvK L f t k) (L.getD k t0) := by
  unfold cvK
  rw [List.take_succ_eq_append_getElem hk, List.foldl_append]
  simp [hk]
def Tm (x : Int) : Prop := 0 ≤ x ∧ x ≤ 1000000000001
/-- What holds of the state at each round. -/
structure CvOk (L : List T) (k : Nat) (s : Cv) : Prop where
  len : s.A.length + s.B.length ≤ k
  tf : Tm s.f
  tt : Tm s.t
  ma : ∀ p ∈ s.A, p ∈ L
  mb : ∀ p ∈ s.B, p ∈ L
theorem cvK_ok {L : List T} {f t : Int} (hf : Tm f) (ht : Tm t) (hL : ∀ p ∈ L, Tm p.f ∧ Tm p.t) : ∀ k, k ≤ L.length → CvOk L k (cvK L f t k) := by
  intro k
  induction k with
  | zero => intro _; exact ⟨by simp [cvK], by simpa [cvK] using hf, by simpa [cvK] using ht, by simp [cvK], by simp [cvK]⟩
  | succ k ih =>
    intro hk
    have h := ih (by omega)
    rw [cvK_succ (by omega)]
    have hm : L.getD k t0 ∈ L := by
      have hk' : k < L.length := by omega
      rw [List.getD_eq_getElem?_getD, List.getElem?_eq_getElem hk']; exact List.getElem_mem _
    obtain ⟨b1, b2⟩ := hL _ hm
    generalize cvK L f t k = s at *
    generalize L.getD k t0 = x at *
    unfold Tm at b1 b2
    have h2 := h.tf
    have h3 := h.tt
    unfold Tm at h2 h3
    unfold cvStep
    split
    · exact ⟨by have := h.len; simp; omega, h.tf, h.tt, fun p hp => by rcases List.mem_append.1 hp with g | g; exact h.ma p g; rw [List.mem_singleton.1 g]; exact hm, h.mb⟩
    · split
      · exact ⟨by have := h.len; simp; omega, h.tf, h.tt, h.ma, fun p hp => by rcases List.mem_append.1 hp with g | g; exact h.mb p g; rw [List.mem_singleton.1 g]; exact hm⟩
      · refine ⟨by have := h.len; simp; omega, ?_, ?_, h.ma, h.mb⟩
        · unfold Tm; simp only; omega
        · unfold Tm; simp only; omega
/-- The same stones, wherever they lie, give the same. -/
structure CvSame (s s' : Cv) : Prop where
  eA : s.A.map pl = s'.A.map pl
  ef : s.f = s'.f
  et : s.t = s'.t
  eB : s.B.map pl = s'.B.map pl
theorem cvStep_same {s s' : Cv} {x x' : T} (h : CvSame s s') (hx : pl x = pl x') : CvSame (cvStep s x) (cvStep s' x') := by
  have e1 : x.f = x'.f := congrArg (fun p => p.2.1) hx
  have e2 : x.t = x'.t := congrArg (fun p => p.2.2) hx
  unfold cvStep
  rw [← h.ef, ← h.et, ← e1, ← e2]
  split
  · exact ⟨by simp [h.eA, hx], rfl, rfl, h.eB⟩
  · split
    · exact ⟨h.eA, rfl, rfl, by simp [h.eB, hx]⟩
    · exact ⟨h.eA, rfl, rfl, h.eB⟩
theorem foldl_same : ∀ {L L' : List T} {s s' : Cv}, L.map pl = L'.map pl → CvSame s s' → CvSame (L.foldl cvStep s) (L'.foldl cvStep s') := by
  intro L
  induction L with
  | nil =>
    intro L' s s' h1 h2
    cases L' with
    | nil => exact h2
    | cons _ _ => simp at h1
  | cons x L ih =>
    intro L' s s' h1 h2
    cases L' with
    | nil => simp at h1
    | cons y L' =>
      simp only [List.map_cons, List.cons.injEq] at h1
      show CvSame (L.foldl cvStep (cvStep s x)) (L'.foldl cvStep (cvStep s' y))
      exact ih h1.2 (cvStep_same h2 h1.1)
theorem cov_same {L L' : List T} {q q' : T} (h : L.map pl = L'.map pl) (hq : pl q = pl q') : (cov L q).map pl = (cov L' q').map pl := by
  have el : q.l = q'.l := congrArg (fun p => p.1) hq
  have ef : q.f = q'.f := congrArg (fun p => p.2.1) hq
  have et : q.t = q'.t := congrArg (fun p => p.2.2) hq
  have hs : CvSame (cvK L q.f q.t L.length) (cvK L' q'.f q'.t L'.length) := by
    unfold cvK
    rw [List.take_length, List.take_length, ef, et]
    exact foldl_same h ⟨rfl, rfl, rfl, rfl⟩
  unfold cov
  simp only [List.map_append, List.map_cons, List.map_nil, hs.eA, hs.eB, pl, hs.ef, hs.et, el]
theorem cov_len {L : List T} {q : T} (hf : Tm q.f) (ht : Tm q.t) (hL : ∀ p ∈ L, Tm p.f ∧ Tm p.t) : (cov L q).length ≤ L.length + 1 := by
  have := (cvK_ok hf ht hL L.length (Nat.le_refl _)).len
  unfold cov
  simp only [List.length_append, List.length_cons, List.length_nil]
  omega
/-- The cells of a list of stones lie there, or it is empty. -/
def Src (w : World) (v : Value) (L : List T) : Prop := (v = .slice none 0 0 ∧ L = []) ∨ ∃ (ad : Addr) (c : Nat), v = .slice (some ad) L.length c ∧ ∀ j u, (Stn.flat L)[j]? = some u → w.cell? (ad.add j) = some u
theorem cell_lt {w : World} {p : Addr} {u : Value} (h : w.cell? p = some u) : p.block < w.heap.size := by
  unfold World.cell? at h
  by_cases e : p.block < w.heap.size
  · exact e
  · rw [Array.getElem?_eq_none (by omega)] at h; simp at h
theorem Src.below {w w' : World} {v : Value} {L : List T} (h : Src w v L) (hb : Below w.heap.size w w') : Src w' v L := by
  rcases h with h | ⟨ad, c, h1, h2⟩
  · exact .inl h
  · exact .inr ⟨ad, c, h1, fun j u hj => by have := h2 j u hj; rw [hb.cell (cell_lt this)]; exact this⟩
theorem flatT_cells {w : World} {b off : Nat} {L : List T} (hr : HasT w (some ⟨b, off, none⟩) L) : ∀ j u, (Stn.flat L)[j]? = some u → w.cell? ((⟨b, off, none⟩ : Addr).add j) = some u := by
  intro j u hj
  have hjl : j < L.length * 3 := by
    have := (List.getElem?_eq_some_iff.1 hj).1
    rw [Stn.flat_len] at this; exact this
  have hi : j / 3 < L.length := by omega
  obtain ⟨b', off', e, _, ⟨c0, c1, c2⟩, _⟩ := hr.at2 (j / 3) hi
  obtain ⟨g0, g1, g2⟩ := Stn.flat_get L (j / 3) hi
  cases e
  rw [Smp.add_none]
  rcases (show j % 3 = 0 ∨ j % 3 = 1 ∨ j % 3 = 2 by omega) with h | h | h
  · rw [show j = j / 3 * 3 by omega, g0] at hj
    cases hj
    rw [show off + j = off + j / 3 * 3 by omega]; exact c0
  · rw [show j = j / 3 * 3 + 1 by omega, g1] at hj
    cases hj
    rw [show off + j = off + j / 3 * 3 + 1 by omega]; exact c1
  · rw [show j = j / 3 * 3 + 2 by omega, g2] at hj
    cases hj
    rw [show off + j = off + j / 3 * 3 + 2 by omega]; exact c2
theorem flatT_oneCell (L : List T) : ∀ u ∈ Stn.flat L, u.oneCell' = true := by
  intro u hu
  unfold Stn.flat at hu
  obtain ⟨p, _, hp⟩ := List.mem_flatMap.1 hu
  simp only [Stn.cl, List.mem_cons, List.not_mem_nil, or_false] at hp
  rcases hp with rfl | rfl | rfl <;> rfl
theorem Src.of {w : World} {a : Option Addr} {c : Nat} {L : List T} (h : HasT w a L) (hc : a = none → c = 0) : Src w (.slice a L.length c) L := by
  by_cases e : L = []
  · subst e
    cases a with
    | none => exact .inl ⟨by rw [hc rfl]; rfl, rfl⟩
    | some ad => exact .inr ⟨ad, c, rfl, fun j u hj => by simp [Stn.flat] at hj⟩
  · rcases h with h | ⟨b, off, h1, _⟩
    · exact absurd h e
    · exact .inr ⟨⟨b, off, none⟩, c, by rw [h1], flatT_cells (by rw [← h1]; exact .inr ⟨b, off, h1, by assumption⟩)⟩
theorem Src.own {w : World} {base : Nat} {v : Value} {L : List T} (h : w.ownsRow base 87 3 v L.length (Stn.flat L)) : Src w v L := by
  rcases h.2 with ⟨h1, h2⟩ | ⟨g, cap, cur, h1, _⟩
  · exact .inl ⟨h1, List.eq_nil_of_length_eq_zero h2⟩
  · exact .inr ⟨⟨g, 0, none⟩, cap, h1, h.cells (by rw [h1]; rfl)⟩
/-- A row of stones of the call's own, from X on, whose labels lie where they lay in w. -/
structure RowO (w : World) (X : Nat) (v : Value) (R : List T) (x : World) : Prop where
  row : x.ownsRow X 87 3 v R.length (Stn.flat R)
  lab : ∀ p ∈ R, HasL w p.a p.l
theorem RowO.below {w : World} {X : Nat} {v : Value} {R : List T} {x y : World} (h : RowO w X v R x) (hb : Below x.heap.size x y) : RowO w X v R y := ⟨own_below h.row hb, h.lab⟩
theorem RowO.base {w : World} {X Y : Nat} {v : Value} {R : List T} {x : World} (h : RowO w X v R x) (hy : Y ≤ X) : RowO w Y v R x := ⟨own_base h.row hy, h.lab⟩
theorem RowO.form {w : World} {X : Nat} {v : Value} {R : List T} {x : World} (h : RowO w X v R x) : ∃ a c, v = .slice a R.length c := own_form h.row
theorem RowO.has {w : World} {X c : Nat} {a : Option Addr} {R : List T} {x : World} (h : RowO w X (.slice a R.length c) R x) (hb : Below w.heap.size w x) : HasT x a R := by
  rcases h.row.2 with ⟨_, h2⟩ | ⟨g, cap, cur, h1, _⟩
  · exact .inl (List.eq_nil_of_length_eq_zero h2)
  · have h3 : a = some ⟨g, 0, none⟩ := by simp only [Value.slice.injEq] at h1; exact h1.1
    have hr := h.row
    rw [h3] at hr ⊢
    refine Stn.own_has hr fun i hi => ?_
    have hm : R.getD i t0 ∈ R := by rw [List.getD_eq_getElem?_getD, List.getElem?_eq_getElem hi]; exact List.getElem_mem _
    exact (h.lab _ hm).below hb
theorem RowO.nil (w : World) (X : Nat) (x : World) : RowO w X (.slice none 0 0) [] x := ⟨World.ownsRow_nil _ _ _ _, fun p hp => by simp at hp⟩
end Go.Proofs.YtkbaaidnkkcpoaaGreat.Blk
/- slices.Grow and slices.Concat at stones; stones with one more: the program's withStone. -/
namespace Go.Proofs.YtkbaaidnkkcpoaaGreat.Blk
open Go.RowKit
open Go.Proofs.YtkbaaidnkkcpoaaGreat.Lab (Lb HasL cmpList)
open Go.Proofs.YtkbaaidnkkcpoaaGreat.Smp (In64 own_form)
open Go.Proofs.YtkbaaidnkkcpoaaGreat.Srs (hid lt_at kept own_base own_below)
open Go.Proofs.YtkbaaidnkkcpoaaGreat.Stn (T t0 HasT SmlT agT three three_frz infoT pl)

set_option maxHeartbeats 1000000 in
theorem f136 (n : Nat) (w : World) (h1 : 0 < n) (hn : n ≤ 1000) :
    Calls Tryz.prog 136 #[.slice none 0 0, .int .i64 n] w fun e w' => ∃ v, e = .returned v ∧ w'.ownsRow w.heap.size 87 3 v 0 [] ∧ Below w.heap.size w w' := by
  obtain ⟨i0, hi, hz0, hz1, hz2⟩ := info_parts infoT
  have hc := grownCap_ge w n 0 87
  have hc2 := grownCap_le_maxLen w n 0 87 (by unfold maxLen; omega)
  have HR := hid (Lib.run_append_nil_zeros (P := Tryz.prog) w 42 3 42 87 i0 (.agg #[.slice none 0 0, .int .i64 0, .int .i64 0]) .i64 .i64 Tryz.underlying42 Tryz.underlying3 hi hz0 n h1 (by rw [hz1]; decide) (by omega) (by rw [hz2]; omega))
  obtain ⟨C, hC⟩ : ∃ C, C = grownCap w n 0 87 := ⟨_, rfl⟩
  rw [← hC] at HR hc hc2
  obtain ⟨W, hW⟩ : ∃ W, W = w.drew.alloc (.cells (Builtin.zeroCells (Value.agg #[.slice none 0 0, .int .i64 0, .int .i64 0]).cells n ++ Builtin.zeroCells (Value.agg #[.slice none 0 0, .int .i64 0, .int .i64 0]).cells (C - n)) 87) := ⟨_, rfl⟩
  rw [← hW] at HR
  have HO : Hid (W.ownsRow w.heap.size 87 3 (.slice (some ⟨w.heap.size, 0, none⟩) 0 C) 0 [] ∧ Below w.heap.size w W) := by
    rw [hW]
    refine ⟨World.ownsRow_made (w := w.drew) _ C (Nat.le_refl _) hc2 ?_, ((Below.refl w.heap.size w).drew).alloc (Nat.le_refl _) _⟩
    simp only [Array.size_append, size_zeroCells]
    show n * 3 + (C - n) * 3 = C * 3
    omega
  clear hC hW
  have i1 : ¬ (n : Int) < 0 := by omega
  have i2 : (0 : Int) < (n : Int) := by omega
  unfold maxLen at hc2
  go_enter Tryz.func136, Tryz.ntmps136
  go_wp2_with (at_builtin; refine Lib.wpList_append_run _ rfl (.tmp 20) (.tmp 21) 42 3 rfl _ _ rfl rfl _ _ HR.out ?_)
  go_ret
  exact ⟨_, rfl, HO.out.1, HO.out.2⟩

/-- Lists of stones, one behind the other. -/
abbrev Pc := Value × List T
def pz : Pc := (.slice none 0 0, [])
def joined (Ls : List Pc) (k : Nat) : List T := (Ls.take k).flatMap fun p => p.2
theorem joined_succ {Ls : List Pc} {k : Nat} (hk : k < Ls.length) : joined Ls (k + 1) = joined Ls k ++ (Ls.getD k pz).2 := by
  unfold joined
  rw [List.take_succ_eq_append_getElem hk, List.flatMap_append]
  simp [hk]
theorem joined_le {Ls : List Pc} : ∀ {j k : Nat}, j ≤ k → k ≤ Ls.length → (joined Ls j).length ≤ (joined Ls k).length := by
  intro j k
  induction k with
  | zero => intro h _; rw [show j = 0 by omega]; exact Nat.le_refl _
  | succ k ih =>
    intro h hk
    by_cases e : j = k + 1
    · rw [e]; exact Nat.le_refl _
    · have := ih (by omega) (by omega)
      rw [joined_succ (by omega), List.length_append]
      omega
def Pcs (w : World) (b : Nat) (Ls : List Pc) : Prop := ∀ i, i < Ls.length → w.cell? ⟨b, i, none⟩ = some (Ls.getD i pz).1 ∧ Src w (Ls.getD i pz).1 (Ls.getD i pz).2
theorem Pcs.below {w w' : World} {b : Nat} {Ls : List Pc} (h : Pcs w b Ls) (hb : Below w.heap.size w w') : Pcs w' b Ls := fun i hi => by
  obtain ⟨h1, h2⟩ := h i hi
  exact ⟨by rw [hb.cell (cell_lt h1)]; exact h1, h2.below hb⟩
set_option maxRecDepth 10000 in
set_option maxHeartbeats 4000000 in
theorem f99 (b c : Nat) (Ls : List Pc) (w : World) (hp : Pcs w b Ls) (h3 : Ls.length ≤ 3) (h1 : 0 < (joined Ls Ls.length).length) (hn : (joined Ls Ls.length).length ≤ 1000) :
    Calls Tryz.prog 99 #[.slice (some ⟨b, 0, none⟩) Ls.length c] w fun e w' => ∃ v, e = .returned v ∧ w'.ownsRow w.heap.size 87 3 v (joined Ls Ls.length).length (Stn.flat (joined Ls Ls.length)) ∧ Below w.heap.size w w' := by
  obtain ⟨i0, hi, hz0, hz1, hz2⟩ := info_parts infoT
  have HP := hid hp
  have HLe : Hid (∀ k, k ≤ Ls.length → (joined Ls k).length ≤ 1000) := fun k hk => by have := joined_le hk (Nat.le_refl _); omega
  have HG := fun x => hid (f136 (joined Ls Ls.length).length x h1 hn)
  clear hp
  go_enter Tryz.func99, Tryz.ntmps99
  go_wp2
  go_loopw [3, 11] (fun ss si wr => ∃ k : Nat, k ≤ Ls.length ∧ si = .int .i64 k ∧ ss = .int .i64 ((joined Ls k).length : Nat) ∧ Hid (w = wr)) (fun _ si _ => Ls.length - (intOf si).toNat)
  case atStart => exact ⟨0, Nat.zero_le _, rfl, rfl, rfl⟩
  case round =>
    obtain ⟨k, hk, rfl, rfl, hw⟩ := hrel
    have hw := hw.out
    subst hw
    by_cases hlt : k < Ls.length
    · obtain ⟨c0, hs⟩ := HP.out k hlt
      have i1 : (k : Int) < (Ls.length : Int) := by omega
      have HJ : Hid ((joined Ls (k + 1)).length = (joined Ls k).length + (Ls.getD k pz).2.length) := by unfold Hid; rw [joined_succ hlt, List.length_append]
      have h4 := HLe.out (k + 1) (by omega)
      rw [HJ.out] at h4
      generalize Ls.getD k pz = p at *
      generalize hJ : (joined Ls k).length = J at *
      obtain ⟨pv, pL⟩ := p
      simp only at c0 hs HJ h4
      rcases hs with ⟨rfl, rfl⟩ | ⟨ad, cc, rfl, hcs⟩
      · have i2 : ¬ (J : Int) < 0 := by omega
        simp only [List.length_nil, Nat.add_zero] at HJ
        go_wp2
        go_roundw
        case rel => exact ⟨k + 1, by omega, by go_num, by rw [HJ.out], trivial⟩
        case measure => simp [intOf]; omega
      · clear hcs
        generalize pL.length = m at *
        have i2 : ¬ (J : Int) + (m : Int) < 0 := by omega
        go_wp2
        go_roundw
        case rel => exact ⟨k + 1, by omega, by go_num, by rw [HJ.out]; go_num, trivial⟩
        case measure => simp [intOf]; omega
    · obtain rfl : k = Ls.length := by omega
      have i1 : ¬ (Ls.length : Int) < (Ls.length : Int) := by omega
      go_wp2_with fail
      refine (HG _).out.mono ?_
      rintro e w1 ⟨v1, rfl, ho1, hb1⟩
      have HO1 := hid ho1
      have HB1 := hid hb1
      clear ho1 hb1
      go_wp2
      go_loopw [6, 27] (fun so si wr => ∃ (k : Nat) (v : Value), k ≤ Ls.length ∧ si = .int .i64 k ∧ so = v ∧ Hid (wr.ownsRow w.heap.size 87 3 v (joined Ls k).length (Stn.flat (joined Ls k))) ∧ Hid (Below w.heap.size w wr)) (fun _ si _ => Ls.length - (intOf si).toNat)
      case atStart => exact ⟨0, v1, Nat.zero_le _, rfl, rfl, HO1.out, HB1.out⟩
      case round =>
        clear HO1 HB1
        obtain ⟨k, v, hk, rfl, rfl, HO, HX⟩ := hrel
        obtain ⟨ao, co, rfl⟩ := own_form HO.out
        by_cases hlt : k < Ls.length
        · obtain ⟨c0, hs⟩ := (HP.out.below HX.out) k hlt
          have i1 : (k : Int) < (Ls.length : Int) := by omega
          have HJ : Hid (joined Ls (k + 1) = joined Ls k ++ (Ls.getD k pz).2) := joined_succ hlt
          have h4 := HLe.out (k + 1) (by omega)
          rw [HJ.out, List.length_append] at h4
          generalize Ls.getD k pz = p at *
          generalize hJ : joined Ls k = J at *
          obtain ⟨pv, pL⟩ := p
          simp only at c0 hs HJ h4
          rcases hs with ⟨rfl, rfl⟩ | ⟨ad, cc, rfl, hcs⟩
          · go_wp2_with (at_builtin; refine wpList_append_own_none rfl (.tmp 31) (.tmp 32) 42 rfl w.heap.size 87 i0 3 Tryz.underlying42 hi _ _ _ rfl HO.out rfl ?_)
            go_roundw
            case rel => exact ⟨k + 1, _, by omega, by go_num, rfl, by rw [HJ.out, List.append_nil]; exact HO.out, HX.out⟩
            case measure => simp [intOf]; omega
          · have HCS := hid hcs
            have HOC := hid (flatT_oneCell pL)
            have HFL := hid (Stn.flat_len pL)
            clear hcs
            go_wp2_with (at_builtin; refine wpList_append_own _ rfl (.tmp 31) (.tmp 32) 42 rfl w.heap.size 87 i0 (.agg #[.slice none 0 0, .int .i64 0, .int .i64 0]) 3 40 Tryz.underlying42 hi hz0 hz1 hz2 rfl (by decide) _ _ _ rfl HO.out ad pL.length cc (Stn.flat pL) rfl HFL.out HCS.out HOC.out ?d3 ?d4 HX.out.size ?_)
            case d3 => unfold maxLen; omega
            case d4 => omega
            intro v2 w3 hown1 hgr1 _
            have HO3 : Hid (w3.ownsRow w.heap.size 87 3 v2 (joined Ls (k + 1)).length (Stn.flat (joined Ls (k + 1)))) := by
              unfold Hid
              rw [HJ.out, Stn.flat_append, List.length_append]
              exact hown1
            have HX3 := hid (HX.out.grown hgr1 HX.out.size (fun k hk => (World.ownsRow.lt HO.out k hk).1))
            clear hown1 hgr1
            go_wp2
            go_roundw
            case rel => exact ⟨k + 1, _, by omega, by go_num, rfl, HO3, HX3⟩
            case measure => simp [intOf]; omega
        · obtain rfl : k = Ls.length := by omega
          have i1 : ¬ (Ls.length : Int) < (Ls.length : Int) := by omega
          go_wp2
          go_ret
          exact ⟨_, rfl, HO.out, HX.out⟩
end Go.Proofs.YtkbaaidnkkcpoaaGreat.Blk
/- Stones with one more: the program's withStone. -/
namespace Go.Proofs.YtkbaaidnkkcpoaaGreat.Blk
open Go.RowKit
open Go.Proofs.YtkbaaidnkkcpoaaGreat.Lab (Lb HasL cmpList)
open Go.Proofs.YtkbaaidnkkcpoaaGreat.Smp (In64 own_form)
open Go.Proofs.YtkbaaidnkkcpoaaGreat.Srs (hid lt_at kept own_base own_below set_at set_else)
open Go.Proofs.YtkbaaidnkkcpoaaGreat.Stn (T t0 HasT SmlT agT three three_frz infoT pl)

theorem cmpT_neg {p q : T} (h : p.l = q.l) : cmpT p q < 0 ↔ p.t + 1 < q.f := by
  unfold cmpT
  rw [h, lst_self, orC_neg, numC_neg]
  omega
/-- Two rows of stones of the call's own, which lie apart, and the new stone in its box. -/
structure WSt (w : World) (q : T) (s : Cv) (va vb : Value) (x : World) : Prop where
  box : x.heap[w.heap.size]? = some (boxT ⟨q.l, q.a, q.c, s.f, s.t⟩)
  ra : x.ownsRow (w.heap.size + 1) 87 3 va s.A.length (Stn.flat s.A)
  rb : x.ownsRow (w.heap.size + 1) 87 3 vb s.B.length (Stn.flat s.B)
  ap : ∀ g, va.ownBlock = some g → vb.ownBlock = some g → False
  bel : Below w.heap.size w x
theorem WSt.below {w : World} {q : T} {s : Cv} {va vb : Value} {x y : World} (h : WSt w q s va vb x) (hb : Below x.heap.size x y) : WSt w q s va vb y :=
  ⟨kept h.box hb, own_below h.ra hb, own_below h.rb hb, h.ap, h.bel.trans (hb.mono h.bel.size)⟩
theorem WSt.gt {w : World} {q : T} {s : Cv} {va vb : Value} {x : World} (h : WSt w q s va vb x) : w.heap.size < x.heap.size := lt_at h.box
theorem WSt.pushA {w : World} {q p : T} {s : Cv} {va vb v' : Value} {x y : World} (h : WSt w q s va vb x) (hr : y.ownsRow (w.heap.size + 1) 87 3 v' (s.A.length + 1) (Stn.flat s.A ++ Stn.cl p)) (hg : x.grownBy y va.ownBlock) (hv : v'.ownBlock = va.ownBlock ∨ v'.ownBlock = some x.heap.size) :
    WSt w q ⟨s.A ++ [p], s.f, s.t, s.B⟩ v' vb y := by
  have hlt : ∀ g, va.ownBlock = some g → w.heap.size + 1 ≤ g ∧ g < x.heap.size := fun g e => h.ra.lt g e
  refine ⟨(hg.block _ h.gt (fun e => by have := hlt _ e.symm; omega)).trans h.box, ?_, h.rb.kept hg ?_, ?_, h.bel.grown hg h.bel.size (fun j hj => by have := hlt j hj; omega)⟩
  · simp only [List.length_append, List.length_cons, List.length_nil]
    rw [Stn.flat_append, show Stn.flat [p] = Stn.cl p by simp [Stn.flat]]
    exact hr
  · cases e : vb.ownBlock with
    | none => exact .inl rfl
    | some g => exact .inr fun e' => h.ap g e'.symm e
  · intro g e1 e2
    rcases hv with hv | hv
    · exact h.ap g (hv ▸ e1) e2
    · rw [hv] at e1
      have h1 := Option.some.inj e1
      have := (h.rb.lt g e2).2
      omega
theorem WSt.pushB {w : World} {q p : T} {s : Cv} {va vb v' : Value} {x y : World} (h : WSt w q s va vb x) (hr : y.ownsRow (w.heap.size + 1) 87 3 v' (s.B.length + 1) (Stn.flat s.B ++ Stn.cl p)) (hg : x.grownBy y vb.ownBlock) (hv : v'.ownBlock = vb.ownBlock ∨ v'.ownBlock = some x.heap.size) :
    WSt w q ⟨s.A, s.f, s.t, s.B ++ [p]⟩ va v' y := by
  have hlt : ∀ g, vb.ownBlock = some g → w.heap.size + 1 ≤ g ∧ g < x.heap.size := fun g e => h.rb.lt g e
  refine ⟨(hg.block _ h.gt (fun e => by have := hlt _ e.symm; omega)).trans h.box, h.ra.kept hg ?_, ?_, ?_, h.bel.grown hg h.bel.size (fun j hj => by have := hlt j hj; omega)⟩
  · cases e : va.ownBlock with
    | none => exact .inl rfl
    | some g => exact .inr fun e' => h.ap g e e'.symm
  · simp only [List.length_append, List.length_cons, List.length_nil]
    rw [Stn.flat_append, show Stn.flat [p] = Stn.cl p by simp [Stn.flat]]
    exact hr
  · intro g e1 e2
    rcases hv with hv | hv
    · exact h.ap g e1 (hv ▸ e2)
    · rw [hv] at e2
      have h1 := Option.some.inj e2
      have := (h.ra.lt g e1).2
      omega
theorem own_setX {w : World} {X n : Nat} {v : Value} {xs : List Value} {p : Addr} (h : w.ownsRow X 87 3 v n xs) (hp : p.block < X) (u : Value) : (w.setCell p u).ownsRow X 87 3 v n xs := by
  refine h.kept (row := some p.block) ⟨rfl, rfl, rfl, by simp, fun j hj hne => Below.heap_setCell w p u j (fun e => hne (by rw [e]))⟩ ?_
  cases e : v.ownBlock with
  | none => exact .inl rfl
  | some g => exact .inr fun e' => by have := (h.lt g e).1; have := Option.some.inj e'; omega
theorem WSt.set {w : World} {q : T} {s : Cv} {va vb : Value} {x : World} (h : WSt w q s va vb x) (f t : Int) : WSt w q ⟨s.A, f, t, s.B⟩ va vb ((x.setCell ⟨w.heap.size, 1, none⟩ (.int .i64 f)).setCell ⟨w.heap.size, 2, none⟩ (.int .i64 t)) :=
  ⟨set_at (i := 2) (set_at (i := 1) h.box), own_setX (own_setX h.ra (by simp) _) (by simp) _, own_setX (own_setX h.rb (by simp) _) (by simp) _, h.ap, (h.bel.setCell (p := ⟨w.heap.size, 1, none⟩) (Nat.le_refl _) _).setCell (p := ⟨w.heap.size, 2, none⟩) (Nat.le_refl _) _⟩
theorem WSt.set' {w : World} {q : T} {s : Cv} {va vb : Value} {x : World} (h : WSt w q s va vb x) (f t : Int) : WSt w q ⟨s.A, f, t, s.B⟩ va vb ((x.setCell ⟨w.heap.size, 2, none⟩ (.int .i64 t)).setCell ⟨w.heap.size, 1, none⟩ (.int .i64 f)) :=
  ⟨set_at (i := 1) (set_at (i := 2) h.box), own_setX (own_setX h.ra (by simp) _) (by simp) _, own_setX (own_setX h.rb (by simp) _) (by simp) _, h.ap, (h.bel.setCell (p := ⟨w.heap.size, 2, none⟩) (Nat.le_refl _) _).setCell (p := ⟨w.heap.size, 1, none⟩) (Nat.le_refl _) _⟩
theorem WSt.new {w : World} {q : T} : WSt w q ⟨[], q.f, q.t, []⟩ (.slice none 0 0) (.slice none 0 0) (w.alloc (boxT q)) :=
  ⟨heap_alloc_new w _, World.ownsRow_nil _ _ _ _, World.ownsRow_nil _ _ _ _, fun g h => by simp [Value.ownBlock] at h, (Below.refl _ _).alloc (Nat.le_refl _) _⟩
theorem cells_new (w : World) (p : T) : ∀ j u, (Stn.cl p)[j]? = some u → (w.alloc (boxT p)).cell? ((⟨w.heap.size, 0, none⟩ : Addr).add j) = some u := by
  intro j u hj
  obtain ⟨d0, d1, d2⟩ := three (heap_alloc_new w (boxT p))
  rw [Smp.add_none, Nat.zero_add]
  match j, hj with
  | 0, h => simp [Stn.cl] at h; rw [← h]; exact d0
  | 1, h => simp [Stn.cl] at h; rw [← h]; exact d1
  | 2, h => simp [Stn.cl] at h; rw [← h]; exact d2
theorem cl_one (p : T) : ∀ u ∈ Stn.cl p, u.oneCell' = true := by
  intro u hu
  simp only [Stn.cl, List.mem_cons, List.not_mem_nil, or_false] at hu
  rcases hu with rfl | rfl | rfl <;> rfl
theorem cov_parts (L : List T) (q : T) : cov L q = (cvK L q.f q.t L.length).A ++ [⟨q.l, q.a, q.c, (cvK L q.f q.t L.length).f, (cvK L q.f q.t L.length).t⟩] ++ (cvK L q.f q.t L.length).B := rfl
theorem WSt.src {w : World} {q : T} {s : Cv} {va vb : Value} {x : World} (h : WSt w q s va vb x) : Src x va s.A ∧ Src x vb s.B := ⟨Src.own h.ra, Src.own h.rb⟩
theorem hasT_mem {w : World} {a : Option Addr} {L : List T} (h : HasT w a L) {p : T} (hp : p ∈ L) : HasL w p.a p.l := by
  obtain ⟨i, hi, rfl⟩ := List.getElem_of_mem hp
  obtain ⟨_, _, _, _, _, t⟩ := h.at2 i hi
  rw [List.getD_eq_getElem?_getD, List.getElem?_eq_getElem hi] at t
  exact t
theorem three_pcs {w : World} {q : T} {sA sB : List T} {sf st : Int} {va vb : Value} {x : World} (h : WSt w q ⟨sA, sf, st, sB⟩ va vb x) :
    Pcs ((x.alloc (boxT ⟨q.l, q.a, q.c, sf, st⟩)).alloc (.cells #[va, .slice (some ⟨x.heap.size, 0, none⟩) 1 1, vb] 42)) (x.heap.size + 1) [(va, sA), (.slice (some ⟨x.heap.size, 0, none⟩) 1 1, [⟨q.l, q.a, q.c, sf, st⟩]), (vb, sB)] ∧ Below w.heap.size w ((x.alloc (boxT ⟨q.l, q.a, q.c, sf, st⟩)).alloc (.cells #[va, .slice (some ⟨x.heap.size, 0, none⟩) 1 1, vb] 42)) := by
  have h1 := (Below.refl x.heap.size x).alloc (Nat.le_refl _) (boxT ⟨q.l, q.a, q.c, sf, st⟩)
  have h2 := (Below.refl (x.alloc (boxT ⟨q.l, q.a, q.c, sf, st⟩)).heap.size (x.alloc (boxT ⟨q.l, q.a, q.c, sf, st⟩))).alloc (Nat.le_refl _) (.cells #[va, .slice (some ⟨x.heap.size, 0, none⟩) 1 1, vb] 42)
  have h3 := heap_alloc_new (x.alloc (boxT ⟨q.l, q.a, q.c, sf, st⟩)) (.cells #[va, .slice (some ⟨x.heap.size, 0, none⟩) 1 1, vb] 42)
  rw [World.size_alloc] at h3
  obtain ⟨d0, d1, d2⟩ := three h3
  have hW := (h.below h1).below h2
  have hS : Src (x.alloc (boxT ⟨q.l, q.a, q.c, sf, st⟩)) (.slice (some ⟨x.heap.size, 0, none⟩) 1 1) [⟨q.l, q.a, q.c, sf, st⟩] := .inr ⟨⟨x.heap.size, 0, none⟩, 1, rfl, fun j u hj => cells_new x ⟨q.l, q.a, q.c, sf, st⟩ j u (by simpa [Stn.flat] using hj)⟩
  refine ⟨fun i hi => ?_, hW.bel⟩
  match i, hi with
  | 0, _ => exact ⟨d0, hW.src.1⟩
  | 1, _ => exact ⟨d1, hS.below h2⟩
  | 2, _ => exact ⟨d2, hW.src.2⟩
  | n + 3, h => simp at h; omega
/-- The times of a stone in its box. -/
abbrev SPb (p : T) (B : Nat) (x : World) : Prop := x.cell? ⟨B, 1, none⟩ = some (.int .i64 p.f) ∧ x.cell? ⟨B, 2, none⟩ = some (.int .i64 p.t)
theorem SPb_of {p : T} {B : Nat} {x : World} (h : x.heap[B]? = some (boxT p)) : SPb p B x := ⟨(three h).2.1, (three h).2.2⟩
theorem cell_set_ne {x : World} {n o : Nat} {v : Value} {b i : Nat} (h : n ≠ b) : (x.setCell ⟨n, o, none⟩ v).cell? ⟨b, i, none⟩ = x.cell? ⟨b, i, none⟩ := by
  unfold World.cell?
  rw [Below.heap_setCell x ⟨n, o, none⟩ v b (fun e => h e.symm)]
theorem SPb_set {p : T} {B n o : Nat} {v : Value} {x : World} (h : SPb p B x) (hn : n ≠ B) : SPb p B (x.setCell ⟨n, o, none⟩ v) := ⟨by rw [cell_set_ne hn]; exact h.1, by rw [cell_set_ne hn]; exact h.2⟩
set_option maxRecDepth 10000 in
set_option maxHeartbeats 4000000 in
theorem f59 (a : Option Addr) (c : Nat) (L : List T) (q : T) (w : World) (hn : L.length ≤ 100) (hr : HasT w a L) (hq : HasL w q.a q.l) (hl : q.l.length ≤ 1048576) (hL : ∀ p ∈ L, p.l = q.l ∧ Tm p.f ∧ Tm p.t) (hf : Tm q.f) (ht : Tm q.t) :
    Calls Tryz.prog 59 #[.slice a L.length c, agT q] w fun e w' => ∃ v, e = .returned v ∧ Hid (RowO w w.heap.size v (cov L q) w') ∧ Below w.heap.size w w' := by
  obtain ⟨i0, hi, hz0, hz1, hz2⟩ := info_parts infoT
  have HOk := hid (cvK_ok hf ht fun p hp => (hL p hp).2)
  have HR := hid hr
  have HQ := hid hq
  have HL := hid hL
  have H0 : Hid (WSt w q (cvK L q.f q.t 0) (.slice none 0 0) (.slice none 0 0) (w.alloc (boxT q))) := WSt.new
  clear hr hq hL hf ht
  simp only [boxT] at H0
  simp only [agT]
  go_enter Tryz.func59, Tryz.ntmps59
  go_wp2
  go_loopw [5, 6, 11] (fun sa sb si wr => ∃ (k : Nat) (va vb : Value), k ≤ L.length ∧ si = .int .i64 k ∧ sa = va ∧ sb = vb ∧ Hid (WSt w q (cvK L q.f q.t k) va vb wr)) (fun _ _ si _ => L.length - (intOf si).toNat)
  case atStart => exact ⟨0, _, _, Nat.zero_le _, rfl, rfl, rfl, H0⟩
  case round =>
    clear H0
    obtain ⟨k, va, vb, hk, rfl, rfl, rfl, HX⟩ := hrel
    obtain ⟨aa, ca, rfl⟩ := own_form HX.out.ra
    obtain ⟨ab, cb, rfl⟩ := own_form HX.out.rb
    by_cases hlt : k < L.length
    rotate_left
    · obtain rfl : k = L.length := by omega
      have i1 : ¬ (L.length : Int) < (L.length : Int) := by omega
      have hOk := HOk.out L.length (Nat.le_refl _)
      have HCov := hid (cov_parts L q)
      have HMem : Hid (∀ p ∈ cov L q, HasL w p.a p.l) := by
        intro p hp
        rw [HCov.out] at hp
        rcases List.mem_append.1 hp with h | h
        · rcases List.mem_append.1 h with h | h
          · exact hasT_mem HR.out (hOk.ma p h)
          · rw [List.mem_singleton.1 h]; exact HQ.out
        · exact hasT_mem HR.out (hOk.mb p h)
      have hlen := hOk.len
      clear hOk
      generalize hcv : cvK L q.f q.t L.length = s at *
      obtain ⟨sA, sf, st, sB⟩ := s
      simp only at hlen HCov
      have HCA := hid (three_pcs (w := w) (q := q) HX.out)
      have HJ : Hid (joined [(.slice aa sA.length ca, sA), (.slice (some ⟨wr.heap.size, 0, none⟩) 1 1, [⟨q.l, q.a, q.c, sf, st⟩]), (.slice ab sB.length cb, sB)] 3 = cov L q) := by
        unfold Hid
        rw [HCov.out]
        simp [joined]
      have HJl : Hid ((cov L q).length = sA.length + 1 + sB.length) := by unfold Hid; rw [HCov.out]; simp only [List.length_append, List.length_cons, List.length_nil]
      obtain ⟨Ls, hLs⟩ : ∃ Ls : List Pc, Ls = [(.slice aa sA.length ca, sA), (.slice (some ⟨wr.heap.size, 0, none⟩) 1 1, [⟨q.l, q.a, q.c, sf, st⟩]), (.slice ab sB.length cb, sB)] := ⟨_, rfl⟩
      have HCall : Hid (Calls Tryz.prog 99 #[.slice (some ⟨wr.heap.size + 1, 0, none⟩) 3 3] ((wr.alloc (boxT ⟨q.l, q.a, q.c, sf, st⟩)).alloc (.cells #[.slice aa sA.length ca, .slice (some ⟨wr.heap.size, 0, none⟩) 1 1, .slice ab sB.length cb] 42)) fun e w' => ∃ v, e = .returned v ∧ w'.ownsRow ((wr.alloc (boxT ⟨q.l, q.a, q.c, sf, st⟩)).alloc (.cells #[.slice aa sA.length ca, .slice (some ⟨wr.heap.size, 0, none⟩) 1 1, .slice ab sB.length cb] 42)).heap.size 87 3 v (cov L q).length (Stn.flat (cov L q)) ∧ Below ((wr.alloc (boxT ⟨q.l, q.a, q.c, sf, st⟩)).alloc (.cells #[.slice aa sA.length ca, .slice (some ⟨wr.heap.size, 0, none⟩) 1 1, .slice ab sB.length cb] 42)).heap.size ((wr.alloc (boxT ⟨q.l, q.a, q.c, sf, st⟩)).alloc (.cells #[.slice aa sA.length ca, .slice (some ⟨wr.heap.size, 0, none⟩) 1 1, .slice ab sB.length cb] 42)) w') := by
        have hl3 : Ls.length = 3 := by rw [hLs]; rfl
        have hj : joined Ls Ls.length = cov L q := by rw [hl3, hLs]; exact HJ.out
        have hp := HCA.out.1
        simp only at hp
        rw [← hLs] at hp
        have h := f99 (wr.heap.size + 1) 3 Ls _ hp (by omega) (by rw [hj, HJl.out]; omega) (by rw [hj, HJl.out]; omega)
        rw [hj, hl3] at h
        exact h
      clear hLs Ls
      clear hcv hlen
      obtain ⟨e0, e1, e2⟩ := three HX.out.box
      go_wp2_with fail
      refine HCall.out.mono ?_
      rintro e w3 ⟨v, rfl, ho, hb⟩
      have HF : Hid (RowO w w.heap.size v (cov L q) w3 ∧ Below w.heap.size w w3) := ⟨⟨own_base ho HCA.out.2.size, HMem.out⟩, HCA.out.2.trans (hb.mono HCA.out.2.size)⟩
      clear ho hb
      go_wp2
      go_ret
      exact ⟨_, rfl, HF.out.1, HF.out.2⟩
    have hOk := HOk.out k (by omega)
    obtain ⟨hlen, ⟨f0, f1⟩, ⟨g0, g1⟩, hma, hmb⟩ := hOk
    have HS := hid (cvK_succ (f := q.f) (t := q.t) hlt)
    obtain ⟨bb, off, rfl, hbl, ⟨c0, c1, c2⟩, t1⟩ := (HR.out.below HX.out.bel).at2 k hlt
    have hm : L.getD k t0 ∈ L := by rw [List.getD_eq_getElem?_getD, List.getElem?_eq_getElem hlt]; exact List.getElem_mem _
    obtain ⟨hpl, ⟨u0, u1⟩, ⟨v0, v1⟩⟩ := HL.out _ hm
    clear hma hmb hm
    generalize L.getD k t0 = p at *
    have i1 : (k : Int) < (L.length : Int) := by omega
    generalize hcv : cvK L q.f q.t k = s at *
    obtain ⟨sA, sf, st, sB⟩ := s
    simp only at hlen f0 f1 g0 g1
    have hba := (Below.refl wr.heap.size wr).alloc (Nat.le_refl _) (boxT p)
    have HW := hid (HX.out.below hba)
    have HPb := hid (heap_alloc_new wr (boxT p))
    have HT1 := hid (t1.below hba)
    have HQ1 := hid (HQ.out.below (HX.out.below hba).bel)
    clear hba t1 hcv
    obtain ⟨d0, d1, d2⟩ := three HPb.out
    obtain ⟨e0, e1, e2⟩ := three HW.out.box
    obtain ⟨B, hB⟩ : ∃ B, B = wr.heap.size := ⟨_, rfl⟩
    have HB0 := hid hB
    obtain ⟨fr, hfr⟩ : ∃ fr : T, fr = ⟨q.l, q.a, q.c, sf, st⟩ := ⟨_, rfl⟩
    have HC1 : ∀ x, Hid (HasL x p.a p.l → HasL x q.a q.l → Calls Tryz.prog 98 #[agT p, .agg #[.slice q.a q.l.length q.c, .int .i64 sf, .int .i64 st]] x fun e w' => e = .returned (.int .i64 (cmpT p ⟨q.l, q.a, q.c, sf, st⟩)) ∧ Below x.heap.size x w') := fun x g1 g2 =>
      f98 p ⟨q.l, q.a, q.c, sf, st⟩ x (by rw [hpl]; exact hl) hl (by unfold In64; omega) g1 g2
    have HC2 : ∀ x, Hid (HasL x p.a p.l → HasL x q.a q.l → Calls Tryz.prog 98 #[.agg #[.slice q.a q.l.length q.c, .int .i64 sf, .int .i64 st], agT p] x fun e w' => e = .returned (.int .i64 (cmpT ⟨q.l, q.a, q.c, sf, st⟩ p)) ∧ Below x.heap.size x w') := fun x g1 g2 =>
      f98 ⟨q.l, q.a, q.c, sf, st⟩ p x hl (by rw [hpl]; exact hl) (by unfold In64; simp only; omega) g2 g1
    have HN1 : Hid (cmpT p ⟨q.l, q.a, q.c, sf, st⟩ < 0 ↔ p.t + 1 < sf) := cmpT_neg hpl
    have HN2 : Hid (cmpT ⟨q.l, q.a, q.c, sf, st⟩ p < 0 ↔ st + 1 < p.f) := cmpT_neg hpl.symm
    clear hfr fr hpl
    go_wp2_with fail
    obtain ⟨W, hW⟩ : ∃ W, W = wr.alloc (boxT p) := ⟨_, rfl⟩
    rw [← hW] at HW HPb HT1 HQ1
    rw [← hW]
    clear d0 d1 d2 e0 e1 e2 c0 c1 c2 hW
    refine ((HC1 _).out HT1.out HQ1.out).mono ?_
    rintro e w1 ⟨rfl, hb1⟩
    have HW1 := hid (HW.out.below hb1)
    have HPb1 := hid (kept HPb.out hb1)
    have HT2 := hid (HT1.out.below hb1)
    have HQ2 := hid (HQ1.out.below hb1)
    clear hb1 HW HPb HT1 HQ1 HC1
    by_cases h1 : p.t + 1 < sf
    · have hz : cmpT p ⟨q.l, q.a, q.c, sf, st⟩ < 0 := HN1.out.2 h1
      have HSS : Hid (cvK L q.f q.t (k + 1) = ⟨sA ++ [p], sf, st, sB⟩) := by unfold Hid; rw [HS.out]; unfold cvStep; rw [if_pos h1]
      generalize cmpT p ⟨q.l, q.a, q.c, sf, st⟩ = z at *
      obtain ⟨d0, d1, d2⟩ := three HPb1.out
      have hba := (Below.refl w1.heap.size w1).alloc (Nat.le_refl _) (boxT p)
      have HW2 := hid (HW1.out.below hba)
      have HCl := hid (cells_new w1 p)
      have HC1' := hid (cl_one p)
      clear hba
      clear HN1 HN2 h1
      go_wp2_with (at_builtin; refine wpList_append_own_at _ rfl (.tmp 32) (.tmp 34) 42 rfl (w.heap.size + 1) 87 i0 (.agg #[.slice none 0 0, .int .i64 0, .int .i64 0]) 3 40 Tryz.underlying42 hi hz0 hz1 hz2 rfl (by decide) _ _ _ rfl HW2.out.ra ⟨w1.heap.size, 0, none⟩ 1 1 (Stn.cl p) rfl rfl HCl.out HC1'.out ?d3 ?d4 ?d5 ?_)
      case d3 => unfold maxLen; omega
      case d4 => omega
      case d5 => exact HW2.out.gt
      intro v2 w3 hown1 hgr1 _ hat1
      have HW3 := hid (HW2.out.pushA hown1 hgr1 (by rw [World.size_alloc]; exact hat1))
      clear hown1 hgr1 hat1
      go_wp2
      go_roundw
      case rel => exact ⟨k + 1, _, _, by omega, by go_num, rfl, rfl, by rw [HSS.out]; exact HW3⟩
      case measure => simp [intOf]; omega
    · have hz : ¬ cmpT p ⟨q.l, q.a, q.c, sf, st⟩ < 0 := fun h => h1 (HN1.out.1 h)
      have H1 := hid h1
      clear h1
      generalize cmpT p ⟨q.l, q.a, q.c, sf, st⟩ = z at *
      obtain ⟨d0, d1, d2⟩ := three HPb1.out
      obtain ⟨e0, e1, e2⟩ := three HW1.out.box
      clear HN1
      go_wp2_with fail
      refine ((HC2 _).out HT2.out HQ2.out).mono ?_
      rintro e w2 ⟨rfl, hb2⟩
      have HW2 := hid (HW1.out.below hb2)
      have HPb2 := hid (kept HPb1.out hb2)
      clear hb2 HW1 HPb1 HT2 HQ2 HC2 hz d0 d1 d2 e0 e1 e2
      by_cases h2 : st + 1 < p.f
      · have hy : cmpT ⟨q.l, q.a, q.c, sf, st⟩ p < 0 := HN2.out.2 h2
        have HSS : Hid (cvK L q.f q.t (k + 1) = ⟨sA, sf, st, sB ++ [p]⟩) := by unfold Hid; rw [HS.out]; unfold cvStep; rw [if_neg (show ¬ p.t + 1 < sf by have := H1.out; omega), if_pos h2]
        generalize cmpT ⟨q.l, q.a, q.c, sf, st⟩ p = y at *
        obtain ⟨d0, d1, d2⟩ := three HPb2.out
        have hba := (Below.refl w2.heap.size w2).alloc (Nat.le_refl _) (boxT p)
        have HW3 := hid (HW2.out.below hba)
        have HCl := hid (cells_new w2 p)
        have HC1' := hid (cl_one p)
        clear hba HN2 H1 h2
        go_wp2_with (at_builtin; refine wpList_append_own_at _ rfl (.tmp 41) (.tmp 43) 42 rfl (w.heap.size + 1) 87 i0 (.agg #[.slice none 0 0, .int .i64 0, .int .i64 0]) 3 40 Tryz.underlying42 hi hz0 hz1 hz2 rfl (by decide) _ _ _ rfl HW3.out.rb ⟨w2.heap.size, 0, none⟩ 1 1 (Stn.cl p) rfl rfl HCl.out HC1'.out ?d3 ?d4 ?d5 ?_)
        case d3 => unfold maxLen; omega
        case d4 => omega
        case d5 => exact HW3.out.gt
        intro v2 w4 hown1 hgr1 _ hat1
        have HW4 := hid (HW3.out.pushB hown1 hgr1 (by rw [World.size_alloc]; exact hat1))
        clear hown1 hgr1 hat1
        go_wp2
        go_roundw
        case rel => exact ⟨k + 1, _, _, by omega, by go_num, rfl, rfl, by rw [HSS.out]; exact HW4⟩
        case measure => simp [intOf]; omega
      · have hy : ¬ cmpT ⟨q.l, q.a, q.c, sf, st⟩ p < 0 := fun h => h2 (HN2.out.1 h)
        have HSS : Hid (cvK L q.f q.t (k + 1) = ⟨sA, min sf p.f, max st p.t, sB⟩) := by unfold Hid; rw [HS.out]; unfold cvStep; rw [if_neg (show ¬ p.t + 1 < sf by have := H1.out; omega), if_neg (show ¬ st + 1 < p.f by omega)]
        generalize cmpT ⟨q.l, q.a, q.c, sf, st⟩ p = y at *
        obtain ⟨d0, d1, d2⟩ := three HPb2.out
        obtain ⟨e0, e1, e2⟩ := three HW2.out.box
        clear HN2 H1 h2
        -- REGION
        go_wp2_with fail
        have hdr : Below w2.heap.size w2 w2.drew := (Below.refl _ _).drew
        have HE1 := hid ((HW2.out.below hdr).set (min sf p.f) (max st p.t))
        have HE2 := hid ((HW2.out.below hdr).set' (min sf p.f) (max st p.t))
        have hhx0 := (HW2.out.below hdr).box
        have HS_x0 := SPb_of (kept HPb2.out hdr)
        have hne : w.heap.size ≠ wr.heap.size := fun e => by have := HX.out.gt; omega
        clear HPb2 HW2 hdr d0 d1 d2 e0 e1 e2 HX
        refine wp_region_held_drew (S := fun x => SPb p wr.heap.size x) rfl HS_x0 (fun hHeld => ?_)
        generalize w2.drew = x0 at *
        refine wpAnyH_take (i := 0) (oi := { dst := some 15, op := _, type := _, pos := _, after := _, guard := _ }) (v := .pointer (some ⟨w.heap.size, 1, none⟩)) rfl (by kernel_rfl) (by kernel_rfl) (by kernel_rfl) (fun _ _ _ h => h) (Or.inl ⟨by rfl, fun w hSw => by (try dsimp only at hSw); go_split_ands; go_simp⟩) (by assumption) ?_
        simp only [Act.put, List.setIfInBounds_toArray, List.set_cons_zero, List.set_cons_succ]
        refine wpAnyH_take (i := 2) (oi := { dst := some 17, op := _, type := _, pos := _, after := _, guard := _ }) (v := .pointer (some ⟨wr.heap.size, 1, none⟩)) rfl (by kernel_rfl) (by kernel_rfl) (by kernel_rfl) (fun _ _ _ h => h) (Or.inl ⟨by rfl, fun w hSw => by (try dsimp only at hSw); go_split_ands; go_simp⟩) (by assumption) ?_
        simp only [Act.put, List.setIfInBounds_toArray, List.set_cons_zero, List.set_cons_succ]
        refine wpAnyH_take (i := 3) (oi := { dst := some 18, op := _, type := _, pos := _, after := _, guard := _ }) (v := .int .i64 p.f) rfl (by kernel_rfl) (by kernel_rfl) (by kernel_rfl) (fun _ _ _ h => h) (Or.inl ⟨by rfl, fun w hSw => by (try dsimp only at hSw); go_split_ands; go_simp⟩) (by assumption) ?_
        simp only [Act.put, List.setIfInBounds_toArray, List.set_cons_zero, List.set_cons_succ]
        refine wpAnyH_take (i := 5) (oi := { dst := some 20, op := _, type := _, pos := _, after := _, guard := _ }) (v := .pointer (some ⟨w.heap.size, 2, none⟩)) rfl (by kernel_rfl) (by kernel_rfl) (by kernel_rfl) (fun _ _ _ h => h) (Or.inl ⟨by rfl, fun w hSw => by (try dsimp only at hSw); go_split_ands; go_simp⟩) (by assumption) ?_
        simp only [Act.put, List.setIfInBounds_toArray, List.set_cons_zero, List.set_cons_succ]
        refine wpAnyH_take (i := 7) (oi := { dst := some 22, op := _, type := _, pos := _, after := _, guard := _ }) (v := .pointer (some ⟨wr.heap.size, 2, none⟩)) rfl (by kernel_rfl) (by kernel_rfl) (by kernel_rfl) (fun _ _ _ h => h) (Or.inl ⟨by rfl, fun w hSw => by (try dsimp only at hSw); go_split_ands; go_simp⟩) (by assumption) ?_
        simp only [Act.put, List.setIfInBounds_toArray, List.set_cons_zero, List.set_cons_succ]
        refine wpAnyH_take (i := 8) (oi := { dst := some 23, op := _, type := _, pos := _, after := _, guard := _ }) (v := .int .i64 p.t) rfl (by kernel_rfl) (by kernel_rfl) (by kernel_rfl) (fun _ _ _ h => h) (Or.inl ⟨by rfl, fun w hSw => by (try dsimp only at hSw); go_split_ands; go_simp⟩) (by assumption) ?_
        simp only [Act.put, List.setIfInBounds_toArray, List.set_cons_zero, List.set_cons_succ]
        refine wpAnyH_ready (rs := [1, 6]) (by kernel_rfl) (by simp) (AllReadyH.cons (o := { dst := some 16, op := _, type := _, pos := _, after := _, guard := _ }) rfl ?_ (AllReadyH.cons (o := { dst := some 21, op := _, type := _, pos := _, after := _, guard := _ }) rfl ?_ AllReadyH.nil))
        · intro K1 hK1
          obtain ⟨y0, y1, y2⟩ := three hhx0
          go_simp
          refine hK1.out _ _ (HS_x0) (fun _ => ?_)
          clear hK1 K1 y0 y1 y2
          try simp only [Act.put, List.setIfInBounds_toArray, List.set_cons_zero, List.set_cons_succ]
          refine wpAnyH_take (i := 4) (oi := { dst := some 19, op := _, type := _, pos := _, after := _, guard := _ }) (v := .int .i64 (min sf p.f)) rfl (by kernel_rfl) (by kernel_rfl) (by kernel_rfl) (fun _ _ _ h => h) (Or.inl ⟨by rfl, fun w hSw => by (try dsimp only at hSw); go_split_ands; go_simp⟩) (by assumption) ?_
          simp only [Act.put, List.setIfInBounds_toArray, List.set_cons_zero, List.set_cons_succ]
          refine wpAnyH_ready (rs := [6]) (by kernel_rfl) (by simp) (AllReadyH.cons (o := { dst := some 21, op := _, type := _, pos := _, after := _, guard := _ }) rfl ?_ AllReadyH.nil)
          · intro K2 hK2
            obtain ⟨y0, y1, y2⟩ := three hhx0
            go_simp
            refine hK2.out _ _ (HS_x0) (fun _ => ?_)
            clear hK2 K2 y0 y1 y2
            try simp only [Act.put, List.setIfInBounds_toArray, List.set_cons_zero, List.set_cons_succ]
            refine wpAnyH_take (i := 9) (oi := { dst := some 24, op := _, type := _, pos := _, after := _, guard := _ }) (v := .int .i64 (max st p.t)) rfl (by kernel_rfl) (by kernel_rfl) (by kernel_rfl) (fun _ _ _ h => h) (Or.inl ⟨by rfl, fun w hSw => by (try dsimp only at hSw); go_split_ands; go_simp⟩) (by assumption) ?_
            simp only [Act.put, List.setIfInBounds_toArray, List.set_cons_zero, List.set_cons_succ]
            refine wpAnyH_take (i := 10) (oi := { dst := some 25, op := _, type := _, pos := _, after := _, guard := _ }) (v := .pointer (some ⟨w.heap.size, 1, none⟩)) rfl (by kernel_rfl) (by kernel_rfl) (by kernel_rfl) (fun _ _ _ h => h) (Or.inl ⟨by rfl, fun w hSw => by (try dsimp only at hSw); go_split_ands; go_simp⟩) (by assumption) ?_
            simp only [Act.put, List.setIfInBounds_toArray, List.set_cons_zero, List.set_cons_succ]
            refine wpAnyH_ready (rs := [11]) (by kernel_rfl) (by simp) (AllReadyH.cons (o := { dst := none, op := _, type := _, pos := _, after := _, guard := _ }) rfl ?_ AllReadyH.nil)
            · intro K3 hK3
              obtain ⟨y0, y1, y2⟩ := three hhx0
              have z := three_frz (o := 1) hhx0
              go_simp
              obtain ⟨x3, hx3⟩ : ∃ x, x = x0.setCell ⟨w.heap.size, 1, none⟩ (.int .i64 (min sf p.f)) := ⟨_, rfl⟩
              rw [← hx3]
              have hhx3 := set_at (i := 1) (v := .int .i64 (min sf p.f)) hhx0
              have HS_x3 := SPb_set (n := w.heap.size) (o := 1) (v := .int .i64 (min sf p.f)) HS_x0 hne
              rw [← hx3] at hhx3 HS_x3
              have HQx3 := hid hx3
              clear hx3
              refine hK3.out _ _ HS_x3 (fun _ => ?_)
              clear hK3 K3 y0 y1 y2 z
              try simp only [Act.put, List.setIfInBounds_toArray, List.set_cons_zero, List.set_cons_succ]
              refine wpAnyH_take (i := 12) (oi := { dst := some 26, op := _, type := _, pos := _, after := _, guard := _ }) (v := .pointer (some ⟨w.heap.size, 2, none⟩)) rfl (by kernel_rfl) (by kernel_rfl) (by kernel_rfl) (fun _ _ _ h => h) (Or.inl ⟨by rfl, fun w hSw => by (try dsimp only at hSw); go_split_ands; go_simp⟩) (by assumption) ?_
              simp only [Act.put, List.setIfInBounds_toArray, List.set_cons_zero, List.set_cons_succ]
              refine wpAnyH_ready (rs := [13]) (by kernel_rfl) (by simp) (AllReadyH.cons (o := { dst := none, op := _, type := _, pos := _, after := _, guard := _ }) rfl ?_ AllReadyH.nil)
              · intro K4 hK4
                obtain ⟨y0, y1, y2⟩ := three hhx3
                have z := three_frz (o := 2) hhx3
                go_simp
                obtain ⟨x4, hx4⟩ : ∃ x, x = x3.setCell ⟨w.heap.size, 2, none⟩ (.int .i64 (max st p.t)) := ⟨_, rfl⟩
                rw [← hx4]
                have hhx4 := set_at (i := 2) (v := .int .i64 (max st p.t)) hhx3
                have HS_x4 := SPb_set (n := w.heap.size) (o := 2) (v := .int .i64 (max st p.t)) HS_x3 hne
                rw [← hx4] at hhx4 HS_x4
                have HQx4 := hid hx4
                clear hx4
                refine hK4.out _ _ HS_x4 (fun _ => ?_)
                clear hK4 K4 y0 y1 y2 z
                try simp only [Act.put, List.setIfInBounds_toArray, List.set_cons_zero, List.set_cons_succ]
                have HF : Hid (WSt w q ⟨sA, min sf p.f, max st p.t, sB⟩ (.slice aa sA.length ca) (.slice ab sB.length cb) x4) := by unfold Hid; rw [HQx4.out, HQx3.out]; exact HE1.out
                clear HQx4 HQx3 hhx4
                refine wpAnyH_done (by kernel_rfl) ?_ _
                go_wp2
                go_roundw
                case rel => exact ⟨k + 1, _, _, by omega, by go_num, rfl, rfl, by rw [HSS.out]; exact HF⟩
                case measure => simp [intOf]; omega
        · intro K5 hK5
          obtain ⟨y0, y1, y2⟩ := three hhx0
          go_simp
          refine hK5.out _ _ (HS_x0) (fun _ => ?_)
          clear hK5 K5 y0 y1 y2
          try simp only [Act.put, List.setIfInBounds_toArray, List.set_cons_zero, List.set_cons_succ]
          refine wpAnyH_take (i := 9) (oi := { dst := some 24, op := _, type := _, pos := _, after := _, guard := _ }) (v := .int .i64 (max st p.t)) rfl (by kernel_rfl) (by kernel_rfl) (by kernel_rfl) (fun _ _ _ h => h) (Or.inl ⟨by rfl, fun w hSw => by (try dsimp only at hSw); go_split_ands; go_simp⟩) (by assumption) ?_
          simp only [Act.put, List.setIfInBounds_toArray, List.set_cons_zero, List.set_cons_succ]
          refine wpAnyH_ready (rs := [1]) (by kernel_rfl) (by simp) (AllReadyH.cons (o := { dst := some 16, op := _, type := _, pos := _, after := _, guard := _ }) rfl ?_ AllReadyH.nil)
          · intro K6 hK6
            obtain ⟨y0, y1, y2⟩ := three hhx0
            go_simp
            refine hK6.out _ _ (HS_x0) (fun _ => ?_)
            clear hK6 K6 y0 y1 y2
            try simp only [Act.put, List.setIfInBounds_toArray, List.set_cons_zero, List.set_cons_succ]
            refine wpAnyH_take (i := 4) (oi := { dst := some 19, op := _, type := _, pos := _, after := _, guard := _ }) (v := .int .i64 (min sf p.f)) rfl (by kernel_rfl) (by kernel_rfl) (by kernel_rfl) (fun _ _ _ h => h) (Or.inl ⟨by rfl, fun w hSw => by (try dsimp only at hSw); go_split_ands; go_simp⟩) (by assumption) ?_
            simp only [Act.put, List.setIfInBounds_toArray, List.set_cons_zero, List.set_cons_succ]
            refine wpAnyH_take (i := 10) (oi := { dst := some 25, op := _, type := _, pos := _, after := _, guard := _ }) (v := .pointer (some ⟨w.heap.size, 1, none⟩)) rfl (by kernel_rfl) (by kernel_rfl) (by kernel_rfl) (fun _ _ _ h => h) (Or.inl ⟨by rfl, fun w hSw => by (try dsimp only at hSw); go_split_ands; go_simp⟩) (by assumption) ?_
            simp only [Act.put, List.setIfInBounds_toArray, List.set_cons_zero, List.set_cons_succ]
            refine wpAnyH_ready (rs := [11]) (by kernel_rfl) (by simp) (AllReadyH.cons (o := { dst := none, op := _, type := _, pos := _, after := _, guard := _ }) rfl ?_ AllReadyH.nil)
            · intro K7 hK7
              obtain ⟨y0, y1, y2⟩ := three hhx0
              have z := three_frz (o := 1) hhx0
              go_simp
              obtain ⟨x7, hx7⟩ : ∃ x, x = x0.setCell ⟨w.heap.size, 1, none⟩ (.int .i64 (min sf p.f)) := ⟨_, rfl⟩
              rw [← hx7]
              have hhx7 := set_at (i := 1) (v := .int .i64 (min sf p.f)) hhx0
              have HS_x7 := SPb_set (n := w.heap.size) (o := 1) (v := .int .i64 (min sf p.f)) HS_x0 hne
              rw [← hx7] at hhx7 HS_x7
              have HQx7 := hid hx7
              clear hx7
              refine hK7.out _ _ HS_x7 (fun _ => ?_)
              clear hK7 K7 y0 y1 y2 z
              try simp only [Act.put, List.setIfInBounds_toArray, List.set_cons_zero, List.set_cons_succ]
              refine wpAnyH_take (i := 12) (oi := { dst := some 26, op := _, type := _, pos := _, after := _, guard := _ }) (v := .pointer (some ⟨w.heap.size, 2, none⟩)) rfl (by kernel_rfl) (by kernel_rfl) (by kernel_rfl) (fun _ _ _ h => h) (Or.inl ⟨by rfl, fun w hSw => by (try dsimp only at hSw); go_split_ands; go_simp⟩) (by assumption) ?_
              simp only [Act.put, List.setIfInBounds_toArray, List.set_cons_zero, List.set_cons_succ]
              refine wpAnyH_ready (rs := [13]) (by kernel_rfl) (by simp) (AllReadyH.cons (o := { dst := none, op := _, type := _, pos := _, after := _, guard := _ }) rfl ?_ AllReadyH.nil)
              · intro K8 hK8
                obtain ⟨y0, y1, y2⟩ := three hhx7
                have z := three_frz (o := 2) hhx7
                go_simp
                obtain ⟨x8, hx8⟩ : ∃ x, x = x7.setCell ⟨w.heap.size, 2, none⟩ (.int .i64 (max st p.t)) := ⟨_, rfl⟩
                rw [← hx8]
                have hhx8 := set_at (i := 2) (v := .int .i64 (max st p.t)) hhx7
                have HS_x8 := SPb_set (n := w.heap.size) (o := 2) (v := .int .i64 (max st p.t)) HS_x7 hne
                rw [← hx8] at hhx8 HS_x8
                have HQx8 := hid hx8
                clear hx8
                refine hK8.out _ _ HS_x8 (fun _ => ?_)
                clear hK8 K8 y0 y1 y2 z
                try simp only [Act.put, List.setIfInBounds_toArray, List.set_cons_zero, List.set_cons_succ]
                have HF : Hid (WSt w q ⟨sA, min sf p.f, max st p.t, sB⟩ (.slice aa sA.length ca) (.slice ab sB.length cb) x8) := by unfold Hid; rw [HQx8.out, HQx7.out]; exact HE1.out
                clear HQx8 HQx7 hhx8
                refine wpAnyH_done (by kernel_rfl) ?_ _
                go_wp2
                go_roundw
                case rel => exact ⟨k + 1, _, _, by omega, by go_num, rfl, rfl, by rw [HSS.out]; exact HF⟩
                case measure => simp [intOf]; omega
end Go.Proofs.YtkbaaidnkkcpoaaGreat.Blk
/- Stones with one more: the model's l9Cover. -/
namespace Go.Proofs.YtkbaaidnkkcpoaaGreat.Blk
open Go.RowKit
open Go.Proofs.YtkbaaidnkkcpoaaGreat.Lab (Lb HasL cmpList)
open Go.Proofs.YtkbaaidnkkcpoaaGreat.Smp (In64 own_form)
open Go.Proofs.YtkbaaidnkkcpoaaGreat.Srs (hid lt_at kept own_base own_below set_at set_else)
open Go.Proofs.YtkbaaidnkkcpoaaGreat.Stn (T t0 HasT SmlT agT three three_frz infoT pl)

theorem WSt.set1 {w : World} {q : T} {sA sB : List T} {f t : Int} {va vb : Value} {x : World} (h : WSt w q ⟨sA, f, t, sB⟩ va vb x) (g : Int) : WSt w q ⟨sA, g, t, sB⟩ va vb (x.setCell ⟨w.heap.size, 1, none⟩ (.int .i64 g)) :=
  ⟨set_at (i := 1) h.box, own_setX h.ra (by simp) _, own_setX h.rb (by simp) _, h.ap, h.bel.setCell (p := ⟨w.heap.size, 1, none⟩) (Nat.le_refl _) _⟩
theorem WSt.set2 {w : World} {q : T} {sA sB : List T} {f t : Int} {va vb : Value} {x : World} (h : WSt w q ⟨sA, f, t, sB⟩ va vb x) (g : Int) : WSt w q ⟨sA, f, g, sB⟩ va vb (x.setCell ⟨w.heap.size, 2, none⟩ (.int .i64 g)) :=
  ⟨set_at (i := 2) h.box, own_setX h.ra (by simp) _, own_setX h.rb (by simp) _, h.ap, h.bel.setCell (p := ⟨w.heap.size, 2, none⟩) (Nat.le_refl _) _⟩
set_option maxRecDepth 10000 in
set_option maxHeartbeats 4000000 in
theorem f75 (a : Option Addr) (c : Nat) (L : List T) (q : T) (w : World) (hn : L.length ≤ 100) (hr : HasT w a L) (hq : HasL w q.a q.l) (hL : ∀ p ∈ L, Tm p.f ∧ Tm p.t) (hf : Tm q.f) (ht : Tm q.t) :
    Calls Tryz.prog 75 #[.slice a L.length c, agT q] w fun e w' => ∃ v, e = .returned v ∧ Hid (RowO w w.heap.size v (cov L q) w') ∧ Below w.heap.size w w' := by
  obtain ⟨i0, hi, hz0, hz1, hz2⟩ := info_parts infoT
  have HOk := hid (cvK_ok hf ht hL)
  have HR := hid hr
  have HQ := hid hq
  have HL := hid hL
  have H0 : Hid (WSt w q (cvK L q.f q.t 0) (.slice none 0 0) (.slice none 0 0) (w.alloc (boxT q))) := WSt.new
  clear hr hq hL hf ht
  simp only [boxT] at H0
  simp only [agT]
  go_enter Tryz.func75, Tryz.ntmps75
  go_wp2
  go_loopw [5, 6, 11] (fun sa sb si wr => ∃ (k : Nat) (va vb : Value), k ≤ L.length ∧ si = .int .i64 k ∧ sa = va ∧ sb = vb ∧ Hid (WSt w q (cvK L q.f q.t k) va vb wr)) (fun _ _ si _ => L.length - (intOf si).toNat)
  case atStart => exact ⟨0, _, _, Nat.zero_le _, rfl, rfl, rfl, H0⟩
  case round =>
    clear H0
    obtain ⟨k, va, vb, hk, rfl, rfl, rfl, HX⟩ := hrel
    obtain ⟨aa, ca, rfl⟩ := own_form HX.out.ra
    by_cases hlt : k < L.length
    rotate_left
    · obtain rfl : k = L.length := by omega
      have i1 : ¬ (L.length : Int) < (L.length : Int) := by omega
      have hOk := HOk.out L.length (Nat.le_refl _)
      have HCov := hid (cov_parts L q)
      have HMem : Hid (∀ p ∈ cov L q, HasL w p.a p.l) := by
        intro p hp
        rw [HCov.out] at hp
        rcases List.mem_append.1 hp with h | h
        · rcases List.mem_append.1 h with h | h
          · exact hasT_mem HR.out (hOk.ma p h)
          · rw [List.mem_singleton.1 h]; exact HQ.out
        · exact hasT_mem HR.out (hOk.mb p h)
      have hlen := hOk.len
      clear hOk
      generalize hcv : cvK L q.f q.t L.length = s at *
      obtain ⟨sA, sf, st, sB⟩ := s
      simp only at hlen HCov HX
      have hba := (Below.refl wr.heap.size wr).alloc (Nat.le_refl _) (boxT ⟨q.l, q.a, q.c, sf, st⟩)
      have HW2 := hid (HX.out.below hba)
      have HCl := hid (cells_new wr ⟨q.l, q.a, q.c, sf, st⟩)
      have HC1' := hid (cl_one ⟨q.l, q.a, q.c, sf, st⟩)
      obtain ⟨e0, e1, e2⟩ := three HX.out.box
      clear hba hcv
      rcases HX.out.rb.2 with ⟨rfl, hB⟩ | ⟨gb, cb, cur, rfl, _⟩
      · obtain rfl : sB = [] := List.eq_nil_of_length_eq_zero hB
        go_wp2_with (at_builtin; refine wpList_append_own_at _ rfl (.tmp 54) (.tmp 56) 42 rfl (w.heap.size + 1) 87 i0 (.agg #[.slice none 0 0, .int .i64 0, .int .i64 0]) 3 40 Tryz.underlying42 hi hz0 hz1 hz2 rfl (by decide) _ _ _ rfl HW2.out.ra ⟨wr.heap.size, 0, none⟩ 1 1 (Stn.cl ⟨q.l, q.a, q.c, sf, st⟩) rfl rfl HCl.out HC1'.out ?d3 ?d4 ?d5 ?_)
        case d3 => unfold maxLen; omega
        case d4 => omega
        case d5 => first | exact HW2.out.gt | (have := HX.out.gt; omega)
        intro v2 w3 hown1 hgr1 _ hat1
        have HW3 := hid (HW2.out.pushA hown1 hgr1 (by rw [World.size_alloc]; exact hat1))
        clear hown1 hgr1 hat1
        go_wp2_with (at_builtin; refine wpList_append_own_none rfl (.tmp 57) (.tmp 58) 42 rfl (w.heap.size + 1) 87 i0 3 Tryz.underlying42 hi _ _ _ rfl HW3.out.ra rfl ?_)
        have HF : Hid (RowO w w.heap.size v2 (cov L q) w3 ∧ Below w.heap.size w w3) := ⟨⟨own_base (by rw [HCov.out, List.append_nil]; exact HW3.out.ra) (by omega), HMem.out⟩, HW3.out.bel⟩
        go_wp2
        go_ret
        exact ⟨_, rfl, HF.out.1, HF.out.2⟩
      · go_wp2_with (at_builtin; refine wpList_append_own_at _ rfl (.tmp 54) (.tmp 56) 42 rfl (w.heap.size + 1) 87 i0 (.agg #[.slice none 0 0, .int .i64 0, .int .i64 0]) 3 40 Tryz.underlying42 hi hz0 hz1 hz2 rfl (by decide) _ _ _ rfl HW2.out.ra ⟨wr.heap.size, 0, none⟩ 1 1 (Stn.cl ⟨q.l, q.a, q.c, sf, st⟩) rfl rfl HCl.out HC1'.out ?d3 ?d4 ?d5 ?_)
        case d3 => unfold maxLen; omega
        case d4 => omega
        case d5 => first | exact HW2.out.gt | (have := HX.out.gt; omega)
        intro v2 w3 hown1 hgr1 _ hat1
        have HW3 := hid (HW2.out.pushA hown1 hgr1 (by rw [World.size_alloc]; exact hat1))
        clear hown1 hgr1 hat1
        have HCB : Hid (∀ j u, (Stn.flat sB)[j]? = some u → w3.cell? ((⟨gb, 0, none⟩ : Addr).add j) = some u) := World.ownsRow.cells HW3.out.rb rfl
        have HOB := hid (flatT_oneCell sB)
        have HFB := hid (Stn.flat_len sB)
        go_wp2_with (at_builtin; refine wpList_append_own _ rfl (.tmp 57) (.tmp 58) 42 rfl (w.heap.size + 1) 87 i0 (.agg #[.slice none 0 0, .int .i64 0, .int .i64 0]) 3 40 Tryz.underlying42 hi hz0 hz1 hz2 rfl (by decide) _ _ _ rfl HW3.out.ra ⟨gb, 0, none⟩ sB.length cb (Stn.flat sB) rfl HFB.out HCB.out HOB.out ?d3 ?d4 ?d5 ?_)
        case d3 => unfold maxLen; omega
        case d4 => omega
        case d5 => exact HW3.out.gt
        intro v4 w4 hown2 hgr2 _
        have HF : Hid (RowO w w.heap.size v4 (cov L q) w4 ∧ Below w.heap.size w w4) := by
          refine ⟨⟨own_base ?_ (Nat.le_succ _), HMem.out⟩, HW3.out.bel.grown hgr2 HW3.out.bel.size (fun j hj => by have := (HW3.out.ra.lt j hj).1; omega)⟩
          rw [HCov.out, Stn.flat_append]
          simp only [List.length_append, List.length_cons, List.length_nil]
          exact hown2
        clear hown2 hgr2
        go_wp2
        go_ret
        exact ⟨_, rfl, HF.out.1, HF.out.2⟩
    obtain ⟨ab, cb, rfl⟩ := own_form HX.out.rb
    have hOk := HOk.out k (by omega)
    obtain ⟨hlen, ⟨f0, f1⟩, ⟨g0, g1⟩, hma, hmb⟩ := hOk
    have HS := hid (cvK_succ (f := q.f) (t := q.t) hlt)
    obtain ⟨bb, off, rfl, hbl, ⟨c0, c1, c2⟩, t1⟩ := (HR.out.below HX.out.bel).at2 k hlt
    have hm : L.getD k t0 ∈ L := by rw [List.getD_eq_getElem?_getD, List.getElem?_eq_getElem hlt]; exact List.getElem_mem _
    obtain ⟨⟨u0, u1⟩, ⟨v0, v1⟩⟩ := HL.out _ hm
    clear hma hmb hm t1
    generalize L.getD k t0 = p at *
    have i1 : (k : Int) < (L.length : Int) := by omega
    generalize hcv : cvK L q.f q.t k = s at *
    obtain ⟨sA, sf, st, sB⟩ := s
    simp only at hlen f0 f1 g0 g1 HX
    have hba := (Below.refl wr.heap.size wr).alloc (Nat.le_refl _) (boxT p)
    have HW := hid (HX.out.below hba)
    have HPb := hid (heap_alloc_new wr (boxT p))
    have hne : w.heap.size ≠ wr.heap.size := fun e => by have := HX.out.gt; omega
    clear hba hcv
    obtain ⟨d0, d1, d2⟩ := three HPb.out
    obtain ⟨e0, e1, e2⟩ := three HW.out.box
    by_cases h1 : p.t + 1 < sf
    · have HSS : Hid (cvK L q.f q.t (k + 1) = ⟨sA ++ [p], sf, st, sB⟩) := by unfold Hid; rw [HS.out]; unfold cvStep; rw [if_pos h1]
      have hba := (Below.refl (wr.alloc (boxT p)).heap.size (wr.alloc (boxT p))).alloc (Nat.le_refl _) (boxT p)
      have HW2 := hid (HW.out.below hba)
      have HCl := hid (cells_new (wr.alloc (boxT p)) p)
      have HC1' := hid (cl_one p)
      clear hba
      go_wp2_with (at_builtin; refine wpList_append_own_at _ rfl (.tmp 38) (.tmp 40) 42 rfl (w.heap.size + 1) 87 i0 (.agg #[.slice none 0 0, .int .i64 0, .int .i64 0]) 3 40 Tryz.underlying42 hi hz0 hz1 hz2 rfl (by decide) _ _ _ rfl HW2.out.ra ⟨wr.heap.size + 1, 0, none⟩ 1 1 (Stn.cl p) rfl rfl (by have h := HCl.out; rw [World.size_alloc] at h; exact h) HC1'.out ?d3 ?d4 ?d5 ?_)
      case d3 => unfold maxLen; omega
      case d4 => omega
      case d5 => first | exact HW2.out.gt | (have := HX.out.gt; omega)
      intro v2 w3 hown1 hgr1 _ hat1
      have HW3 := hid (HW2.out.pushA hown1 hgr1 (by rw [World.size_alloc, World.size_alloc]; exact hat1))
      clear hown1 hgr1 hat1
      go_wp2
      go_roundw
      case rel => exact ⟨k + 1, _, _, by omega, by go_num, rfl, rfl, by rw [HSS.out]; exact HW3⟩
      case measure => simp [intOf]; omega
    · by_cases h2 : st + 1 < p.f
      · have HSS : Hid (cvK L q.f q.t (k + 1) = ⟨sA, sf, st, sB ++ [p]⟩) := by unfold Hid; rw [HS.out]; unfold cvStep; rw [if_neg h1, if_pos h2]
        have hba := (Below.refl (wr.alloc (boxT p)).heap.size (wr.alloc (boxT p))).alloc (Nat.le_refl _) (boxT p)
        have HW2 := hid (HW.out.below hba)
        have HCl := hid (cells_new (wr.alloc (boxT p)) p)
        have HC1' := hid (cl_one p)
        clear hba
        go_wp2_with (at_builtin; refine wpList_append_own_at _ rfl (.tmp 49) (.tmp 51) 42 rfl (w.heap.size + 1) 87 i0 (.agg #[.slice none 0 0, .int .i64 0, .int .i64 0]) 3 40 Tryz.underlying42 hi hz0 hz1 hz2 rfl (by decide) _ _ _ rfl HW2.out.rb ⟨wr.heap.size + 1, 0, none⟩ 1 1 (Stn.cl p) rfl rfl (by have h := HCl.out; rw [World.size_alloc] at h; exact h) HC1'.out ?d3 ?d4 ?d5 ?_)
        case d3 => unfold maxLen; omega
        case d4 => omega
        case d5 => first | exact HW2.out.gt | (have := HX.out.gt; omega)
        intro v2 w3 hown1 hgr1 _ hat1
        have HW3 := hid (HW2.out.pushB hown1 hgr1 (by rw [World.size_alloc, World.size_alloc]; exact hat1))
        clear hown1 hgr1 hat1
        go_wp2
        go_roundw
        case rel => exact ⟨k + 1, _, _, by omega, by go_num, rfl, rfl, by rw [HSS.out]; exact HW3⟩
        case measure => simp [intOf]; omega
      · have HSS : Hid (cvK L q.f q.t (k + 1) = ⟨sA, min sf p.f, max st p.t, sB⟩) := by unfold Hid; rw [HS.out]; unfold cvStep; rw [if_neg h1, if_neg h2]
        have fz1 := three_frz (o := 1) HW.out.box
        have fz2 := three_frz (o := 2) HW.out.box
        by_cases h3 : p.f < sf
        · have E1 : Hid (min sf p.f = p.f) := by unfold Hid; omega
          by_cases h4 : p.t > st
          · have E2 : Hid (max st p.t = p.t) := by unfold Hid; omega
            have HF := hid ((HW.out.set1 p.f).set2 p.t)
            go_wp2
            go_roundw
            case rel => exact ⟨k + 1, _, _, by omega, by go_num, rfl, rfl, by rw [HSS.out, E1.out, E2.out]; exact HF⟩
            case measure => simp [intOf]; omega
          · have E2 : Hid (max st p.t = st) := by unfold Hid; omega
            have HF := hid (HW.out.set1 p.f)
            go_wp2
            go_roundw
            case rel => exact ⟨k + 1, _, _, by omega, by go_num, rfl, rfl, by rw [HSS.out, E1.out, E2.out]; exact HF⟩
            case measure => simp [intOf]; omega
        · have E1 : Hid (min sf p.f = sf) := by unfold Hid; omega
          by_cases h4 : p.t > st
          · have E2 : Hid (max st p.t = p.t) := by unfold Hid; omega
            have HF := hid (HW.out.set2 p.t)
            go_wp2
            go_roundw
            case rel => exact ⟨k + 1, _, _, by omega, by go_num, rfl, rfl, by rw [HSS.out, E1.out, E2.out]; exact HF⟩
            case measure => simp [intOf]; omega
          · have E2 : Hid (max st p.t = st) := by unfold Hid; omega
            have HF := hid HW.out
            go_wp2
            go_roundw
            case rel => exact ⟨k + 1, _, _, by omega, by go_num, rfl, rfl, by rw [HSS.out, E1.out, E2.out]; exact HF⟩
            case measure => simp [intOf]; omega
end Go.Proofs.YtkbaaidnkkcpoaaGreat.Blk
