/- Lists of lists of labels: how they lie in memory; measured, copied, compared, opened. -/
import Derived.Test.YthcogkoleiejgaaGreatRRwc
import Derived.Test.YthcogkoleiejgaaGreatRFm
import Derived.Test.YthcogkoleiejgaaGreatROpl
import Derived.Deep.SlicePairs
import Derived.OpenShut
import Derived.ChangeOld
namespace Go.Proofs.YthcogkoleiejgaaGreat.Lss
open Go.ChangeShapes Go.WideShapes Go.ChangeAt Go.RowKit Go.Deep Go.WideElems Go.Maps
open Go.Proofs.YthcogkoleiejgaaGreat.Lab (Lb HasL)
open Go.Proofs.YthcogkoleiejgaaGreat.Rwc

structure T where
  l : List Lb
  a : Option Addr
  c : Nat
def t0 : T := ⟨[], none, 0⟩
instance : Inhabited T := ⟨t0⟩
abbrev vT (q : T) : Value := .slice q.a q.l.length q.c
def flat (L : List T) : List Value := L.map fun q => vT q
theorem flat_len (L : List T) : (flat L).length = L.length := by simp [flat]
theorem flat_get (L : List T) (i : Nat) (h : i < L.length) : (flat L)[i]? = some (vT (L.getD i t0)) := by simp [flat, h]
theorem flat_set (L : List T) (i : Nat) (q : T) : (flat L).set i (vT q) = flat (L.set i q) := by simp [flat, List.map_set]
theorem made (n : Nat) : (madeCells #[.slice none 0 0] n).toList = flat (List.replicate n t0) := by
  apply List.ext_getElem?
  intro j
  by_cases hj : j < n
  · unfold madeCells flat
    simp [hj, t0, Nat.mod_one]
  · rw [List.getElem?_eq_none (by simp [size_madeCells]; omega), List.getElem?_eq_none (by rw [flat_len]; simp; omega)]
def Has (w : World) (a : Option Addr) (ts : List T) : Prop :=
  ts = [] ∨ ∃ b off, a = some ⟨b, off, none⟩ ∧ b < w.heap.size ∧ ∀ i, i < ts.length → w.cell? ⟨b, off + i, none⟩ = some (vT (ts.getD i t0)) ∧ HasL w (ts.getD i t0).a (ts.getD i t0).l
theorem Has.below {w w' : World} {a : Option Addr} {ts : List T} (h : Has w a ts) (hb : Below w.heap.size w w') : Has w' a ts := by
  rcases h with h | ⟨b, off, h1, h2, h3⟩
  · exact .inl h
  · exact .inr ⟨b, off, h1, Nat.lt_of_lt_of_le h2 hb.size, fun i hi => ⟨(hb.cell (by exact h2)).trans (h3 i hi).1, (h3 i hi).2.below hb⟩⟩
theorem Has.at2 {w : World} {a : Option Addr} {ts : List T} (h : Has w a ts) (i : Nat) (hi : i < ts.length) : ∃ b off, a = some ⟨b, off, none⟩ ∧ b < w.heap.size ∧ w.cell? ⟨b, off + i, none⟩ = some (vT (ts.getD i t0)) ∧ HasL w (ts.getD i t0).a (ts.getD i t0).l := by
  rcases h with h | ⟨b, off, h1, h2, h3⟩
  · rw [h] at hi; simp at hi
  · exact ⟨b, off, h1, h2, h3 i hi⟩
def Fit (ts : List T) : Prop := ∀ i, Lab.Fit (ts.getD i t0).l ∧ (ts.getD i t0).l.length ≤ maxLen
def Sml (ts : List T) : Prop := ∀ i, i < ts.length → (ts.getD i t0).l.length ≤ 1048576
def Same (n : Nat) (ts ts' : List T) : Prop := ∀ i, i < n → (ts'.getD i t0).l = (ts.getD i t0).l
theorem fit_t0 : Lab.Fit t0.l ∧ t0.l.length ≤ maxLen := ⟨fun i => by simp [t0, Lab.e0, maxLen], Nat.zero_le _⟩
theorem Same.fit {n : Nat} {ts ts' : List T} (h : Same n ts ts') (hn' : ts'.length = n) (hf : Fit ts) : Fit ts' := by
  intro i
  by_cases hi : i < n
  · rw [h i hi]; exact hf i
  · rw [List.getD_eq_getElem?_getD, List.getElem?_eq_none (by omega)]; exact fit_t0
theorem Same.sml {n : Nat} {ts ts' : List T} (h : Same n ts ts') (hn : ts.length = n) (hn' : ts'.length = n) (hz : Sml ts) : Sml ts' := by
  intro i hi
  rw [h i (by omega)]
  exact hz i (by omega)
theorem Same.trans' {n : Nat} {ts d e : List T} (s : Same n ts d) (r : Same n ts e) : Same n d e := fun i hi => (r i hi).trans (s i hi).symm

set_option maxHeartbeats 2000000 in
theorem f5 (a : Option Addr) (n c : Nat) (L : Int) (ts : List T) (w : World) (hL0 : 0 ≤ L) (hL1 : L ≤ 1048576) (hn : ts.length = n) (hr : Has w a ts) (hf : Fit ts) (hmax : n ≤ maxLen) :
    Calls Tryz.prog 5 #[.slice a n c, .int .i64 L] w fun e w' => ∃ y : Int, e = .returned (.int .i64 y) ∧ -1 ≤ y ∧ y ≤ 1048576 ∧ (0 ≤ y → n ≤ 1048576 ∧ Sml ts) ∧ Below w.heap.size w w' := by
  unfold maxLen at hmax
  by_cases hbig : n ≤ L
  · have HN := hid hn
    have HR := hid hr
    have HF := hid hf
    clear hn hr hf
    go_enter Tryz.func5, Tryz.ntmps5
    go_wp2
    go_loopw [1, 5] (fun sx i wr => ∃ (k : Nat) (x : Int), k ≤ n ∧ i = .int .i64 k ∧ sx = .int .i64 x ∧ 0 ≤ x ∧ x ≤ 1048576 ∧ Hid (∀ i, i < k → (ts.getD i t0).l.length ≤ 1048576) ∧ Hid (Below w.heap.size w wr)) (fun _ i _ => n - (intOf i).toNat)
    case atStart => exact ⟨0, _, Nat.zero_le _, rfl, rfl, by omega, by omega, fun i hi => absurd hi (by omega), Below.refl _ _⟩
    case round =>
      obtain ⟨k, x, hk, rfl, rfl, hx0, hx1, HS, HB⟩ := hrel
      by_cases hlt : k < n
      · obtain ⟨b, off, rfl, hbl, hc, hl⟩ := (HR.out.below HB.out).at2 k (by rw [HN.out]; exact hlt)
        have HL := hid hl
        have G := hid (HF.out k)
        have HNx : Hid ((ts.getD k t0).l.length ≤ 1048576 → ∀ i, i < k + 1 → (ts.getD i t0).l.length ≤ 1048576) := by
          intro h i hi
          by_cases e : i = k
          · subst e; exact h
          · exact HS.out i (by omega)
        have i1 : (k : Int) < (n : Int) := by omega
        clear hl hbl
        generalize ts.getD k t0 = q at *
        go_wp2_with fail
        refine (Lab.f24L x hx0 hx1 q.a q.l.length q.c q.l _ rfl HL.out G.out.1 G.out.2).mono ?_
        rintro e w2 ⟨y, rfl, hy, y0, y1, hb2⟩
        have HB2 := hid (HB.out.trans (hb2.mono HB.out.size))
        clear hb2 hc HB
        by_cases hy0 : y < 0
        · go_wp2
          go_ret
          exact ⟨-1, rfl, by omega, by omega, fun h => absurd h (by omega), HB2.out⟩
        · have HY := hid (HNx.out (hy (by omega)))
          clear hy
          go_wp2
          go_roundw
          case rel => exact ⟨k + 1, y, by omega, by go_num, rfl, by omega, by omega, HY, HB2.out⟩
          case measure => simp [intOf]; omega
      · obtain rfl : k = n := by omega
        have HZ : Hid (Sml ts) := fun i hi => HS.out i (by have := HN.out; omega)
        go_wp2
        go_ret
        exact ⟨x, rfl, by omega, by omega, fun _ => ⟨by omega, HZ.out⟩, HB.out⟩
  · go_enter Tryz.func5, Tryz.ntmps5
    go_wp2
    go_ret
    exact ⟨-1, rfl, by omega, by omega, by omega, Below.refl _ _⟩

theorem infoT : (Tryz.prog.info? 33).map (fun i => (i.zero, i.size, i.bytes)) = some (some (.slice none 0 0), 1, 24) := by kernel_rfl
theorem step_set (d : List T) (n k : Nat) (q : T) (hd : d.length = k) (hk : k < n) : (d ++ List.replicate (n - k) t0).set k q = (d ++ [q]) ++ List.replicate (n - (k + 1)) t0 := by
  rw [List.set_append_right _ _ (by omega), hd, Nat.sub_self, show n - k = (n - (k + 1)) + 1 from by omega, List.replicate_succ, List.set_cons_zero, List.append_assoc]
  rfl
theorem getD_snoc (d : List T) (q : T) (i : Nat) : (d ++ [q]).getD i t0 = if i = d.length then q else d.getD i t0 := by
  rw [List.getD_eq_getElem?_getD, List.getD_eq_getElem?_getD]
  by_cases h : i < d.length
  · rw [List.getElem?_append_left h, if_neg (by omega)]
  · rw [List.getElem?_append_right (by omega)]
    by_cases e : i = d.length
    · rw [if_pos e, e, Nat.sub_self]; rfl
    · rw [if_neg e, List.getElem?_eq_none (by simp; omega), List.getElem?_eq_none (by omega)]
/-- Labels in memory of their own, behind B. -/
def Far (X B : Nat) (q : T) (w : World) : Prop := ∃ g, q.a = some ⟨g, 0, none⟩ ∧ B < g ∧ w.ownsRow X 53 2 (.slice (some ⟨g, 0, none⟩) q.l.length q.c) q.l.length (Lab.flat q.l)
theorem Far.below {X B : Nat} {q : T} {w w' : World} (h : Far X B q w) (hb : Below w.heap.size w w') : Far X B q w' := by
  obtain ⟨g, h1, h2, h3⟩ := h
  exact ⟨g, h1, h2, own_below h3 hb⟩
theorem Far.set {X B o : Nat} {q : T} {w : World} {v : Value} (h : Far X B q w) : Far X B q (w.setCell ⟨B, o, none⟩ v) := by
  obtain ⟨g, h1, h2, h3⟩ := h
  exact ⟨g, h1, h2, own_set h3 (by simp only; omega) v⟩
theorem Far.has {X B : Nat} {q : T} {w : World} (h : Far X B q w) : HasL w q.a q.l := by
  obtain ⟨g, h1, h2, h3⟩ := h
  rw [h1]; exact Lab.HasL.own h3

set_option maxHeartbeats 4000000 in
theorem f9 (a : Option Addr) (n c : Nat) (ts : List T) (w : World) (hn : ts.length = n) (hb : n ≤ 1048576) (hr : Has w a ts) (hz : Sml ts) :
    Calls Tryz.prog 9 #[.slice a n c] w fun e w' => ∃ ts' : List T, e = .returned (.slice (some ⟨w.heap.size, 0, none⟩) n n) ∧ Same n ts ts' ∧ ts'.length = n ∧ Has w' (some ⟨w.heap.size, 0, none⟩) ts' ∧ Below w.heap.size w w' := by
  obtain ⟨i0, hi, hz0, hz1, hz2⟩ := info_parts infoT
  have HN := hid hn
  have HR := hid hr
  have HZ := hid hz
  clear hn hr hz
  go_enter Tryz.func9, Tryz.ntmps9
  go_wp2_with (at_make; refine wpList_make_full _ rfl _ _ 31 rfl w.heap.size 33 i0 (.slice none 0 0) 1 Tryz.underlying31 hi hz0 hz1 _ _ _ _ n rfl rfl rfl rfl ?b2 ?b3 (Nat.le_refl _) ?_)
  case b2 => rw [hz2]; omega
  case b3 => unfold maxLen; omega
  intro w0 hown0 hgrow0
  have hown1 : Hid (w0.ownsRow w.heap.size 33 1 (.slice (some ⟨w.heap.size, 0, none⟩) n n) n (flat (List.replicate n t0))) := by
    rw [← made]; exact hown0
  have hb0 := hid ((Below.refl w.heap.size w).grown hgrow0 (Nat.le_refl _) (fun k h => by cases h))
  clear hown0 hgrow0
  go_wp2
  go_loopw [4] (fun i wr => ∃ (k : Nat) (d : List T), k ≤ n ∧ i = .int .i64 k ∧ Hid (Same k ts d ∧ d.length = k) ∧ Hid (∀ i, i < k → Far w.heap.size w.heap.size (d.getD i t0) wr) ∧ Hid (wr.ownsRow w.heap.size 33 1 (.slice (some ⟨w.heap.size, 0, none⟩) n n) n (flat (d ++ List.replicate (n - k) t0))) ∧ Hid (Below w.heap.size w wr))
    (fun i _ => n - (intOf i).toNat)
  case atStart => exact ⟨0, [], Nat.zero_le _, rfl, ⟨fun i hi => by omega, rfl⟩, fun i hi => by omega, by unfold Hid; simpa using hown1.out, hb0.out⟩
  case round =>
    obtain ⟨k, d, hk, rfl, HSm, HD, HO, HX⟩ := hrel
    by_cases hlt : k < n
    · obtain ⟨b, off, rfl, hbl, hc, hT1⟩ := (HR.out.below HX.out).at2 k (by rw [HN.out]; exact hlt)
      have HT1 := hid hT1
      have HS := hid (HZ.out k (by rw [HN.out]; exact hlt))
      obtain ⟨q, hq⟩ : ∃ q, q = ts.getD k t0 := ⟨_, rfl⟩
      have HQ := hid hq
      rw [← hq] at hc HT1 HS
      have i1 : (k : Int) < (n : Int) := by omega
      clear hT1 hbl hq
      go_wp2_with fail
      refine (Lab.f10 q.a q.l.length q.c q.l _ rfl HS.out HT1.out).mono ?_
      rintro e w2 ⟨rfl, ho2, hb2⟩
      have HO2 := hid (own_below HO.out hb2)
      have HX2 := hid (HX.out.trans (hb2.mono HX.out.size))
      have hltr := (HO.out.lt w.heap.size rfl).2
      obtain ⟨S, hS⟩ : ∃ S, S = wr.heap.size := ⟨_, rfl⟩
      rw [← hS] at ho2 hltr ⊢
      have HF2 : Hid (Far w.heap.size w.heap.size ⟨q.l, some ⟨S, 0, none⟩, q.l.length⟩ w2) := ⟨S, rfl, hltr, own_base ho2 (by rw [hS]; exact HX.out.size)⟩
      have HD2 : Hid (∀ i, i < k → Far w.heap.size w.heap.size (d.getD i t0) w2) := fun i hi => (HD.out i hi).below hb2
      have HL : Hid ((d ++ List.replicate (n - k) t0).length = n) := by unfold Hid; have := HSm.out.2; simp; omega
      have z0 := (HO2.out.cellAt k (by omega)).trans (flat_get (d ++ List.replicate (n - k) t0) k (by rw [HL.out]; exact hlt))
      have f0 := HO2.out.frozenAt k
      have HE : Hid (∀ wz, wz = w2.setCell ⟨w.heap.size, k, none⟩ (.slice (some ⟨S, 0, none⟩) q.l.length q.l.length) → (∀ i, i < k + 1 → Far w.heap.size w.heap.size ((d ++ [(⟨q.l, some ⟨S, 0, none⟩, q.l.length⟩ : T)]).getD i t0) wz) ∧ wz.ownsRow w.heap.size 33 1 (.slice (some ⟨w.heap.size, 0, none⟩) n n) n (flat ((d ++ [(⟨q.l, some ⟨S, 0, none⟩, q.l.length⟩ : T)]) ++ List.replicate (n - (k + 1)) t0)) ∧ Below w.heap.size w wz) := by
        rintro wz rfl
        refine ⟨fun i hi => ?_, ?_, HX2.out.setCell (Nat.le_refl _) _⟩
        · rw [getD_snoc]
          by_cases e : i = d.length
          · rw [if_pos e]; exact HF2.out.set
          · rw [if_neg e]; exact (HD2.out i (by have := HSm.out.2; omega)).set
        · rw [← step_set d n k _ HSm.out.2 hlt, ← flat_set]
          exact (HO2.out.stored k _).1
      have HSn : Hid (Same (k + 1) ts (d ++ [(⟨q.l, some ⟨S, 0, none⟩, q.l.length⟩ : T)]) ∧ (d ++ [(⟨q.l, some ⟨S, 0, none⟩, q.l.length⟩ : T)]).length = k + 1) := by
        refine ⟨fun i hi => ?_, by have := HSm.out.2; simp; omega⟩
        rw [getD_snoc]
        by_cases e : i = d.length
        · rw [if_pos e, e, HSm.out.2, ← HQ.out]
        · rw [if_neg e]; exact HSm.out.1 i (by have := HSm.out.2; omega)
      clear hb2 ho2 HO HT1 HO2 HX2 HX HD HD2 HF2 HSm hc hS
      go_wp2
      go_roundw
      case rel =>
        obtain ⟨e1, e2, e3⟩ := HE.out _ rfl
        exact ⟨k + 1, _, by omega, by go_num, HSn.out, e1, e2, e3⟩
      case measure => simp [intOf]; omega
    · obtain rfl : k = n := by omega
      have HE : Hid (Has wr (some ⟨w.heap.size, 0, none⟩) d) := by
        have h := HO.out
        rw [Nat.sub_self, List.replicate_zero, List.append_nil] at h
        have hl := h.1
        rw [flat_len] at hl
        refine .inr ⟨w.heap.size, 0, rfl, (h.lt w.heap.size rfl).2, fun i hi => ⟨?_, (HD.out i (by omega)).has⟩⟩
        rw [Nat.zero_add]
        exact (h.cellAt i (by omega)).trans (flat_get d i hi)
      go_wp2
      go_ret
      exact ⟨d, rfl, HSm.out.1, HSm.out.2, HE.out, HX.out⟩

abbrev EE (w : World) (q q' : T) (b o b' o' : Nat) (x : World) : Prop :=
  x.cell? ⟨b, o, none⟩ = some (vT q) ∧ x.cell? ⟨b', o', none⟩ = some (vT q') ∧ HasL x q.a q.l ∧ HasL x q'.a q'.l ∧ b < x.heap.size ∧ b' < x.heap.size ∧ Below w.heap.size w x
theorem EE.below {w : World} {q q' : T} {b o b' o' : Nat} {x y : World} (h : EE w q q' b o b' o' x) (hb : Below x.heap.size x y) : EE w q q' b o b' o' y := by
  obtain ⟨h0, k0, t1, t3, l1, l2, hw⟩ := h
  exact ⟨(hb.cell (by exact l1)).trans h0, (hb.cell (by exact l2)).trans k0, t1.below hb, t3.below hb, Nat.lt_of_lt_of_le l1 hb.size, Nat.lt_of_lt_of_le l2 hb.size, hw.trans (hb.mono hw.size)⟩
theorem EE.t1 {w : World} {q q' : T} {b o b' o' : Nat} {x : World} (h : EE w q q' b o b' o' x) : HasL x q.a q.l := h.2.2.1
theorem EE.t3 {w : World} {q q' : T} {b o b' o' : Nat} {x : World} (h : EE w q q' b o b' o' x) : HasL x q'.a q'.l := h.2.2.2.1
set_option maxHeartbeats 4000000 in
theorem f13 (a a' : Option Addr) (n c c' : Nat) (ts ts' : List T) (w : World) (hn : ts.length = n) (hn' : ts'.length = n) (hb : n ≤ 1048576) (hr : Has w a ts) (hr' : Has w a' ts') (hs : Same n ts ts') (hz : Sml ts) :
    Calls Tryz.prog 13 #[.slice a n c, .slice a' n c'] w fun e w' => e = .returned (.bool true) ∧ Below w.heap.size w w' := by
  have HN := hid hn
  have HN' := hid hn'
  have HR := hid hr
  have HR' := hid hr'
  have HS := hid hs
  have HZ := hid hz
  clear hn hn' hr hr' hs hz
  go_enter Tryz.func13, Tryz.ntmps13
  go_wp2
  go_loopw [5] (fun i wr => ∃ k : Nat, k ≤ n ∧ i = .int .i64 k ∧ Hid (Below w.heap.size w wr)) (fun i _ => n - (intOf i).toNat)
  case atStart => exact ⟨0, Nat.zero_le _, rfl, Below.refl _ _⟩
  case round =>
    obtain ⟨k, hk, rfl, HX⟩ := hrel
    by_cases hlt : k < n
    · obtain ⟨b, off, rfl, hbl, hc, t1⟩ := (HR.out.below HX.out).at2 k (by rw [HN.out]; exact hlt)
      obtain ⟨b', off', rfl, hbl', hc', t1'⟩ := (HR'.out.below HX.out).at2 k (by rw [HN'.out]; exact hlt)
      have HP := HS.out k hlt
      have HL := hid (HZ.out k (by rw [HN.out]; exact hlt))
      generalize ts.getD k t0 = q at *
      generalize ts'.getD k t0 = q' at *
      obtain ⟨ql, qa, qc⟩ := q
      obtain ⟨ql', qa', qc'⟩ := q'
      simp only at HP
      subst HP
      have HE : Hid (EE w ⟨ql', qa, qc⟩ ⟨ql', qa', qc'⟩ b (off + k) b' (off' + k) wr) := ⟨hc, hc', t1, t1', hbl, hbl', HX.out⟩
      clear hc hc' t1 t1' hbl hbl'
      have i1 : (k : Int) < (n : Int) := by omega
      go_wp2_with fail
      go_region_held3 (fun x => EE w ⟨ql', qa, qc⟩ ⟨ql', qa', qc'⟩ b (off + k) b' (off' + k) x) (first | exact EE.below HE.out (below_drew _) | assumption) (first | (go_at_call 14; refine (Lab.f14 qa qa' ql'.length qc qc' ql' _ rfl HL.out (EE.t1 (by assumption)) (EE.t3 (by assumption))).mono ?_; rintro e w2 ⟨rfl, hb2⟩; have hs2 := EE.below (by assumption) hb2; clear hb2))
      have HX2 := hid hs2.2.2.2.2.2.2
      clear hs2
      go_wp2
      go_roundw
      case rel => exact ⟨k + 1, by omega, by go_num, HX2.out⟩
      case measure => simp [intOf]; omega
    · go_wp2
      go_ret
      exact ⟨rfl, HX.out⟩
theorem add_none (b off j : Nat) : (⟨b, off, none⟩ : Addr).add j = ⟨b, off + j, none⟩ := by
  by_cases h : j = 0
  · subst h; simp [Addr.add]
  · simp [Addr.add, h]
set_option maxRecDepth 100000 in
theorem open_list {H : Type} {enc : TypeId × Value → H} {W : World} {a0 : Option Addr} {len0 cap0 : Nat} {d : DataW H} {p : List MemPlace} (h : DataW.Trod enc Tryz.prog W 0 (fun _ => true) true 23 (.slice a0 len0 cap0) d p) :
    ∃ ts : List T, ts.length = len0 ∧ len0 ≤ maxLen ∧ Has W a0 ts ∧ Fit ts := by
  obtain ⟨fuel, hf⟩ := h
  rcases Deep.open_slice Tryz.underlying23 hf with ⟨hcs, _⟩ | ⟨a, len, cap, m, n, D, Pl, hcs, hb, hl, hm, hmm, hxx, hx⟩
  · simp [Value.cells] at hcs
    obtain ⟨rfl, rfl, rfl⟩ := hcs
    exact ⟨[], rfl, Nat.zero_le _, .inl rfl, fun i => fit_t0⟩
  · simp [Value.cells] at hcs
    obtain ⟨rfl, rfl, rfl⟩ := hcs
    simp only [if_true] at hmm
    have ce : Tryz.prog.cellsOf 24 = 1 := by kernel_rfl
    have key : ∀ i, i < len0 → ∃ q : T, W.cell? (a.add (i * 1)) = some (vT q) ∧ HasL W q.a q.l ∧ (Lab.Fit q.l ∧ q.l.length ≤ maxLen) := by
      intro i hi
      obtain ⟨cs', h1, h2⟩ := hx i (by omega)
      rw [ce] at h1
      obtain ⟨_, hlen, hcell⟩ := World.cells?_some h1
      match cs', hlen with
      | [v], _ =>
        have e0 := hcell 0 (by omega)
        rw [Deep.add_add] at e0
        obtain ⟨la, ll, lc, rfl⟩ : ∃ a l c, v = .slice a l c := by
          rcases Deep.open_slice Tryz.underlying24 h2 with ⟨hq, _⟩ | ⟨a, l, c, m, n', D, Pl, hq, _⟩
          · simp only [List.cons.injEq, and_true] at hq; exact ⟨_, _, _, hq⟩
          · simp only [List.cons.injEq, and_true] at hq; exact ⟨_, _, _, hq⟩
        obtain ⟨ls, p0, r0, s0, t0⟩ := Lbo.open_labels (enc := enc) (a0 := la) (len0 := ll) (cap0 := lc) (W := W) ⟨_, by simpa [Value.cells] using h2⟩
        subst p0
        exact ⟨⟨ls, la, lc⟩, by simpa using e0, s0, ⟨t0, r0⟩⟩
    obtain ⟨q, hq⟩ := Deep.choose_lt (α := T) key
    have hg : ∀ i, i < len0 → ((List.range len0).map q).getD i t0 = q i := fun i hi => by simp [hi]
    refine ⟨(List.range len0).map q, by simp, by omega, ?_, ?_⟩
    · by_cases h0 : len0 = 0
      · subst h0; exact .inl rfl
      · obtain ⟨b, off, spot⟩ := a
        have h1 := (hq 0 (by omega)).1
        have hs : spot = none := by simpa [Addr.add] using World.cell?_spot h1
        subst hs
        refine .inr ⟨b, off, rfl, World.block_lt_of_cell? W _ h1, fun i hi => ?_⟩
        have hi' : i < len0 := by simpa using hi
        obtain ⟨k0, k7, _⟩ := hq i hi'
        rw [add_none, Nat.mul_one] at k0
        rw [hg i hi']
        exact ⟨k0, k7⟩
    · intro i
      by_cases hi : i < len0
      · rw [hg i hi]; exact (hq i hi).2.2
      · rw [List.getD_eq_getElem?_getD, List.getElem?_eq_none (by simp; omega)]; exact fit_t0
end Go.Proofs.YthcogkoleiejgaaGreat.Lss
