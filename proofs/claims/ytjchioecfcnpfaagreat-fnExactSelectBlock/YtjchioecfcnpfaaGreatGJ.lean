import Derived.Test.YtjchioecfcnpfaaGreatGD
import Derived.Test.YtjchioecfcnpfaaGreatGT
/- Samples that no stone covers: plain facts. -/
namespace Go.Proofs.YtjchioecfcnpfaaGreat.Blk
open Go.Proofs.YtjchioecfcnpfaaGreat.Smp (Sm e0 cut)
open Go.Proofs.YtjchioecfcnpfaaGreat.Lab (Lb cmpList)
open Go.Proofs.YtjchioecfcnpfaaGreat.Stn (T t0)

/-- Samples rise. -/
abbrev Up (s : List Sm) : Prop := s.Pairwise fun p q => p.1 < q.1
theorem good_up {s : List Sm} (h : Smp.GoodP s) : Up s := by
  have key : ∀ (d i : Nat), i + d + 1 < s.length → (s.getD i e0).1 < (s.getD (i + d + 1) e0).1 := by
    intro d
    induction d with
    | zero => intro i hi; exact (h.2 (i + 0 + 1) hi).2 (by omega)
    | succ d ih =>
      intro i hi
      have h1 := ih i (by omega)
      have h2 : (s.getD (i + d + 1) e0).1 < (s.getD (i + (d + 1) + 1) e0).1 := (h.2 (i + (d + 1) + 1) hi).2 (by omega)
      omega
  unfold Up
  rw [List.pairwise_iff_getElem]
  intro i j hi hj hij
  have := key (j - i - 1) i (by omega)
  rw [show i + (j - i - 1) + 1 = j by omega] at this
  simpa [hi, hj] using this
theorem good_time {s : List Sm} (h : Smp.GoodP s) : ∀ p ∈ s, 0 ≤ p.1 ∧ p.1 ≤ 1000000000000 := by
  intro p hp
  obtain ⟨i, hi, rfl⟩ := List.getElem_of_mem hp
  have := (h.2 i hi).1
  simpa [hi, Smp.TimeP] using this
/-- What is told ahead and what behind, one behind the other. -/
theorem two_parts {P R : Sm → Bool} : ∀ {s : List Sm}, Up s → (∀ p q, p.1 < q.1 → R p = true → P q = true → False) → (∀ p, P p = true → R p = true → False) → s.filter P ++ s.filter R = s.filter fun p => P p || R p := by
  intro s
  induction s with
  | nil => intro _ _ _; rfl
  | cons p s ih =>
    intro hu h1 h2
    obtain ⟨hp, hu'⟩ := List.pairwise_cons.1 hu
    have := ih hu' h1 h2
    cases hP : P p
    · cases hR : R p
      · rw [List.filter_cons_of_neg (by simp [hP]), List.filter_cons_of_neg (by simp [hR]), List.filter_cons_of_neg (by simp [hP, hR])]; exact this
      · have e : s.filter P = [] := List.filter_eq_nil_iff.2 fun q hq => fun h => h1 p q (hp q hq) hR h
        rw [List.filter_cons_of_neg (by simp [hP]), List.filter_cons_of_pos hR, List.filter_cons_of_pos (by simp [hR]), ← this, e]; rfl
    · have hR : R p = false := by cases hR : R p; rfl; exact absurd (h2 p hP hR) id
      rw [List.filter_cons_of_pos hP, List.filter_cons_of_neg (by simp [hR]), List.filter_cons_of_pos (by simp [hP]), ← this]; rfl
abbrev Sp := Int × Int
/-- No span has the time. -/
def free (S : List Sp) (x : Int) : Bool := S.all fun p => !decide (p.1 ≤ x ∧ x ≤ p.2)
def alive (S : List Sp) (s : List Sm) : List Sm := s.filter fun p => free S p.1
theorem alive_up {S : List Sp} {s : List Sm} (h : Up s) : Up (alive S s) := h.sublist List.filter_sublist
/-- The model's way. -/
def md : List Sp → List Sm → List Sm
  | [], s => s
  | (f, t) :: S, s => md S (cut s 0 (f - 1) ++ cut s (t + 1) 1000000000000)
theorem one_out {s : List Sm} {f t : Int} (hu : Up s) (ht : ∀ p ∈ s, 0 ≤ p.1 ∧ p.1 ≤ 1000000000000) (hft : f ≤ t) : cut s 0 (f - 1) ++ cut s (t + 1) 1000000000000 = s.filter fun p => !decide (f ≤ p.1 ∧ p.1 ≤ t) := by
  unfold cut
  rw [two_parts hu (fun p q h1 h2 h3 => by simp only [decide_eq_true_eq] at h2 h3; omega) (fun p h2 h3 => by simp only [decide_eq_true_eq] at h2 h3; omega)]
  refine List.filter_congr fun p hp => ?_
  have := ht p hp
  rw [Bool.eq_iff_iff]
  simp only [Bool.or_eq_true, decide_eq_true_eq, Bool.not_eq_true', decide_eq_false_iff_not]
  omega
theorem md_alive : ∀ {S : List Sp} {s : List Sm}, Up s → (∀ p ∈ s, 0 ≤ p.1 ∧ p.1 ≤ 1000000000000) → (∀ p ∈ S, p.1 ≤ p.2) → md S s = alive S s := by
  intro S
  induction S with
  | nil => intro s _ _ _; unfold md alive; exact (List.filter_eq_self.2 fun _ _ => rfl).symm
  | cons q S ih =>
    intro s hu ht hS
    obtain ⟨f, t⟩ := q
    have e := one_out hu ht (hS (f, t) (by simp))
    unfold md
    rw [e, ih (hu.sublist List.filter_sublist) (fun p hp => ht p ((List.mem_filter.1 hp).1)) (fun p hp => hS p (by simp [hp]))]
    unfold alive
    rw [List.filter_filter]
    refine List.filter_congr fun p _ => ?_
    unfold free
    rw [List.all_cons, Bool.and_comm]
/-- The program's way. -/
def pg : List Sp → List Sm → Int → Int → List Sm
  | [], s, x, y => cut s x y
  | (f, t) :: S, s, x, y => cut s x (min y (f - 1)) ++ pg S s (max x (t + 1)) y
theorem pg_alive : ∀ {S : List Sp} {s : List Sm} {x y : Int}, Up s → (∀ p ∈ S, p.1 ≤ p.2) → S.Pairwise (fun p q => p.2 + 1 < q.1) → pg S s x y = cut (alive S s) x y := by
  intro S
  induction S with
  | nil =>
    intro s x y _ _ _
    unfold pg alive
    rw [List.filter_eq_self.2 (show ∀ p ∈ s, free [] p.1 = true from fun _ _ => rfl)]
  | cons q S ih =>
    intro s x y hu hS hA
    obtain ⟨f, t⟩ := q
    obtain ⟨hA1, hA2⟩ := List.pairwise_cons.1 hA
    have hft : f ≤ t := hS (f, t) (by simp)
    unfold pg
    rw [ih hu (fun p hp => hS p (by simp [hp])) hA2]
    unfold alive cut
    rw [List.filter_filter, List.filter_filter, two_parts hu (fun p q h1 h2 h3 => by simp only [Bool.and_eq_true, decide_eq_true_eq] at h2 h3; omega) (fun p h2 h3 => by simp only [Bool.and_eq_true, decide_eq_true_eq] at h2 h3; omega)]
    refine List.filter_congr fun p _ => ?_
    have hfr : p.1 < f → free S p.1 = true := fun h => by
      unfold free
      rw [List.all_eq_true]
      intro q hq
      have := hA1 q hq
      simp only at this
      rw [Bool.not_eq_true', decide_eq_false_iff_not]
      omega
    have hc : free ((f, t) :: S) p.1 = (!decide (f ≤ p.1 ∧ p.1 ≤ t) && free S p.1) := by unfold free; rw [List.all_cons]
    rw [hc, Bool.eq_iff_iff]
    simp only [Bool.or_eq_true, Bool.and_eq_true, decide_eq_true_eq, Bool.not_eq_true', decide_eq_false_iff_not]
    constructor
    · rintro (⟨h1, h2⟩ | ⟨⟨h1, h2⟩, h3⟩)
      · exact ⟨⟨h1, by omega⟩, by omega, hfr (by omega)⟩
      · exact ⟨⟨by omega, by omega⟩, by omega, h3⟩
    · rintro ⟨⟨h1, h2⟩, h3, h4⟩
      by_cases h5 : p.1 < f
      · exact .inl ⟨h1, by omega⟩
      · exact .inr ⟨⟨by omega, h2⟩, h4⟩
/-- The spans of the stones of a series. -/
def spn (ts : List T) (l : List Lb) : List Sp := (ts.filter fun p => decide (cmpList p.l l = 0)).map fun p => (p.f, p.t)
end Go.Proofs.YtjchioecfcnpfaaGreat.Blk
/- A series' stones: the program's stonesOf. -/
namespace Go.Proofs.YtjchioecfcnpfaaGreat.Blk
open Go.RowKit
open Go.Proofs.YtjchioecfcnpfaaGreat.Lab (Lb HasL cmpList)
open Go.Proofs.YtjchioecfcnpfaaGreat.Smp (In64 ret_bool)
open Go.Proofs.YtjchioecfcnpfaaGreat.Srs (hid lt_at kept Q HasQ FitQ SmlQ GoodQ agQ q0)
open Go.Proofs.YtjchioecfcnpfaaGreat.Stn (T HasT FitT SmlT agT t0 three Cells)

/-- The labels of the i-th stone. -/
abbrev lt (ts : List T) (i : Nat) : List Lb := (ts.getD i t0).l
theorem lst_le_trans {a b c : List Lb} (h1 : cmpList a b ≤ 0) (h2 : cmpList b c ≤ 0) : cmpList a c ≤ 0 := by
  rcases Int.lt_or_eq_of_le h1 with g1 | g1
  · rcases Int.lt_or_eq_of_le h2 with g2 | g2
    · exact Int.le_of_lt (lst_trans g1 g2)
    · rw [← lst_zero g2]; exact h1
  · rw [lst_zero g1]; exact h2
theorem riseT_step {ts : List T} (h : RiseT ts) : ∀ (d i : Nat), i + d + 1 < ts.length → cmpList (lt ts i) (lt ts (i + d + 1)) ≤ 0 := by
  have one : ∀ i, i + 1 < ts.length → cmpList (lt ts i) (lt ts (i + 1)) ≤ 0 := by
    intro i hi
    rcases h (i + 1) hi (by omega) with g | ⟨g, _⟩
    · exact Int.le_of_lt g
    · exact Int.le_of_eq g
  intro d
  induction d with
  | zero => intro i hi; exact one i hi
  | succ d ih => intro i hi; exact lst_le_trans (ih i (by omega)) (one (i + d + 1) (by omega))
theorem riseT_le {ts : List T} (h : RiseT ts) {i j : Nat} (hij : i < j) (hj : j < ts.length) : cmpList (lt ts i) (lt ts j) ≤ 0 := by
  have := riseT_step h (j - i - 1) i (by omega)
  rw [show i + (j - i - 1) + 1 = j by omega] at this
  exact this
theorem le_lt {a b c : List Lb} (h1 : cmpList a b ≤ 0) (h2 : cmpList b c < 0) : cmpList a c < 0 := by
  rcases Int.lt_or_eq_of_le h1 with g1 | g1
  · exact lst_trans g1 h2
  · rw [lst_zero g1]; exact h2
/-- lo is where labels stand among stones. -/
structure PlaceT (ts : List T) (l : List Lb) (lo : Nat) : Prop where
  le : lo ≤ ts.length
  less : ∀ i, i < lo → cmpList (lt ts i) l < 0
  geq : lo < ts.length → 0 ≤ cmpList (lt ts lo) l

set_option maxHeartbeats 1000000 in
theorem f66 (q : T) (a' : Option Addr) (c' : Nat) (l : List Lb) (w : World) (n1 : q.l.length ≤ 1048576) (n2 : l.length ≤ 1048576) (hq : HasL w q.a q.l) (hl : HasL w a' l) :
    Calls Tryz.prog 66 #[agT q, .slice a' l.length c'] w fun e w' => e = .returned (.int .i64 (cmpList q.l l)) ∧ Below w.heap.size w w' := by
  obtain ⟨ll, a, c, f, t⟩ := q
  simp only at n1 hq
  have HB := hid ((Below.refl w.heap.size w).alloc (Nat.le_refl _) (.cells #[.slice a ll.length c, .int .i64 f, .int .i64 t] 87))
  have HL := hid (hq.below HB.out)
  have HL' := hid (hl.below HB.out)
  clear hq hl
  simp only [agT]
  go_enter Tryz.func66, Tryz.ntmps66
  go_wp2_with fail
  refine (Lab.f67 a a' ll.length l.length c c' ll l _ rfl rfl n1 n2 HL.out HL'.out).mono ?_
  rintro e w1 ⟨rfl, hb1⟩
  have HB1 := hid (HB.out.trans (hb1.mono HB.out.size))
  clear hb1
  go_wp2
  go_ret
  exact ⟨rfl, HB1.out⟩

set_option maxHeartbeats 2000000 in
theorem f65 (a : Option Addr) (n c : Nat) (qs : List T) (a' : Option Addr) (c' : Nat) (l : List Lb) (w : World) (hn : qs.length = n) (hb : n ≤ 1048576) (hr : HasT w a qs) (hz : SmlT qs) (hg : RiseT qs) (hl : HasL w a' l) (hl1 : l.length ≤ 1048576) :
    Calls Tryz.prog 65 #[.slice a n c, .slice a' l.length c', .func (.func 66) #[] #[]] w fun e w' => ∃ lo : Nat, Hid (PlaceT qs l lo ∧ (∃ r : Bool, e = .returned (.tuple #[.int .i64 lo, .bool r])) ∧ Below w.heap.size w w') := by
  have HN := hid hn
  have HR := hid hr
  have HZ := hid hz
  have HG := hid hg
  have HL := hid hl
  clear hn hr hz hg hl
  go_enter Tryz.func65, Tryz.ntmps65
  go_wp2
  go_loopw [9, 10] (fun si sj wr => ∃ (lo hi : Nat), lo ≤ hi ∧ hi ≤ n ∧ si = .int .i64 lo ∧ sj = .int .i64 hi ∧ Hid (∀ i, i < lo → cmpList (lt qs i) l < 0) ∧ Hid (hi < n → 0 ≤ cmpList (lt qs hi) l) ∧ Hid (Below w.heap.size w wr)) (fun si sj _ => (intOf sj).toNat - (intOf si).toNat)
  case atStart => exact ⟨0, n, Nat.zero_le _, Nat.le_refl _, rfl, rfl, fun i hi => by omega, fun h => by omega, Below.refl _ _⟩
  case round =>
    obtain ⟨lo, hi, hlh, hhn, rfl, rfl, hlow, hhigh, HX⟩ := hrel
    by_cases hlt : lo < hi
    · obtain ⟨h, hh⟩ : ∃ h, h = (lo + hi) / 2 := ⟨_, rfl⟩
      have hh1 : lo ≤ h := by omega
      have hh2 : h < hi := by omega
      have HH := hid hh
      clear hh
      obtain ⟨b, off, rfl, hbl, ⟨c0, c1, c2⟩, t1⟩ := (HR.out.below HX.out).at2 h (by rw [HN.out]; omega)
      have HZq := hid (HZ.out h (by rw [HN.out]; omega))
      have i1 : ((lo : Int) + (hi : Int)) / 2 < (n : Int) := by omega
      have i0 : 0 ≤ ((lo : Int) + (hi : Int)) / 2 := by omega
      obtain ⟨p, hp⟩ : ∃ p, p = qs.getD h t0 := ⟨_, rfl⟩
      rw [← hp] at c0 c1 c2 t1 HZq
      have HLow : Hid (cmpList p.l l < 0 → ∀ i, i < h + 1 → cmpList (lt qs i) l < 0) := by
        intro hx i hi
        rw [hp] at hx
        by_cases e : i = h
        · subst e; exact hx
        · exact le_lt (riseT_le HG.out (show i < h by omega) (by rw [HN.out]; omega)) hx
      have HHigh : Hid (¬ cmpList p.l l < 0 → h < n → 0 ≤ cmpList (lt qs h) l) := fun h1 _ => by rw [hp] at h1; simp only [lt]; omega
      have HT1 := hid t1
      rw [HH.out] at c0 c1 c2
      clear t1 hp
      by_cases h3 : cmpList p.l l < 0
      · go_wp2_with fail
        refine (f66 p a' c' l _ HZq.out hl1 HT1.out (HL.out.below HX.out)).mono ?_
        rintro e w2 ⟨rfl, hb2⟩
        have HX2 := hid (HX.out.trans (hb2.mono HX.out.size))
        clear hb2 c0 c1 c2 hbl
        go_wp2
        go_roundw
        case rel => exact ⟨h + 1, hi, by omega, hhn, by have := HH.out; go_num, rfl, HLow.out h3, hhigh, HX2⟩
        case measure => simp [intOf]; omega
      · go_wp2_with fail
        refine (f66 p a' c' l _ HZq.out hl1 HT1.out (HL.out.below HX.out)).mono ?_
        rintro e w2 ⟨rfl, hb2⟩
        have HX2 := hid (HX.out.trans (hb2.mono HX.out.size))
        clear hb2 c0 c1 c2 hbl
        go_wp2
        go_roundw
        case rel => exact ⟨lo, h, hh1, by omega, rfl, by have := HH.out; go_num, hlow, HHigh.out h3, HX2⟩
        case measure => have := HH.out; simp [intOf]; omega
    · obtain rfl : lo = hi := by omega
      have HP : Hid (PlaceT qs l lo) := ⟨by rw [HN.out]; exact hhn, hlow.out, fun h => hhigh.out (by rw [HN.out] at h; exact h)⟩
      by_cases hln : lo < n
      · obtain ⟨b, off, rfl, hbl, ⟨c0, c1, c2⟩, t1⟩ := (HR.out.below HX.out).at2 lo (by rw [HN.out]; omega)
        have HZq := hid (HZ.out lo (by rw [HN.out]; omega))
        have i1 : (lo : Int) < (n : Int) := by omega
        generalize qs.getD lo t0 = p at *
        have HT1 := hid t1
        clear t1 hlow hhigh
        go_wp2_with fail
        refine (f66 p a' c' l _ HZq.out hl1 HT1.out (HL.out.below HX.out)).mono ?_
        rintro e w2 ⟨rfl, hb2⟩
        have HX2 := hid (HX.out.trans (hb2.mono HX.out.size))
        clear hb2 c0 c1 c2 hbl
        go_wp2
        go_ret2
        exact ⟨lo, ⟨HP.out, ⟨_, rfl⟩, HX2.out⟩⟩
      · have i1 : ¬ (lo : Int) < (n : Int) := by omega
        go_wp2
        go_ret2
        exact ⟨lo, ⟨HP.out, by first | exact .inl rfl | exact ⟨_, rfl⟩, HX.out⟩⟩

theorem filt_mid {α : Type} (P : α → Bool) (dd : α) : ∀ (ls : List α) (f e : Nat), (∀ i, i < ls.length → P (ls.getD i dd) = decide (f ≤ i ∧ i < e)) → ls.filter P = (ls.take e).drop f := by
  intro ls
  induction ls with
  | nil => intro f e _; simp
  | cons p L ih =>
    intro f e h
    have h0 := h 0 (by simp)
    have hs : ∀ i, i < L.length → P (L.getD i dd) = decide (f - 1 ≤ i ∧ i < e - 1) := by
      intro i hi
      have := h (i + 1) (by simp; omega)
      simp only [List.getD_cons_succ] at this
      rw [this, decide_eq_decide]
      omega
    have := ih (f - 1) (e - 1) hs
    simp only [List.getD_cons_zero] at h0
    cases e with
    | zero =>
      have h1 : P p = false := by rw [h0]; simp
      rw [List.filter_cons_of_neg (by simp [h1]), this]; simp
    | succ e =>
      cases f with
      | zero =>
        have h1 : P p = true := by rw [h0]; simp
        rw [List.filter_cons_of_pos h1, this]; simp
      | succ f =>
        have h1 : P p = false := by rw [h0]; simp
        rw [List.filter_cons_of_neg (by simp [h1]), this]; simp
/-- The stones of labels. -/
def own1 (ts : List T) (l : List Lb) : List T := ts.filter fun p => decide (cmpList p.l l = 0)
theorem run_own {ts : List T} {l : List Lb} {lo e : Nat} (hg : RiseT ts) (hp : PlaceT ts l lo) (he : e ≤ ts.length) (h0 : ∀ i, lo ≤ i → i < e → cmpList (lt ts i) l = 0) (h1 : e < ts.length → cmpList (lt ts e) l ≠ 0) (hle : lo ≤ e) : own1 ts l = (ts.take e).drop lo := by
  refine filt_mid _ t0 ts lo e fun i hi => ?_
  rw [decide_eq_decide]
  constructor
  · intro h
    refine ⟨?_, ?_⟩
    · refine Nat.le_of_not_lt fun g => ?_
      have := hp.less i g
      simp only [lt] at this
      omega
    · refine Nat.lt_of_not_le fun g => ?_
      have h2 := h1 (by omega)
      have h3 : 0 ≤ cmpList (lt ts e) l := by
        by_cases e1 : lo = e
        · subst e1; exact hp.geq (by omega)
        · have g1 := h0 lo (Nat.le_refl _) (by omega)
          have g2 := riseT_le hg (show lo < e by omega) (by omega)
          rw [lst_zero g1] at g2
          refine Int.not_lt.1 fun g3 => ?_
          rcases Int.lt_or_eq_of_le g2 with g4 | g4
          · have := lst_trans g4 g3; rw [lst_self] at this; omega
          · rw [← lst_zero g4, lst_self] at g3; omega
      by_cases e1 : i = e
      · subst e1; exact h2 h
      · have g2 := riseT_le hg (show e < i by omega) hi
        have g5 : cmpList (lt ts e) l ≤ 0 := by rw [← lst_zero (show cmpList (lt ts i) l = 0 from h)]; exact g2
        omega
  · intro h; exact h0 i h.1 h.2
theorem has_midT {w : World} {b off f e : Nat} {ls : List T} (h : HasT w (some ⟨b, off, none⟩) ls) (he : e ≤ ls.length) : HasT w (some ⟨b, off + f * 3, none⟩) ((ls.take e).drop f) := by
  by_cases hz : e ≤ f
  · exact .inl (List.eq_nil_of_length_eq_zero (by simp; omega))
  rcases h with h | ⟨b', off', hbo, hb, hc⟩
  · rw [h] at he; simp at he; omega
  · simp only [Option.some.injEq, Addr.mk.injEq, and_true] at hbo
    obtain ⟨rfl, rfl⟩ := hbo
    refine .inr ⟨b, off + f * 3, rfl, hb, fun i hi => ?_⟩
    have hi' : f + i < e := by simp at hi; omega
    have h1 : ((ls.take e).drop f).getD i t0 = ls.getD (f + i) t0 := by
      simp only [List.getD_eq_getElem?_getD, List.getElem?_drop, List.getElem?_take, hi', if_true]
    rw [h1, show off + f * 3 + i * 3 = off + (f + i) * 3 from by omega]
    exact hc (f + i) (by omega)
set_option maxHeartbeats 4000000 in
theorem f30 (h : Bk) (a' : Option Addr) (c' : Nat) (l : List Lb) (w : World) (hr : HasB w h) (hz : SmlB h) (hg : RiseT h.ts) (h100 : h.ts.length ≤ 100) (hd : h.ts.length ≤ h.d) (hl : HasL w a' l) (hl1 : l.length ≤ 1048576) :
    Calls Tryz.prog 30 #[agB h, .slice a' l.length c'] w fun e w' => ∃ (a2 : Option Addr) (L : List T), Hid (L = own1 h.ts l) ∧ e = .returned (.slice a2 L.length L.length) ∧ HasT w' a2 L ∧ Below w.heap.size w w' := by
  obtain ⟨F, TT, LL, qs, a, c, ts, b, d⟩ := h
  simp only at hg h100 hd
  have H0 := hid (HB.new hr)
  have HZ := hid hz.2.2.2
  have HG := hid hg
  have HL := hid (hl.below H0.out.bel)
  clear hr hz hg hl
  simp only [clB] at H0 HL
  obtain ⟨b0, b1, b2, b3, b4⟩ := five H0.out.box
  simp only [agB, clB]
  go_enter Tryz.func30, Tryz.ntmps30
  go_wp2_with fail
  refine (f65 b ts.length d ts a' c' l _ rfl (by omega) H0.out.has.2 HZ.out HG.out HL.out hl1).mono ?_
  rintro e w1 ⟨lo, hp, ⟨r, rfl⟩, hb1⟩
  have H1 := hid (H0.out.below hb1)
  have HL1 := hid (HL.out.below hb1)
  have HP := hid hp
  have hlo : lo ≤ ts.length := hp.le
  clear hb1 hp H0 HL b0 b1 b2 b3 b4
  obtain ⟨b0, b1, b2, b3, b4⟩ := five H1.out.box
  go_wp2
  go_loopw [7] (fun si wr => ∃ k : Nat, lo ≤ k ∧ k ≤ ts.length ∧ si = .int .i64 k ∧ Hid (∀ i, lo ≤ i → i < k → cmpList (lt ts i) l = 0) ∧ Hid (HB w ⟨F, TT, LL, qs, a, c, ts, b, d⟩ wr) ∧ Hid (HasL wr a' l)) (fun si _ => ts.length - (intOf si).toNat)
  case atStart => exact ⟨lo, Nat.le_refl _, hlo, rfl, fun i h1 h2 => by omega, H1.out, HL1.out⟩
  case round =>
    clear b0 b1 b2 b3 b4 H1 HL1
    obtain ⟨k, hk0, hk, rfl, HU, HX, HLr⟩ := hrel
    obtain ⟨b0, b1, b2, b3, b4⟩ := five HX.out.box
    have HEnd : Hid ((k < ts.length → cmpList (lt ts k) l ≠ 0) → own1 ts l = (ts.take k).drop lo) := fun h => run_own HG.out HP.out hk HU.out h hk0
    have HFin : ∀ x, Hid (HB w ⟨F, TT, LL, qs, a, c, ts, b, d⟩ x → HasT x b ts ∧ Below w.heap.size w x) := fun x g => ⟨g.has.2, g.bel⟩
    by_cases hlt : k < ts.length
    · have HT : Hid (HasT wr b ts) := HX.out.has.2
      obtain ⟨bb, off, rfl, hbl, ⟨c0, c1, c2⟩, t1⟩ := HT.out.at2 k hlt
      have HZq := hid (HZ.out k hlt)
      have i1 : (k : Int) < (ts.length : Int) := by omega
      obtain ⟨p, hpq⟩ : ∃ p, p = ts.getD k t0 := ⟨_, rfl⟩
      rw [← hpq] at c0 c1 c2 t1 HZq
      have HPk : Hid (cmpList (lt ts k) l = cmpList p.l l) := by unfold Hid; rw [hpq]
      have HT1 := hid t1
      clear t1 hpq
      by_cases h3 : cmpList p.l l = 0
      · have g1 : (cmpList p.l l == 0) = true := by rw [h3]; rfl
        have HUs : Hid (∀ i, lo ≤ i → i < k + 1 → cmpList (lt ts i) l = 0) := by
          intro i h1 h2
          by_cases e : i = k
          · subst e; rw [HPk.out]; exact h3
          · exact HU.out i h1 (by omega)
        clear h3
        go_wp2_with fail
        refine (Lab.f67 p.a a' p.l.length l.length p.c c' p.l l _ rfl rfl HZq.out hl1 HT1.out HLr.out).mono ?_
        rintro e w2 ⟨rfl, hb2⟩
        have HX2 := hid (HX.out.below hb2)
        have HL2 := hid (HLr.out.below hb2)
        clear hb2 HX HLr b0 b1 b2 b3 b4 c0 c1 c2
        generalize cmpList p.l l = z at *
        go_wp2
        go_roundw
        case rel => exact ⟨k + 1, by omega, by omega, by go_num, HUs.out, HX2.out, HL2.out⟩
        case measure => simp [intOf]; omega
      · have g1 : (cmpList p.l l == 0) = false := by rw [beq_eq_false_iff_ne]; exact h3
        have HE := hid (HEnd.out fun _ => by rw [HPk.out]; exact h3)
        clear h3
        go_wp2_with fail
        refine (Lab.f67 p.a a' p.l.length l.length p.c c' p.l l _ rfl rfl HZq.out hl1 HT1.out HLr.out).mono ?_
        rintro e w2 ⟨rfl, hb2⟩
        have HX2 := hid (HX.out.below hb2)
        clear hb2 HX HLr b0 b1 b2 b3 b4 c0 c1 c2
        obtain ⟨b0, b1, b2, b3, b4⟩ := five HX2.out.box
        generalize cmpList p.l l = z at *
        by_cases hke : lo = k
        · subst hke
          have HN0 : Hid (own1 ts l = []) := by unfold Hid; rw [HE.out]; exact List.eq_nil_of_length_eq_zero (by simp)
          go_wp2
          go_ret
          exact ⟨_, [], HN0.out.symm, rfl, .inl rfl, HX2.out.bel⟩
        · have HLn : Hid (((ts.take k).drop lo).length = k - lo) := by unfold Hid; simp; omega
          have j1 : (lo : Int) < (k : Int) := by omega
          have j2 : lo < k := by omega
          have j3 : (k : Int) ≤ (d : Int) := by omega
          go_wp2
          go_ret
          refine ⟨some ⟨bb, off + lo * 3, none⟩, (ts.take k).drop lo, HE.out.symm, ?_, has_midT HX2.out.has.2 (by omega), HX2.out.bel⟩
          rw [HLn.out]
          first | rfl | (congr 1 <;> omega) | simp
    · obtain rfl : k = ts.length := by omega
      have HE := hid (HEnd.out fun h => absurd h (by omega))
      have i1 : ¬ (ts.length : Int) < (ts.length : Int) := by omega
      by_cases hke : lo = ts.length
      · subst hke
        have HN0 : Hid (own1 ts l = []) := by unfold Hid; rw [HE.out]; exact List.eq_nil_of_length_eq_zero (by simp)
        cases b
        all_goals
          go_wp2
          go_ret
          exact ⟨_, [], HN0.out.symm, rfl, .inl rfl, HX.out.bel⟩
      · obtain ⟨bb, off, rfl, hbl, _, _⟩ := HX.out.has.2.at2 lo (by simp only; omega)
        have HLn : Hid (((ts.take ts.length).drop lo).length = ts.length - lo) := by unfold Hid; simp
        have j1 : (lo : Int) < (ts.length : Int) := by omega
        have j2 : lo < ts.length := by omega
        have j3 : (ts.length : Int) ≤ (d : Int) := by omega
        go_wp2
        go_ret
        refine ⟨some ⟨bb, off + lo * 3, none⟩, (ts.take ts.length).drop lo, HE.out.symm, ?_, has_midT HX.out.has.2 (Nat.le_refl _), HX.out.bel⟩
        rw [HLn.out]
        first | rfl | (congr 1 <;> omega) | simp
end Go.Proofs.YtjchioecfcnpfaaGreat.Blk
/- What stones leave of samples: the program's samplesLeft. -/
namespace Go.Proofs.YtjchioecfcnpfaaGreat.Blk
open Go.RowKit
open Go.Proofs.YtjchioecfcnpfaaGreat.Smp (Sm HasS cut Own Piece flat flat_cells flat_oneCell flat_len flat_append own_form)
open Go.Proofs.YtjchioecfcnpfaaGreat.Srs (hid lt_at kept)
open Go.Proofs.YtjchioecfcnpfaaGreat.Stn (T HasT FitT SmlT agT t0 three Cells)

/-- The spans of stones. -/
def spans (L : List T) : List Sp := L.map fun p => (p.f, p.t)
theorem spans_drop {L : List T} {k : Nat} (h : k < L.length) : (spans L).drop k = ((L.getD k t0).f, (L.getD k t0).t) :: (spans L).drop (k + 1) := by
  have h' : k < (spans L).length := by unfold spans; simpa using h
  rw [List.drop_eq_getElem_cons h']
  congr 1
  simp [spans, h]
theorem infoS' : (Tryz.prog.info? 85).map (fun i => (i.zero, i.size, i.bytes)) = some (some (.agg #[.int .i64 0, .int .i64 0]), 2, 16) := by kernel_rfl
theorem pg_cons (f t : Int) (S : List Sp) (s : List Sm) (x y : Int) : pg ((f, t) :: S) s x y = cut s x (min y (f - 1)) ++ pg S s (max x (t + 1)) y := rfl
set_option maxRecDepth 10000 in
set_option maxHeartbeats 4000000 in
theorem f29 (a a' : Option Addr) (c c' : Nat) (s : List Sm) (L : List T) (x y : Int) (w : World) (hx0 : -9223372036854775808 ≤ x) (hx1 : x ≤ 9223372036854775807) (hy0 : -9223372036854775808 ≤ y) (hy1 : y ≤ 9223372036854775807) (hg : Smp.GoodP s) (hr : HasS w a s) (hc : s.length ≤ c) (hL : HasT w a' L) (h100 : L.length ≤ 100) (hf : ∀ i, i < L.length → 0 ≤ (L.getD i t0).f ∧ (L.getD i t0).f ≤ 1000000000001 ∧ 0 ≤ (L.getD i t0).t ∧ (L.getD i t0).t ≤ 1000000000001) (hlen : (pg (spans L) s x y).length ≤ 2000) :
    Calls Tryz.prog 29 #[.slice a s.length c, .slice a' L.length c', .int .i64 x, .int .i64 y] w fun e w' => ∃ v, e = .returned v ∧ Own w' w.heap.size v (pg (spans L) s x y) ∧ Below w.heap.size w w' := by
  obtain ⟨i0, hi, hz0, hz1, hz2⟩ := info_parts infoS'
  have HG := hid hg
  have HR := hid hr
  have HL := hid hL
  have HF := hid hf
  have HLen := hid hlen
  clear hg hr hL hf hlen
  go_enter Tryz.func29, Tryz.ntmps29
  go_wp2
  go_loopw [2, 9, 14] (fun sx so si wr => ∃ (k : Nat) (x' : Int) (v : Value) (O : List Sm), k ≤ L.length ∧ si = .int .i64 k ∧ sx = .int .i64 x' ∧ so = v ∧ -9223372036854775808 ≤ x' ∧ x' ≤ 9223372036854775807 ∧ Hid (Own wr w.heap.size v O) ∧ Hid (O ++ pg ((spans L).drop k) s x' y = pg (spans L) s x y) ∧ Hid (Below w.heap.size w wr)) (fun _ _ si _ => L.length - (intOf si).toNat)
  case atStart => exact ⟨0, x, _, [], Nat.zero_le _, rfl, rfl, rfl, hx0, hx1, Own.nil _ _, rfl, Below.refl _ _⟩
  case round =>
    obtain ⟨k, x', v, O, hk, rfl, rfl, rfl, hx'0, hx'1, HO, HE, HX⟩ := hrel
    obtain ⟨ao, co, rfl⟩ := own_form HO.out
    by_cases hlt : k < L.length
    rotate_left
    · obtain rfl : k = L.length := by omega
      have HE2 : Hid (O ++ cut s x' y = pg (spans L) s x y) := by
        have h := HE.out
        rw [List.drop_eq_nil_of_le (by unfold spans; simp)] at h
        exact h
      have hol : O.length + (cut s x' y).length ≤ 2000 := by have := HLen.out; rw [← HE2.out, List.length_append] at this; exact this
      go_wp2_with fail
      refine (Smp.f64 a c s x' y _ HG.out (HR.out.below HX.out) hc).mono ?_
      rintro e w2 ⟨v2, rfl, hv2, hb2⟩
      have HX2 := hid (HX.out.trans (hb2.mono HX.out.size))
      have HO2 := hid (HO.out.below hb2)
      clear hb2 HO HX
      generalize cut s x' y = C at *
      rcases hv2 with ⟨rfl, rfl⟩ | ⟨hpos, b2, o2, rfl, hs2⟩
      · have HE3 : Hid (O = pg (spans L) s x y) := by have h := HE2.out; rw [List.append_nil] at h; exact h
        go_wp2_with (at_builtin; refine wpList_append_own_none rfl (.tmp 34) (.tmp 38) 59 rfl w.heap.size 85 i0 2 Tryz.underlying59 hi _ _ _ rfl HO2.out rfl ?_)
        go_ret
        exact ⟨_, rfl, by rw [← HE3.out]; exact HO2.out, HX2.out⟩
      · have HCS := hid (flat_cells hs2)
        have HOC := hid (flat_oneCell C)
        have HFL := hid (flat_len C)
        have HAP := hid (flat_append O C)
        clear hs2
        go_wp2_with (at_builtin; refine wpList_append_own _ rfl (.tmp 34) (.tmp 38) 59 rfl w.heap.size 85 i0 (.agg #[.int .i64 0, .int .i64 0]) 2 16 Tryz.underlying59 hi hz0 hz1 hz2 rfl (by decide) _ _ _ rfl HO2.out ⟨b2, o2, none⟩ C.length C.length (flat C) rfl HFL.out HCS.out HOC.out ?d3 ?d4 HX2.out.size ?_)
        case d3 => unfold maxLen; omega
        case d4 => omega
        intro v1 w3 hown1 hgr1 _
        go_wp2
        go_ret
        refine ⟨v1, rfl, ?_, HX2.out.grown hgr1 HX2.out.size (fun k hk => (World.ownsRow.lt HO2.out k hk).1)⟩
        rw [← HE2.out]
        unfold Own
        rw [HAP.out, List.length_append]
        exact hown1
    obtain ⟨b, off, rfl, hbl, ⟨c0, c1, c2⟩, t1⟩ := (HL.out.below HX.out).at2 k hlt
    obtain ⟨f0, f1, g0, g1⟩ := HF.out k hlt
    have HE1 := hid HE.out
    rw [spans_drop hlt, pg_cons] at HE1
    clear t1
    generalize L.getD k t0 = q at *
    have HW0 := hid ((Below.refl wr.heap.size wr).alloc (Nat.le_refl _) (.cells #[.slice q.a q.l.length q.c, .int .i64 q.f, .int .i64 q.t] 87))
    have HBox := hid (heap_alloc_new wr (.cells #[.slice q.a q.l.length q.c, .int .i64 q.f, .int .i64 q.t] 87))
    have HX0 := hid (HX.out.trans (HW0.out.mono HX.out.size))
    have HO0 := hid (HO.out.below HW0.out)
    have i1 : (k : Int) < (L.length : Int) := by omega
    obtain ⟨mn, hmn⟩ : ∃ mn, mn = min y (q.f - 1) := ⟨_, rfl⟩
    obtain ⟨mx, hmx⟩ : ∃ mx, mx = max x' (q.t + 1) := ⟨_, rfl⟩
    have HMX : Hid (mx = max x' (q.t + 1)) := hmx
    rw [← hmn, ← hmx] at HE1
    have hmx0 : -9223372036854775808 ≤ mx ∧ mx ≤ 9223372036854775807 := by omega
    have hol : O.length + (cut s x' mn).length ≤ 2000 := by have := HLen.out; rw [← HE1.out, List.length_append, List.length_append] at this; omega
    have HCall := fun z (hz : HasS z a s) => hid (Smp.f64 a c s x' mn z HG.out hz hc)
    have HSt : ∀ (W : World) (vo : Value) (O2 : List Sm), Hid (W.heap[wr.heap.size]? = some (.cells #[.slice q.a q.l.length q.c, .int .i64 q.f, .int .i64 q.t] 87) → Own W w.heap.size vo O2 → Below w.heap.size w W → O2 = O ++ cut s x' mn → O2 ++ pg ((spans L).drop (k + 1)) s mx y = pg (spans L) s x y) := by
      intro W vo O2 _ _ _ h
      rw [h, List.append_assoc]
      exact HE1.out
    clear hmx HE HE1
    have HOlt : Hid (∀ j, (Value.slice ao O.length co).ownBlock = some j → j < wr.heap.size) := fun j hj => (World.ownsRow.lt HO.out j hj).2
    by_cases hm1 : y ≤ q.f - 1
    · obtain rfl : mn = y := by rw [hmn]; omega
      clear hmn
      go_wp2_with fail
      refine (HCall _ (HR.out.below HX0.out)).out.mono ?_
      rintro e w2 ⟨v2, rfl, hv2, hb2⟩
      have HX2 := hid (HX0.out.trans (hb2.mono HX0.out.size))
      have HO2 := hid (HO0.out.below hb2)
      have HB2 := hid (kept HBox.out hb2)
      clear hb2 HO HO0 HX HX0 HBox HCall c0 c1 c2
      rcases hv2 with ⟨hC, rfl⟩ | ⟨hpos, b2, o2, rfl, hs2⟩
      · have HE3 := hid ((HSt w2 _ O).out HB2.out HO2.out HX2.out (by rw [hC, List.append_nil]))
        clear hC
        obtain ⟨d0, d1, d2⟩ := three HB2.out
        by_cases hm2 : x' ≤ q.t + 1
        · obtain rfl : mx = q.t + 1 := by rw [HMX.out]; omega
          clear HMX
          go_wp2_with (at_builtin; refine wpList_append_own_none rfl (.tmp 18) (.tmp 26) 59 rfl w.heap.size 85 i0 2 Tryz.underlying59 hi _ _ _ rfl HO2.out rfl ?_)
          go_roundw
          case rel => exact ⟨k + 1, q.t + 1, _, O, by omega, by go_num, by go_num, rfl, by omega, by omega, HO2.out, HE3.out, HX2.out⟩
          case measure => simp [intOf]; omega
        · obtain rfl : mx = x' := by rw [HMX.out]; omega
          clear HMX
          go_wp2_with (at_builtin; refine wpList_append_own_none rfl (.tmp 18) (.tmp 26) 59 rfl w.heap.size 85 i0 2 Tryz.underlying59 hi _ _ _ rfl HO2.out rfl ?_)
          go_roundw
          case rel => exact ⟨k + 1, mx, _, O, by omega, by go_num, rfl, rfl, by omega, by omega, HO2.out, HE3.out, HX2.out⟩
          case measure => simp [intOf]; omega
      · have HCS := hid (flat_cells hs2)
        have HOC := hid (flat_oneCell (cut s x' mn))
        have HFL := hid (flat_len (cut s x' mn))
        have HAP := hid (flat_append O (cut s x' mn))
        clear hs2
        generalize cut s x' mn = C at *
        go_wp2_with (at_builtin; refine wpList_append_own _ rfl (.tmp 18) (.tmp 26) 59 rfl w.heap.size 85 i0 (.agg #[.int .i64 0, .int .i64 0]) 2 16 Tryz.underlying59 hi hz0 hz1 hz2 rfl (by decide) _ _ _ rfl HO2.out ⟨b2, o2, none⟩ C.length C.length (flat C) rfl HFL.out HCS.out HOC.out ?d3 ?d4 HX2.out.size ?_)
        case d3 => unfold maxLen; omega
        case d4 => omega
        intro v1 w3 hown1 hgr1 _
        have HO3 : Hid (Own w3 w.heap.size v1 (O ++ C)) := by unfold Hid Own; rw [HAP.out, List.length_append]; exact hown1
        have HX3 := hid (HX2.out.grown hgr1 HX2.out.size (fun k hk => (World.ownsRow.lt HO2.out k hk).1))
        have HB3 : Hid (w3.heap[wr.heap.size]? = some (.cells #[.slice q.a q.l.length q.c, .int .i64 q.f, .int .i64 q.t] 87)) :=
          (hgr1.block wr.heap.size (lt_at HB2.out) (fun e => by have := HOlt.out wr.heap.size e.symm; omega)).trans HB2.out
        have HE3 := hid ((HSt w3 _ (O ++ C)).out HB3.out HO3.out HX3.out rfl)
        clear hown1 hgr1 HO2 HX2 HB2 HAP HFL HOC HCS
        obtain ⟨d0, d1, d2⟩ := three HB3.out
        by_cases hm2 : x' ≤ q.t + 1
        · obtain rfl : mx = q.t + 1 := by rw [HMX.out]; omega
          clear HMX
          go_wp2
          go_roundw
          case rel => exact ⟨k + 1, q.t + 1, _, O ++ C, by omega, by go_num, by go_num, rfl, by omega, by omega, HO3.out, HE3.out, HX3.out⟩
          case measure => simp [intOf]; omega
        · obtain rfl : mx = x' := by rw [HMX.out]; omega
          clear HMX
          go_wp2
          go_roundw
          case rel => exact ⟨k + 1, mx, _, O ++ C, by omega, by go_num, rfl, rfl, by omega, by omega, HO3.out, HE3.out, HX3.out⟩
          case measure => simp [intOf]; omega
    · obtain rfl : mn = q.f - 1 := by rw [hmn]; omega
      clear hmn
      go_wp2_with fail
      refine (HCall _ (HR.out.below HX0.out)).out.mono ?_
      rintro e w2 ⟨v2, rfl, hv2, hb2⟩
      have HX2 := hid (HX0.out.trans (hb2.mono HX0.out.size))
      have HO2 := hid (HO0.out.below hb2)
      have HB2 := hid (kept HBox.out hb2)
      clear hb2 HO HO0 HX HX0 HBox HCall c0 c1 c2
      rcases hv2 with ⟨hC, rfl⟩ | ⟨hpos, b2, o2, rfl, hs2⟩
      · have HE3 := hid ((HSt w2 _ O).out HB2.out HO2.out HX2.out (by rw [hC, List.append_nil]))
        clear hC
        obtain ⟨d0, d1, d2⟩ := three HB2.out
        by_cases hm2 : x' ≤ q.t + 1
        · obtain rfl : mx = q.t + 1 := by rw [HMX.out]; omega
          clear HMX
          go_wp2_with (at_builtin; refine wpList_append_own_none rfl (.tmp 18) (.tmp 26) 59 rfl w.heap.size 85 i0 2 Tryz.underlying59 hi _ _ _ rfl HO2.out rfl ?_)
          go_roundw
          case rel => exact ⟨k + 1, q.t + 1, _, O, by omega, by go_num, by go_num, rfl, by omega, by omega, HO2.out, HE3.out, HX2.out⟩
          case measure => simp [intOf]; omega
        · obtain rfl : mx = x' := by rw [HMX.out]; omega
          clear HMX
          go_wp2_with (at_builtin; refine wpList_append_own_none rfl (.tmp 18) (.tmp 26) 59 rfl w.heap.size 85 i0 2 Tryz.underlying59 hi _ _ _ rfl HO2.out rfl ?_)
          go_roundw
          case rel => exact ⟨k + 1, mx, _, O, by omega, by go_num, rfl, rfl, by omega, by omega, HO2.out, HE3.out, HX2.out⟩
          case measure => simp [intOf]; omega
      · have HCS := hid (flat_cells hs2)
        have HOC := hid (flat_oneCell (cut s x' (q.f - 1)))
        have HFL := hid (flat_len (cut s x' (q.f - 1)))
        have HAP := hid (flat_append O (cut s x' (q.f - 1)))
        clear hs2
        generalize cut s x' (q.f - 1) = C at *
        go_wp2_with (at_builtin; refine wpList_append_own _ rfl (.tmp 18) (.tmp 26) 59 rfl w.heap.size 85 i0 (.agg #[.int .i64 0, .int .i64 0]) 2 16 Tryz.underlying59 hi hz0 hz1 hz2 rfl (by decide) _ _ _ rfl HO2.out ⟨b2, o2, none⟩ C.length C.length (flat C) rfl HFL.out HCS.out HOC.out ?d3 ?d4 HX2.out.size ?_)
        case d3 => unfold maxLen; omega
        case d4 => omega
        intro v1 w3 hown1 hgr1 _
        have HO3 : Hid (Own w3 w.heap.size v1 (O ++ C)) := by unfold Hid Own; rw [HAP.out, List.length_append]; exact hown1
        have HX3 := hid (HX2.out.grown hgr1 HX2.out.size (fun k hk => (World.ownsRow.lt HO2.out k hk).1))
        have HB3 : Hid (w3.heap[wr.heap.size]? = some (.cells #[.slice q.a q.l.length q.c, .int .i64 q.f, .int .i64 q.t] 87)) :=
          (hgr1.block wr.heap.size (lt_at HB2.out) (fun e => by have := HOlt.out wr.heap.size e.symm; omega)).trans HB2.out
        have HE3 := hid ((HSt w3 _ (O ++ C)).out HB3.out HO3.out HX3.out rfl)
        clear hown1 hgr1 HO2 HX2 HB2 HAP HFL HOC HCS
        obtain ⟨d0, d1, d2⟩ := three HB3.out
        by_cases hm2 : x' ≤ q.t + 1
        · obtain rfl : mx = q.t + 1 := by rw [HMX.out]; omega
          clear HMX
          go_wp2
          go_roundw
          case rel => exact ⟨k + 1, q.t + 1, _, O ++ C, by omega, by go_num, by go_num, rfl, by omega, by omega, HO3.out, HE3.out, HX3.out⟩
          case measure => simp [intOf]; omega
        · obtain rfl : mx = x' := by rw [HMX.out]; omega
          clear HMX
          go_wp2
          go_roundw
          case rel => exact ⟨k + 1, mx, _, O ++ C, by omega, by go_num, rfl, rfl, by omega, by omega, HO3.out, HE3.out, HX3.out⟩
          case measure => simp [intOf]; omega
end Go.Proofs.YtjchioecfcnpfaaGreat.Blk
/- What stones leave of samples: the model's l9Alive. -/
namespace Go.Proofs.YtjchioecfcnpfaaGreat.Blk
open Go.RowKit
open Go.Proofs.YtjchioecfcnpfaaGreat.Lab (Lb HasL cmpList)
open Go.Proofs.YtjchioecfcnpfaaGreat.Smp (Sm HasS cut Own Piece flat flat_cells flat_oneCell flat_len flat_append own_form)
open Go.Proofs.YtjchioecfcnpfaaGreat.Srs (hid lt_at kept Q HasQ agQ q0 two)
open Go.Proofs.YtjchioecfcnpfaaGreat.Stn (T HasT FitT SmlT agT t0 three Cells)

/-- An append to a row of the call's own, as one step of a region that draws its order. -/
theorem step_append_own {P : Program} {ops : Array Oper} {o : Oper} {a : Act} {w : World} {K : Act → World → Prop} {Q : Exit → Act → World → Prop} {E : Prop}
    (hg : o.guard = none) (s x : Operand) (t : TypeId) (hop : o.op = Op.call { callee := Callee.builtin Builtin.append, args := #[s, x], argTypes := #[t, t] })
    (base : Nat) (e : TypeId) (i : TypeInfo) (z : Value) (size bytes : Nat) (h1 : P.underlying t = some (.slice e)) (h2 : P.info? e = some i) (h3 : i.zero = some z) (h4 : i.size = size) (h5 : i.bytes = bytes) (h6 : z.cells.size = size) (h7 : 0 < size)
    (ao : Option Addr) (n cap : Nat) (olds : List Value) (hs : a.eval s = .slice ao n cap) (hown : w.ownsRow base e size (.slice ao n cap) n olds)
    (ad : Addr) (m c : Nat) (news : List Value) (hx : a.eval x = .slice (some ad) m c) (hn : news.length = m * size) (hc : ∀ j u, news[j]? = some u → w.cell? (ad.add j) = some u) (h1c : ∀ u ∈ news, u.oneCell' = true)
    (b1 : n + m ≤ maxLen) (b2 : (n + m) * bytes ≤ 140737488355328) (hbase : base ≤ w.heap.size)
    (hK : ∀ v' w', w'.ownsRow base e size v' (n + m) (olds ++ news) → w.grownBy w' (Value.slice ao n cap).ownBlock → K (a.put o.dst v') w') :
    if Region.wanted o (yielded ops a.tmps) = true then Oper.wp P o a w K Q else E := by
  have hw : Region.wanted o (yielded ops a.tmps) = true := by simp [Region.wanted, hg]
  rw [if_pos hw]
  obtain ⟨v', w', hrun, r1, r2, _⟩ := run_append_own (P := P) w base t o.type e i z size bytes h1 h2 h3 h4 h5 h6 h7 (.slice ao n cap) n olds hown ad m c news hn hc h1c b1 b2 hbase
  unfold Oper.wp
  simp [execOp, hop, resolve, invoke, builtin, hs, hx, hrun, Result.andThen]
  exact hK v' w' r1 r2
/-- The same, where nothing is appended. -/
theorem step_append_none {P : Program} {ops : Array Oper} {o : Oper} {a : Act} {w : World} {K : Act → World → Prop} {Q : Exit → Act → World → Prop} {E : Prop}
    (hg : o.guard = none) (s x : Operand) (t : TypeId) (hop : o.op = Op.call { callee := Callee.builtin Builtin.append, args := #[s, x], argTypes := #[t, t] })
    (base : Nat) (e : TypeId) (i : TypeInfo) (size : Nat) (ht : P.underlying t = some (.slice e)) (hi : P.info? e = some i)
    (v : Value) (n : Nat) (xs : List Value) (hs : a.eval s = v) (hown : w.ownsRow base e size v n xs) (hx : a.eval x = .slice none 0 0)
    (hK : K (a.put o.dst v) w) :
    if Region.wanted o (yielded ops a.tmps) = true then Oper.wp P o a w K Q else E := by
  have hw : Region.wanted o (yielded ops a.tmps) = true := by simp [Region.wanted, hg]
  rw [if_pos hw]
  have hrun := run_append_owned_none (P := P) (w := w) base t o.type e i size ht hi v n xs hown
  unfold Oper.wp
  simp [execOp, hop, resolve, invoke, builtin, hs, hx, hrun, Result.andThen]
  exact hK
theorem own_parts {w : World} {base : Nat} {v : Value} {L : List Sm} (h : Own w base v L) : (L = [] ∧ v = .slice none 0 0) ∨ ∃ g c, v = .slice (some ⟨g, 0, none⟩) L.length c ∧ base ≤ g ∧ HasS w (some ⟨g, 0, none⟩) L := by
  have h' := h
  unfold Own at h
  rcases h.2 with ⟨h1, h2⟩ | ⟨g, cap, cur, h1, _⟩
  · exact .inl ⟨List.eq_nil_of_length_eq_zero h2, h1⟩
  · rw [h1] at h
    exact .inr ⟨g, cap, h1, (h.lt g rfl).1, Smp.HasS.own h⟩
theorem own1_drop {ts : List T} {l : List Lb} {k : Nat} (h : k < ts.length) : own1 (ts.drop k) l = (if cmpList (ts.getD k t0).l l = 0 then [ts.getD k t0] else []) ++ own1 (ts.drop (k + 1)) l := by
  rw [List.drop_eq_getElem_cons h]
  have e : ts[k] = ts.getD k t0 := by simp [h]
  rw [e]
  clear e
  generalize ts.getD k t0 = p
  unfold own1
  rw [List.filter_cons]
  by_cases hc : cmpList p.l l = 0
  · simp [hc]
  · simp [hc]
theorem two_len {L : List Sm} {f t : Int} (h : L.length ≤ 2000) (hft : f ≤ t) : (cut L 0 (f - 1) ++ cut L (t + 1) 1000000000000).length ≤ 2000 := by
  rw [List.length_append]
  unfold cut
  have key : ∀ L : List Sm, (L.filter fun p => decide (0 ≤ p.1 ∧ p.1 ≤ f - 1)).length + (L.filter fun p => decide (t + 1 ≤ p.1 ∧ p.1 ≤ 1000000000000)).length ≤ L.length := by
    intro L
    induction L with
    | nil => simp
    | cons p L ih =>
      rw [List.filter_cons, List.filter_cons]
      by_cases h1 : 0 ≤ p.1 ∧ p.1 ≤ f - 1
      · have h2 : ¬ (t + 1 ≤ p.1 ∧ p.1 ≤ 1000000000000) := by omega
        simp only [h1, h2, decide_true, decide_false, if_true, List.length_cons, Bool.false_eq_true, if_false, and_self]
        omega
      · by_cases h2 : t + 1 ≤ p.1 ∧ p.1 ≤ 1000000000000
        · simp only [h1, h2, decide_true, decide_false, if_true, List.length_cons, Bool.false_eq_true, if_false, and_self]
          omega
        · simp only [h1, h2, decide_false, List.length_cons, Bool.false_eq_true, if_false]
          omega
  have := key L
  omega
/-- Where the samples that are left lie: where they lay, or in new memory. -/
def Loc (X : Nat) (q : Q) (a : Option Addr) : Prop := a = q.b ∨ ∀ bb oo, a = some ⟨bb, oo, none⟩ → X ≤ bb
/-- The block and the series in their boxes. -/
structure KA (w : World) (h : Bk) (q : Q) (x : World) : Prop where
  b0 : x.heap[w.heap.size]? = some (.cells (clB h) 33)
  b1 : x.heap[w.heap.size + 1]? = some (.cells #[.slice q.a q.l.length q.c, .slice q.b q.s.length q.d] 61)
  has : HasB x h
  lab : HasL x q.a q.l
  smp : HasS x q.b q.s
  bel : Below w.heap.size w x
theorem KA.below {w : World} {h : Bk} {q : Q} {x y : World} (g : KA w h q x) (hb : Below x.heap.size x y) : KA w h q y := ⟨kept g.b0 hb, kept g.b1 hb, g.has.below hb, g.lab.below hb, g.smp.below hb, g.bel.trans (hb.mono g.bel.size)⟩
theorem KA.new {w : World} {h : Bk} {q : Q} (hr : HasB w h) (hl : HasL w q.a q.l) (hs : HasS w q.b q.s) : KA w h q ((w.alloc (.cells (clB h) 33)).alloc (.cells #[.slice q.a q.l.length q.c, .slice q.b q.s.length q.d] 61)) := by
  have hb : Below w.heap.size w ((w.alloc (.cells (clB h) 33)).alloc (.cells #[.slice q.a q.l.length q.c, .slice q.b q.s.length q.d] 61)) := ((Below.refl w.heap.size w).alloc (Nat.le_refl _) _).alloc (by simp) _
  have h2 := heap_alloc_new (w.alloc (.cells (clB h) 33)) (.cells #[.slice q.a q.l.length q.c, .slice q.b q.s.length q.d] 61)
  simp only [World.size_alloc] at h2
  exact ⟨(Below.heap_alloc _ _ w.heap.size (by simp)).trans (heap_alloc_new w _), h2, hr.below hb, hl.below hb, hs.below hb, hb⟩
/-- A stone's times in its box; everything that lay there ahead. -/
abbrev SA (p : T) (B : Nat) (z x : World) : Prop := x.cell? ⟨B, 1, none⟩ = some (.int .i64 p.f) ∧ x.cell? ⟨B, 2, none⟩ = some (.int .i64 p.t) ∧ Below z.heap.size z x
theorem SA.new {p : T} {B : Nat} {z x : World} (hb : z.heap[B]? = some (.cells #[.slice p.a p.l.length p.c, .int .i64 p.f, .int .i64 p.t] 87)) (h : Below z.heap.size z x) : SA p B z x := by
  obtain ⟨d0, d1, d2⟩ := three (kept hb h)
  exact ⟨d1, d2, h⟩
set_option maxRecDepth 10000 in
set_option maxHeartbeats 4000000 in
theorem f52 (h : Bk) (q : Q) (w : World) (hr : HasB w h) (hz : SmlB h) (hf : FitT h.ts) (h100 : h.ts.length ≤ 100) (ht : ∀ i, i < h.ts.length → 0 ≤ (h.ts.getD i t0).f ∧ (h.ts.getD i t0).f ≤ 1000000000001 ∧ 0 ≤ (h.ts.getD i t0).t ∧ (h.ts.getD i t0).t ≤ 1000000000001 ∧ (h.ts.getD i t0).f ≤ (h.ts.getD i t0).t) (hl : HasL w q.a q.l) (hl1 : q.l.length ≤ 1048576) (hs : HasS w q.b q.s) (hs1 : q.s.length ≤ 2000) :
    Calls Tryz.prog 52 #[agB h, agQ q] w fun e w' => ∃ (a2 : Option Addr) (c2 : Nat) (L : List Sm), Hid (L = md (spans (own1 h.ts q.l)) q.s) ∧ e = .returned (.slice a2 L.length c2) ∧ Hid (HasS w' a2 L) ∧ Hid (Loc w.heap.size q a2) ∧ L.length ≤ 2000 ∧ Below w.heap.size w w' := by
  obtain ⟨i0, hi, hz0, hz1, hz2⟩ := info_parts infoS'
  obtain ⟨F, TT, LL, qs, a, c, ts, b, d⟩ := h
  simp only at hf h100 ht
  have H0 := hid (KA.new hr hl hs)
  have HZ := hid hz.2.2.2
  have HF := hid hf
  have HT := hid ht
  clear hr hl hs hz hf ht
  simp only [clB] at H0
  obtain ⟨b0, b1, b2, b3, b4⟩ := five H0.out.b0
  obtain ⟨e0, e1⟩ := two H0.out.b1
  simp only [agB, clB, agQ]
  go_enter Tryz.func52, Tryz.ntmps52
  go_wp2
  go_loopw [5, 13] (fun so si wr => ∃ (k : Nat) (a2 : Option Addr) (c2 : Nat) (L : List Sm), k ≤ ts.length ∧ si = .int .i64 k ∧ so = .slice a2 L.length c2 ∧ L.length ≤ 2000 ∧ Hid (HasS wr a2 L) ∧ Hid (Loc w.heap.size q a2) ∧ Hid (md (spans (own1 (ts.drop k) q.l)) L = md (spans (own1 ts q.l)) q.s) ∧ Hid (KA w ⟨F, TT, LL, qs, a, c, ts, b, d⟩ q wr)) (fun _ si _ => ts.length - (intOf si).toNat)
  case atStart => exact ⟨0, q.b, q.d, q.s, Nat.zero_le _, rfl, rfl, hs1, H0.out.smp, .inl rfl, rfl, H0.out⟩
  case round =>
    clear b0 b1 b2 b3 b4 e0 e1 H0
    obtain ⟨k, a2, c2, L, hk, rfl, rfl, hL, HS, HLo, HM, HX⟩ := hrel
    by_cases hlt : k < ts.length
    rotate_left
    · obtain rfl : k = ts.length := by omega
      have HE : Hid (L = md (spans (own1 ts q.l)) q.s) := by
        have h := HM.out
        rw [List.drop_eq_nil_of_le (Nat.le_refl _)] at h
        exact h
      go_wp2
      go_ret
      exact ⟨a2, c2, L, HE, rfl, HS, HLo, hL, HX.out.bel⟩
    obtain ⟨bb, off, hbb, hbl, ⟨c0, c1, c2'⟩, t1⟩ := HX.out.has.2.at2 k hlt
    simp only at hbb c0 c1 c2' t1
    subst hbb
    have HZq := hid (HZ.out k hlt)
    have HFq := hid (HF.out k).1
    obtain ⟨f0, f1, g0, g1, g2⟩ := HT.out k hlt
    have HD := hid HM.out
    rw [own1_drop hlt] at HD
    generalize ts.getD k t0 = p at *
    have i1 : (k : Int) < (ts.length : Int) := by omega
    have HW0 := hid ((Below.refl wr.heap.size wr).alloc (Nat.le_refl _) (.cells #[.slice p.a p.l.length p.c, .int .i64 p.f, .int .i64 p.t] 87))
    have HBx := hid (heap_alloc_new wr (.cells #[.slice p.a p.l.length p.c, .int .i64 p.f, .int .i64 p.t] 87))
    have HX1 := hid (HX.out.below HW0.out)
    have HT1 := hid (t1.below HW0.out)
    have HS1 := hid (HS.out.below HW0.out)
    obtain ⟨e0, e1⟩ := two HX1.out.b1
    clear t1 hbl HM
    go_wp2_with fail
    refine (Lab.f47 p.a q.a p.l.length q.l.length p.c q.c p.l q.l _ rfl rfl HZq.out hl1 HT1.out HX1.out.lab HFq.out).mono ?_
    rintro e w2 ⟨rfl, nq, hw2⟩
    have hb2 : Below (wr.alloc (.cells #[.slice p.a p.l.length p.c, .int .i64 p.f, .int .i64 p.t] 87)).heap.size (wr.alloc (.cells #[.slice p.a p.l.length p.c, .int .i64 p.f, .int .i64 p.t] 87)) w2 := by rw [hw2]; exact Lab.below_drewN (Below.refl _ _) nq
    have HX2 := hid (HX1.out.below hb2)
    have HS2 := hid (HS1.out.below hb2)
    have HB2 := hid (kept HBx.out hb2)
    clear hw2 hb2 HX HX1 HS HS1 HBx HT1 e0 e1 c0 c1 c2'
    generalize wr.heap.size = B at *
    by_cases h3 : cmpList p.l q.l = 0
    rotate_left
    · have g3 : (cmpList p.l q.l == 0) = false := by rw [beq_eq_false_iff_ne]; exact h3
      have HD2 : Hid (md (spans (own1 (ts.drop (k + 1)) q.l)) L = md (spans (own1 ts q.l)) q.s) := by
        have h := HD.out
        rw [if_neg h3] at h
        exact h
      clear h3
      generalize cmpList p.l q.l = z at *
      go_wp2
      go_roundw
      case rel => exact ⟨k + 1, a2, c2, L, by omega, by go_num, rfl, hL, HS2, HLo, HD2, HX2⟩
      case measure => simp [intOf]; omega
    have g3 : (cmpList p.l q.l == 0) = true := by rw [h3]; rfl
    have HD2 : Hid (md (spans (own1 (ts.drop (k + 1)) q.l)) (cut L 0 (p.f - 1) ++ cut L (p.t + 1) 1000000000000) = md (spans (own1 ts q.l)) q.s) := by
      have h := HD.out
      rw [if_pos h3] at h
      exact h
    clear h3
    generalize cmpList p.l q.l = z at *
    have hq1 : IntKind.i64.wrap (p.f - 1) = p.f - 1 := by rw [IntKind.wrap_i64]; omega
    have hq2 : IntKind.i64.wrap (p.t + 1) = p.t + 1 := by rw [IntKind.wrap_i64]; omega
    have HLn : Hid ((cut L 0 (p.f - 1) ++ cut L (p.t + 1) 1000000000000).length ≤ 2000) := hid (two_len hL g2)
    have hX2 : w.heap.size ≤ w2.heap.size := HX2.out.bel.size
    go_wp2_with fail
    refine wp_region_held_drew (S := fun x => SA p B w2 x) rfl (SA.new HB2.out (Below.refl _ _).drew) (fun hHeld => ?_)
    refine wpAnyH_take (i := 0) (oi := { dst := some 23, op := _, type := _, pos := _, after := _, guard := _ }) (v := .slice a2 L.length c2) rfl (by kernel_rfl) (by kernel_rfl) (by kernel_rfl) (fun _ _ _ h => h) (Or.inl ⟨by rfl, fun w hSw => by (try dsimp only at hSw); go_split_ands; go_simp⟩) (by assumption) ?_
    simp only [Act.put, List.setIfInBounds_toArray, List.set_cons_zero, List.set_cons_succ]
    refine wpAnyH_take (i := 1) (oi := { dst := some 24, op := _, type := _, pos := _, after := _, guard := _ }) (v := .pointer (some ⟨B, 1, none⟩)) rfl (by kernel_rfl) (by kernel_rfl) (by kernel_rfl) (fun _ _ _ h => h) (Or.inl ⟨by rfl, fun w hSw => by (try dsimp only at hSw); go_split_ands; go_simp⟩) (by assumption) ?_
    simp only [Act.put, List.setIfInBounds_toArray, List.set_cons_zero, List.set_cons_succ]
    refine wpAnyH_take (i := 2) (oi := { dst := some 25, op := _, type := _, pos := _, after := _, guard := _ }) (v := .int .i64 p.f) rfl (by kernel_rfl) (by kernel_rfl) (by kernel_rfl) (fun _ _ _ h => h) (Or.inl ⟨by rfl, fun w hSw => by (try dsimp only at hSw); go_split_ands; go_simp⟩) (by assumption) ?_
    simp only [Act.put, List.setIfInBounds_toArray, List.set_cons_zero, List.set_cons_succ]
    refine wpAnyH_take (i := 3) (oi := { dst := some 26, op := _, type := _, pos := _, after := _, guard := _ }) (v := .int .i64 (p.f - 1)) rfl (by kernel_rfl) (by kernel_rfl) (by kernel_rfl) (fun _ _ _ h => h) (Or.inl ⟨by rfl, fun w hSw => by (try dsimp only at hSw); go_split_ands; go_simp⟩) (by assumption) ?_
    simp only [Act.put, List.setIfInBounds_toArray, List.set_cons_zero, List.set_cons_succ]
    refine wpAnyH_take (i := 5) (oi := { dst := some 28, op := _, type := _, pos := _, after := _, guard := _ }) (v := .slice a2 L.length c2) rfl (by kernel_rfl) (by kernel_rfl) (by kernel_rfl) (fun _ _ _ h => h) (Or.inl ⟨by rfl, fun w hSw => by (try dsimp only at hSw); go_split_ands; go_simp⟩) (by assumption) ?_
    simp only [Act.put, List.setIfInBounds_toArray, List.set_cons_zero, List.set_cons_succ]
    refine wpAnyH_take (i := 6) (oi := { dst := some 29, op := _, type := _, pos := _, after := _, guard := _ }) (v := .pointer (some ⟨B, 2, none⟩)) rfl (by kernel_rfl) (by kernel_rfl) (by kernel_rfl) (fun _ _ _ h => h) (Or.inl ⟨by rfl, fun w hSw => by (try dsimp only at hSw); go_split_ands; go_simp⟩) (by assumption) ?_
    simp only [Act.put, List.setIfInBounds_toArray, List.set_cons_zero, List.set_cons_succ]
    refine wpAnyH_take (i := 7) (oi := { dst := some 30, op := _, type := _, pos := _, after := _, guard := _ }) (v := .int .i64 p.t) rfl (by kernel_rfl) (by kernel_rfl) (by kernel_rfl) (fun _ _ _ h => h) (Or.inl ⟨by rfl, fun w hSw => by (try dsimp only at hSw); go_split_ands; go_simp⟩) (by assumption) ?_
    simp only [Act.put, List.setIfInBounds_toArray, List.set_cons_zero, List.set_cons_succ]
    refine wpAnyH_take (i := 8) (oi := { dst := some 31, op := _, type := _, pos := _, after := _, guard := _ }) (v := .int .i64 (p.t + 1)) rfl (by kernel_rfl) (by kernel_rfl) (by kernel_rfl) (fun _ _ _ h => h) (Or.inl ⟨by rfl, fun w hSw => by (try dsimp only at hSw); go_split_ands; go_simp⟩) (by assumption) ?_
    simp only [Act.put, List.setIfInBounds_toArray, List.set_cons_zero, List.set_cons_succ]
    refine wpAnyH_ready (rs := [4]) (by kernel_rfl) (by simp) (AllReadyH.cons (o := { dst := some 27, op := _, type := _, pos := _, after := _, guard := _ }) rfl ?_ AllReadyH.nil)
    intro K1 hK1
    go_simp
    go_wp2_with (go_at_call 84; refine (Smp.f84 a2 c2 L 0 (p.f - 1) _ (by omega) (HS2.out.below hHeld.2.2)).mono ?_; rintro e w4 ⟨v4, rfl, hv4, hb4⟩; have hs4 : SA p B w2 w4 := SA.new HB2.out (hHeld.2.2.trans (hb4.mono hHeld.2.2.size)))
    refine hK1.out _ _ hs4 (fun _ => ?_)
    clear hK1 K1
    have HV4 : Hid (Own w4 w2.heap.size v4 (cut L 0 (p.f - 1))) := World.ownsRow.mono hv4 hHeld.2.2.size
    clear hHeld hv4 hb4
    refine wpAnyH_ready (rs := [9]) (by kernel_rfl) (by simp) (AllReadyH.cons (o := { dst := some 32, op := _, type := _, pos := _, after := _, guard := _ }) rfl ?_ AllReadyH.nil)
    intro K2 hK2
    go_simp
    go_wp2_with (go_at_call 84; refine (Smp.f84 a2 c2 L (p.t + 1) 1000000000000 _ (by omega) (HS2.out.below hs4.2.2)).mono ?_; rintro e w5 ⟨v5, rfl, hv5, hb5⟩; have hs5 : SA p B w2 w5 := SA.new HB2.out (hs4.2.2.trans (hb5.mono hs4.2.2.size)))
    refine hK2.out _ _ hs5 (fun _ => ?_)
    clear hK2 K2
    have HV5 : Hid (Own w5 w2.heap.size v4 (cut L 0 (p.f - 1))) := HV4.out.below hb5
    have HU5 := hid hv5
    clear hs4 hv5 hb5 HV4
    obtain ⟨a4, c4, rfl⟩ := own_form HV5.out
    rcases own_parts HU5.out with ⟨hC, rfl⟩ | ⟨g5, c5, rfl, hg5, hh5⟩
    · have HD3 := HD2
      rw [hC, List.append_nil] at HD3 HLn
      clear hC HD2
      refine wpAnyH_ready (rs := [10]) (by kernel_rfl) (by simp) (AllReadyH.cons (o := { dst := some 33, op := _, type := _, pos := _, after := _, guard := _ }) rfl ?_ AllReadyH.nil)
      intro K3 hK3
      refine step_append_none rfl (.tmp 27) (.tmp 32) 59 rfl w2.heap.size 85 i0 2 Tryz.underlying59 hi _ _ _ rfl HV5.out rfl ?_
      refine hK3.out _ _ hs5 (fun _ => ?_)
      clear hK3 K3
      simp only [Act.put, List.setIfInBounds_toArray, List.set_cons_zero, List.set_cons_succ]
      refine wpAnyH_take (i := 11) (oi := { dst := some 5, op := _, type := _, pos := _, after := _, guard := _ }) (v := .slice a4 (cut L 0 (p.f - 1)).length c4) rfl (by kernel_rfl) (by kernel_rfl) (by kernel_rfl) (fun _ _ _ h => h) (Or.inl ⟨by rfl, fun w hSw => by (try dsimp only at hSw); go_split_ands; go_simp⟩) (by assumption) ?_
      simp only [Act.put, List.setIfInBounds_toArray, List.set_cons_zero, List.set_cons_succ]
      refine wpAnyH_done (by kernel_rfl) ?_ _
      have HX5 := hid (HX2.out.below hs5.2.2)
      have HS5 : Hid (HasS w5 a4 (cut L 0 (p.f - 1)) ∧ Loc w.heap.size q a4) := by
        rcases own_parts HV5.out with ⟨h1, h2⟩ | ⟨g, c, h2, h3, h4⟩
        · simp only [Value.slice.injEq] at h2; obtain ⟨rfl, -, -⟩ := h2; rw [h1]; exact ⟨.inl rfl, .inr fun bb oo e => by cases e⟩
        · simp only [Value.slice.injEq] at h2; obtain ⟨rfl, -, -⟩ := h2; exact ⟨h4, .inr fun bb oo e => by cases e; omega⟩
      clear hs5 HV5 HU5 HX2 HS2
      generalize cut L 0 (p.f - 1) = C at *
      go_wp2
      go_roundw
      case rel => exact ⟨k + 1, a4, c4, C, by omega, by go_num, rfl, HLn.out, HS5.out.1, HS5.out.2, HD3.out, HX5⟩
      case measure => simp [intOf]; omega
    · have HCS := hid (flat_cells hh5)
      have HOC := hid (flat_oneCell (cut L (p.t + 1) 1000000000000))
      have HFL := hid (flat_len (cut L (p.t + 1) 1000000000000))
      have HAP := hid (flat_append (cut L 0 (p.f - 1)) (cut L (p.t + 1) 1000000000000))
      clear hh5 HU5
      have hln := HLn.out
      rw [List.length_append] at hln
      refine wpAnyH_ready (rs := [10]) (by kernel_rfl) (by simp) (AllReadyH.cons (o := { dst := some 33, op := _, type := _, pos := _, after := _, guard := _ }) rfl ?_ AllReadyH.nil)
      intro K3 hK3
      refine step_append_own rfl (.tmp 27) (.tmp 32) 59 rfl w2.heap.size 85 i0 (.agg #[.int .i64 0, .int .i64 0]) 2 16 Tryz.underlying59 hi hz0 hz1 hz2 rfl (by decide) _ _ _ _ rfl HV5.out ⟨g5, 0, none⟩ _ c5 (flat (cut L (p.t + 1) 1000000000000)) rfl HFL.out HCS.out HOC.out (by unfold maxLen; omega) (by omega) hs5.2.2.size ?_
      intro v6 w6 hown6 hgr6
      have HV6 : Hid (Own w6 w2.heap.size v6 (cut L 0 (p.f - 1) ++ cut L (p.t + 1) 1000000000000)) := by unfold Hid Own; rw [HAP.out, List.length_append]; exact hown6
      have hs6 : SA p B w2 w6 := SA.new HB2.out (hs5.2.2.grown hgr6 hs5.2.2.size (fun k hk => (World.ownsRow.lt HV5.out k hk).1))
      refine hK3.out _ _ hs6 (fun _ => ?_)
      clear hK3 K3 hs5 HV5 hown6 hgr6
      obtain ⟨a6, c6, rfl⟩ := own_form HV6.out
      simp only [Act.put, List.setIfInBounds_toArray, List.set_cons_zero, List.set_cons_succ]
      refine wpAnyH_take (i := 11) (oi := { dst := some 5, op := _, type := _, pos := _, after := _, guard := _ }) (v := .slice a6 (cut L 0 (p.f - 1) ++ cut L (p.t + 1) 1000000000000).length c6) rfl (by kernel_rfl) (by kernel_rfl) (by kernel_rfl) (fun _ _ _ h => h) (Or.inl ⟨by rfl, fun w hSw => by (try dsimp only at hSw); go_split_ands; go_simp⟩) (by assumption) ?_
      simp only [Act.put, List.setIfInBounds_toArray, List.set_cons_zero, List.set_cons_succ]
      refine wpAnyH_done (by kernel_rfl) ?_ _
      have HX5 := hid (HX2.out.below hs6.2.2)
      have HS5 : Hid (HasS w6 a6 (cut L 0 (p.f - 1) ++ cut L (p.t + 1) 1000000000000) ∧ Loc w.heap.size q a6) := by
        rcases own_parts HV6.out with ⟨h1, h2⟩ | ⟨g, c, h2, h3, h4⟩
        · simp only [Value.slice.injEq] at h2; obtain ⟨rfl, -, -⟩ := h2; rw [h1]; exact ⟨.inl rfl, .inr fun bb oo e => by cases e⟩
        · simp only [Value.slice.injEq] at h2; obtain ⟨rfl, -, -⟩ := h2; exact ⟨h4, .inr fun bb oo e => by cases e; omega⟩
      clear hs6 HV6 HX2 HS2 HCS HOC HFL HAP hln
      generalize cut L 0 (p.f - 1) ++ cut L (p.t + 1) 1000000000000 = C at *
      go_wp2
      go_roundw
      case rel => exact ⟨k + 1, a6, c6, C, by omega, by go_num, rfl, HLn.out, HS5.out.1, HS5.out.2, HD2.out, HX5⟩
      case measure => simp [intOf]; omega
end Go.Proofs.YtjchioecfcnpfaaGreat.Blk
