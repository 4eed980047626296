import Derived.Test.YtjhdmghpklagkaaGreatD10
import Derived.Test.YtjhdmghpklagkaaGreatD22
namespace Go.Proofs.YtjhdmghpklagkaaGreat.Blk
open Go.Proofs.YtjhdmghpklagkaaGreat.Smp (Sm e0 cut)
open Go.Proofs.YtjhdmghpklagkaaGreat.Lab (Lb cmpList)
open Go.Proofs.YtjhdmghpklagkaaGreat.Stn (T t0)

abbrev Up (s : List Sm) : Prop := s.Pairwise fun p q => p.1 < q.1
theorem good_up {s : List Sm} (h : Smp.GoodP s) : Up s := by
  have key : ∀ (d i : Nat), i + d + 1 < s.length → (s.getD i e0).1 < (s.getD (i + d + 1) e0).1 := by
    intro d
    induction d with
    | zero => intro i hi; exact (h.2 (i + 0 + 1) hi).2 (by omega)
    | succ d ih =>
      intro i hi
      have h1 := ih i (by omega)
      have h2 : (s.getD (i + d + 1) e0).1 < (s.getD (i + (d + 1) + 1) e0).1 := (h.2 (i + (d + 1) + 1) hi).2 (by omega)
      omega
  unfold Up
  rw [List.pairwise_iff_getElem]
  intro i j hi hj hij
  have := key (j - i - 1) i (by omega)
  rw [show i + (j - i - 1) + 1 = j by omega] at this
  simpa [hi, hj] using this
theorem good_time {s : List Sm} (h : Smp.GoodP s) : ∀ p ∈ s, 0 ≤ p.1 ∧ p.1 ≤ 1000000000000 := by
  intro p hp
  obtain ⟨i, hi, rfl⟩ := List.getElem_of_mem hp
  have := (h.2 i hi).1
  simpa [hi, Smp.TimeP] using this
theorem two_parts {P R : Sm → Bool} : ∀ {s : List Sm}, Up s → (∀ p q, p.1 < q.1 → R p = true → P q = true → False) → (∀ p, P p = true → R p = true → False) → s.filter P ++ s.filter R = s.filter fun p => P p || R p := by
  intro s
  induction s with
  | nil => intro _ _ _; rfl
  | cons p s ih =>
    intro hu h1 h2
    obtain ⟨hp, hu'⟩ := List.pairwise_cons.1 hu
    have := ih hu' h1 h2
    cases hP : P p
    · cases hR : R p
      · rw [List.filter_cons_of_neg (by simp [hP]), List.filter_cons_of_neg (by simp [hR]), List.filter_cons_of_neg (by simp [hP, hR])]; exact this
      · have e : s.filter P = [] := List.filter_eq_nil_iff.2 fun q hq => fun h => h1 p q (hp q hq) hR h
        rw [List.filter_cons_of_neg (by simp [hP]), List.filter_cons_of_pos hR, List.filter_cons_of_pos (by simp [hR]), ← this, e]; rfl
    · have hR : R p = false := by cases hR : R p; rfl; exact absurd (h2 p hP hR) id
      rw [List.filter_cons_of_pos hP, List.filter_cons_of_neg (by simp [hR]), List.filter_cons_of_pos (by simp [hP]), ← this]; rfl
abbrev Sp := Int × Int
def free (S : List Sp) (x : Int) : Bool := S.all fun p => !decide (p.1 ≤ x ∧ x ≤ p.2)
def alive (S : List Sp) (s : List Sm) : List Sm := s.filter fun p => free S p.1
def md : List Sp → List Sm → List Sm
  | [], s => s
  | (f, t) :: S, s => md S (cut s 0 (f - 1) ++ cut s (t + 1) 1000000000000)
theorem one_out {s : List Sm} {f t : Int} (hu : Up s) (ht : ∀ p ∈ s, 0 ≤ p.1 ∧ p.1 ≤ 1000000000000) (hft : f ≤ t) : cut s 0 (f - 1) ++ cut s (t + 1) 1000000000000 = s.filter fun p => !decide (f ≤ p.1 ∧ p.1 ≤ t) := by
  unfold cut
  rw [two_parts hu (fun p q h1 h2 h3 => by simp only [decide_eq_true_eq] at h2 h3; omega) (fun p h2 h3 => by simp only [decide_eq_true_eq] at h2 h3; omega)]
  refine List.filter_congr fun p hp => ?_
  have := ht p hp
  rw [Bool.eq_iff_iff]
  simp only [Bool.or_eq_true, decide_eq_true_eq, Bool.not_eq_true', decide_eq_false_iff_not]
  omega
theorem md_alive : ∀ {S : List Sp} {s : List Sm}, Up s → (∀ p ∈ s, 0 ≤ p.1 ∧ p.1 ≤ 1000000000000) → (∀ p ∈ S, p.1 ≤ p.2) → md S s = alive S s := by
  intro S
  induction S with
  | nil => intro s _ _ _; unfold md alive; exact (List.filter_eq_self.2 fun _ _ => rfl).symm
  | cons q S ih =>
    intro s hu ht hS
    obtain ⟨f, t⟩ := q
    have e := one_out hu ht (hS (f, t) (by simp))
    unfold md
    rw [e, ih (hu.sublist List.filter_sublist) (fun p hp => ht p ((List.mem_filter.1 hp).1)) (fun p hp => hS p (by simp [hp]))]
    unfold alive
    rw [List.filter_filter]
    refine List.filter_congr fun p _ => ?_
    unfold free
    rw [List.all_cons, Bool.and_comm]
def pg : List Sp → List Sm → Int → Int → List Sm
  | [], s, x, y => cut s x y
  | (f, t) :: S, s, x, y => cut s x (min y (f - 1)) ++ pg S s (max x (t + 1)) y
theorem pg_alive : ∀ {S : List Sp} {s : List Sm} {x y : Int}, Up s → (∀ p ∈ S, p.1 ≤ p.2) → S.Pairwise (fun p q => p.2 + 1 < q.1) → pg S s x y = cut (alive S s) x y := by
  intro S
  induction S with
  | nil =>
    intro s x y _ _ _
    unfold pg alive
    rw [List.filter_eq_self.2 (show ∀ p ∈ s, free [] p.1 = true from fun _ _ => rfl)]
  | cons q S ih =>
    intro s x y hu hS hA
    obtain ⟨f, t⟩ := q
    obtain ⟨hA1, hA2⟩ := List.pairwise_cons.1 hA
    have hft : f ≤ t := hS (f, t) (by simp)
    unfold pg
    rw [ih hu (fun p hp => hS p (by simp [hp])) hA2]
    unfold alive cut
    rw [List.filter_filter, List.filter_filter, two_parts hu (fun p q h1 h2 h3 => by simp only [Bool.and_eq_true, decide_eq_true_eq] at h2 h3; omega) (fun p h2 h3 => by simp only [Bool.and_eq_true, decide_eq_true_eq] at h2 h3; omega)]
    refine List.filter_congr fun p _ => ?_
    have hfr : p.1 < f → free S p.1 = true := fun h => by
      unfold free
      rw [List.all_eq_true]
      intro q hq
      have := hA1 q hq
      simp only at this
      rw [Bool.not_eq_true', decide_eq_false_iff_not]
      omega
    have hc : free ((f, t) :: S) p.1 = (!decide (f ≤ p.1 ∧ p.1 ≤ t) && free S p.1) := by unfold free; rw [List.all_cons]
    rw [hc, Bool.eq_iff_iff]
    simp only [Bool.or_eq_true, Bool.and_eq_true, decide_eq_true_eq, Bool.not_eq_true', decide_eq_false_iff_not]
    constructor
    · rintro (⟨h1, h2⟩ | ⟨⟨h1, h2⟩, h3⟩)
      · exact ⟨⟨h1, by omega⟩, by omega, hfr (by omega)⟩
      · exact ⟨⟨by omega, by omega⟩, by omega, h3⟩
    · rintro ⟨⟨h1, h2⟩, h3, h4⟩
      by_cases h5 : p.1 < f
      · exact .inl ⟨h1, by omega⟩
      · exact .inr ⟨⟨by omega, h2⟩, h4⟩
end Go.Proofs.YtjhdmghpklagkaaGreat.Blk
namespace Go.Proofs.YtjhdmghpklagkaaGreat.Blk
open Go.RowKit
open Go.Proofs.YtjhdmghpklagkaaGreat.Lab (Lb HasL cmpList)
open Go.Proofs.YtjhdmghpklagkaaGreat.Smp (In64 ret_bool)
open Go.Proofs.YtjhdmghpklagkaaGreat.Srs (hid lt_at kept Q HasQ FitQ SmlQ GoodQ agQ q0)
open Go.Proofs.YtjhdmghpklagkaaGreat.Stn (T HasT FitT SmlT agT t0 three Cells)

abbrev lt (ts : List T) (i : Nat) : List Lb := (ts.getD i t0).l
theorem lst_le_trans {a b c : List Lb} (h1 : cmpList a b ≤ 0) (h2 : cmpList b c ≤ 0) : cmpList a c ≤ 0 := by
  rcases Int.lt_or_eq_of_le h1 with g1 | g1
  · rcases Int.lt_or_eq_of_le h2 with g2 | g2
    · exact Int.le_of_lt (lst_trans g1 g2)
    · rw [← lst_zero g2]; exact h1
  · rw [lst_zero g1]; exact h2
theorem riseT_step {ts : List T} (h : RiseT ts) : ∀ (d i : Nat), i + d + 1 < ts.length → cmpList (lt ts i) (lt ts (i + d + 1)) ≤ 0 := by
  have one : ∀ i, i + 1 < ts.length → cmpList (lt ts i) (lt ts (i + 1)) ≤ 0 := by
    intro i hi
    rcases h (i + 1) hi (by omega) with g | ⟨g, _⟩
    · exact Int.le_of_lt g
    · exact Int.le_of_eq g
  intro d
  induction d with
  | zero => intro i hi; exact one i hi
  | succ d ih => intro i hi; exact lst_le_trans (ih i (by omega)) (one (i + d + 1) (by omega))
theorem riseT_le {ts : List T} (h : RiseT ts) {i j : Nat} (hij : i < j) (hj : j < ts.length) : cmpList (lt ts i) (lt ts j) ≤ 0 := by
  have := riseT_step h (j - i - 1) i (by omega)
  rw [show i + (j - i - 1) + 1 = j by omega] at this
  exact this
theorem le_lt {a b c : List Lb} (h1 : cmpList a b ≤ 0) (h2 : cmpList b c < 0) : cmpList a c < 0 := by
  rcases Int.lt_or_eq_of_le h1 with g1 | g1
  · exact lst_trans g1 h2
  · rw [lst_zero g1]; exact h2
structure PlaceT (ts : List T) (l : List Lb) (lo : Nat) : Prop where
  le : lo ≤ ts.length
  less : ∀ i, i < lo → cmpList (lt ts i) l < 0
  geq : lo < ts.length → 0 ≤ cmpList (lt ts lo) l

set_option maxHeartbeats 1000000 in
theorem f160 (q : T) (a' : Option Addr) (c' : Nat) (l : List Lb) (w : World) (n1 : q.l.length ≤ 1048576) (n2 : l.length ≤ 1048576) (hq : HasL w q.a q.l) (hl : HasL w a' l) :
    Calls Tryz.prog 160 #[agT q, .slice a' l.length c'] w fun e w' => e = .returned (.int .i64 (cmpList q.l l)) ∧ Below w.heap.size w w' := by
  obtain ⟨ll, a, c, f, t⟩ := q
  simp only at n1 hq
  have HB := hid ((Below.refl w.heap.size w).alloc (Nat.le_refl _) (.cells #[.slice a ll.length c, .int .i64 f, .int .i64 t] 94))
  have HL := hid (hq.below HB.out)
  have HL' := hid (hl.below HB.out)
  clear hq hl
  simp only [agT]
  go_enter Tryz.func160, Tryz.ntmps160
  go_wp2_with fail
  refine (Lab.f134 a a' ll.length l.length c c' ll l _ rfl rfl n1 n2 HL.out HL'.out).mono ?_
  rintro e w1 ⟨rfl, hb1⟩
  have HB1 := hid (HB.out.trans (hb1.mono HB.out.size))
  clear hb1
  go_wp2
  go_ret
  exact ⟨rfl, HB1.out⟩

set_option maxHeartbeats 2000000 in
theorem f159 (a : Option Addr) (n c : Nat) (qs : List T) (a' : Option Addr) (c' : Nat) (l : List Lb) (w : World) (hn : qs.length = n) (hb : n ≤ 1048576) (hr : HasT w a qs) (hz : SmlT qs) (hg : RiseT qs) (hl : HasL w a' l) (hl1 : l.length ≤ 1048576) :
    Calls Tryz.prog 159 #[.slice a n c, .slice a' l.length c', .func (.func 160) #[] #[]] w fun e w' => ∃ lo : Nat, Hid (PlaceT qs l lo ∧ (∃ r : Bool, e = .returned (.tuple #[.int .i64 lo, .bool r])) ∧ Below w.heap.size w w') := by
  have HN := hid hn
  have HR := hid hr
  have HZ := hid hz
  have HG := hid hg
  have HL := hid hl
  clear hn hr hz hg hl
  go_enter Tryz.func159, Tryz.ntmps159
  go_wp2
  go_loopw [9, 10] (fun si sj wr => ∃ (lo hi : Nat), lo ≤ hi ∧ hi ≤ n ∧ si = .int .i64 lo ∧ sj = .int .i64 hi ∧ Hid (∀ i, i < lo → cmpList (lt qs i) l < 0) ∧ Hid (hi < n → 0 ≤ cmpList (lt qs hi) l) ∧ Hid (Below w.heap.size w wr)) (fun si sj _ => (intOf sj).toNat - (intOf si).toNat)
  case atStart => exact ⟨0, n, Nat.zero_le _, Nat.le_refl _, rfl, rfl, fun i hi => by omega, fun h => by omega, Below.refl _ _⟩
  case round =>
    obtain ⟨lo, hi, hlh, hhn, rfl, rfl, hlow, hhigh, HX⟩ := hrel
    by_cases hlt : lo < hi
    · obtain ⟨h, hh⟩ : ∃ h, h = (lo + hi) / 2 := ⟨_, rfl⟩
      have hh1 : lo ≤ h := by omega
      have hh2 : h < hi := by omega
      have HH := hid hh
      clear hh
      obtain ⟨b, off, rfl, hbl, ⟨c0, c1, c2⟩, t1⟩ := (HR.out.below HX.out).at2 h (by rw [HN.out]; omega)
      have HZq := hid (HZ.out h (by rw [HN.out]; omega))
      have i1 : ((lo : Int) + (hi : Int)) / 2 < (n : Int) := by omega
      have i0 : 0 ≤ ((lo : Int) + (hi : Int)) / 2 := by omega
      obtain ⟨p, hp⟩ : ∃ p, p = qs.getD h t0 := ⟨_, rfl⟩
      rw [← hp] at c0 c1 c2 t1 HZq
      have HLow : Hid (cmpList p.l l < 0 → ∀ i, i < h + 1 → cmpList (lt qs i) l < 0) := by
        intro hx i hi
        rw [hp] at hx
        by_cases e : i = h
        · subst e; exact hx
        · exact le_lt (riseT_le HG.out (show i < h by omega) (by rw [HN.out]; omega)) hx
      have HHigh : Hid (¬ cmpList p.l l < 0 → h < n → 0 ≤ cmpList (lt qs h) l) := fun h1 _ => by rw [hp] at h1; simp only [lt]; omega
      have HT1 := hid t1
      rw [HH.out] at c0 c1 c2
      clear t1 hp
      by_cases h3 : cmpList p.l l < 0
      · go_wp2_with fail
        refine (f160 p a' c' l _ HZq.out hl1 HT1.out (HL.out.below HX.out)).mono ?_
        rintro e w2 ⟨rfl, hb2⟩
        have HX2 := hid (HX.out.trans (hb2.mono HX.out.size))
        clear hb2 c0 c1 c2 hbl
        go_wp2
        go_roundw
        case rel => exact ⟨h + 1, hi, by omega, hhn, by have := HH.out; go_num, rfl, HLow.out h3, hhigh, HX2⟩
        case measure => simp [intOf]; omega
      · go_wp2_with fail
        refine (f160 p a' c' l _ HZq.out hl1 HT1.out (HL.out.below HX.out)).mono ?_
        rintro e w2 ⟨rfl, hb2⟩
        have HX2 := hid (HX.out.trans (hb2.mono HX.out.size))
        clear hb2 c0 c1 c2 hbl
        go_wp2
        go_roundw
        case rel => exact ⟨lo, h, hh1, by omega, rfl, by have := HH.out; go_num, hlow, HHigh.out h3, HX2⟩
        case measure => have := HH.out; simp [intOf]; omega
    · obtain rfl : lo = hi := by omega
      have HP : Hid (PlaceT qs l lo) := ⟨by rw [HN.out]; exact hhn, hlow.out, fun h => hhigh.out (by rw [HN.out] at h; exact h)⟩
      by_cases hln : lo < n
      · obtain ⟨b, off, rfl, hbl, ⟨c0, c1, c2⟩, t1⟩ := (HR.out.below HX.out).at2 lo (by rw [HN.out]; omega)
        have HZq := hid (HZ.out lo (by rw [HN.out]; omega))
        have i1 : (lo : Int) < (n : Int) := by omega
        generalize qs.getD lo t0 = p at *
        have HT1 := hid t1
        clear t1 hlow hhigh
        go_wp2_with fail
        refine (f160 p a' c' l _ HZq.out hl1 HT1.out (HL.out.below HX.out)).mono ?_
        rintro e w2 ⟨rfl, hb2⟩
        have HX2 := hid (HX.out.trans (hb2.mono HX.out.size))
        clear hb2 c0 c1 c2 hbl
        go_wp2
        go_ret2
        exact ⟨lo, ⟨HP.out, ⟨_, rfl⟩, HX2.out⟩⟩
      · have i1 : ¬ (lo : Int) < (n : Int) := by omega
        go_wp2
        go_ret2
        exact ⟨lo, ⟨HP.out, by first | exact .inl rfl | exact ⟨_, rfl⟩, HX.out⟩⟩

theorem filt_mid {α : Type} (P : α → Bool) (dd : α) : ∀ (ls : List α) (f e : Nat), (∀ i, i < ls.length → P (ls.getD i dd) = decide (f ≤ i ∧ i < e)) → ls.filter P = (ls.take e).drop f := by
  intro ls
  induction ls with
  | nil => intro f e _; simp
  | cons p L ih =>
    intro f e h
    have h0 := h 0 (by simp)
    have hs : ∀ i, i < L.length → P (L.getD i dd) = decide (f - 1 ≤ i ∧ i < e - 1) := by
      intro i hi
      have := h (i + 1) (by simp; omega)
      simp only [List.getD_cons_succ] at this
      rw [this, decide_eq_decide]
      omega
    have := ih (f - 1) (e - 1) hs
    simp only [List.getD_cons_zero] at h0
    cases e with
    | zero =>
      have h1 : P p = false := by rw [h0]; simp
      rw [List.filter_cons_of_neg (by simp [h1]), this]; simp
    | succ e =>
      cases f with
      | zero =>
        have h1 : P p = true := by rw [h0]; simp
        rw [List.filter_cons_of_pos h1, this]; simp
      | succ f =>
        have h1 : P p = false := by rw [h0]; simp
        rw [List.filter_cons_of_neg (by simp [h1]), this]; simp
def own1 (ts : List T) (l : List Lb) : List T := ts.filter fun p => decide (cmpList p.l l = 0)
theorem run_own {ts : List T} {l : List Lb} {lo e : Nat} (hg : RiseT ts) (hp : PlaceT ts l lo) (he : e ≤ ts.length) (h0 : ∀ i, lo ≤ i → i < e → cmpList (lt ts i) l = 0) (h1 : e < ts.length → cmpList (lt ts e) l ≠ 0) (hle : lo ≤ e) : own1 ts l = (ts.take e).drop lo := by
  refine filt_mid _ t0 ts lo e fun i hi => ?_
  rw [decide_eq_decide]
  constructor
  · intro h
    refine ⟨?_, ?_⟩
    · refine Nat.le_of_not_lt fun g => ?_
      have := hp.less i g
      simp only [lt] at this
      omega
    · refine Nat.lt_of_not_le fun g => ?_
      have h2 := h1 (by omega)
      have h3 : 0 ≤ cmpList (lt ts e) l := by
        by_cases e1 : lo = e
        · subst e1; exact hp.geq (by omega)
        · have g1 := h0 lo (Nat.le_refl _) (by omega)
          have g2 := riseT_le hg (show lo < e by omega) (by omega)
          rw [lst_zero g1] at g2
          refine Int.not_lt.1 fun g3 => ?_
          rcases Int.lt_or_eq_of_le g2 with g4 | g4
          · have := lst_trans g4 g3; rw [lst_self] at this; omega
          · rw [← lst_zero g4, lst_self] at g3; omega
      by_cases e1 : i = e
      · subst e1; exact h2 h
      · have g2 := riseT_le hg (show e < i by omega) hi
        have g5 : cmpList (lt ts e) l ≤ 0 := by rw [← lst_zero (show cmpList (lt ts i) l = 0 from h)]; exact g2
        omega
  · intro h; exact h0 i h.1 h.2
theorem has_midT {w : World} {b off f e : Nat} {ls : List T} (h : HasT w (some ⟨b, off, none⟩) ls) (he : e ≤ ls.length) : HasT w (some ⟨b, off + f * 3, none⟩) ((ls.take e).drop f) := by
  by_cases hz : e ≤ f
  · exact .inl (List.eq_nil_of_length_eq_zero (by simp; omega))
  rcases h with h | ⟨b', off', hbo, hb, hc⟩
  · rw [h] at he; simp at he; omega
  · simp only [Option.some.injEq, Addr.mk.injEq, and_true] at hbo
    obtain ⟨rfl, rfl⟩ := hbo
    refine .inr ⟨b, off + f * 3, rfl, hb, fun i hi => ?_⟩
    have hi' : f + i < e := by simp at hi; omega
    have h1 : ((ls.take e).drop f).getD i t0 = ls.getD (f + i) t0 := by
      simp only [List.getD_eq_getElem?_getD, List.getElem?_drop, List.getElem?_take, hi', if_true]
    rw [h1, show off + f * 3 + i * 3 = off + (f + i) * 3 from by omega]
    exact hc (f + i) (by omega)
set_option maxHeartbeats 4000000 in
theorem f131 (h : Bk) (a' : Option Addr) (c' : Nat) (l : List Lb) (w : World) (hr : HasB w h) (hz : SmlB h) (hg : RiseT h.ts) (h100 : h.ts.length ≤ 100) (hd : h.ts.length ≤ h.d) (hl : HasL w a' l) (hl1 : l.length ≤ 1048576) :
    Calls Tryz.prog 131 #[agB h, .slice a' l.length c'] w fun e w' => ∃ (a2 : Option Addr) (L : List T), Hid (L = own1 h.ts l) ∧ e = .returned (.slice a2 L.length L.length) ∧ HasT w' a2 L ∧ Below w.heap.size w w' := by
  obtain ⟨F, TT, LL, qs, a, c, ts, b, d⟩ := h
  simp only at hg h100 hd
  have H0 := hid (HB.new hr)
  have HZ := hid hz.2.2.2
  have HG := hid hg
  have HL := hid (hl.below H0.out.bel)
  clear hr hz hg hl
  simp only [clB] at H0 HL
  obtain ⟨b0, b1, b2, b3, b4⟩ := five H0.out.box
  simp only [agB, clB]
  go_enter Tryz.func131, Tryz.ntmps131
  go_wp2_with fail
  refine (f159 b ts.length d ts a' c' l _ rfl (by omega) H0.out.has.2 HZ.out HG.out HL.out hl1).mono ?_
  rintro e w1 ⟨lo, hp, ⟨r, rfl⟩, hb1⟩
  have H1 := hid (H0.out.below hb1)
  have HL1 := hid (HL.out.below hb1)
  have HP := hid hp
  have hlo : lo ≤ ts.length := hp.le
  clear hb1 hp H0 HL b0 b1 b2 b3 b4
  obtain ⟨b0, b1, b2, b3, b4⟩ := five H1.out.box
  go_wp2
  go_loopw [7] (fun si wr => ∃ k : Nat, lo ≤ k ∧ k ≤ ts.length ∧ si = .int .i64 k ∧ Hid (∀ i, lo ≤ i → i < k → cmpList (lt ts i) l = 0) ∧ Hid (HB w ⟨F, TT, LL, qs, a, c, ts, b, d⟩ wr) ∧ Hid (HasL wr a' l)) (fun si _ => ts.length - (intOf si).toNat)
  case atStart => exact ⟨lo, Nat.le_refl _, hlo, rfl, fun i h1 h2 => by omega, H1.out, HL1.out⟩
  case round =>
    clear b0 b1 b2 b3 b4 H1 HL1
    obtain ⟨k, hk0, hk, rfl, HU, HX, HLr⟩ := hrel
    obtain ⟨b0, b1, b2, b3, b4⟩ := five HX.out.box
    have HEnd : Hid ((k < ts.length → cmpList (lt ts k) l ≠ 0) → own1 ts l = (ts.take k).drop lo) := fun h => run_own HG.out HP.out hk HU.out h hk0
    have HFin : ∀ x, Hid (HB w ⟨F, TT, LL, qs, a, c, ts, b, d⟩ x → HasT x b ts ∧ Below w.heap.size w x) := fun x g => ⟨g.has.2, g.bel⟩
    by_cases hlt : k < ts.length
    · have HT : Hid (HasT wr b ts) := HX.out.has.2
      obtain ⟨bb, off, rfl, hbl, ⟨c0, c1, c2⟩, t1⟩ := HT.out.at2 k hlt
      have HZq := hid (HZ.out k hlt)
      have i1 : (k : Int) < (ts.length : Int) := by omega
      obtain ⟨p, hpq⟩ : ∃ p, p = ts.getD k t0 := ⟨_, rfl⟩
      rw [← hpq] at c0 c1 c2 t1 HZq
      have HPk : Hid (cmpList (lt ts k) l = cmpList p.l l) := by unfold Hid; rw [hpq]
      have HT1 := hid t1
      clear t1 hpq
      by_cases h3 : cmpList p.l l = 0
      · have g1 : (cmpList p.l l == 0) = true := by rw [h3]; rfl
        have HUs : Hid (∀ i, lo ≤ i → i < k + 1 → cmpList (lt ts i) l = 0) := by
          intro i h1 h2
          by_cases e : i = k
          · subst e; rw [HPk.out]; exact h3
          · exact HU.out i h1 (by omega)
        clear h3
        go_wp2_with fail
        refine (Lab.f134 p.a a' p.l.length l.length p.c c' p.l l _ rfl rfl HZq.out hl1 HT1.out HLr.out).mono ?_
        rintro e w2 ⟨rfl, hb2⟩
        have HX2 := hid (HX.out.below hb2)
        have HL2 := hid (HLr.out.below hb2)
        clear hb2 HX HLr b0 b1 b2 b3 b4 c0 c1 c2
        generalize cmpList p.l l = z at *
        go_wp2
        go_roundw
        case rel => exact ⟨k + 1, by omega, by omega, by go_num, HUs.out, HX2.out, HL2.out⟩
        case measure => simp [intOf]; omega
      · have g1 : (cmpList p.l l == 0) = false := by rw [beq_eq_false_iff_ne]; exact h3
        have HE := hid (HEnd.out fun _ => by rw [HPk.out]; exact h3)
        clear h3
        go_wp2_with fail
        refine (Lab.f134 p.a a' p.l.length l.length p.c c' p.l l _ rfl rfl HZq.out hl1 HT1.out HLr.out).mono ?_
        rintro e w2 ⟨rfl, hb2⟩
        have HX2 := hid (HX.out.below hb2)
        clear hb2 HX HLr b0 b1 b2 b3 b4 c0 c1 c2
        obtain ⟨b0, b1, b2, b3, b4⟩ := five HX2.out.box
        generalize cmpList p.l l = z at *
        by_cases hke : lo = k
        · subst hke
          have HN0 : Hid (own1 ts l = []) := by unfold Hid; rw [HE.out]; exact List.eq_nil_of_length_eq_zero (by simp)
          go_wp2
          go_ret
          exact ⟨_, [], HN0.out.symm, rfl, .inl rfl, HX2.out.bel⟩
        · have HLn : Hid (((ts.take k).drop lo).length = k - lo) := by unfold Hid; simp; omega
          have j1 : (lo : Int) < (k : Int) := by omega
          have j2 : lo < k := by omega
          have j3 : (k : Int) ≤ (d : Int) := by omega
          go_wp2
          go_ret
          refine ⟨some ⟨bb, off + lo * 3, none⟩, (ts.take k).drop lo, HE.out.symm, ?_, has_midT HX2.out.has.2 (by omega), HX2.out.bel⟩
          rw [HLn.out]
          first | rfl | (congr 1 <;> omega) | simp
    · obtain rfl : k = ts.length := by omega
      have HE := hid (HEnd.out fun h => absurd h (by omega))
      have i1 : ¬ (ts.length : Int) < (ts.length : Int) := by omega
      by_cases hke : lo = ts.length
      · subst hke
        have HN0 : Hid (own1 ts l = []) := by unfold Hid; rw [HE.out]; exact List.eq_nil_of_length_eq_zero (by simp)
        cases b
        all_goals
          go_wp2
          go_ret
          exact ⟨_, [], HN0.out.symm, rfl, .inl rfl, HX.out.bel⟩
      · obtain ⟨bb, off, rfl, hbl, _, _⟩ := HX.out.has.2.at2 lo (by simp only; omega)
        have HLn : Hid (((ts.take ts.length).drop lo).length = ts.length - lo) := by unfold Hid; simp
        have j1 : (lo : Int) < (ts.length : Int) := by omega
        have j2 : lo < ts.length := by omega
        have j3 : (ts.length : Int) ≤ (d : Int) := by omega
        go_wp2
        go_ret
        refine ⟨some ⟨bb, off + lo * 3, none⟩, (ts.take ts.length).drop lo, HE.out.symm, ?_, has_midT HX.out.has.2 (Nat.le_refl _), HX.out.bel⟩
        rw [HLn.out]
        first | rfl | (congr 1 <;> omega) | simp
end Go.Proofs.YtjhdmghpklagkaaGreat.Blk
