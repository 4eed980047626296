/- The order of lists of labels, and where labels stand among series: l7Place, l9Has, placeOfSeries. -/
import Derived.Test.YtmgghnmlhkahnaaJc
import Derived.Test.YtmgghnmlhkahnaaXf
import Derived.Test.YtmgghnmlhkahnaaXg
namespace Go.Proofs.Ytmgghnmlhkahnaa.Blk
open Go.RowKit
open Go.Proofs.Ytmgghnmlhkahnaa.Lab (Lb HasL cmpList cmpL cmpN cmpV orC goodL cb_trans cb_zero cb_self cmpN_zero cmpN_eq cmpN_trans)
open Go.Proofs.Ytmgghnmlhkahnaa.Smp (In64 ret_bool)
open Go.Proofs.Ytmgghnmlhkahnaa.Srs (hid lt_at kept Q HasQ FitQ SmlQ GoodQ agQ pl q0 two)

theorem orC_neg {x y : Int} : orC x y < 0 ↔ x < 0 ∨ (x = 0 ∧ y < 0) := by unfold orC; split <;> omega
theorem orC_zero {x y : Int} : orC x y = 0 ↔ x = 0 ∧ y = 0 := by unfold orC; split <;> omega
theorem cmpV_zero {p q : Lb} (h : cmpV p q = 0) : p.2 = q.2 := ByteArray.ext (Array.toList_inj.1 (cb_zero _ _ h))
theorem cmpL_zero {p q : Lb} (h : cmpL p q = 0) : p = q := by
  obtain ⟨h1, h2⟩ := orC_zero.1 h
  exact Prod.ext (cmpN_zero h1) (cmpV_zero h2)
theorem cmpL_self (p : Lb) : cmpL p p = 0 := orC_zero.2 ⟨cmpN_eq rfl, cb_self _⟩
theorem cmpN_congr {p q r : Lb} (h : p.1 = q.1) : cmpN p r = cmpN q r := by unfold cmpN; rw [h]
theorem cmpN_congr' {p q r : Lb} (h : p.1 = q.1) : cmpN r p = cmpN r q := by unfold cmpN; rw [h]
theorem cmpL_trans {p q r : Lb} (h1 : cmpL p q < 0) (h2 : cmpL q r < 0) : cmpL p r < 0 := by
  rcases orC_neg.1 h1 with a | ⟨a, a'⟩
  · rcases orC_neg.1 h2 with b | ⟨b, _⟩
    · exact orC_neg.2 (.inl (cmpN_trans a b))
    · exact orC_neg.2 (.inl (by rw [← cmpN_congr' (cmpN_zero b)]; exact a))
  · rcases orC_neg.1 h2 with b | ⟨b, b'⟩
    · exact orC_neg.2 (.inl (by rw [cmpN_congr (cmpN_zero a)]; exact b))
    · exact orC_neg.2 (.inr ⟨cmpN_eq ((cmpN_zero a).trans (cmpN_zero b)), cb_trans _ _ _ a' b'⟩)
theorem lst_zero : ∀ {a b : List Lb}, cmpList a b = 0 → a = b := by
  intro a
  induction a with
  | nil => intro b h; cases b with
    | nil => rfl
    | cons y b => simp [cmpList] at h
  | cons x a ih => intro b h; cases b with
    | nil => simp [cmpList] at h
    | cons y b =>
      obtain ⟨h1, h2⟩ := orC_zero.1 h
      rw [cmpL_zero h1, ih h2]
theorem lst_self (a : List Lb) : cmpList a a = 0 := by
  induction a with
  | nil => rfl
  | cons x a ih => exact orC_zero.2 ⟨cmpL_self x, ih⟩
theorem lst_trans : ∀ {a b c : List Lb}, cmpList a b < 0 → cmpList b c < 0 → cmpList a c < 0 := by
  intro a
  induction a with
  | nil => intro b c h1 h2; cases b with
    | nil => exact h2
    | cons y b => cases c with
      | nil => simp [cmpList] at h2
      | cons z c => simp [cmpList]
  | cons x a ih => intro b c h1 h2; cases b with
    | nil => simp [cmpList] at h1
    | cons y b => cases c with
      | nil => simp [cmpList] at h2
      | cons z c =>
        rcases orC_neg.1 h1 with p | ⟨p, p'⟩
        · rcases orC_neg.1 h2 with q | ⟨q, _⟩
          · exact orC_neg.2 (.inl (cmpL_trans p q))
          · exact orC_neg.2 (.inl (by rw [← cmpL_zero q]; exact p))
        · rcases orC_neg.1 h2 with q | ⟨q, q'⟩
          · exact orC_neg.2 (.inl (by rw [cmpL_zero p]; exact q))
          · exact orC_neg.2 (.inr ⟨by rw [cmpL_zero p]; exact q, ih p' q'⟩)
/-- The labels of the i-th series. -/
abbrev lb (qs : List Q) (i : Nat) : List Lb := (qs.getD i q0).l
theorem rise_step {qs : List Q} (h : GoodQ qs) : ∀ (d i : Nat), i + d + 1 < qs.length → cmpList (lb qs i) (lb qs (i + d + 1)) < 0 := by
  intro d
  induction d with
  | zero => intro i hi; exact (h.2 (i + 0 + 1) hi).2 (by omega)
  | succ d ih =>
    intro i hi
    have h1 := ih i (by omega)
    have h2 : cmpList (lb qs (i + d + 1)) (lb qs (i + (d + 1) + 1)) < 0 := (h.2 (i + (d + 1) + 1) hi).2 (by omega)
    exact lst_trans h1 h2
theorem rise_lt {qs : List Q} (h : GoodQ qs) {i j : Nat} (hij : i < j) (hj : j < qs.length) : cmpList (lb qs i) (lb qs j) < 0 := by
  have := rise_step h (j - i - 1) i (by omega)
  rw [show i + (j - i - 1) + 1 = j by omega] at this
  exact this
/-- lo is where labels stand among series, or are to stand. -/
structure Place (qs : List Q) (l : List Lb) (lo : Nat) : Prop where
  le : lo ≤ qs.length
  less : ∀ i, i < lo → cmpList (lb qs i) l < 0
  geq : lo < qs.length → 0 ≤ cmpList (lb qs lo) l
/-- Labels are those of one of the series. -/
def InQ (qs : List Q) (l : List Lb) : Prop := ∃ i, i < qs.length ∧ cmpList (lb qs i) l = 0
noncomputable instance (qs : List Q) (l : List Lb) : Decidable (InQ qs l) := Classical.propDecidable _
noncomputable def hasQ (qs : List Q) (l : List Lb) : Bool := decide (InQ qs l)
theorem Place.has {qs : List Q} {l : List Lb} {lo : Nat} (h : Place qs l lo) (hg : GoodQ qs) : decide (lo < qs.length ∧ cmpList (lb qs lo) l = 0) = hasQ qs l := by
  unfold hasQ
  rw [decide_eq_decide]
  constructor
  · intro ⟨h1, h2⟩; exact ⟨lo, h1, h2⟩
  · rintro ⟨i, h1, h2⟩
    have h3 : ¬ i < lo := fun h3 => by have := h.less i h3; omega
    by_cases e : i = lo
    · subst e; exact ⟨h1, h2⟩
    · have h4 := rise_lt hg (show lo < i by omega) h1
      rw [lst_zero h2] at h4
      have := h.geq (by omega)
      omega
theorem InQ.good {qs : List Q} {l : List Lb} (h : InQ qs l) (hg : GoodQ qs) : goodL l = true := by
  obtain ⟨i, h1, h2⟩ := h
  rw [← lst_zero h2]
  exact (hg.2 i h1).1.1.1
theorem ret_tup {i : Int} {a b : Bool} (h : a = b) : Ending.returned (.tuple #[.int .i64 i, .bool a]) = .returned (.tuple #[.int .i64 i, .bool b]) := by rw [h]

set_option maxHeartbeats 2000000 in
theorem f40 (a : Option Addr) (n c : Nat) (qs : List Q) (a' : Option Addr) (c' : Nat) (l : List Lb) (w : World) (hn : qs.length = n) (hb : n ≤ 1048576) (hr : HasQ w a qs) (hf : FitQ qs) (hz : SmlQ qs) (hl : HasL w a' l) (hl1 : l.length ≤ 1048576) :
    Calls Try.prog 40 #[.slice a n c, .slice a' l.length c'] w fun e w' => ∃ lo : Nat, Place qs l lo ∧ e = .returned (.tuple #[.int .i64 lo, .bool (decide (lo < n ∧ cmpList (lb qs lo) l = 0))]) ∧ Below w.heap.size w w' := by
  have HN := hid hn
  have HR := hid hr
  have HF := hid hf
  have HZ := hid hz
  have HL := hid hl
  clear hn hr hf hz hl
  go_enter Try.func40, Try.ntmps40
  go_wp2
  go_loopw [11] (fun i wr => ∃ k : Nat, k ≤ n ∧ i = .int .i64 (k : Int) ∧ Hid (∀ i, i < k → cmpList (lb qs i) l < 0) ∧ Hid (Below w.heap.size w wr)) (fun i _ => n - (intOf i).toNat)
  case atStart => exact ⟨0, Nat.zero_le _, rfl, fun i hi => by omega, Below.refl _ _⟩
  case round =>
    obtain ⟨k, hk, rfl, HU, HX⟩ := hrel
    by_cases hlt : k < n
    · obtain ⟨b, off, rfl, hbl, c0, c1, t1, t2⟩ := (HR.out.below HX.out).at2 k (by rw [HN.out]; exact hlt)
      have HFq := hid (HF.out k)
      have HZq := hid (HZ.out k (by rw [HN.out]; exact hlt)).1
      obtain ⟨q, hq⟩ : ∃ q, q = qs.getD k q0 := ⟨_, rfl⟩
      rw [← hq] at c0 c1 t1 HFq HZq
      have HP : Hid (0 ≤ cmpList q.l l → Place qs l k) := fun h => ⟨by rw [HN.out]; omega, HU.out, fun _ => by rw [hq] at h; exact h⟩
      have HD : Hid (∀ r, (cmpList q.l l == 0) = r → decide (k < n ∧ cmpList (lb qs k) l = 0) = r) := by
        have e : lb qs k = q.l := by rw [hq]
        rintro r rfl
        by_cases hz : cmpList q.l l = 0
        · rw [decide_eq_true (show k < n ∧ cmpList (lb qs k) l = 0 from ⟨hlt, by rw [e]; exact hz⟩), hz]; rfl
        · rw [decide_eq_false (show ¬ (k < n ∧ cmpList (lb qs k) l = 0) from fun h => hz (by rw [← e]; exact h.2))]; symm; rw [beq_eq_false_iff_ne]; exact hz
      have HUs : Hid (cmpList q.l l < 0 → ∀ i, i < k + 1 → cmpList (lb qs i) l < 0) := by
        intro h i hi
        by_cases e : i = k
        · subst e; rw [hq] at h; exact h
        · exact HU.out i (by omega)
      clear hq
      have HB0 := hid ((Below.refl wr.heap.size wr).alloc (Nat.le_refl _) (.cells #[.slice q.a q.l.length q.c, .slice q.b q.s.length q.d] 49))
      have HT1 := hid (t1.below HB0.out)
      have i1 : (k : Int) < (n : Int) := by omega
      clear t1 t2 hbl
      go_wp2_with fail
      refine (Lab.f25 q.a a' q.l.length l.length q.c c' q.l l _ rfl rfl HZq.out hl1 HT1.out (HL.out.below (HX.out.trans (HB0.out.mono HX.out.size))) HFq.out.1).mono ?_
      rintro e w2 ⟨rfl, nq, hw2⟩
      have HX2 : Hid (Below w.heap.size w w2) := by unfold Hid; rw [hw2]; exact Lab.below_drewN (HX.out.trans (HB0.out.mono HX.out.size)) nq
      clear hw2 c0 c1
      rcases Int.lt_trichotomy (cmpList q.l l) 0 with h | h | h
      · have g1 : (cmpList q.l l == 0) = false := by rw [beq_eq_false_iff_ne]; omega
        have g2 : ¬ cmpList q.l l > 0 := by omega
        go_wp2
        go_roundw
        case rel => exact ⟨k + 1, by omega, by go_num, HUs.out h, HX2⟩
        case measure => simp [intOf]; omega
      · have g1 : (cmpList q.l l == 0) = true := by rw [h]; rfl
        have HG := hid g1
        have HH : Hid (0 ≤ cmpList q.l l) := by unfold Hid; omega
        clear h
        go_wp2
        go_ret2
        exact ⟨k, HP.out HH.out, ret_tup (HD.out _ HG.out).symm, HX2.out⟩
      · have g1 : (cmpList q.l l == 0) = false := by rw [beq_eq_false_iff_ne]; omega
        have HG := hid g1
        go_wp2
        go_ret2
        exact ⟨k, HP.out (by omega), ret_tup (HD.out _ HG.out).symm, HX2.out⟩
    · obtain rfl : k = n := by omega
      have HD : Hid (decide (k < k ∧ cmpList (lb qs k) l = 0) = false) := by unfold Hid; rw [decide_eq_false_iff_not]; intro h; omega
      have HP : Hid (Place qs l k) := ⟨by rw [HN.out]; omega, HU.out, fun h => absurd h (by rw [HN.out]; omega)⟩
      go_wp2
      go_ret2
      exact ⟨k, HP.out, ret_tup HD.out.symm, HX.out⟩

theorem f24 (a : Option Addr) (n c : Nat) (qs : List Q) (a' : Option Addr) (c' : Nat) (l : List Lb) (w : World) (hn : qs.length = n) (hb : n ≤ 1048576) (hr : HasQ w a qs) (hf : FitQ qs) (hz : SmlQ qs) (hg : GoodQ qs) (hl : HasL w a' l) (hl1 : l.length ≤ 1048576) :
    Calls Try.prog 24 #[.slice a n c, .slice a' l.length c'] w fun e w' => e = .returned (.bool (hasQ qs l)) ∧ Below w.heap.size w w' := by
  have HC := hid (f40 a n c qs a' c' l w hn hb hr hf hz hl hl1)
  have HG := hid hg
  have HN := hid hn
  clear hr hf hz hl hg hn
  go_enter Try.func24, Try.ntmps24
  go_wp2_with fail
  refine HC.out.mono ?_
  rintro e w1 ⟨lo, hp, rfl, hb1⟩
  have HP := hid (hp.has HG.out)
  rw [HN.out] at HP
  clear hp
  generalize decide (lo < n ∧ cmpList (lb qs lo) l = 0) = r at *
  go_wp2
  go_ret
  exact ⟨ret_bool HP.out, hb1⟩

set_option maxHeartbeats 1000000 in
theorem f65 (q : Q) (a' : Option Addr) (c' : Nat) (l : List Lb) (w : World) (n1 : q.l.length ≤ 1048576) (n2 : l.length ≤ 1048576) (hq : HasL w q.a q.l) (hl : HasL w a' l) :
    Calls Try.prog 65 #[agQ q, .slice a' l.length c'] w fun e w' => e = .returned (.int .i64 (cmpList q.l l)) ∧ Below w.heap.size w w' := by
  obtain ⟨ll, a, c, s, b, d⟩ := q
  simp only at n1 hq
  have HB := hid ((Below.refl w.heap.size w).alloc (Nat.le_refl _) (.cells #[.slice a ll.length c, .slice b s.length d] 49))
  have HL := hid (hq.below HB.out)
  have HL' := hid (hl.below HB.out)
  clear hq hl
  simp only [agQ]
  go_enter Try.func65, Try.ntmps65
  go_wp2_with fail
  refine (Lab.f63 a a' ll.length l.length c c' ll l _ rfl rfl n1 n2 HL.out HL'.out).mono ?_
  rintro e w1 ⟨rfl, hb1⟩
  have HB1 := hid (HB.out.trans (hb1.mono HB.out.size))
  clear hb1
  go_wp2
  go_ret
  exact ⟨rfl, HB1.out⟩

set_option maxHeartbeats 2000000 in
theorem f64 (a : Option Addr) (n c : Nat) (qs : List Q) (a' : Option Addr) (c' : Nat) (l : List Lb) (w : World) (hn : qs.length = n) (hb : n ≤ 1048576) (hr : HasQ w a qs) (hz : SmlQ qs) (hg : GoodQ qs) (hl : HasL w a' l) (hl1 : l.length ≤ 1048576) :
    Calls Try.prog 64 #[.slice a n c, .slice a' l.length c', .func (.func 65) #[] #[]] w fun e w' => ∃ lo : Nat, Place qs l lo ∧ e = .returned (.tuple #[.int .i64 lo, .bool (decide (lo < n ∧ cmpList (lb qs lo) l = 0))]) ∧ Below w.heap.size w w' := by
  have HN := hid hn
  have HR := hid hr
  have HZ := hid hz
  have HG := hid hg
  have HL := hid hl
  clear hn hr hz hg hl
  go_enter Try.func64, Try.ntmps64
  go_wp2
  go_loopw [9, 10] (fun si sj wr => ∃ (lo hi : Nat), lo ≤ hi ∧ hi ≤ n ∧ si = .int .i64 lo ∧ sj = .int .i64 hi ∧ Hid (∀ i, i < lo → cmpList (lb qs i) l < 0) ∧ Hid (hi < n → 0 ≤ cmpList (lb qs hi) l) ∧ Hid (Below w.heap.size w wr)) (fun si sj _ => (intOf sj).toNat - (intOf si).toNat)
  case atStart => exact ⟨0, n, Nat.zero_le _, Nat.le_refl _, rfl, rfl, fun i hi => by omega, fun h => by omega, Below.refl _ _⟩
  case round =>
    obtain ⟨lo, hi, hlh, hhn, rfl, rfl, hlow, hhigh, HX⟩ := hrel
    by_cases hlt : lo < hi
    · obtain ⟨h, hh⟩ : ∃ h, h = (lo + hi) / 2 := ⟨_, rfl⟩
      have hh1 : lo ≤ h := by omega
      have hh2 : h < hi := by omega
      have HH := hid hh
      clear hh
      obtain ⟨b, off, rfl, hbl, c0, c1, t1, t2⟩ := (HR.out.below HX.out).at2 h (by rw [HN.out]; omega)
      have HZq := hid (HZ.out h (by rw [HN.out]; omega)).1
      have i1 : ((lo : Int) + (hi : Int)) / 2 < (n : Int) := by omega
      have i0 : 0 ≤ ((lo : Int) + (hi : Int)) / 2 := by omega
      obtain ⟨p, hp⟩ : ∃ p, p = qs.getD h q0 := ⟨_, rfl⟩
      rw [← hp] at c0 c1 t1 HZq
      have HLow : Hid (cmpList p.l l < 0 → ∀ i, i < h + 1 → cmpList (lb qs i) l < 0) := by
        intro hx i hi
        rw [hp] at hx
        by_cases e : i = h
        · subst e; exact hx
        · exact lst_trans (rise_lt HG.out (show i < h by omega) (by rw [HN.out]; omega)) hx
      have HHigh : Hid (¬ cmpList p.l l < 0 → h < n → 0 ≤ cmpList (lb qs h) l) := fun h1 _ => by rw [hp] at h1; simp only [lb]; omega
      have HT1 := hid t1
      rw [HH.out] at c0 c1
      clear t1 t2 hp
      by_cases h3 : cmpList p.l l < 0
      · go_wp2_with fail
        refine (f65 p a' c' l _ HZq.out hl1 HT1.out (HL.out.below HX.out)).mono ?_
        rintro e w2 ⟨rfl, hb2⟩
        have HX2 := hid (HX.out.trans (hb2.mono HX.out.size))
        clear hb2 c0 c1 hbl
        go_wp2
        go_roundw
        case rel => exact ⟨h + 1, hi, by omega, hhn, by have := HH.out; go_num, rfl, HLow.out h3, hhigh, HX2⟩
        case measure => simp [intOf]; omega
      · go_wp2_with fail
        refine (f65 p a' c' l _ HZq.out hl1 HT1.out (HL.out.below HX.out)).mono ?_
        rintro e w2 ⟨rfl, hb2⟩
        have HX2 := hid (HX.out.trans (hb2.mono HX.out.size))
        clear hb2 c0 c1 hbl
        go_wp2
        go_roundw
        case rel => exact ⟨lo, h, hh1, by omega, rfl, by have := HH.out; go_num, hlow, HHigh.out h3, HX2⟩
        case measure => have := HH.out; simp [intOf]; omega
    · obtain rfl : lo = hi := by omega
      have HP : Hid (Place qs l lo) := ⟨by rw [HN.out]; exact hhn, hlow.out, fun h => hhigh.out (by rw [HN.out] at h; exact h)⟩
      by_cases hln : lo < n
      · obtain ⟨b, off, rfl, hbl, c0, c1, t1, t2⟩ := (HR.out.below HX.out).at2 lo (by rw [HN.out]; omega)
        have HZq := hid (HZ.out lo (by rw [HN.out]; omega)).1
        have i1 : (lo : Int) < (n : Int) := by omega
        obtain ⟨p, hp⟩ : ∃ p, p = qs.getD lo q0 := ⟨_, rfl⟩
        rw [← hp] at c0 c1 t1 HZq
        have HD : Hid (decide (lo < n ∧ cmpList (lb qs lo) l = 0) = (cmpList p.l l == 0)) := by
          have e : lb qs lo = p.l := by rw [hp]
          unfold Hid
          by_cases hz : cmpList p.l l = 0
          · rw [decide_eq_true (show lo < n ∧ cmpList (lb qs lo) l = 0 from ⟨hln, by rw [e]; exact hz⟩), hz]; rfl
          · rw [decide_eq_false (show ¬ (lo < n ∧ cmpList (lb qs lo) l = 0) from fun h => hz (by rw [← e]; exact h.2))]; symm; rw [beq_eq_false_iff_ne]; exact hz
        have HT1 := hid t1
        clear hp
        clear t1 t2 hlow hhigh
        go_wp2_with fail
        refine (f65 p a' c' l _ HZq.out hl1 HT1.out (HL.out.below HX.out)).mono ?_
        rintro e w2 ⟨rfl, hb2⟩
        have HX2 := hid (HX.out.trans (hb2.mono HX.out.size))
        clear hb2 c0 c1 hbl
        go_wp2
        go_ret2
        exact ⟨lo, HP.out, ret_tup HD.out.symm, HX2.out⟩
      · have HD : Hid (decide (lo < n ∧ cmpList (lb qs lo) l = 0) = false) := by
          unfold Hid; rw [decide_eq_false_iff_not]; intro h; exact hln h.1
        have i1 : ¬ (lo : Int) < (n : Int) := by omega
        go_wp2
        go_ret2
        exact ⟨lo, HP.out, ret_tup (by first | exact HD.out.symm | simp [hln]), HX.out⟩

theorem f48 (a : Option Addr) (n c : Nat) (qs : List Q) (a' : Option Addr) (c' : Nat) (l : List Lb) (w : World) (hn : qs.length = n) (hb : n ≤ 1048576) (hr : HasQ w a qs) (hz : SmlQ qs) (hg : GoodQ qs) (hl : HasL w a' l) (hl1 : l.length ≤ 1048576) :
    Calls Try.prog 48 #[.slice a n c, .slice a' l.length c'] w fun e w' => ∃ lo : Nat, Place qs l lo ∧ e = .returned (.tuple #[.int .i64 lo, .bool (hasQ qs l)]) ∧ Below w.heap.size w w' := by
  have HC := hid (f64 a n c qs a' c' l w hn hb hr hz hg hl hl1)
  have HG := hid hg
  have HN := hid hn
  clear hr hz hl hg hn
  go_enter Try.func48, Try.ntmps48
  go_wp2_with fail
  refine HC.out.mono ?_
  rintro e w1 ⟨lo, hp, rfl, hb1⟩
  have HP := hid (hp.has HG.out)
  have HPl := hid hp
  rw [HN.out] at HP
  clear hp
  generalize decide (lo < n ∧ cmpList (lb qs lo) l = 0) = r at *
  go_wp2
  go_ret2
  exact ⟨lo, HPl.out, ret_tup HP.out, hb1⟩
end Go.Proofs.Ytmgghnmlhkahnaa.Blk
