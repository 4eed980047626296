import Derived.Test.YtjhdmghpklagkaaGreatD06
import Derived.Test.YtjhdmghpklagkaaGreatD08
import Derived.Test.YtjhdmghpklagkaaGreatD09
namespace Go.Proofs.YtjhdmghpklagkaaGreat.Blk
open Go.RowKit
open Go.Proofs.YtjhdmghpklagkaaGreat.Lab (Lb HasL cmpList cmpL cmpN cmpV orC goodL cb_trans cb_zero cb_self cmpN_zero cmpN_eq cmpN_trans)
open Go.Proofs.YtjhdmghpklagkaaGreat.Smp (In64 ret_bool)
open Go.Proofs.YtjhdmghpklagkaaGreat.Srs (hid lt_at kept Q HasQ FitQ SmlQ GoodQ agQ pl q0 two)

theorem orC_neg {x y : Int} : orC x y < 0 ↔ x < 0 ∨ (x = 0 ∧ y < 0) := by unfold orC; split <;> omega
theorem orC_zero {x y : Int} : orC x y = 0 ↔ x = 0 ∧ y = 0 := by unfold orC; split <;> omega
theorem cmpV_zero {p q : Lb} (h : cmpV p q = 0) : p.2 = q.2 := ByteArray.ext (Array.toList_inj.1 (cb_zero _ _ h))
theorem cmpL_zero {p q : Lb} (h : cmpL p q = 0) : p = q := by
  obtain ⟨h1, h2⟩ := orC_zero.1 h
  exact Prod.ext (cmpN_zero h1) (cmpV_zero h2)
theorem cmpL_self (p : Lb) : cmpL p p = 0 := orC_zero.2 ⟨cmpN_eq rfl, cb_self _⟩
theorem cmpN_congr {p q r : Lb} (h : p.1 = q.1) : cmpN p r = cmpN q r := by unfold cmpN; rw [h]
theorem cmpN_congr' {p q r : Lb} (h : p.1 = q.1) : cmpN r p = cmpN r q := by unfold cmpN; rw [h]
theorem cmpL_trans {p q r : Lb} (h1 : cmpL p q < 0) (h2 : cmpL q r < 0) : cmpL p r < 0 := by
  rcases orC_neg.1 h1 with a | ⟨a, a'⟩
  · rcases orC_neg.1 h2 with b | ⟨b, _⟩
    · exact orC_neg.2 (.inl (cmpN_trans a b))
    · exact orC_neg.2 (.inl (by rw [← cmpN_congr' (cmpN_zero b)]; exact a))
  · rcases orC_neg.1 h2 with b | ⟨b, b'⟩
    · exact orC_neg.2 (.inl (by rw [cmpN_congr (cmpN_zero a)]; exact b))
    · exact orC_neg.2 (.inr ⟨cmpN_eq ((cmpN_zero a).trans (cmpN_zero b)), cb_trans _ _ _ a' b'⟩)
theorem lst_zero : ∀ {a b : List Lb}, cmpList a b = 0 → a = b := by
  intro a
  induction a with
  | nil => intro b h; cases b with
    | nil => rfl
    | cons y b => simp [cmpList] at h
  | cons x a ih => intro b h; cases b with
    | nil => simp [cmpList] at h
    | cons y b =>
      obtain ⟨h1, h2⟩ := orC_zero.1 h
      rw [cmpL_zero h1, ih h2]
theorem lst_self (a : List Lb) : cmpList a a = 0 := by
  induction a with
  | nil => rfl
  | cons x a ih => exact orC_zero.2 ⟨cmpL_self x, ih⟩
theorem lst_trans : ∀ {a b c : List Lb}, cmpList a b < 0 → cmpList b c < 0 → cmpList a c < 0 := by
  intro a
  induction a with
  | nil => intro b c h1 h2; cases b with
    | nil => exact h2
    | cons y b => cases c with
      | nil => simp [cmpList] at h2
      | cons z c => simp [cmpList]
  | cons x a ih => intro b c h1 h2; cases b with
    | nil => simp [cmpList] at h1
    | cons y b => cases c with
      | nil => simp [cmpList] at h2
      | cons z c =>
        rcases orC_neg.1 h1 with p | ⟨p, p'⟩
        · rcases orC_neg.1 h2 with q | ⟨q, _⟩
          · exact orC_neg.2 (.inl (cmpL_trans p q))
          · exact orC_neg.2 (.inl (by rw [← cmpL_zero q]; exact p))
        · rcases orC_neg.1 h2 with q | ⟨q, q'⟩
          · exact orC_neg.2 (.inl (by rw [cmpL_zero p]; exact q))
          · exact orC_neg.2 (.inr ⟨by rw [cmpL_zero p]; exact q, ih p' q'⟩)
abbrev lb (qs : List Q) (i : Nat) : List Lb := (qs.getD i q0).l
theorem rise_step {qs : List Q} (h : GoodQ qs) : ∀ (d i : Nat), i + d + 1 < qs.length → cmpList (lb qs i) (lb qs (i + d + 1)) < 0 := by
  intro d
  induction d with
  | zero => intro i hi; exact (h.2 (i + 0 + 1) hi).2 (by omega)
  | succ d ih =>
    intro i hi
    have h1 := ih i (by omega)
    have h2 : cmpList (lb qs (i + d + 1)) (lb qs (i + (d + 1) + 1)) < 0 := (h.2 (i + (d + 1) + 1) hi).2 (by omega)
    exact lst_trans h1 h2
theorem rise_lt {qs : List Q} (h : GoodQ qs) {i j : Nat} (hij : i < j) (hj : j < qs.length) : cmpList (lb qs i) (lb qs j) < 0 := by
  have := rise_step h (j - i - 1) i (by omega)
  rw [show i + (j - i - 1) + 1 = j by omega] at this
  exact this
structure Place (qs : List Q) (l : List Lb) (lo : Nat) : Prop where
  le : lo ≤ qs.length
  less : ∀ i, i < lo → cmpList (lb qs i) l < 0
  geq : lo < qs.length → 0 ≤ cmpList (lb qs lo) l
def InQ (qs : List Q) (l : List Lb) : Prop := ∃ i, i < qs.length ∧ cmpList (lb qs i) l = 0
noncomputable instance (qs : List Q) (l : List Lb) : Decidable (InQ qs l) := Classical.propDecidable _
noncomputable def hasQ (qs : List Q) (l : List Lb) : Bool := decide (InQ qs l)
theorem Place.has {qs : List Q} {l : List Lb} {lo : Nat} (h : Place qs l lo) (hg : GoodQ qs) : decide (lo < qs.length ∧ cmpList (lb qs lo) l = 0) = hasQ qs l := by
  unfold hasQ
  rw [decide_eq_decide]
  constructor
  · intro ⟨h1, h2⟩; exact ⟨lo, h1, h2⟩
  · rintro ⟨i, h1, h2⟩
    have h3 : ¬ i < lo := fun h3 => by have := h.less i h3; omega
    by_cases e : i = lo
    · subst e; exact ⟨h1, h2⟩
    · have h4 := rise_lt hg (show lo < i by omega) h1
      rw [lst_zero h2] at h4
      have := h.geq (by omega)
      omega
theorem InQ.good {qs : List Q} {l : List Lb} (h : InQ qs l) (hg : GoodQ qs) : goodL l = true := by
  obtain ⟨i, h1, h2⟩ := h
  rw [← lst_zero h2]
  exact (hg.2 i h1).1.1.1
theorem ret_tup {i : Int} {a b : Bool} (h : a = b) : Ending.returned (.tuple #[.int .i64 i, .bool a]) = .returned (.tuple #[.int .i64 i, .bool b]) := by rw [h]

set_option maxHeartbeats 2000000 in
theorem f109 (a : Option Addr) (n c : Nat) (qs : List Q) (a' : Option Addr) (c' : Nat) (l : List Lb) (w : World) (hn : qs.length = n) (hb : n ≤ 1048576) (hr : HasQ w a qs) (hf : FitQ qs) (hz : SmlQ qs) (hl : HasL w a' l) (hl1 : l.length ≤ 1048576) :
    Calls Tryz.prog 109 #[.slice a n c, .slice a' l.length c'] w fun e w' => ∃ lo : Nat, Place qs l lo ∧ e = .returned (.tuple #[.int .i64 lo, .bool (decide (lo < n ∧ cmpList (lb qs lo) l = 0))]) ∧ Below w.heap.size w w' := by
  have HN := hid hn
  have HR := hid hr
  have HF := hid hf
  have HZ := hid hz
  have HL := hid hl
  clear hn hr hf hz hl
  go_enter Tryz.func109, Tryz.ntmps109
  go_wp2
  go_loopw [11] (fun i wr => ∃ k : Nat, k ≤ n ∧ i = .int .i64 (k : Int) ∧ Hid (∀ i, i < k → cmpList (lb qs i) l < 0) ∧ Hid (Below w.heap.size w wr)) (fun i _ => n - (intOf i).toNat)
  case atStart => exact ⟨0, Nat.zero_le _, rfl, fun i hi => by omega, Below.refl _ _⟩
  case round =>
    obtain ⟨k, hk, rfl, HU, HX⟩ := hrel
    by_cases hlt : k < n
    · obtain ⟨b, off, rfl, hbl, c0, c1, t1, t2⟩ := (HR.out.below HX.out).at2 k (by rw [HN.out]; exact hlt)
      have HFq := hid (HF.out k)
      have HZq := hid (HZ.out k (by rw [HN.out]; exact hlt)).1
      obtain ⟨q, hq⟩ : ∃ q, q = qs.getD k q0 := ⟨_, rfl⟩
      rw [← hq] at c0 c1 t1 HFq HZq
      have HP : Hid (0 ≤ cmpList q.l l → Place qs l k) := fun h => ⟨by rw [HN.out]; omega, HU.out, fun _ => by rw [hq] at h; exact h⟩
      have HD : Hid (∀ r, (cmpList q.l l == 0) = r → decide (k < n ∧ cmpList (lb qs k) l = 0) = r) := by
        have e : lb qs k = q.l := by rw [hq]
        rintro r rfl
        by_cases hz : cmpList q.l l = 0
        · rw [decide_eq_true (show k < n ∧ cmpList (lb qs k) l = 0 from ⟨hlt, by rw [e]; exact hz⟩), hz]; rfl
        · rw [decide_eq_false (show ¬ (k < n ∧ cmpList (lb qs k) l = 0) from fun h => hz (by rw [← e]; exact h.2))]; symm; rw [beq_eq_false_iff_ne]; exact hz
      have HUs : Hid (cmpList q.l l < 0 → ∀ i, i < k + 1 → cmpList (lb qs i) l < 0) := by
        intro h i hi
        by_cases e : i = k
        · subst e; rw [hq] at h; exact h
        · exact HU.out i (by omega)
      clear hq
      have HB0 := hid ((Below.refl wr.heap.size wr).alloc (Nat.le_refl _) (.cells #[.slice q.a q.l.length q.c, .slice q.b q.s.length q.d] 80))
      have HT1 := hid (t1.below HB0.out)
      have i1 : (k : Int) < (n : Int) := by omega
      clear t1 t2 hbl
      go_wp2_with fail
      refine (Lab.f88 q.a a' q.l.length l.length q.c c' q.l l _ rfl rfl HZq.out hl1 HT1.out (HL.out.below (HX.out.trans (HB0.out.mono HX.out.size))) HFq.out.1).mono ?_
      rintro e w2 ⟨rfl, nq, hw2⟩
      have HX2 : Hid (Below w.heap.size w w2) := by unfold Hid; rw [hw2]; exact Lab.below_drewN (HX.out.trans (HB0.out.mono HX.out.size)) nq
      clear hw2 c0 c1
      rcases Int.lt_trichotomy (cmpList q.l l) 0 with h | h | h
      · have g1 : (cmpList q.l l == 0) = false := by rw [beq_eq_false_iff_ne]; omega
        have g2 : ¬ cmpList q.l l > 0 := by omega
        go_wp2
        go_roundw
        case rel => exact ⟨k + 1, by omega, by go_num, HUs.out h, HX2⟩
        case measure => simp [intOf]; omega
      · have g1 : (cmpList q.l l == 0) = true := by rw [h]; rfl
        have HG := hid g1
        have HH : Hid (0 ≤ cmpList q.l l) := by unfold Hid; omega
        clear h
        go_wp2
        go_ret2
        exact ⟨k, HP.out HH.out, ret_tup (HD.out _ HG.out).symm, HX2.out⟩
      · have g1 : (cmpList q.l l == 0) = false := by rw [beq_eq_false_iff_ne]; omega
        have HG := hid g1
        go_wp2
        go_ret2
        exact ⟨k, HP.out (by omega), ret_tup (HD.out _ HG.out).symm, HX2.out⟩
    · obtain rfl : k = n := by omega
      have HD : Hid (decide (k < k ∧ cmpList (lb qs k) l = 0) = false) := by unfold Hid; rw [decide_eq_false_iff_not]; intro h; omega
      have HP : Hid (Place qs l k) := ⟨by rw [HN.out]; omega, HU.out, fun h => absurd h (by rw [HN.out]; omega)⟩
      go_wp2
      go_ret2
      exact ⟨k, HP.out, ret_tup HD.out.symm, HX.out⟩

theorem f103 (a : Option Addr) (n c : Nat) (qs : List Q) (a' : Option Addr) (c' : Nat) (l : List Lb) (w : World) (hn : qs.length = n) (hb : n ≤ 1048576) (hr : HasQ w a qs) (hf : FitQ qs) (hz : SmlQ qs) (hg : GoodQ qs) (hl : HasL w a' l) (hl1 : l.length ≤ 1048576) :
    Calls Tryz.prog 103 #[.slice a n c, .slice a' l.length c'] w fun e w' => e = .returned (.bool (hasQ qs l)) ∧ Below w.heap.size w w' := by
  have HC := hid (f109 a n c qs a' c' l w hn hb hr hf hz hl hl1)
  have HG := hid hg
  have HN := hid hn
  clear hr hf hz hl hg hn
  go_enter Tryz.func103, Tryz.ntmps103
  go_wp2_with fail
  refine HC.out.mono ?_
  rintro e w1 ⟨lo, hp, rfl, hb1⟩
  have HP := hid (hp.has HG.out)
  rw [HN.out] at HP
  clear hp
  generalize decide (lo < n ∧ cmpList (lb qs lo) l = 0) = r at *
  go_wp2
  go_ret
  exact ⟨ret_bool HP.out, hb1⟩

set_option maxHeartbeats 1000000 in
theorem f172 (q : Q) (a' : Option Addr) (c' : Nat) (l : List Lb) (w : World) (n1 : q.l.length ≤ 1048576) (n2 : l.length ≤ 1048576) (hq : HasL w q.a q.l) (hl : HasL w a' l) :
    Calls Tryz.prog 172 #[agQ q, .slice a' l.length c'] w fun e w' => e = .returned (.int .i64 (cmpList q.l l)) ∧ Below w.heap.size w w' := by
  obtain ⟨ll, a, c, s, b, d⟩ := q
  simp only at n1 hq
  have HB := hid ((Below.refl w.heap.size w).alloc (Nat.le_refl _) (.cells #[.slice a ll.length c, .slice b s.length d] 80))
  have HL := hid (hq.below HB.out)
  have HL' := hid (hl.below HB.out)
  clear hq hl
  simp only [agQ]
  go_enter Tryz.func172, Tryz.ntmps172
  go_wp2_with fail
  refine (Lab.f134 a a' ll.length l.length c c' ll l _ rfl rfl n1 n2 HL.out HL'.out).mono ?_
  rintro e w1 ⟨rfl, hb1⟩
  have HB1 := hid (HB.out.trans (hb1.mono HB.out.size))
  clear hb1
  go_wp2
  go_ret
  exact ⟨rfl, HB1.out⟩

set_option maxHeartbeats 2000000 in
theorem f171 (a : Option Addr) (n c : Nat) (qs : List Q) (a' : Option Addr) (c' : Nat) (l : List Lb) (w : World) (hn : qs.length = n) (hb : n ≤ 1048576) (hr : HasQ w a qs) (hz : SmlQ qs) (hg : GoodQ qs) (hl : HasL w a' l) (hl1 : l.length ≤ 1048576) :
    Calls Tryz.prog 171 #[.slice a n c, .slice a' l.length c', .func (.func 172) #[] #[]] w fun e w' => ∃ lo : Nat, Place qs l lo ∧ e = .returned (.tuple #[.int .i64 lo, .bool (decide (lo < n ∧ cmpList (lb qs lo) l = 0))]) ∧ Below w.heap.size w w' := by
  have HN := hid hn
  have HR := hid hr
  have HZ := hid hz
  have HG := hid hg
  have HL := hid hl
  clear hn hr hz hg hl
  go_enter Tryz.func171, Tryz.ntmps171
  go_wp2
  go_loopw [9, 10] (fun si sj wr => ∃ (lo hi : Nat), lo ≤ hi ∧ hi ≤ n ∧ si = .int .i64 lo ∧ sj = .int .i64 hi ∧ Hid (∀ i, i < lo → cmpList (lb qs i) l < 0) ∧ Hid (hi < n → 0 ≤ cmpList (lb qs hi) l) ∧ Hid (Below w.heap.size w wr)) (fun si sj _ => (intOf sj).toNat - (intOf si).toNat)
  case atStart => exact ⟨0, n, Nat.zero_le _, Nat.le_refl _, rfl, rfl, fun i hi => by omega, fun h => by omega, Below.refl _ _⟩
  case round =>
    obtain ⟨lo, hi, hlh, hhn, rfl, rfl, hlow, hhigh, HX⟩ := hrel
    by_cases hlt : lo < hi
    · obtain ⟨h, hh⟩ : ∃ h, h = (lo + hi) / 2 := ⟨_, rfl⟩
      have hh1 : lo ≤ h := by omega
      have hh2 : h < hi := by omega
      have HH := hid hh
      clear hh
      obtain ⟨b, off, rfl, hbl, c0, c1, t1, t2⟩ := (HR.out.below HX.out).at2 h (by rw [HN.out]; omega)
      have HZq := hid (HZ.out h (by rw [HN.out]; omega)).1
      have i1 : ((lo : Int) + (hi : Int)) / 2 < (n : Int) := by omega
      have i0 : 0 ≤ ((lo : Int) + (hi : Int)) / 2 := by omega
      obtain ⟨p, hp⟩ : ∃ p, p = qs.getD h q0 := ⟨_, rfl⟩
      rw [← hp] at c0 c1 t1 HZq
      have HLow : Hid (cmpList p.l l < 0 → ∀ i, i < h + 1 → cmpList (lb qs i) l < 0) := by
        intro hx i hi
        rw [hp] at hx
        by_cases e : i = h
        · subst e; exact hx
        · exact lst_trans (rise_lt HG.out (show i < h by omega) (by rw [HN.out]; omega)) hx
      have HHigh : Hid (¬ cmpList p.l l < 0 → h < n → 0 ≤ cmpList (lb qs h) l) := fun h1 _ => by rw [hp] at h1; simp only [lb]; omega
      have HT1 := hid t1
      rw [HH.out] at c0 c1
      clear t1 t2 hp
      by_cases h3 : cmpList p.l l < 0
      · go_wp2_with fail
        refine (f172 p a' c' l _ HZq.out hl1 HT1.out (HL.out.below HX.out)).mono ?_
        rintro e w2 ⟨rfl, hb2⟩
        have HX2 := hid (HX.out.trans (hb2.mono HX.out.size))
        clear hb2 c0 c1 hbl
        go_wp2
        go_roundw
        case rel => exact ⟨h + 1, hi, by omega, hhn, by have := HH.out; go_num, rfl, HLow.out h3, hhigh, HX2⟩
        case measure => simp [intOf]; omega
      · go_wp2_with fail
        refine (f172 p a' c' l _ HZq.out hl1 HT1.out (HL.out.below HX.out)).mono ?_
        rintro e w2 ⟨rfl, hb2⟩
        have HX2 := hid (HX.out.trans (hb2.mono HX.out.size))
        clear hb2 c0 c1 hbl
        go_wp2
        go_roundw
        case rel => exact ⟨lo, h, hh1, by omega, rfl, by have := HH.out; go_num, hlow, HHigh.out h3, HX2⟩
        case measure => have := HH.out; simp [intOf]; omega
    · obtain rfl : lo = hi := by omega
      have HP : Hid (Place qs l lo) := ⟨by rw [HN.out]; exact hhn, hlow.out, fun h => hhigh.out (by rw [HN.out] at h; exact h)⟩
      by_cases hln : lo < n
      · obtain ⟨b, off, rfl, hbl, c0, c1, t1, t2⟩ := (HR.out.below HX.out).at2 lo (by rw [HN.out]; omega)
        have HZq := hid (HZ.out lo (by rw [HN.out]; omega)).1
        have i1 : (lo : Int) < (n : Int) := by omega
        obtain ⟨p, hp⟩ : ∃ p, p = qs.getD lo q0 := ⟨_, rfl⟩
        rw [← hp] at c0 c1 t1 HZq
        have HD : Hid (decide (lo < n ∧ cmpList (lb qs lo) l = 0) = (cmpList p.l l == 0)) := by
          have e : lb qs lo = p.l := by rw [hp]
          unfold Hid
          by_cases hz : cmpList p.l l = 0
          · rw [decide_eq_true (show lo < n ∧ cmpList (lb qs lo) l = 0 from ⟨hln, by rw [e]; exact hz⟩), hz]; rfl
          · rw [decide_eq_false (show ¬ (lo < n ∧ cmpList (lb qs lo) l = 0) from fun h => hz (by rw [← e]; exact h.2))]; symm; rw [beq_eq_false_iff_ne]; exact hz
        have HT1 := hid t1
        clear hp
        clear t1 t2 hlow hhigh
        go_wp2_with fail
        refine (f172 p a' c' l _ HZq.out hl1 HT1.out (HL.out.below HX.out)).mono ?_
        rintro e w2 ⟨rfl, hb2⟩
        have HX2 := hid (HX.out.trans (hb2.mono HX.out.size))
        clear hb2 c0 c1 hbl
        go_wp2
        go_ret2
        exact ⟨lo, HP.out, ret_tup HD.out.symm, HX2.out⟩
      · have HD : Hid (decide (lo < n ∧ cmpList (lb qs lo) l = 0) = false) := by
          unfold Hid; rw [decide_eq_false_iff_not]; intro h; exact hln h.1
        have i1 : ¬ (lo : Int) < (n : Int) := by omega
        go_wp2
        go_ret2
        exact ⟨lo, HP.out, ret_tup (by first | exact HD.out.symm | simp [hln]), HX.out⟩

theorem f144 (a : Option Addr) (n c : Nat) (qs : List Q) (a' : Option Addr) (c' : Nat) (l : List Lb) (w : World) (hn : qs.length = n) (hb : n ≤ 1048576) (hr : HasQ w a qs) (hz : SmlQ qs) (hg : GoodQ qs) (hl : HasL w a' l) (hl1 : l.length ≤ 1048576) :
    Calls Tryz.prog 144 #[.slice a n c, .slice a' l.length c'] w fun e w' => ∃ lo : Nat, Place qs l lo ∧ e = .returned (.tuple #[.int .i64 lo, .bool (hasQ qs l)]) ∧ Below w.heap.size w w' := by
  have HC := hid (f171 a n c qs a' c' l w hn hb hr hz hg hl hl1)
  have HG := hid hg
  have HN := hid hn
  clear hr hz hl hg hn
  go_enter Tryz.func144, Tryz.ntmps144
  go_wp2_with fail
  refine HC.out.mono ?_
  rintro e w1 ⟨lo, hp, rfl, hb1⟩
  have HP := hid (hp.has HG.out)
  have HPl := hid hp
  rw [HN.out] at HP
  clear hp
  generalize decide (lo < n ∧ cmpList (lb qs lo) l = 0) = r at *
  go_wp2
  go_ret2
  exact ⟨lo, HPl.out, ret_tup HP.out, hb1⟩
end Go.Proofs.YtjhdmghpklagkaaGreat.Blk
namespace Go.Proofs.YtjhdmghpklagkaaGreat.Blk
open Go.RowKit
open Go.Proofs.YtjhdmghpklagkaaGreat.Lab (Lb HasL cmpList orC goodL two0 two1)
open Go.Proofs.YtjhdmghpklagkaaGreat.Str (numC)
open Go.Proofs.YtjhdmghpklagkaaGreat.Smp (In64 ret_bool ret_int)
open Go.Proofs.YtjhdmghpklagkaaGreat.Srs (hid lt_at kept Q HasQ FitQ SmlQ GoodQ gdQ gdQ_yes gdQ_no gdQ_iff agQ pl q0 two)
open Go.Proofs.YtjhdmghpklagkaaGreat.Stn (T HasT FitT SmlT agT t0 three Cells)

def cmpT (p q : T) : Int := orC (cmpList p.l q.l) (numC (p.t + 1) q.f)
theorem numC_neg {x y : Int} : numC x y < 0 ↔ x < y := by unfold numC; split <;> (try split) <;> omega
def Ahead (p q : T) : Prop := cmpList p.l q.l < 0 ∨ (cmpList p.l q.l = 0 ∧ p.t + 1 < q.f)
theorem ahead_iff {p q : T} : Ahead p q ↔ cmpT p q < 0 := by unfold Ahead cmpT; rw [orC_neg, numC_neg]

abbrev SS (w : World) (p q : T) (x : World) : Prop :=
  x.cell? ⟨w.heap.size, 0, none⟩ = some (.slice p.a p.l.length p.c) ∧ x.cell? ⟨w.heap.size, 1, none⟩ = some (.int .i64 p.f) ∧ x.cell? ⟨w.heap.size, 2, none⟩ = some (.int .i64 p.t) ∧
  x.cell? ⟨w.heap.size + 1, 0, none⟩ = some (.slice q.a q.l.length q.c) ∧ x.cell? ⟨w.heap.size + 1, 1, none⟩ = some (.int .i64 q.f) ∧ x.cell? ⟨w.heap.size + 1, 2, none⟩ = some (.int .i64 q.t) ∧
  HasL x p.a p.l ∧ HasL x q.a q.l ∧ Below w.heap.size w x
theorem SS.below {w W W' : World} {p q : T} (h : SS w p q W) (hb : Below W.heap.size W W') : SS w p q W' := by
  obtain ⟨h1, h2, h3, h4, h5, h6, h7, h8, h9⟩ := h
  have l := World.block_lt_of_cell? W _ h4
  have l0 : w.heap.size < W.heap.size := by simp at l; omega
  have e1 : ∀ j, W'.cell? ⟨w.heap.size, j, none⟩ = W.cell? ⟨w.heap.size, j, none⟩ := fun j => hb.cell (by exact l0)
  have e2 : ∀ j, W'.cell? ⟨w.heap.size + 1, j, none⟩ = W.cell? ⟨w.heap.size + 1, j, none⟩ := fun j => hb.cell (by exact l)
  exact ⟨(e1 _).trans h1, (e1 _).trans h2, (e1 _).trans h3, (e2 _).trans h4, (e2 _).trans h5, (e2 _).trans h6, h7.below hb, h8.below hb, h9.trans (hb.mono h9.size)⟩
theorem SS.alloc {w W : World} {p q : T} (h : SS w p q W) (o : Obj) : SS w p q (W.alloc o) := h.below ((Below.refl _ _).alloc (Nat.le_refl _) o)
theorem SS.drew {w W : World} {p q : T} (h : SS w p q W) : SS w p q W.drew := h.below (Below.refl _ W).drew
theorem SS.t1 {w W : World} {p q : T} (h : SS w p q W) : HasL W p.a p.l := h.2.2.2.2.2.2.1
theorem SS.t2 {w W : World} {p q : T} (h : SS w p q W) : HasL W q.a q.l := h.2.2.2.2.2.2.2.1
theorem SS.bel {w W : World} {p q : T} (h : SS w p q W) : Below w.heap.size w W := h.2.2.2.2.2.2.2.2
abbrev boxT (p : T) : Obj := .cells #[.slice p.a p.l.length p.c, .int .i64 p.f, .int .i64 p.t] 94
theorem SS.new {w : World} {p q : T} (hp : HasL w p.a p.l) (hq : HasL w q.a q.l) : SS w p q ((w.alloc (boxT p)).alloc (boxT q)) := by
  have A1 := (Below.heap_alloc (w.alloc (boxT p)) (boxT q) w.heap.size (by simp)).trans (heap_alloc_new w (boxT p))
  have B1 := heap_alloc_new (w.alloc (boxT p)) (boxT q)
  simp only [World.size_alloc] at B1
  have hB : Below w.heap.size w ((w.alloc (boxT p)).alloc (boxT q)) := ((Below.refl w.heap.size w).alloc (Nat.le_refl _) _).alloc (by simp) _
  obtain ⟨x0, x1, x2⟩ := three A1
  obtain ⟨y0, y1, y2⟩ := three B1
  exact ⟨x0, x1, x2, y0, y1, y2, hp.below hB, hq.below hB, hB⟩

set_option maxHeartbeats 2000000 in
theorem f146 (p q : T) (w : World) (n1 : p.l.length ≤ 1048576) (n2 : q.l.length ≤ 1048576) (ht : In64 (p.t + 1)) (hp : HasL w p.a p.l) (hq : HasL w q.a q.l) :
    Calls Tryz.prog 146 #[agT p, agT q] w fun e w' => e = .returned (.int .i64 (cmpT p q)) ∧ Below w.heap.size w w' := by
  have HS := hid (SS.new hp hq)
  have hw1 : IntKind.i64.wrap (p.t + 1) = p.t + 1 := by rw [IntKind.wrap_i64]; have := ht.1; have := ht.2; omega
  have N1 := hid n1
  have N2 := hid n2
  clear hp hq ht n1 n2
  simp only [agT]
  go_enter Tryz.func146, Tryz.ntmps146
  go_wp2_with fail
  go_region_held3 (fun w' => SS w p q w') (first | exact HS.out.drew | assumption | exact SS.alloc (by assumption) _) (first | (go_at_call 134; refine (Lab.f134 p.a q.a p.l.length q.l.length p.c q.c p.l q.l _ rfl rfl N1.out N2.out (SS.t1 (by assumption)) (SS.t2 (by assumption))).mono ?_; rintro e w2 ⟨rfl, hb2⟩; have hs2 := SS.below (by assumption) hb2; clear hb2) | (go_at_call 174; refine (Lab.f174 _ _ _).mono ?_; rintro e w' ⟨rfl, rfl⟩) | (go_at_call 173; refine (Lab.f173 _ (cmpList p.l q.l) (numC (p.t + 1) q.f) _ ?_ ?_).mono ?_; (exact two0 (heap_alloc_new _ _)); (exact two1 (heap_alloc_new _ _)); rintro e w' ⟨rfl, rfl⟩))
  go_wp2
  go_ret
  exact ⟨rfl, (SS.alloc hs2 _).bel⟩

def RiseT (ts : List T) : Prop := ∀ i, i < ts.length → 0 < i → Ahead (ts.getD (i - 1) t0) (ts.getD i t0)
noncomputable instance (ts : List T) : Decidable (RiseT ts) := Classical.propDecidable _
noncomputable def riseT (ts : List T) : Bool := decide (RiseT ts)
set_option maxHeartbeats 2000000 in
theorem f145 (a : Option Addr) (n c : Nat) (ts : List T) (w : World) (hn : ts.length = n) (hb : n ≤ 1048576) (hr : HasT w a ts) (hz : SmlT ts) (ht : ∀ i, i < ts.length → In64 ((ts.getD i t0).t + 1)) :
    Calls Tryz.prog 145 #[.slice a n c, .func (.func 146) #[] #[]] w fun e w' => e = .returned (.bool (riseT ts)) ∧ Below w.heap.size w w' := by
  have HN := hid hn
  have HR := hid hr
  have HZ := hid hz
  have HT := hid ht
  clear hn hr hz ht
  go_enter Tryz.func145, Tryz.ntmps145
  go_wp2
  go_loopw [5] (fun i wr => ∃ k : Nat, (k ≤ n ∨ k = 0) ∧ i = .int .i64 ((k : Int) + 1) ∧ Hid (∀ i, i ≤ k → 0 < i → Ahead (ts.getD (i - 1) t0) (ts.getD i t0)) ∧ Hid (Below w.heap.size w wr)) (fun i _ => n + 1 - (intOf i).toNat)
  case atStart => exact ⟨0, .inr rfl, by go_num, fun i hi h => by omega, Below.refl _ _⟩
  case round =>
    obtain ⟨k, hk, rfl, HU, HX⟩ := hrel
    by_cases hlt : k + 1 < n
    · obtain ⟨b, off, rfl, hbl, hc, t1⟩ := (HR.out.below HX.out).at2 k (by rw [HN.out]; omega)
      obtain ⟨b', off', e0, hbl', hc', t1'⟩ := (HR.out.below HX.out).at2 (k + 1) (by rw [HN.out]; omega)
      obtain ⟨rfl, rfl⟩ : b = b' ∧ off = off' := by cases e0; exact ⟨rfl, rfl⟩
      have i1 : (k : Int) < (n : Int) := by omega
      have i2 : (k : Int) + 1 < (n : Int) := by omega
      have i3 : (0 : Int) ≤ (k : Int) := by omega
      have i4 : (0 : Int) ≤ (k : Int) + 1 := by omega
      have i5 : ((k : Int) + 1).toNat = k + 1 := by omega
      have hw1 : IntKind.i64.wrap (k : Int) = (k : Int) := by rw [IntKind.wrap_i64]; omega
      have hw2 : IntKind.i64.wrap ((k : Int) + 1 - 1) = (k : Int) := by rw [IntKind.wrap_i64]; omega
      have HNo : Hid (¬ Ahead (ts.getD k t0) (ts.getD (k + 1) t0) → riseT ts = false) := fun h => decide_eq_false fun g => h (g (k + 1) (by rw [HN.out]; exact hlt) (by omega))
      have HUs : Hid (Ahead (ts.getD k t0) (ts.getD (k + 1) t0) → ∀ i, i ≤ k + 1 → 0 < i → Ahead (ts.getD (i - 1) t0) (ts.getD i t0)) := by
        intro h i hi h0
        by_cases e : i = k + 1
        · subst e; exact h
        · exact HU.out i (by omega) h0
      have N1 := hid (HZ.out k (by rw [HN.out]; omega))
      have N2 := hid (HZ.out (k + 1) (by rw [HN.out]; omega))
      have N3 := hid (HT.out k (by rw [HN.out]; omega))
      generalize ts.getD k t0 = p at *
      generalize ts.getD (k + 1) t0 = q at *
      have HE : Hid (Stn.EE w p q b (off + k * 3) b (off + (k + 1) * 3) wr) := ⟨hc.1, hc.2.1, hc.2.2, hc'.1, hc'.2.1, hc'.2.2, t1, t1', hbl, hbl, HX.out⟩
      clear hc hc' t1 t1' hbl hbl' e0
      by_cases h3 : 0 ≤ cmpT p q
      · have h4 := hid (show ¬ Ahead p q from fun h => by have := ahead_iff.1 h; omega)
        go_wp2_with fail
        go_region_held3 (fun x => Stn.EE w p q b (off + k * 3) b (off + (k + 1) * 3) x) (first | exact HE.out.drew | assumption) (first | (go_at_call 146; refine (f146 p q _ N1.out N2.out N3.out (Stn.EE.t1 (by assumption)) (Stn.EE.t3 (by assumption))).mono ?_; rintro e w2 ⟨rfl, hb2⟩; have hs2 := Stn.EE.below (by assumption) hb2; clear hb2))
        have HX2 := hid hs2.bel
        clear hs2
        go_wp2
        go_ret
        exact ⟨ret_bool (HNo.out h4.out).symm, HX2.out⟩
      · have h4 := hid (ahead_iff.2 (show cmpT p q < 0 by omega))
        go_wp2_with fail
        go_region_held3 (fun x => Stn.EE w p q b (off + k * 3) b (off + (k + 1) * 3) x) (first | exact HE.out.drew | assumption) (first | (go_at_call 146; refine (f146 p q _ N1.out N2.out N3.out (Stn.EE.t1 (by assumption)) (Stn.EE.t3 (by assumption))).mono ?_; rintro e w2 ⟨rfl, hb2⟩; have hs2 := Stn.EE.below (by assumption) hb2; clear hb2))
        have HX2 := hid hs2.bel
        clear hs2
        go_wp2
        go_roundw
        case rel => exact ⟨k + 1, .inl (by omega), by go_num, HUs.out h4.out, HX2.out⟩
        case measure => simp [intOf]; omega
    · go_wp2
      go_ret
      exact ⟨ret_bool (by symm; refine decide_eq_true fun i hi h0 => HU.out i (by have := HN.out; omega) h0), HX.out⟩

def firstT (s : List Smp.Sm) : Int := (s.getD 0 Smp.e0).1
def lastT (s : List Smp.Sm) : Int := (s.getD (s.length - 1) Smp.e0).1
def SerAt (h : Bk) (i : Nat) : Prop := h.F ≤ firstT (h.qs.getD i q0).s ∧ lastT (h.qs.getD i q0).s < h.T
def StoAt (h : Bk) (i : Nat) : Prop := InQ h.qs (h.ts.getD i t0).l ∧ h.F ≤ (h.ts.getD i t0).f ∧ (h.ts.getD i t0).t < h.T ∧ (h.ts.getD i t0).f ≤ (h.ts.getD i t0).t
def Head (h : Bk) : Prop := (0 ≤ h.F ∧ h.F ≤ 1000000000000) ∧ h.F < h.T ∧ h.T ≤ 1000000000001 ∧ 1 ≤ h.L ∧ h.L ≤ 9
def GoodB (h : Bk) : Prop := Head h ∧ GoodQ h.qs ∧ (∀ i, i < h.qs.length → SerAt h i) ∧ h.ts.length ≤ 100 ∧ (∀ i, i < h.ts.length → StoAt h i) ∧ RiseT h.ts
noncomputable instance (h : Bk) : Decidable (GoodB h) := Classical.propDecidable _
noncomputable def gdB (h : Bk) : Bool := decide (GoodB h)
theorem gdB_no {h : Bk} (g : ¬ GoodB h) : gdB h = false := decide_eq_false g
theorem gdB_yes {h : Bk} (g : GoodB h) : gdB h = true := decide_eq_true g
theorem gdB_iff {h : Bk} : gdB h = true ↔ GoodB h := ⟨fun g => of_decide_eq_true g, gdB_yes⟩
structure HB (w : World) (h : Bk) (x : World) : Prop where
  box : x.heap[w.heap.size]? = some (.cells (clB h) 36)
  has : HasB x h
  bel : Below w.heap.size w x
theorem HB.below {w : World} {h : Bk} {x y : World} (g : HB w h x) (hb : Below x.heap.size x y) : HB w h y := ⟨kept g.box hb, g.has.below hb, g.bel.trans (hb.mono g.bel.size)⟩
theorem HB.new {w : World} {h : Bk} (g : HasB w h) : HB w h (w.alloc (.cells (clB h) 36)) :=
  ⟨heap_alloc_new w _, g.below ((Below.refl _ _).alloc (Nat.le_refl _) _), (Below.refl _ _).alloc (Nat.le_refl _) _⟩

set_option maxHeartbeats 4000000 in
theorem f107 (h : Bk) (w : World) (hr : HasB w h) (hf : FitB h) (hz : SmlB h) (hh : Head h) (hq : GoodQ h.qs) (hs : ∀ i, i < h.qs.length → SerAt h i) :
    Calls Tryz.prog 107 #[agB h] w fun e w' => e = .returned (.bool (gdB h)) ∧ Below w.heap.size w w' := by
  obtain ⟨F, T, L, qs, a, c, ts, b, d⟩ := h
  have H0 := hid (HB.new hr)
  have HF := hid hf
  have HZ := hid hz
  have HH := hid hh
  have HQ := hid hq
  have HS := hid hs
  clear hr hf hz hh hq hs
  simp only [clB] at H0
  obtain ⟨b0, b1, b2, b3, b4⟩ := five H0.out.box
  have hmax : ts.length ≤ 1048576 := HZ.out.2.2.1
  by_cases h100 : ts.length ≤ 100
  rotate_left
  · have h100' : 100 < (ts.length : Int) := by omega
    simp only [agB, clB]
    go_enter Tryz.func107, Tryz.ntmps107
    go_wp2
    go_ret
    exact ⟨ret_bool (gdB_no fun g => h100 g.2.2.2.1).symm, H0.out.bel⟩
  have h100' : ¬ 100 < (ts.length : Int) := by omega
  have HE : Hid (∀ r, (∀ i, i < ts.length → StoAt ⟨F, T, L, qs, a, c, ts, b, d⟩ i) → riseT ts = r → gdB ⟨F, T, L, qs, a, c, ts, b, d⟩ = r) := by
    rintro r g rfl
    unfold gdB riseT
    rw [decide_eq_decide]
    exact ⟨fun g' => g'.2.2.2.2.2, fun g' => ⟨HH.out, HQ.out, HS.out, h100, g, g'⟩⟩
  simp only [agB, clB]
  go_enter Tryz.func107, Tryz.ntmps107
  go_wp2
  go_loopw [14] (fun i wr => ∃ k : Nat, k ≤ ts.length ∧ i = .int .i64 k ∧ Hid (∀ i, i < k → StoAt ⟨F, T, L, qs, a, c, ts, b, d⟩ i) ∧ Hid (HB w ⟨F, T, L, qs, a, c, ts, b, d⟩ wr)) (fun i _ => ts.length - (intOf i).toNat)
  case atStart => exact ⟨0, Nat.zero_le _, rfl, fun i hi => by omega, H0.out⟩
  case round =>
    obtain ⟨k, hk, rfl, HU, HX⟩ := hrel
    clear b0 b1 b2 b3 b4
    obtain ⟨b0, b1, b2, b3, b4⟩ := five HX.out.box
    by_cases hlt : k < ts.length
    rotate_left
    · have HA := hid (fun i hi => HU.out i (show i < k by have : i < ts.length := hi; omega))
      have HT1 : Hid (∀ i, i < ts.length → In64 ((ts.getD i t0).t + 1)) := fun i hi => by
        obtain ⟨-, u1, u2, u3⟩ := HU.out i (by omega)
        obtain ⟨⟨v1, v2⟩, v3, v4, -⟩ := HH.out
        simp only at u1 u2 u3 v1 v2 v3 v4
        exact ⟨by omega, by omega⟩
      go_wp2_with fail
      refine (f145 b ts.length d ts _ rfl hmax HX.out.has.2 HZ.out.2.2.2 HT1.out).mono ?_
      rintro e w2 ⟨rfl, hb2⟩
      have HX2 := hid (HX.out.below hb2).bel
      clear hb2
      go_wp2
      go_ret
      exact ⟨ret_bool (HE.out _ HA.out rfl).symm, HX2.out⟩
    have HNo : Hid (¬ StoAt ⟨F, T, L, qs, a, c, ts, b, d⟩ k → gdB ⟨F, T, L, qs, a, c, ts, b, d⟩ = false) := fun g => gdB_no fun g' => g (g'.2.2.2.2.1 k hlt)
    have HUs : Hid (StoAt ⟨F, T, L, qs, a, c, ts, b, d⟩ k → ∀ i, i < k + 1 → StoAt ⟨F, T, L, qs, a, c, ts, b, d⟩ i) := by
      intro g i hi
      by_cases e : i = k
      · rw [e]; exact g
      · exact HU.out i (by omega)
    obtain ⟨g, off, e0, hbl, hc, t1⟩ := HX.out.has.2.at2 k hlt
    simp only at e0 hc t1
    subst e0
    have N1 := hid (HZ.out.2.2.2 k hlt)
    simp only at N1
    obtain ⟨q, hq⟩ : ∃ q, q = ts.getD k t0 := ⟨_, rfl⟩
    have HSt : Hid (StoAt ⟨F, T, L, qs, a, c, ts, some ⟨g, off, none⟩, d⟩ k ↔ InQ qs q.l ∧ F ≤ q.f ∧ q.t < T ∧ q.f ≤ q.t) := by unfold Hid StoAt; rw [hq]
    rw [← hq] at hc t1 N1
    clear hq
    obtain ⟨d0, d1, d2⟩ := hc
    have HXa := hid (HX.out.below ((Below.refl wr.heap.size wr).alloc (Nat.le_refl _) (boxT q)))
    have HBx := hid (heap_alloc_new wr (boxT q))
    have HTa := hid (t1.below ((Below.refl wr.heap.size wr).alloc (Nat.le_refl _) (boxT q)))
    have lb0 : w.heap.size < wr.heap.size := lt_at HX.out.box
    clear t1
    by_cases h1 : F ≤ q.f
    rotate_left
    · have h1' : q.f < F := by omega
      have HNN := hid (fun g => h1 (HSt.out.1 g).2.1)
      go_wp2
      go_ret
      exact ⟨ret_bool (HNo.out HNN.out).symm, HXa.out.bel⟩
    have h1' : ¬ q.f < F := by omega
    by_cases h2 : q.f ≤ q.t
    rotate_left
    · have h2' : q.t < q.f := by omega
      have HNN := hid (fun g => h2 (HSt.out.1 g).2.2.2)
      go_wp2
      go_ret
      exact ⟨ret_bool (HNo.out HNN.out).symm, HXa.out.bel⟩
    have h2' : ¬ q.t < q.f := by omega
    by_cases h3 : q.t < T
    rotate_left
    · have h3' : T ≤ q.t := by omega
      have HNN := hid (fun g => h3 (HSt.out.1 g).2.2.1)
      go_wp2
      go_ret
      exact ⟨ret_bool (HNo.out HNN.out).symm, HXa.out.bel⟩
    have h3' : ¬ T ≤ q.t := by omega
    go_wp2_with fail
    refine (f144 a qs.length c qs q.a q.c q.l _ rfl HZ.out.1 HXa.out.has.1 HZ.out.2.1 HQ.out HTa.out N1.out).mono ?_
    rintro e w2 ⟨lo, -, rfl, hb2⟩
    have HX2 := hid (HXa.out.below hb2)
    clear hb2
    cases h4 : hasQ qs q.l
    · have HNN : Hid (¬ StoAt ⟨F, T, L, qs, a, c, ts, some ⟨g, off, none⟩, d⟩ k) := fun g' => by have := decide_eq_true (HSt.out.1 g').1; rw [show hasQ qs q.l = decide (InQ qs q.l) from rfl, this] at h4; cases h4
      go_wp2
      go_ret
      exact ⟨ret_bool (HNo.out HNN.out).symm, HX2.out.bel⟩
    · have HYY := hid (HSt.out.2 ⟨of_decide_eq_true h4, h1, h3, h2⟩)
      go_wp2
      go_roundw
      case rel => exact ⟨k + 1, by omega, by go_num, HUs.out HYY.out, HX2⟩
      case measure => simp [intOf]; omega
end Go.Proofs.YtjhdmghpklagkaaGreat.Blk
