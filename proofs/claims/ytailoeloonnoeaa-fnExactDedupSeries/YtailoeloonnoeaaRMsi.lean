/- Where labels stand among series: the model's l7Place; putting to that place. -/
import Derived.Test.YtailoeloonnoeaaRMsb
import Derived.Test.YtailoeloonnoeaaRXf
namespace Go.Proofs.Ytailoeloonnoeaa.Srs
open Go.RowKit
open Go.Proofs.Ytailoeloonnoeaa.Lab (Lb HasL cmpList)
open Go.Proofs.Ytailoeloonnoeaa.Smp (Sm HasS)
open Go.Proofs.Ytailoeloonnoeaa.Stb (ltP put eqv lst_neg)

/-- The labels of the i-th series. -/
abbrev lb (qs : List Q) (i : Nat) : List Lb := (qs.getD i q0).l
/-- lo is where labels stand among series, or are to stand. -/
structure Place (qs : List Q) (l : List Lb) (lo : Nat) : Prop where
  le : lo ≤ qs.length
  less : ∀ i, i < lo → cmpList (lb qs i) l < 0
  geq : lo < qs.length → 0 ≤ cmpList (lb qs lo) l
theorem ret_tup {i : Int} {a b : Bool} (h : a = b) : Ending.returned (.tuple #[.int .i64 i, .bool a]) = .returned (.tuple #[.int .i64 i, .bool b]) := by rw [h]
set_option maxHeartbeats 2000000 in
theorem f15 (a : Option Addr) (n c : Nat) (qs : List Q) (a' : Option Addr) (c' : Nat) (l : List Lb) (w : World) (hn : qs.length = n) (hb : n ≤ 1048576) (hr : HasQ w a qs) (hf : FitQ qs) (hz : SmlQ qs) (hl : HasL w a' l) (hl1 : l.length ≤ 1048576) :
    Calls Try.prog 15 #[.slice a n c, .slice a' l.length c'] w fun e w' => ∃ lo : Nat, Place qs l lo ∧ e = .returned (.tuple #[.int .i64 lo, .bool (decide (lo < n ∧ cmpList (lb qs lo) l = 0))]) ∧ Below w.heap.size w w' := by
  have HN := hid hn
  have HR := hid hr
  have HF := hid hf
  have HZ := hid hz
  have HL := hid hl
  clear hn hr hf hz hl
  go_enter Try.func15, Try.ntmps15
  go_wp2
  go_loopw [11] (fun i wr => ∃ k : Nat, k ≤ n ∧ i = .int .i64 (k : Int) ∧ Hid (∀ i, i < k → cmpList (lb qs i) l < 0) ∧ Hid (Below w.heap.size w wr)) (fun i _ => n - (intOf i).toNat)
  case atStart => exact ⟨0, Nat.zero_le _, rfl, fun i hi => by omega, Below.refl _ _⟩
  case round =>
    obtain ⟨k, hk, rfl, HU, HX⟩ := hrel
    by_cases hlt : k < n
    · obtain ⟨b, off, rfl, hbl, c0, c1, t1, t2⟩ := (HR.out.below HX.out).at2 k (by rw [HN.out]; exact hlt)
      have HFq := hid (HF.out k)
      have HZq := hid (HZ.out k (by rw [HN.out]; exact hlt)).1
      obtain ⟨q, hq⟩ : ∃ q, q = qs.getD k q0 := ⟨_, rfl⟩
      rw [← hq] at c0 c1 t1 HFq HZq
      have HP : Hid (0 ≤ cmpList q.l l → Place qs l k) := fun h => ⟨by rw [HN.out]; omega, HU.out, fun _ => by rw [hq] at h; exact h⟩
      have HD : Hid (∀ r, (cmpList q.l l == 0) = r → decide (k < n ∧ cmpList (lb qs k) l = 0) = r) := by
        have e : lb qs k = q.l := by rw [hq]
        rintro r rfl
        by_cases hz : cmpList q.l l = 0
        · rw [decide_eq_true (show k < n ∧ cmpList (lb qs k) l = 0 from ⟨hlt, by rw [e]; exact hz⟩), hz]; rfl
        · rw [decide_eq_false (show ¬ (k < n ∧ cmpList (lb qs k) l = 0) from fun h => hz (by rw [← e]; exact h.2))]; symm; rw [beq_eq_false_iff_ne]; exact hz
      have HUs : Hid (cmpList q.l l < 0 → ∀ i, i < k + 1 → cmpList (lb qs i) l < 0) := by
        intro h i hi
        by_cases e : i = k
        · subst e; rw [hq] at h; exact h
        · exact HU.out i (by omega)
      clear hq
      have HB0 := hid ((Below.refl wr.heap.size wr).alloc (Nat.le_refl _) (.cells #[.slice q.a q.l.length q.c, .slice q.b q.s.length q.d] 40))
      have HT1 := hid (t1.below HB0.out)
      have i1 : (k : Int) < (n : Int) := by omega
      clear t1 t2 hbl
      go_wp2_with fail
      refine (Lab.f36 q.a a' q.l.length l.length q.c c' q.l l _ rfl rfl HZq.out hl1 HT1.out (HL.out.below (HX.out.trans (HB0.out.mono HX.out.size))) HFq.out.1).mono ?_
      rintro e w2 ⟨rfl, nq, hw2⟩
      have HX2 : Hid (Below w.heap.size w w2) := by unfold Hid; rw [hw2]; exact Lab.below_drewN (HX.out.trans (HB0.out.mono HX.out.size)) nq
      clear hw2 c0 c1
      rcases Int.lt_trichotomy (cmpList q.l l) 0 with h | h | h
      · have g1 : (cmpList q.l l == 0) = false := by rw [beq_eq_false_iff_ne]; omega
        have g2 : ¬ cmpList q.l l > 0 := by omega
        go_wp2
        go_roundw
        case rel => exact ⟨k + 1, by omega, by go_num, HUs.out h, HX2⟩
        case measure => simp [intOf]; omega
      · have g1 : (cmpList q.l l == 0) = true := by rw [h]; rfl
        have HG := hid g1
        have HH : Hid (0 ≤ cmpList q.l l) := by unfold Hid; omega
        clear h
        go_wp2
        go_ret2
        exact ⟨k, HP.out HH.out, ret_tup (HD.out _ HG.out).symm, HX2.out⟩
      · have g1 : (cmpList q.l l == 0) = false := by rw [beq_eq_false_iff_ne]; omega
        have HG := hid g1
        go_wp2
        go_ret2
        exact ⟨k, HP.out (by omega), ret_tup (HD.out _ HG.out).symm, HX2.out⟩
    · obtain rfl : k = n := by omega
      have HD : Hid (decide (k < k ∧ cmpList (lb qs k) l = 0) = false) := by unfold Hid; rw [decide_eq_false_iff_not]; intro h; omega
      have HP : Hid (Place qs l k) := ⟨by rw [HN.out]; omega, HU.out, fun h => absurd h (by rw [HN.out]; omega)⟩
      go_wp2
      go_ret2
      exact ⟨k, HP.out, ret_tup HD.out.symm, HX.out⟩

theorem ltP_of {x s : Pl} (h : cmpList x.1 s.1 < 0) : ltP x s = true := decide_eq_true h
theorem eqv_no {x s : Pl} (h : ¬ cmpList x.1 s.1 = 0) : eqv ltP x s = false := by rw [Stb.eqvP]; exact decide_eq_false h
theorem eqv_yes {x s : Pl} (h : cmpList x.1 s.1 = 0) : eqv ltP x s = true := by rw [Stb.eqvP]; exact decide_eq_true h
theorem ltP_no {x s : Pl} (h : cmpList x.1 s.1 < 0) : ltP s x = false := decide_eq_false (by have := lst_neg x.1 s.1; omega)
theorem ltP_gt {x s : Pl} (h : 0 < cmpList x.1 s.1) : ltP s x = true := decide_eq_true (by have := lst_neg x.1 s.1; omega)
/-- What is put stands behind what is less. -/
theorem put_less {f : Pl → Pl → Pl} {s : Pl} : ∀ (A B : List Pl), (∀ x ∈ A, cmpList x.1 s.1 < 0) → put ltP f s (A ++ B) = A ++ put ltP f s B
  | [], _, _ => rfl
  | x :: A, B, h => by
    have h1 := h x (by simp)
    rw [List.cons_append, Stb.put_gt (eqv_no (by omega)) (ltP_no h1), put_less A B (fun y hy => h y (by simp [hy]))]
    rfl
theorem put_there {f : Pl → Pl → Pl} {s x : Pl} {A B : List Pl} (h : ∀ x ∈ A, cmpList x.1 s.1 < 0) (h0 : cmpList x.1 s.1 = 0) : put ltP f s (A ++ x :: B) = A ++ f x s :: B := by
  rw [put_less A _ h, Stb.put_eq (eqv_yes h0)]
theorem put_new {f : Pl → Pl → Pl} {s : Pl} {A B : List Pl} (h : ∀ x ∈ A, cmpList x.1 s.1 < 0) (h0 : ∀ x, B.head? = some x → 0 < cmpList x.1 s.1) : put ltP f s (A ++ B) = A ++ s :: B := by
  rw [put_less A _ h]
  cases B with
  | nil => rfl
  | cons x B => rw [Stb.put_lt (ltP_gt (h0 x rfl))]
/-- A list parted where labels stand. -/
theorem Place.part {qs : List Q} {l : List Lb} {lo : Nat} (h : Place qs l lo) : ∃ A B, qs = A ++ B ∧ A.length = lo ∧ (∀ q ∈ A, cmpList q.l l < 0) ∧ ∀ q, B.head? = some q → 0 ≤ cmpList q.l l := by
  refine ⟨qs.take lo, qs.drop lo, (List.take_append_drop lo qs).symm, by have := h.le; simp; omega, fun q hq => ?_, fun q hq => ?_⟩
  · obtain ⟨i, hi, e⟩ := List.getElem_of_mem hq
    have hi' : i < lo := by simp at hi; omega
    have h1 := h.less i hi'
    have hi2 : i < qs.length := by simp at hi; omega
    rw [show lb qs i = q.l by rw [← e]; unfold lb; congr 1; simp [List.getD_eq_getElem?_getD, hi2]] at h1
    exact h1
  · rw [List.head?_drop] at hq
    have hlt := (List.getElem?_eq_some_iff.1 hq).1
    have h1 := h.geq hlt
    rw [show lb qs lo = q.l by unfold lb; rw [List.getD_eq_getElem?_getD, hq]; rfl] at h1
    exact h1
end Go.Proofs.Ytailoeloonnoeaa.Srs
