/- Lists of series merged: the model's MergeSeries. -/
import Derived.Test.YtailoeloonnoeaaRMsk
import Derived.Test.YtailoeloonnoeaaRXf
import Derived.Test.YtailoeloonnoeaaRXB
import Derived.Test.YtailoeloonnoeaaRXg
import Derived.Test.YtailoeloonnoeaaRXd
import Derived.Test.YtailoeloonnoeaaRMK
namespace Go.Proofs.Ytailoeloonnoeaa.Srs
open Go.RowKit
open Go.Proofs.Ytailoeloonnoeaa.Lab (Lb HasL cmpList)
open Go.Proofs.Ytailoeloonnoeaa.Smp (Sm HasS mrg)
open Go.Proofs.Ytailoeloonnoeaa.Stb (ltP put puts Rise runs_two ordP jnP)

theorem good_rise {qs : List Q} (h : GoodQ qs) : ∀ (d i : Nat), i + d + 1 < qs.length → cmpList (qs.getD i q0).l (qs.getD (i + d + 1) q0).l < 0 := by
  intro d
  induction d with
  | zero => intro i hi; exact (h.2 (i + 0 + 1) hi).2 (by omega)
  | succ d ih =>
    intro i hi
    have h1 := ih i (by omega)
    have h2 : cmpList (qs.getD (i + d + 1) q0).l (qs.getD (i + (d + 1) + 1) q0).l < 0 := (h.2 (i + (d + 1) + 1) hi).2 (by omega)
    exact Stb.lst_trans h1 h2
theorem rise_pl {qs : List Q} (h : GoodQ qs) : Rise ltP (qs.map pl) := by
  refine List.pairwise_iff_getElem.2 fun i j hi hj hij => ?_
  have hi' : i < qs.length := by simpa using hi
  have hj' : j < qs.length := by simpa using hj
  have := good_rise h (j - i - 1) i (by omega)
  rw [show i + (j - i - 1) + 1 = j by omega] at this
  refine decide_eq_true ?_
  simpa [hi', hj', pl] using this
theorem puts_mgA {qs : List Q} (h : GoodQ qs) (P : List Pl) : puts ltP jF (qs.map pl) P = mgA (qs.map pl) P := (runs_two ordP (jnP mrg) (qs.map pl) P (rise_pl h)).symm
theorem okq_mq {q : Q} (h : OkQ (pl q)) (hf : Fq q) : MQ q :=
  ⟨named_ne h.1, h.2.2, (good_goodP h.1.1).1, (show Smp.GoodP q.s from of_decide_eq_true h.2.1).1, hf.1, hf.2.2.1⟩
end Go.Proofs.Ytailoeloonnoeaa.Srs
/- What merging gives is good, and no greater than marks can tell. -/
namespace Go.Proofs.Ytailoeloonnoeaa.Srs
open Go.RowKit
open Go.Proofs.Ytailoeloonnoeaa.Lab (Lb HasL cmpList)
open Go.Proofs.Ytailoeloonnoeaa.Smp (Sm HasS mrg)

theorem gdL_nil : gdL [] = true := gdQ_yes ⟨by simp, fun i hi => by simp at hi⟩
theorem mgL_good (A B : List Pl) : gdL (mgL A B) = true := by
  by_cases h : gdL A = true ∧ gdL B = true ∧ gdL (mgA A B) = true
  · rw [mgL_y h.1 h.2.1 h.2.2]; exact h.2.2
  · unfold mgL; rw [if_neg h]; exact gdL_nil
/-- An answer of MergeSeries is a good list. -/
theorem mg_good {R : List Q} {A B : List Pl} (h : R.map pl = mgL A B) : GoodQ R := by
  have := mgL_good A B
  rw [← h, ← gdQ_pl] at this
  exact gdQ_iff.1 this
theorem tot_good {R : List Q} (h : GoodQ R) : ∀ k, k ≤ R.length → tot R k ≤ 2020 * k := by
  intro k
  induction k with
  | zero => intro _; exact Nat.zero_le _
  | succ k ih =>
    intro hk
    have h1 := ih (by omega)
    have h2 := okq_mem h (get_mem' (show k < R.length by omega))
    have h3 : (R.getD k q0).l.length ≤ 20 := (good_goodP h2.1.1).1
    have h4 : (R.getD k q0).s.length ≤ 2000 := (show Smp.GoodP (R.getD k q0).s from of_decide_eq_true h2.2.1).1
    simp only [tot]
    omega
theorem mg_tot {R : List Q} {A B : List Pl} (h : R.map pl = mgL A B) : R.length ≤ 200 ∧ tot R R.length ≤ 1048576 ∧ SmlQ R := by
  have hg := mg_good h
  have h1 := hg.1
  refine ⟨h1, by have := tot_good hg R.length (Nat.le_refl _); omega, fun i hi => ?_⟩
  have h2 := okq_mem hg (get_mem' hi)
  have h3 : (R.getD i q0).l.length ≤ 20 := (good_goodP h2.1.1).1
  have h4 : (R.getD i q0).s.length ≤ 2000 := (show Smp.GoodP (R.getD i q0).s from of_decide_eq_true h2.2.1).1
  exact ⟨by omega, by omega⟩
/-- Two answers to the same question are alike. -/
theorem mg_same {R K : List Q} {A B : List Pl} (h1 : R.map pl = mgL A B) (h2 : K.map pl = mgL A B) : R.length = K.length ∧ Same R.length R K := by
  have e : R.map pl = K.map pl := h1.trans h2.symm
  have hl : R.length = K.length := by simpa using congrArg List.length e
  refine ⟨hl, fun i hi => ?_⟩
  have hk : i < K.length := by omega
  have := congrArg (fun L => L[i]?) e
  simp only [List.getElem?_map, List.getElem?_eq_getElem hi, List.getElem?_eq_getElem hk, Option.map_some, Option.some.injEq] at this
  simp [List.getD_eq_getElem?_getD, hi, hk, this]
end Go.Proofs.Ytailoeloonnoeaa.Srs
/- The walk of FnExactGoodSeries. -/
namespace Go.Proofs.Ytailoeloonnoeaa.Srs
open Go.RowKit
open Go.Proofs.Ytailoeloonnoeaa.Lab (Lb HasL)
open Go.Proofs.Ytailoeloonnoeaa.Smp (Sm HasS)

theorem SameTo.same {n : Nat} {qs d : List Q} (h : SameTo n qs d) : Same n qs d := fun i hi => (h i hi).1
theorem Same.trans {n : Nat} {qs d d' : List Q} (h1 : SameTo n qs d) (h2 : SameTo n qs d') : Same n d d' := fun i hi => (h2 i hi).1.trans (h1 i hi).1.symm
theorem getD_out {qs : List Q} {i : Nat} (h : ¬ i < qs.length) : qs.getD i q0 = q0 := by
  rw [List.getD_eq_getElem?_getD, List.getElem?_eq_none (by omega)]; rfl
theorem FitQ.same {n : Nat} {qs d : List Q} (h : FitQ qs) (h1 : d.length = n) (hs : Same n qs d) : FitQ d := by
  intro i
  by_cases hi : i < n
  · have e := hs i hi
    simp only [pl, Prod.mk.injEq] at e
    have := h i
    unfold Fq at this ⊢
    rw [e.1, e.2]; exact this
  · rw [getD_out (by omega)]; exact fit_q0
theorem SmlQ.same {n : Nat} {qs d : List Q} (h : SmlQ qs) (h0 : qs.length = n) (h1 : d.length = n) (hs : Same n qs d) : SmlQ d := by
  intro i hi
  have e := hs i (by omega)
  simp only [pl, Prod.mk.injEq] at e
  have := h i (by omega)
  rw [e.1, e.2]; exact this
end Go.Proofs.Ytailoeloonnoeaa.Srs
/- Copies of series, answers of series: what every walk over lists of series wants. -/
namespace Go.Proofs.Ytailoeloonnoeaa.Srs
open Go.RowKit
open Go.Proofs.Ytailoeloonnoeaa.Lab (Lb HasL cmpList)
open Go.Proofs.Ytailoeloonnoeaa.Smp (Sm HasS mrg)

theorem tot_same {n : Nat} {qs d : List Q} (h : Same n qs d) : ∀ k, k ≤ n → tot d k = tot qs k := by
  intro k
  induction k with
  | zero => intro _; rfl
  | succ k ih =>
    intro hk
    have e := h k (by omega)
    simp only [pl, Prod.mk.injEq] at e
    simp only [tot]
    rw [ih (by omega), e.1, e.2]
theorem map_pl_same {n : Nat} {qs d : List Q} (h0 : qs.length = n) (h1 : d.length = n) (hs : Same n qs d) : d.map pl = qs.map pl := by
  apply List.ext_getElem?
  intro i
  by_cases hi : i < n
  · have e := hs i hi
    have h2 : qs.getD i q0 = qs[i]'(by omega) := by simp [show i < qs.length by omega]
    have h3 : d.getD i q0 = d[i]'(by omega) := by simp [show i < d.length by omega]
    rw [h2, h3] at e
    simp [show i < qs.length by omega, show i < d.length by omega, e]
  · simp [List.getElem?_eq_none (show qs.length ≤ i by omega), List.getElem?_eq_none (show d.length ≤ i by omega)]
theorem SameTo.room {n : Nat} {qs d : List Q} (h : SameTo n qs d) (h1 : d.length = n) : ∀ q ∈ d, q.d = q.s.length := by
  intro q hq
  obtain ⟨i, hi, rfl⟩ := List.getElem_of_mem hq
  have := (h i (by omega)).2.2
  have e : d.getD i q0 = d[i] := by simp [hi]
  rw [e] at this
  exact this
theorem f9n (k : Nat) (w : World) : Calls Try.prog 9 #[.slice none 0 0, .int .i64 k] w fun e w' => e = .returned (.int .i64 k) ∧ w' = w := by
  go_enter Try.func9, Try.ntmps9
  go_wp2
  go_loopw [1, 5] (fun s i wr => s = .int .i64 k ∧ i = .int .i64 0 ∧ wr = w) (fun _ _ _ => 0)
  case atStart => exact ⟨rfl, rfl, rfl⟩
  case round =>
    obtain ⟨rfl, rfl, rfl⟩ := hrel
    go_wp2
    go_ret
    exact ⟨rfl, rfl⟩
theorem f10n (k : Nat) (w : World) : Calls Try.prog 10 #[.slice none 0 0, .int .i64 k] w fun e w' => e = .returned (.int .i64 k) ∧ w' = w := by
  go_enter Try.func10, Try.ntmps10
  go_wp2
  go_loopw [1, 5] (fun s i wr => s = .int .i64 k ∧ i = .int .i64 0 ∧ wr = w) (fun _ _ _ => 0)
  case atStart => exact ⟨rfl, rfl, rfl⟩
  case round =>
    obtain ⟨rfl, rfl, rfl⟩ := hrel
    go_wp2
    go_ret
    exact ⟨rfl, rfl⟩
theorem OwnO.fr {X Y g n c : Nat} {a : Option Addr} {qs : List Q} {w x : World} (h : OwnO X a n c qs w) (hf : Fr g Y w x) (hY : Y ≤ X) : OwnO X a n c qs x := by
  refine ⟨h.len, ?_, fun i hi => ?_, h.nea, h.dis⟩
  · rcases h.cases with ⟨h1, h2, h3, h4⟩ | ⟨g', h1, h2⟩
    · subst h1 h2 h3 h4; exact World.ownsRow_nil _ _ _ _
    · have hr := h.row
      rw [h1] at hr ⊢
      exact own_fr hr hf (.inr (Nat.le_trans hY (hr.lt g' rfl).1))
  · have ho := h.own i hi
    exact ⟨ho.ha, ho.hb, own_fr ho.lab hf (.inr (Nat.le_trans hY ho.lo.1)), own_fr ho.smp hf (.inr (Nat.le_trans hY ho.lo.2)), ho.ne⟩
theorem fr_below {X Y B : Nat} {w x : World} (h : Fr X Y w x) (hb : B ≤ X) (hs : B ≤ w.heap.size) : Below B w x := ⟨h.os, h.tape, h.output, h.size, fun k hk => h.block k (by omega) (.inl (by omega))⟩
/-- A copy of series is kept where what is written lies beyond it. -/
theorem OwnQ.fr {X g n A B : Nat} {qs : List Q} {w x : World} (h : OwnQ X g n qs w) (hf : Fr A B w x) (hg : B ≤ g) : OwnQ X g n qs x := by
  refine ⟨own_fr h.row hf (.inr hg), h.kin.len, fun i hi => ?_, h.kin.off, h.kin.dis⟩
  have ho := h.kin.own i hi
  have h1 := h.kin.off i hi
  have h2 := ho.lt
  exact ⟨ho.ha, ho.hb, own_fr ho.lab hf (.inr (by omega)), own_fr ho.smp hf (.inr (by omega)), ho.lt⟩
/-- The series that came out, marked or held, nil or not. -/
theorem mark_ans {X n c k : Nat} {a : Option Addr} {R : List Q} {w : World} (h : OwnO X a n c R w) (hb : n ≤ 1048576) (hk : k + 2 * tot R n ≤ 100000000) :
    Calls Try.prog 9 #[.slice a n c, .int .i64 k] w fun e w' => e = .returned (.int .i64 ((k + 2 * tot R n : Nat) : Int)) ∧ OwnO X a n c (mqs k R) w' ∧ Below X w w' := by
  rcases h.cases with ⟨h1, h2, h3, h4⟩ | ⟨g, h1, h2⟩
  · subst h1 h2 h3 h4
    refine (f9n k w).mono ?_
    rintro e w' ⟨rfl, rfl⟩
    exact ⟨rfl, OwnO.nil _ _, Below.refl _ _⟩
  · subst h1
    refine (f9g X g n c k R w hb hk (Nat.le_of_lt (Nat.lt_of_le_of_lt (h2.row.lt g rfl).1 (h2.row.lt g rfl).2)) h2).mono ?_
    rintro e w' ⟨rfl, ho, hbl⟩
    exact ⟨rfl, ⟨ho.len, ho.row, ho.own, fun g' e i hi => by cases e; exact ho.apt.nea i hi, ho.apt.dis⟩, hbl⟩
theorem held_ans {X n c k : Nat} {a : Option Addr} {R : List Q} {w : World} (hn : R.length = n) (h : OwnO X a n c (mqs k R) w) (hb : n ≤ 1048576) (hk : k + 2 * tot R n ≤ 100000000) :
    Calls Try.prog 10 #[.slice a n c, .int .i64 k] w fun e w' => e = .returned (.int .i64 ((k + 2 * tot R n : Nat) : Int)) ∧ Below w.heap.size w w' := by
  rcases h.cases with ⟨h1, h2, h3, h4⟩ | ⟨g, h1, h2⟩
  · subst h1 h2 h3
    refine (f10n k w).mono ?_
    rintro e w' ⟨rfl, rfl⟩
    exact ⟨rfl, Below.refl _ _⟩
  · subst h1
    exact f10 X g n c k R w hn hb hk h2
end Go.Proofs.Ytailoeloonnoeaa.Srs
