/- Copies of series and of needs, answers of series: what the walk of FnExactTrimSeries wants. -/
import Derived.Test.YtaekngadfajcaaaGreatRTrd
import Derived.Test.YtaekngadfajcaaaGreatRXh
import Derived.Test.YtaekngadfajcaaaGreatRXd
import Derived.Test.YtaekngadfajcaaaGreatRMK
namespace Go.Proofs.YtaekngadfajcaaaGreat.Srs
open Go.RowKit
open Go.Proofs.YtaekngadfajcaaaGreat.Lab (Lb HasL OfV cmpList)
open Go.Proofs.YtaekngadfajcaaaGreat.Smp (Sm HasS)

theorem has_of (ls : List Lb) (x : ByteArray) : ∃ v, OfV ls x v := by
  by_cases h : ∃ k, k < ls.length ∧ (ls.getD k Lab.e0).1 = x
  · have key : ∀ n, (∃ k, k < n ∧ k < ls.length ∧ (ls.getD k Lab.e0).1 = x) → ∃ v, OfV ls x v := by
      intro n
      induction n with
      | zero => rintro ⟨k, h, _⟩; omega
      | succ n ih =>
        rintro ⟨k, h1, h2, h3⟩
        by_cases g : ∃ j, j < n ∧ j < ls.length ∧ (ls.getD j Lab.e0).1 = x
        · exact ih g
        · refine ⟨(ls.getD k Lab.e0).2, .inl ⟨k, h2, h3, rfl, fun i hi e => g ⟨i, by omega, by omega, e⟩⟩⟩
    obtain ⟨k, h1, h2⟩ := h
    exact key (k + 1) ⟨k, by omega, h1, h2⟩
  · exact ⟨ByteArray.empty, .inr ⟨fun k hk e => h ⟨k, hk, e⟩, rfl⟩⟩
theorem vals : ∃ val : Vf, ∀ ls x, OfV ls x (val ls x) := ⟨fun ls x => Classical.choose (has_of ls x), fun ls x => Classical.choose_spec (has_of ls x)⟩
def totP (L : List Pl) : Nat := (L.map fun p => p.1.length + p.2.length).sum
theorem totP_append (A B : List Pl) : totP (A ++ B) = totP A + totP B := by simp [totP]
theorem tot_map : ∀ (R : List Q), tot R R.length = totP (R.map pl) := by
  intro R
  have key : ∀ k, k ≤ R.length → tot R k = totP ((R.take k).map pl) := by
    intro k
    induction k with
    | zero => intro _; rfl
    | succ k ih =>
      intro hk
      rw [tot, ih (by omega), List.take_succ_eq_append_getElem (by omega), List.map_append, totP_append]
      have e : R.getD k q0 = R[k] := by simp [show k < R.length by omega]
      rw [e]
      simp [totP, pl]
      omega
  rw [key R.length (Nat.le_refl _), List.take_length]
theorem same_map {R R' : List Q} {L : List Pl} (h : R.map pl = L) (h' : R'.map pl = L) : R'.length = R.length ∧ Same R.length R R' := by
  have hl : R'.length = R.length := by rw [sel_len h, sel_len h']
  refine ⟨hl, fun i hi => ?_⟩
  have e1 : (R.map pl)[i]? = (R'.map pl)[i]? := by rw [h, h']
  have g1 : R.getD i q0 = R[i] := by simp [hi]
  have g2 : R'.getD i q0 = R'[i]'(by omega) := by simp [show i < R'.length by omega]
  rw [g1, g2]
  simpa [hi, show i < R'.length by omega] using e1.symm
theorem tot_same {n : Nat} {qs d : List Q} (h : Same n qs d) : ∀ k, k ≤ n → tot d k = tot qs k := by
  intro k
  induction k with
  | zero => intro _; rfl
  | succ k ih =>
    intro hk
    have e := h k (by omega)
    simp only [pl, Prod.mk.injEq] at e
    simp only [tot]
    rw [ih (by omega), e.1, e.2]
theorem map_pl_same {n : Nat} {qs d : List Q} (h0 : qs.length = n) (h1 : d.length = n) (hs : Same n qs d) : d.map pl = qs.map pl := by
  apply List.ext_getElem?
  intro i
  by_cases hi : i < n
  · have e := hs i hi
    have h2 : qs.getD i q0 = qs[i]'(by omega) := by simp [show i < qs.length by omega]
    have h3 : d.getD i q0 = d[i]'(by omega) := by simp [show i < d.length by omega]
    rw [h2, h3] at e
    simp [show i < qs.length by omega, show i < d.length by omega, e]
  · simp [List.getElem?_eq_none (show qs.length ≤ i by omega), List.getElem?_eq_none (show d.length ≤ i by omega)]
theorem f12n (k : Nat) (w : World) : Calls Tryz.prog 12 #[.slice none 0 0, .int .i64 k] w fun e w' => e = .returned (.int .i64 k) ∧ w' = w := by
  go_enter Tryz.func12, Tryz.ntmps12
  go_wp2
  go_loopw [1, 5] (fun s i wr => s = .int .i64 k ∧ i = .int .i64 0 ∧ wr = w) (fun _ _ _ => 0)
  case atStart => exact ⟨rfl, rfl, rfl⟩
  case round =>
    obtain ⟨rfl, rfl, rfl⟩ := hrel
    go_wp2
    go_ret
    exact ⟨rfl, rfl⟩
theorem f14n (k : Nat) (w : World) : Calls Tryz.prog 14 #[.slice none 0 0, .int .i64 k] w fun e w' => e = .returned (.int .i64 k) ∧ w' = w := by
  go_enter Tryz.func14, Tryz.ntmps14
  go_wp2
  go_loopw [1, 5] (fun s i wr => s = .int .i64 k ∧ i = .int .i64 0 ∧ wr = w) (fun _ _ _ => 0)
  case atStart => exact ⟨rfl, rfl, rfl⟩
  case round =>
    obtain ⟨rfl, rfl, rfl⟩ := hrel
    go_wp2
    go_ret
    exact ⟨rfl, rfl⟩
theorem OwnO.fr {X Y g n c : Nat} {a : Option Addr} {qs : List Q} {w x : World} (h : OwnO X a n c qs w) (hf : Fr g Y w x) (hY : Y ≤ X) : OwnO X a n c qs x := by
  refine ⟨h.len, ?_, fun i hi => ?_, h.nea, h.dis⟩
  · rcases h.cases with ⟨h1, h2, h3, h4⟩ | ⟨g', h1, h2⟩
    · subst h1 h2 h3 h4; exact World.ownsRow_nil _ _ _ _
    · have hr := h.row
      rw [h1] at hr ⊢
      exact own_fr hr hf (.inr (Nat.le_trans hY (hr.lt g' rfl).1))
  · have ho := h.own i hi
    exact ⟨ho.ha, ho.hb, own_fr ho.lab hf (.inr (Nat.le_trans hY ho.lo.1)), own_fr ho.smp hf (.inr (Nat.le_trans hY ho.lo.2)), ho.ne⟩
theorem fr_below {X Y B : Nat} {w x : World} (h : Fr X Y w x) (hb : B ≤ X) (hs : B ≤ w.heap.size) : Below B w x := ⟨h.os, h.tape, h.output, h.size, fun k hk => h.block k (by omega) (.inl (by omega))⟩
/-- A copy of series is kept where what is written lies beyond it. -/
theorem OwnQ.fr {X g n A B : Nat} {qs : List Q} {w x : World} (h : OwnQ X g n qs w) (hf : Fr A B w x) (hg : B ≤ g) : OwnQ X g n qs x := by
  refine ⟨own_fr h.row hf (.inr hg), h.kin.len, fun i hi => ?_, h.kin.off, h.kin.dis⟩
  have ho := h.kin.own i hi
  have h1 := h.kin.off i hi
  have h2 := ho.lt
  exact ⟨ho.ha, ho.hb, own_fr ho.lab hf (.inr (by omega)), own_fr ho.smp hf (.inr (by omega)), ho.lt⟩
/-- The series that came out, marked or held, nil or not. -/
theorem mark_ans {X n c k : Nat} {a : Option Addr} {R : List Q} {w : World} (h : OwnO X a n c R w) (hb : n ≤ 1048576) (hk : k + 2 * tot R n ≤ 100000000) :
    Calls Tryz.prog 12 #[.slice a n c, .int .i64 k] w fun e w' => e = .returned (.int .i64 ((k + 2 * tot R n : Nat) : Int)) ∧ OwnO X a n c (mqs k R) w' ∧ Below X w w' := by
  rcases h.cases with ⟨h1, h2, h3, h4⟩ | ⟨g, h1, h2⟩
  · subst h1 h2 h3 h4
    refine (f12n k w).mono ?_
    rintro e w' ⟨rfl, rfl⟩
    exact ⟨rfl, OwnO.nil _ _, Below.refl _ _⟩
  · subst h1
    refine (f12g X g n c k R w hb hk (Nat.le_of_lt (Nat.lt_of_le_of_lt (h2.row.lt g rfl).1 (h2.row.lt g rfl).2)) h2).mono ?_
    rintro e w' ⟨rfl, ho, hbl⟩
    exact ⟨rfl, ⟨ho.len, ho.row, ho.own, fun g' e i hi => by cases e; exact ho.apt.nea i hi, ho.apt.dis⟩, hbl⟩
theorem held_ans {X n c k : Nat} {a : Option Addr} {R : List Q} {w : World} (hn : R.length = n) (h : OwnO X a n c (mqs k R) w) (hb : n ≤ 1048576) (hk : k + 2 * tot R n ≤ 100000000) :
    Calls Tryz.prog 14 #[.slice a n c, .int .i64 k] w fun e w' => e = .returned (.int .i64 ((k + 2 * tot R n : Nat) : Int)) ∧ Below w.heap.size w w' := by
  rcases h.cases with ⟨h1, h2, h3, h4⟩ | ⟨g, h1, h2⟩
  · subst h1 h2 h3
    refine (f14n k w).mono ?_
    rintro e w' ⟨rfl, rfl⟩
    exact ⟨rfl, Below.refl _ _⟩
  · subst h1
    exact f14 X g n c k R w hn hb hk h2
end Go.Proofs.YtaekngadfajcaaaGreat.Srs
namespace Go.Proofs.YtaekngadfajcaaaGreat.Ned
open Go.RowKit
open Go.Proofs.YtaekngadfajcaaaGreat.Srs (Fr own_fr)

theorem SameTo.same {n : Nat} {ts d : List T} (h : SameTo n ts d) : Same n ts d := fun i hi => (h i hi).1
theorem Same.two {n : Nat} {ts d e : List T} (h : SameTo n ts d) (g : SameTo n ts e) : Same n d e := fun i hi => (g i hi).1.trans (h i hi).1.symm
theorem pl_parts {p q : T} (h : pl p = pl q) : p.l = q.l ∧ p.f = q.f ∧ p.t = q.t := by
  simp only [pl, Prod.mk.injEq] at h; exact h
theorem FitT.same {n : Nat} {ts d : List T} (h : FitT ts) (hd : d.length = n) (hs : Same n ts d) : FitT d := by
  intro i
  by_cases hi : i < n
  · obtain ⟨e1, e2, e3⟩ := pl_parts (hs i hi)
    have := h i
    unfold Ft at this ⊢
    rw [e1, e2, e3]; exact this
  · have : d.getD i t0 = t0 := by rw [List.getD_eq_getElem?_getD, List.getElem?_eq_none (by omega)]; rfl
    rw [this]; exact fit_t0
theorem SmlT.same {n : Nat} {ts d : List T} (h : SmlT ts) (hn : ts.length = n) (hd : d.length = n) (hs : Same n ts d) : SmlT d := by
  intro i hi
  obtain ⟨e1, _, _⟩ := pl_parts (hs i (by omega))
  rw [e1]; exact h i (by omega)
theorem tot_same {n : Nat} {ts d : List T} (h : Same n ts d) : ∀ k, k ≤ n → tot d k = tot ts k := by
  intro k
  induction k with
  | zero => intro _; rfl
  | succ k ih =>
    intro hk
    obtain ⟨e1, _, _⟩ := pl_parts (h k (by omega))
    simp only [tot]
    rw [ih (by omega), e1]
theorem map_pl_same {n : Nat} {qs d : List T} (h0 : qs.length = n) (h1 : d.length = n) (hs : Same n qs d) : d.map pl = qs.map pl := by
  apply List.ext_getElem?
  intro i
  by_cases hi : i < n
  · have e := hs i hi
    have h2 : qs.getD i t0 = qs[i]'(by omega) := by simp [show i < qs.length by omega]
    have h3 : d.getD i t0 = d[i]'(by omega) := by simp [show i < d.length by omega]
    rw [h2, h3] at e
    simp [show i < qs.length by omega, show i < d.length by omega, e]
  · simp [List.getElem?_eq_none (show qs.length ≤ i by omega), List.getElem?_eq_none (show d.length ≤ i by omega)]
theorem OwnT.fr {X g n A B : Nat} {ts : List T} {w x : World} (h : OwnT X g n ts w) (hf : Fr A B w x) (hg : B ≤ g) : OwnT X g n ts x := by
  refine ⟨own_fr h.row hf (.inr hg), h.kin.len, fun i hi => ?_, h.kin.off, h.kin.dis⟩
  have ho := h.kin.own i hi
  have h1 := h.kin.off i hi
  exact ⟨ho.ha, own_fr ho.lab hf (.inr (by omega))⟩
end Go.Proofs.YtaekngadfajcaaaGreat.Ned
namespace Go.Proofs.YtaekngadfajcaaaGreat.Trm
open Go.RowKit
open Go.Proofs.YtaekngadfajcaaaGreat.Srs (Q q0 Vf gdQ GoodQ pl totP totP_append tot tot_map Same SmlQ sml_tot)
open Go.Proofs.YtaekngadfajcaaaGreat.Smp (Sm)

theorem trL_same {val : Vf} {ps : List Ned.Pl} {n : Nat} {qs d : List Q} (h : Same n qs d) : ∀ k, k ≤ n → trL val ps d k = trL val ps qs k := by
  intro k
  induction k with
  | zero => intro _; rfl
  | succ k ih => intro hk; simp only [trL]; rw [ih (by omega), h k (by omega)]
theorem trF_same {val : Vf} {ps : List Ned.Pl} {n : Nat} {qs d : List Q} (h0 : qs.length = n) (h1 : d.length = n) (h : Same n qs d) : trF val d ps = trF val qs ps := by
  unfold trF
  rw [Srs.gdQ_congr h0 h1 h, h0, h1, trL_same h n (Nat.le_refl _)]
theorem hit_tot (val : Vf) (ps : List Ned.Pl) (q : Srs.Pl) : totP (hit val ps q) ≤ q.1.length + q.2.length := by
  unfold hit
  split
  · exact Nat.zero_le _
  · have := trS_len (val q.1) ps q.2
    simp [totP]; omega
theorem trL_tot (val : Vf) (ps : List Ned.Pl) (qs : List Q) : ∀ k, totP (trL val ps qs k) ≤ tot qs k
  | 0 => Nat.le_refl _
  | k + 1 => by
    have h1 := trL_tot val ps qs k
    have h2 := hit_tot val ps (pl (qs.getD k q0))
    simp only [trL, totP_append, tot]
    simp only [pl] at h2 ⊢
    omega
theorem trF_tot (val : Vf) (ps : List Ned.Pl) (qs : List Q) : totP (trF val qs ps) ≤ tot qs qs.length := by
  unfold trF
  split
  · exact trL_tot val ps qs _
  · exact Nat.zero_le _
theorem trF_len (val : Vf) (ps : List Ned.Pl) (qs : List Q) : (trF val qs ps).length ≤ 200 := by
  unfold trF
  split
  · rename_i h; exact Nat.le_trans (trL_len val ps qs _) (Srs.gdQ_iff.1 h.1).1
  · simp
/-- How great an answer is. -/
theorem ans_tot {val : Vf} {ps : List Ned.Pl} {qs R : List Q} (h : R.map pl = trF val qs ps) (ht : tot qs qs.length ≤ 1048576) : R.length ≤ 200 ∧ tot R R.length ≤ 1048576 ∧ SmlQ R := by
  have h1 : tot R R.length ≤ 1048576 := by rw [tot_map, h]; exact Nat.le_trans (trF_tot _ _ _) ht
  exact ⟨by rw [sel_len h]; exact trF_len _ _ _, h1, sml_tot h1⟩
end Go.Proofs.YtaekngadfajcaaaGreat.Trm
