/- What is asked over a span of windows is what the samples say, plain. -/
import Derived.Test.YtpbnneelpdacdaaDh
namespace Go.Proofs.Ytpbnneelpdacdaa.Agl
open Go.RowKit
open Go.Proofs.Ytpbnneelpdacdaa.Smp (Sm goodS)

def inS (fr to_ : Int) (p : Sm) : Bool := decide (fr < p.1) && decide (p.1 ≤ to_)
theorem in_same {res fr to_ : Int} {q : Sm} (h1 : 1 ≤ res) (hf : fr % res = 0) (ht : to_ % res = 0) (t : Int) (he : t = en res q.1) : (decide (fr < t) && decide (t ≤ to_)) = inS fr to_ q := by
  have hg := en_ge (res := res) (t := q.1) h1
  have af : fr / res * res = fr := by have := Int.emod_add_mul_ediv fr res; rw [Int.mul_comm] at this; omega
  have at' : to_ / res * res = to_ := by have := Int.emod_add_mul_ediv to_ res; rw [Int.mul_comm] at this; omega
  have l1 : q.1 ≤ fr → en res q.1 ≤ fr := fun h => by
    have := en_least (res := res) (t := q.1) (m := fr / res) h1 (by rw [af]; exact h)
    rw [af] at this; exact this
  have l2 : q.1 ≤ to_ → en res q.1 ≤ to_ := fun h => by
    have := en_least (res := res) (t := q.1) (m := to_ / res) h1 (by rw [at']; exact h)
    rw [at'] at this; exact this
  unfold inS
  rw [he]
  by_cases c1 : q.1 ≤ fr
  · have := l1 c1
    rw [decide_eq_false (show ¬ fr < en res q.1 by omega), decide_eq_false (show ¬ fr < q.1 by omega)]
    rfl
  · by_cases c2 : q.1 ≤ to_
    · have := l2 c2
      rw [decide_eq_true (show fr < en res q.1 by omega), decide_eq_true (show fr < q.1 by omega), decide_eq_true this, decide_eq_true c2]
    · rw [decide_eq_false c2, decide_eq_false (show ¬ en res q.1 ≤ to_ by omega)]
      simp
theorem within_snoc (fr to_ : Int) (M : List Ag) (p : Ag) : within fr to_ (M ++ [p]) = within fr to_ M ++ if inSp fr to_ p = true then [p] else [] := by
  unfold within
  rw [List.filter_append]
  congr 1
  by_cases h : inSp fr to_ p = true
  · simp [h]
  · simp [h]
theorem within_fw {res fr to_ : Int} (h1 : 1 ≤ res) (h2 : res ≤ 1000000) (hf : fr % res = 0) (ht : to_ % res = 0) : ∀ (n : Nat) (P : List Sm), P.length = n → n ≤ 2000 → (∀ p ∈ P, 0 ≤ p.1 ∧ p.1 ≤ 1000000000000) → P.Pairwise (fun p q => p.1 < q.1) → within fr to_ (fw (winOf res) (P.map one)) = fw (winOf res) ((P.filter (inS fr to_)).map one) := by
  intro n
  induction n with
  | zero => intro P hn _ _ _; rw [List.eq_nil_of_length_eq_zero hn]; rfl
  | succ n ih =>
    intro P hn h20 htm hup
    have hok := (fw_ok h1 h2 (n + 1) P hn h20 htm hup).2.1
    rcases snocS P with h | ⟨K, q, rfl⟩
    · rw [h] at hn; simp at hn
    have hq := htm q (by simp)
    have hK := ih K (by simp at hn; omega) (by omega) (fun p hp => htm p (List.mem_append_left _ hp)) (hup.sublist (List.sublist_append_left _ _))
    have hw : winOf res (one q).t = en res q.1 := win_en h1 h2 hq.1 hq.2
    rw [List.map_append, List.map_singleton, fw_snoc] at hok ⊢
    rw [List.filter_append]
    generalize fw (winOf res) (K.map one) = M at *
    have key : ∀ p : Ag, p.t = en res q.1 → inSp fr to_ p = inS fr to_ q := fun p hp => in_same h1 hf ht p.t hp
    by_cases hc : M ≠ [] ∧ (lst M).t = winOf res (one q).t
    · rcases snoc_cases M with h | ⟨M0, m, rfl⟩
      · exact absurd h hc.1
      have hmt : m.t = en res q.1 := by have := hc.2; rw [lst_snoc, hw] at this; exact this
      rw [step_old hc, lst_snoc, set_snoc, within_snoc, key _ (show (mrg m (at_ (winOf res) (one q))).t = en res q.1 from hw)]
      rw [within_snoc, key m hmt] at hK
      by_cases hi : inS fr to_ q = true
      · rw [if_pos hi] at hK ⊢
        rw [show [q].filter (inS fr to_) = [q] by simp [hi], List.map_append, List.map_singleton, fw_snoc, ← hK]
        rw [step_old ⟨by simp, by rw [lst_snoc, hw]; exact hmt⟩, lst_snoc, set_snoc]
      · rw [if_neg hi, List.append_nil] at hK
        rw [if_neg hi, show [q].filter (inS fr to_) = [] by simp [hi], List.append_nil, List.append_nil]
        exact hK
    · rw [step_new hc] at hok ⊢
      rw [within_snoc, key _ (show (at_ (winOf res) (one q)).t = en res q.1 from hw)]
      by_cases hi : inS fr to_ q = true
      · rw [if_pos hi, show [q].filter (inS fr to_) = [q] by simp [hi], List.map_append, List.map_singleton, fw_snoc, ← hK]
        rw [step_new]
        rintro ⟨e1, e2⟩
        rcases snoc_cases (within fr to_ M) with h | ⟨W0, x, hx⟩
        · exact e1 h
        have hxm : x ∈ M := (List.mem_filter.1 (show x ∈ within fr to_ M by rw [hx]; simp)).1
        have hlt := (List.pairwise_append.1 hok).2.2 x hxm _ (List.mem_singleton.2 rfl)
        rw [hx, lst_snoc] at e2
        have : (at_ (winOf res) (one q)).t = winOf res (one q).t := rfl
        omega
      · rw [if_neg hi, show [q].filter (inS fr to_) = [] by simp [hi], List.append_nil, List.append_nil]
        exact hK
theorem cut_real {ls : List Sm} {fr to_ : Int} : real (Smp.cut ls (fr + 1) to_) = (real ls).filter (inS fr to_) := by
  unfold real Smp.cut
  rw [List.filter_filter, List.filter_filter]
  congr 1
  funext p
  unfold inS
  rw [Bool.and_comm]
  congr 1
  rw [Bool.eq_iff_iff]
  simp
  omega
/-- Over spans of windows AggOver says what SampleOver does. -/
theorem over_same {res fr to_ o : Int} {ls : List Sm} (hg : goodS ls = true) (hr : Rr (real ls)) (h1 : 1 ≤ res) (h2 : res ≤ 1000000) (hf0 : 0 ≤ fr) (hf : fr % res = 0) (ht : to_ % res = 0) (hft : fr ≤ to_) (hto : to_ ≤ 1000000000000) : aggOv res (fw (winOf res) (ones ls)) fr to_ o = smpOv ls fr to_ o := by
  have hgood := good_fw h1 h2 hr
  have hsp : SpanP fr to_ := ⟨by omega, hft, hto⟩
  have e1 : aggOv res (fw (winOf res) (ones ls)) fr to_ o = telM o (allM (within fr to_ (fw (winOf res) (ones ls)))) := if_pos ⟨hgood, hsp, fun _ => hf, by rw [Int.tmod_eq_emod_of_nonneg (by omega)]; exact ht⟩
  have e2 : smpOv ls fr to_ o = telM o (allM (ones (Smp.cut ls (fr + 1) to_))) := if_pos ⟨hg, hsp⟩
  have hl : (ones (Smp.cut ls (fr + 1) to_)).length ≤ 2000 := by
    unfold ones
    rw [List.length_map, cut_real]
    exact Nat.le_trans (List.length_filter_le _ _) hr.len
  rw [e1, e2, ← (tel_all o (within_n hgood).2 (within_n hgood).1).2, ← (tel_all o (ones_n _) hl).2]
  have e3 : within fr to_ (fw (winOf res) (ones ls)) = fw (winOf res) (ones (Smp.cut ls (fr + 1) to_)) := by
    have := within_fw h1 h2 hf ht (real ls).length (real ls) rfl hr.len hr.tm hr.up
    unfold ones
    rw [cut_real]
    exact this
  rw [e3, fw_fw _ _ rfl (fun _ _ => rfl)]
end Go.Proofs.Ytpbnneelpdacdaa.Agl
