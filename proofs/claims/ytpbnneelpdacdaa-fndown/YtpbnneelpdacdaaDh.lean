/- What DownSamples gives is good, plain. -/
import Derived.Test.YtpbnneelpdacdaaDg
namespace Go.Proofs.Ytpbnneelpdacdaa.Agl
open Go.RowKit
open Go.Proofs.Ytpbnneelpdacdaa.Smp (Sm)

structure OkM (res : Int) (c : Nat) (p : Ag) : Prop where
  t0 : 0 ≤ p.t
  t1 : p.t ≤ 1000001000000
  t2 : p.t % res = 0
  n0 : 1 ≤ p.n
  n1 : p.n ≤ (c : Int)
  a1 : p.mi ≤ p.f
  a2 : p.mi ≤ p.l
  a3 : p.f ≤ p.ma
  a4 : p.l ≤ p.ma
theorem en_mod (res t : Int) : en res t % res = 0 := by unfold en; exact Int.mul_emod_left _ _
theorem en_mono {res a b : Int} (h : 1 ≤ res) (hab : a ≤ b) : en res a ≤ en res b := by
  unfold en
  exact Int.mul_le_mul_of_nonneg_right (Int.ediv_le_ediv (by omega) (by omega)) (by omega)
theorem snocS (L : List Sm) : L = [] ∨ ∃ K p, L = K ++ [p] := by
  rcases List.eq_nil_or_concat L with h | ⟨K, p, h⟩
  · exact .inl h
  · exact .inr ⟨K, p, by rw [h, List.concat_eq_append]⟩
def lastP (P : List Sm) : Sm := P.getD (P.length - 1) Smp.e0
theorem lastP_snoc (K : List Sm) (q : Sm) : lastP (K ++ [q]) = q := by simp [lastP]
theorem fw_ok {res : Int} (h1 : 1 ≤ res) (h2 : res ≤ 1000000) : ∀ (n : Nat) (P : List Sm), P.length = n → n ≤ 2000 → (∀ p ∈ P, 0 ≤ p.1 ∧ p.1 ≤ 1000000000000) → P.Pairwise (fun p q => p.1 < q.1) → (∀ p ∈ fw (winOf res) (P.map one), OkM res n p) ∧ (fw (winOf res) (P.map one)).Pairwise (fun p q => p.t < q.t) ∧ (P ≠ [] → fw (winOf res) (P.map one) ≠ [] ∧ (lst (fw (winOf res) (P.map one))).t = en res (lastP P).1) := by
  intro n
  induction n with
  | zero => intro P hn _ _ _; rw [List.eq_nil_of_length_eq_zero hn]; exact ⟨fun p hp => by simp [fw] at hp, List.Pairwise.nil, fun h => absurd rfl h⟩
  | succ n ih =>
    intro P hn h20 ht hup
    rcases snocS P with h | ⟨K, q, rfl⟩
    · rw [h] at hn; simp at hn
    have hKn : K.length = n := by simp at hn; omega
    have hq := ht q (by simp)
    have hupK : K.Pairwise (fun p q => p.1 < q.1) := hup.sublist (List.sublist_append_left _ _)
    have hKq : ∀ p ∈ K, p.1 < q.1 := fun p hp => (List.pairwise_append.1 hup).2.2 p hp q (by simp)
    obtain ⟨i1, i2, i3⟩ := ih K hKn (by omega) (fun p hp => ht p (List.mem_append_left _ hp)) hupK
    have hw : winOf res (one q).t = en res q.1 := win_en h1 h2 hq.1 hq.2
    have hg1 := en_ge (res := res) (t := q.1) h1
    have hg2 := en_lt (res := res) (t := q.1) h1
    have hmod := en_mod res q.1
    rw [List.map_append, List.map_singleton, fw_snoc, lastP_snoc]
    have hMK : fw (winOf res) (K.map one) ≠ [] → K ≠ [] := fun h e => by rw [e] at h; exact h rfl
    have hE : fw (winOf res) (K.map one) ≠ [] → (lst (fw (winOf res) (K.map one))).t ≤ en res q.1 := fun h => by
      rw [(i3 (hMK h)).2]
      refine en_mono h1 ?_
      rcases snocS K with e | ⟨K', r, e⟩
      · exact absurd e (hMK h)
      · have := hKq r (by rw [e]; simp)
        rw [e, lastP_snoc]
        omega
    generalize fw (winOf res) (K.map one) = M at *
    generalize en res q.1 = E at *
    have up : ∀ p, OkM res n p → OkM res (n + 1) p := fun p h => ⟨h.t0, h.t1, h.t2, h.n0, by have := h.n1; omega, h.a1, h.a2, h.a3, h.a4⟩
    by_cases hc : M ≠ [] ∧ (lst M).t = winOf res (one q).t
    · rcases snoc_cases M with h | ⟨M0, m, rfl⟩
      · exact absurd h hc.1
      have hm := i1 m (by simp)
      have hmt : m.t = E := by have := hc.2; rw [lst_snoc, hw] at this; exact this
      rw [step_old hc, lst_snoc, set_snoc]
      have hx : (mrg m (at_ (winOf res) (one q))).t = E := hw
      have hok : OkM res (n + 1) (mrg m (at_ (winOf res) (one q))) := by
        have hn1 := hm.n1
        have hn0 := hm.n0
        have b1 := hm.a1
        have b2 := hm.a2
        have b3 := hm.a3
        have b4 := hm.a4
        refine ⟨by rw [hx]; omega, by rw [hx]; omega, by rw [hx]; exact hmod, ?_, ?_, ?_, ?_, ?_, ?_⟩
        · show 1 ≤ wrap64 (m.n + 1)
          unfold wrap64; omega
        · show wrap64 (m.n + 1) ≤ ((n + 1 : Nat) : Int)
          unfold wrap64; omega
        · show min m.mi q.2 ≤ m.f
          omega
        · show min m.mi q.2 ≤ q.2
          omega
        · show m.f ≤ max m.ma q.2
          omega
        · show q.2 ≤ max m.ma q.2
          omega
      refine ⟨fun p hp => ?_, ?_, fun _ => ⟨by simp, by rw [lst_snoc]; exact hx⟩⟩
      · rcases List.mem_append.1 hp with h | h
        · exact up p (i1 p (List.mem_append_left _ h))
        · rw [List.mem_singleton.1 h]; exact hok
      · rw [List.pairwise_append] at i2 ⊢
        refine ⟨i2.1, List.pairwise_singleton _ _, fun p hp b hb => ?_⟩
        rw [List.mem_singleton.1 hb, hx, ← hmt]
        exact i2.2.2 p hp m (by simp)
    · rw [step_new hc]
      have hx : (at_ (winOf res) (one q)).t = E := hw
      have hok : OkM res (n + 1) (at_ (winOf res) (one q)) := by
        refine ⟨by rw [hx]; omega, by rw [hx]; omega, by rw [hx]; exact hmod, ?_, ?_, ?_, ?_, ?_, ?_⟩
        · show (1 : Int) ≤ 1
          omega
        · show (1 : Int) ≤ ((n + 1 : Nat) : Int)
          omega
        · exact Int.le_refl q.2
        · exact Int.le_refl q.2
        · exact Int.le_refl q.2
        · exact Int.le_refl q.2
      refine ⟨fun p hp => ?_, ?_, fun _ => ⟨by simp, by rw [lst_snoc]; exact hx⟩⟩
      · rcases List.mem_append.1 hp with h | h
        · exact up p (i1 p h)
        · rw [List.mem_singleton.1 h]; exact hok
      · rw [List.pairwise_append]
        refine ⟨i2, List.pairwise_singleton _ _, fun p hp b hb => ?_⟩
        rw [List.mem_singleton.1 hb, hx]
        rcases snoc_cases M with h | ⟨M0, m, rfl⟩
        · rw [h] at hp; simp at hp
        have hle := hE (by simp)
        have hne : m.t ≠ E := fun e => hc ⟨by simp, by rw [lst_snoc, hw]; exact e⟩
        rw [lst_snoc] at hle
        rcases List.mem_append.1 hp with h | h
        · have := (List.pairwise_append.1 i2).2.2 p h m (by simp)
          omega
        · rw [List.mem_singleton.1 h]; omega
theorem good_fw {res : Int} {ls : List Sm} (h1 : 1 ≤ res) (h2 : res ≤ 1000000) (hr : Rr (real ls)) : goodA res (fw (winOf res) (ones ls)) = true := by
  obtain ⟨i1, i2, _⟩ := fw_ok h1 h2 (real ls).length (real ls) rfl hr.len hr.tm hr.up
  have e : (real ls).map one = ones ls := rfl
  rw [e] at i1 i2
  have hl : (fw (winOf res) (ones ls)).length ≤ 2000 := Nat.le_trans (fw_len _ _) (by rw [← e, List.length_map]; exact hr.len)
  have hrl := hr.len
  generalize fw (winOf res) (ones ls) = M at *
  refine decide_eq_true ⟨⟨h1, h2⟩, hl, fun i hi => ?_⟩
  have hg : M.getD i a0 = M[i] := by simp [hi]
  have ho := i1 (M.getD i a0) (by rw [hg]; exact List.getElem_mem _)
  refine ⟨⟨ho.t0, ho.t1, ho.t2, fun h => ?_⟩, ho.n0, by have := ho.n1; omega, ho.a1, ho.a2, ho.a3, ho.a4⟩
  have hg2 : M.getD (i - 1) a0 = M[i - 1]'(by omega) := by simp [show i - 1 < M.length by omega]
  rw [hg, hg2]
  exact List.pairwise_iff_getElem.1 i2 (i - 1) i (by omega) hi (by omega)
end Go.Proofs.Ytpbnneelpdacdaa.Agl
