/- Two lists told as one source would: what is told is theirs, rises, and passes nothing by. -/
import Derived.Test.YtfmijboakipooaaDde
import Derived.Test.YtfmijboakipooaaUc
namespace Go.Proofs.Ytfmijboakipooaa.Smp
open Go.RowKit

theorem sp_tail {p : Sm} {L : List Sm} (h : SP (p :: L)) : SP L := (List.pairwise_cons.1 h).2
theorem sp_head {p : Sm} {L : List Sm} (h : SP (p :: L)) : ∀ q ∈ L, p.1 < q.1 := (List.pairwise_cons.1 h).1
theorem bh_pw {t : Int} : ∀ {L}, SP L → SP (bh t L)
  | [], h => h
  | q :: L, h => by
    by_cases h1 : q.1 ≤ t
    · rw [bh_go h1]; exact bh_pw (sp_tail h)
    · rw [bh_stop h1]; exact h
theorem bh_all {t : Int} : ∀ {L}, SP L → ∀ q ∈ bh t L, t < q.1
  | [], _, q, hq => by cases hq
  | p :: L, h, q, hq => by
    by_cases h1 : p.1 ≤ t
    · rw [bh_go h1] at hq; exact bh_all (sp_tail h) q hq
    · rw [bh_stop h1] at hq
      rcases List.mem_cons.1 hq with rfl | hq
      · omega
      · have := sp_head h q hq; omega
theorem bh_in {t : Int} : ∀ {L}, SP L → ∀ q ∈ L, t < q.1 → q ∈ bh t L
  | [], _, q, hq, _ => by cases hq
  | p :: L, h, q, hq, ht => by
    by_cases h1 : p.1 ≤ t
    · rw [bh_go h1]
      rcases List.mem_cons.1 hq with rfl | hq
      · omega
      · exact bh_in (sp_tail h) q hq ht
    · rw [bh_stop h1]; exact hq
theorem D_self (gap : Int) : ∀ (L : List Sm) (last : Int), SP L → D gap last L L = L := by
  intro L
  induction L with
  | nil => intro last _; exact D_nil _ _
  | cons p L ih =>
    intro last h
    rw [D_stay (by simp [sw]), bh_rise h, ih _ (sp_tail h)]
theorem dedT_self {gap : Int} {L : List Sm} (h : SP L) : dedT gap L L = L := by
  cases L with
  | nil => rfl
  | cons p L =>
    rw [dedT_no (by simp [dgo])]
    exact D_self _ _ _ h
/-- Nothing of both lists is passed by, where more than gap goes by. -/
def Chn (gap : Int) (A B : List Sm) : Int → List Sm → Prop
  | _, [] => True
  | last, p :: d => last < p.1 ∧ (p ∈ A ∨ p ∈ B) ∧ (last + gap < p.1 → ∀ q, q ∈ A ∨ q ∈ B → ¬ (last < q.1 ∧ q.1 < p.1)) ∧ Chn gap A B p.1 d
theorem chn_dd {gap : Int} {A B : List Sm} (hA : SP A) (hB : SP B) : ∀ (n : Nat) (last : Int), Chn gap A B last (dd gap n last (bh last A) (bh last B)) ∧ Chn gap A B last (dd gap n last (bh last B) (bh last A)) := by
  intro n
  induction n with
  | zero => intro last; exact ⟨trivial, trivial⟩
  | succ n ih =>
    have key : ∀ (X Y : List Sm), SP X → SP Y → (∀ q, (q ∈ A ∨ q ∈ B) ↔ (q ∈ X ∨ q ∈ Y)) → (∀ last, Chn gap A B last (dd gap n last (bh last X) (bh last Y))) → (∀ last, Chn gap A B last (dd gap n last (bh last Y) (bh last X))) → ∀ last, Chn gap A B last (dd gap (n + 1) last (bh last X) (bh last Y)) := by
      intro X Y hX hY hm ih1 ih2 last
      rcases sw_cases gap last (bh last X) (bh last Y) with ⟨h1, h2⟩ | ⟨p, G, hp, hs⟩ | ⟨p, G, hp, hs⟩
      · rw [h1, h2, dd_nil]; trivial
      · have hlt := bh_head hp
        have hpx : p ∈ bh last X := by rw [hp]; exact List.mem_cons_self
        have hrest : dd gap (n + 1) last (bh last X) (bh last Y) = p :: dd gap n p.1 (bh p.1 X) (bh p.1 Y) := by
          have e1 : bh p.1 G = bh p.1 X := by rw [← bh_bh (Int.le_of_lt hlt) X, hp, bh_go (Int.le_refl _)]
          rw [hp] at hs ⊢
          rw [dd_stay hs, e1, bh_bh (Int.le_of_lt hlt)]
        rw [hrest]
        refine ⟨hlt, (hm p).2 (.inl (bh_mem hpx)), fun hg q hq hbt => ?_, ih1 _⟩
        rcases (hm q).1 hq with hq | hq
        · have hq2 := bh_in hX q hq hbt.1
          rw [hp] at hq2
          have hpw : SP (p :: G) := by rw [← hp]; exact bh_pw hX
          rcases List.mem_cons.1 hq2 with rfl | h3
          · omega
          · have := sp_head hpw q h3; omega
        · have hq2 := bh_in hY q hq hbt.1
          cases hy : bh last Y with
          | nil => rw [hy] at hq2; cases hq2
          | cons y Y' =>
            rw [hy] at hq2
            have hpw : SP (y :: Y') := by rw [← hy]; exact bh_pw hY
            have hyq : y.1 ≤ q.1 := by
              rcases List.mem_cons.1 hq2 with rfl | h3
              · exact Int.le_refl _
              · exact Int.le_of_lt (sp_head hpw q h3)
            rw [hp, hy] at hs
            simp [sw] at hs
            have := hs (by omega)
            omega
      · have hlt := bh_head hp
        have hpx : p ∈ bh last Y := by rw [hp]; exact List.mem_cons_self
        have hrest : dd gap (n + 1) last (bh last X) (bh last Y) = p :: dd gap n p.1 (bh p.1 Y) (bh p.1 X) := by
          have e1 : bh p.1 G = bh p.1 Y := by rw [← bh_bh (Int.le_of_lt hlt) Y, hp, bh_go (Int.le_refl _)]
          rw [hp] at hs ⊢
          rw [dd_swap hs, e1, bh_bh (Int.le_of_lt hlt)]
        rw [hrest]
        refine ⟨hlt, (hm p).2 (.inr (bh_mem hpx)), fun hg q hq hbt => ?_, ih2 _⟩
        rcases (hm q).1 hq with hq | hq
        · have hq2 := bh_in hX q hq hbt.1
          cases hx : bh last X with
          | nil => rw [hx] at hq2; cases hq2
          | cons x X' =>
            rw [hx] at hq2
            have hpw : SP (x :: X') := by rw [← hx]; exact bh_pw hX
            have hxq : x.1 ≤ q.1 := by
              rcases List.mem_cons.1 hq2 with rfl | h3
              · exact Int.le_refl _
              · exact Int.le_of_lt (sp_head hpw q h3)
            rw [hp, hx] at hs
            simp [sw] at hs
            omega
        · have hq2 := bh_in hY q hq hbt.1
          rw [hp] at hq2
          have hpw : SP (p :: G) := by rw [← hp]; exact bh_pw hY
          rcases List.mem_cons.1 hq2 with rfl | h3
          · omega
          · have := sp_head hpw q h3; omega
    intro last
    exact ⟨key A B hA hB (fun q => Iff.rfl) (fun l => (ih l).1) (fun l => (ih l).2) last, key B A hB hA (fun q => Or.comm) (fun l => (ih l).2) (fun l => (ih l).1) last⟩
theorem bh_below {t : Int} {L : List Sm} (h : ∀ p ∈ L, t < p.1) : bh t L = L := by
  cases L with
  | nil => rfl
  | cons p L => rw [bh_stop (by have := h p List.mem_cons_self; omega)]
theorem dedT_yesl {gap : Int} {xs ys : List Sm} (last : Int) (hy : SP ys) (h : dgo xs ys = true) : dedT gap xs ys = D gap last ys xs := by
  cases xs with
  | nil =>
    rw [D_alone gap ys last hy]; cases ys <;> rfl
  | cons x X =>
    cases ys with
    | nil => simp [dgo] at h
    | cons y Y =>
      have h1 : y.1 < x.1 := by simpa [dgo] using h
      rw [D_stay (by simp [sw]; intro; omega)]
      simp [dedT, h1]
theorem dedT_nol {gap : Int} {xs ys : List Sm} (last : Int) (h : dgo xs ys = false) : dedT gap xs ys = D gap last xs ys := by
  cases xs with
  | nil => simp [dgo] at h
  | cons x X =>
    cases ys with
    | nil => rw [D_stay (by simp [sw])]; rfl
    | cons y Y =>
      have h1 : ¬ y.1 < x.1 := by simpa [dgo] using h
      rw [D_stay (by simp [sw]; intro; omega)]
      simp [dedT, h1]
theorem chn_dedT {gap : Int} {xs ys : List Sm} (hx : GoodP xs) (hy : GoodP ys) : Chn gap xs ys (-1) (dedT gap xs ys) := by
  have px := good_pw hx
  have py := good_pw hy
  have bx : bh (-1) xs = xs := bh_below (fun p hp => by have := (good_mem hx p hp).1; omega)
  have by' : bh (-1) ys = ys := bh_below (fun p hp => by have := (good_mem hy p hp).1; omega)
  cases h : dgo xs ys with
  | true =>
    rw [dedT_yesl (-1) py h]
    have := (chn_dd (gap := gap) px py (ys.length + xs.length) (-1)).2
    rw [bx, by'] at this
    exact this
  | false =>
    rw [dedT_nol (-1) h]
    have := (chn_dd (gap := gap) px py (xs.length + ys.length) (-1)).1
    rw [bx, by'] at this
    exact this
theorem chn_at {gap : Int} {A B : List Sm} : ∀ (d : List Sm) (last : Int), Chn gap A B last d → ∀ i, i < d.length → (d.getD i e0 ∈ A ∨ d.getD i e0 ∈ B) ∧ last < (d.getD i e0).1 ∧ (0 < i → (d.getD (i - 1) e0).1 < (d.getD i e0).1 ∧ ((d.getD (i - 1) e0).1 + gap < (d.getD i e0).1 → ∀ q, q ∈ A ∨ q ∈ B → ¬ ((d.getD (i - 1) e0).1 < q.1 ∧ q.1 < (d.getD i e0).1))) := by
  intro d
  induction d with
  | nil => intro last _ i hi; simp at hi
  | cons p d ih =>
    intro last h i hi
    obtain ⟨h1, h2, h3, h4⟩ := h
    cases i with
    | zero => exact ⟨h2, h1, fun h => absurd h (by omega)⟩
    | succ i =>
      have hi' : i < d.length := by simp at hi; omega
      obtain ⟨k1, k2, k3⟩ := ih p.1 h4 i hi'
      have e1 : (p :: d).getD (i + 1) e0 = d.getD i e0 := by simp
      rw [e1]
      refine ⟨k1, by omega, fun _ => ?_⟩
      cases i with
      | zero =>
        simp only [Nat.zero_add, Nat.sub_self]
        cases d with
        | nil => simp at hi'
        | cons q d =>
          obtain ⟨j1, j2, j3, j4⟩ := h4
          exact ⟨j1, j3⟩
      | succ i =>
        have e2 : (p :: d).getD (i + 1 + 1 - 1) e0 = d.getD (i + 1 - 1) e0 := by simp
        rw [e2]
        exact k3 (by omega)
theorem dedT_good {gap : Int} {xs ys : List Sm} (hx : GoodP xs) (hy : GoodP ys) (hl : (dedT gap xs ys).length ≤ 2000) : GoodP (dedT gap xs ys) := by
  refine ⟨hl, fun i hi => ?_⟩
  obtain ⟨h1, h2, h3⟩ := chn_at _ _ (chn_dedT (gap := gap) hx hy) i hi
  refine ⟨?_, fun h0 => (h3 h0).1⟩
  rcases h1 with h | h
  · exact good_mem hx _ h
  · exact good_mem hy _ h
theorem dedT_empty {gap : Int} {xs ys : List Sm} : dedT gap xs ys = [] ↔ xs = [] ∧ ys = [] := by
  cases xs with
  | nil => cases ys <;> simp [dedT]
  | cons x X =>
    cases ys with
    | nil => simp [dedT]
    | cons y Y => simp only [dedT]; split <;> simp
/-- Nothing of both, merged, lies between. -/
theorem mrg_between {xs ys : List Sm} {t u : Int} (hx : SP xs) (hy : SP ys) (h : ∀ q, q ∈ xs ∨ q ∈ ys → ¬ (t < q.1 ∧ q.1 < u)) : cut (mrg xs ys) (t + 1) (u - 1) = [] := by
  unfold cut
  rw [List.filter_eq_nil_iff]
  intro q hq
  have h2 : q ∈ xs ∨ q ∈ ys := by
    rcases (mrg_mem xs ys hx hy q).1 hq with h1 | h1
    · exact .inl h1
    · exact .inr h1.1
  have := h q h2
  simp
  omega
end Go.Proofs.Ytfmijboakipooaa.Smp
