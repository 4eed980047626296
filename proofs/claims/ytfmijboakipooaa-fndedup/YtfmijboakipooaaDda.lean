/- Two rising lists told as one source would: the plain facts. -/
import Derived.Test.YtfmijboakipooaaTk
namespace Go.Proofs.Ytfmijboakipooaa.Smp
open Go.RowKit

/-- What is left behind a time. -/
def bh (t : Int) : List Sm → List Sm
  | [] => []
  | p :: L => if p.1 ≤ t then bh t L else p :: L
theorem bh_nil (t : Int) : bh t [] = [] := rfl
theorem bh_go {t : Int} {p : Sm} {L : List Sm} (h : p.1 ≤ t) : bh t (p :: L) = bh t L := by rw [bh, if_pos h]
theorem bh_stop {t : Int} {p : Sm} {L : List Sm} (h : ¬ p.1 ≤ t) : bh t (p :: L) = p :: L := by rw [bh, if_neg h]
theorem bh_len (t : Int) : ∀ L, (bh t L).length ≤ L.length
  | [] => Nat.le_refl _
  | p :: L => by
    by_cases h : p.1 ≤ t
    · rw [bh_go h]; have := bh_len t L; simp; omega
    · rw [bh_stop h]; exact Nat.le_refl _
theorem bh_bh {t u : Int} (h : t ≤ u) : ∀ L, bh u (bh t L) = bh u L
  | [] => rfl
  | p :: L => by
    by_cases h1 : p.1 ≤ t
    · rw [bh_go h1, bh_go (by omega : p.1 ≤ u)]; exact bh_bh h L
    · rw [bh_stop h1]
theorem bh_mem {t : Int} {p : Sm} : ∀ {L}, p ∈ bh t L → p ∈ L
  | [], h => h
  | q :: L, h => by
    by_cases h1 : q.1 ≤ t
    · rw [bh_go h1] at h; exact List.mem_cons_of_mem _ (bh_mem h)
    · rw [bh_stop h1] at h; exact h
theorem bh_head {t : Int} {p : Sm} {G : List Sm} : ∀ {L}, bh t L = p :: G → t < p.1
  | [], h => by cases h
  | q :: L, h => by
    by_cases h1 : q.1 ≤ t
    · rw [bh_go h1] at h; exact bh_head h
    · rw [bh_stop h1] at h; cases h; omega
theorem bh_rise {p : Sm} {L : List Sm} (h : (p :: L).Pairwise (fun x y => x.1 < y.1)) : bh p.1 (p :: L) = L := by
  rw [bh_go (Int.le_refl _)]
  cases L with
  | nil => rfl
  | cons q L =>
    have := (List.pairwise_cons.1 h).1 q List.mem_cons_self
    rw [bh_stop (by omega)]

/-- Whether the lists change places. -/
def sw (gap last : Int) (g o : List Sm) : Bool := g.isEmpty || (!o.isEmpty && (decide (gap < (g.getD 0 e0).1 - last) && decide ((o.getD 0 e0).1 < (g.getD 0 e0).1)))
/-- What is told from here on. -/
def dd (gap : Int) : Nat → Int → List Sm → List Sm → List Sm
  | 0, _, _, _ => []
  | n + 1, last, g, o =>
    match (if sw gap last g o then o else g) with
    | [] => []
    | p :: G => p :: dd gap n p.1 (bh p.1 G) (bh p.1 (if sw gap last g o then g else o))
theorem dd_stay {gap last : Int} {n : Nat} {p : Sm} {G o : List Sm} (h : sw gap last (p :: G) o = false) : dd gap (n + 1) last (p :: G) o = p :: dd gap n p.1 (bh p.1 G) (bh p.1 o) := by
  rw [dd]; simp [h]
theorem dd_swap {gap last : Int} {n : Nat} {p : Sm} {g G : List Sm} (h : sw gap last g (p :: G) = true) : dd gap (n + 1) last g (p :: G) = p :: dd gap n p.1 (bh p.1 G) (bh p.1 g) := by
  rw [dd]; simp [h]
theorem dd_nil (gap last : Int) (n : Nat) : dd gap n last [] [] = [] := by
  cases n <;> simp [dd]
/-- What stands at the head: either the first list's or, the lists having changed places, the second one's. -/
theorem sw_cases (gap last : Int) (g o : List Sm) : (g = [] ∧ o = []) ∨ (∃ p G, g = p :: G ∧ sw gap last g o = false) ∨ (∃ p G, o = p :: G ∧ sw gap last g o = true) := by
  cases g with
  | nil =>
    cases o with
    | nil => exact .inl ⟨rfl, rfl⟩
    | cons p G => exact .inr (.inr ⟨p, G, rfl, by simp [sw]⟩)
  | cons q G =>
    cases h : sw gap last (q :: G) o with
    | false => exact .inr (.inl ⟨q, G, rfl, rfl⟩)
    | true =>
      cases o with
      | nil => simp [sw] at h
      | cons p O => exact .inr (.inr ⟨p, O, rfl, rfl⟩)
theorem dd_fuel (gap : Int) : ∀ (n m : Nat) (last : Int) (g o : List Sm), g.length + o.length ≤ n → g.length + o.length ≤ m → dd gap n last g o = dd gap m last g o := by
  intro n
  induction n with
  | zero =>
    intro m last g o h1 _
    cases g <;> cases o <;> simp at h1
    rw [dd_nil, dd_nil]
  | succ n ih =>
    intro m last g o h1 h2
    cases m with
    | zero =>
      cases g <;> cases o <;> simp at h2
      rw [dd_nil, dd_nil]
    | succ m =>
      rcases sw_cases gap last g o with ⟨rfl, rfl⟩ | ⟨p, G, rfl, h⟩ | ⟨p, G, rfl, h⟩
      · rw [dd_nil, dd_nil]
      · rw [dd_stay h, dd_stay h]
        have e1 := bh_len p.1 G
        have e2 := bh_len p.1 o
        simp at h1 h2
        rw [ih m _ _ _ (by omega) (by omega)]
      · rw [dd_swap h, dd_swap h]
        have e1 := bh_len p.1 G
        have e2 := bh_len p.1 g
        simp at h1 h2
        rw [ih m _ _ _ (by omega) (by omega)]
def D (gap last : Int) (g o : List Sm) : List Sm := dd gap (g.length + o.length) last g o
theorem D_nil (gap last : Int) : D gap last [] [] = [] := dd_nil _ _ _
theorem D_stay {gap last : Int} {p : Sm} {G o : List Sm} (h : sw gap last (p :: G) o = false) : D gap last (p :: G) o = p :: D gap p.1 (bh p.1 (p :: G)) (bh p.1 o) := by
  have e1 := bh_len p.1 G
  have e2 := bh_len p.1 o
  unfold D
  rw [bh_go (Int.le_refl _)]
  rw [show (p :: G).length + o.length = (G.length + o.length) + 1 from by simp; omega, dd_stay h]
  rw [dd_fuel gap _ _ _ _ _ (by omega) (Nat.le_refl _)]
theorem D_swap {gap last : Int} {p : Sm} {g G : List Sm} (h : sw gap last g (p :: G) = true) : D gap last g (p :: G) = p :: D gap p.1 (bh p.1 (p :: G)) (bh p.1 g) := by
  have e1 := bh_len p.1 G
  have e2 := bh_len p.1 g
  unfold D
  rw [bh_go (Int.le_refl _)]
  rw [show g.length + (p :: G).length = (g.length + G.length) + 1 from by simp; omega, dd_swap h]
  rw [dd_fuel gap _ _ _ _ _ (by omega) (Nat.le_refl _)]
theorem dd_len (gap : Int) : ∀ (n : Nat) (last : Int) (g o : List Sm), (dd gap n last g o).length ≤ g.length + o.length := by
  intro n
  induction n with
  | zero => intro last g o; simp [dd]
  | succ n ih =>
    intro last g o
    rcases sw_cases gap last g o with ⟨rfl, rfl⟩ | ⟨p, G, rfl, h⟩ | ⟨p, G, rfl, h⟩
    · rw [dd_nil]; simp
    · rw [dd_stay h]
      have e0 := ih p.1 (bh p.1 G) (bh p.1 o)
      have e1 := bh_len p.1 G
      have e2 := bh_len p.1 o
      simp; omega
    · rw [dd_swap h]
      have e0 := ih p.1 (bh p.1 G) (bh p.1 g)
      have e1 := bh_len p.1 G
      have e2 := bh_len p.1 g
      simp; omega
theorem D_len (gap last : Int) (g o : List Sm) : (D gap last g o).length ≤ g.length + o.length := dd_len _ _ _ _ _
theorem D_alone (gap : Int) : ∀ (L : List Sm) (last : Int), L.Pairwise (fun x y => x.1 < y.1) → D gap last L [] = L := by
  intro L
  induction L with
  | nil => intro last _; exact D_nil _ _
  | cons p L ih =>
    intro last h
    rw [D_stay (by simp [sw]), bh_rise h, bh_nil, ih _ (List.pairwise_cons.1 h).2]

/-- What dedup tells of two rising lists. -/
def dedT (gap : Int) (xs ys : List Sm) : List Sm :=
  match xs, ys with
  | [], ys => ys
  | x :: X, [] => x :: D gap x.1 (bh x.1 (x :: X)) []
  | x :: X, y :: Y => if y.1 < x.1 then y :: D gap y.1 (bh y.1 (y :: Y)) (bh y.1 (x :: X)) else x :: D gap x.1 (bh x.1 (x :: X)) (bh x.1 (y :: Y))
/-- The lists as the telling begins. -/
def dgo (xs ys : List Sm) : Bool := xs.isEmpty || (!ys.isEmpty && decide ((ys.getD 0 e0).1 < (xs.getD 0 e0).1))
theorem dedT_yes {gap : Int} {xs ys : List Sm} (hy : ys.Pairwise (fun x y => x.1 < y.1)) (h : dgo xs ys = true) : dedT gap xs ys = D gap 0 ys xs := by
  cases xs with
  | nil =>
    rw [D_alone gap ys 0 hy]; cases ys <;> rfl
  | cons x X =>
    cases ys with
    | nil => simp [dgo] at h
    | cons y Y =>
      have h1 : y.1 < x.1 := by simpa [dgo] using h
      rw [D_stay (by simp [sw]; intro; omega)]
      simp [dedT, h1]
theorem dedT_no {gap : Int} {xs ys : List Sm} (h : dgo xs ys = false) : dedT gap xs ys = D gap 0 xs ys := by
  cases xs with
  | nil => simp [dgo] at h
  | cons x X =>
    cases ys with
    | nil => rw [D_stay (by simp [sw])]; rfl
    | cons y Y =>
      have h1 : ¬ y.1 < x.1 := by simpa [dgo] using h
      rw [D_stay (by simp [sw]; intro; omega)]
      simp [dedT, h1]
theorem dedT_len (gap : Int) (xs ys : List Sm) (hy : ys.Pairwise (fun x y => x.1 < y.1)) : (dedT gap xs ys).length ≤ xs.length + ys.length := by
  cases h : dgo xs ys with
  | true => rw [dedT_yes hy h]; have := D_len gap 0 ys xs; omega
  | false => rw [dedT_no h]; exact D_len gap 0 xs ys
/-- What DedupSamples gives. -/
def dedA (xs ys : List Sm) (gap : Int) : List Sm := if GoodP xs ∧ GoodP ys ∧ 0 ≤ gap ∧ gap ≤ 1000000 ∧ (dedT gap xs ys).length ≤ 2000 then dedT gap xs ys else []
theorem dedA_no {xs ys : List Sm} {gap : Int} (h : ¬ (GoodP xs ∧ GoodP ys ∧ 0 ≤ gap ∧ gap ≤ 1000000 ∧ (dedT gap xs ys).length ≤ 2000)) : dedA xs ys gap = [] := if_neg h
theorem dedA_yes {xs ys : List Sm} {gap : Int} (h1 : GoodP xs) (h2 : GoodP ys) (h3 : 0 ≤ gap) (h4 : gap ≤ 1000000) (h5 : (dedT gap xs ys).length ≤ 2000) : dedA xs ys gap = dedT gap xs ys := if_pos ⟨h1, h2, h3, h4, h5⟩
theorem dedA_len (xs ys : List Sm) (gap : Int) : (dedA xs ys gap).length ≤ 2000 := by
  unfold dedA
  split
  · rename_i h; exact h.2.2.2.2
  · simp
end Go.Proofs.Ytfmijboakipooaa.Smp
