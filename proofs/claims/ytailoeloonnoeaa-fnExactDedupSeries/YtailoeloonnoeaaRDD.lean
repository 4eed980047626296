/- Two rising lists told as one source would: the plain facts. -/
import Derived.Test.YtailoeloonnoeaaRTk
import Derived.Deep.CutRange
namespace Go.Proofs.Ytailoeloonnoeaa.Smp
open Go.RowKit

/-- What is left behind a time. -/
def bh (t : Int) : List Sm → List Sm
  | [] => []
  | p :: L => if p.1 ≤ t then bh t L else p :: L
theorem bh_nil (t : Int) : bh t [] = [] := rfl
theorem bh_go {t : Int} {p : Sm} {L : List Sm} (h : p.1 ≤ t) : bh t (p :: L) = bh t L := by rw [bh, if_pos h]
theorem bh_stop {t : Int} {p : Sm} {L : List Sm} (h : ¬ p.1 ≤ t) : bh t (p :: L) = p :: L := by rw [bh, if_neg h]
theorem bh_len (t : Int) : ∀ L, (bh t L).length ≤ L.length
  | [] => Nat.le_refl _
  | p :: L => by
    by_cases h : p.1 ≤ t
    · rw [bh_go h]; have := bh_len t L; simp; omega
    · rw [bh_stop h]; exact Nat.le_refl _
theorem bh_bh {t u : Int} (h : t ≤ u) : ∀ L, bh u (bh t L) = bh u L
  | [] => rfl
  | p :: L => by
    by_cases h1 : p.1 ≤ t
    · rw [bh_go h1, bh_go (by omega : p.1 ≤ u)]; exact bh_bh h L
    · rw [bh_stop h1]
theorem bh_mem {t : Int} {p : Sm} : ∀ {L}, p ∈ bh t L → p ∈ L
  | [], h => h
  | q :: L, h => by
    by_cases h1 : q.1 ≤ t
    · rw [bh_go h1] at h; exact List.mem_cons_of_mem _ (bh_mem h)
    · rw [bh_stop h1] at h; exact h
theorem bh_head {t : Int} {p : Sm} {G : List Sm} : ∀ {L}, bh t L = p :: G → t < p.1
  | [], h => by cases h
  | q :: L, h => by
    by_cases h1 : q.1 ≤ t
    · rw [bh_go h1] at h; exact bh_head h
    · rw [bh_stop h1] at h; cases h; omega
theorem bh_rise {p : Sm} {L : List Sm} (h : (p :: L).Pairwise (fun x y => x.1 < y.1)) : bh p.1 (p :: L) = L := by
  rw [bh_go (Int.le_refl _)]
  cases L with
  | nil => rfl
  | cons q L =>
    have := (List.pairwise_cons.1 h).1 q List.mem_cons_self
    rw [bh_stop (by omega)]

/-- Whether the lists change places. -/
def sw (gap last : Int) (g o : List Sm) : Bool := g.isEmpty || (!o.isEmpty && (decide (gap < (g.getD 0 e0).1 - last) && decide ((o.getD 0 e0).1 < (g.getD 0 e0).1)))
/-- What is told from here on. -/
def dd (gap : Int) : Nat → Int → List Sm → List Sm → List Sm
  | 0, _, _, _ => []
  | n + 1, last, g, o =>
    match (if sw gap last g o then o else g) with
    | [] => []
    | p :: G => p :: dd gap n p.1 (bh p.1 G) (bh p.1 (if sw gap last g o then g else o))
theorem dd_stay {gap last : Int} {n : Nat} {p : Sm} {G o : List Sm} (h : sw gap last (p :: G) o = false) : dd gap (n + 1) last (p :: G) o = p :: dd gap n p.1 (bh p.1 G) (bh p.1 o) := by
  rw [dd]; simp [h]
theorem dd_swap {gap last : Int} {n : Nat} {p : Sm} {g G : List Sm} (h : sw gap last g (p :: G) = true) : dd gap (n + 1) last g (p :: G) = p :: dd gap n p.1 (bh p.1 G) (bh p.1 g) := by
  rw [dd]; simp [h]
theorem dd_nil (gap last : Int) (n : Nat) : dd gap n last [] [] = [] := by
  cases n <;> simp [dd]
/-- What stands at the head: either the first list's or, the lists having changed places, the second one's. -/
theorem sw_cases (gap last : Int) (g o : List Sm) : (g = [] ∧ o = []) ∨ (∃ p G, g = p :: G ∧ sw gap last g o = false) ∨ (∃ p G, o = p :: G ∧ sw gap last g o = true) := by
  cases g with
  | nil =>
    cases o with
    | nil => exact .inl ⟨rfl, rfl⟩
    | cons p G => exact .inr (.inr ⟨p, G, rfl, by simp [sw]⟩)
  | cons q G =>
    cases h : sw gap last (q :: G) o with
    | false => exact .inr (.inl ⟨q, G, rfl, rfl⟩)
    | true =>
      cases o with
      | nil => simp [sw] at h
      | cons p O => exact .inr (.inr ⟨p, O, rfl, rfl⟩)
theorem dd_fuel (gap : Int) : ∀ (n m : Nat) (last : Int) (g o : List Sm), g.length + o.length ≤ n → g.length + o.length ≤ m → dd gap n last g o = dd gap m last g o := by
  intro n
  induction n with
  | zero =>
    intro m last g o h1 _
    cases g <;> cases o <;> simp at h1
    rw [dd_nil, dd_nil]
  | succ n ih =>
    intro m last g o h1 h2
    cases m with
    | zero =>
      cases g <;> cases o <;> simp at h2
      rw [dd_nil, dd_nil]
    | succ m =>
      rcases sw_cases gap last g o with ⟨rfl, rfl⟩ | ⟨p, G, rfl, h⟩ | ⟨p, G, rfl, h⟩
      · rw [dd_nil, dd_nil]
      · rw [dd_stay h, dd_stay h]
        have e1 := bh_len p.1 G
        have e2 := bh_len p.1 o
        simp at h1 h2
        rw [ih m _ _ _ (by omega) (by omega)]
      · rw [dd_swap h, dd_swap h]
        have e1 := bh_len p.1 G
        have e2 := bh_len p.1 g
        simp at h1 h2
        rw [ih m _ _ _ (by omega) (by omega)]
def D (gap last : Int) (g o : List Sm) : List Sm := dd gap (g.length + o.length) last g o
theorem D_nil (gap last : Int) : D gap last [] [] = [] := dd_nil _ _ _
theorem D_stay {gap last : Int} {p : Sm} {G o : List Sm} (h : sw gap last (p :: G) o = false) : D gap last (p :: G) o = p :: D gap p.1 (bh p.1 (p :: G)) (bh p.1 o) := by
  have e1 := bh_len p.1 G
  have e2 := bh_len p.1 o
  unfold D
  rw [bh_go (Int.le_refl _)]
  rw [show (p :: G).length + o.length = (G.length + o.length) + 1 from by simp; omega, dd_stay h]
  rw [dd_fuel gap _ _ _ _ _ (by omega) (Nat.le_refl _)]
theorem D_swap {gap last : Int} {p : Sm} {g G : List Sm} (h : sw gap last g (p :: G) = true) : D gap last g (p :: G) = p :: D gap p.1 (bh p.1 (p :: G)) (bh p.1 g) := by
  have e1 := bh_len p.1 G
  have e2 := bh_len p.1 g
  unfold D
  rw [bh_go (Int.le_refl _)]
  rw [show g.length + (p :: G).length = (g.length + G.length) + 1 from by simp; omega, dd_swap h]
  rw [dd_fuel gap _ _ _ _ _ (by omega) (Nat.le_refl _)]
theorem dd_len (gap : Int) : ∀ (n : Nat) (last : Int) (g o : List Sm), (dd gap n last g o).length ≤ g.length + o.length := by
  intro n
  induction n with
  | zero => intro last g o; simp [dd]
  | succ n ih =>
    intro last g o
    rcases sw_cases gap last g o with ⟨rfl, rfl⟩ | ⟨p, G, rfl, h⟩ | ⟨p, G, rfl, h⟩
    · rw [dd_nil]; simp
    · rw [dd_stay h]
      have e0 := ih p.1 (bh p.1 G) (bh p.1 o)
      have e1 := bh_len p.1 G
      have e2 := bh_len p.1 o
      simp; omega
    · rw [dd_swap h]
      have e0 := ih p.1 (bh p.1 G) (bh p.1 g)
      have e1 := bh_len p.1 G
      have e2 := bh_len p.1 g
      simp; omega
theorem D_len (gap last : Int) (g o : List Sm) : (D gap last g o).length ≤ g.length + o.length := dd_len _ _ _ _ _
theorem D_alone (gap : Int) : ∀ (L : List Sm) (last : Int), L.Pairwise (fun x y => x.1 < y.1) → D gap last L [] = L := by
  intro L
  induction L with
  | nil => intro last _; exact D_nil _ _
  | cons p L ih =>
    intro last h
    rw [D_stay (by simp [sw]), bh_rise h, bh_nil, ih _ (List.pairwise_cons.1 h).2]

/-- What dedup tells of two rising lists. -/
def dedT (gap : Int) (xs ys : List Sm) : List Sm :=
  match xs, ys with
  | [], ys => ys
  | x :: X, [] => x :: D gap x.1 (bh x.1 (x :: X)) []
  | x :: X, y :: Y => if y.1 < x.1 then y :: D gap y.1 (bh y.1 (y :: Y)) (bh y.1 (x :: X)) else x :: D gap x.1 (bh x.1 (x :: X)) (bh x.1 (y :: Y))
/-- The lists as the telling begins. -/
def dgo (xs ys : List Sm) : Bool := xs.isEmpty || (!ys.isEmpty && decide ((ys.getD 0 e0).1 < (xs.getD 0 e0).1))
theorem dedT_yes {gap : Int} {xs ys : List Sm} (hy : ys.Pairwise (fun x y => x.1 < y.1)) (h : dgo xs ys = true) : dedT gap xs ys = D gap 0 ys xs := by
  cases xs with
  | nil =>
    rw [D_alone gap ys 0 hy]; cases ys <;> rfl
  | cons x X =>
    cases ys with
    | nil => simp [dgo] at h
    | cons y Y =>
      have h1 : y.1 < x.1 := by simpa [dgo] using h
      rw [D_stay (by simp [sw]; intro; omega)]
      simp [dedT, h1]
theorem dedT_no {gap : Int} {xs ys : List Sm} (h : dgo xs ys = false) : dedT gap xs ys = D gap 0 xs ys := by
  cases xs with
  | nil => simp [dgo] at h
  | cons x X =>
    cases ys with
    | nil => rw [D_stay (by simp [sw])]; rfl
    | cons y Y =>
      have h1 : ¬ y.1 < x.1 := by simpa [dgo] using h
      rw [D_stay (by simp [sw]; intro; omega)]
      simp [dedT, h1]
theorem dedT_len (gap : Int) (xs ys : List Sm) (hy : ys.Pairwise (fun x y => x.1 < y.1)) : (dedT gap xs ys).length ≤ xs.length + ys.length := by
  cases h : dgo xs ys with
  | true => rw [dedT_yes hy h]; have := D_len gap 0 ys xs; omega
  | false => rw [dedT_no h]; exact D_len gap 0 xs ys
/-- What DedupSamples gives. -/
def dedA (xs ys : List Sm) (gap : Int) : List Sm := if GoodP xs ∧ GoodP ys ∧ 0 ≤ gap ∧ gap ≤ 1000000 ∧ (dedT gap xs ys).length ≤ 2000 then dedT gap xs ys else []
theorem dedA_no {xs ys : List Sm} {gap : Int} (h : ¬ (GoodP xs ∧ GoodP ys ∧ 0 ≤ gap ∧ gap ≤ 1000000 ∧ (dedT gap xs ys).length ≤ 2000)) : dedA xs ys gap = [] := if_neg h
theorem dedA_yes {xs ys : List Sm} {gap : Int} (h1 : GoodP xs) (h2 : GoodP ys) (h3 : 0 ≤ gap) (h4 : gap ≤ 1000000) (h5 : (dedT gap xs ys).length ≤ 2000) : dedA xs ys gap = dedT gap xs ys := if_pos ⟨h1, h2, h3, h4, h5⟩
theorem dedA_len (xs ys : List Sm) (gap : Int) : (dedA xs ys gap).length ≤ 2000 := by
  unfold dedA
  split
  · rename_i h; exact h.2.2.2.2
  · simp
end Go.Proofs.Ytailoeloonnoeaa.Smp
/- The program's behind and dedup. -/
namespace Go.Proofs.Ytailoeloonnoeaa.Smp
open Go.RowKit

theorem f21 (g : Int) (w : World) : Calls Try.prog 21 #[.int .i64 g] w fun e w' => e = .returned (.bool (decide (0 ≤ g ∧ g ≤ 1000000))) ∧ w' = w := by
  by_cases h1 : 0 ≤ g
  · go_enter Try.func21, Try.ntmps21
    go_wp2
    go_ret
    exact ⟨ret_bool (by rw [Bool.eq_iff_iff]; simp [h1]), rfl⟩
  · go_enter Try.func21, Try.ntmps21
    go_wp2
    go_ret
    exact ⟨ret_bool (by simp; omega), rfl⟩

set_option maxHeartbeats 4000000 in
theorem f51 (w : World) (ys : List Sm) (k : Nat) (v : Value) (t : Int) (wr : World) (h21 : ys.length ≤ 1048576) (hb : Below w.heap.size w wr) (hr : Rest w ys k v) :
    Calls Try.prog 51 #[v, .int .i64 t] wr fun e w' => ∃ k' v', e = .returned v' ∧ w' = wr ∧ Rest w ys k' v' ∧ ys.drop k' = bh t (ys.drop k) := by
  have HR := hid hr
  have HB := hid hb
  generalize hm : ys.length = m at *
  have HM := hid hm
  clear hr hb hm
  go_enter Try.func51, Try.ntmps51
  go_wp2_with fail
  go_loopw [0] (fun s0 wx => ∃ (k' : Nat), Rest w ys k' s0 ∧ Hid (wx = wr) ∧ Hid (bh t (ys.drop k') = bh t (ys.drop k))) (fun s0 _ => lenOf s0)
  case atStart => exact ⟨k, HR.out, rfl, rfl⟩
  case round =>
    rename_i wx
    obtain ⟨k', hrest, hwx, hbh⟩ := hrel
    have HRS := hid hrest
    have hk := hrest.le
    have HW := hid hwx.out
    by_cases hkt : k' < m
    · obtain ⟨bb, ob, r, cb', hr1, hrc, hsb, hbb, g0, g1, hnext, hnext0⟩ := hrest.head (by rw [HM.out]; exact hkt)
      subst hsb
      have HNX := hid hnext
      have HNX0 := hid hnext0
      have HDR := hid (drop_cons (by rw [HM.out]; exact hkt : k' < ys.length))
      have e0' := (HB.out.cell (p := ⟨bb, ob, none⟩) hbb).trans g0
      rw [← HW.out] at e0'
      have hr2 : r ≤ 1048576 := by rw [HM.out] at hr1; omega
      clear hrest hnext hnext0 g0 g1 hr1
      generalize hq : ys.getD k' e0 = q at *
      obtain ⟨s', t'⟩ := q
      simp only at e0'
      clear hq
      by_cases h1 : s' ≤ t
      · have HBH : Hid (bh t (ys.drop (k' + 1)) = bh t (ys.drop k)) := by
          unfold Hid; rw [← hbh.out, HDR.out, bh_go (by exact h1)]
        by_cases hcc : 0 < cb'
        · go_wp2
          go_roundw
          case rel => exact ⟨k' + 1, HNX.out, HW.out, HBH.out⟩
          case measure => simp [lenOf]
        · obtain rfl : cb' = 0 := by omega
          obtain rfl : r = 0 := by omega
          go_wp2
          go_roundw
          case rel => exact ⟨k' + 1, HNX0.out rfl, HW.out, HBH.out⟩
          case measure => simp [lenOf]
      · have HBH : Hid (ys.drop k' = bh t (ys.drop k)) := by
          unfold Hid; rw [← hbh.out, HDR.out, bh_stop (by exact h1)]
        go_wp2
        go_ret
        exact ⟨k', _, rfl, HW.out, HRS.out, HBH.out⟩
    · obtain ⟨ab', cb', hsb⟩ := hrest.len
      have hz : ys.length - k' = 0 := by rw [HM.out]; omega
      have HBH : Hid (ys.drop k' = bh t (ys.drop k)) := by
        unfold Hid; rw [← hbh.out, List.drop_eq_nil_of_le (by rw [HM.out]; omega)]; rfl
      rw [hz] at hsb
      subst hsb
      clear hrest hz
      go_wp2
      go_ret
      exact ⟨k', _, rfl, HW.out, HRS.out, HBH.out⟩

/-- A list whose Times are times. -/
def Tml (L : List Sm) : Prop := L.length ≤ 1048576 ∧ ∀ p ∈ L, TimeP p.1
theorem Tml.at {L : List Sm} (h : Tml L) {k : Nat} (hk : k < L.length) : TimeP (L.getD k e0).1 := by
  have : L.getD k e0 = L[k] := by simp [hk]
  rw [this]; exact h.2 _ (List.getElem_mem hk)
theorem rest_empty {w : World} {A : List Sm} {i : Nat} {v : Value} (h : Rest w A i v) (hi : A.length ≤ i) : ∃ a c, v = .slice a 0 c := by
  obtain ⟨a, c, hv⟩ := h.len
  exact ⟨a, c, by rw [hv, show A.length - i = 0 from by omega]⟩
theorem sw_e {gap last : Int} {A B : List Sm} {i j : Nat} (hi : A.length ≤ i) : sw gap last (A.drop i) (B.drop j) = true := by
  rw [List.drop_eq_nil_of_le hi]; simp [sw]
theorem sw_o {gap last : Int} {A B : List Sm} {i j : Nat} (hi : i < A.length) (hj : B.length ≤ j) : sw gap last (A.drop i) (B.drop j) = false := by
  rw [List.drop_eq_nil_of_le hj, drop_cons hi]; simp [sw]
theorem sw_b {gap last : Int} {A B : List Sm} {i j : Nat} (hi : i < A.length) (hj : j < B.length) : sw gap last (A.drop i) (B.drop j) = decide (gap < (A.getD i e0).1 - last ∧ (B.getD j e0).1 < (A.getD i e0).1) := by
  rw [drop_cons hi, drop_cons hj]; simp [sw]
theorem go_stay {gap last : Int} {A B : List Sm} {i j : Nat} (hi : i < A.length) (h : sw gap last (A.drop i) (B.drop j) = false) : D gap last (A.drop i) (B.drop j) = A.getD i e0 :: D gap (A.getD i e0).1 (bh (A.getD i e0).1 (A.drop i)) (bh (A.getD i e0).1 (B.drop j)) := by
  rw [drop_cons hi] at h ⊢
  exact D_stay h
theorem go_swap {gap last : Int} {A B : List Sm} {i j : Nat} (hj : j < B.length) (h : sw gap last (A.drop i) (B.drop j) = true) : D gap last (A.drop i) (B.drop j) = B.getD j e0 :: D gap (B.getD j e0).1 (bh (B.getD j e0).1 (B.drop j)) (bh (B.getD j e0).1 (A.drop i)) := by
  rw [drop_cons hj] at h ⊢
  exact D_swap h
theorem rest_drew {w : World} (q : Nat) {B : Nat} {a : World} (h : Below B a w) : Below B a (w.drewN q) := below_drewN h q
/-- The next one stands at the head of the first list. -/
def Nxt (w : World) (gap : Int) (R : List Sm) (s8 s9 : Value) : Prop := ∃ (A B : List Sm) (i j : Nat), Tml A ∧ Tml B ∧ i < A.length ∧ Rest w A i s8 ∧ Rest w B j s9 ∧ R = A.getD i e0 :: D gap (A.getD i e0).1 (bh (A.getD i e0).1 (A.drop i)) (bh (A.getD i e0).1 (B.drop j))
end Go.Proofs.Ytailoeloonnoeaa.Smp
/- The program's dedup. -/
namespace Go.Proofs.Ytailoeloonnoeaa.Smp
open Go.RowKit

theorem dgo_e {xs ys : List Sm} (h : xs.length = 0) : dgo xs ys = true := by
  cases xs with
  | nil => rfl
  | cons => simp at h
theorem dgo_o {xs ys : List Sm} (h : 0 < xs.length) (h' : ys.length = 0) : dgo xs ys = false := by
  cases xs with
  | nil => simp at h
  | cons =>
    cases ys with
    | nil => rfl
    | cons => simp at h'
theorem dgo_b {xs ys : List Sm} (h : 0 < xs.length) (h' : 0 < ys.length) : dgo xs ys = decide ((ys.getD 0 e0).1 < (xs.getD 0 e0).1) := by
  cases xs with
  | nil => simp at h
  | cons =>
    cases ys with
    | nil => simp at h'
    | cons => simp [dgo]
/-- What has been told, and what is left of the lists. -/
def Ddi (w : World) (T : List Sm) (gap l : Int) (O : List Sm) (s8 s9 : Value) : Prop := ∃ (A B : List Sm) (i j : Nat), Tml A ∧ Tml B ∧ Rest w A i s8 ∧ Rest w B j s9 ∧ T = O ++ D gap l (A.drop i) (B.drop j)

set_option maxHeartbeats 8000000 in
set_option maxRecDepth 100000 in
theorem f25 (a b : Option Addr) (c d : Nat) (xs ys : List Sm) (gap : Int) (w : World) (hx : Tml xs) (hy : Tml ys) (hpw : ys.Pairwise (fun x y => x.1 < y.1)) (hr : HasS w a xs) (hs : HasS w b ys) (hc : xs.length ≤ c) (hd : ys.length ≤ d) (hna : a = none → c = 0) (hnb : b = none → d = 0) (hg0 : 0 ≤ gap) (hg1 : gap ≤ 1000000) :
    Calls Try.prog 25 #[.slice a xs.length c, .slice b ys.length d, .int .i64 gap] w fun e w' => ∃ v, e = .returned v ∧ Own w' w.heap.size v (dedT gap xs ys) ∧ Below w.heap.size w w' := by
  obtain ⟨i0, hi, hz0, hz1, hz2⟩ := info_parts infoS
  have HRA := hid (Rest.init hr hc hna)
  have HRB := hid (Rest.init hs hd hnb)
  have HXT := hid hx
  have HYT := hid hy
  have hn20 := hx.1
  have hm20 := hy.1
  have HTL := hid (dedT_len gap xs ys hpw)
  have HYES := hid (dedT_yes (gap := gap) (xs := xs) hpw)
  have HNO := hid (dedT_no (gap := gap) (xs := xs) (ys := ys))
  have HDE := hid (dgo_e (xs := xs) (ys := ys))
  have HDO := hid (dgo_o (xs := xs) (ys := ys))
  have HDB := hid (dgo_b (xs := xs) (ys := ys))
  have HHA := hid (has_first hr)
  have HHB := hid (has_first hs)
  clear hx hy hpw hc hd hna hnb hr hs
  generalize xs.length = n at *
  generalize ys.length = m at *
  generalize hq : dgo xs ys = q at *
  clear hq
  go_enter Try.func25, Try.ntmps25
  go_upto_region 3 with fail
  go_cut [32] from 12 to 89 (fun cc wx => cc = .bool q ∧ Hid (Below w.heap.size w wx))
  case first =>
    by_cases hn : n = 0
    · have q1 : ((n : Int) == 0) = true := by simp [hn]
      have HQ := hid (HDE.out hn)
      clear hn
      go_quiet (fail)
      go_wp2
      go_meet
      exact ⟨by rw [HQ.out], below_drewN (Below.refl _ _) _⟩
    · have q1 : ((n : Int) == 0) = false := beq_eq_false_iff_ne.2 (by omega)
      have hn' : (0 : Int) < (n : Int) := by omega
      by_cases hm : m = 0
      · have q2 : decide (0 < m) = false := decide_eq_false (by omega)
        have HQ := hid (HDO.out (by omega) hm)
        clear hm
        go_quiet (fail)
        go_wp2
        go_meet
        exact ⟨by rw [HQ.out], below_drewN (Below.refl _ _) _⟩
      · have hm' : (0 : Int) < (m : Int) := by omega
        have q2 : decide (0 < m) = true := decide_eq_true (by omega)
        have HQ := hid (HDB.out (by omega) (by omega))
        obtain ⟨ba, oa, rfl, _, x0, _⟩ := HHA.out (by omega)
        obtain ⟨bb, ob, rfl, _, y0, _⟩ := HHB.out (by omega)
        generalize (ys.getD 0 e0).1 = Y at *
        generalize (xs.getD 0 e0).1 = X at *
        go_quiet (fail)
        go_wp2
        go_meet
        exact ⟨by rw [HQ.out], below_drewN (Below.refl _ _) _⟩
  case rest =>
  obtain ⟨rfl, hbw⟩ := hcut
  generalize hT : dedT gap xs ys = T at *
  have HTT := hid hT
  clear hT
  go_upto_if 32 with fail
  go_cut [8, 9] from 12 to 89 (fun s8 s9 wx => Hid (Ddi w T gap 0 [] s8 s9) ∧ Hid (Below w.heap.size w wx))
  case first =>
    cases q with
    | true =>
      have HE := hid (HYES.out rfl)
      go_wp2
      go_meet
      exact ⟨⟨ys, xs, 0, 0, HYT.out, HXT.out, HRB.out, HRA.out, HE.out⟩, hbw⟩
    | false =>
      have HE := hid (HNO.out rfl)
      go_wp2
      go_meet
      exact ⟨⟨xs, ys, 0, 0, HXT.out, HYT.out, HRA.out, HRB.out, HE.out⟩, hbw⟩
  case rest =>
  obtain ⟨hdi, hbx⟩ := hcut
  clear HRA HRB HXT HYT HYES HNO HDE HDO HDB HHA HHB hbw
  go_wp2_with fail
  go_loopw [7, 8, 9, 10] (fun so s8 s9 sl wr => ∃ (O : List Sm) (l : Int), sl = .int .i64 l ∧ TimeP l ∧ Own wr w.heap.size so O ∧ Hid (Ddi w T gap l O s8 s9) ∧ Hid (Below w.heap.size w wr)) (fun so _ _ _ _ => T.length - lenOf so)
  case atStart => exact ⟨[], 0, rfl, by unfold TimeP; omega, Own.nil _ _, hdi, hbx⟩
  case round =>
    obtain ⟨O, l, rfl, hl, hown, hdi', hnx⟩ := hrel
    obtain ⟨A, B, i, j, hA, hB, hra, hrb, hTe⟩ := hdi'.out
    have HO := hid hown
    have HX := hid hnx.out
    have HRA := hid hra
    have HRB := hid hrb
    have HTA := hid hA
    have HTB := hid hB
    have HT := hid hTe
    have HL := hid hl
    have hl0 : 0 ≤ l := hl.1
    have hl1 : l ≤ 1000000000000 := hl.2
    obtain ⟨ao, co, rfl⟩ := own_form hown
    obtain ⟨ag, cg, rfl⟩ := hra.len
    obtain ⟨ah, ch, rfl⟩ := hrb.len
    have lA : A.length ≤ 1048576 := hA.1
    have lB : B.length ≤ 1048576 := hB.1
    clear hdi hbx hown hnx hdi' hra hrb hA hB hTe hl
    by_cases hne : i < A.length ∨ j < B.length
    · have HNE := hid hne
      have HSW1 := hid (go_stay (gap := gap) (last := l) (A := A) (B := B) (i := i) (j := j))
      have HSW2 := hid (go_swap (gap := gap) (last := l) (A := A) (B := B) (i := i) (j := j))
      have HSE := hid (sw_e (gap := gap) (last := l) (A := A) (B := B) (i := i) (j := j))
      have HSO := hid (sw_o (gap := gap) (last := l) (A := A) (B := B) (i := i) (j := j))
      have HSB := hid (sw_b (gap := gap) (last := l) (A := A) (B := B) (i := i) (j := j))
      have HHA := hid HRA.out.head
      have HHB := hid HRB.out.head
      generalize hgl : A.length - i = gl at *
      generalize hhl : B.length - j = hl at *
      have HGL := hid hgl
      have HHL := hid hhl
      clear hgl hhl
      clear hne
      generalize hq : sw gap l (A.drop i) (B.drop j) = q at *
      have HQQ := hid hq
      clear hq
      go_upto_region 5 with fail
      go_cut [42] from 35 to 88 (fun cc wx => cc = .bool true ∧ Hid (wx = wr))
      case first =>
        by_cases h1 : i < A.length
        · have h3 : decide (0 < gl) = true := decide_eq_true (by have := HGL.out; omega)
          have h4 : 0 < gl := by have := HGL.out; omega
          go_wp2
          go_meet
          exact ⟨rfl, rfl⟩
        · have h3 : decide (0 < gl) = false := decide_eq_false (by have := HGL.out; omega)
          have h4 : ¬ 0 < gl := by have := HGL.out; omega
          have h5 : decide (0 < hl) = true := decide_eq_true (by have := HHL.out; have := HNE.out; omega)
          have h6 : 0 < hl := by have := HHL.out; have := HNE.out; omega
          go_wp2
          go_meet
          exact ⟨rfl, rfl⟩
      case rest =>
      obtain ⟨rfl, hw⟩ := hcut
      have hw := hw.out
      subst hw
      go_upto_region 6 with fail
      go_cut [71] from 35 to 88 (fun cc wx => cc = .bool q ∧ Hid (Below w.heap.size w wx) ∧ Hid (Own wx w.heap.size (.slice ao O.length co) O))
      case first =>
        by_cases h1 : i < A.length
        · have n1 : ((gl : Int) == 0) = false := beq_eq_false_iff_ne.2 (by have := HGL.out; omega)
          have p1 : (0 : Int) < (gl : Int) := by have := HGL.out; omega
          by_cases h2 : j < B.length
          · obtain ⟨b1, o1, r1, c1, e1, _, hs1, hb1, g0, _, _, _⟩ := HHA.out h1
            simp only [Value.slice.injEq] at hs1
            obtain ⟨rfl, -, rfl⟩ := hs1
            have z1 := HTA.out.at h1
            obtain ⟨b2, o2, r2, c2, e2, _, hs2, hb2, y0, _, _, _⟩ := HHB.out h2
            simp only [Value.slice.injEq] at hs2
            obtain ⟨rfl, -, rfl⟩ := hs2
            have p2 : (0 : Int) < (hl : Int) := by have := HHL.out; omega
            have p3 : decide (0 < hl) = true := decide_eq_true (by have := HHL.out; omega)
            clear e1 e2
            have HQ := hid (HSB.out h1 h2)
            have k1 := (HX.out.cell (p := ⟨b1, o1, none⟩) hb1).trans g0
            have k2 := (HX.out.cell (p := ⟨b2, o2, none⟩) hb2).trans y0
            have z2 := HTB.out.at h2
            generalize (A.getD i e0).1 = X at *
            generalize (B.getD j e0).1 = Y at *
            have x0 : 0 ≤ X := z1.1
            have x1 : X ≤ 1000000000000 := z1.2
            clear g0 y0 HHA HHB
            by_cases h3 : gap < X - l
            · have h4 : decide (gap < X - l) = true := decide_eq_true h3
              have HQ2 : Hid (q = decide (Y < X)) := by unfold Hid; rw [HQ.out, Bool.eq_iff_iff]; simp [h3]
              go_quiet (fail)
              go_wp2
              go_meet
              exact ⟨by rw [HQ2.out], below_drewN HX.out _, own_drewN HO.out _⟩
            · have h4 : decide (gap < X - l) = false := decide_eq_false h3
              have HQ2 : Hid (q = false) := by unfold Hid; rw [HQ.out]; exact decide_eq_false fun h => h3 h.1
              go_quiet (fail)
              go_wp2
              go_meet
              exact ⟨by rw [HQ2.out], below_drewN HX.out _, own_drewN HO.out _⟩
          · have h4 : decide (0 < hl) = false := decide_eq_false (by have := HHL.out; omega)
            have HQ := hid (HSO.out h1 (by omega))
            clear HHA HHB
            go_quiet (fail)
            go_wp2
            go_meet
            exact ⟨by rw [HQ.out], below_drewN HX.out _, own_drewN HO.out _⟩
        · have h3 : ((gl : Int) == 0) = true := by have := HGL.out; simp; omega
          have HQ := hid (HSE.out (by omega))
          clear HHA HHB
          go_quiet (fail)
          go_wp2
          go_meet
          exact ⟨by rw [HQ.out], below_drewN HX.out _, own_drewN HO.out _⟩
      case rest =>
      obtain ⟨rfl, HX, HO⟩ := hcut
      obtain ⟨wq, rfl⟩ : ∃ wq, wq = wc := ⟨_, rfl⟩
      generalize hR : D gap l (A.drop i) (B.drop j) = R at *
      clear hR
      go_upto_if 71 with fail
      go_cut [8, 9] from 35 to 88 (fun s8 s9 wx => Hid (Nxt w gap R s8 s9) ∧ Hid (wx = wq))
      case first =>
        cases q with
        | true =>
          have hj : j < B.length := by
            by_cases h : i < A.length
            · by_cases h2 : j < B.length
              · exact h2
              · exact absurd (HSO.out h (by omega)) (by simp)
            · have := HNE.out; omega
          have HE := hid (HSW2.out hj rfl)
          go_wp2
          go_meet
          exact ⟨⟨B, A, j, i, HTB.out, HTA.out, hj, HRB.out, HRA.out, HE.out⟩, rfl⟩
        | false =>
          have hj : i < A.length := by
            by_cases h : i < A.length
            · exact h
            · exact absurd (HSE.out (by omega)) (by simp)
          have HE := hid (HSW1.out hj rfl)
          go_wp2
          go_meet
          exact ⟨⟨A, B, i, j, HTA.out, HTB.out, hj, HRA.out, HRB.out, HE.out⟩, rfl⟩
      case rest =>
      obtain ⟨hnx, hw⟩ := hcut
      have hw := hw.out
      subst hw
      obtain ⟨A, B, i, j, hA, hB, hj, hra, hrb, hRe⟩ := hnx.out
      obtain ⟨b1, o1, r1, c1, e1, _, rfl, hb1, g0, g1, hn1, hn2⟩ := hra.head hj
      obtain ⟨ah, ch, rfl⟩ := hrb.len
      have HRA := hid hra
      have HRB := hid hrb
      have z1 := hA.at hj
      have HTA := hid hA
      have HTB := hid hB
      have k0 := (HX.out.cell (p := ⟨b1, o1, none⟩) hb1).trans g0
      have k1 := (HX.out.cell (p := ⟨b1, o1 + 1, none⟩) hb1).trans g1
      have HRE := hid hRe
      have hOl : O.length + 1 ≤ 2097152 := by
        have h1 := HTL.out
        have h2 := congrArg List.length HT.out
        rw [HRE.out] at h2
        simp at h2
        omega
      generalize A.getD i e0 = p at *
      clear hA hB hra hrb hRe hn1 hn2 e1 g0 g1 hnx
      obtain ⟨s, t⟩ := p
      simp only at k0 k1 z1 HRE
      go_wp2_with (at_builtin; refine wpList_append_own_at _ rfl (.tmp 77) (.tmp 79) 38 rfl w.heap.size 53 i0 (.agg #[.int .i64 0, .int .i64 0]) 2 16 Try.underlying38 hi hz0 hz1 hz2 rfl (by decide) _ _ _ rfl (World.ownsRow.alloc (World.ownsRow.alloc HO.out _) _) ⟨wc.heap.size + 1, 0, none⟩ 1 1 [.int .i64 s, .int .i64 t] rfl rfl ?d1 ?d2 ?d3 ?d4 ?d5 ?_)
      case d2 => exact ⟨rfl, rfl⟩
      case d3 => unfold maxLen; omega
      case d4 => omega
      case d5 => have := HX.out.size; simp; omega
      intro v1 w3 hown1 hgr1 _ hat1
      have HO2 := hid (Own.snoc (p := (s, t)) hown1)
      have hXa := (HX.out.alloc HX.out.size (.cells #[.int .i64 s, .int .i64 t] 53))
      have HX2 := hid ((hXa.alloc hXa.size (.cells #[.int .i64 s, .int .i64 t] 53)).grown hgr1 (by have := HX.out.size; simp; omega) (fun k hk => (World.ownsRow.lt HO.out k hk).1))
      have HBX2 := hid (box_grown (box_alloc (heap_alloc_new wc (.cells #[.int .i64 s, .int .i64 t] 53)) _) hgr1 (fun g hg e => by have := (World.ownsRow.lt HO.out g hg).2; omega))
      have x0 := two0 HBX2.out
      obtain ⟨a1, c1', rfl⟩ := own_form hown1
      clear hown1 hgr1 hat1 hXa k0 k1
      go_wp2_with fail
      refine (f51 w A i _ s _ HTA.out.1 HX2.out HRA.out).mono ?_
      rintro e w4 ⟨k4, v4, rfl, rfl, hr4, hd4⟩
      have HR4 := hid hr4
      have HD4 := hid hd4
      clear hr4 hd4
      go_wp2_with fail
      refine (f51 w B j _ s _ HTB.out.1 HX2.out HRB.out).mono ?_
      rintro e w5 ⟨k5, v5, rfl, rfl, hr5, hd5⟩
      have HR5 := hid hr5
      have HD5 := hid hd5
      clear hr5 hd5
      have HTE : Hid (T = (O ++ [(s, t)]) ++ D gap s (A.drop k4) (B.drop k5)) := by
        unfold Hid; rw [HT.out, HRE.out, HD4.out, HD5.out, List.append_assoc]; rfl
      go_wp2
      go_roundw
      case rel => exact ⟨O ++ [(s, t)], s, rfl, z1, HO2.out, ⟨A, B, k4, k5, HTA.out, HTB.out, HR4.out, HR5.out, HTE.out⟩, HX2.out⟩
      case measure =>
        have h2 := congrArg List.length HTE.out
        simp at h2
        simp [lenOf]
        omega
    · obtain ⟨hi1, hj1⟩ : A.length ≤ i ∧ B.length ≤ j := by omega
      have HF : Hid (T = O) := by
        unfold Hid; rw [HT.out, List.drop_eq_nil_of_le hi1, List.drop_eq_nil_of_le hj1, D_nil, List.append_nil]
      generalize hgl : A.length - i = gl at *
      generalize hhl : B.length - j = hl at *
      have h3 : decide (0 < gl) = false := decide_eq_false (by omega)
      have h4 : ¬ 0 < gl := by omega
      have h5 : decide (0 < hl) = false := decide_eq_false (by omega)
      have h6 : ¬ 0 < hl := by omega
      clear hne hi1 hj1 hgl hhl
      go_wp2
      go_ret
      exact ⟨_, rfl, by rw [HTT.out, HF.out]; exact HO.out, HX.out⟩
end Go.Proofs.Ytailoeloonnoeaa.Smp
/- The model's l13Behind, l13Dedup2, l13Dedup; both DedupSamples. -/
namespace Go.Proofs.Ytailoeloonnoeaa.Smp
open Go.RowKit

/-- The first one behind a time. -/
def bhT (t : Int) (ls : List Sm) : Sm × Bool := match bh t ls with | [] => (e0, false) | p :: _ => (p, true)
theorem bhT_no {t : Int} {ls : List Sm} (h : (bhT t ls).2 = false) : bh t ls = [] := by
  unfold bhT at h
  cases hb : bh t ls with
  | nil => rfl
  | cons p G => rw [hb] at h; cases h
theorem bhT_yes {t : Int} {ls : List Sm} (h : (bhT t ls).2 = true) : ∃ G, bh t ls = (bhT t ls).1 :: G := by
  unfold bhT at h ⊢
  cases hb : bh t ls with
  | nil => rw [hb] at h; cases h
  | cons p G => exact ⟨G, rfl⟩

set_option maxHeartbeats 4000000 in
theorem f60 (a : Option Addr) (c : Nat) (ls : List Sm) (t : Int) (w : World) (h20 : ls.length ≤ 1048576) (hr : HasS w a ls) :
    Calls Try.prog 60 #[.slice a ls.length c, .int .i64 t] w fun e w' => e = .returned (.tuple #[.agg #[.int .i64 (bhT t ls).1.1, .int .i64 (bhT t ls).1.2], .bool (bhT t ls).2]) ∧ Below w.heap.size w w' := by
  have HB0 := hid ((Below.refl w.heap.size w).alloc (Nat.le_refl _) (.cells #[.int .i64 0, .int .i64 0] 53))
  have HX0 := hid (heap_alloc_new w (.cells #[.int .i64 0, .int .i64 0] 53))
  generalize hn : ls.length = n at *
  have HN := hid hn
  clear hn
  go_enter Try.func60, Try.ntmps60
  go_wp2
  go_loopw [10] (fun si wr => ∃ k : Nat, k ≤ n ∧ si = .int .i64 k ∧ Hid (bh t ls = bh t (ls.drop k)) ∧ Hid (wr.heap[w.heap.size]? = some (.cells #[.int .i64 0, .int .i64 0] 53 (0, 0))) ∧ Hid (Below w.heap.size w wr)) (fun si _ => n - (intOf si).toNat)
  case atStart => exact ⟨0, Nat.zero_le _, rfl, rfl, HX0.out, HB0.out⟩
  case round =>
    obtain ⟨k, hk, rfl, HU, HX, HB⟩ := hrel
    clear HX0 HB0
    by_cases hlt : k < n
    · rcases hr with hr | ⟨ba, oa, rfl, hba, hca⟩
      · exact absurd HN.out (by rw [hr]; simp; omega)
      obtain ⟨c0, c1⟩ := hca k (by rw [HN.out]; exact hlt)
      have HDR := hid (drop_cons (by rw [HN.out]; exact hlt : k < ls.length))
      have d0 := (HB.out.cell (p := ⟨ba, oa + k * 2, none⟩) hba).trans c0
      have d1 := (HB.out.cell (p := ⟨ba, oa + k * 2 + 1, none⟩) hba).trans c1
      have i1 : (k : Int) < (n : Int) := by omega
      clear c0 c1 hca
      generalize ls.getD k e0 = p at *
      obtain ⟨s, v⟩ := p
      simp only at d0 d1
      have HXA := hid (box_alloc HX.out (.cells #[.int .i64 s, .int .i64 v] 53))
      have HBA := hid (HB.out.alloc HB.out.size (.cells #[.int .i64 s, .int .i64 v] 53))
      have HYA := hid (heap_alloc_new wr (.cells #[.int .i64 s, .int .i64 v] 53))
      by_cases h1 : t < s
      · have HE : Hid (bhT t ls = ((s, v), true)) := by
          unfold Hid bhT; rw [HU.out, HDR.out, bh_stop (by show ¬ s ≤ t; omega)]
        go_upto_region 5 with fail
        generalize wr.alloc (.cells #[.int .i64 s, .int .i64 v] 53) = W at *
        have x0 := two0 HXA.out
        have x1 := two1 HXA.out
        have f0 := twof (o := 0) HXA.out rfl
        have f1 := twof (o := 1) HXA.out rfl
        have y0 := two0 HYA.out
        have y1 := two1 HYA.out
        have z0 := two0 (two_set (.int .i64 s) (.int .i64 v) HXA.out)
        have z1 := two1 (two_set (.int .i64 s) (.int .i64 v) HXA.out)
        have Z0 := hid z0
        have Z1 := hid z1
        clear z0 z1
        go_wp2
        refine bodyPost_ret (v := tupS ((s, v), true)) (by simp [results, Try.results60, go_sem, Z0.out, Z1.out, tupS]) rfl ⟨by rw [HE.out]; rfl, below_two _ _ HBA.out⟩
      · have HU2 : Hid (bh t ls = bh t (ls.drop (k + 1))) := by
          unfold Hid; rw [HU.out, HDR.out, bh_go (by show s ≤ t; omega)]
        go_wp2
        go_roundw
        case rel => exact ⟨k + 1, by omega, by go_num, HU2.out, HXA.out, HBA.out⟩
        case measure => simp [intOf]; omega
    · have i1 : ¬ (k : Int) < (n : Int) := by omega
      have HE : Hid (bhT t ls = (e0, false)) := by
        unfold Hid bhT; rw [HU.out, List.drop_eq_nil_of_le (by rw [HN.out]; omega)]; rfl
      have x0 := two0 HX.out
      have x1 := two1 HX.out
      have f0 := twof (o := 0) HX.out rfl
      have f1 := twof (o := 1) HX.out rfl
      have Z0 := hid (two0 (two_set (.int .i64 0) (.int .i64 0) HX.out))
      have Z1 := hid (two1 (two_set (.int .i64 0) (.int .i64 0) HX.out))
      go_wp2
      refine bodyPost_ret (v := tupS (e0, false)) (by simp [results, Try.results60, go_sem, Z0.out, Z1.out, tupS, e0]) rfl ⟨by rw [HE.out]; rfl, below_two _ _ HB.out⟩

theorem f16n (a : Option Addr) (c : Nat) (L : List Sm) (w : World) (h20 : L.length ≤ 1048576) (hr : HasS w a L) (hna : a = none → L = []) :
    Calls Try.prog 16 #[.slice a L.length c] w fun e w' => ∃ v', e = .returned v' ∧ Own w' w.heap.size v' L ∧ Below w.heap.size w w' := by
  obtain ⟨i0, hi, hz0, hz1, hz2⟩ := info_parts infoS
  cases a with
  | none =>
    obtain rfl := hna rfl
    go_enter Try.func16, Try.ntmps16
    go_wp2
    go_ret
    exact ⟨_, rfl, Own.nil _ _, Below.refl _ _⟩
  | some ad =>
    have HN : Hid (∀ j u, (flat L)[j]? = some u → w.cell? (ad.add j) = some u) := by
      intro j u hj
      rcases hr with h | ⟨bb, ob, hbo, hb, hc⟩
      · rw [h] at hj; simp [flat] at hj
      · simp only [Option.some.injEq] at hbo
        subst hbo
        exact flat_cells (.inr ⟨bb, ob, rfl, hb, hc⟩) j u hj
    have H1 := hid (flat_oneCell L)
    clear hr
    go_enter Try.func16, Try.ntmps16
    go_wp2_with (at_builtin; refine wpList_append_own _ rfl (.tmp 4) (.tmp 5) 38 rfl w.heap.size 53 i0 (.agg #[.int .i64 0, .int .i64 0]) 2 16 Try.underlying38 hi hz0 hz1 hz2 rfl (by decide) _ _ _ rfl (World.ownsRow_nil w w.heap.size 53 2) ad L.length c (flat L) rfl (flat_len L) HN.out H1.out ?d3 ?d4 ?d5 ?_)
    case d3 => unfold maxLen; omega
    case d4 => omega
    case d5 => exact Nat.le_refl _
    intro v1 w3 hown1 hgr1 _
    go_wp2
    go_ret
    refine ⟨v1, rfl, ?_, ?_⟩
    · unfold Own; simpa using hown1
    · exact (Below.refl _ w).grown hgr1 (Nat.le_refl _) (by intro k hk; simp [Value.ownBlock] at hk)

theorem own_one (w : World) (s v : Int) : Own (w.alloc (.cells #[.int .i64 s, .int .i64 v] 53)) w.heap.size (.slice (some ⟨w.heap.size, 0, none⟩) 1 1) [(s, v)] := ⟨rfl, .inr ⟨w.heap.size, 1, #[.int .i64 s, .int .i64 v], rfl, Nat.le_refl _, heap_alloc_new w _, Nat.le_refl _, by unfold maxLen; omega, rfl, rfl⟩⟩
/-- The state of l13Dedup2. -/
def Dd2 (w : World) (T : List Sm) (gap : Int) (O : List Sm) (s0 s1 : Value) : Prop := ∃ (A B : List Sm) (a1 a2 : Option Addr) (c1 c2 : Nat), s0 = .slice a1 A.length c1 ∧ s1 = .slice a2 B.length c2 ∧ Tml A ∧ Tml B ∧ HasS w a1 A ∧ HasS w a2 B ∧ T = O ++ D gap (lastS O).1 (bh (lastS O).1 A) (bh (lastS O).1 B)
theorem dd2_stay {gap l : Int} {A B G : List Sm} {p : Sm} (h : bh l A = p :: G) (hs : sw gap l (p :: G) (bh l B) = false) : D gap l (bh l A) (bh l B) = p :: D gap p.1 (bh p.1 A) (bh p.1 B) := by
  have hp := bh_head h
  have h1 := D_stay hs
  rw [← h, bh_bh (by omega), bh_bh (by omega)] at h1
  exact h1
theorem dd2_swap {gap l : Int} {A B G : List Sm} {p : Sm} (h : bh l B = p :: G) (hs : sw gap l (bh l A) (p :: G) = true) : D gap l (bh l A) (bh l B) = p :: D gap p.1 (bh p.1 B) (bh p.1 A) := by
  have hp := bh_head h
  have h1 := D_swap hs
  rw [← h, bh_bh (by omega), bh_bh (by omega)] at h1
  exact h1

set_option maxHeartbeats 8000000 in
set_option maxRecDepth 100000 in
theorem f40 (a b : Option Addr) (c d : Nat) (xs ys : List Sm) (gap : Int) (w : World) (hx : Tml xs) (hy : Tml ys) (hr : HasS w a xs) (hs : HasS w b ys) (hp : 0 < xs.length) (hg0 : 0 ≤ gap) (hg1 : gap ≤ 1000000) (T : List Sm) (hT : T = xs.getD 0 e0 :: D gap (xs.getD 0 e0).1 (bh (xs.getD 0 e0).1 xs) (bh (xs.getD 0 e0).1 ys)) (hTl : T.length ≤ 2097152) :
    Calls Try.prog 40 #[.slice a xs.length c, .slice b ys.length d, .int .i64 gap] w fun e w' => ∃ v, e = .returned v ∧ Own w' w.heap.size v T ∧ Below w.heap.size w w' := by
  obtain ⟨i0, hi, hz0, hz1, hz2⟩ := info_parts infoS
  obtain ⟨ba, oa, rfl, hba, x0, x1⟩ := has_first hr hp
  have HT := hid hT
  have HTL := hid hTl
  have tp : TimeP (xs.getD 0 e0).1 := hx.at hp
  generalize hpp : xs.getD 0 e0 = p at *
  obtain ⟨s, v⟩ := p
  simp only at x0 x1 tp
  have HI : Hid (Dd2 w T gap [(s, v)] (.slice (some ⟨ba, oa, none⟩) xs.length c) (.slice b ys.length d)) := ⟨xs, ys, _, b, c, d, rfl, rfl, hx, hy, hr, hs, by rw [HT.out]; rfl⟩
  have HO0 : Hid (Own (w.alloc (.cells #[.int .i64 s, .int .i64 v] 53)) w.heap.size (.slice (some ⟨w.heap.size, 0, none⟩) 1 1) [(s, v)]) := own_one w s v
  have HB0 := hid ((Below.refl w.heap.size w).alloc (Nat.le_refl _) (.cells #[.int .i64 s, .int .i64 v] 53))
  have hp' : (0 : Int) < (xs.length : Int) := by omega
  generalize xs.length = n at *
  generalize ys.length = m at *
  clear hpp hx hy hr hs hT hTl
  go_enter Try.func40, Try.ntmps40
  go_wp2_with fail
  go_loopw [0, 1, 7] (fun s0 s1 so wr => ∃ O : List Sm, O ≠ [] ∧ TimeP (lastS O).1 ∧ Own wr w.heap.size so O ∧ Hid (Dd2 w T gap O s0 s1) ∧ Hid (Below w.heap.size w wr)) (fun _ _ so _ => T.length - lenOf so)
  case atStart => exact ⟨[(s, v)], by simp, tp, HO0.out, HI.out, HB0.out⟩
  case round =>
    obtain ⟨O, hO, tl, hown, hdi, HX⟩ := hrel
    obtain ⟨A, B, a1, a2, c1, c2, rfl, rfl, hA, hB, hra, hrb, hTe⟩ := hdi.out
    have HO := hid hown
    obtain ⟨ao, co, rfl⟩ := own_form hown
    have hpos : 0 < O.length := by cases O with | nil => exact absurd rfl hO | cons => simp
    obtain ⟨bo, oo, rfl, _, l0, _⟩ := has_last hown.has.2 hpos
    have HOL : Hid (O.length + 1 ≤ 2097153) := by
      have h1 := HTL.out
      have h2 := congrArg List.length hTe
      simp at h2
      unfold Hid; omega
    have HRA := hid hra
    have HRB := hid hrb
    have HTA := hid hA
    have HTB := hid hB
    have HTE := hid hTe
    clear HI HO0 HB0 hdi hown hra hrb hA hB hTe x0 x1
    generalize hl : (lastS O).1 = l at *
    have HL := hid hl
    have hl0 : 0 ≤ l := tl.1
    have hl1 : l ≤ 1000000000000 := tl.2
    have hk : ((O.length : Int) - 1) = ((O.length - 1 : Nat) : Int) := by omega
    have i1 : ((O.length - 1 : Nat) : Int) < (O.length : Int) := by omega
    have hmm : O.length - 1 ≤ 2097152 := by have := HOL.out; omega
    generalize hm : O.length - 1 = mm at *
    clear hl hm hO tl
    go_wp2_with fail
    refine (f60 a1 c1 A l _ HTA.out.1 (HRA.out.below HX.out)).mono ?_
    rintro e w1 ⟨rfl, hb1⟩
    have HX1 := hid (HX.out.trans (hb1.mono HX.out.size))
    have HO1 := hid (HO.out.below hb1)
    have HNX := hid (bhT_no (t := l) (ls := A))
    have HYX := hid (bhT_yes (t := l) (ls := A))
    generalize bhT l A = X at *
    obtain ⟨⟨x, xv⟩, ok⟩ := X
    simp only at HNX HYX
    clear hb1 l0
    have HBX := hid (heap_alloc_new w1 (.cells #[.int .i64 x, .int .i64 xv] 53))
    have HXA := hid (HX1.out.alloc HX1.out.size (.cells #[.int .i64 x, .int .i64 xv] 53))
    have HOA : Hid (Own (w1.alloc (.cells #[.int .i64 x, .int .i64 xv] 53)) w.heap.size (.slice (some ⟨bo, oo, none⟩) O.length co) O) := World.ownsRow.alloc HO1.out _
    go_wp2_with fail
    refine (f60 a2 c2 B l _ HTB.out.1 (HRB.out.below HXA.out)).mono ?_
    rintro e w2 ⟨rfl, hb2⟩
    have HX2 := hid (HXA.out.trans (hb2.mono HXA.out.size))
    have HO2 := hid (HOA.out.below hb2)
    have HBX2 := hid (box_below HBX.out hb2)
    have HNY := hid (bhT_no (t := l) (ls := B))
    have HYY := hid (bhT_yes (t := l) (ls := B))
    generalize bhT l B = Y at *
    obtain ⟨⟨y, yv⟩, there⟩ := Y
    simp only at HNY HYY
    have l12 : w1.heap.size < w2.heap.size := (Array.getElem?_eq_some_iff.1 HBX2.out).1
    have HBY := hid (heap_alloc_new w2 (.cells #[.int .i64 y, .int .i64 yv] 53))
    have HBX3 := hid (box_alloc HBX2.out (.cells #[.int .i64 y, .int .i64 yv] 53))
    have HX3 := hid (HX2.out.alloc HX2.out.size (.cells #[.int .i64 y, .int .i64 yv] 53))
    have HO3 : Hid (Own (w2.alloc (.cells #[.int .i64 y, .int .i64 yv] 53)) w.heap.size (.slice (some ⟨bo, oo, none⟩) O.length co) O) := World.ownsRow.alloc HO2.out _
    have HNE : Hid (bo < w1.heap.size) := (World.ownsRow.lt HO1.out bo rfl).2
    have HW1 := hid HX1.out.size
    clear hb2 HBX HBX2 HXA HOA HX2 HO2 HX HO HX1 HO1
    go_upto_region 5 with fail
    generalize w2.alloc (.cells #[.int .i64 y, .int .i64 yv] 53) = W at *
    have p0 := two0 HBX3.out
    have p1 := two1 HBX3.out
    have f0 := twof (o := 0) HBX3.out rfl
    have f1 := twof (o := 1) HBX3.out rfl
    have q0 := two0 HBY.out
    have q1 := two1 HBY.out
    generalize w1.heap.size = S9 at *
    generalize w2.heap.size = S11 at *
    cases ok with
    | false =>
      cases there with
      | false =>
        have HF : Hid (T = O) := by
          unfold Hid; rw [HTE.out, HNX.out rfl, HNY.out rfl, D_nil, List.append_nil]
        go_wp2
        go_ret
        exact ⟨_, rfl, by rw [HF.out]; exact HO3.out, HX3.out⟩
      | true =>
        obtain ⟨G, hG⟩ := HYY.out rfl
        have HSW : Hid (sw gap l (bh l A) ((y, yv) :: G) = true) := by unfold Hid; rw [HNX.out rfl]; simp [sw]
        have HTM : Hid (TimeP y) := HTB.out.2 (y, yv) (bh_mem (by rw [hG]; exact List.mem_cons_self))
        have HTF : Hid (T = (O ++ [(y, yv)]) ++ D gap y (bh y B) (bh y A)) := by
          unfold Hid; rw [HTE.out, dd2_swap hG HSW.out, List.append_assoc]; rfl
        clear hG
        go_upto_region 9 with fail
        have HGW := hid (grown_setRow (o := 1) (grown_setRow (o := 0) (w := W) (g := S9) ⟨rfl, rfl, rfl, Nat.le_refl _, fun _ _ _ => rfl⟩ (.int .i64 y)) (.int .i64 yv))
        have HBW := hid (two_set (.int .i64 y) (.int .i64 yv) HBX3.out)
        generalize ((W.setCell ⟨S9, 0, none⟩ (.int .i64 y)).setCell ⟨S9, 1, none⟩ (.int .i64 yv)) = V at *
        have HXV : Hid (Below w.heap.size w V) := below_grown HX3.out HGW.out HX3.out.size HW1.out
        have HOV : Hid (Own V w.heap.size (.slice (some ⟨bo, oo, none⟩) O.length co) O) := Own.kept HO3.out HGW.out (fun g hg e => by have h1 := Option.some.inj hg; have h2 := Option.some.inj e; have h3 := HNE.out; simp at h1; omega)
        clear p0 p1 f0 f1 q0 q1 HGW
        have p0 := two0 HBW.out
        have p1 := two1 HBW.out
        go_wp2_with (at_builtin; refine wpList_append_own _ rfl (.tmp 66) (.tmp 68) 38 rfl w.heap.size 53 i0 (.agg #[.int .i64 0, .int .i64 0]) 2 16 Try.underlying38 hi hz0 hz1 hz2 rfl (by decide) _ _ _ rfl (World.ownsRow.alloc HOV.out _) ⟨V.heap.size, 0, none⟩ 1 1 [.int .i64 y, .int .i64 yv] rfl rfl ?d1x ?d2x ?d3x ?d4x ?d5x ?_)
        try (case d1x => exact two_new _ _ _ _)
        case d2x => first | exact ⟨rfl, rfl⟩ | (intro u hu; simp at hu; rcases hu with rfl | rfl <;> rfl)
        case d3x => have := HOL.out; unfold maxLen; omega
        case d4x => have := HOL.out; omega
        case d5x => have := HXV.out.size; simp; omega
        intro v1 w3 hown1 hgr1 _
        have HOF := hid (Own.snoc (p := (y, yv)) hown1)
        have HXF := hid ((HXV.out.alloc HXV.out.size (.cells #[.int .i64 y, .int .i64 yv] 53)).grown hgr1 (by have := HXV.out.size; simp; omega) (fun k hk => (World.ownsRow.lt HOV.out k hk).1))
        obtain ⟨a1', c1', rfl⟩ := own_form hown1
        clear hown1 hgr1
        go_wp2
        go_roundw
        case rel => exact ⟨O ++ [(y, yv)], by simp, by rw [lastS_append]; exact HTM.out, HOF.out, ⟨B, A, a2, a1, c2, c1, rfl, rfl, HTB.out, HTA.out, HRB.out, HRA.out, by rw [lastS_append]; exact HTF.out⟩, HXF.out⟩
        case measure =>
          have h2 := congrArg List.length HTF.out
          simp at h2
          simp [lenOf]
          omega
    | true =>
      by_cases h1 : l + gap < x
      · cases there with
        | false =>
          obtain ⟨G, hG⟩ := HYX.out rfl
          have HSW : Hid (sw gap l ((x, xv) :: G) (bh l B) = false) := by unfold Hid; rw [HNY.out rfl]; simp [sw]
          have HTM : Hid (TimeP x) := HTA.out.2 (x, xv) (bh_mem (by rw [hG]; exact List.mem_cons_self))
          have HTF : Hid (T = (O ++ [(x, xv)]) ++ D gap x (bh x A) (bh x B)) := by
            unfold Hid; rw [HTE.out, dd2_stay hG HSW.out, List.append_assoc]; rfl
          clear hG
          go_wp2_with (at_builtin; refine wpList_append_own _ rfl (.tmp 66) (.tmp 68) 38 rfl w.heap.size 53 i0 (.agg #[.int .i64 0, .int .i64 0]) 2 16 Try.underlying38 hi hz0 hz1 hz2 rfl (by decide) _ _ _ rfl (World.ownsRow.alloc HO3.out _) ⟨W.heap.size, 0, none⟩ 1 1 [.int .i64 x, .int .i64 xv] rfl rfl ?d1y ?d2y ?d3y ?d4y ?d5y ?_)
          try (case d1y => exact two_new _ _ _ _)
          case d2y => first | exact ⟨rfl, rfl⟩ | (intro u hu; simp at hu; rcases hu with rfl | rfl <;> rfl)
          case d3y => have := HOL.out; unfold maxLen; omega
          case d4y => have := HOL.out; omega
          case d5y => have := HX3.out.size; simp; omega
          intro v1 w3 hown1 hgr1 _
          have HOF := hid (Own.snoc (p := (x, xv)) hown1)
          have HXF := hid ((HX3.out.alloc HX3.out.size (.cells #[.int .i64 x, .int .i64 xv] 53)).grown hgr1 (by have := HX3.out.size; simp; omega) (fun k hk => (World.ownsRow.lt HO3.out k hk).1))
          obtain ⟨a1', c1', rfl⟩ := own_form hown1
          clear hown1 hgr1
          go_wp2
          go_roundw
          case rel => exact ⟨O ++ [(x, xv)], by simp, by rw [lastS_append]; exact HTM.out, HOF.out, ⟨A, B, a1, a2, c1, c2, rfl, rfl, HTA.out, HTB.out, HRA.out, HRB.out, by rw [lastS_append]; exact HTF.out⟩, HXF.out⟩
          case measure =>
            have h2 := congrArg List.length HTF.out
            simp at h2
            simp [lenOf]
            omega
        | true =>
          by_cases h2 : y < x
          · obtain ⟨G, hG⟩ := HYY.out rfl
            have HSW : Hid (sw gap l (bh l A) ((y, yv) :: G) = true) := by unfold Hid; obtain ⟨G2, hG2⟩ := HYX.out rfl; rw [hG2]; simp [sw, h2]; omega
            have HTM : Hid (TimeP y) := HTB.out.2 (y, yv) (bh_mem (by rw [hG]; exact List.mem_cons_self))
            have HTF : Hid (T = (O ++ [(y, yv)]) ++ D gap y (bh y B) (bh y A)) := by
              unfold Hid; rw [HTE.out, dd2_swap hG HSW.out, List.append_assoc]; rfl
            clear hG
            go_upto_region 9 with fail
            have HGW := hid (grown_setRow (o := 1) (grown_setRow (o := 0) (w := W) (g := S9) ⟨rfl, rfl, rfl, Nat.le_refl _, fun _ _ _ => rfl⟩ (.int .i64 y)) (.int .i64 yv))
            have HBW := hid (two_set (.int .i64 y) (.int .i64 yv) HBX3.out)
            generalize ((W.setCell ⟨S9, 0, none⟩ (.int .i64 y)).setCell ⟨S9, 1, none⟩ (.int .i64 yv)) = V at *
            have HXV : Hid (Below w.heap.size w V) := below_grown HX3.out HGW.out HX3.out.size HW1.out
            have HOV : Hid (Own V w.heap.size (.slice (some ⟨bo, oo, none⟩) O.length co) O) := Own.kept HO3.out HGW.out (fun g hg e => by have h1 := Option.some.inj hg; have h2 := Option.some.inj e; have h3 := HNE.out; simp at h1; omega)
            clear p0 p1 f0 f1 q0 q1 HGW
            have p0 := two0 HBW.out
            have p1 := two1 HBW.out
            go_wp2_with (at_builtin; refine wpList_append_own _ rfl (.tmp 66) (.tmp 68) 38 rfl w.heap.size 53 i0 (.agg #[.int .i64 0, .int .i64 0]) 2 16 Try.underlying38 hi hz0 hz1 hz2 rfl (by decide) _ _ _ rfl (World.ownsRow.alloc HOV.out _) ⟨V.heap.size, 0, none⟩ 1 1 [.int .i64 y, .int .i64 yv] rfl rfl ?d1z ?d2z ?d3z ?d4z ?d5z ?_)
            try (case d1z => exact two_new _ _ _ _)
            case d2z => first | exact ⟨rfl, rfl⟩ | (intro u hu; simp at hu; rcases hu with rfl | rfl <;> rfl)
            case d3z => have := HOL.out; unfold maxLen; omega
            case d4z => have := HOL.out; omega
            case d5z => have := HXV.out.size; simp; omega
            intro v1 w3 hown1 hgr1 _
            have HOF := hid (Own.snoc (p := (y, yv)) hown1)
            have HXF := hid ((HXV.out.alloc HXV.out.size (.cells #[.int .i64 y, .int .i64 yv] 53)).grown hgr1 (by have := HXV.out.size; simp; omega) (fun k hk => (World.ownsRow.lt HOV.out k hk).1))
            obtain ⟨a1', c1', rfl⟩ := own_form hown1
            clear hown1 hgr1
            go_wp2
            go_roundw
            case rel => exact ⟨O ++ [(y, yv)], by simp, by rw [lastS_append]; exact HTM.out, HOF.out, ⟨B, A, a2, a1, c2, c1, rfl, rfl, HTB.out, HTA.out, HRB.out, HRA.out, by rw [lastS_append]; exact HTF.out⟩, HXF.out⟩
            case measure =>
              have h2 := congrArg List.length HTF.out
              simp at h2
              simp [lenOf]
              omega
          · obtain ⟨G, hG⟩ := HYX.out rfl
            have HSW : Hid (sw gap l ((x, xv) :: G) (bh l B) = false) := by unfold Hid; obtain ⟨G2, hG2⟩ := HYY.out rfl; rw [hG2]; simp [sw]; intro _; omega
            have HTM : Hid (TimeP x) := HTA.out.2 (x, xv) (bh_mem (by rw [hG]; exact List.mem_cons_self))
            have HTF : Hid (T = (O ++ [(x, xv)]) ++ D gap x (bh x A) (bh x B)) := by
              unfold Hid; rw [HTE.out, dd2_stay hG HSW.out, List.append_assoc]; rfl
            clear hG
            go_wp2_with (at_builtin; refine wpList_append_own _ rfl (.tmp 66) (.tmp 68) 38 rfl w.heap.size 53 i0 (.agg #[.int .i64 0, .int .i64 0]) 2 16 Try.underlying38 hi hz0 hz1 hz2 rfl (by decide) _ _ _ rfl (World.ownsRow.alloc HO3.out _) ⟨W.heap.size, 0, none⟩ 1 1 [.int .i64 x, .int .i64 xv] rfl rfl ?d1u ?d2u ?d3u ?d4u ?d5u ?_)
            try (case d1u => exact two_new _ _ _ _)
            case d2u => first | exact ⟨rfl, rfl⟩ | (intro u hu; simp at hu; rcases hu with rfl | rfl <;> rfl)
            case d3u => have := HOL.out; unfold maxLen; omega
            case d4u => have := HOL.out; omega
            case d5u => have := HX3.out.size; simp; omega
            intro v1 w3 hown1 hgr1 _
            have HOF := hid (Own.snoc (p := (x, xv)) hown1)
            have HXF := hid ((HX3.out.alloc HX3.out.size (.cells #[.int .i64 x, .int .i64 xv] 53)).grown hgr1 (by have := HX3.out.size; simp; omega) (fun k hk => (World.ownsRow.lt HO3.out k hk).1))
            obtain ⟨a1', c1', rfl⟩ := own_form hown1
            clear hown1 hgr1
            go_wp2
            go_roundw
            case rel => exact ⟨O ++ [(x, xv)], by simp, by rw [lastS_append]; exact HTM.out, HOF.out, ⟨A, B, a1, a2, c1, c2, rfl, rfl, HTA.out, HTB.out, HRA.out, HRB.out, by rw [lastS_append]; exact HTF.out⟩, HXF.out⟩
            case measure =>
              have h2 := congrArg List.length HTF.out
              simp at h2
              simp [lenOf]
              omega
      · obtain ⟨G, hG⟩ := HYX.out rfl
        have HSW : Hid (sw gap l ((x, xv) :: G) (bh l B) = false) := by unfold Hid; simp [sw]; intro _ h; omega
        have HTM : Hid (TimeP x) := HTA.out.2 (x, xv) (bh_mem (by rw [hG]; exact List.mem_cons_self))
        have HTF : Hid (T = (O ++ [(x, xv)]) ++ D gap x (bh x A) (bh x B)) := by
          unfold Hid; rw [HTE.out, dd2_stay hG HSW.out, List.append_assoc]; rfl
        clear hG
        go_wp2_with (at_builtin; refine wpList_append_own _ rfl (.tmp 66) (.tmp 68) 38 rfl w.heap.size 53 i0 (.agg #[.int .i64 0, .int .i64 0]) 2 16 Try.underlying38 hi hz0 hz1 hz2 rfl (by decide) _ _ _ rfl (World.ownsRow.alloc HO3.out _) ⟨W.heap.size, 0, none⟩ 1 1 [.int .i64 x, .int .i64 xv] rfl rfl ?d1v ?d2v ?d3v ?d4v ?d5v ?_)
        try (case d1v => exact two_new _ _ _ _)
        case d2v => first | exact ⟨rfl, rfl⟩ | (intro u hu; simp at hu; rcases hu with rfl | rfl <;> rfl)
        case d3v => have := HOL.out; unfold maxLen; omega
        case d4v => have := HOL.out; omega
        case d5v => have := HX3.out.size; simp; omega
        intro v1 w3 hown1 hgr1 _
        have HOF := hid (Own.snoc (p := (x, xv)) hown1)
        have HXF := hid ((HX3.out.alloc HX3.out.size (.cells #[.int .i64 x, .int .i64 xv] 53)).grown hgr1 (by have := HX3.out.size; simp; omega) (fun k hk => (World.ownsRow.lt HO3.out k hk).1))
        obtain ⟨a1', c1', rfl⟩ := own_form hown1
        clear hown1 hgr1
        go_wp2
        go_roundw
        case rel => exact ⟨O ++ [(x, xv)], by simp, by rw [lastS_append]; exact HTM.out, HOF.out, ⟨A, B, a1, a2, c1, c2, rfl, rfl, HTA.out, HTB.out, HRA.out, HRB.out, by rw [lastS_append]; exact HTF.out⟩, HXF.out⟩
        case measure =>
          have h2 := congrArg List.length HTF.out
          simp at h2
          simp [lenOf]
          omega
end Go.Proofs.Ytailoeloonnoeaa.Smp
/- The model's l13Dedup; both DedupSamples. -/
namespace Go.Proofs.Ytailoeloonnoeaa.Smp
open Go.RowKit

theorem has_none {w : World} {a : Option Addr} {L : List Sm} (h : HasS w a L) : a = none → L = [] := by
  rintro rfl
  rcases h with h | ⟨b, off, h1, _⟩
  · exact h
  · cases h1
theorem dedT_e {gap : Int} {xs ys : List Sm} (h : xs.length = 0) : dedT gap xs ys = ys := by
  cases xs with
  | nil => cases ys <;> rfl
  | cons => simp at h
theorem dedT_2 {gap : Int} {xs ys : List Sm} (h : 0 < xs.length) (h' : 0 < ys.length) (hlt : (ys.getD 0 e0).1 < (xs.getD 0 e0).1) : dedT gap xs ys = ys.getD 0 e0 :: D gap (ys.getD 0 e0).1 (bh (ys.getD 0 e0).1 ys) (bh (ys.getD 0 e0).1 xs) := by
  cases xs with
  | nil => simp at h
  | cons x X =>
    cases ys with
    | nil => simp at h'
    | cons y Y => simp at hlt; simp [dedT, hlt]
theorem dedT_1 {gap : Int} {xs ys : List Sm} (h : 0 < xs.length) (hlt : 0 < ys.length → ¬ (ys.getD 0 e0).1 < (xs.getD 0 e0).1) : dedT gap xs ys = xs.getD 0 e0 :: D gap (xs.getD 0 e0).1 (bh (xs.getD 0 e0).1 xs) (bh (xs.getD 0 e0).1 ys) := by
  cases xs with
  | nil => simp at h
  | cons x X =>
    cases ys with
    | nil => rfl
    | cons y Y =>
      have := hlt (by simp)
      simp at this
      simp [dedT, show ¬ y.1 < x.1 from by omega]

set_option maxHeartbeats 4000000 in
theorem f17 (a b : Option Addr) (c d : Nat) (xs ys : List Sm) (gap : Int) (w : World) (hx : Tml xs) (hy : Tml ys) (hpw : ys.Pairwise (fun x y => x.1 < y.1)) (hr : HasS w a xs) (hs : HasS w b ys) (hg0 : 0 ≤ gap) (hg1 : gap ≤ 1000000) :
    Calls Try.prog 17 #[.slice a xs.length c, .slice b ys.length d, .int .i64 gap] w fun e w' => ∃ v, e = .returned v ∧ Own w' w.heap.size v (dedT gap xs ys) ∧ Below w.heap.size w w' := by
  have HTL : Hid ((dedT gap xs ys).length ≤ 2097152) := by
    have h1 := dedT_len gap xs ys hpw
    have h2 := hx.1
    have h3 := hy.1
    unfold Hid; omega
  have hn20 := hx.1
  have hm20 := hy.1
  by_cases hn : xs.length = 0
  · have q1 : ((xs.length : Int) == 0) = true := by simp [hn]
    have HE := hid (dedT_e (gap := gap) (ys := ys) hn)
    clear hn
    go_enter Try.func17, Try.ntmps17
    go_wp2_with fail
    refine (f16n b d ys _ hm20 hs (has_none hs)).mono ?_
    rintro e w1 ⟨v1, rfl, ho1, hb1⟩
    go_wp2
    go_ret
    exact ⟨_, rfl, by rw [HE.out]; exact ho1, hb1⟩
  · have q1 : ((xs.length : Int) == 0) = false := beq_eq_false_iff_ne.2 (by omega)
    have hp1 : 0 < xs.length := by omega
    have p1 : (0 : Int) < (xs.length : Int) := by omega
    by_cases hm : ys.length = 0
    · have q2 : decide (0 < ys.length) = false := decide_eq_false (by omega)
      have HE := hid (dedT_1 (gap := gap) (ys := ys) hp1 (by omega))
      have HC := fun W hb => hid (f40 a b c d xs ys gap W hx hy (hr.below hb) (hs.below hb) hp1 hg0 hg1 _ HE.out HTL.out)
      clear hn hm
      go_enter Try.func17, Try.ntmps17
      go_wp2_with fail
      go_quiet (fail)
      go_wp2_with fail
      refine (HC (w.drewN nq) (below_drewN (Below.refl _ _) _)).out.mono ?_
      rintro e w1 ⟨v1, rfl, ho1, hb1⟩
      go_wp2
      go_ret
      exact ⟨_, rfl, ho1, (below_drewN (Below.refl _ _) _).trans hb1⟩
    · have q2 : decide (0 < ys.length) = true := decide_eq_true (by omega)
      have hp2 : 0 < ys.length := by omega
      have p2 : (0 : Int) < (ys.length : Int) := by omega
      obtain ⟨ba, oa, ea, _, x0, _⟩ := has_first hr hp1
      obtain ⟨bb, ob, eb, _, y0, _⟩ := has_first hs hp2
      by_cases hlt : (ys.getD 0 e0).1 < (xs.getD 0 e0).1
      · have HE := hid (dedT_2 (gap := gap) hp1 hp2 hlt)
        have HC := fun W hb => hid (f40 b a d c ys xs gap W hy hx (hs.below hb) (hr.below hb) hp2 hg0 hg1 _ HE.out HTL.out)
        clear hn hm HE
        generalize hA : (xs.getD 0 e0).1 = X at *
        generalize hB : (ys.getD 0 e0).1 = Y at *
        subst ea eb
        clear hA hB
        go_enter Try.func17, Try.ntmps17
        go_wp2_with fail
        go_quiet (fail)
        go_wp2_with fail
        refine (HC (w.drewN nq) (below_drewN (Below.refl _ _) _)).out.mono ?_
        rintro e w1 ⟨v1, rfl, ho1, hb1⟩
        go_wp2
        go_ret
        exact ⟨_, rfl, ho1, (below_drewN (Below.refl _ _) _).trans hb1⟩
      · have HE := hid (dedT_1 (gap := gap) (ys := ys) hp1 (fun _ => hlt))
        have HC := fun W hb => hid (f40 a b c d xs ys gap W hx hy (hr.below hb) (hs.below hb) hp1 hg0 hg1 _ HE.out HTL.out)
        clear hn hm HE
        generalize hA : (xs.getD 0 e0).1 = X at *
        generalize hB : (ys.getD 0 e0).1 = Y at *
        subst ea eb
        clear hA hB
        go_enter Try.func17, Try.ntmps17
        go_wp2_with fail
        go_quiet (fail)
        go_wp2_with fail
        refine (HC (w.drewN nq) (below_drewN (Below.refl _ _) _)).out.mono ?_
        rintro e w1 ⟨v1, rfl, ho1, hb1⟩
        go_wp2
        go_ret
        exact ⟨_, rfl, ho1, (below_drewN (Below.refl _ _) _).trans hb1⟩
theorem good_tml {L : List Sm} (h : GoodP L) : Tml L := ⟨by have := h.1; omega, good_mem h⟩

end Go.Proofs.Ytailoeloonnoeaa.Smp
