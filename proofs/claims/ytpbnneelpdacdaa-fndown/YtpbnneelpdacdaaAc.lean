/- Both GoodAggs. -/
import Derived.Test.YtpbnneelpdacdaaAa
namespace Go.Proofs.Ytpbnneelpdacdaa.Agl
open Go.RowKit

/-- An agg is as it should be but for its place. -/
def OkN (p : Ag) : Prop := 1 ≤ p.n ∧ p.n ≤ 2000 ∧ p.mi ≤ p.f ∧ p.mi ≤ p.l ∧ p.f ≤ p.ma ∧ p.l ≤ p.ma
instance (p : Ag) : Decidable (OkN p) := by unfold OkN; infer_instance
/-- The agg at i is as it should be. -/
def OkAt (res : Int) (ls : List Ag) (i : Nat) : Prop := (0 ≤ (ls.getD i a0).t ∧ (ls.getD i a0).t ≤ 1000001000000 ∧ (ls.getD i a0).t % res = 0 ∧ (0 < i → (ls.getD (i - 1) a0).t < (ls.getD i a0).t)) ∧ OkN (ls.getD i a0)
instance (res : Int) (ls : List Ag) (i : Nat) : Decidable (OkAt res ls i) := by unfold OkAt; infer_instance
def ResP (res : Int) : Prop := 1 ≤ res ∧ res ≤ 1000000
instance (res : Int) : Decidable (ResP res) := by unfold ResP; infer_instance
def GoodP (res : Int) (ls : List Ag) : Prop := ResP res ∧ ls.length ≤ 2000 ∧ ∀ i, i < ls.length → OkAt res ls i
instance (res : Int) (ls : List Ag) : Decidable (GoodP res ls) := by unfold GoodP; infer_instance
def goodA (res : Int) (ls : List Ag) : Bool := decide (GoodP res ls)
def Upto (res : Int) (ls : List Ag) (k : Nat) : Prop := ∀ i, i < k → OkAt res ls i
theorem Upto.succ {res : Int} {ls : List Ag} {k : Nat} (h : Upto res ls k) (h1 : OkAt res ls k) : Upto res ls (k + 1) := by
  intro i hi
  by_cases e : i = k
  · subst e; exact h1
  · exact h i (by omega)
theorem good_no {res : Int} {ls : List Ag} {k : Nat} (hk : k < ls.length) (h : ¬ OkAt res ls k) : goodA res ls = false := decide_eq_false fun g => h (g.2.2 k hk)
theorem good_end {res : Int} {ls : List Ag} {k : Nat} (hr : ResP res) (h2 : ls.length ≤ 2000) (hk : ls.length ≤ k) (h : Upto res ls k) : goodA res ls = true := decide_eq_true ⟨hr, h2, fun i hi => h i (by omega)⟩
theorem good_res {res : Int} {ls : List Ag} (h : ¬ ResP res) : goodA res ls = false := decide_eq_false fun g => h g.1
theorem good_len {res : Int} {ls : List Ag} (h : ¬ ls.length ≤ 2000) : goodA res ls = false := decide_eq_false fun g => h g.2.1

theorem f34 (t : Int) (w : World) : Calls Try.prog 34 #[.int .i64 t] w fun e w' => e = .returned (.bool (decide (ResP t))) ∧ w' = w := by
  by_cases h1 : 1 ≤ t
  · go_enter Try.func34, Try.ntmps34
    go_wp2
    go_ret
    exact ⟨ret_bool (by unfold ResP; rw [Bool.eq_iff_iff]; simp [h1]), rfl⟩
  · go_enter Try.func34, Try.ntmps34
    go_wp2
    go_ret
    exact ⟨ret_bool (by symm; exact decide_eq_false fun h => absurd h.1 (by omega)), rfl⟩
theorem f30 (t : Int) (w : World) : Calls Try.prog 30 #[.int .i64 t] w fun e w' => e = .returned (.bool (decide (ResP t))) ∧ w' = w := by
  by_cases h1 : 1 ≤ t
  · go_enter Try.func30, Try.ntmps30
    go_wp2
    go_ret
    exact ⟨ret_bool (by unfold ResP; rw [Bool.eq_iff_iff]; simp [h1]), rfl⟩
  · go_enter Try.func30, Try.ntmps30
    go_wp2
    go_ret
    exact ⟨ret_bool (by symm; exact decide_eq_false fun h => absurd h.1 (by omega)), rfl⟩

set_option maxRecDepth 100000 in
set_option maxHeartbeats 4000000 in
theorem f10 (a : Option Addr) (c : Nat) (res : Int) (ls : List Ag) (w : World) (hmax : ls.length ≤ 1048576) (hr : HasA w a ls) :
    Calls Try.prog 10 #[.slice a ls.length c, .int .i64 res] w fun e w' => e = .returned (.bool (goodA res ls)) ∧ Below w.heap.size w w' := by
  generalize hn : ls.length = n at *
  have HN := hid hn
  clear hn
  by_cases hres : ResP res
  rotate_left
  · have hd := decide_eq_false hres
    have HG := hid (good_res (ls := ls) hres)
    go_enter Try.func10, Try.ntmps10
    go_wp2_with fail
    refine (f34 res _).mono ?_
    rw [hd]
    rintro e w2 ⟨rfl, rfl⟩
    go_wp2
    go_ret
    exact ⟨ret_bool HG.out.symm, Below.refl _ _⟩
  have hd := decide_eq_true hres
  by_cases h20 : n ≤ 2000
  rotate_left
  · have HG := hid (good_len (res := res) (ls := ls) (by rw [HN.out]; exact h20))
    go_enter Try.func10, Try.ntmps10
    go_wp2_with fail
    refine (f34 res _).mono ?_
    rw [hd]
    rintro e w2 ⟨rfl, rfl⟩
    go_wp2
    go_ret
    exact ⟨ret_bool HG.out.symm, Below.refl _ _⟩
  have HRes := hid hres
  obtain ⟨r1, r2⟩ := hres
  go_enter Try.func10, Try.ntmps10
  go_wp2_with fail
  refine (f34 res _).mono ?_
  rw [hd]
  rintro e w2 ⟨rfl, rfl⟩
  clear hd
  go_wp2
  go_loopw [17] (fun i wr => ∃ k : Nat, k ≤ n ∧ i = .int .i64 k ∧ Hid (Upto res ls k) ∧ Below w2.heap.size w2 wr) (fun i _ => n - (intOf i).toNat)
  case atStart => exact ⟨0, Nat.zero_le _, rfl, fun i hi => by omega, Below.refl _ _⟩
  case round =>
    obtain ⟨k, hk, rfl, hu, hnx⟩ := hrel
    have HX := hid hnx
    by_cases hlt : k < n
    rotate_left
    · have HE := hid (good_end HRes.out (by rw [HN.out]; exact h20) (k := k) (by rw [HN.out]; omega) hu.out)
      go_wp2
      go_ret
      exact ⟨ret_bool HE.out.symm, HX.out⟩
    rcases hr with hr | ⟨b, off, rfl, hbl, hc⟩
    · exact absurd HN.out (by rw [hr]; simp; omega)
    obtain ⟨d0, d1, d2, d3, d4, d5, d6, d7⟩ := (hc k (by rw [HN.out]; exact hlt)).below hnx hbl
    have HNo := hid (good_no (res := res) (ls := ls) (k := k) (by rw [HN.out]; exact hlt))
    have HUs := hid (hu.out.succ (k := k))
    have lb : b < wr.heap.size := Nat.lt_of_lt_of_le hbl hnx.size
    have HQ : Hid (OkAt res ls k ↔ (0 ≤ (ls.getD k a0).t ∧ (ls.getD k a0).t ≤ 1000001000000 ∧ (ls.getD k a0).t % res = 0 ∧ (0 < k → (ls.getD (k - 1) a0).t < (ls.getD k a0).t)) ∧ (1 ≤ (ls.getD k a0).n ∧ (ls.getD k a0).n ≤ 2000 ∧ (ls.getD k a0).mi ≤ (ls.getD k a0).f ∧ (ls.getD k a0).mi ≤ (ls.getD k a0).l ∧ (ls.getD k a0).f ≤ (ls.getD k a0).ma ∧ (ls.getD k a0).l ≤ (ls.getD k a0).ma)) := Iff.rfl
    clear hnx
    have HC := hid hc
    clear hc
    generalize ls.getD k a0 = p at *
    obtain ⟨x0, x1, x2, x3, x4, x5, x6, x7⟩ := p
    simp only at d0 d1 d2 d3 d4 d5 d6 d7 HQ
    have hn0 : res ≠ 0 := by omega
    by_cases ht : x0 < 0
    · have HNn := hid (HNo.out fun g => by have := (HQ.out.1 g).1.1; omega)
      have b0 : decide (x0 < 0) = true := decide_eq_true ht
      clear ht
      by_cases h1 : x0.tmod res = 0
      · have n1 : (x0.tmod res != 0) = false := by rw [h1]; rfl
        clear h1
        go_wp2
        go_quiet (fail)
        go_wp2
        go_ret
        exact ⟨ret_bool HNn.out.symm, below_drewN (HX.out.alloc HX.out.size _) _⟩
      · have n1 : (x0.tmod res != 0) = true := by rw [bne_iff_ne]; exact h1
        clear h1
        go_wp2
        go_quiet (fail)
        go_wp2
        go_ret
        exact ⟨ret_bool HNn.out.symm, below_drewN (HX.out.alloc HX.out.size _) _⟩
    have et : x0.tmod res = x0 % res := Int.tmod_eq_emod_of_nonneg (by omega)
    have b0 : decide (x0 < 0) = false := decide_eq_false ht
    by_cases h1 : x0 % res = 0
    rotate_left
    · have HNn := hid (HNo.out fun g => h1 (HQ.out.1 g).1.2.2.1)
      have n1 : (x0 % res != 0) = true := by rw [bne_iff_ne]; exact h1
      clear h1 ht
      go_wp2
      go_quiet (fail)
      go_wp2
      go_ret
      exact ⟨ret_bool HNn.out.symm, below_drewN (HX.out.alloc HX.out.size _) _⟩
    have H1 := hid h1
    have n1 : (x0 % res != 0) = false := by rw [h1]; rfl
    have Ht := hid ht
    clear h1 ht
    by_cases h2 : 1000001000000 < x0
    · have HNn := hid (HNo.out fun g => by have := (HQ.out.1 g).1.2.1; omega)
      have b2 : decide (1000001000000 < x0) = true := decide_eq_true h2
      clear h2
      go_wp2
      go_quiet (fail)
      go_wp2
      go_ret
      exact ⟨ret_bool HNn.out.symm, below_drewN (HX.out.alloc HX.out.size _) _⟩
    have b2 : decide (1000001000000 < x0) = false := decide_eq_false h2
    have H2 := hid h2
    clear h2
    cases k with
    | zero =>
      simp only [Nat.zero_mul, Nat.add_zero] at d0 d1 d2 d3 d4 d5 d6 d7
      by_cases hc : x1 < 1
      · have HNn := hid (HNo.out fun g => by have := (HQ.out.1 g).2; omega)
        have e1 : decide (x1 < 1) = true := decide_eq_true hc
        clear hc
        go_wp2
        go_quiet (fail)
        go_wp2
        go_ret
        exact ⟨ret_bool HNn.out.symm, below_drewN (HX.out.alloc HX.out.size _) _⟩
      have e1 : decide (x1 < 1) = false := decide_eq_false hc
      have E1 := hid hc
      clear hc
      by_cases hc : 2000 < x1
      · have HNn := hid (HNo.out fun g => by have := (HQ.out.1 g).2; omega)
        have e2 : decide (2000 < x1) = true := decide_eq_true hc
        clear hc
        go_wp2
        go_quiet (fail)
        go_wp2
        go_ret
        exact ⟨ret_bool HNn.out.symm, below_drewN (HX.out.alloc HX.out.size _) _⟩
      have e2 : decide (2000 < x1) = false := decide_eq_false hc
      have E2 := hid hc
      clear hc
      by_cases hcx5lx3 : x5 < x3
      · have HNn := hid (HNo.out fun g => by have := (HQ.out.1 g).2; omega)
        go_wp2
        go_quiet (fail)
        go_wp2
        go_ret
        exact ⟨ret_bool HNn.out.symm, below_drewN (HX.out.alloc HX.out.size _) _⟩
      by_cases hcx4lx5 : x4 < x5
      · have HNn := hid (HNo.out fun g => by have := (HQ.out.1 g).2; omega)
        go_wp2
        go_quiet (fail)
        go_wp2
        go_ret
        exact ⟨ret_bool HNn.out.symm, below_drewN (HX.out.alloc HX.out.size _) _⟩
      by_cases hcx6lx3 : x6 < x3
      · have HNn := hid (HNo.out fun g => by have := (HQ.out.1 g).2; omega)
        go_wp2
        go_quiet (fail)
        go_wp2
        go_ret
        exact ⟨ret_bool HNn.out.symm, below_drewN (HX.out.alloc HX.out.size _) _⟩
      by_cases hcx4lx6 : x4 < x6
      · have HNn := hid (HNo.out fun g => by have := (HQ.out.1 g).2; omega)
        go_wp2
        go_quiet (fail)
        go_wp2
        go_ret
        exact ⟨ret_bool HNn.out.symm, below_drewN (HX.out.alloc HX.out.size _) _⟩
      go_wp2
      go_quiet (fail)
      go_wp2
      go_roundw
      case rel => exact ⟨1, by omega, by go_num, HUs.out (HQ.out.2 ⟨⟨by have := Ht.out; omega, by have := H2.out; omega, H1.out, fun h => by omega⟩, by have := E1.out; omega, by have := E2.out; omega, by omega, by omega, by omega, by omega⟩), below_drewN (HX.out.alloc HX.out.size _) _⟩
      case measure => simp [intOf]; omega
    | succ j =>
      obtain ⟨q0, -, -, -, -, -, -, -⟩ := (HC.out j (by rw [HN.out]; omega)).below HX.out hbl
      simp only [Nat.add_sub_cancel] at HQ
      generalize (ls.getD j a0).t = r at *
      have i1 : (j : Int) < (n : Int) := by omega
      by_cases h3 : x0 ≤ r
      · have HNn := hid (HNo.out fun g => by have := (HQ.out.1 g).1.2.2.2 (by omega); omega)
        have b3 : decide (x0 ≤ r) = true := decide_eq_true h3
        clear h3
        go_wp2
        go_quiet (fail)
        go_wp2
        go_ret
        exact ⟨ret_bool HNn.out.symm, below_drewN (HX.out.alloc HX.out.size _) _⟩
      have b3 : decide (x0 ≤ r) = false := decide_eq_false h3
      have H3 := hid h3
      clear h3
      by_cases hc : x1 < 1
      · have HNn := hid (HNo.out fun g => by have := (HQ.out.1 g).2; omega)
        have e1 : decide (x1 < 1) = true := decide_eq_true hc
        clear hc
        go_wp2
        go_quiet (fail)
        go_wp2
        go_ret
        exact ⟨ret_bool HNn.out.symm, below_drewN (HX.out.alloc HX.out.size _) _⟩
      have e1 : decide (x1 < 1) = false := decide_eq_false hc
      have E1 := hid hc
      clear hc
      by_cases hc : 2000 < x1
      · have HNn := hid (HNo.out fun g => by have := (HQ.out.1 g).2; omega)
        have e2 : decide (2000 < x1) = true := decide_eq_true hc
        clear hc
        go_wp2
        go_quiet (fail)
        go_wp2
        go_ret
        exact ⟨ret_bool HNn.out.symm, below_drewN (HX.out.alloc HX.out.size _) _⟩
      have e2 : decide (2000 < x1) = false := decide_eq_false hc
      have E2 := hid hc
      clear hc
      by_cases hcx5lx3 : x5 < x3
      · have HNn := hid (HNo.out fun g => by have := (HQ.out.1 g).2; omega)
        go_wp2
        go_quiet (fail)
        go_wp2
        go_ret
        exact ⟨ret_bool HNn.out.symm, below_drewN (HX.out.alloc HX.out.size _) _⟩
      by_cases hcx4lx5 : x4 < x5
      · have HNn := hid (HNo.out fun g => by have := (HQ.out.1 g).2; omega)
        go_wp2
        go_quiet (fail)
        go_wp2
        go_ret
        exact ⟨ret_bool HNn.out.symm, below_drewN (HX.out.alloc HX.out.size _) _⟩
      by_cases hcx6lx3 : x6 < x3
      · have HNn := hid (HNo.out fun g => by have := (HQ.out.1 g).2; omega)
        go_wp2
        go_quiet (fail)
        go_wp2
        go_ret
        exact ⟨ret_bool HNn.out.symm, below_drewN (HX.out.alloc HX.out.size _) _⟩
      by_cases hcx4lx6 : x4 < x6
      · have HNn := hid (HNo.out fun g => by have := (HQ.out.1 g).2; omega)
        go_wp2
        go_quiet (fail)
        go_wp2
        go_ret
        exact ⟨ret_bool HNn.out.symm, below_drewN (HX.out.alloc HX.out.size _) _⟩
      go_wp2
      go_quiet (fail)
      go_wp2
      go_roundw
      case rel => exact ⟨j + 1 + 1, by omega, by go_num, HUs.out (HQ.out.2 ⟨⟨by have := Ht.out; omega, by have := H2.out; omega, H1.out, fun h => by have := H3.out; omega⟩, by have := E1.out; omega, by have := E2.out; omega, by omega, by omega, by omega, by omega⟩), below_drewN (HX.out.alloc HX.out.size _) _⟩
      case measure => simp [intOf]; omega
end Go.Proofs.Ytpbnneelpdacdaa.Agl
