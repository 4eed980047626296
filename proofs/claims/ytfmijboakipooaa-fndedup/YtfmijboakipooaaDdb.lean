/- The program's behind and dedup. -/
import Derived.Test.YtfmijboakipooaaDda
import Derived.Deep.CutRange
namespace Go.Proofs.Ytfmijboakipooaa.Smp
open Go.RowKit

theorem f35 (g : Int) (w : World) : Calls Try.prog 35 #[.int .i64 g] w fun e w' => e = .returned (.bool (decide (0 ≤ g ∧ g ≤ 1000000))) ∧ w' = w := by
  by_cases h1 : 0 ≤ g
  · go_enter Try.func35, Try.ntmps35
    go_wp2
    go_ret
    exact ⟨ret_bool (by rw [Bool.eq_iff_iff]; simp [h1]), rfl⟩
  · go_enter Try.func35, Try.ntmps35
    go_wp2
    go_ret
    exact ⟨ret_bool (by simp; omega), rfl⟩

set_option maxHeartbeats 4000000 in
theorem f46 (w : World) (ys : List Sm) (k : Nat) (v : Value) (t : Int) (wr : World) (h21 : ys.length ≤ 1048576) (hb : Below w.heap.size w wr) (hr : Rest w ys k v) :
    Calls Try.prog 46 #[v, .int .i64 t] wr fun e w' => ∃ k' v', e = .returned v' ∧ w' = wr ∧ Rest w ys k' v' ∧ ys.drop k' = bh t (ys.drop k) := by
  have HR := hid hr
  have HB := hid hb
  generalize hm : ys.length = m at *
  have HM := hid hm
  clear hr hb hm
  go_enter Try.func46, Try.ntmps46
  go_wp2_with fail
  go_loopw [0] (fun s0 wx => ∃ (k' : Nat), Rest w ys k' s0 ∧ Hid (wx = wr) ∧ Hid (bh t (ys.drop k') = bh t (ys.drop k))) (fun s0 _ => lenOf s0)
  case atStart => exact ⟨k, HR.out, rfl, rfl⟩
  case round =>
    rename_i wx
    obtain ⟨k', hrest, hwx, hbh⟩ := hrel
    have HRS := hid hrest
    have hk := hrest.le
    have HW := hid hwx.out
    by_cases hkt : k' < m
    · obtain ⟨bb, ob, r, cb', hr1, hrc, hsb, hbb, g0, g1, hnext, hnext0⟩ := hrest.head (by rw [HM.out]; exact hkt)
      subst hsb
      have HNX := hid hnext
      have HNX0 := hid hnext0
      have HDR := hid (drop_cons (by rw [HM.out]; exact hkt : k' < ys.length))
      have e0' := (HB.out.cell (p := ⟨bb, ob, none⟩) hbb).trans g0
      rw [← HW.out] at e0'
      have hr2 : r ≤ 1048576 := by rw [HM.out] at hr1; omega
      clear hrest hnext hnext0 g0 g1 hr1
      generalize hq : ys.getD k' e0 = q at *
      obtain ⟨s', t'⟩ := q
      simp only at e0'
      clear hq
      by_cases h1 : s' ≤ t
      · have HBH : Hid (bh t (ys.drop (k' + 1)) = bh t (ys.drop k)) := by
          unfold Hid; rw [← hbh.out, HDR.out, bh_go (by exact h1)]
        by_cases hcc : 0 < cb'
        · go_wp2
          go_roundw
          case rel => exact ⟨k' + 1, HNX.out, HW.out, HBH.out⟩
          case measure => simp [lenOf]
        · obtain rfl : cb' = 0 := by omega
          obtain rfl : r = 0 := by omega
          go_wp2
          go_roundw
          case rel => exact ⟨k' + 1, HNX0.out rfl, HW.out, HBH.out⟩
          case measure => simp [lenOf]
      · have HBH : Hid (ys.drop k' = bh t (ys.drop k)) := by
          unfold Hid; rw [← hbh.out, HDR.out, bh_stop (by exact h1)]
        go_wp2
        go_ret
        exact ⟨k', _, rfl, HW.out, HRS.out, HBH.out⟩
    · obtain ⟨ab', cb', hsb⟩ := hrest.len
      have hz : ys.length - k' = 0 := by rw [HM.out]; omega
      have HBH : Hid (ys.drop k' = bh t (ys.drop k)) := by
        unfold Hid; rw [← hbh.out, List.drop_eq_nil_of_le (by rw [HM.out]; omega)]; rfl
      rw [hz] at hsb
      subst hsb
      clear hrest hz
      go_wp2
      go_ret
      exact ⟨k', _, rfl, HW.out, HRS.out, HBH.out⟩

/-- A list whose Times are times. -/
def Tml (L : List Sm) : Prop := L.length ≤ 1048576 ∧ ∀ p ∈ L, TimeP p.1
theorem Tml.at {L : List Sm} (h : Tml L) {k : Nat} (hk : k < L.length) : TimeP (L.getD k e0).1 := by
  have : L.getD k e0 = L[k] := by simp [hk]
  rw [this]; exact h.2 _ (List.getElem_mem hk)
theorem rest_empty {w : World} {A : List Sm} {i : Nat} {v : Value} (h : Rest w A i v) (hi : A.length ≤ i) : ∃ a c, v = .slice a 0 c := by
  obtain ⟨a, c, hv⟩ := h.len
  exact ⟨a, c, by rw [hv, show A.length - i = 0 from by omega]⟩
theorem sw_e {gap last : Int} {A B : List Sm} {i j : Nat} (hi : A.length ≤ i) : sw gap last (A.drop i) (B.drop j) = true := by
  rw [List.drop_eq_nil_of_le hi]; simp [sw]
theorem sw_o {gap last : Int} {A B : List Sm} {i j : Nat} (hi : i < A.length) (hj : B.length ≤ j) : sw gap last (A.drop i) (B.drop j) = false := by
  rw [List.drop_eq_nil_of_le hj, drop_cons hi]; simp [sw]
theorem sw_b {gap last : Int} {A B : List Sm} {i j : Nat} (hi : i < A.length) (hj : j < B.length) : sw gap last (A.drop i) (B.drop j) = decide (gap < (A.getD i e0).1 - last ∧ (B.getD j e0).1 < (A.getD i e0).1) := by
  rw [drop_cons hi, drop_cons hj]; simp [sw]
theorem go_stay {gap last : Int} {A B : List Sm} {i j : Nat} (hi : i < A.length) (h : sw gap last (A.drop i) (B.drop j) = false) : D gap last (A.drop i) (B.drop j) = A.getD i e0 :: D gap (A.getD i e0).1 (bh (A.getD i e0).1 (A.drop i)) (bh (A.getD i e0).1 (B.drop j)) := by
  rw [drop_cons hi] at h ⊢
  exact D_stay h
theorem go_swap {gap last : Int} {A B : List Sm} {i j : Nat} (hj : j < B.length) (h : sw gap last (A.drop i) (B.drop j) = true) : D gap last (A.drop i) (B.drop j) = B.getD j e0 :: D gap (B.getD j e0).1 (bh (B.getD j e0).1 (B.drop j)) (bh (B.getD j e0).1 (A.drop i)) := by
  rw [drop_cons hj] at h ⊢
  exact D_swap h
theorem rest_drew {w : World} (q : Nat) {B : Nat} {a : World} (h : Below B a w) : Below B a (w.drewN q) := below_drewN h q
/-- The next one stands at the head of the first list. -/
def Nxt (w : World) (gap : Int) (R : List Sm) (s8 s9 : Value) : Prop := ∃ (A B : List Sm) (i j : Nat), Tml A ∧ Tml B ∧ i < A.length ∧ Rest w A i s8 ∧ Rest w B j s9 ∧ R = A.getD i e0 :: D gap (A.getD i e0).1 (bh (A.getD i e0).1 (A.drop i)) (bh (A.getD i e0).1 (B.drop j))
end Go.Proofs.Ytfmijboakipooaa.Smp
