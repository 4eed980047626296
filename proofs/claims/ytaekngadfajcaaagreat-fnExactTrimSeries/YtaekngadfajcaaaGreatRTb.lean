/- Arguments that came in: lists of samples; rows of samples marked and held. -/
import Derived.Test.YtaekngadfajcaaaGreatRTa
import Derived.Deep.SlicePairs
import Derived.OpenShut
import Derived.ChangeOld
import Derived.Below
import Derived.WalkSmall
namespace Go.Proofs.YtaekngadfajcaaaGreat.Smp
open Go.ChangeShapes Go.WideShapes Go.ChangeAt Go.RowKit

theorem add_none (b off j : Nat) : (⟨b, off, none⟩ : Addr).add j = ⟨b, off + j, none⟩ := by
  by_cases h : j = 0
  · subst h; simp [Addr.add]
  · simp [Addr.add, h]
theorem in64_zero : In64 0 := ⟨by omega, by omega⟩
theorem fit_nil : Fit [] := fun i => by simpa [e0] using in64_zero

theorem open_samples {H : Type} {enc : TypeId × Value → H} {W : World} {a0 : Option Addr} {len0 cap0 : Nat} {d : DataW H} {p : List MemPlace} (h : DataW.Trod enc Tryz.prog W 0 (fun _ => true) true 38 (.slice a0 len0 cap0) d p) :
    ∃ ls : List Sm, ls.length = len0 ∧ len0 ≤ maxLen ∧ HasS W a0 ls ∧ Fit ls := by
  obtain ⟨fuel, hf⟩ := h
  rcases Deep.open_slice_pairs Tryz.underlying38 Tryz.underlying108 (by kernel_rfl) rfl rfl (by kernel_rfl) (by kernel_rfl) hf with ⟨hcs, _⟩ | ⟨a, len, cap, m, n, V0, V1, D0, D1, P0, P1, hcs, _, hl, hm, hmm, _, hx⟩
  · simp [Value.cells] at hcs
    obtain ⟨rfl, rfl, rfl⟩ := hcs
    exact ⟨[], rfl, Nat.zero_le _, .inl rfl, fit_nil⟩
  · simp [Value.cells] at hcs
    obtain ⟨rfl, rfl, rfl⟩ := hcs
    simp only [if_true] at hmm
    have key : ∀ i, i < len0 → ∃ q : Sm, W.cell? (a.add (i * 2)) = some (.int .i64 q.1) ∧ W.cell? (a.add (i * 2 + 1)) = some (.int .i64 q.2) ∧ In64 q.1 ∧ In64 q.2 := by
      intro i hi
      obtain ⟨h1, h2, h3, h4⟩ := hx i (by omega)
      obtain ⟨s, hs, _, hs1⟩ := DataW.trod_int Tryz.underlying3 h3
      obtain ⟨t, ht, _, ht1⟩ := DataW.trod_int Tryz.underlying3 h4
      simp only [List.cons.injEq, and_true] at hs ht
      simp only [Lit.wf, Bool.and_eq_true, decide_eq_true_eq] at hs1 ht1
      exact ⟨(s, t), by rw [h1, hs], by rw [h2, ht], hs1, ht1⟩
    obtain ⟨q, hq⟩ := Deep.choose_lt (α := Sm) key
    have hg : ∀ i, i < len0 → ((List.range len0).map q).getD i e0 = q i := fun i hi => by simp [hi]
    refine ⟨(List.range len0).map q, by simp, by omega, ?_, ?_⟩
    · by_cases h0 : len0 = 0
      · subst h0; exact .inl rfl
      · obtain ⟨b, off, spot⟩ := a
        have h1 := (hq 0 (by omega)).1
        have hs : spot = none := by simpa [Addr.add] using World.cell?_spot h1
        subst hs
        refine .inr ⟨b, off, rfl, World.block_lt_of_cell? W _ h1, fun i hi => ?_⟩
        have hi' : i < len0 := by simpa using hi
        obtain ⟨g1, g2, _, _⟩ := hq i hi'
        rw [add_none] at g1 g2
        rw [hg i hi']
        exact ⟨g1, g2⟩
    · intro i
      by_cases hi : i < len0
      · rw [hg i hi]; exact (hq i hi).2.2
      · rw [List.getD_eq_getElem?_getD, List.getElem?_eq_none (by simp; omega)]; simpa [e0] using in64_zero

theorem grown_trans {a b c : World} {r : Option Nat} (h : a.grownBy b r) (k : b.grownBy c r) : a.grownBy c r :=
  ⟨k.os.trans h.os, k.tape.trans h.tape, k.output.trans h.output, Nat.le_trans h.size k.size, fun i hi hne => (k.block i (Nat.lt_of_lt_of_le hi h.size) hne).trans (h.block i hi hne)⟩
theorem grown_below {a b : World} (r : Option Nat) (h : Below a.heap.size a b) : a.grownBy b r := ⟨h.os, h.tape, h.output, h.size, fun i hi _ => h.block i hi⟩
theorem grown_setRow {w w' : World} {g o : Nat} (h : w.grownBy w' (some g)) (u : Value) : w.grownBy (w'.setCell ⟨g, o, none⟩ u) (some g) :=
  ⟨h.os, h.tape, h.output, by simpa using h.size, fun i hi hne => (Below.heap_setCell w' ⟨g, o, none⟩ u i (by intro e; exact hne (by rw [e]))).trans (h.block i hi hne)⟩
theorem below_grown {B g : Nat} {a w w' : World} (h : Below B a w) (hg : w.grownBy w' (some g)) (hB : B ≤ w.heap.size) (hr : B ≤ g) : Below B a w' := h.grown hg hB (by intro k hk; cases hk; exact hr)

def markL (k n : Nat) : List Sm := (List.range n).map fun i => (((k + 2 * i : Nat) : Int), ((k + 2 * i + 1 : Nat) : Int))
theorem markL_len (k n : Nat) : (markL k n).length = n := by simp [markL]
theorem markL_get (k n i : Nat) (h : i < n) : (markL k n).getD i e0 = (((k + 2 * i : Nat) : Int), ((k + 2 * i + 1 : Nat) : Int)) := by simp [markL, h]

/-- The row while it is being marked. -/
def markR (k : Nat) (ls : List Sm) (i : Nat) : List Sm := (markL k i) ++ ls.drop i
theorem markR_zero (k : Nat) (ls : List Sm) : markR k ls 0 = ls := by simp [markR, markL]
theorem markR_end (k n : Nat) (ls : List Sm) (h : ls.length = n) : markR k ls n = markL k n := by simp [markR, ← h]
theorem markR_len (k n i : Nat) (ls : List Sm) (h : ls.length = n) (hi : i ≤ n) : (markR k ls i).length = n := by simp [markR, markL_len]; omega
theorem markR_set (k n i : Nat) (ls : List Sm) (h : ls.length = n) (hi : i < n) : (markR k ls i).set i (((k + 2 * i : Nat) : Int), ((k + 2 * i + 1 : Nat) : Int)) = markR k ls (i + 1) := by
  unfold markR
  rw [List.set_append_right _ _ (by rw [markL_len]; exact Nat.le_refl _), markL_len, Nat.sub_self, List.drop_eq_getElem_cons (by omega), List.set_cons_zero]
  have : markL k (i + 1) = markL k i ++ [(((k + 2 * i : Nat) : Int), ((k + 2 * i + 1 : Nat) : Int))] := by simp [markL, List.range_succ]
  rw [this, List.append_assoc]
  rfl

set_option maxHeartbeats 2000000 in
theorem f30 (g c base k : Nat) (ls : List Sm) (w : World) (hk : k + 2 * ls.length ≤ 100000000) (hown : w.ownsRow base 78 2 (.slice (some ⟨g, 0, none⟩) ls.length c) ls.length (flat ls)) :
    Calls Tryz.prog 30 #[.slice (some ⟨g, 0, none⟩) ls.length c, .int .i64 k] w fun e w' => e = .returned (.int .i64 ((k + 2 * ls.length : Nat) : Int)) ∧ w'.ownsRow base 78 2 (.slice (some ⟨g, 0, none⟩) ls.length c) ls.length (flat (markL k ls.length)) ∧ w.grownBy w' (some g) := by
  generalize hn : ls.length = n at *
  have HN := hid hn
  have HO0 := hid hown
  clear hn hown
  go_enter Tryz.func30, Tryz.ntmps30
  go_wp2
  go_loopw [1, 5] (fun sk si wr => ∃ (i m : Nat), i ≤ n ∧ si = .int .i64 i ∧ sk = .int .i64 (m : Int) ∧ Hid (m = k + 2 * i) ∧ wr.ownsRow base 78 2 (.slice (some ⟨g, 0, none⟩) n c) n (flat (markR k ls i)) ∧ w.grownBy wr (some g)) (fun _ si _ => n - (intOf si).toNat)
  case atStart => exact ⟨0, k, Nat.zero_le _, rfl, rfl, rfl, by rw [markR_zero]; exact HO0.out, ⟨rfl, rfl, rfl, Nat.le_refl _, fun _ _ _ => rfl⟩⟩
  case round =>
    obtain ⟨i, m, hi, rfl, rfl, hm, hown, hgr⟩ := hrel
    have HO := hid hown
    have HG := hid hgr
    have HM := hid (markR_len k n i ls HN.out hi)
    clear hown hgr HO0
    by_cases hlt : i < n
    · have HS := hid (markR_set k n i ls HN.out hlt)
      have hm1 : m ≤ 99999998 := by have := hm.out; omega
      have fz := HO.out.frozenAt (i * 2)
      obtain ⟨y0, y1⟩ := flat_get (markR k ls i) i (by rw [HM.out]; exact hlt)
      have cz := (HO.out.cellAt (i * 2) (by omega)).trans y0
      have HO3 := hid (HO.out.stored (i * 2) (.int .i64 (m : Int))).1
      have HG3 := hid (grown_setRow (o := i * 2) HG.out (.int .i64 (m : Int)))
      have fz4 := HO3.out.frozenAt (i * 2 + 1)
      have cz4 := (HO3.out.cellAt (i * 2 + 1) (by omega)).trans ((List.getElem?_set_ne (by omega)).trans y1)
      have HO5 := hid (HO3.out.stored (i * 2 + 1) (.int .i64 ((m : Int) + 1))).1
      have HG5 := hid (grown_setRow (o := i * 2 + 1) HG3.out (.int .i64 ((m : Int) + 1)))
      clear y0 y1
      go_wp2
      go_roundw
      case rel =>
        refine ⟨i + 1, m + 2, by omega, by go_num, by go_num, by have := hm.out; unfold Hid; omega, ?_, HG5.out⟩
        have := HO5.out
        rw [flat_set _ i _ _ (by rw [HM.out]; exact hlt)] at this
        rw [← HS.out, ← hm.out]
        exact this
      case measure => simp [intOf]; omega
    · obtain rfl : i = n := by omega
      go_wp2
      go_ret
      exact ⟨by rw [← hm.out]; rfl, by rw [← markR_end k i ls HN.out]; exact HO.out, HG.out⟩
theorem f30n (k : Nat) (w : World) : Calls Tryz.prog 30 #[.slice none 0 0, .int .i64 k] w fun e w' => e = .returned (.int .i64 k) ∧ w' = w := by
  go_enter Tryz.func30, Tryz.ntmps30
  go_wp2
  go_loop [1, 5] (fun sk i => sk = .int .i64 k ∧ i = .int .i64 0) (fun _ _ => 0)
  case atStart => exact ⟨rfl, rfl⟩
  case round =>
    obtain ⟨rfl, rfl⟩ := hrel
    go_wp2
    go_ret
    exact ⟨rfl, rfl⟩

set_option maxHeartbeats 2000000 in
theorem f33 (a : Option Addr) (n c k : Nat) (w : World) (hk : k + 2 * n ≤ 100000000) (hr : HasS w a (markL k n)) :
    Calls Tryz.prog 33 #[.slice a n c, .int .i64 k] w fun e w' => e = .returned (.int .i64 ((k + 2 * n : Nat) : Int)) ∧ w' = w := by
  go_enter Tryz.func33, Tryz.ntmps33
  go_wp2
  go_loop [1, 5] (fun sk si => ∃ (i m : Nat), i ≤ n ∧ si = .int .i64 i ∧ sk = .int .i64 (m : Int) ∧ Hid (m = k + 2 * i)) (fun _ si => n - (intOf si).toNat)
  case atStart => exact ⟨0, k, Nat.zero_le _, rfl, rfl, rfl⟩
  case round =>
    obtain ⟨i, m, hi, rfl, rfl, hm⟩ := hrel
    by_cases hlt : i < n
    · rcases hr with hr | ⟨b, off, rfl, hbl, hc⟩
      · have := markL_len k n; rw [hr] at this; simp at this; omega
      obtain ⟨c0, c1⟩ := hc i (by rw [markL_len]; exact hlt)
      rw [markL_get k n i hlt, ← hm.out] at c0 c1
      have c1' : w.cell? ⟨b, off + i * 2 + 1, none⟩ = some (.int .i64 ((m : Int) + 1)) := by rw [c1]; rfl
      have i1 : (i : Int) < (n : Int) := by omega
      have hm1 : m ≤ 99999998 := by have := hm.out; omega
      clear hc c1
      go_wp2
      go_round
      case rel => exact ⟨i + 1, m + 2, by omega, by go_num, by go_num, by have := hm.out; unfold Hid; omega⟩
      case measure => simp [intOf]; omega
    · obtain rfl : i = n := by omega
      go_wp2
      go_ret
      exact ⟨ret_int (by have := hm.out; omega), rfl⟩
end Go.Proofs.YtaekngadfajcaaaGreat.Smp
