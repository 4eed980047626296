/- One label is read: what readLabel comes to. -/
import Derived.Test.YtgcleocpbpgjeaaQr
import Derived.Laws.ResultCell
namespace Go.Proofs.Ytgcleocpbpgjeaa.Lab
open Go.RowKit Go.Proofs.Ytgcleocpbpgjeaa.Str

theorem one_eq (s : ByteArray) (t : Nat) : one s t = if (by' s)[nmE (by' s) t]? = some 61 then (quo s (nmE (by' s) t + 1)).map fun p => ((s.extract t (nmE (by' s) t), mkS p.1), p.2) else none := by
  unfold one quo
  by_cases h1 : (by' s)[nmE (by' s) t]? = some 61
  · by_cases h2 : (by' s)[nmE (by' s) t + 1]? = some 34
    · rw [if_pos ⟨h1, h2⟩, if_pos h1, if_pos h2]
    · rw [if_neg (fun h => h2 h.2), if_pos h1, if_neg h2]; rfl
  · rw [if_neg (fun h => h1 h.1), if_neg h1]
/-- What the call of readLabel leaves. -/
def LabR (R : Nat) (s : ByteArray) (t : Nat) (w : World) (e : Ending) (w' : World) : Prop :=
  w.grownBy w' (some R) ∧ ((one s t = none ∧ ∃ a b, e = .returned (.tuple #[.agg #[.string a, .string b], .bool false])) ∨ ∃ p k, one s t = some (p, k) ∧ e = .returned (.tuple #[.agg #[.string p.1, .string p.2], .bool true]) ∧ Rdr R s k w')
theorem two_set0 {w : World} {b : Nat} {u v u' : Value} {t : TypeId} (h : w.heap[b]? = some (.cells #[u, v] t (0, 0))) : (w.setCell ⟨b, 0, none⟩ u').heap[b]? = some (.cells #[u', v] t (0, 0)) := by
  have hlt := lt_block h
  have h' : w.heap[b] = .cells #[u, v] t (0, 0) := by simpa [Array.getElem?_eq_getElem hlt] using h
  show (w.heap.modify b _)[b]? = _
  rw [Array.getElem?_eq_getElem (by simpa using hlt), Array.getElem_modify_self, h']
  rfl
/-- A block beyond w is written: w has only grown. -/
theorem grown_new {w0 w : World} {R : Option Nat} {X i : Nat} {v : Value} (h : w0.grownBy w R) (hX : w0.heap.size ≤ X) : w0.grownBy (w.setCell ⟨X, i, none⟩ v) R := by
  refine ⟨h.os, h.tape, h.output, by simpa using h.size, fun k hk hr => ?_⟩
  rw [← h.block k hk hr]
  show (w.heap.modify X _)[k]? = _
  rw [Array.getElem?_modify]
  rw [if_neg (by omega)]
theorem rdr_new {w : World} {R X i : Nat} {s : ByteArray} {t : Nat} {v : Value} (h : Rdr R s t w) (hX : R ≠ X) : Rdr R s t (w.setCell ⟨X, i, none⟩ v) := by
  refine ⟨?_, h.2⟩
  rw [← h.1]
  show (w.heap.modify X _)[R]? = _
  rw [Array.getElem?_modify]
  rw [if_neg (by omega)]
theorem kept_at {w w' : World} {R X : Nat} {o : Obj} (h : w.grownBy w' (some R)) (hX : w.heap[X]? = some o) (hR : X ≠ R) : w'.heap[X]? = some o := (h.block X (lt_block hX) (by simp; omega)).trans hX

set_option maxHeartbeats 4000000 in
theorem f11 (R : Nat) (s : ByteArray) (t : Nat) (w : World) (hs : s.size ≤ 1048576) (h : Rdr R s t w) : Calls Try.prog 11 #[.pointer (some ⟨R, 0, none⟩)] w (LabR R s t w) := by
  have hRw : R < w.heap.size := lt_block h.1
  have HR : Hid (Rdr R s t (w.alloc (.cells #[.string ByteArray.empty, .string ByteArray.empty] 32))) := ⟨box_alloc h.1 _, h.2⟩
  have HX : Hid ((w.alloc (.cells #[.string ByteArray.empty, .string ByteArray.empty] 32)).heap[w.heap.size]? = some (.cells #[.string ByteArray.empty, .string ByteArray.empty] 32 (0, 0))) := heap_alloc_new w _
  have HG : Hid (w.grownBy (w.alloc (.cells #[.string ByteArray.empty, .string ByteArray.empty] 32)) (some R)) := World.grownBy_alloc w _ _
  clear h
  go_enter Try.func11, Try.ntmps11
  go_wp2_with fail
  refine (f19 R s t _ hs HR.out).mono ?_
  rintro e w1 ⟨rfl, hr1, hg1⟩
  have HR1 := hid hr1
  have HX1 := hid (kept_at hg1 HX.out (by omega))
  have HG1 := hid (Lib.grownBy_trans HG.out hg1)
  clear hr1 hg1 HR HX HG
  by_cases h61 : (by' s)[nmE (by' s) t]? = some 61
  · have HO : Hid (one s t = (quo s (nmE (by' s) t + 1)).map fun p => ((s.extract t (nmE (by' s) t), mkS p.1), p.2)) := by unfold Hid; rw [one_eq, if_pos h61]
    go_wp2_with fail
    refine (f20y R s _ 61 _ hs HR1.out h61).mono ?_
    rintro e w2 ⟨rfl, hr2, hg2⟩
    have HR2 := hid hr2
    have HX2 := hid (kept_at hg2 HX1.out (by omega))
    have HG2 := hid (Lib.grownBy_trans HG1.out hg2)
    clear hr2 hg2 HR1 HX1 HG1 h61
    go_wp2_with fail
    refine (f21 R s _ _ hs HR2.out).mono ?_
    rintro e w3 ⟨hg3, h3⟩
    have HX3 := hid (kept_at hg3 HX2.out (by omega))
    have HG3 := hid (Lib.grownBy_trans HG2.out hg3)
    have c0 := two0 HX3.out
    have c1 := two1 HX3.out
    have z0 := two_frz (o := 0) HX3.out
    have z1 := two_frz (o := 1) HX3.out
    rcases h3 with ⟨hq, rfl⟩ | ⟨v, k, hq, rfl, hr3⟩
    · have HN : Hid (one s t = none) := by unfold Hid; rw [HO.out, hq]; rfl
      clear hg3 hq HO HR2 HX2 HG2
      go_wp2
      have y := two_set1 (v' := .string ⟨#[]⟩) (two_set0 (u' := .string (s.extract t (nmE (by' s) t))) HX3.out)
      have y0 := two0 y
      have y1 := two1 y
      refine bodyPost_ret (v := .tuple #[.agg #[.string (s.extract t (nmE (by' s) t)), .string ⟨#[]⟩], .bool false]) ?_ rfl ⟨grown_new (grown_new HG3.out (Nat.le_refl _)) (Nat.le_refl _), .inl ⟨HN.out, _, _, rfl⟩⟩
      rw [results_cell_tmp rfl]
      go_simp
    · have HN : Hid (one s t = some ((s.extract t (nmE (by' s) t), mkS v), k)) := by unfold Hid; rw [HO.out, hq]; rfl
      have HR3 := hid hr3
      clear hg3 hq HO HR2 HX2 HG2 hr3
      go_wp2
      have y := two_set1 (v' := .string (mkS v)) (two_set0 (u' := .string (s.extract t (nmE (by' s) t))) HX3.out)
      have y0 := two0 y
      have y1 := two1 y
      refine bodyPost_ret (v := .tuple #[.agg #[.string (s.extract t (nmE (by' s) t)), .string (mkS v)], .bool true]) ?_ rfl ⟨grown_new (grown_new HG3.out (Nat.le_refl _)) (Nat.le_refl _), .inr ⟨_, k, HN.out, rfl, rdr_new (rdr_new HR3.out (by omega)) (by omega)⟩⟩
      rw [results_cell_tmp rfl]
      go_simp
  · have HN : Hid (one s t = none) := by unfold Hid; rw [one_eq, if_neg h61]
    go_wp2_with fail
    refine (f20n R s _ 61 _ hs HR1.out h61).mono ?_
    rintro e w2 ⟨rfl, hr2, hg2⟩
    have HX2 := hid (kept_at hg2 HX1.out (by omega))
    have HG2 := hid (Lib.grownBy_trans HG1.out hg2)
    have c0 := two0 HX2.out
    have c1 := two1 HX2.out
    have z0 := two_frz (o := 0) HX2.out
    have z1 := two_frz (o := 1) HX2.out
    clear hr2 hg2 HR1 HX1 HG1 h61
    go_wp2
    have y := two_set1 (v' := .string ByteArray.empty) (two_set0 (u' := .string ByteArray.empty) HX2.out)
    have y0 := two0 y
    have y1 := two1 y
    refine bodyPost_ret (v := .tuple #[.agg #[.string ByteArray.empty, .string ByteArray.empty], .bool false]) ?_ rfl ⟨grown_new (grown_new HG2.out (Nat.le_refl _)) (Nat.le_refl _), .inl ⟨HN.out, _, _, rfl⟩⟩
    rw [results_cell_tmp rfl]
    go_simp
    rfl
end Go.Proofs.Ytgcleocpbpgjeaa.Lab
