/- The text of good labels: what bracedText, l2Text and both LabelsText come to. -/
import Derived.Test.YtbjlnaaheahhnaaDoorTl
import Derived.Test.YtbjlnaaheahhnaaDoorVo
namespace Go.Proofs.YtbjlnaaheahhnaaDoor.Lab
open Go.RowKit Go.Proofs.YtbjlnaaheahhnaaDoor.Str

def strs (ls : List Lb) : List ByteArray := ls.map fun p => mkS (labT p)
theorem strs_len (ls : List Lb) : (strs ls).length = ls.length := by simp [strs]
theorem strs_succ {ls : List Lb} {k : Nat} (hk : k < ls.length) : (strs (ls.take (k + 1))).map Value.string = (strs (ls.take k)).map Value.string ++ [.string (mkS (labT (ls.getD k e0)))] := by
  have e : ls.getD k e0 = ls[k] := by simp [hk]
  unfold strs
  rw [List.take_succ_eq_append_getElem hk, e, List.map_append, List.map_append]; rfl
theorem strs_join (ls : List Lb) : Lib.join ((strs ls).map (·.data.toList)) (⟨#[44]⟩ : ByteArray).data.toList = bodyT ls := by
  unfold bodyT strs
  rw [List.map_map]
  rfl
def Sml (ls : List Lb) : Prop := ls.length ≤ 20 ∧ ∀ i, i < ls.length → (ls.getD i e0).1.size ≤ 40 ∧ (ls.getD i e0).2.size ≤ 100
theorem good_sml {ls : List Lb} (h : goodL ls = true) : Sml ls := by
  obtain ⟨h1, h2⟩ := good_iff h
  refine ⟨h1, fun i hi => ?_⟩
  have := (h2 i hi).1
  unfold okL nameL valueL at this
  simp at this ⊢
  omega
theorem labT_len {p : Lb} (h1 : p.1.size ≤ 40) (h2 : p.2.size ≤ 100) : (labT p).length ≤ 243 := by
  have := quoB_len p.2.data.toList
  unfold labT
  simp at this ⊢
  omega
theorem joinTail_app (sep : List UInt8) (r : List (List UInt8)) (x : List UInt8) : Lib.joinTail sep (r ++ [x]) = Lib.joinTail sep r ++ sep ++ x := by
  simp [Lib.joinTail]
theorem joinTail_len (sep : List UInt8) (r : List (List UInt8)) (M : Nat) (h : ∀ x ∈ r, x.length ≤ M) : (Lib.joinTail sep r).length ≤ r.length * (M + sep.length) := by
  induction r with
  | nil => simp [Lib.joinTail]
  | cons x r ih =>
    have h1 := ih (fun y hy => h y (by simp [hy]))
    have h2 := h x (by simp)
    have e : Lib.joinTail sep (x :: r) = sep ++ x ++ Lib.joinTail sep r := by simp [Lib.joinTail]
    rw [e, List.length_append, List.length_append, List.length_cons, Nat.add_mul]
    omega
theorem join_len (r : List (List UInt8)) (sep : List UInt8) (M : Nat) (h : ∀ x ∈ r, x.length ≤ M) : (Lib.join r sep).length ≤ r.length * (M + sep.length) := by
  cases r with
  | nil => simp [Lib.join_nil]
  | cons x r =>
    have h1 := joinTail_len sep r M (fun y hy => h y (by simp [hy]))
    have h2 := h x (by simp)
    rw [Lib.join_cons, List.length_append, List.length_cons, Nat.add_mul]
    omega
theorem body_len {ls : List Lb} (h : Sml ls) (k : Nat) : (bodyT (ls.take k)).length ≤ 4880 := by
  have h1 := join_len ((ls.take k).map labT) [44] 243 (by
    intro x hx
    obtain ⟨p, hp, rfl⟩ := List.mem_map.1 hx
    obtain ⟨i, hi, rfl⟩ := List.getElem_of_mem (List.mem_of_mem_take hp)
    have := h.2 i hi
    have e : ls.getD i e0 = ls[i] := by simp [hi]
    rw [e] at this
    exact labT_len this.1 this.2)
  have h2 := h.1
  unfold bodyT
  have : ((ls.take k).map labT).length ≤ 20 := by simp; omega
  refine Nat.le_trans h1 (Nat.le_trans (Nat.mul_le_mul_right _ this) (by simp))
theorem body_zero (ls : List Lb) : bodyT (ls.take 0) = [] := rfl
theorem body_one {ls : List Lb} (h : 0 < ls.length) : bodyT (ls.take 1) = labT (ls.getD 0 e0) := by
  have e : ls.getD 0 e0 = ls[0] := by simp [h]
  unfold bodyT
  rw [List.take_succ_eq_append_getElem h, e]
  simp [Lib.join_one]
theorem body_succ {ls : List Lb} {k : Nat} (hk : k < ls.length) (h0 : 0 < k) : bodyT (ls.take (k + 1)) = bodyT (ls.take k) ++ [44] ++ labT (ls.getD k e0) := by
  have e : ls.getD k e0 = ls[k] := by simp [hk]
  unfold bodyT
  rw [List.take_succ_eq_append_getElem hk, e]
  cases ls with
  | nil => simp at hk
  | cons x r =>
    cases k with
    | zero => omega
    | succ k =>
      simp only [List.take_succ_cons, List.map_append, List.map_cons, List.cons_append, Lib.join_cons, List.map_nil]
      rw [joinTail_app]; simp
theorem body_all {ls : List Lb} {k : Nat} (hk : ls.length ≤ k) : bodyT (ls.take k) = bodyT ls := by rw [List.take_of_length_le hk]

theorem out_first {ls : List Lb} (h : 0 < ls.length) : (⟨#[123]⟩ : ByteArray) ++ mkS (labT (ls.getD 0 e0)) = mkS ([123] ++ bodyT (ls.take (0 + 1))) := by
  rw [body_one h]; apply ByteArray.ext; simp
theorem out_next {ls : List Lb} {k : Nat} (h : k < ls.length) (h0 : 0 < k) : mkS ([123] ++ bodyT (ls.take k)) ++ ⟨#[44]⟩ ++ mkS (labT (ls.getD k e0)) = mkS ([123] ++ bodyT (ls.take (k + 1))) := by
  rw [body_succ h h0]; apply ByteArray.ext; simp
theorem out_size {ls : List Lb} (h : Sml ls) (k : Nat) : (mkS ([123] ++ bodyT (ls.take k))).size ≤ 4881 := by
  have := body_len h k
  rw [mkS_size]; simp; omega

def txtR (ls : List Lb) : List UInt8 := if goodL ls = true then txtL ls else []
theorem txtR_yes {ls : List Lb} (h : goodL ls = true) : txtR ls = txtL ls := by unfold txtR; rw [if_pos h]
theorem txtR_no {ls : List Lb} (h : goodL ls = false) : txtR ls = [] := by unfold txtR; rw [if_neg (by simp [h])]

end Go.Proofs.YtbjlnaaheahhnaaDoor.Lab
