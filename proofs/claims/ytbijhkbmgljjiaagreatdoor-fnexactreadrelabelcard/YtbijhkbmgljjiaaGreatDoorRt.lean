/- The text of a rule: plain facts; what the model's l4Words and l4Text come to. -/
import Derived.Test.YtbijhkbmgljjiaaGreatDoorRd
import Derived.Test.YtbijhkbmgljjiaaGreatDoorNu
import Derived.Deep.RegionWith
namespace Go.Proofs.YtbijhkbmgljjiaaGreatDoor.Rel
open Go.RowKit Go.Proofs.YtbijhkbmgljjiaaGreatDoor.Fil

def wdL : List (List UInt8) := [[], [107, 101, 101, 112], [100, 114, 111, 112], [115, 101, 116], [109, 111, 100], [109, 97, 112], [107, 101, 101, 112, 110, 97, 109, 101, 115], [100, 114, 111, 112, 110, 97, 109, 101, 115], [108, 111, 119, 101, 114]]
def wd (A : Int) : List UInt8 := wdL.getD A.toNat []
def jn (ss : List ByteArray) : List UInt8 := Lib.join (ss.map (·.data.toList)) [44]
def pF (ss : List ByteArray) : List UInt8 := if ss.length = 0 then [] else [32, 102, 114, 111, 109, 32] ++ jn ss
def pQ (tag : List UInt8) (s : ByteArray) : List UInt8 := if em s = true then [] else tag ++ quoB s.data.toList
def pT (s : ByteArray) : List UInt8 := if em s = true then [] else [32, 116, 111, 32] ++ s.data.toList
def pM (md : Int) : List UInt8 := if md = 0 then [] else [32, 98, 121, 32] ++ Lib.itoa md
def x1 (r : Rule) : List UInt8 := wd r.act ++ pF r.from'
def x2 (r : Rule) : List UInt8 := x1 r ++ pQ [32, 115, 101, 112, 32] r.sep
def x3 (r : Rule) : List UInt8 := x2 r ++ pQ [32, 108, 105, 107, 101, 32] r.pat
def x4 (r : Rule) : List UInt8 := x3 r ++ pT r.tgt
def x5 (r : Rule) : List UInt8 := x4 r ++ pQ [32, 97, 115, 32] r.val
def txtR (r : Rule) : List UInt8 := x5 r ++ pM r.md
theorem wd_len (A : Int) : (wd A).length ≤ 9 := by
  unfold wd
  rcases (show A.toNat = 0 ∨ A.toNat = 1 ∨ A.toNat = 2 ∨ A.toNat = 3 ∨ A.toNat = 4 ∨ A.toNat = 5 ∨ A.toNat = 6 ∨ A.toNat = 7 ∨ A.toNat = 8 ∨ 9 ≤ A.toNat by omega) with h | h | h | h | h | h | h | h | h | h
  all_goals first | (rw [h]; decide) | (rw [List.getD_eq_getElem?_getD, List.getElem?_eq_none (by simpa [wdL] using h)]; simp)
theorem joinTail_app (sep : List UInt8) (r : List (List UInt8)) (x : List UInt8) : Lib.joinTail sep (r ++ [x]) = Lib.joinTail sep r ++ sep ++ x := by
  simp [Lib.joinTail]
theorem joinTail_len (sep : List UInt8) (r : List (List UInt8)) (M : Nat) (h : ∀ x ∈ r, x.length ≤ M) : (Lib.joinTail sep r).length ≤ r.length * (M + sep.length) := by
  induction r with
  | nil => simp [Lib.joinTail]
  | cons x r ih =>
    have h1 := ih (fun y hy => h y (by simp [hy]))
    have h2 := h x (by simp)
    have e : Lib.joinTail sep (x :: r) = sep ++ x ++ Lib.joinTail sep r := by simp [Lib.joinTail]
    rw [e, List.length_append, List.length_append, List.length_cons, Nat.add_mul]
    omega
theorem join_len (r : List (List UInt8)) (sep : List UInt8) (M : Nat) (h : ∀ x ∈ r, x.length ≤ M) : (Lib.join r sep).length ≤ r.length * (M + sep.length) := by
  cases r with
  | nil => simp [Lib.join_nil]
  | cons x r =>
    have h1 := joinTail_len sep r M (fun y hy => h y (by simp [hy]))
    have h2 := h x (by simp)
    rw [Lib.join_cons, List.length_append, List.length_cons, Nat.add_mul]
    omega
theorem jn_len {ss : List ByteArray} {n : Nat} (hl : ss.length ≤ n) (h : ∀ i, i < ss.length → (ss.getD i ByteArray.empty).size ≤ 1048576) : (jn ss).length ≤ n * 1048577 := by
  have h1 := join_len (ss.map (·.data.toList)) [44] 1048576 (by
    intro x hx
    obtain ⟨p, hp, rfl⟩ := List.mem_map.1 hx
    obtain ⟨i, hi, rfl⟩ := List.getElem_of_mem hp
    have := h i hi
    have e : ss.getD i ByteArray.empty = ss[i] := by simp [hi]
    rw [e] at this
    simpa using this)
  unfold jn
  refine Nat.le_trans h1 (Nat.le_trans (Nat.mul_le_mul_right _ (by simpa using hl)) (Nat.le_refl _))
theorem pF_len {ss : List ByteArray} {n : Nat} (hl : ss.length ≤ n) (h : ∀ i, i < ss.length → (ss.getD i ByteArray.empty).size ≤ 1048576) : (pF ss).length ≤ 6 + n * 1048577 := by
  unfold pF
  have := jn_len hl h
  split
  · simp
  · rw [List.length_append]; simp only [List.length_cons, List.length_nil]; omega
theorem quoB_len (l : List UInt8) : (quoB l).length ≤ 2 * l.length + 2 := by
  have := quoP_len l
  unfold quoB; rw [List.length_append, List.length_singleton]; omega
theorem pQ_len (tag : List UInt8) (s : ByteArray) (ht : tag.length ≤ 6) (h : s.size ≤ 1048576) : (pQ tag s).length ≤ 2097160 := by
  unfold pQ
  have := quoB_len s.data.toList
  split
  · simp
  · rw [List.length_append]; simp at this ⊢; omega
theorem pT_len (s : ByteArray) (h : s.size ≤ 1048576) : (pT s).length ≤ 1048580 := by
  unfold pT
  split
  · simp
  · rw [List.length_append]; simp only [List.length_cons, List.length_nil]; simp; omega
theorem x1_len {r : Rule} (h : SmlR r) : (x1 r).length ≤ 1200000000000 := by
  unfold x1
  have h1 := wd_len r.act
  have h2 := pF_len h.n h.each
  rw [List.length_append]; omega
theorem x2_len {r : Rule} (h : SmlR r) : (x2 r).length ≤ 1200003000000 := by
  have h1 := x1_len h
  have h2 := pQ_len [32, 115, 101, 112, 32] r.sep (by simp) h.sep
  unfold x2; rw [List.length_append]; omega
theorem x3_len {r : Rule} (h : SmlR r) : (x3 r).length ≤ 1200006000000 := by
  have h1 := x2_len h
  have h2 := pQ_len [32, 108, 105, 107, 101, 32] r.pat (by simp) h.pat
  unfold x3; rw [List.length_append]; omega
theorem x4_len {r : Rule} (h : SmlR r) : (x4 r).length ≤ 1200008000000 := by
  have h1 := x3_len h
  have h2 := pT_len r.tgt h.tgt
  unfold x4; rw [List.length_append]; omega
theorem x5_len {r : Rule} (h : SmlR r) : (x5 r).length ≤ 1200011000000 := by
  have h1 := x4_len h
  have h2 := pQ_len [32, 97, 115, 32] r.val (by simp) h.val
  unfold x5; rw [List.length_append]; omega
theorem pF_none (ss : List ByteArray) : pF (ss.take 0) = [] := by simp [pF]
theorem pF_one {ss : List ByteArray} (h : 0 < ss.length) : pF (ss.take (0 + 1)) = [32, 102, 114, 111, 109, 32] ++ (ss.getD 0 ByteArray.empty).data.toList := by
  have e : ss.getD 0 ByteArray.empty = ss[0] := by simp [h]
  have e1 : ss.take (0 + 1) = [ss[0]] := by rw [List.take_succ_eq_append_getElem h]; rfl
  rw [e1, e]
  simp [pF, jn, Lib.join_one]
theorem pF_succ {ss : List ByteArray} {k : Nat} (hk : k < ss.length) (h0 : 0 < k) : pF (ss.take (k + 1)) = pF (ss.take k) ++ [44] ++ (ss.getD k ByteArray.empty).data.toList := by
  have e : ss.getD k ByteArray.empty = ss[k] := by simp [hk]
  have l1 : (ss.take (k + 1)).length ≠ 0 := by rw [List.length_take]; omega
  have l2 : (ss.take k).length ≠ 0 := by rw [List.length_take]; omega
  unfold pF
  rw [if_neg l1, if_neg l2]
  unfold jn
  rw [List.take_succ_eq_append_getElem hk, e]
  cases ss with
  | nil => simp at hk
  | cons x r =>
    cases k with
    | zero => omega
    | succ k =>
      simp only [List.take_succ_cons, List.map_append, List.map_cons, List.cons_append, Lib.join_cons, List.map_nil]
      rw [joinTail_app]; simp
theorem pF_all {ss : List ByteArray} {k : Nat} (hk : ss.length ≤ k) : pF (ss.take k) = pF ss := by rw [List.take_of_length_le hk]
theorem pQ_yes {tag : List UInt8} {s : ByteArray} (h : em s = true) : pQ tag s = [] := if_pos h
theorem pQ_no {tag : List UInt8} {s : ByteArray} (h : em s = false) : pQ tag s = tag ++ quoB s.data.toList := if_neg (by rw [h]; simp)
theorem pT_yes {s : ByteArray} (h : em s = true) : pT s = [] := if_pos h
theorem pT_no {s : ByteArray} (h : em s = false) : pT s = [32, 116, 111, 32] ++ s.data.toList := if_neg (by rw [h]; simp)

theorem f11 (w : World) : Calls Tryz.prog 11 #[] w fun e w' => e = .returned (.slice (some ⟨w.heap.size, 0, none⟩) 9 9) ∧ w' = w.alloc (.cells #[.string ⟨#[]⟩, .string ⟨#[107, 101, 101, 112]⟩, .string ⟨#[100, 114, 111, 112]⟩, .string ⟨#[115, 101, 116]⟩, .string ⟨#[109, 111, 100]⟩, .string ⟨#[109, 97, 112]⟩, .string ⟨#[107, 101, 101, 112, 110, 97, 109, 101, 115]⟩, .string ⟨#[100, 114, 111, 112, 110, 97, 109, 101, 115]⟩, .string ⟨#[108, 111, 119, 101, 114]⟩] 9) := by
  go_enter Tryz.func11, Tryz.ntmps11
  go_wp2
  go_ret
  exact ⟨rfl, rfl⟩

theorem good_act {r : Rule} (h : goodR r = true) : 1 ≤ r.act ∧ r.act ≤ 8 := by
  unfold goodR baseB at h
  simp only [Bool.and_eq_true, decide_eq_true_eq] at h
  exact h.1.1
theorem good_md {r : Rule} (h : goodR r = true) : 0 ≤ r.md ∧ r.md ≤ 1000 := by
  unfold goodR kindB at h
  simp only [Bool.and_eq_true] at h
  obtain ⟨_, _, h⟩ := h
  split at h
  · simp only [Bool.and_eq_true, decide_eq_true_eq] at h; omega
  · split at h
    · simp only [Bool.and_eq_true, decide_eq_true_eq] at h; omega
    · split at h
      · simp only [Bool.and_eq_true, decide_eq_true_eq] at h; omega
      · split at h
        · simp only [Bool.and_eq_true, decide_eq_true_eq] at h; omega
        · split at h
          · simp only [Bool.and_eq_true, decide_eq_true_eq] at h; omega
          · simp only [Bool.and_eq_true, decide_eq_true_eq] at h; omega
def ansR (r : Rule) : List UInt8 := if goodR r = true then txtR r else []
end Go.Proofs.YtbijhkbmgljjiaaGreatDoor.Rel
