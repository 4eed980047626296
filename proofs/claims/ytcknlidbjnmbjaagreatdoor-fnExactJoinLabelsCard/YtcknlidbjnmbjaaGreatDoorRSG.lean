/- The lists that are joined: plain facts. -/
import Derived.Test.YtcknlidbjnmbjaaGreatDoorRSE
import Derived.Test.YtcknlidbjnmbjaaGreatDoorRWm
import Derived.Test.YtcknlidbjnmbjaaGreatDoorRQj
import Derived.Test.YtcknlidbjnmbjaaGreatDoorROw
namespace Go.Proofs.YtcknlidbjnmbjaaGreatDoor.Lab
open Go.RowKit Go.Proofs.YtcknlidbjnmbjaaGreatDoor.Str

def has (ls : List Lb) (x : ByteArray) : Bool := ls.any fun p => decide (p.1 = x)
theorem has_iff {ls : List Lb} {x : ByteArray} : has ls x = true ↔ ∃ p ∈ ls, p.1 = x := by simp [has]
/-- The sign of what was told by the target itself. -/
def exS : ByteArray := ⟨#[101, 120, 112, 111, 114, 116, 101, 100, 95]⟩
def ren (ls : List Lb) (ho : Bool) (x : Lb) : Lb := if has ls x.1 && !ho then (exS ++ x.1, x.2) else x
def keepT (l : List Lb) (ho : Bool) (x : Lb) : Bool := !has l x.1 || !ho
/-- What is joined, in the model's order and in the program's. -/
def jm (ls l : List Lb) (ho : Bool) : List Lb := l.map (ren ls ho) ++ ls.filter (keepT l ho)
def jp (ls l : List Lb) (ho : Bool) : List Lb := ls.filter (keepT l ho) ++ l.map (ren ls ho)
theorem jp_perm (ls l : List Lb) (ho : Bool) : (jp ls l ho).Perm (jm ls l ho) := List.perm_append_comm
theorem ren_snd (ls : List Lb) (ho : Bool) (x : Lb) : (ren ls ho x).2 = x.2 := by unfold ren; split <;> rfl
theorem val_ne {ls : List Lb} (h : GoodP ls) : ∀ p ∈ ls, p.2 ≠ ByteArray.empty := by
  intro p hp e
  obtain ⟨i, hi, rfl⟩ := List.getElem_of_mem hp
  have h1 := (h.2 i hi).1
  rw [getD_mem_lt hi] at h1
  unfold okL at h1
  rw [e] at h1
  revert h1
  simp [valueL]
theorem jm_val {ls l : List Lb} (ho : Bool) (h : GoodP ls) (h' : GoodP l) : ∀ p ∈ jm ls l ho, p.2 ≠ ByteArray.empty := by
  intro p hp
  rcases List.mem_append.1 hp with hp | hp
  · obtain ⟨q, hq, rfl⟩ := List.mem_map.1 hp
    rw [ren_snd]
    exact val_ne h' q hq
  · exact val_ne h p (List.mem_filter.1 hp).1
theorem ofV_has {ls : List Lb} {x v : ByteArray} (hv : ∀ p ∈ ls, p.2 ≠ ByteArray.empty) (h : OfV ls x v) : v.toList.isEmpty = !has ls x := by
  rw [str_empty]
  rcases h with ⟨k, hk, h1, h2, _⟩ | ⟨h1, h2⟩
  · rw [getD_mem_lt hk] at h1 h2
    have h3 : has ls x = true := has_iff.2 ⟨_, List.getElem_mem hk, h1⟩
    have h4 : v ≠ ByteArray.empty := by rw [← h2]; exact hv _ (List.getElem_mem hk)
    rw [h3, decide_eq_false h4]; rfl
  · have h3 : has ls x = false := by
      rw [Bool.eq_false_iff]
      intro e
      obtain ⟨p, hp, e⟩ := has_iff.1 e
      obtain ⟨i, hi, rfl⟩ := List.getElem_of_mem hp
      have := h1 i hi
      rw [getD_mem_lt hi] at this
      exact this e
    rw [h3, decide_eq_true h2]; rfl
theorem place_has {ls : List Lb} {x : ByteArray} {lo : Nat} (hg : GoodP ls) (hp : Place ls (x, ByteArray.empty) lo) : decide (lo < ls.length ∧ cmpN (ls.getD lo e0) (x, ByteArray.empty) = 0) = has ls x := by
  by_cases h : lo < ls.length ∧ cmpN (ls.getD lo e0) (x, ByteArray.empty) = 0
  · rw [decide_eq_true h]
    refine (has_iff.2 ⟨ls.getD lo e0, ?_, cmpN_zero h.2⟩).symm
    rw [getD_mem_lt h.1]; exact List.getElem_mem h.1
  · rw [decide_eq_false h]
    have hm := hp.missed hg h
    symm
    rw [Bool.eq_false_iff]
    intro e
    obtain ⟨p, hq, e⟩ := has_iff.1 e
    obtain ⟨i, hi, rfl⟩ := List.getElem_of_mem hq
    have := hm i hi
    rw [getD_mem_lt hi] at this
    exact this e
end Go.Proofs.YtcknlidbjnmbjaaGreatDoor.Lab
/- What is joined: plain facts; the target's box while rows grow. -/
namespace Go.Proofs.YtcknlidbjnmbjaaGreatDoor.Lab
open Go.RowKit Go.Proofs.YtcknlidbjnmbjaaGreatDoor.Str
theorem good_small {l : List Lb} (h : GoodP l) : ∀ p ∈ l, p.1.size ≤ 40 ∧ p.2.size ≤ 100 := by
  intro p hp
  obtain ⟨i, hi, rfl⟩ := List.getElem_of_mem hp
  have h1 := (h.2 i hi).1
  rw [getD_mem_lt hi] at h1
  unfold okL nameL valueL at h1
  simp only [Bool.and_eq_true, decide_eq_true_eq, Array.length_toList] at h1
  exact ⟨h1.1.1.1.2, h1.2.1.2⟩
theorem jm_small {ls l : List Lb} (ho : Bool) (h : GoodP ls) (h' : GoodP l) : ∀ p ∈ jm ls l ho, p.1.size ≤ 49 ∧ p.2.size ≤ 100 := by
  intro p hp
  rcases List.mem_append.1 hp with hp | hp
  · obtain ⟨q, hq, rfl⟩ := List.mem_map.1 hp
    have h1 := good_small h' q hq
    rw [ren_snd]
    refine ⟨?_, h1.2⟩
    unfold ren
    split
    · have : (exS ++ q.1).size = 9 + q.1.size := by rw [ByteArray.size_append]; rfl
      simp only [this]; omega
    · omega
  · have h1 := good_small h p (List.mem_filter.1 hp).1
    omega
theorem fit_small {L : List Lb} (h : ∀ p ∈ L, p.1.size ≤ 49 ∧ p.2.size ≤ 100) : Fit L := by
  intro i
  by_cases hi : i < L.length
  · have := h _ (List.getElem_mem hi)
    rw [getD_mem_lt hi]
    unfold maxLen; omega
  · have : L.getD i e0 = e0 := by simp [List.getD, List.getElem?_eq_none (Nat.not_lt.1 hi)]
    rw [this]
    exact ⟨Nat.zero_le _, Nat.zero_le _⟩
theorem jm_len (ls l : List Lb) (ho : Bool) : (jm ls l ho).length ≤ l.length + ls.length := by
  unfold jm
  rw [List.length_append, List.length_map]
  have := List.length_filter_le (keepT l ho) ls
  omega
/-- What comes of joining: none where a name is there twice or it is not good. -/
def jo (ls l : List Lb) (ho : Bool) : Option (List Lb) := match addAll [] (jm ls l ho) with | none => none | some M => if goodL M = true then some M else none
theorem jo_none {ls l : List Lb} {ho : Bool} (h : addAll [] (jm ls l ho) = none) : jo ls l ho = none := by unfold jo; rw [h]
theorem jo_some {ls l M : List Lb} {ho : Bool} (h : addAll [] (jm ls l ho) = some M) : jo ls l ho = if goodL M = true then some M else none := by unfold jo; rw [h]
/-- The first k are put together. -/
def Jn (J : List Lb) (k : Nat) (out : List Lb) : Prop := Sr out ∧ out.Perm (J.take k) ∧ addAll out (J.drop k) = addAll [] J
theorem jn_zero (J : List Lb) : Jn J 0 [] := ⟨List.Pairwise.nil, by simp, by simp⟩
theorem Jn.mem {J out : List Lb} {k : Nat} (h : Jn J k out) {p : Lb} (hp : p ∈ out) : p ∈ J := List.mem_of_mem_take (h.2.1.mem_iff.1 hp)
theorem Jn.len {J out : List Lb} {k : Nat} (h : Jn J k out) : out.length ≤ k := by rw [h.2.1.length_eq, List.length_take]; omega
theorem jn_step {J out : List Lb} {k : Nat} (hk : k < J.length) (h : Jn J k out) (hv : ∀ p ∈ J, p.2 ≠ ByteArray.empty) (hno : has out (J.getD k e0).1 = false) : Jn J (k + 1) (withF out (J.getD k e0).1 (J.getD k e0).2) := by
  rw [getD_mem_lt hk] at *
  have hne : ∀ p ∈ out, p.1 ≠ J[k].1 := fun p hp e => by
    have := has_iff.2 ⟨p, hp, e⟩
    rw [hno] at this; cases this
  obtain ⟨h1, h2⟩ := with_new (x := J[k].1) (v := J[k].2) h.1 hne (hv _ (List.getElem_mem hk))
  refine ⟨h1, h2.trans ?_, ?_⟩
  · rw [List.take_succ_eq_append_getElem hk]
    exact (List.Perm.cons _ h.2.1).trans (List.perm_append_singleton _ _).symm
  · rw [← h.2.2, List.drop_eq_getElem_cons hk]
    conv => rhs; unfold addAll
    rw [if_neg (by rintro ⟨p, hp, e⟩; exact hne p hp e)]
theorem jn_none {J out : List Lb} {k : Nat} (hk : k < J.length) (h : Jn J k out) (hno : has out (J.getD k e0).1 = true) : addAll [] J = none := by
  rw [getD_mem_lt hk] at hno
  obtain ⟨p, hp, e⟩ := has_iff.1 hno
  rw [← h.2.2, List.drop_eq_getElem_cons hk]
  unfold addAll
  rw [if_pos ⟨p, hp, e⟩]
theorem jn_end {J out : List Lb} {k : Nat} (hk : J.length ≤ k) (h : Jn J k out) : addAll [] J = some out := by
  rw [← h.2.2, List.drop_eq_nil_of_le hk]; rfl
theorem ren_take {ls l : List Lb} {ho : Bool} {k : Nat} (hk : k < l.length) : flat ((l.take (k + 1)).map (ren ls ho)) = flat ((l.take k).map (ren ls ho)) ++ [.string (ren ls ho (l.getD k e0)).1, .string (ren ls ho (l.getD k e0)).2] := by
  rw [List.take_succ_eq_append_getElem hk, List.map_append, getD_mem_lt hk]; exact flat_snoc _ _
theorem keep_yes {ls l A : List Lb} {ho : Bool} {k : Nat} (hk : k < ls.length) (h : keepT l ho (ls.getD k e0) = true) : flat (A ++ (ls.take (k + 1)).filter (keepT l ho)) = flat (A ++ (ls.take k).filter (keepT l ho)) ++ [.string (ls.getD k e0).1, .string (ls.getD k e0).2] := by
  rw [getD_mem_lt hk] at *
  rw [List.take_succ_eq_append_getElem hk, List.filter_append, List.filter_cons_of_pos h, ← List.append_assoc]
  exact flat_snoc _ _
theorem keep_no {ls l A : List Lb} {ho : Bool} {k : Nat} (hk : k < ls.length) (h : keepT l ho (ls.getD k e0) = false) : A ++ (ls.take (k + 1)).filter (keepT l ho) = A ++ (ls.take k).filter (keepT l ho) := by
  rw [getD_mem_lt hk] at *
  rw [List.take_succ_eq_append_getElem hk, List.filter_append, List.filter_cons_of_neg (by rw [h]; simp)]
  simp
theorem ren_yes {ls : List Lb} {p : Lb} (h : has ls p.1 = true) : ren ls false p = (exS ++ p.1, p.2) := by unfold ren; rw [h]; rfl
theorem ren_no {ls : List Lb} {ho : Bool} {p : Lb} (h : has ls p.1 = false ∨ ho = true) : ren ls ho p = p := by
  unfold ren
  rcases h with h | h <;> rw [h] <;> simp
end Go.Proofs.YtcknlidbjnmbjaaGreatDoor.Lab
namespace Go.Proofs.YtcknlidbjnmbjaaGreatDoor.Tgt
open Go.RowKit Go.Proofs.YtcknlidbjnmbjaaGreatDoor.Fil Go.Proofs.YtcknlidbjnmbjaaGreatDoor.Rul
theorem To.grown {w : World} {t : Tg} {x y : World} {r : Option Nat} (h : To w t x) (h0 : Has w t) (hg : x.grownBy y r) (hr : ∀ j, r = some j → w.heap.size + 1 ≤ j) : To w t y := by
  have hb : Below w.heap.size w y := h.bel.grown hg h.bel.size (fun j hj => by have := hr j hj; omega)
  exact ⟨(hg.block _ (lt_at h.box) (by intro e; have := hr _ e.symm; omega)).trans h.box, h0.below hb, hb⟩
theorem To.alloc {w : World} {t : Tg} {x : World} (h : To w t x) (o : Obj) : To w t (x.alloc o) := h.below ((Below.refl x.heap.size x).alloc (Nat.le_refl _) o)
theorem grown_set (x : World) (b o : Nat) (v : Value) : x.grownBy (x.setCell ⟨b, o, none⟩ v) (some b) := by
  change x.grownBy (putN x b o [v]) (some b)
  refine ⟨rfl, rfl, rfl, ?_, fun j hj hne => putN_block (fun e => hne (by rw [e])) _ _ _⟩
  rw [putN_size]; exact Nat.le_refl _
theorem two_set {w : World} {b : Nat} {x0 x1 : Value} {t : TypeId} (h : w.heap[b]? = some (.cells #[x0, x1] t)) (v : Value) : (w.setCell ⟨b, 0, none⟩ v).heap[b]? = some (.cells #[v, x1] t) := by
  have hlt := lt_at h
  have h' : w.heap[b] = .cells #[x0, x1] t := by simpa [Array.getElem?_eq_getElem hlt] using h
  show (w.heap.modify b _)[b]? = _
  rw [Array.getElem?_eq_getElem (by simpa using hlt), Array.getElem_modify_self, h']
  rfl
theorem two_frz {w : World} {b o : Nat} {x0 x1 : Value} {t : TypeId} (h : w.heap[b]? = some (.cells #[x0, x1] t)) : w.frozen? ⟨b, o, none⟩ = false := by simp [World.frozen?, h]
end Go.Proofs.YtcknlidbjnmbjaaGreatDoor.Tgt
