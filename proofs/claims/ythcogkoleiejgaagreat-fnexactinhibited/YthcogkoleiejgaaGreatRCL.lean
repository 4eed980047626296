/- Lists of labels compared, in the model and in the program. -/
import Derived.Test.YthcogkoleiejgaaGreatRGi
import Derived.Deep.RegionHeld3
namespace Go.Proofs.YthcogkoleiejgaaGreat.Lab
open Go.RowKit Go.Proofs.YthcogkoleiejgaaGreat.Str

def orC (x y : Int) : Int := if x = 0 then y else x
def cmpV (p q : Lb) : Int := Lib.compareBytes p.2.data.toList q.2.data.toList
def cmpL (p q : Lb) : Int := orC (cmpN p q) (cmpV p q)
def cmpList : List Lb → List Lb → Int
  | [], [] => 0
  | [], _ :: _ => -1
  | _ :: _, [] => 1
  | p :: a, q :: b => orC (cmpL p q) (cmpList a b)

theorem lst_at : ∀ (k : Nat) (a b : List Lb), k < a.length → k < b.length → (∀ i, i < k → cmpL (a.getD i e0) (b.getD i e0) = 0) → cmpL (a.getD k e0) (b.getD k e0) ≠ 0 → cmpList a b = cmpL (a.getD k e0) (b.getD k e0) := by
  intro k
  induction k with
  | zero =>
    intro a b ha hb _ hne
    match a, b, ha, hb with
    | x :: a, y :: b, _, _ =>
      simp only [List.getD_cons_zero] at hne ⊢
      unfold cmpList; conv => lhs; unfold orC
      rw [if_neg hne]
  | succ k ih =>
    intro a b ha hb he hne
    match a, b, ha, hb with
    | x :: a, y :: b, ha, hb =>
      have h0 := he 0 (by omega)
      simp only [List.getD_cons_zero] at h0
      simp only [List.getD_cons_succ] at hne ⊢
      rw [← ih a b (by simpa using ha) (by simpa using hb) (fun i hi => by have := he (i + 1) (by omega); simpa using this) hne]
      conv => lhs; unfold cmpList; unfold orC
      rw [if_pos h0]
theorem lst_end : ∀ (k : Nat) (a b : List Lb), (∀ i, i < k → cmpL (a.getD i e0) (b.getD i e0) = 0) → k ≤ a.length → k ≤ b.length → (a.length ≤ k ∨ b.length ≤ k) → cmpList a b = numC a.length b.length := by
  intro k
  induction k with
  | zero =>
    intro a b _ _ _ h
    cases a with
    | nil =>
      cases b with
      | nil => rfl
      | cons y b => unfold cmpList numC; rw [if_pos (by simp)]
    | cons x a =>
      cases b with
      | nil => unfold cmpList numC; rw [if_neg (by simp; omega), if_pos (by simp)]
      | cons y b => simp at h
  | succ k ih =>
    intro a b he ha hb h
    match a, b, ha, hb with
    | x :: a, y :: b, ha, hb =>
      have h0 := he 0 (by omega)
      simp only [List.getD_cons_zero] at h0
      have e := ih a b (fun i hi => by have := he (i + 1) (by omega); simpa using this) (by simpa using ha) (by simpa using hb) (by simpa using h)
      have e2 : numC ((x :: a).length : Nat) ((y :: b).length : Nat) = numC a.length b.length := by
        unfold numC; simp
      rw [e2, ← e]
      conv => lhs; unfold cmpList; unfold orC
      rw [if_pos h0]

end Go.Proofs.YthcogkoleiejgaaGreat.Lab
/- What l2Cmp, compareLabel, compareLists and both CompareLabels come to. -/
namespace Go.Proofs.YthcogkoleiejgaaGreat.Lab
open Go.RowKit Go.Proofs.YthcogkoleiejgaaGreat.Str

theorem HasL.drewN {w : World} {a : Option Addr} {ls : List Lb} (h : HasL w a ls) (q : Nat) : HasL (w.drewN q) a ls := h

end Go.Proofs.YthcogkoleiejgaaGreat.Lab
/- What compareLabel, compareLists and both CompareLabels come to. -/
namespace Go.Proofs.YthcogkoleiejgaaGreat.Lab
open Go.RowKit Go.Proofs.YthcogkoleiejgaaGreat.Str

theorem two0 {w : World} {b : Nat} {u v : Value} {t : TypeId} (h : w.heap[b]? = some (.cells #[u, v] t (0, 0))) : w.cell? ⟨b, 0, none⟩ = some u := by simp [World.cell?, h]
theorem two1 {w : World} {b : Nat} {u v : Value} {t : TypeId} (h : w.heap[b]? = some (.cells #[u, v] t (0, 0))) : w.cell? ⟨b, 1, none⟩ = some v := by simp [World.cell?, h]
theorem lt_block {w : World} {k : Nat} {o : Obj} (h : w.heap[k]? = some o) : k < w.heap.size := (Array.getElem?_eq_some_iff.1 h).1
theorem box_below {w w' : World} {k : Nat} {o : Obj} (h : w.heap[k]? = some o) (hb : Below w.heap.size w w') : w'.heap[k]? = some o := (hb.block k (lt_block h)).trans h
theorem box_alloc {w : World} {k : Nat} {o : Obj} (h : w.heap[k]? = some o) (u : Obj) : (w.alloc u).heap[k]? = some o := (Below.heap_alloc w u k (lt_block h)).trans h

/-- Two labels in their boxes. -/
abbrev SS (w : World) (p q : Lb) (w' : World) : Prop :=
  w'.cell? ⟨w.heap.size, 0, none⟩ = some (.string p.1) ∧ w'.cell? ⟨w.heap.size, 1, none⟩ = some (.string p.2) ∧ w'.cell? ⟨w.heap.size + 1, 0, none⟩ = some (.string q.1) ∧ w'.cell? ⟨w.heap.size + 1, 1, none⟩ = some (.string q.2) ∧ Below w.heap.size w w'
theorem SS.below {w W W' : World} {p q : Lb} (h : SS w p q W) (hb : Below W.heap.size W W') : SS w p q W' := by
  obtain ⟨h1, h2, h3, h4, h5⟩ := h
  have l := World.block_lt_of_cell? W _ h4
  have l0 : w.heap.size < W.heap.size := by simp at l; omega
  exact ⟨(hb.cell (p := ⟨w.heap.size, 0, none⟩) l0).trans h1, (hb.cell (p := ⟨w.heap.size, 1, none⟩) l0).trans h2, (hb.cell (p := ⟨w.heap.size + 1, 0, none⟩) l).trans h3, (hb.cell (p := ⟨w.heap.size + 1, 1, none⟩) l).trans h4, h5.trans (hb.mono h5.size)⟩
theorem SS.alloc {w W : World} {p q : Lb} (h : SS w p q W) (o : Obj) : SS w p q (W.alloc o) := h.below ((Below.refl _ _).alloc (Nat.le_refl _) o)
theorem SS.drew {w W : World} {p q : Lb} (h : SS w p q W) : SS w p q W.drew := ⟨h.1, h.2.1, h.2.2.1, h.2.2.2.1, h.2.2.2.2.drew⟩
theorem SS.new (w : World) (p q : Lb) : SS w p q ((w.alloc (.cells #[.string p.1, .string p.2] 53)).alloc (.cells #[.string q.1, .string q.2] 53)) := by
  have A1 := box_alloc (heap_alloc_new w (.cells #[.string p.1, .string p.2] 53)) (.cells #[.string q.1, .string q.2] 53)
  have B1 := heap_alloc_new (w.alloc (.cells #[.string p.1, .string p.2] 53)) (.cells #[.string q.1, .string q.2] 53)
  simp only [World.size_alloc] at B1
  exact ⟨two0 A1, two1 A1, two0 B1, two1 B1, ((Below.refl w.heap.size w).alloc (Nat.le_refl _) _).alloc (by simp) _⟩

noncomputable def cmpR (la lb : List Lb) : Int := if goodL la = true ∧ goodL lb = true then cmpList la lb else -2
theorem cmpR_good {la lb : List Lb} (h1 : goodL la = true) (h2 : goodL lb = true) : cmpR la lb = cmpList la lb := by unfold cmpR; rw [if_pos ⟨h1, h2⟩]
theorem cmpR_no1 {la lb : List Lb} (h1 : goodL la = false) : cmpR la lb = -2 := by unfold cmpR; rw [if_neg (by simp [h1])]
theorem cmpR_no2 {la lb : List Lb} (h1 : goodL lb = false) : cmpR la lb = -2 := by unfold cmpR; rw [if_neg (by simp [h1])]

end Go.Proofs.YthcogkoleiejgaaGreat.Lab
