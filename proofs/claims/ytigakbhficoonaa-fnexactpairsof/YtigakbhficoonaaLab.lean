/- Lists of labels: what szLabelS, toLabelS and eqLabelS come to. -/
import Derived.Test.YtigakbhficoonaaCmp
namespace Go.Proofs.Ytigakbhficoonaa.Lab
open Go.RowKit Go.Proofs.Ytigakbhficoonaa.Str

abbrev Lb := ByteArray × ByteArray
def e0 : Lb := (ByteArray.empty, ByteArray.empty)

/-- The slice that begins at 'a' holds the labels 'ls' in the world 'w'. -/
def HasL (w : World) (a : Option Addr) (ls : List Lb) : Prop :=
  ls = [] ∨ ∃ b off, a = some ⟨b, off, none⟩ ∧ b < w.heap.size ∧ ∀ i, i < ls.length → w.cell? ⟨b, off + i * 2, none⟩ = some (.string (ls.getD i e0).1) ∧ w.cell? ⟨b, off + i * 2 + 1, none⟩ = some (.string (ls.getD i e0).2)

theorem HasL.below {w w' : World} {a : Option Addr} {ls : List Lb} (h : HasL w a ls) (hb : Below w.heap.size w w') : HasL w' a ls := by
  rcases h with h | ⟨b, off, h1, h2, h3⟩
  · exact .inl h
  · exact .inr ⟨b, off, h1, Nat.lt_of_lt_of_le h2 hb.size, fun i hi => ⟨(hb.cell (by exact h2)).trans (h3 i hi).1, (hb.cell (by exact h2)).trans (h3 i hi).2⟩⟩
theorem HasL.alloc {w : World} {a : Option Addr} {ls : List Lb} (h : HasL w a ls) (o : Obj) : HasL (w.alloc o) a ls := h.below ((Below.refl _ _).alloc (Nat.le_refl _) o)

/-- All texts are such as a machine can hold. -/
def Fit (ls : List Lb) : Prop := ∀ i, (ls.getD i e0).1.size ≤ maxLen ∧ (ls.getD i e0).2.size ≤ maxLen

/-- The cells of a row of labels. -/
def flat (L : List Lb) : List Value := L.flatMap fun p => [.string p.1, .string p.2]
theorem flat_nil : flat [] = [] := rfl
theorem flat_cons (p : Lb) (L : List Lb) : flat (p :: L) = .string p.1 :: .string p.2 :: flat L := rfl
theorem flat_len (L : List Lb) : (flat L).length = L.length * 2 := by
  induction L with
  | nil => rfl
  | cons p L ih => rw [flat_cons]; simp [ih]; omega
theorem flat_get : ∀ (L : List Lb) (i : Nat), i < L.length → (flat L)[i * 2]? = some (.string (L.getD i e0).1) ∧ (flat L)[i * 2 + 1]? = some (.string (L.getD i e0).2) := by
  intro L
  induction L with
  | nil => intro i h; simp at h
  | cons p L ih =>
    intro i h
    cases i with
    | zero => exact ⟨rfl, rfl⟩
    | succ i =>
      have := ih i (by simpa using h)
      rw [flat_cons, show (i + 1) * 2 = i * 2 + 1 + 1 from by omega, show i * 2 + 1 + 1 + 1 = (i * 2 + 1) + 1 + 1 from rfl]
      simpa using this
theorem flat_set : ∀ (L : List Lb) (i : Nat) (s t : ByteArray), i < L.length → ((flat L).set (i * 2) (.string s)).set (i * 2 + 1) (.string t) = flat (L.set i (s, t)) := by
  intro L
  induction L with
  | nil => intro i s t h; simp at h
  | cons p L ih =>
    intro i s t h
    cases i with
    | zero => rfl
    | succ i =>
      have := ih i s t (by simpa using h)
      rw [List.set_cons_succ, flat_cons, flat_cons, ← this, show (i + 1) * 2 = i * 2 + 1 + 1 from by omega, show i * 2 + 1 + 1 + 1 = (i * 2 + 1) + 1 + 1 from rfl]
      rfl
theorem made_two (n : Nat) : (madeCells #[.string ByteArray.empty, .string ByteArray.empty] (n * 2)).toList = flat (List.replicate n e0) := by
  apply List.ext_getElem?
  intro j
  by_cases hj : j < n * 2
  · have e1 : (madeCells #[.string ByteArray.empty, .string ByteArray.empty] (n * 2)).toList[j]? = some (.string ByteArray.empty) := by
      have h2 : j % 2 = 0 ∨ j % 2 = 1 := by omega
      unfold madeCells
      simp [hj]
      rcases h2 with h | h <;> rw [h] <;> rfl
    rw [e1]
    obtain ⟨g0, g1⟩ := flat_get (List.replicate n e0) (j / 2) (by simp; omega)
    have h2 : (List.replicate n e0).getD (j / 2) e0 = e0 := by
      rw [List.getD_eq_getElem?_getD, List.getElem?_replicate]; split <;> rfl
    rw [h2] at g0 g1
    rcases (show j = j / 2 * 2 ∨ j = j / 2 * 2 + 1 by omega) with h | h
    · rw [h]; exact g0.symm
    · rw [h]; exact g1.symm
  · rw [List.getElem?_eq_none (by simp [size_madeCells]; omega), List.getElem?_eq_none (by rw [flat_len]; simp; omega)]

theorem own_below {w w' : World} {base e size n : Nat} {v : Value} {xs : List Value} (h : w.ownsRow base e size v n xs) (hb : Below w.heap.size w w') : w'.ownsRow base e size v n xs :=
  h.kept (row := none) ⟨hb.os, hb.tape, hb.output, hb.size, fun k hk _ => hb.block k hk⟩ (by cases hv : v.ownBlock <;> simp)
theorem HasL.own {w : World} {base g n c : Nat} {ls : List Lb} (h : w.ownsRow base 33 2 (.slice (some ⟨g, 0, none⟩) n c) n (flat ls)) : HasL w (some ⟨g, 0, none⟩) ls := by
  have hl := h.1
  rw [flat_len] at hl
  refine .inr ⟨g, 0, rfl, (h.lt g rfl).2, fun i hi => ?_⟩
  obtain ⟨h0, h1⟩ := flat_get ls i hi
  rw [Nat.zero_add]
  exact ⟨(h.cellAt (i * 2) (by omega)).trans h0, (h.cellAt (i * 2 + 1) (by omega)).trans h1⟩

theorem info50 : (Try.prog.info? 33).map (fun i => (i.zero, i.size, i.bytes)) = some (some (.agg #[.string ByteArray.empty, .string ByteArray.empty]), 2, 32) := by kernel_rfl

theorem step_set (ls : List Lb) (n k : Nat) (hn : ls.length = n) (hk : k < n) : (ls.take k ++ List.replicate (n - k) e0).set k (ls.getD k e0) = ls.take (k + 1) ++ List.replicate (n - (k + 1)) e0 := by
  have hl : (ls.take k).length = k := by simp; omega
  rw [List.set_append_right _ _ (by omega), hl, Nat.sub_self, show n - k = (n - (k + 1)) + 1 from by omega, List.replicate_succ, List.set_cons_zero, List.take_succ_eq_append_getElem (by omega), List.append_assoc]
  congr 2
  simp [hn, hk]
theorem step_len (ls : List Lb) (n k : Nat) (hn : ls.length = n) (hk : k ≤ n) : (ls.take k ++ List.replicate (n - k) e0).length = n := by simp; omega

theorem f16 (s t : ByteArray) (w : World) : Calls Try.prog 16 #[.agg #[.string s, .string t], .agg #[.string s, .string t]] w fun e w' => e = .returned (.bool true) ∧ Below w.heap.size w w' := by
  have hb := hid (((Below.refl w.heap.size w).alloc (Nat.le_refl _) (.cells #[.string s, .string t] 33)).alloc (by simp) (.cells #[.string s, .string t] 33))
  go_enter Try.func16, Try.ntmps16
  go_wp2
  go_ret
  exact ⟨rfl, hb.out⟩
end Go.Proofs.Ytigakbhficoonaa.Lab
