/- Templates: what their pieces are. -/
import Derived.Test.YtpeffjkagaegjaaDoorGtr
import Derived.OwnWalk
namespace Go.Proofs.YtpeffjkagaegjaaDoor.Tpl
open Go.RowKit Go.Proofs.YtpeffjkagaegjaaDoor.Pat Go.Proofs.YtpeffjkagaegjaaDoor.Rdd

/-- A piece: its text, and whether it is a name. -/
abbrev Pc := ByteArray × Bool
/-- The piece that stands at a place, and the place behind it. -/
def stp (s : ByteArray) (i : Nat) : Option (Pc × Nat) :=
  if (by' s)[i]? = some 123 then
    if (by' s)[i + 1]? = some 123 then some ((⟨#[123]⟩, false), i + 2)
    else if (by' s)[nmE (by' s) (i + 1)]? = some 125 ∧ nameL (s.extract (i + 1) (nmE (by' s) (i + 1))).data.toList = true then some ((s.extract (i + 1) (nmE (by' s) (i + 1)), true), nmE (by' s) (i + 1) + 1)
    else none
  else some ((s.extract i (i + 1), false), i + 1)
theorem at_lt {s : ByteArray} {i : Nat} {c : UInt8} (h : (by' s)[i]? = some c) : i < s.size := by
  have := (List.getElem?_eq_some_iff.1 h).1
  simpa using this
theorem stp_lt {s : ByteArray} {i j : Nat} {p : Pc} (h : stp s i = some (p, j)) (hi : i < s.size) : i < j ∧ j ≤ s.size ∧ p.1.size ≤ s.size := by
  unfold stp at h
  split at h
  · split at h
    · rename_i h1 h2
      have := at_lt h2
      simp at h
      obtain ⟨rfl, rfl⟩ := h
      refine ⟨by omega, by omega, ?_⟩
      show 1 ≤ s.size
      omega
    · split at h
      · rename_i h1 h2 h3
        have h4 := at_lt h3.1
        have h5 := nmE_ge (by' s) (i + 1)
        simp at h
        obtain ⟨rfl, rfl⟩ := h
        refine ⟨by omega, by omega, ?_⟩
        show (s.extract _ _).size ≤ _
        rw [ByteArray.size_extract]; omega
      · cases h
  · simp at h
    obtain ⟨rfl, rfl⟩ := h
    refine ⟨by omega, by omega, ?_⟩
    show (s.extract _ _).size ≤ _
    rw [ByteArray.size_extract]; omega
def prs (s : ByteArray) : Nat → Nat → Option (List Pc)
  | 0, _ => some []
  | n + 1, i => if i < s.size then (stp s i).bind fun q => (prs s n q.2).map (q.1 :: ·) else some []
theorem prs_end {s : ByteArray} : ∀ (n i : Nat), s.size ≤ i → prs s n i = some []
  | 0, _, _ => rfl
  | n + 1, i, h => by rw [prs, if_neg (by omega)]
theorem prs_same {s : ByteArray} : ∀ (n m i : Nat), s.size - i ≤ n → s.size - i ≤ m → prs s n i = prs s m i
  | 0, m, i, hn, _ => by rw [prs_end 0 i (by omega), prs_end m i (by omega)]
  | n + 1, 0, i, _, hm => by rw [prs_end _ i (by omega), prs_end 0 i (by omega)]
  | n + 1, m + 1, i, hn, hm => by
    rw [prs, prs]
    split
    · rename_i hi
      cases hq : stp s i with
      | none => rfl
      | some q =>
        obtain ⟨p, j⟩ := q
        have hj := (stp_lt hq hi).1
        show (prs s n j).map _ = (prs s m j).map _
        rw [prs_same n m j (by omega) (by omega)]
    · rfl
def PR (s : ByteArray) (i : Nat) : Option (List Pc) := prs s (s.size - i) i
theorem PR_end {s : ByteArray} {i : Nat} (h : s.size ≤ i) : PR s i = some [] := prs_end _ _ h
theorem PR_step {s : ByteArray} {i j : Nat} {p : Pc} (h : i < s.size) (hq : stp s i = some (p, j)) : PR s i = (PR s j).map (p :: ·) := by
  have hj := (stp_lt hq h).1
  unfold PR
  obtain ⟨n, hn⟩ : ∃ n, s.size - i = n + 1 := ⟨s.size - i - 1, by omega⟩
  rw [hn, prs, if_pos h, hq]
  show (prs s n j).map _ = _
  rw [prs_same n (s.size - j) j (by omega) (by omega)]
theorem PR_bad {s : ByteArray} {i : Nat} (h : i < s.size) (hq : stp s i = none) : PR s i = none := by
  unfold PR
  obtain ⟨n, hn⟩ : ∃ n, s.size - i = n + 1 := ⟨s.size - i - 1, by omega⟩
  rw [hn, prs, if_pos h, hq]; rfl
/-- What was read and what is left come to the whole. -/
def Sofar (s : ByteArray) (ps : List Pc) (i : Nat) : Prop := PR s 0 = (PR s i).map (ps ++ ·) ∧ ps.length ≤ i ∧ ∀ p ∈ ps, p.1.size ≤ s.size
theorem Sofar.zero (s : ByteArray) : Sofar s [] 0 := ⟨by cases PR s 0 <;> simp, Nat.le_refl _, by simp⟩
theorem Sofar.next {s : ByteArray} {ps : List Pc} {i j : Nat} {p : Pc} (h : Sofar s ps i) (hi : i < s.size) (hq : stp s i = some (p, j)) : Sofar s (ps ++ [p]) j := by
  have hl := stp_lt hq hi
  refine ⟨?_, ?_, ?_⟩
  · rw [h.1, PR_step hi hq, Option.map_map]
    congr 1
    funext x
    simp
  · have := h.2.1; simp; omega
  · intro x hx
    rcases List.mem_append.1 hx with hx | hx
    · exact h.2.2 x hx
    · simp at hx; subst hx; exact hl.2.2
theorem Sofar.bad {s : ByteArray} {ps : List Pc} {i : Nat} (h : Sofar s ps i) (hi : i < s.size) (hq : stp s i = none) : PR s 0 = none := by
  rw [h.1, PR_bad hi hq]; rfl
theorem Sofar.done {s : ByteArray} {ps : List Pc} {i : Nat} (h : Sofar s ps i) (hi : s.size ≤ i) : PR s 0 = some ps := by
  rw [h.1, PR_end hi]; simp
/-- The pieces of a good template. -/
def tpl (s : ByteArray) : Option (List Pc) := if s.size ≤ 200 ∧ printL s.data.toList = true then PR s 0 else none
theorem tpl_long {s : ByteArray} (h : 200 < s.size) : tpl s = none := by unfold tpl; rw [if_neg (by omega)]
theorem tpl_unprinted {s : ByteArray} (h : printL s.data.toList = false) : tpl s = none := by unfold tpl; rw [if_neg (by simp [h])]
theorem tpl_ok {s : ByteArray} (h1 : s.size ≤ 200) (h2 : printL s.data.toList = true) : tpl s = PR s 0 := by unfold tpl; rw [if_pos ⟨h1, h2⟩]

/-- Pieces as cells. -/
def flatP (ps : List Pc) : List Value := ps.flatMap fun p => [.string p.1, .bool p.2]
theorem flatP_snoc (ps : List Pc) (p : Pc) : flatP (ps ++ [p]) = flatP ps ++ [.string p.1, .bool p.2] := by simp [flatP]
theorem own_form' {w : World} {base e size n : Nat} {v : Value} {xs : List Value} (h : w.ownsRow base e size v n xs) : ∃ a c, v = .slice a n c := by
  rcases h.2 with ⟨h1, h2⟩ | ⟨g, cap, cur, h1, _⟩
  · subst h2; exact ⟨none, 0, h1⟩
  · exact ⟨_, _, h1⟩
theorem two_new (w : World) (x y : Value) (t : TypeId) : ∀ j u, [x, y][j]? = some u → (w.alloc (.cells #[x, y] t)).cell? ((⟨w.heap.size, 0, none⟩ : Addr).add j) = some u := by
  intro j u hj
  have h := heap_alloc_new w (.cells #[x, y] t)
  match j, hj with
  | 0, hj =>
    simp at hj; subst hj
    have : (⟨w.heap.size, 0, none⟩ : Addr).add 0 = ⟨w.heap.size, 0, none⟩ := by simp [Addr.add]
    rw [this]; exact two0 h
  | 1, hj =>
    simp at hj; subst hj
    have : (⟨w.heap.size, 0, none⟩ : Addr).add 1 = ⟨w.heap.size, 1, none⟩ := by simp [Addr.add]
    rw [this]; exact two1 h
  | j + 2, hj => simp at hj
end Go.Proofs.YtpeffjkagaegjaaDoor.Tpl
