/- A pattern as the program reads it: a run ends, an alternative ends; the whole state. -/
import Derived.Test.YtpobpanmkdjkjaaPe
namespace Go.Proofs.Ytpobpanmkdjkjaa.Pat
open Go.RowKit

section
variable {B : Nat} {w0 w w3 : World} {S : Blk} {fin : List (List (List Int))} {rs : List (List Int)} {r : List Int} {g1 n1 c1 : Nat} {x1 : List Value} {g2 n2 c2 : Nat} {x2 : List Value} {v3 : Value} {x3 : List Value} {g4 c4 : Nat}
theorem Bd.star {o : Obj} (h : Bd B w0 w S fin rs r g1 n1 c1 x1 g2 n2 c2 x2 v3 x3) (hown : w3.ownsRow B 96 1 (.slice (some ⟨g4, 0, none⟩) (n2 + 1) c4) (n2 + 1) (x2 ++ [.slice none 0 0])) (hgr : (w.alloc o).grownBy w3 (some g2)) (hat : g4 = g2 ∨ w.heap.size ≤ g4) :
    Bd B w0 (w3.setCell ⟨g1, n1 - 1, none⟩ (.slice (some ⟨g4, 0, none⟩) (n2 + 1) c4)) (fun k => S k ∨ v3.ownBlock = some k) fin (rs ++ [r]) [] g1 n1 c1 (x1.set (n1 - 1) (.slice (some ⟨g4, 0, none⟩) (n2 + 1) c4)) g4 (n2 + 1) c4 (x2 ++ [.slice none 0 0]) (.slice none 0 0) [] := by
  have hl1 : x1.length = n1 := by have := h.o1.1; omega
  have hl2 : x2.length = n2 := by have := h.o2.1; omega
  have hn1 := h.n1e
  have hn2 := h.n2e
  have hx1 : n1 - 1 = fin.length := by omega
  have O1 : w3.ownsRow B 79 1 (.slice (some ⟨g1, 0, none⟩) n1 c1) n1 x1 := (h.o1.alloc o).kept hgr (own_apart h.o1 h.o2 (by decide))
  have hst := O1.stored (n1 - 1) (.slice (some ⟨g4, 0, none⟩) (n2 + 1) c4)
  have hsz3 : w.heap.size ≤ w3.heap.size := by have := hgr.size; simp at this; omega
  have keep : ∀ k, k < w.heap.size → k ≠ g2 → k ≠ g1 → (w3.setCell ⟨g1, n1 - 1, none⟩ (.slice (some ⟨g4, 0, none⟩) (n2 + 1) c4)).heap[k]? = w.heap[k]? := fun k hk h1 h2 =>
    (hst.2.block k (by omega) (fun e => h2 (Option.some.inj e))).trans ((hgr.block k (by simp; omega) (fun e => h1 (Option.some.inj e))).trans (Below.heap_alloc w o k hk))
  have ha : Agree S w (w3.setCell ⟨g1, n1 - 1, none⟩ (.slice (some ⟨g4, 0, none⟩) (n2 + 1) c4)) := fun k hk => keep k (h.sz k hk) (fun e => h.s2 (e ▸ hk)) (fun e => h.s1 (e ▸ hk))
  have h3 : ∀ g, v3.ownBlock = some g → (w3.setCell ⟨g1, n1 - 1, none⟩ (.slice (some ⟨g4, 0, none⟩) (n2 + 1) c4)).heap[g]? = w.heap[g]? := fun g hg => keep g (own_lt h.o3 hg) (fun e => h.g23 (e ▸ hg)) (fun e => h.g13 (e ▸ hg))
  have hsz : w3.heap.size ≤ (w3.setCell ⟨g1, n1 - 1, none⟩ (.slice (some ⟨g4, 0, none⟩) (n2 + 1) c4)).heap.size := hst.2.size
  refine ⟨hst.1, hown.kept hst.2 (own_apart hown O1 (by decide)), World.ownsRow_nil _ _ _ _, h.n1e, by simp; omega, ?_, ?_, ?_, ?_, ?_, ?_, ?_, ?_, ?_, ?_⟩
  · rw [← hx1, List.getElem?_set_self (show n1 - 1 < x1.length by omega)]
  · rw [List.getElem?_append_right (show x2.length ≤ (rs ++ [r]).length by simp; omega)]
    have : (rs ++ [r]).length - x2.length = 0 := by simp; omega
    rw [this]; rfl
  · intro i a hi
    have hlt := (List.getElem?_eq_some_iff.1 hi).1
    obtain ⟨u, hu, hx⟩ := h.f1 i a hi
    exact ⟨u, by rw [List.getElem?_set_ne (show n1 - 1 ≠ i by omega)]; exact hu, (hx.agree ha).mono (fun k hk => .inl hk)⟩
  · intro i q hi
    by_cases hlt : i < rs.length
    · rw [List.getElem?_append_left hlt] at hi
      obtain ⟨u, hu, hx⟩ := h.f2 i q hi
      exact ⟨u, by rw [List.getElem?_append_left (show i < x2.length by omega)]; exact hu, (hx.agree ha).mono (fun k hk => .inl hk)⟩
    · have hlt2 := (List.getElem?_eq_some_iff.1 hi).1
      simp at hlt2
      obtain rfl : i = rs.length := by omega
      simp at hi
      subst hi
      refine ⟨v3, by rw [List.getElem?_append_left (show rs.length < x2.length by omega)]; exact h.l2, x3, own_zero (own_agree h.o3 h3), fun g hg => .inr hg, fun i x hi => ?_⟩
      obtain ⟨u, hu, hx⟩ := h.f3 i x hi
      exact ⟨u, hu, (hx.agree ha).mono (fun k hk => .inl hk)⟩
  · intro i x hi; simp at hi
  · rintro (hs | hs)
    · exact h.s1 hs
    · exact h.g13 hs
  · rintro (hs | hs)
    · rcases hat with rfl | h4
      · exact h.s2 hs
      · have := h.sz _ hs; omega
    · rcases hat with rfl | h4
      · exact h.g23 hs
      · have := own_lt h.o3 hs; omega
  · intro g hg; cases hg
  · rintro k (hk | hk)
    · have := h.sz k hk; omega
    · have := own_lt h.o3 hk; omega
  · exact ((h.bel.alloc h.size o).grown hgr (by have := h.size; simp; omega) (fun j hj => (h.o2.lt j hj).1)).setCell (h.o1.lt g1 rfl).1 _

theorem Bd.bar (h : Bd B w0 w S fin rs r g1 n1 c1 x1 g2 n2 c2 x2 v3 x3) (hown : w3.ownsRow B 79 1 (.slice (some ⟨g4, 0, none⟩) (n1 + 1) c4) (n1 + 1) (x1 ++ [.slice (some ⟨w.heap.size, 0, none⟩) 1 1])) (hgr : ((w.alloc (.cells #[.slice none 0 0] 96)).alloc (.cells #[.slice (some ⟨w.heap.size, 0, none⟩) 1 1] 79)).grownBy w3 (some g1)) (hat : g4 = g1 ∨ w.heap.size + 2 ≤ g4) :
    Bd B w0 w3 (fun k => S k ∨ k = g2 ∨ v3.ownBlock = some k) (fin ++ [rs ++ [r]]) [] [] g4 (n1 + 1) c4 (x1 ++ [.slice (some ⟨w.heap.size, 0, none⟩) 1 1]) w.heap.size 1 1 [.slice none 0 0] (.slice none 0 0) [] := by
  have hl1 : x1.length = n1 := by have := h.o1.1; omega
  have hn1 := h.n1e
  have hn2 := h.n2e
  have hB := h.size
  have hsz3 : w.heap.size + 2 ≤ w3.heap.size := by have := hgr.size; simp at this; omega
  have N1 := (own_new w (.slice none 0 0) 96 B hB).alloc (.cells #[.slice (some ⟨w.heap.size, 0, none⟩) 1 1] 79)
  have O1' := (h.o1.alloc (.cells #[.slice none 0 0] 96)).alloc (.cells #[.slice (some ⟨w.heap.size, 0, none⟩) 1 1] 79)
  have keep : ∀ k, k < w.heap.size → k ≠ g1 → w3.heap[k]? = w.heap[k]? := fun k hk h1 =>
    (hgr.block k (by simp; omega) (fun e => h1 (Option.some.inj e))).trans ((Below.heap_alloc _ _ k (by simp; omega)).trans (Below.heap_alloc w _ k hk))
  have ha : Agree S w w3 := fun k hk => keep k (h.sz k hk) (fun e => h.s1 (e ▸ hk))
  have hlt1 : g1 < w.heap.size := own_lt h.o1 rfl
  have hlt2 : g2 < w.heap.size := own_lt h.o2 rfl
  refine ⟨hown, N1.kept hgr (own_apart N1 O1' (by decide)), World.ownsRow_nil _ _ _ _, by simp; omega, rfl, ?_, rfl, ?_, ?_, ?_, ?_, ?_, ?_, ?_, ?_⟩
  · rw [List.getElem?_append_right (show x1.length ≤ (fin ++ [rs ++ [r]]).length by simp; omega)]
    have : (fin ++ [rs ++ [r]]).length - x1.length = 0 := by simp; omega
    rw [this]; rfl
  · intro i a hi
    by_cases hlt : i < fin.length
    · rw [List.getElem?_append_left hlt] at hi
      obtain ⟨u, hu, hx⟩ := h.f1 i a hi
      exact ⟨u, by rw [List.getElem?_append_left (show i < x1.length by omega)]; exact hu, (hx.agree ha).mono (fun k hk => .inl hk)⟩
    · have hlt2' := (List.getElem?_eq_some_iff.1 hi).1
      simp at hlt2'
      obtain rfl : i = fin.length := by omega
      simp at hi
      subst hi
      have e1 : (rs ++ [r]).length = n2 := by simp; omega
      refine ⟨.slice (some ⟨g2, 0, none⟩) n2 c2, by rw [List.getElem?_append_left (show fin.length < x1.length by omega)]; exact h.l1, x2, by rw [e1]; exact own_zero (own_agree h.o2 (fun g hg => keep g (own_lt h.o2 hg) (fun e => h.g12 (e ▸ (Option.some.inj hg).symm)))), fun g hg => .inr (.inl (Option.some.inj hg).symm), fun i q hi => ?_⟩
      by_cases hlt : i < rs.length
      · rw [List.getElem?_append_left hlt] at hi
        obtain ⟨u, hu, hx⟩ := h.f2 i q hi
        exact ⟨u, hu, (hx.agree ha).mono (fun k hk => .inl hk)⟩
      · have hlt3 := (List.getElem?_eq_some_iff.1 hi).1
        simp at hlt3
        obtain rfl : i = rs.length := by omega
        simp at hi
        subst hi
        refine ⟨v3, h.l2, x3, own_zero (own_agree h.o3 (fun g hg => keep g (own_lt h.o3 hg) (fun e => h.g13 (e ▸ hg)))), fun g hg => .inr (.inr hg), fun i x hi => ?_⟩
        obtain ⟨u, hu, hx⟩ := h.f3 i x hi
        exact ⟨u, hu, (hx.agree ha).mono (fun k hk => .inl hk)⟩
  · intro i q hi; simp at hi
  · intro i q hi; simp at hi
  · rintro (hs | hs | hs)
    · rcases hat with rfl | h4
      · exact h.s1 hs
      · have := h.sz _ hs; omega
    · rcases hat with rfl | h4
      · exact h.g12 hs
      · omega
    · rcases hat with rfl | h4
      · exact h.g13 hs
      · have := own_lt h.o3 hs; omega
  · rintro (hs | hs | hs)
    · have := h.sz _ hs; omega
    · omega
    · have := own_lt h.o3 hs; omega
  · intro g hg; cases hg
  · rintro k (hk | hk | hk)
    · have := h.sz k hk; omega
    · omega
    · have := own_lt h.o3 hk; omega
  · exact ((h.bel.alloc hB (.cells #[.slice none 0 0] 96)).alloc (by simp; omega) (.cells #[.slice (some ⟨w.heap.size, 0, none⟩) 1 1] 79)).grown hgr (by simp; omega) (fun j hj => (h.o1.lt j hj).1)
end
theorem Bd.start (w : World) : Bd w.heap.size w ((w.alloc (.cells #[.slice none 0 0] 96)).alloc (.cells #[.slice (some ⟨w.heap.size, 0, none⟩) 1 1] 79)) (fun _ => False) [] [] [] (w.heap.size + 1) 1 1 [.slice (some ⟨w.heap.size, 0, none⟩) 1 1] w.heap.size 1 1 [.slice none 0 0] (.slice none 0 0) [] := by
  have h := own_new (w.alloc (.cells #[.slice none 0 0] 96)) (.slice (some ⟨w.heap.size, 0, none⟩) 1 1) 79 w.heap.size (by simp)
  simp only [World.size_alloc] at h
  exact ⟨h, (own_new w (.slice none 0 0) 96 w.heap.size (Nat.le_refl _)).alloc _, World.ownsRow_nil _ _ _ _, rfl, rfl, rfl, rfl, (fun i a hi => by simp at hi), (fun i a hi => by simp at hi), (fun i a hi => by simp at hi), id, id, (fun g hg => by cases hg), (fun k hk => False.elim hk), ((Below.refl w.heap.size w).alloc (Nat.le_refl _) _).alloc (by simp) _⟩

def Okr (i : Nat) (a : List (List Int)) : Prop := a ≠ [] ∧ a.length ≤ i + 1 ∧ ∀ q ∈ a, Run q ∧ q.length ≤ i
def OkA (i : Nat) (f : List (List (List Int))) : Prop := f.length ≤ i ∧ ∀ a ∈ f, Okr i a
theorem Okr.mono {i j : Nat} {a : List (List Int)} (h : Okr i a) (hj : i ≤ j) : Okr j a := ⟨h.1, by have := h.2.1; omega, fun q hq => ⟨(h.2.2 q hq).1, by have := (h.2.2 q hq).2; omega⟩⟩
theorem OkA.mono {i j : Nat} {f : List (List (List Int))} (h : OkA i f) (hj : i ≤ j) : OkA j f := ⟨by have := h.1; omega, fun a ha => (h.2 a ha).mono hj⟩
theorem Okr.add {i j : Nat} {rs : List (List Int)} {r : List Int} {x : Int} (h : Okr i (rs ++ [r])) (hx : x ≠ -1) (hj : i + 1 ≤ j) : Okr j (rs ++ [r ++ [x]]) := by
  refine ⟨by simp, by have := h.2.1; simp at this ⊢; omega, fun q hq => ?_⟩
  rcases List.mem_append.1 hq with h1 | h1
  · have := h.2.2 q (by simp [h1]); exact ⟨this.1, by omega⟩
  · simp at h1; subst h1
    have := h.2.2 r (by simp)
    refine ⟨fun y hy => ?_, by simp; omega⟩
    rcases List.mem_append.1 hy with h2 | h2
    · exact this.1 y h2
    · simp at h2; rw [h2]; exact hx
theorem Okr.star {i j : Nat} {a : List (List Int)} (h : Okr i a) (hj : i + 1 ≤ j) : Okr j (a ++ [[]]) := by
  refine ⟨by simp, by have := h.2.1; simp; omega, fun q hq => ?_⟩
  rcases List.mem_append.1 hq with h1 | h1
  · have := h.2.2 q h1; exact ⟨this.1, by omega⟩
  · simp at h1; subst h1; exact ⟨fun y hy => by simp at hy, by simp⟩
theorem OkA.bar {i j : Nat} {f : List (List (List Int))} {a : List (List Int)} (h : OkA i f) (ha : Okr i a) (hj : i + 1 ≤ j) : OkA j (f ++ [a]) := by
  refine ⟨by have := h.1; simp; omega, fun b hb => ?_⟩
  rcases List.mem_append.1 hb with h1 | h1
  · exact (h.2 b h1).mono (by omega)
  · simp at h1; subst h1; exact ha.mono (by omega)
theorem Okr.nil (i : Nat) : Okr i [[]] := ⟨by simp, by simp, fun q hq => by simp at hq; subst hq; exact ⟨fun y hy => by simp at hy, by simp⟩⟩
/-- What has been read up to i, and the rows that hold it. -/
def St (p : ByteArray) (B : Nat) (w0 w : World) (i g1 n1 c1 : Nat) : Prop :=
  ∃ (S : Blk) (fin : List (List (List Int))) (rs : List (List Int)) (r : List Int) (x1 : List Value) (g2 n2 c2 : Nat) (x2 : List Value) (v3 : Value) (x3 : List Value),
    Bd B w0 w S fin rs r g1 n1 c1 x1 g2 n2 c2 x2 v3 x3 ∧ At p i (fin.map itemsOf) (itemsOf (rs ++ [r])) ∧ OkA i fin ∧ Okr i (rs ++ [r])
theorem St.start (p : ByteArray) (w : World) : St p w.heap.size w ((w.alloc (.cells #[.slice none 0 0] 96)).alloc (.cells #[.slice (some ⟨w.heap.size, 0, none⟩) 1 1] 79)) 0 (w.heap.size + 1) 1 1 :=
  ⟨_, [], [], [], _, _, _, _, _, _, _, Bd.start w, At.zero p, ⟨by simp, by simp⟩, Okr.nil 0⟩
end Go.Proofs.Ytpobpanmkdjkjaa.Pat
