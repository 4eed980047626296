/- Merged samples: the program's joinSamples, the first one being chosen. -/
import Derived.Test.YtailoeloonnoeaaRTj
import Derived.Test.YtailoeloonnoeaaRTh
namespace Go.Proofs.Ytailoeloonnoeaa.Smp
open Go.RowKit

theorem has_first {w : World} {a : Option Addr} {L : List Sm} (h : HasS w a L) (hp : 0 < L.length) : ∃ b off, a = some ⟨b, off, none⟩ ∧ b < w.heap.size ∧ w.cell? ⟨b, off, none⟩ = some (.int .i64 (L.getD 0 e0).1) ∧ w.cell? ⟨b, off + 1, none⟩ = some (.int .i64 (L.getD 0 e0).2) := by
  rcases h with h | ⟨b, off, h1, h2, h3⟩
  · rw [h] at hp; simp at hp
  · have := h3 0 hp
    simp only [Nat.zero_mul, Nat.add_zero] at this
    exact ⟨b, off, h1, h2, this.1, this.2⟩
theorem has_tail {w : World} {b off : Nat} {L : List Sm} (h : HasS w (some ⟨b, off, none⟩) L) : HasS w (some ⟨b, off + 2, none⟩) (L.drop 1) := by
  rcases h with h | ⟨b', off', hbo, h2, h3⟩
  · subst h; exact .inl rfl
  · simp only [Option.some.injEq, Addr.mk.injEq, and_true] at hbo
    obtain ⟨rfl, rfl⟩ := hbo
    refine .inr ⟨b, off + 2, rfl, h2, fun i hi => ?_⟩
    have hi' : i + 1 < L.length := by simp at hi; omega
    have h1 : (L.drop 1).getD i e0 = L.getD (i + 1) e0 := by simp [List.getD_eq_getElem?_getD]
    rw [h1, show off + 2 + i * 2 = off + (i + 1) * 2 from by omega]
    exact h3 (i + 1) hi'
theorem drop_getD (L : List Sm) (k : Nat) : (L.drop k).getD 0 e0 = L.getD k e0 := by simp [List.getD_eq_getElem?_getD]

/-- What is left of a list: a slice value, its row in the world ahead of the call. -/
structure Rest (w : World) (ys : List Sm) (k : Nat) (v : Value) : Prop where
  le : k ≤ ys.length
  form : (ys.length ≤ k ∧ v = .slice none 0 0) ∨ ∃ ad c, v = .slice (some ad) (ys.length - k) c ∧ ys.length - k ≤ c ∧ HasS w (some ad) (ys.drop k)
theorem Rest.init {w : World} {a : Option Addr} {c : Nat} {ys : List Sm} (h : HasS w a ys) (hc : ys.length ≤ c) (hn : a = none → c = 0) : Rest w ys 0 (.slice a ys.length c) := by
  refine ⟨Nat.zero_le _, ?_⟩
  cases a with
  | none =>
    have h1 := hn rfl
    subst h1
    have : ys.length = 0 := by omega
    exact .inl ⟨by omega, by rw [this]⟩
  | some x => exact .inr ⟨x, c, rfl, hc, h⟩
theorem Rest.len {w : World} {ys : List Sm} {k : Nat} {v : Value} (h : Rest w ys k v) : ∃ a c, v = .slice a (ys.length - k) c := by
  rcases h.form with ⟨h1, h2⟩ | ⟨ad, c, h1, _⟩
  · exact ⟨none, 0, by rw [h2, show ys.length - k = 0 from by omega]⟩
  · exact ⟨_, _, h1⟩
/-- One is left, and its cells. -/
theorem Rest.head {w : World} {ys : List Sm} {k : Nat} {v : Value} (h : Rest w ys k v) (hk : k < ys.length) : ∃ b off r c, ys.length - k = r + 1 ∧ r ≤ c ∧ v = .slice (some ⟨b, off, none⟩) (r + 1) (c + 1) ∧ b < w.heap.size ∧ w.cell? ⟨b, off, none⟩ = some (.int .i64 (ys.getD k e0).1) ∧ w.cell? ⟨b, off + 1, none⟩ = some (.int .i64 (ys.getD k e0).2) ∧
    Rest w ys (k + 1) (.slice (some ⟨b, off + 2, none⟩) r c) ∧ (r = 0 → Rest w ys (k + 1) (.slice (some ⟨b, off, none⟩) 0 0)) := by
  rcases h.form with ⟨h1, _⟩ | ⟨ad, c, h1, h2, h3⟩
  · omega
  · obtain ⟨b, off, hbo, hb, d0, d1⟩ := has_first h3 (by simp; omega)
    simp only [Option.some.injEq] at hbo
    subst hbo
    rw [drop_getD] at d0 d1
    have ht := has_tail h3
    rw [List.drop_drop] at ht
    refine ⟨b, off, ys.length - k - 1, c - 1, by omega, by omega, ?_, hb, d0, d1, ⟨by omega, .inr ⟨_, _, rfl, by omega, ht⟩⟩, fun h0 => ⟨by omega, .inr ⟨⟨b, off, none⟩, 0, ?_, by omega, .inl ?_⟩⟩⟩
    · rw [h1, show ys.length - k - 1 + 1 = ys.length - k from by omega, show c - 1 + 1 = c from by omega]
    · rw [show ys.length - (k + 1) = 0 from by omega]
    · exact List.drop_eq_nil_of_le (by omega)

def lenOf (v : Value) : Nat := match v with | .slice _ n _ => n | _ => 0
theorem box_grown {w w' : World} {b : Nat} {o : Obj} {r : Option Nat} (h : w.heap[b]? = some o) (hg : w.grownBy w' r) (hne : ∀ g, r = some g → g ≠ b) : w'.heap[b]? = some o := by
  have : b < w.heap.size := (Array.getElem?_eq_some_iff.1 h).1
  rw [hg.block b this (by intro e; exact hne _ e.symm rfl)]; exact h
theorem ne_grown {v v' : Value} {B S : Nat} (hat : v'.ownBlock = v.ownBlock ∨ v'.ownBlock = some S) (hB : B < S) (h : ∀ g, v.ownBlock = some g → g ≠ B) : ∀ g, v'.ownBlock = some g → g ≠ B := by
  intro g hg
  rcases hat with e | e
  · exact h g (by rw [← e]; exact hg)
  · rw [e] at hg; cases hg; omega

theorem below_drewT {w w' : World} (h : Below w.drew.heap.size w.drew w') : Below w.heap.size w w' := (Below.refl _ w).drew.trans h
theorem fr0 {w : World} {b t o : Nat} {cs : Array Value} (h : w.heap[b]? = some (.cells cs t (0, 0))) : w.frozen? ⟨b, o, none⟩ = false := by simp [World.frozen?, h]

/-- What is read where one is chosen. -/
abbrev SJ (w0 : World) (B bb ob : Nat) (s t s' t' : Int) (w : World) : Prop := w.cell? ⟨B, 0, none⟩ = some (.int .i64 s) ∧ w.cell? ⟨B, 1, none⟩ = some (.int .i64 t) ∧ w.cell? ⟨bb, ob, none⟩ = some (.int .i64 s') ∧ w.cell? ⟨bb, ob + 1, none⟩ = some (.int .i64 t') ∧ Below w0.heap.size w0 w
theorem SJ.drew {w0 w : World} {B bb ob : Nat} {s t s' t' : Int} (h : SJ w0 B bb ob s t s' t' w) : SJ w0 B bb ob s t s' t' w.drew := ⟨h.1, h.2.1, h.2.2.1, h.2.2.2.1, h.2.2.2.2.drew⟩
theorem SJ.below {w0 w w' : World} {B bb ob : Nat} {s t s' t' : Int} (hB : B < w.heap.size) (hb : bb < w0.heap.size) (h : SJ w0 B bb ob s t s' t' w) (hw : Below w.heap.size w w') : SJ w0 B bb ob s t s' t' w' := by
  have hs := h.2.2.2.2.size
  exact ⟨(hw.cell (p := ⟨B, 0, none⟩) hB).trans h.1, (hw.cell (p := ⟨B, 1, none⟩) hB).trans h.2.1, (hw.cell (p := ⟨bb, ob, none⟩) (by show bb < _; omega)).trans h.2.2.1, (hw.cell (p := ⟨bb, ob + 1, none⟩) (by show bb < _; omega)).trans h.2.2.2.1, h.2.2.2.2.trans (hw.mono hs)⟩
theorem SJ.set {w0 w : World} {B bb ob T : Nat} {s t s' t' x y : Int} (hB : w0.heap.size ≤ B) (hb : bb < w0.heap.size) (h : SJ w0 B bb ob s t s' t' w) (hx : w.heap[B]? = some (.cells #[.int .i64 s, .int .i64 t] T (0, 0))) : SJ w0 B bb ob x y s' t' ((w.setCell ⟨B, 0, none⟩ (.int .i64 x)).setCell ⟨B, 1, none⟩ (.int .i64 y)) := by
  have hbb := (h.2.2.2.2.setCell (p := ⟨B, 0, none⟩) hB (.int .i64 x)).setCell (p := ⟨B, 1, none⟩) hB (.int .i64 y)
  refine ⟨two0 (two_set _ _ hx), two1 (two_set _ _ hx), ?_, ?_, hbb⟩
  · exact ((hbb.cell (p := ⟨bb, ob, none⟩) hb).trans (h.2.2.2.2.cell (p := ⟨bb, ob, none⟩) hb).symm).trans h.2.2.1
  · exact ((hbb.cell (p := ⟨bb, ob + 1, none⟩) hb).trans (h.2.2.2.2.cell (p := ⟨bb, ob + 1, none⟩) hb).symm).trans h.2.2.2.1

end Go.Proofs.Ytailoeloonnoeaa.Smp
