/- Samples that are drawn to be packed: l1Many, zByte; samples compared: zSamples. -/
import Derived.Test.YtpbnneelpdacdaaUbd
import Derived.Laws.StructEq
namespace Go.Proofs.Ytpbnneelpdacdaa.Smp
open Go.RowKit Go.Proofs.Ytpbnneelpdacdaa.Cur

/-- Bytes that came in. -/
def Bya (w : World) (a : Option Addr) (n : Nat) : Prop := n = 0 ∨ ∃ b off, a = some ⟨b, off, none⟩ ∧ b < w.heap.size ∧ ∀ i, i < n → ∃ z : Int, 0 ≤ z ∧ z ≤ 255 ∧ w.cell? ⟨b, off + i, none⟩ = some (.int .u8 z)
theorem Bya.below {w w' : World} {a : Option Addr} {n : Nat} (h : Bya w a n) (hb : Below w.heap.size w w') : Bya w' a n := by
  rcases h with h | ⟨b, off, h1, h2, h3⟩
  · exact .inl h
  · refine .inr ⟨b, off, h1, Nat.lt_of_lt_of_le h2 hb.size, fun i hi => ?_⟩
    obtain ⟨z, z0, z1, hz⟩ := h3 i hi
    exact ⟨z, z0, z1, (hb.cell (p := ⟨b, off + i, none⟩) h2).trans hz⟩
theorem cuNew {w : World} {a : Option Addr} {n c : Nat} (h : Bya w a n) : Cu w.heap.size w.heap.size a n c 0 (w.alloc (.cells #[.slice a n c, .int .i64 0, .int .u64 0] 51)) := by
  have hb := (Below.refl w.heap.size w).alloc (Nat.le_refl _) (.cells #[.slice a n c, .int .i64 0, .int .u64 0] 51)
  refine ⟨⟨0, 0, Nat.le_refl _, by omega, by omega, ?_⟩, ?_, Nat.le_refl _⟩
  · show (w.heap.push _)[w.heap.size]? = _
    simp
  · rcases h with h | ⟨b, off, h1, h2, h3⟩
    · exact .inl h
    · refine .inr ⟨b, off, h1, h2, Nat.lt_of_lt_of_le h2 hb.size, fun i hi => ?_⟩
      obtain ⟨z, z0, z1, hz⟩ := h3 i hi
      exact ⟨z, z0, z1, (hb.cell (p := ⟨b, off + i, none⟩) h2).trans hz⟩
theorem below_of {w w' : World} {o : Obj} (hg : (w.alloc o).grownBy w' (some w.heap.size)) : Below w.heap.size w w' :=
  ⟨hg.os, hg.tape, hg.output, by have := hg.size; simp at this; omega, fun k hk => (hg.block k (by simp; omega) (by simp; omega)).trans (Below.heap_alloc w o k hk)⟩
theorem below_cur {B R : Nat} {w a b : World} (h : Below B w a) (k : a.grownBy b (some R)) (hB : B ≤ a.heap.size) (hR : B ≤ R) : Below B w b := h.grown k hB (by intro g e; cases e; exact hR)
theorem Own.cur {R base : Nat} {w w' : World} {v : Value} {L : List Sm} (h : Own w base v L) (hg : w.grownBy w' (some R)) (hR : R < base) : Own w' base v L :=
  h.kept hg (fun k hk e => by have h9 := Option.some.inj e; have := (h.lt k hk).1; omega)

theorem f26 (a : Option Addr) (n c : Nat) (w : World) (hn : n ≤ 1048576) :
    Calls Try.prog 26 #[.slice a n c, .int .i64 10, .int .i64 100] w fun e w' => ∃ x : Int, e = .returned (.int .i64 x) ∧ 0 ≤ x ∧ x ≤ 100 ∧ w' = w := by
  by_cases hgt : (100 : Int) < (n : Int) / 10
  · go_enter Try.func26, Try.ntmps26
    go_wp2
    go_ret
    exact ⟨100, rfl, by omega, by omega, rfl⟩
  · go_enter Try.func26, Try.ntmps26
    go_wp2
    go_ret
    exact ⟨_, rfl, by omega, by omega, rfl⟩

/-- A byte of a list, 0 behind it. -/
theorem f6 (a : Option Addr) (n c : Nat) (i : Nat) (w : World) (h : Bya w a n) (hi : i ≤ 1000) :
    Calls Try.prog 6 #[.slice a n c, .int .i64 (i : Int)] w fun e w' => ∃ x : Int, e = .returned (.int .i64 x) ∧ 0 ≤ x ∧ x ≤ 255 ∧ w' = w := by
  by_cases hlt : i < n
  · rcases h with h | ⟨b, off, rfl, h2, h3⟩
    · omega
    obtain ⟨z, z0, z1, hz⟩ := h3 i hlt
    have hi' : (i : Int) < (n : Int) := by omega
    go_enter Try.func6, Try.ntmps6
    go_wp2
    go_ret
    exact ⟨z, by go_num, z0, z1, rfl⟩
  · have hi' : ¬ (i : Int) < (n : Int) := by omega
    go_enter Try.func6, Try.ntmps6
    go_wp2
    go_ret
    exact ⟨0, rfl, by omega, by omega, rfl⟩
end Go.Proofs.Ytpbnneelpdacdaa.Smp
