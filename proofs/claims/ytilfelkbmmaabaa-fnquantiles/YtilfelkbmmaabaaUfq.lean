/- Bytes that came in, a new cursor over them; rare, zByte. -/
import Derived.Test.YtilfelkbmmaabaaUaq
import Derived.OpenShut
import Derived.ChangeOld
namespace Go.Proofs.Ytilfelkbmmaabaa.Cur
open Go.RowKit Go.ChangeShapes Go.WideShapes Go.ChangeAt
open Go.Proofs.Ytilfelkbmmaabaa.Quo (hid)

theorem add_none (b off j : Nat) : (⟨b, off, none⟩ : Addr).add j = ⟨b, off + j, none⟩ := by
  by_cases h : j = 0
  · subst h; simp [Addr.add]
  · simp [Addr.add, h]
/-- Bytes that came in. -/
def Bya (w : World) (a : Option Addr) (n : Nat) : Prop := n = 0 ∨ ∃ b off, a = some ⟨b, off, none⟩ ∧ b < w.heap.size ∧ ∀ i, i < n → ∃ z : Int, 0 ≤ z ∧ z ≤ 255 ∧ w.cell? ⟨b, off + i, none⟩ = some (.int .u8 z)
theorem Bya.below {w w' : World} {a : Option Addr} {n : Nat} (h : Bya w a n) (hb : Below w.heap.size w w') : Bya w' a n := by
  rcases h with h | ⟨b, off, h1, h2, h3⟩
  · exact .inl h
  · refine .inr ⟨b, off, h1, Nat.lt_of_lt_of_le h2 hb.size, fun i hi => ?_⟩
    obtain ⟨z, z0, z1, hz⟩ := h3 i hi
    exact ⟨z, z0, z1, (hb.cell (p := ⟨b, off + i, none⟩) h2).trans hz⟩
theorem cuNew {w : World} {a : Option Addr} {n c : Nat} (h : Bya w a n) : Cu w.heap.size w.heap.size a n c 0 (w.alloc (.cells #[.slice a n c, .int .i64 0, .int .u64 0] 38)) := by
  have hb := (Below.refl w.heap.size w).alloc (Nat.le_refl _) (.cells #[.slice a n c, .int .i64 0, .int .u64 0] 38)
  refine ⟨⟨0, 0, Nat.le_refl _, by omega, by omega, ?_⟩, ?_, Nat.le_refl _⟩
  · show (w.heap.push _)[w.heap.size]? = _
    simp
  · rcases h with h | ⟨b, off, h1, h2, h3⟩
    · exact .inl h
    · refine .inr ⟨b, off, h1, h2, Nat.lt_of_lt_of_le h2 hb.size, fun i hi => ?_⟩
      obtain ⟨z, z0, z1, hz⟩ := h3 i hi
      exact ⟨z, z0, z1, (hb.cell (p := ⟨b, off + i, none⟩) h2).trans hz⟩
theorem below_of {w w' : World} {o : Obj} (hg : (w.alloc o).grownBy w' (some w.heap.size)) : Below w.heap.size w w' :=
  ⟨hg.os, hg.tape, hg.output, by have := hg.size; simp at this; omega, fun k hk => (hg.block k (by simp; omega) (by simp; omega)).trans (Below.heap_alloc w o k hk)⟩
theorem below_cur {B R : Nat} {w a b : World} (h : Below B w a) (k : a.grownBy b (some R)) (hB : B ≤ a.heap.size) (hR : B ≤ R) : Below B w b := h.grown k hB (by intro g e; cases e; exact hR)
/-- A byte of a list, 0 behind it. -/
theorem f8 (a : Option Addr) (n c : Nat) (i : Nat) (w : World) (h : Bya w a n) (hi : i ≤ 1000) :
    Calls Try.prog 8 #[.slice a n c, .int .i64 (i : Int)] w fun e w' => ∃ x : Int, e = .returned (.int .i64 x) ∧ 0 ≤ x ∧ x ≤ 255 ∧ w' = w := by
  by_cases hlt : i < n
  · rcases h with h | ⟨b, off, rfl, h2, h3⟩
    · omega
    obtain ⟨z, z0, z1, hz⟩ := h3 i hlt
    have hi' : (i : Int) < (n : Int) := by omega
    go_enter Try.func8, Try.ntmps8
    go_wp2
    go_ret
    exact ⟨z, by go_num, z0, z1, rfl⟩
  · have hi' : ¬ (i : Int) < (n : Int) := by omega
    go_enter Try.func8, Try.ntmps8
    go_wp2
    go_ret
    exact ⟨0, rfl, by omega, by omega, rfl⟩
theorem f17 (B0 R n c lim : Nat) (a : Option Addr) (k : Int) (w : World) (h : Cu B0 R a n c lim w) (hl : lim ≤ 4503599627350000) (hn : n ≤ 1048576) (hk0 : 2 ≤ k) (hk1 : k ≤ 1000000) :
    Calls Try.prog 17 #[.pointer (some ⟨R, 0, none⟩), .int .i64 k] w fun e w' => ∃ x : Int, e = .returned (.int .i64 x) ∧ 0 ≤ x ∧ x < k ∧ Cu B0 R a n c (lim + 4) w' ∧ w.grownBy w' (some R) := by
  have HC := hid h
  clear h
  go_enter Try.func17, Try.ntmps17
  go_wp2_with fail
  refine (f16 B0 R n c lim a 8 _ HC.out (by omega) hn (by omega) (by omega)).mono ?_
  rintro e w1 ⟨b, rfl, hc1, hg1⟩
  have HC1 := hid hc1
  have HG1 := hid hg1
  clear hc1 hg1
  cases b
  · go_wp2
    go_ret
    exact ⟨0, rfl, by omega, by omega, HC1.out.mono (by omega), HG1.out⟩
  · go_wp2_with fail
    refine (f14 B0 R n c _ a (k - 1) _ HC1.out (by omega) hn (by omega) (by omega)).mono ?_
    rintro e w2 ⟨x, rfl, x0, x1, hc2, hg2⟩
    have HC2 := hid hc2
    have HG2 := hid (grownBy_trans HG1.out hg2)
    have x2 : 1 + x < k := by omega
    clear hc2 hg2 x1
    go_wp2
    go_ret
    exact ⟨1 + x, rfl, by omega, x2, HC2.out, HG2.out⟩

/-- A slice of bytes that came in. -/
theorem open_bytes {H : Type} {enc : TypeId × Value → H} {W : World} {a0 : Option Addr} {len0 cap0 : Nat} {d : DataW H} {p : List MemPlace} (h : DataW.Trod enc Try.prog W 0 (fun _ => true) true 22 (.slice a0 len0 cap0) d p) : len0 ≤ maxLen ∧ Bya W a0 len0 := by
  obtain ⟨fuel, hf⟩ := h
  rcases open_ints Try.underlying22 Try.underlying5 (by kernel_rfl) hf with ⟨hcs, _⟩ | ⟨x, l, c, zs, hcs, _, hl, hm, hz, _, hcell, hwz⟩
  · simp [Value.cells] at hcs
    obtain ⟨rfl, rfl, rfl⟩ := hcs
    exact ⟨Nat.zero_le _, .inl rfl⟩
  · simp [Value.cells] at hcs
    obtain ⟨rfl, rfl, rfl⟩ := hcs
    have hz' : zs.length = cap0 := by simpa using hz
    refine ⟨by omega, ?_⟩
    by_cases h0 : len0 = 0
    · exact .inl h0
    · obtain ⟨b, off, spot⟩ := x
      have h1 := hcell 0 (by omega)
      have hs : spot = none := by simpa [Addr.add] using World.cell?_spot h1
      subst hs
      refine .inr ⟨b, off, rfl, World.block_lt_of_cell? W _ h1, fun i hi => ?_⟩
      have g1 := hcell i (by omega)
      rw [add_none] at g1
      have hmem : zs.getD i 0 ∈ zs := by
        have e2 : zs.getD i 0 = zs[i]'(by omega) := by simp [show i < zs.length by omega]
        rw [e2]; exact List.getElem_mem _
      have hwf := hwz _ hmem
      simp only [Lit.wf, Bool.and_eq_true, decide_eq_true_eq] at hwf
      exact ⟨_, hwf.1, hwf.2, g1⟩

end Go.Proofs.Ytilfelkbmmaabaa.Cur
