/- A chunk as plain bits: what the model and the program put, sample by sample. -/
import Derived.Test.YteblbcbfaomdmaaDoorVb
import Derived.Test.YteblbcbfaomdmaaDoorAdd3
import Derived.Test.YteblbcbfaomdmaaDoorTc
namespace Go.Proofs.YteblbcbfaomdmaaDoor.Chk
open Go.RowKit Go.Proofs.YteblbcbfaomdmaaDoor.Smp Go.Proofs.YteblbcbfaomdmaaDoor.Bts

abbrev Bt := List Int × Nat
def bAdd (p : Bt) (U : Int) (n : Nat) : Bt := (addL p.1 p.2 U n n, p.2 + n)
def GB (p : Bt) : Prop := G p.1 p.2
theorem GB.add {p : Bt} (h : GB p) (U : Int) (n : Nat) : GB (bAdd p U n) := G.addL h U n n
theorem bAdd_size (p : Bt) (U : Int) (n : Nat) : (bAdd p U n).2 = p.2 + n := rfl
theorem bAdd_zero (p : Bt) (U : Int) : bAdd p U 0 = p := rfl
/-- Two bits one by one. -/
theorem add_10 (p : Bt) : bAdd (bAdd p 1 1) 0 1 = bAdd p 2 2 := rfl
theorem add_11 (p : Bt) : bAdd (bAdd p 1 1) 1 1 = bAdd p 3 2 := rfl
def bendB (p : Bt) (b : Int) : Bt := match bendI b with
  | 0 => bAdd p 0 1
  | 1 => bAdd (bAdd p 2 2) (b + 63) 7
  | 2 => bAdd (bAdd p 6 3) (b + 255) 9
  | 3 => bAdd (bAdd p 14 4) (b + 2047) 12
  | _ => bAdd (bAdd p 15 4) (IntKind.u64.wrap b) 64
theorem bendB_G {p : Bt} (h : GB p) (b : Int) : GB (bendB p b) := by
  unfold bendB
  split
  · exact h.add _ _
  all_goals exact (h.add _ _).add _ _
theorem bendB_size (p : Bt) (b : Int) : (bendB p b).2 ≤ p.2 + 68 := by
  unfold bendB
  split <;> simp only [bAdd_size] <;> omega
theorem wrap_id {x : Int} (h0 : 0 ≤ x) (h1 : x ≤ 18446744073709551615) : IntKind.u64.wrap x = x := by rw [IntKind.wrap_u64]; omega
theorem bend_impl (p : Bt) (b : Int) (h0 : -1000000000000 ≤ b) (h1 : b ≤ 1000000000000) :
    bAdd (bAdd p (IntKind.u64.wrap (cls (bendI b)).1) (cls (bendI b)).2.1.toNat) (IntKind.u64.wrap (b - (cls (bendI b)).2.2.1)) (cls (bendI b)).2.2.2.toNat = bendB p b := by
  have hin := bend_in b
  have hlt := bend_lt b
  unfold bendB
  generalize bendI b = i at *
  match i, hlt with
  | 0, _ => rfl
  | 1, _ =>
    simp only [inCls] at hin
    show bAdd (bAdd p (IntKind.u64.wrap 2) 2) (IntKind.u64.wrap (b - (-63))) 7 = _
    rw [wrap_id (x := b - (-63)) (by omega) (by omega), show b - (-63) = b + 63 from by omega]; rfl
  | 2, _ =>
    simp only [inCls] at hin
    show bAdd (bAdd p (IntKind.u64.wrap 6) 3) (IntKind.u64.wrap (b - (-255))) 9 = _
    rw [wrap_id (x := b - (-255)) (by omega) (by omega), show b - (-255) = b + 255 from by omega]; rfl
  | 3, _ =>
    simp only [inCls] at hin
    show bAdd (bAdd p (IntKind.u64.wrap 14) 4) (IntKind.u64.wrap (b - (-2047))) 12 = _
    rw [wrap_id (x := b - (-2047)) (by omega) (by omega), show b - (-2047) = b + 2047 from by omega]; rfl
  | 4, _ =>
    show bAdd (bAdd p (IntKind.u64.wrap 15) 4) (IntKind.u64.wrap (b - 0)) 64 = _
    rw [Int.sub_zero]; rfl
theorem cls_bd (i : Nat) (hi : i < 5) : 0 ≤ (cls i).1 ∧ (cls i).1 ≤ 15 ∧ 0 ≤ (cls i).2.1 ∧ (cls i).2.1 ≤ 4 ∧ -2047 ≤ (cls i).2.2.1 ∧ (cls i).2.2.1 ≤ 0 ∧ 0 ≤ (cls i).2.2.2 ∧ (cls i).2.2.2 ≤ 64 := by
  match i, hi with
  | 0, _ => decide
  | 1, _ => decide
  | 2, _ => decide
  | 3, _ => decide
  | 4, _ => decide

/-- The frame: so many zeros ahead, so many behind. -/
abbrev Fm := Option (Nat × Nat)
/-- A turn told by a frame of its own. -/
noncomputable def turnN (p : Bt) (turn : Int) : Bt × Fm :=
  (bAdd (bAdd (bAdd (bAdd p 3 2) ((zr turn).1 : Int) 6) ((64 - (zr turn).1 - (zr turn).2 - 1 : Nat) : Int) 6) (turn / 2 ^ (zr turn).2) (64 - (zr turn).1 - (zr turn).2), some (zr turn))
noncomputable def turnB (p : Bt) (f : Fm) (turn : Int) : Bt × Fm :=
  if turn = 0 then (bAdd p 0 1, f) else match f with
  | some (l, t) => if l ≤ (zr turn).1 ∧ t ≤ (zr turn).2 then (bAdd (bAdd p 2 2) (turn / 2 ^ t) (64 - l - t), f) else turnN p turn
  | none => turnN p turn
def FmOk (f : Fm) : Prop := ∀ l t, f = some (l, t) → l + t ≤ 63
theorem turnB_ok {p : Bt} {f : Fm} {turn : Int} (h : GB p) (hf : FmOk f) (h0 : 0 ≤ turn) (h1 : turn ≤ 18446744073709551615) : GB (turnB p f turn).1 ∧ FmOk (turnB p f turn).2 ∧ (turnB p f turn).1.2 ≤ p.2 + 78 := by
  have hn : turn ≠ 0 → GB (turnN p turn).1 ∧ FmOk (turnN p turn).2 ∧ (turnN p turn).1.2 ≤ p.2 + 78 := by
    intro hz
    obtain ⟨X, rfl⟩ : ∃ X : Nat, turn = (X : Int) := ⟨turn.toNat, by omega⟩
    obtain ⟨_, _, z3⟩ := zr_lib X (by omega) (by omega)
    have hs := zr_sum z3
    have he := zr_eq z3
    unfold turnN
    rw [he]
    refine ⟨(((h.add _ _).add _ _).add _ _).add _ _, ?_, ?_⟩
    · intro l t e
      simp only [Option.some.injEq, Prod.mk.injEq] at e
      obtain ⟨rfl, rfl⟩ := e
      exact hs
    · simp only [bAdd_size]; omega
  unfold turnB
  split
  · exact ⟨h.add _ _, hf, by simp only [bAdd_size]; omega⟩
  · rename_i hz
    split
    · split
      · rename_i l t _
        exact ⟨(h.add _ _).add _ _, hf, by simp only [bAdd_size]; omega⟩
      · exact hn hz
    · exact hn hz

/-- What has been put: bits, the last sample, its step, the frame. -/
structure Ck where
  b : Bt
  t : Int
  v : Int
  step : Int
  f : Fm
def xorV (x y : Int) : Int := bits .xor .u64 (IntKind.u64.wrap x) (IntKind.u64.wrap y)
noncomputable def nextC (c : Ck) (s : Sm) : Ck :=
  ⟨(turnB (bendB c.b (s.1 - c.t - c.step)) c.f (xorV s.2 c.v)).1, s.1, s.2, s.1 - c.t, (turnB (bendB c.b (s.1 - c.t - c.step)) c.f (xorV s.2 c.v)).2⟩
def firstC (c : Ck) (s : Sm) : Ck := ⟨bAdd (bAdd c.b (IntKind.u64.wrap s.1) 40) (IntKind.u64.wrap s.2) 64, s.1, s.2, c.step, c.f⟩
noncomputable def packK (ls : List Sm) : Nat → Ck
  | 0 => ⟨bAdd ([], 0) (ls.length : Int) 8, 0, 0, 0, none⟩
  | k + 1 => if k = 0 then firstC (packK ls k) (ls.getD k e0) else nextC (packK ls k) (ls.getD k e0)
theorem xor_bd (x y : Int) : 0 ≤ xorV x y ∧ xorV x y ≤ 18446744073709551615 := by
  unfold xorV bits
  rw [IntKind.wrap_u64]
  omega
theorem G_nil : GB ([], 0) := ⟨rfl, (fun z hz => by cases hz), (fun h => by omega)⟩
theorem packK_ok (ls : List Sm) : ∀ k, k ≤ 120 → GB (packK ls k).b ∧ FmOk (packK ls k).f ∧ (packK ls k).b.2 ≤ 8 + 150 * k := by
  intro k
  induction k with
  | zero => intro _; exact ⟨G_nil.add _ _, (by intro l t e; cases e), by simp [packK, bAdd_size]⟩
  | succ k ih =>
    intro hk
    obtain ⟨h1, h2, h3⟩ := ih (by omega)
    unfold packK
    split
    · refine ⟨(h1.add _ _).add _ _, h2, ?_⟩
      simp only [firstC, bAdd_size]; omega
    · have hx := xor_bd (ls.getD k e0).2 (packK ls k).v
      have hb := bendB_size (packK ls k).b ((ls.getD k e0).1 - (packK ls k).t - (packK ls k).step)
      obtain ⟨t1, t2, t3⟩ := turnB_ok (bendB_G h1 ((ls.getD k e0).1 - (packK ls k).t - (packK ls k).step)) h2 hx.1 hx.2
      exact ⟨t1, t2, by simp only [nextC]; omega⟩
theorem packK_last {ls : List Sm} (hg : GoodP ls) : ∀ k, k < ls.length → (packK ls (k + 1)).t = (ls.getD k e0).1 ∧ (packK ls (k + 1)).v = (ls.getD k e0).2 ∧ 0 ≤ (packK ls (k + 1)).step ∧ (packK ls (k + 1)).step ≤ 1000000000000 := by
  intro k
  induction k with
  | zero => intro _; exact ⟨rfl, rfl, (show (0 : Int) ≤ 0 by omega), (show (0 : Int) ≤ 1000000000000 by omega)⟩
  | succ k ih =>
    intro hk
    obtain ⟨h1, h2, h3, h4⟩ := ih (by omega)
    have e : packK ls (k + 1 + 1) = nextC (packK ls (k + 1)) (ls.getD (k + 1) e0) := by rw [packK, if_neg (by omega)]
    rw [e]
    have g1 := hg.2 (k + 1) hk
    have g0 := (hg.2 k (by omega)).1
    have g2 := g1.2 (by omega)
    rw [Nat.add_sub_cancel] at g2
    have g3 := g1.1
    unfold TimeP at g0 g3
    refine ⟨rfl, rfl, ?_, ?_⟩
    · show 0 ≤ (ls.getD (k + 1) e0).1 - (packK ls (k + 1)).t; rw [h1]; omega
    · show (ls.getD (k + 1) e0).1 - (packK ls (k + 1)).t ≤ _; rw [h1]; omega
end Go.Proofs.YteblbcbfaomdmaaDoor.Chk
