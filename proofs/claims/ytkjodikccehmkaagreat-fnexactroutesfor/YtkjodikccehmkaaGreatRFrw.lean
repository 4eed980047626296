/- What marks write: only blocks from X to Y. -/
import Derived.Test.YtkjodikccehmkaaGreatRRwc
import Derived.Test.YtkjodikccehmkaaGreatRMl
namespace Go.Proofs.YtkjodikccehmkaaGreat.Frw
open Go.RowKit
open Go.Proofs.YtkjodikccehmkaaGreat.Pat (Mt HasM FitM)
open Go.Proofs.YtkjodikccehmkaaGreat.Rwc

/-- Only blocks from X to Y are written; others may be new. -/
structure Fr (X Y : Nat) (w x : World) : Prop where
  os : x.os = w.os
  tape : x.tape = w.tape
  output : x.output = w.output
  size : w.heap.size ≤ x.heap.size
  block : ∀ k, k < w.heap.size → (k < X ∨ Y ≤ k) → x.heap[k]? = w.heap[k]?
theorem Fr.refl (X Y : Nat) (w : World) : Fr X Y w w := ⟨rfl, rfl, rfl, Nat.le_refl _, fun _ _ _ => rfl⟩
theorem Fr.below {X Y : Nat} {w x y : World} (h : Fr X Y w x) (hb : Below x.heap.size x y) : Fr X Y w y :=
  ⟨hb.os.trans h.os, hb.tape.trans h.tape, hb.output.trans h.output, Nat.le_trans h.size hb.size, fun k hk hne => (hb.block k (Nat.lt_of_lt_of_le hk h.size)).trans (h.block k hk hne)⟩
theorem Fr.grown {X Y g : Nat} {w x y : World} (h : Fr X Y w x) (hg : x.grownBy y (some g)) (h1 : X ≤ g) (h2 : g < Y) : Fr X Y w y :=
  ⟨hg.os.trans h.os, hg.tape.trans h.tape, hg.output.trans h.output, Nat.le_trans h.size hg.size, fun k hk hne => (hg.block k (Nat.lt_of_lt_of_le hk h.size) (fun e => by have := Option.some.inj e; omega)).trans (h.block k hk hne)⟩
theorem Fr.set {X Y g o : Nat} {w x : World} (h : Fr X Y w x) (h1 : X ≤ g) (h2 : g < Y) (v : Value) : Fr X Y w (x.setCell ⟨g, o, none⟩ v) :=
  h.grown (Lab.grown_setRow (w := x) ⟨rfl, rfl, rfl, Nat.le_refl _, fun _ _ _ => rfl⟩ v) h1 h2
theorem own_fr {X Y : Nat} {w x : World} {base e size n : Nat} {v : Value} {xs : List Value} (h : w.ownsRow base e size v n xs) (hf : Fr X Y w x) (hg : ∀ b, v.ownBlock = some b → b < X ∨ Y ≤ b) : x.ownsRow base e size v n xs := by
  refine ⟨h.1, ?_⟩
  rcases h.2 with h1 | ⟨g', cap, cur, h1, h2, h3, h4⟩
  · exact .inl h1
  · exact .inr ⟨g', cap, cur, h1, h2, (hf.block g' (Array.getElem?_eq_some_iff.1 h3).1 (hg g' (by rw [h1]; rfl))).trans h3, h4⟩
theorem own_grown' {w x : World} {base e size n c g r : Nat} {xs : List Value} (h : w.ownsRow base e size (.slice (some ⟨g, 0, none⟩) n c) n xs) (hg : w.grownBy x (some r)) (hne : g ≠ r) : x.ownsRow base e size (.slice (some ⟨g, 0, none⟩) n c) n xs :=
  h.kept hg (.inr (fun e => hne (Option.some.inj e)))
set_option maxHeartbeats 2000000 in
theorem f30 (g n c base k : Nat) (w : World) (xs : List Value) (hn : n ≤ 1048576) (hk : k + 3 * n ≤ 100000000) (ho : w.ownsRow base 85 3 (.slice (some ⟨g, 0, none⟩) n c) n xs) :
    Calls Tryz.prog 30 #[.slice (some ⟨g, 0, none⟩) n c, .int .i64 k] w fun e w' => e = .returned (.int .i64 ((k + 3 * n : Nat) : Int)) ∧ w.grownBy w' (some g) := by
  have H0 := hid ho
  clear ho
  go_enter Tryz.func30, Tryz.ntmps30
  go_wp2
  go_loopw [1, 5] (fun sk si wr => ∃ (i m : Nat) (ys : List Value), i ≤ n ∧ si = .int .i64 i ∧ sk = .int .i64 (m : Int) ∧ Hid (m = k + 3 * i) ∧ Hid (wr.ownsRow base 85 3 (.slice (some ⟨g, 0, none⟩) n c) n ys) ∧ Hid (w.grownBy wr (some g))) (fun _ si _ => n - (intOf si).toNat)
  case atStart => exact ⟨0, k, xs, Nat.zero_le _, rfl, rfl, rfl, H0.out, ⟨rfl, rfl, rfl, Nat.le_refl _, fun _ _ _ => rfl⟩⟩
  case round =>
    obtain ⟨i, m, ys, hi, rfl, rfl, hm, HO, HG⟩ := hrel
    by_cases hlt : i < n
    rotate_left
    · obtain rfl : i = n := by omega
      go_wp2
      go_ret
      exact ⟨by rw [← hm.out]; rfl, HG.out⟩
    have hm1 : m ≤ 99999997 := by have := hm.out; omega
    have HL : Hid (ys.length = n * 3) := HO.out.1
    go_wp2_with fail
    refine (Lab.f29 m _ (by omega)).mono ?_
    rintro e w2 ⟨rfl, hb2⟩
    have HO2 := hid (own_below HO.out hb2)
    have HG2 := hid (Lab.grown_trans HG.out (Lab.grown_below (some g) hb2))
    have fz := HO2.out.frozenAt (i * 3)
    obtain ⟨z, hz⟩ : ∃ z, w2.cell? ⟨g, i * 3, none⟩ = some z := ⟨ys[i * 3]'(by rw [HL.out]; omega), by rw [HO2.out.cellAt (i * 3) (by omega), List.getElem?_eq_getElem (by rw [HL.out]; omega)]⟩
    have HO3 := hid (HO2.out.stored (i * 3) (.string (Lab.mkT m))).1
    have HG3 := hid (Lab.grown_setRow (o := i * 3) HG2.out (.string (Lab.mkT m)))
    have fz3 := HO3.out.frozenAt (i * 3 + 1)
    obtain ⟨z3, hz3⟩ : ∃ z, w2.cell? ⟨g, i * 3 + 1, none⟩ = some z := ⟨ys[i * 3 + 1]'(by rw [HL.out]; omega), by rw [HO2.out.cellAt (i * 3 + 1) (by omega), List.getElem?_eq_getElem (by rw [HL.out]; omega)]⟩
    have fz2 := HO2.out.frozenAt (i * 3 + 1)
    have HO4 := hid (HO3.out.stored (i * 3 + 1) (.int .i64 ((m : Int) + 1))).1
    have HG4 := hid (Lab.grown_setRow (o := i * 3 + 1) HG3.out (.int .i64 ((m : Int) + 1)))
    clear hb2 fz3
    go_wp2_with fail
    refine (Lab.f29 (m + 2) _ (by omega)).mono ?_
    rintro e w5 ⟨rfl, hb5⟩
    have HO5 := hid (own_below HO4.out hb5)
    have HG5 := hid (Lab.grown_trans HG4.out (Lab.grown_below (some g) hb5))
    have fz5 := HO5.out.frozenAt (i * 3 + 2)
    obtain ⟨z5, hz5⟩ : ∃ z, w5.cell? ⟨g, i * 3 + 2, none⟩ = some z := ⟨((ys.set (i * 3) (.string (Lab.mkT m))).set (i * 3 + 1) (.int .i64 ((m : Int) + 1)))[i * 3 + 2]'(by rw [List.length_set, List.length_set, HL.out]; omega), by rw [HO5.out.cellAt (i * 3 + 2) (by omega), List.getElem?_eq_getElem (by rw [List.length_set, List.length_set, HL.out]; omega)]⟩
    have HO6 := hid (HO5.out.stored (i * 3 + 2) (.string (Lab.mkT (m + 2)))).1
    have HG6 := hid (Lab.grown_setRow (o := i * 3 + 2) HG5.out (.string (Lab.mkT (m + 2))))
    have HE : Hid (m + 3 = k + 3 * (i + 1)) := by unfold Hid; have := hm.out; omega
    clear hb5 fz hz fz2 hz3 z z3
    go_wp2
    go_roundw
    case rel => exact ⟨i + 1, m + 3, _, by omega, by go_num, by go_num, HE.out, HO6.out, HG6.out⟩
    case measure => simp [intOf]; omega

theorem apart {w : World} {b1 b2 e1 e2 s1 s2 n1 n2 : Nat} {v1 v2 : Value} {x1 x2 : List Value} (h1 : w.ownsRow b1 e1 s1 v1 n1 x1) (h2 : w.ownsRow b2 e2 s2 v2 n2 x2) (hne : e1 ≠ e2) {g : Nat} (hg1 : v1.ownBlock = some g) (hg2 : v2.ownBlock = some g) : False := by
  rcases h1.2 with ⟨rfl, _⟩ | ⟨g1, c1, cur1, rfl, _, k1, _⟩
  · cases hg1
  · rcases h2.2 with ⟨rfl, _⟩ | ⟨g2, c2, cur2, rfl, _, k2, _⟩
    · cases hg2
    · simp only [Value.ownBlock, Option.some.injEq] at hg1 hg2
      subst hg1 hg2
      rw [k1] at k2
      simp only [Option.some.injEq, Obj.cells.injEq] at k2
      exact hne k2.2.1
theorem fr_of {X Y : Nat} {x y : World} {r : Option Nat} (hg : x.grownBy y r) (h : ∀ b, r = some b → X ≤ b ∧ b < Y) : Fr X Y x y :=
  ⟨hg.os, hg.tape, hg.output, hg.size, fun k hk hne => hg.block k hk (fun e => by have := h k e.symm; omega)⟩
theorem below_fr {B X Y : Nat} {w x y : World} (h : Below B w x) (f : Fr X Y x y) (hB : B ≤ X) (hw : B ≤ x.heap.size) : Below B w y :=
  ⟨f.os.trans h.os, f.tape.trans h.tape, f.output.trans h.output, Nat.le_trans h.size f.size, fun k hk => (f.block k (by omega) (.inl (by omega))).trans (h.block k hk)⟩

end Go.Proofs.YtkjodikccehmkaaGreat.Frw
