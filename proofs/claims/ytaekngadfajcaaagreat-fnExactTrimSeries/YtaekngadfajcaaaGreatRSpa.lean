/- Lists of spans: compared, marked, held; rows of the call's own. -/
import Derived.Test.YtaekngadfajcaaaGreatRows
import Derived.WalkKit
import Derived.ProofKit
import Derived.Handy
import Derived.BigQuiet
import Derived.Deep.QuietTactic
import Derived.Deep.RegionHeld3
import Derived.Deep.SlicePairs
import Derived.OpenShut
import Derived.ChangeOld
import Derived.Below
import Derived.WalkSmall
import Derived.Deep.Onto
namespace Go.Proofs.YtaekngadfajcaaaGreat.Spn

open Go.RowKit

theorem hid {p : Prop} (h : p) : Hid p := h
theorem ret_bool {a b : Bool} (h : a = b) : Ending.returned (.bool a) = .returned (.bool b) := by rw [h]
theorem ret_int {k : IntKind} {a b : Int} (h : a = b) : Ending.returned (.int k a) = .returned (.int k b) := by rw [h]
theorem below_drewN {B : Nat} {a w : World} (h : Below B a w) (q : Nat) : Below B a (w.drewN q) := ⟨h.os, h.tape, h.output, h.size, h.block⟩
theorem below_undrew {B : Nat} {a w : World} (h : Below B a.drew w) : Below B a w := ⟨h.os, h.tape, h.output, h.size, h.block⟩
theorem below_undrewN {B q : Nat} {a w : World} (h : Below B (a.drewN q) w) : Below B a w := ⟨h.os, h.tape, h.output, h.size, h.block⟩

abbrev Sm := Int × Int
def e0 : Sm := (0, 0)

/-- The slice that begins at 'a' holds the spans 'ls' in the world 'w'. -/
def HasS (w : World) (a : Option Addr) (ls : List Sm) : Prop :=
  ls = [] ∨ ∃ b off, a = some ⟨b, off, none⟩ ∧ b < w.heap.size ∧ ∀ i, i < ls.length → w.cell? ⟨b, off + i * 2, none⟩ = some (.int .i64 (ls.getD i e0).1) ∧ w.cell? ⟨b, off + i * 2 + 1, none⟩ = some (.int .i64 (ls.getD i e0).2)

theorem HasS.below {w w' : World} {a : Option Addr} {ls : List Sm} (h : HasS w a ls) (hb : Below w.heap.size w w') : HasS w' a ls := by
  rcases h with h | ⟨b, off, h1, h2, h3⟩
  · exact .inl h
  · exact .inr ⟨b, off, h1, Nat.lt_of_lt_of_le h2 hb.size, fun i hi => ⟨(hb.cell (by exact h2)).trans (h3 i hi).1, (hb.cell (by exact h2)).trans (h3 i hi).2⟩⟩
theorem HasS.alloc {w : World} {a : Option Addr} {ls : List Sm} (h : HasS w a ls) (o : Obj) : HasS (w.alloc o) a ls := h.below ((Below.refl _ _).alloc (Nat.le_refl _) o)
theorem HasS.nil {w : World} {a : Option Addr} : HasS w a [] := .inl rfl

/-- All are numbers of the machine. -/
def In64 (x : Int) : Prop := -9223372036854775808 ≤ x ∧ x ≤ 9223372036854775807
def Fit (ls : List Sm) : Prop := ∀ i, In64 (ls.getD i e0).1 ∧ In64 (ls.getD i e0).2

/-- The cells of a row of spans. -/
def flat (L : List Sm) : List Value := L.flatMap fun p => [.int .i64 p.1, .int .i64 p.2]
theorem flat_nil : flat [] = [] := rfl
theorem flat_cons (p : Sm) (L : List Sm) : flat (p :: L) = .int .i64 p.1 :: .int .i64 p.2 :: flat L := rfl
theorem flat_append (L K : List Sm) : flat (L ++ K) = flat L ++ flat K := by simp [flat]
theorem flat_len (L : List Sm) : (flat L).length = L.length * 2 := by
  induction L with
  | nil => rfl
  | cons p L ih => rw [flat_cons]; simp [ih]; omega
theorem flat_get : ∀ (L : List Sm) (i : Nat), i < L.length → (flat L)[i * 2]? = some (.int .i64 (L.getD i e0).1) ∧ (flat L)[i * 2 + 1]? = some (.int .i64 (L.getD i e0).2) := by
  intro L
  induction L with
  | nil => intro i h; simp at h
  | cons p L ih =>
    intro i h
    cases i with
    | zero => exact ⟨rfl, rfl⟩
    | succ i =>
      have := ih i (by simpa using h)
      rw [flat_cons, show (i + 1) * 2 = i * 2 + 1 + 1 from by omega, show i * 2 + 1 + 1 + 1 = (i * 2 + 1) + 1 + 1 from rfl]
      simpa using this
theorem flat_set : ∀ (L : List Sm) (i : Nat) (s t : Int), i < L.length → ((flat L).set (i * 2) (.int .i64 s)).set (i * 2 + 1) (.int .i64 t) = flat (L.set i (s, t)) := by
  intro L
  induction L with
  | nil => intro i s t h; simp at h
  | cons p L ih =>
    intro i s t h
    cases i with
    | zero => rfl
    | succ i =>
      have := ih i s t (by simpa using h)
      rw [List.set_cons_succ, flat_cons, flat_cons, ← this, show (i + 1) * 2 = i * 2 + 1 + 1 from by omega, show i * 2 + 1 + 1 + 1 = (i * 2 + 1) + 1 + 1 from rfl]
      rfl
theorem made_two (n : Nat) : (madeCells #[.int .i64 0, .int .i64 0] (n * 2)).toList = flat (List.replicate n e0) := by
  apply List.ext_getElem?
  intro j
  by_cases hj : j < n * 2
  · have e1 : (madeCells #[.int .i64 0, .int .i64 0] (n * 2)).toList[j]? = some (.int .i64 0) := by
      have h2 : j % 2 = 0 ∨ j % 2 = 1 := by omega
      unfold madeCells
      simp [hj]
      rcases h2 with h | h <;> rw [h] <;> rfl
    rw [e1]
    obtain ⟨g0, g1⟩ := flat_get (List.replicate n e0) (j / 2) (by simp; omega)
    have h2 : (List.replicate n e0).getD (j / 2) e0 = e0 := by
      rw [List.getD_eq_getElem?_getD, List.getElem?_replicate]; split <;> rfl
    rw [h2] at g0 g1
    rcases (show j = j / 2 * 2 ∨ j = j / 2 * 2 + 1 by omega) with h | h
    · rw [h]; exact g0.symm
    · rw [h]; exact g1.symm
  · rw [List.getElem?_eq_none (by simp [size_madeCells]; omega), List.getElem?_eq_none (by rw [flat_len]; simp; omega)]

theorem own_below {w w' : World} {base e size n : Nat} {v : Value} {xs : List Value} (h : w.ownsRow base e size v n xs) (hb : Below w.heap.size w w') : w'.ownsRow base e size v n xs :=
  h.kept (row := none) ⟨hb.os, hb.tape, hb.output, hb.size, fun k hk _ => hb.block k hk⟩ (by cases hv : v.ownBlock <;> simp)
theorem HasS.own {w : World} {base c : Nat} {a : Option Addr} {ls : List Sm} (h : w.ownsRow base 87 2 (.slice a ls.length c) ls.length (flat ls)) : HasS w a ls := by
  rcases h.2 with ⟨h1, h2⟩ | ⟨g, cap, cur, h1, _⟩
  · exact .inl (List.eq_nil_of_length_eq_zero h2)
  · simp only [Value.slice.injEq] at h1
    obtain ⟨rfl, -, rfl⟩ := h1
    have hl := h.1
    rw [flat_len] at hl
    refine .inr ⟨g, 0, rfl, (h.lt g rfl).2, fun i hi => ?_⟩
    obtain ⟨h0, h1⟩ := flat_get ls i hi
    rw [Nat.zero_add]
    exact ⟨(h.cellAt (i * 2) (by omega)).trans h0, (h.cellAt (i * 2 + 1) (by omega)).trans h1⟩

theorem infoS : (Tryz.prog.info? 87).map (fun i => (i.zero, i.size, i.bytes)) = some (some (.agg #[.int .i64 0, .int .i64 0]), 2, 16) := by kernel_rfl

theorem step_set (ls : List Sm) (n k : Nat) (hn : ls.length = n) (hk : k < n) : (ls.take k ++ List.replicate (n - k) e0).set k (ls.getD k e0) = ls.take (k + 1) ++ List.replicate (n - (k + 1)) e0 := by
  have hl : (ls.take k).length = k := by simp; omega
  rw [List.set_append_right _ _ (by omega), hl, Nat.sub_self, show n - k = (n - (k + 1)) + 1 from by omega, List.replicate_succ, List.set_cons_zero, List.take_succ_eq_append_getElem (by omega), List.append_assoc]
  congr 2
  simp [hn, hk]
theorem step_len (ls : List Sm) (n k : Nat) (hn : ls.length = n) (hk : k ≤ n) : (ls.take k ++ List.replicate (n - k) e0).length = n := by simp; omega

open Go.ChangeShapes Go.WideShapes Go.ChangeAt

theorem add_none (b off j : Nat) : (⟨b, off, none⟩ : Addr).add j = ⟨b, off + j, none⟩ := by
  by_cases h : j = 0
  · subst h; simp [Addr.add]
  · simp [Addr.add, h]
theorem in64_zero : In64 0 := ⟨by omega, by omega⟩
theorem fit_nil : Fit [] := fun i => by simpa [e0] using in64_zero

theorem grown_trans {a b c : World} {r : Option Nat} (h : a.grownBy b r) (k : b.grownBy c r) : a.grownBy c r :=
  ⟨k.os.trans h.os, k.tape.trans h.tape, k.output.trans h.output, Nat.le_trans h.size k.size, fun i hi hne => (k.block i (Nat.lt_of_lt_of_le hi h.size) hne).trans (h.block i hi hne)⟩
theorem grown_below {a b : World} (r : Option Nat) (h : Below a.heap.size a b) : a.grownBy b r := ⟨h.os, h.tape, h.output, h.size, fun i hi _ => h.block i hi⟩
theorem grown_setRow {w w' : World} {g o : Nat} (h : w.grownBy w' (some g)) (u : Value) : w.grownBy (w'.setCell ⟨g, o, none⟩ u) (some g) :=
  ⟨h.os, h.tape, h.output, by simpa using h.size, fun i hi hne => (Below.heap_setCell w' ⟨g, o, none⟩ u i (by intro e; exact hne (by rw [e]))).trans (h.block i hi hne)⟩
theorem below_grown {B g : Nat} {a w w' : World} (h : Below B a w) (hg : w.grownBy w' (some g)) (hB : B ≤ w.heap.size) (hr : B ≤ g) : Below B a w' := h.grown hg hB (by intro k hk; cases hk; exact hr)

def markL (k n : Nat) : List Sm := (List.range n).map fun i => (((k + 2 * i : Nat) : Int), ((k + 2 * i + 1 : Nat) : Int))
theorem markL_len (k n : Nat) : (markL k n).length = n := by simp [markL]
theorem markL_get (k n i : Nat) (h : i < n) : (markL k n).getD i e0 = (((k + 2 * i : Nat) : Int), ((k + 2 * i + 1 : Nat) : Int)) := by simp [markL, h]

/-- The row while it is being marked. -/
def markR (k : Nat) (ls : List Sm) (i : Nat) : List Sm := (markL k i) ++ ls.drop i
theorem markR_zero (k : Nat) (ls : List Sm) : markR k ls 0 = ls := by simp [markR, markL]
theorem markR_end (k n : Nat) (ls : List Sm) (h : ls.length = n) : markR k ls n = markL k n := by simp [markR, ← h]
theorem markR_len (k n i : Nat) (ls : List Sm) (h : ls.length = n) (hi : i ≤ n) : (markR k ls i).length = n := by simp [markR, markL_len]; omega
theorem markR_set (k n i : Nat) (ls : List Sm) (h : ls.length = n) (hi : i < n) : (markR k ls i).set i (((k + 2 * i : Nat) : Int), ((k + 2 * i + 1 : Nat) : Int)) = markR k ls (i + 1) := by
  unfold markR
  rw [List.set_append_right _ _ (by rw [markL_len]; exact Nat.le_refl _), markL_len, Nat.sub_self, List.drop_eq_getElem_cons (by omega), List.set_cons_zero]
  have : markL k (i + 1) = markL k i ++ [(((k + 2 * i : Nat) : Int), ((k + 2 * i + 1 : Nat) : Int))] := by simp [markL, List.range_succ]
  rw [this, List.append_assoc]
  rfl

theorem two0 {w : World} {b t : Nat} {x y : Value} {q : Nat × Nat} (h : w.heap[b]? = some (.cells #[x, y] t q)) : w.cell? ⟨b, 0, none⟩ = some x := by
  unfold World.cell?; simp only [h]; rfl
theorem two1 {w : World} {b t : Nat} {x y : Value} {q : Nat × Nat} (h : w.heap[b]? = some (.cells #[x, y] t q)) : w.cell? ⟨b, 1, none⟩ = some y := by
  unfold World.cell?; simp only [h]; rfl
theorem two_new (w : World) (x y : Value) (t : TypeId) : ∀ j u, [x, y][j]? = some u → (w.alloc (.cells #[x, y] t)).cell? ((⟨w.heap.size, 0, none⟩ : Addr).add j) = some u := by
  intro j u hj
  have h := heap_alloc_new w (.cells #[x, y] t)
  match j, hj with
  | 0, hj =>
    simp at hj; subst hj
    have : (⟨w.heap.size, 0, none⟩ : Addr).add 0 = ⟨w.heap.size, 0, none⟩ := by simp [Addr.add]
    rw [this]; exact two0 h
  | 1, hj =>
    simp at hj; subst hj
    have : (⟨w.heap.size, 0, none⟩ : Addr).add 1 = ⟨w.heap.size, 1, none⟩ := by simp [Addr.add]
    rw [this]; exact two1 h
  | j + 2, hj => simp at hj
theorem own_form {w : World} {base e size n : Nat} {v : Value} {xs : List Value} (h : w.ownsRow base e size v n xs) : ∃ a c, v = .slice a n c := by
  rcases h.2 with ⟨h1, h2⟩ | ⟨g, cap, cur, h1, _⟩
  · subst h2; exact ⟨none, 0, h1⟩
  · exact ⟨_, _, h1⟩
/-- The value is a row of the call's own with these spans. -/
def Own (w : World) (base : Nat) (v : Value) (L : List Sm) : Prop := w.ownsRow base 87 2 v L.length (flat L)
theorem Own.nil (w : World) (base : Nat) : Own w base (.slice none 0 0) [] := World.ownsRow_nil w base 87 2
theorem Own.below {w w' : World} {base : Nat} {v : Value} {L : List Sm} (h : Own w base v L) (hb : Below w.heap.size w w') : Own w' base v L := own_below h hb
theorem flat_one (p : Sm) : flat [p] = [.int .i64 p.1, .int .i64 p.2] := rfl

theorem Own.cases {w : World} {base : Nat} {v : Value} {L : List Sm} (h : Own w base v L) : (L = [] ∧ v = .slice none 0 0) ∨ ∃ g c, v = .slice (some ⟨g, 0, none⟩) L.length c := by
  unfold Own at h
  rcases h.2 with ⟨h1, h2⟩ | ⟨g, cap, cur, h1, _⟩
  · exact .inl ⟨List.eq_nil_of_length_eq_zero h2, h1⟩
  · exact .inr ⟨g, cap, h1⟩
theorem Own.has {w : World} {base : Nat} {a : Option Addr} {n c : Nat} {L : List Sm} (h : Own w base (.slice a n c) L) : n = L.length ∧ HasS w a L := by
  obtain ⟨a', c', h1⟩ := own_form h
  simp only [Value.slice.injEq] at h1
  obtain ⟨rfl, rfl, rfl⟩ := h1
  exact ⟨rfl, HasS.own h⟩
theorem Own.kept {w w' : World} {base : Nat} {r : Option Nat} {v : Value} {L : List Sm} (h : Own w base v L) (hg : w.grownBy w' r) (hne : ∀ k, v.ownBlock = some k → r ≠ some k) : Own w' base v L :=
  World.ownsRow.kept h hg (by
    cases hv : v.ownBlock with
    | none => exact .inl rfl
    | some k => exact .inr (fun e => hne k hv e.symm))
theorem Own.lt {w : World} {base : Nat} {v : Value} {L : List Sm} (h : Own w base v L) : ∀ k, v.ownBlock = some k → base ≤ k ∧ k < w.heap.size := World.ownsRow.lt h
theorem Own.mono {w : World} {base base' : Nat} {v : Value} {L : List Sm} (h : Own w base v L) (hb : base' ≤ base) : Own w base' v L := World.ownsRow.mono h hb
theorem grown_refl (w : World) (r : Option Nat) : w.grownBy w r := ⟨rfl, rfl, rfl, Nat.le_refl _, fun _ _ _ => rfl⟩

theorem Own.to {w : World} {g : Nat} {ls : List Sm} (h : w.ownsRow g 87 2 (.slice (some ⟨g, 0, none⟩) ls.length ls.length) ls.length (flat ls)) : Own w g (.slice (some ⟨g, 0, none⟩) ls.length ls.length) ls := h
theorem own_drewN {w : World} {base e size n : Nat} {v : Value} {xs : List Value} (h : w.ownsRow base e size v n xs) (q : Nat) : (w.drewN q).ownsRow base e size v n xs :=
  h.kept (row := none) ⟨rfl, rfl, rfl, Nat.le_refl _, fun _ _ _ => rfl⟩ (by cases hv : v.ownBlock <;> simp)
theorem Own.snoc {w : World} {base : Nat} {v : Value} {O : List Sm} {p : Sm} (h : w.ownsRow base 87 2 v (O.length + 1) (flat O ++ [.int .i64 p.1, .int .i64 p.2])) : Own w base v (O ++ [p]) := by
  unfold Own; rw [flat_append, List.length_append]; exact h

end Go.Proofs.YtaekngadfajcaaaGreat.Spn
