/- Aggs put together window by window: plain facts. -/
import Derived.Test.YtpbnneelpdacdaaBa
import Derived.Test.YtpbnneelpdacdaaAg
import Derived.Test.YtpbnneelpdacdaaAe
namespace Go.Proofs.Ytpbnneelpdacdaa.Agl
open Go.RowKit Go.Shelf

/-- An agg with its window's time. -/
def at_ (win : Int → Int) (p : Ag) : Ag := { p with t := win p.t }
def lst (L : List Ag) : Ag := L.getD (L.length - 1) a0
/-- One agg more. -/
def stepW (win : Int → Int) (L : List Ag) (p : Ag) : List Ag := if L ≠ [] ∧ (lst L).t = win p.t then L.set (L.length - 1) (mrg (lst L) (at_ win p)) else L ++ [at_ win p]
def fw (win : Int → Int) (L : List Ag) : List Ag := L.foldl (stepW win) []
theorem fw_snoc (win : Int → Int) (pre : List Ag) (p : Ag) : fw win (pre ++ [p]) = stepW win (fw win pre) p := by simp [fw]
theorem stepW_len (win : Int → Int) (L : List Ag) (p : Ag) : (stepW win L p).length ≤ L.length + 1 := by unfold stepW; split <;> simp
theorem fold_len (win : Int → Int) : ∀ (L M : List Ag), (L.foldl (stepW win) M).length ≤ M.length + L.length := by
  intro L
  induction L with
  | nil => intro M; simp
  | cons p L ih =>
    intro M
    have h1 := ih (stepW win M p)
    have h2 := stepW_len win M p
    simp only [List.foldl_cons, List.length_cons]
    omega
theorem fw_len (win : Int → Int) (L : List Ag) : (fw win L).length ≤ L.length := by have := fold_len win L []; simpa [fw] using this
theorem step_new {win : Int → Int} {L : List Ag} {p : Ag} (h : ¬ (L ≠ [] ∧ (lst L).t = win p.t)) : stepW win L p = L ++ [at_ win p] := if_neg h
theorem step_old {win : Int → Int} {L : List Ag} {p : Ag} (h : L ≠ [] ∧ (lst L).t = win p.t) : stepW win L p = L.set (L.length - 1) (mrg (lst L) (at_ win p)) := if_pos h
theorem box_own {X Y : World} {row : Option Nat} {b : Nat} {cs : Array Value} {t : TypeId} {q : Nat × Nat} (h : X.heap[b]? = some (.cells cs t q)) (hg : X.grownBy Y row) (hrow : ∀ r, row = some r → ∃ o : Obj, X.heap[r]? = some o ∧ o.isCells = false) : Y.heap[b]? = some (.cells cs t q) :=
  (hg.block b (lt_block h) (fun e => by obtain ⟨o, ho, hc⟩ := hrow b e.symm; rw [h] at ho; cases ho; cases hc)).trans h
theorem boxed_eq {W : World} {B : Nat} {t : TypeId} {v u : Value} (h : Boxed W B t v) (k : Boxed W B t u) : v = u := by
  have := h.symm.trans k
  simpa using this
theorem grown_box {w w' : World} {b R : Nat} {o : Obj} (h : w.heap[b]? = some o) (hg : w.grownBy w' (some R)) (hne : b ≠ R) : w'.heap[b]? = some o := (hg.block b (lt_block h) (fun e => hne (by cases e; rfl))).trans h
theorem grown_at (W : World) (b o : Nat) (v : Value) : W.grownBy (W.setCell ⟨b, o, none⟩ v) (some b) := ⟨rfl, rfl, rfl, (KeepsWalks.setCell W _ v).size, fun k _ hk => Below.heap_setCell _ _ _ k (fun e => hk (by rw [e]))⟩
theorem drew_grown (W : World) : W.grownBy W.drew none := ⟨rfl, rfl, rfl, Nat.le_refl _, fun _ _ _ => rfl⟩
theorem eight_new (W : World) (u0 u1 u2 u3 u4 u5 u6 u7 : Value) (t : TypeId) : ∀ j u, [u0, u1, u2, u3, u4, u5, u6, u7][j]? = some u → (W.alloc (.cells #[u0, u1, u2, u3, u4, u5, u6, u7] t)).cell? ((⟨W.heap.size, 0, none⟩ : Addr).add j) = some u := by
  intro j u h
  rw [add_none, Nat.zero_add, cell_at (heap_new W _) j, ← h]
  simp
theorem box3 {V w1 : World} {n0 B3 B5 : Nat} {t e : TypeId} {size k : Nat} {f v u : Value} {xs : List Value} {tmp : Obj} (h : Boxed V B3 t f) (hte : t ≠ e) (hrow : V.ownsRow n0 e size v k xs) (hg : (V.alloc tmp).grownBy w1 v.ownBlock) (hne : B3 ≠ B5) : Boxed (w1.setCell ⟨B5, 0, none⟩ u) B3 t f :=
  ((h.alloc tmp).kept hg (h.not_row hte hrow)).other hne u
theorem grown_tr {a b c : World} {r : Option Nat} (h : a.grownBy b r) (k : b.grownBy c r) : a.grownBy c r :=
  ⟨k.os.trans h.os, k.tape.trans h.tape, k.output.trans h.output, Nat.le_trans h.size k.size, fun i hi hne => (k.block i (Nat.lt_of_lt_of_le hi h.size) hne).trans (h.block i hi hne)⟩
theorem set8_grown (W : World) (g o : Nat) (z0 z1 z2 z3 z4 z5 z6 z7 : Int) : W.grownBy ((((((((W.setCell ⟨g, o, none⟩ (.int .i64 z0)).setCell ⟨g, o + 1, none⟩ (.int .i64 z1)).setCell ⟨g, o + 2, none⟩ (.int .i64 z2)).setCell ⟨g, o + 3, none⟩ (.int .i64 z3)).setCell ⟨g, o + 4, none⟩ (.int .i64 z4)).setCell ⟨g, o + 5, none⟩ (.int .i64 z5)).setCell ⟨g, o + 6, none⟩ (.int .i64 z6)).setCell ⟨g, o + 7, none⟩ (.int .i64 z7)) (some g) := (grown_tr (grown_tr (grown_tr (grown_tr (grown_tr (grown_tr (grown_tr (grown_at W g o (.int .i64 z0)) (grown_at _ g (o + 1) (.int .i64 z1))) (grown_at _ g (o + 2) (.int .i64 z2))) (grown_at _ g (o + 3) (.int .i64 z3))) (grown_at _ g (o + 4) (.int .i64 z4))) (grown_at _ g (o + 5) (.int .i64 z5))) (grown_at _ g (o + 6) (.int .i64 z6))) (grown_at _ g (o + 7) (.int .i64 z7)))
theorem set8_keeps (W : World) (g o : Nat) (z0 z1 z2 z3 z4 z5 z6 z7 : Int) : KeepsOthers W ((((((((W.setCell ⟨g, o, none⟩ (.int .i64 z0)).setCell ⟨g, o + 1, none⟩ (.int .i64 z1)).setCell ⟨g, o + 2, none⟩ (.int .i64 z2)).setCell ⟨g, o + 3, none⟩ (.int .i64 z3)).setCell ⟨g, o + 4, none⟩ (.int .i64 z4)).setCell ⟨g, o + 5, none⟩ (.int .i64 z5)).setCell ⟨g, o + 6, none⟩ (.int .i64 z6)).setCell ⟨g, o + 7, none⟩ (.int .i64 z7)) := ((((((((KeepsOthers.setCell W ⟨g, o, none⟩ (.int .i64 z0)).trans (KeepsOthers.setCell _ ⟨g, o + 1, none⟩ (.int .i64 z1))).trans (KeepsOthers.setCell _ ⟨g, o + 2, none⟩ (.int .i64 z2))).trans (KeepsOthers.setCell _ ⟨g, o + 3, none⟩ (.int .i64 z3))).trans (KeepsOthers.setCell _ ⟨g, o + 4, none⟩ (.int .i64 z4))).trans (KeepsOthers.setCell _ ⟨g, o + 5, none⟩ (.int .i64 z5))).trans (KeepsOthers.setCell _ ⟨g, o + 6, none⟩ (.int .i64 z6))).trans (KeepsOthers.setCell _ ⟨g, o + 7, none⟩ (.int .i64 z7)))
theorem set8_below {n0 g : Nat} (W : World) (o : Nat) (z0 z1 z2 z3 z4 z5 z6 z7 : Int) (h : n0 ≤ g) : Below n0 W ((((((((W.setCell ⟨g, o, none⟩ (.int .i64 z0)).setCell ⟨g, o + 1, none⟩ (.int .i64 z1)).setCell ⟨g, o + 2, none⟩ (.int .i64 z2)).setCell ⟨g, o + 3, none⟩ (.int .i64 z3)).setCell ⟨g, o + 4, none⟩ (.int .i64 z4)).setCell ⟨g, o + 5, none⟩ (.int .i64 z5)).setCell ⟨g, o + 6, none⟩ (.int .i64 z6)).setCell ⟨g, o + 7, none⟩ (.int .i64 z7)) := (((((((((Below.refl n0 W).setCell (p := ⟨g, o, none⟩) h _).setCell (p := ⟨g, o + 1, none⟩) h _).setCell (p := ⟨g, o + 2, none⟩) h _).setCell (p := ⟨g, o + 3, none⟩) h _).setCell (p := ⟨g, o + 4, none⟩) h _).setCell (p := ⟨g, o + 5, none⟩) h _).setCell (p := ⟨g, o + 6, none⟩) h _).setCell (p := ⟨g, o + 7, none⟩) h _)
theorem below_grow {n : Nat} {W V : World} (h : Below W.heap.size W V) (_ : n ≤ W.heap.size) : W.grownBy V none := ⟨h.os, h.tape, h.output, h.size, fun k hk _ => h.block k hk⟩
end Go.Proofs.Ytpbnneelpdacdaa.Agl
