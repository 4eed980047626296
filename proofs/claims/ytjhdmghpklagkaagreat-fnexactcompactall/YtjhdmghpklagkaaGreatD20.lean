/- The library's exchanges at series: what comes of swapRangeCmpFunc. -/
import Derived.Test.YtjhdmghpklagkaaGreatD14
import Derived.Test.YtjhdmghpklagkaaGreatD09
import Derived.Test.YtjhdmghpklagkaaGreatD19
import Derived.Test.YtjhdmghpklagkaaGreatRows
import Derived.BigQuiet
import Derived.Deep.QuietTactic
import Derived.Deep.RegionHeld3
import Derived.Deep.RegionWith
import Derived.Lib.BufferOwn
import Derived.Lib.Bytealg
import Derived.Lib.Strings
import Derived.Maps.AppendAt
import Derived.WalkKit
import Derived.ProofKit
import Derived.Handy
import Derived.Below
import Derived.WalkSmall
import Derived.Test.YtjhdmghpklagkaaGreatD04
namespace Go.Proofs.YtjhdmghpklagkaaGreat.Stb
open Go.RowKit
variable {α : Type}
abbrev encS (sl : α → (Option Addr × Nat × Nat) × (Option Addr × Nat × Nat)) (x : α) : Value × Value := (.slice (sl x).1.1 (sl x).1.2.1 (sl x).1.2.2, .slice (sl x).2.1 (sl x).2.2.1 (sl x).2.2.2)
end Go.Proofs.YtjhdmghpklagkaaGreat.Stb
namespace Go.Proofs.YtjhdmghpklagkaaGreat.Stb
open Go.RowKit
variable {α : Type}
end Go.Proofs.YtjhdmghpklagkaaGreat.Stb
namespace Go.Proofs.YtjhdmghpklagkaaGreat.Stb
open Go.RowKit
variable {α : Type}
theorem split_at {d : List α} {i : Nat} (x0 : α) (h : i < d.length) : d = d.take i ++ d.getD i x0 :: d.drop (i + 1) := by
  have e : d.getD i x0 = d[i] := by simp [h]
  rw [e, List.getElem_cons_drop, List.take_append_drop]
theorem row_get {enc : α → Value × Value} {base g c n : Nat} {d : List α} {w : World} (x0 : α) (h : Row enc base g c n d w) {i : Nat} (hi : i < d.length) : w.cell? ⟨g, i * 2, none⟩ = some (enc (d.getD i x0)).1 ∧ w.cell? ⟨g, i * 2 + 1, none⟩ = some (enc (d.getD i x0)).2 := by
  have h2 : Row enc base g c n (d.take i ++ d.getD i x0 :: d.drop (i + 1)) w := by rw [← split_at x0 hi]; exact h
  have := row_at h2
  rw [show (d.take i).length = i by simp; omega] at this
  exact this
abbrev SM (sl : α → (Option Addr × Nat × Nat) × (Option Addr × Nat × Nat)) (w0 : World) (g i j : Nat) (x y : α) (w : World) : Prop := w.cell? ⟨g, i * 2, none⟩ = some (encS sl x).1 ∧ w.cell? ⟨g, i * 2 + 1, none⟩ = some (encS sl x).2 ∧ w.cell? ⟨g, j * 2, none⟩ = some (encS sl y).1 ∧ w.cell? ⟨g, j * 2 + 1, none⟩ = some (encS sl y).2 ∧ Below w0.heap.size w0 w
theorem SM.of {sl : α → (Option Addr × Nat × Nat) × (Option Addr × Nat × Nat)} {w0 w : World} {base g c n i j : Nat} {d : List α} (x0 : α) (h : Row (encS sl) base g c n d w) (hi : i < d.length) (hj : j < d.length) (hb : Below w0.heap.size w0 w) : SM sl w0 g i j (d.getD i x0) (d.getD j x0) w :=
  ⟨(row_get x0 h hi).1, (row_get x0 h hi).2, (row_get x0 h hj).1, (row_get x0 h hj).2, hb⟩
end Go.Proofs.YtjhdmghpklagkaaGreat.Stb
namespace Go.Proofs.YtjhdmghpklagkaaGreat.Stb
open Go.RowKit
variable {α : Type}
end Go.Proofs.YtjhdmghpklagkaaGreat.Stb
namespace Go.Proofs.YtjhdmghpklagkaaGreat.Stb
open Go.RowKit
variable {α : Type}
end Go.Proofs.YtjhdmghpklagkaaGreat.Stb
namespace Go.Proofs.YtjhdmghpklagkaaGreat.Stb
open Go.RowKit
variable {α : Type}
end Go.Proofs.YtjhdmghpklagkaaGreat.Stb
namespace Go.Proofs.YtjhdmghpklagkaaGreat.Stb
open Go.RowKit
variable {α : Type}
def Blk (lt : α → α → Bool) (B : Nat) (bs : List (List α)) : Prop := ∀ b ∈ bs, b.length = B ∧ Sorted lt b
end Go.Proofs.YtjhdmghpklagkaaGreat.Stb
namespace Go.Proofs.YtjhdmghpklagkaaGreat.Stb
variable {α : Type}

def insR (lt : α → α → Bool) (s : α) : List α → List α
  | [] => [s]
  | x :: L => if lt s x then s :: x :: L else x :: insR lt s L
theorem insR_lt {lt : α → α → Bool} {s x : α} {L : List α} (h : lt s x = true) : insR lt s (x :: L) = s :: x :: L := by rw [insR, if_pos h]
theorem insR_ge {lt : α → α → Bool} {s x : α} {L : List α} (h : lt s x = false) : insR lt s (x :: L) = x :: insR lt s L := by rw [insR, if_neg (by simp [h])]
theorem insR_ins {lt : α → α → Bool} (O : Ord lt) (s x : α) : ∀ S, insR lt s (ins lt x S) = ins lt x (insR lt s S)
  | [] => by
    rw [show ins lt x [] = [x] from rfl, show insR lt s [] = [s] from rfl]
    cases h : lt s x with
    | true => rw [insR_lt h, ins_lt h]; rfl
    | false => rw [insR_ge h, ins_ge h]; rfl
  | y :: S => by
    cases h1 : lt y x with
    | true =>
      rw [ins_lt h1]
      cases h2 : lt s y with
      | true => rw [insR_lt h2, insR_lt h2, ins_lt (O.trans _ _ _ h2 h1), ins_lt h1]
      | false => rw [insR_ge h2, insR_ge h2, ins_lt h1, insR_ins O s x S]
    | false =>
      rw [ins_ge h1]
      cases h2 : lt s y with
      | true =>
        rw [insR_lt h2]
        cases h3 : lt s x with
        | true => rw [insR_lt h3, ins_lt h3, ins_ge h1]
        | false => rw [insR_ge h3, ins_ge h3, insR_lt h2]
      | false =>
        rw [insR_ge h2, insR_ge (O.ntrans _ _ _ h2 h1), insR_ge h2, ins_ge h1]
theorem isort_snoc {lt : α → α → Bool} (O : Ord lt) (s : α) : ∀ L : List α, isort lt (L ++ [s]) = insR lt s (isort lt L)
  | [] => rfl
  | x :: L => by rw [List.cons_append, isort, isort_snoc O s L, isort, insR_ins O]
def eqv (lt : α → α → Bool) (x y : α) : Bool := !lt x y && !lt y x
def run (lt : α → α → Bool) (f : α → α → α) : α → List α → List α
  | x, [] => [x]
  | x, y :: L => if eqv lt x y then run lt f (f x y) L else x :: run lt f y L
theorem run_eq {lt : α → α → Bool} {f : α → α → α} {x y : α} {L : List α} (h : eqv lt x y = true) : run lt f x (y :: L) = run lt f (f x y) L := by rw [run, if_pos h]
theorem run_ne {lt : α → α → Bool} {f : α → α → α} {x y : α} {L : List α} (h : eqv lt x y = false) : run lt f x (y :: L) = x :: run lt f y L := by rw [run, if_neg (by simp [h])]
def runs (lt : α → α → Bool) (f : α → α → α) : List α → List α
  | [] => []
  | x :: L => run lt f x L
def put (lt : α → α → Bool) (f : α → α → α) (s : α) : List α → List α
  | [] => [s]
  | x :: L => if eqv lt x s then f x s :: L else if lt s x then s :: x :: L else x :: put lt f s L
theorem put_eq {lt : α → α → Bool} {f : α → α → α} {s x : α} {L : List α} (h : eqv lt x s = true) : put lt f s (x :: L) = f x s :: L := by rw [put, if_pos h]
theorem put_lt {lt : α → α → Bool} {f : α → α → α} {s x : α} {L : List α} (h : lt s x = true) : put lt f s (x :: L) = s :: x :: L := by
  rw [put, if_neg (by simp [eqv, h]), if_pos h]
theorem put_gt {lt : α → α → Bool} {f : α → α → α} {s x : α} {L : List α} (h : eqv lt x s = false) (h2 : lt s x = false) : put lt f s (x :: L) = x :: put lt f s L := by
  rw [put, if_neg (by simp [h]), if_neg (by simp [h2])]
structure Jn (lt : α → α → Bool) (f : α → α → α) : Prop where
  left : ∀ x s z, lt (f x s) z = lt x z
  right : ∀ x s z, lt z (f x s) = lt z x
theorem run_head {lt : α → α → Bool} {f : α → α → α} (J : Jn lt f) : ∀ (L : List α) (x : α), ∃ y M, run lt f x L = y :: M ∧ (∀ z, lt y z = lt x z) ∧ (∀ z, lt z y = lt z x)
  | [], x => ⟨x, [], rfl, fun _ => rfl, fun _ => rfl⟩
  | y :: L, x => by
    cases h : eqv lt x y with
    | true =>
      obtain ⟨z, M, h1, h2, h3⟩ := run_head J L (f x y)
      exact ⟨z, M, by rw [run_eq h, h1], fun u => (h2 u).trans (J.left x y u), fun u => (h3 u).trans (J.right x y u)⟩
    | false => exact ⟨x, _, run_ne h, fun _ => rfl, fun _ => rfl⟩
theorem put_run_lt {lt : α → α → Bool} {f : α → α → α} (J : Jn lt f) {s x : α} (h : lt s x = true) (L : List α) : put lt f s (run lt f x L) = s :: run lt f x L := by
  obtain ⟨y, M, h1, _, h3⟩ := run_head J L x
  rw [h1, put_lt (by rw [h3]; exact h)]
theorem eqv_lt {lt : α → α → Bool} {x y : α} (h : lt x y = true) : eqv lt x y = false := by simp [eqv, h]
theorem eqv_of {lt : α → α → Bool} {x y : α} (h1 : lt x y = false) (h2 : lt y x = false) : eqv lt x y = true := by simp [eqv, h1, h2]
theorem eqv_iff {lt : α → α → Bool} {x y : α} (h : eqv lt x y = true) : lt x y = false ∧ lt y x = false := by simpa [eqv] using h
theorem run_put {lt : α → α → Bool} {f : α → α → α} (O : Ord lt) (J : Jn lt f) (s : α) : ∀ (S : List α) (x : α), Sorted lt (x :: S) → lt s x = false → run lt f x (insR lt s S) = put lt f s (run lt f x S)
  | [], x, _, h => by
    show run lt f x [s] = put lt f s [x]
    cases h1 : eqv lt x s with
    | true => rw [run_eq h1, put_eq h1]; rfl
    | false => rw [run_ne h1, put_gt h1 h]; rfl
  | y :: S, x, hs, h => by
    have hxy : lt y x = false := (List.pairwise_cons.1 hs).1 y (by simp)
    have hs2 : Sorted lt (y :: S) := (List.pairwise_cons.1 hs).2
    cases h1 : eqv lt x y with
    | true =>
      obtain ⟨e1, e2⟩ := eqv_iff h1
      have h2 : lt s y = false := O.ntrans _ _ _ h e1
      rw [insR_ge h2, run_eq h1, run_eq h1]
      refine run_put O J s S (f x y) (List.pairwise_cons.2 ⟨?_, (List.pairwise_cons.1 hs2).2⟩) (by rw [J.right]; exact h)
      intro z hz
      rw [J.right]
      exact (List.pairwise_cons.1 hs).1 z (by simp [hz])
    | false =>
      have hlt : lt x y = true := by
        cases h3 : lt x y with
        | true => rfl
        | false => rw [eqv_of h3 hxy] at h1; cases h1
      rw [run_ne h1]
      cases h2 : lt s y with
      | true =>
        rw [insR_lt h2]
        cases h3 : eqv lt x s with
        | true =>
          rw [run_eq h3, put_eq h3, run_ne (eqv_lt (by rw [J.left]; exact hlt))]
        | false =>
          rw [run_ne h3, put_gt h3 h, run_ne (eqv_lt h2), put_run_lt J h2]
      | false =>
        have h4 : lt x s = true := by
          cases h5 : lt x s with
          | true => rfl
          | false => rw [O.ntrans _ _ _ h5 h2] at hlt; cases hlt
        rw [insR_ge h2, run_ne h1, put_gt (eqv_lt h4) h, run_put O J s S y hs2 h2]
theorem runs_put {lt : α → α → Bool} {f : α → α → α} (O : Ord lt) (J : Jn lt f) (s : α) (S : List α) (hs : Sorted lt S) : runs lt f (insR lt s S) = put lt f s (runs lt f S) := by
  cases S with
  | nil => rfl
  | cons x S =>
    cases h : lt s x with
    | true =>
      rw [insR_lt h]
      show run lt f s (x :: S) = put lt f s (run lt f x S)
      rw [run_ne (eqv_lt h), put_run_lt J h]
    | false => rw [insR_ge h]; exact run_put O J s S x hs h
def puts (lt : α → α → Bool) (f : α → α → α) (A B : List α) : List α := B.foldl (fun o s => put lt f s o) A
theorem puts_snoc (lt : α → α → Bool) (f : α → α → α) (A B : List α) (s : α) : puts lt f A (B ++ [s]) = put lt f s (puts lt f A B) := by simp [puts]
theorem puts_append (lt : α → α → Bool) (f : α → α → α) (A B C : List α) : puts lt f A (B ++ C) = puts lt f (puts lt f A B) C := by simp [puts]
theorem runs_isort {lt : α → α → Bool} {f : α → α → α} (O : Ord lt) (J : Jn lt f) (L : List α) : runs lt f (isort lt L) = puts lt f [] L := by
  suffices h : ∀ R : List α, runs lt f (isort lt R.reverse) = puts lt f [] R.reverse by simpa using h L.reverse
  intro R
  induction R with
  | nil => rfl
  | cons s R ih => rw [List.reverse_cons, isort_snoc O, runs_put O J s _ (isort_is_sorted O _), ih, puts_snoc]
def upd (lt : α → α → Bool) (f : α → α → α) (o : List α) (s : α) : List α :=
  match o.getLast? with
  | none => [s]
  | some x => if eqv lt x s then o.dropLast ++ [f x s] else o ++ [s]
theorem upd_nil (lt : α → α → Bool) (f : α → α → α) (s : α) : upd lt f [] s = [s] := rfl
theorem upd_eq {lt : α → α → Bool} {f : α → α → α} {o : List α} {x s : α} (h : eqv lt x s = true) : upd lt f (o ++ [x]) s = o ++ [f x s] := by
  simp [upd, h]
theorem upd_ne {lt : α → α → Bool} {f : α → α → α} {o : List α} {x s : α} (h : eqv lt x s = false) : upd lt f (o ++ [x]) s = o ++ [x] ++ [s] := by
  simp [upd, h]
theorem foldl_run (lt : α → α → Bool) (f : α → α → α) : ∀ (L : List α) (o : List α) (x : α), L.foldl (upd lt f) (o ++ [x]) = o ++ run lt f x L
  | [], _, _ => rfl
  | y :: L, o, x => by
    rw [List.foldl_cons]
    cases h : eqv lt x y with
    | true => rw [upd_eq h, foldl_run lt f L o, run_eq h]
    | false => rw [upd_ne h, foldl_run lt f L (o ++ [x]) y, run_ne h]; simp
theorem foldl_runs (lt : α → α → Bool) (f : α → α → α) (L : List α) : L.foldl (upd lt f) [] = runs lt f L := by
  cases L with
  | nil => rfl
  | cons x L => rw [List.foldl_cons, upd_nil]; exact foldl_run lt f L [] x
theorem ins_map {β : Type} {lt : α → α → Bool} {lt' : β → β → Bool} (g : α → β) (h : ∀ x y, lt' (g x) (g y) = lt x y) (x : α) : ∀ L : List α, (ins lt x L).map g = ins lt' (g x) (L.map g)
  | [] => rfl
  | y :: L => by
    rw [List.map_cons]
    cases h1 : lt y x with
    | true => rw [ins_lt h1, ins_lt (by rw [h]; exact h1), List.map_cons, ins_map g h x L]
    | false => rw [ins_ge h1, ins_ge (by rw [h]; exact h1)]; rfl
theorem isort_map {β : Type} {lt : α → α → Bool} {lt' : β → β → Bool} (g : α → β) (h : ∀ x y, lt' (g x) (g y) = lt x y) : ∀ L : List α, (isort lt L).map g = isort lt' (L.map g)
  | [] => rfl
  | x :: L => by rw [isort, ins_map g h, isort_map g h L]; rfl
end Go.Proofs.YtjhdmghpklagkaaGreat.Stb
namespace Go.Proofs.YtjhdmghpklagkaaGreat.Stb
open Go.RowKit
open Go.Proofs.YtjhdmghpklagkaaGreat.Lab (Lb HasL cmpList cmpL cmpN cmpV orC cb_trans cb_zero cb_self cb_neg cmpN_zero cmpN_eq cmpN_trans)
open Go.Proofs.YtjhdmghpklagkaaGreat.Smp (Sm HasS)
open Go.Proofs.YtjhdmghpklagkaaGreat.Srs (Q HasQ agQ pl q0 Pl)

theorem orC_neg {x y : Int} : orC x y < 0 ↔ x < 0 ∨ (x = 0 ∧ y < 0) := by unfold orC; split <;> omega
theorem orC_zero {x y : Int} : orC x y = 0 ↔ x = 0 ∧ y = 0 := by unfold orC; split <;> omega
theorem cmpV_zero {p q : Lb} (h : cmpV p q = 0) : p.2 = q.2 := ByteArray.ext (Array.toList_inj.1 (cb_zero _ _ h))
theorem cmpL_zero {p q : Lb} (h : cmpL p q = 0) : p = q := by
  obtain ⟨h1, h2⟩ := orC_zero.1 h
  exact Prod.ext (cmpN_zero h1) (cmpV_zero h2)
theorem cmpL_self (p : Lb) : cmpL p p = 0 := orC_zero.2 ⟨cmpN_eq rfl, cb_self _⟩
theorem cmpN_congr {p q r : Lb} (h : p.1 = q.1) : cmpN p r = cmpN q r := by unfold cmpN; rw [h]
theorem cmpN_congr' {p q r : Lb} (h : p.1 = q.1) : cmpN r p = cmpN r q := by unfold cmpN; rw [h]
theorem cmpL_trans {p q r : Lb} (h1 : cmpL p q < 0) (h2 : cmpL q r < 0) : cmpL p r < 0 := by
  rcases orC_neg.1 h1 with a | ⟨a, a'⟩
  · rcases orC_neg.1 h2 with b | ⟨b, _⟩
    · exact orC_neg.2 (.inl (cmpN_trans a b))
    · exact orC_neg.2 (.inl (by rw [← cmpN_congr' (cmpN_zero b)]; exact a))
  · rcases orC_neg.1 h2 with b | ⟨b, b'⟩
    · exact orC_neg.2 (.inl (by rw [cmpN_congr (cmpN_zero a)]; exact b))
    · exact orC_neg.2 (.inr ⟨cmpN_eq ((cmpN_zero a).trans (cmpN_zero b)), cb_trans _ _ _ a' b'⟩)
theorem lst_zero : ∀ {a b : List Lb}, cmpList a b = 0 → a = b := by
  intro a
  induction a with
  | nil => intro b h; cases b with
    | nil => rfl
    | cons y b => simp [cmpList] at h
  | cons x a ih => intro b h; cases b with
    | nil => simp [cmpList] at h
    | cons y b =>
      obtain ⟨h1, h2⟩ := orC_zero.1 h
      rw [cmpL_zero h1, ih h2]
theorem lst_self (a : List Lb) : cmpList a a = 0 := by
  induction a with
  | nil => rfl
  | cons x a ih => exact orC_zero.2 ⟨cmpL_self x, ih⟩
theorem lst_trans : ∀ {a b c : List Lb}, cmpList a b < 0 → cmpList b c < 0 → cmpList a c < 0 := by
  intro a
  induction a with
  | nil => intro b c h1 h2; cases b with
    | nil => exact h2
    | cons y b => cases c with
      | nil => simp [cmpList] at h2
      | cons z c => simp [cmpList]
  | cons x a ih => intro b c h1 h2; cases b with
    | nil => simp [cmpList] at h1
    | cons y b => cases c with
      | nil => simp [cmpList] at h2
      | cons z c =>
        rcases orC_neg.1 h1 with p | ⟨p, p'⟩
        · rcases orC_neg.1 h2 with q | ⟨q, _⟩
          · exact orC_neg.2 (.inl (cmpL_trans p q))
          · exact orC_neg.2 (.inl (by rw [← cmpL_zero q]; exact p))
        · rcases orC_neg.1 h2 with q | ⟨q, q'⟩
          · exact orC_neg.2 (.inl (by rw [cmpL_zero p]; exact q))
          · exact orC_neg.2 (.inr ⟨by rw [cmpL_zero p]; exact q, ih p' q'⟩)
theorem cmpL_neg (p q : Lb) : cmpL q p = - cmpL p q := by
  unfold cmpL cmpN cmpV orC
  rw [cb_neg p.1.data.toList q.1.data.toList, cb_neg p.2.data.toList q.2.data.toList]
  split <;> split <;> omega
theorem lst_neg : ∀ a b : List Lb, cmpList b a = - cmpList a b
  | [], [] => rfl
  | [], _ :: _ => rfl
  | _ :: _, [] => rfl
  | p :: a, q :: b => by
    show orC (cmpL q p) (cmpList b a) = - orC (cmpL p q) (cmpList a b)
    rw [cmpL_neg p q, lst_neg a b]
    unfold orC
    split <;> split <;> omega
def ltP (x y : Pl) : Bool := decide (cmpList x.1 y.1 < 0)
def ltQ (x y : Q) : Bool := decide (cmpList x.l y.l < 0)
theorem ord_of {α : Type} (k : α → List Lb) : Ord (fun x y => decide (cmpList (k x) (k y) < 0)) where
  asym x y h := by
    have h := of_decide_eq_true h
    have := lst_neg (k x) (k y)
    exact decide_eq_false (by omega)
  trans x y z h1 h2 := decide_eq_true (lst_trans (of_decide_eq_true h1) (of_decide_eq_true h2))
  ntrans x y z h1 h2 := by
    have h1 := of_decide_eq_false h1
    have h2 := of_decide_eq_false h2
    refine decide_eq_false fun h3 => ?_
    have e1 := lst_neg (k x) (k y)
    have e2 := lst_neg (k y) (k z)
    by_cases z1 : cmpList (k x) (k y) = 0
    · rw [lst_zero z1] at h3; exact h2 h3
    · have := lst_trans (a := k y) (b := k x) (c := k z) (by omega) h3
      exact h2 this
theorem ordP : Ord ltP := ord_of (fun x : Pl => x.1)
theorem eqvP {x y : Pl} : eqv ltP x y = decide (cmpList x.1 y.1 = 0) := by
  have := lst_neg x.1 y.1
  unfold eqv ltP
  by_cases h : cmpList x.1 y.1 = 0
  · rw [h] at this; simp [h, this]
  · by_cases h2 : cmpList x.1 y.1 < 0
    · simp [h, h2]
    · have h3 : cmpList y.1 x.1 < 0 := by omega
      simp [h, h3]
theorem jnP (f : List Sm → List Sm → List Sm) : Jn ltP (fun x y => (x.1, f x.2 y.2)) := ⟨fun _ _ _ => rfl, fun _ _ _ => rfl⟩
theorem isortQ (L : List Q) : (isort ltQ L).map pl = isort ltP (L.map pl) := isort_map (lt := ltQ) (lt' := ltP) pl (fun _ _ => rfl) L
end Go.Proofs.YtjhdmghpklagkaaGreat.Stb
namespace Go.Proofs.YtjhdmghpklagkaaGreat.Hpl
open Go.Proofs.YtjhdmghpklagkaaGreat.Stb
open Go.Proofs.YtjhdmghpklagkaaGreat.Srs (Q q0 pl Pl)

theorem c3Q : C3 cbQ where
  neg a b := Stb.lst_neg a.l b.l
  trans _ _ _ h1 h2 := Stb.lst_trans h1 h2
  cong a b h c := by
    have e : a.l = b.l := Stb.lst_zero h
    show Lab.cmpList a.l c.l = Lab.cmpList b.l c.l
    rw [e]
theorem exps_nums : ∀ (H : List Ln), H.Pairwise (fun x y => x.k < y.k) → (exps Ln.k Ln.L H).Pairwise (fun p q => p.1 ≤ q.1)
  | [], _ => by simp [exps]
  | x :: H, h => by
    rw [List.pairwise_cons] at h
    rw [exps_cons]
    refine List.pairwise_append.2 ⟨?_, exps_nums H h.2, fun p hp q hq => ?_⟩
    · rw [List.pairwise_map]
      exact List.Pairwise.imp (fun _ => Nat.le_refl _) (List.pairwise_of_forall (fun _ _ => trivial))
    · obtain ⟨a, _, rfl⟩ := List.mem_map.1 hp
      obtain ⟨y, hy, b, _, rfl⟩ := exps_mem.1 hq
      exact Nat.le_of_lt (h.1 y hy)
theorem exps_snd (H : List Ln) : (exps Ln.k Ln.L H).map Prod.snd = H.flatMap Ln.L := by
  induction H with
  | nil => rfl
  | cons x H ih => rw [exps_cons, List.map_append, ih, List.map_map, List.flatMap_cons]; congr 1; exact (show x.L.map (fun q => q) = x.L from List.map_id' _)
theorem all_flat {H : List Ln} (h : H.Pairwise (fun x y => x.k < y.k)) : all H = isort ltQ (H.flatMap Ln.L) := by
  unfold all
  rw [isort_num c3Q _ (exps_nums H h), exps_snd]
  rfl
end Go.Proofs.YtjhdmghpklagkaaGreat.Hpl
namespace Go.Proofs.YtjhdmghpklagkaaGreat.Pat
open Go.RowKit

theorem hid {p : Prop} (h : p) : Hid p := h
theorem ret_bool {a b : Bool} (h : a = b) : Ending.returned (.bool a) = .returned (.bool b) := by rw [h]
theorem own_apart {w : World} {b1 b2 e1 e2 s1 s2 n1 n2 : Nat} {v1 v2 : Value} {x1 x2 : List Value} (h1 : w.ownsRow b1 e1 s1 v1 n1 x1) (h2 : w.ownsRow b2 e2 s2 v2 n2 x2) (hne : e1 ≠ e2) : v1.ownBlock = none ∨ v1.ownBlock ≠ v2.ownBlock := by
  rcases h1.2 with ⟨rfl, _⟩ | ⟨g1, c1, cur1, rfl, _, hg1, _⟩
  · exact .inl rfl
  · refine .inr (fun e => ?_)
    rcases h2.2 with ⟨rfl, _⟩ | ⟨g2, c2, cur2, rfl, _, hg2, _⟩
    · cases e
    · simp only [Value.ownBlock, Option.some.injEq] at e
      subst e
      rw [hg1] at hg2
      simp only [Option.some.injEq, Obj.cells.injEq] at hg2
      exact hne hg2.2.1
abbrev Mt := ByteArray × Int × ByteArray
def m0 : Mt := (ByteArray.empty, 0, ByteArray.empty)
def HasM (w : World) (a : Option Addr) (ms : List Mt) : Prop :=
  ms = [] ∨ ∃ b off, a = some ⟨b, off, none⟩ ∧ b < w.heap.size ∧ ∀ i, i < ms.length → w.cell? ⟨b, off + i * 3, none⟩ = some (.string (ms.getD i m0).1) ∧ w.cell? ⟨b, off + i * 3 + 1, none⟩ = some (.int .i64 (ms.getD i m0).2.1) ∧ w.cell? ⟨b, off + i * 3 + 2, none⟩ = some (.string (ms.getD i m0).2.2)
theorem HasM.below {w w' : World} {a : Option Addr} {ms : List Mt} (h : HasM w a ms) (hb : Below w.heap.size w w') : HasM w' a ms := by
  rcases h with h | ⟨b, off, h1, h2, h3⟩
  · exact .inl h
  · exact .inr ⟨b, off, h1, Nat.lt_of_lt_of_le h2 hb.size, fun i hi => ⟨(hb.cell (by exact h2)).trans (h3 i hi).1, (hb.cell (by exact h2)).trans (h3 i hi).2.1, (hb.cell (by exact h2)).trans (h3 i hi).2.2⟩⟩
def FitM (ms : List Mt) : Prop := ms = []
def okM (_ : Mt) : Bool := false
def GoodMP (ms : List Mt) : Prop := ms.length ≤ 10 ∧ ∀ i, i < ms.length → okM (ms.getD i m0) = true
instance (ms : List Mt) : Decidable (GoodMP ms) := by unfold GoodMP; infer_instance
def goodM (ms : List Mt) : Bool := decide (GoodMP ms)
def fitM (_ : Mt) (_ : ByteArray) : Bool := false
def allM (ms : List Mt) (val : ByteArray → ByteArray) : Bool := ms.all fun m => fitM m (val m.1)
theorem goodM_none {ms : List Mt} (h : goodM ms = true) : ms = [] := by
  have g := (of_decide_eq_true h : GoodMP ms).2
  cases ms with
  | nil => rfl
  | cons m ms => exact absurd (g 0 (by simp)) (by simp [okM])
theorem f157 (s t v : ByteArray) (o : Int) (w : World) (ho : okM (s, o, t) = true) (_ : v.size ≤ 100) : Calls Tryz.prog 157 #[.agg #[.string s, .int .i64 o, .string t], .string v] w fun e w' => e = .returned (.bool (fitM (s, o, t) v)) ∧ Below w.heap.size w w' :=
  absurd ho (by simp [okM])
theorem val_size {ls : List Lab.Lb} {x v : ByteArray} (hg : Lab.GoodP ls) (h : Lab.OfV ls x v) : v.size ≤ 100 := by
  rcases h with ⟨k, hk, _, h2, _⟩ | ⟨_, h2⟩
  · have := (hg.2 k hk).1
    unfold Lab.okL Str.valueL at this
    simp at this
    rw [← h2]
    simp at this ⊢
    omega
  · rw [h2]; simp
theorem f113 (a a' : Option Addr) (n c n' c' : Nat) (ms : List Mt) (ls : List Lab.Lb) (val : ByteArray → ByteArray) (w : World) (hn : ms.length = n) (_ : ls.length = n') (_ : HasM w a ms) (_ : Lab.HasL w a' ls) (hm : goodM ms = true) (_ : Lab.GoodP ls) (_ : ∀ x, Lab.OfV ls x (val x)) :
    Calls Tryz.prog 113 #[.slice a n c, .slice a' n' c'] w fun e w' => e = .returned (.bool (allM ms val)) ∧ Below w.heap.size w w' := by
  obtain rfl := goodM_none hm
  obtain rfl : n = 0 := by simpa using hn.symm
  go_enter Tryz.func113, Tryz.ntmps113
  go_wp2
  go_loopw [9] (fun i wr => i = .int .i64 ((0 : Nat) : Int) ∧ Hid (Below w.heap.size w wr)) (fun _ _ => 0)
  case atStart => exact ⟨rfl, Below.refl _ _⟩
  case round =>
    obtain ⟨rfl, HX⟩ := hrel
    go_wp2
    go_ret
    exact ⟨rfl, HX.out⟩
theorem f52 (a : Option Addr) (n c : Nat) (ms : List Mt) (w : World) (hn : ms.length = n) (_ : n ≤ maxLen) (_ : HasM w a ms) (hf : FitM ms) :
    Calls Tryz.prog 52 #[.slice a n c] w fun e w' => e = .returned (.bool (goodM ms)) ∧ Below w.heap.size w w' := by
  unfold FitM at hf
  subst hf
  obtain rfl : n = 0 := by simpa using hn.symm
  have HG : Hid (goodM [] = true) := decide_eq_true ⟨by simp, fun i hi => by simp at hi⟩
  rw [HG.out]
  go_enter Tryz.func52, Tryz.ntmps52
  go_wp2
  go_loopw [10] (fun i wr => i = .int .i64 ((0 : Nat) : Int) ∧ Hid (Below w.heap.size w wr)) (fun _ _ => 0)
  case atStart => exact ⟨rfl, Below.refl _ _⟩
  case round =>
    obtain ⟨rfl, HX⟩ := hrel
    go_wp2
    go_ret
    exact ⟨rfl, HX.out⟩
end Go.Proofs.YtjhdmghpklagkaaGreat.Pat
