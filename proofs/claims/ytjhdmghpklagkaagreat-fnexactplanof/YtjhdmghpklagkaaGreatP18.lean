/- The library's exchanges at series: what comes of swapRangeCmpFunc. -/
import Derived.Test.YtjhdmghpklagkaaGreatP13
import Derived.Test.YtjhdmghpklagkaaGreatP09
import Derived.Test.YtjhdmghpklagkaaGreatP17
import Derived.Test.YtjhdmghpklagkaaGreatRows
import Derived.WalkKit
import Derived.ProofKit
import Derived.Handy
import Derived.BigQuiet
import Derived.Deep.QuietTactic
import Derived.Lib.Bytealg
namespace Go.Proofs.YtjhdmghpklagkaaGreat.Stb
open Go.RowKit
variable {α : Type}
abbrev encS (sl : α → (Option Addr × Nat × Nat) × (Option Addr × Nat × Nat)) (x : α) : Value × Value := (.slice (sl x).1.1 (sl x).1.2.1 (sl x).1.2.2, .slice (sl x).2.1 (sl x).2.2.1 (sl x).2.2.2)
end Go.Proofs.YtjhdmghpklagkaaGreat.Stb
namespace Go.Proofs.YtjhdmghpklagkaaGreat.Stb
open Go.RowKit
variable {α : Type}
end Go.Proofs.YtjhdmghpklagkaaGreat.Stb
namespace Go.Proofs.YtjhdmghpklagkaaGreat.Stb
open Go.RowKit
variable {α : Type}
theorem split_at {d : List α} {i : Nat} (x0 : α) (h : i < d.length) : d = d.take i ++ d.getD i x0 :: d.drop (i + 1) := by
  have e : d.getD i x0 = d[i] := by simp [h]
  rw [e, List.getElem_cons_drop, List.take_append_drop]
theorem row_get {enc : α → Value × Value} {base g c n : Nat} {d : List α} {w : World} (x0 : α) (h : Row enc base g c n d w) {i : Nat} (hi : i < d.length) : w.cell? ⟨g, i * 2, none⟩ = some (enc (d.getD i x0)).1 ∧ w.cell? ⟨g, i * 2 + 1, none⟩ = some (enc (d.getD i x0)).2 := by
  have h2 : Row enc base g c n (d.take i ++ d.getD i x0 :: d.drop (i + 1)) w := by rw [← split_at x0 hi]; exact h
  have := row_at h2
  rw [show (d.take i).length = i by simp; omega] at this
  exact this
abbrev SM (sl : α → (Option Addr × Nat × Nat) × (Option Addr × Nat × Nat)) (w0 : World) (g i j : Nat) (x y : α) (w : World) : Prop := w.cell? ⟨g, i * 2, none⟩ = some (encS sl x).1 ∧ w.cell? ⟨g, i * 2 + 1, none⟩ = some (encS sl x).2 ∧ w.cell? ⟨g, j * 2, none⟩ = some (encS sl y).1 ∧ w.cell? ⟨g, j * 2 + 1, none⟩ = some (encS sl y).2 ∧ Below w0.heap.size w0 w
theorem SM.of {sl : α → (Option Addr × Nat × Nat) × (Option Addr × Nat × Nat)} {w0 w : World} {base g c n i j : Nat} {d : List α} (x0 : α) (h : Row (encS sl) base g c n d w) (hi : i < d.length) (hj : j < d.length) (hb : Below w0.heap.size w0 w) : SM sl w0 g i j (d.getD i x0) (d.getD j x0) w :=
  ⟨(row_get x0 h hi).1, (row_get x0 h hi).2, (row_get x0 h hj).1, (row_get x0 h hj).2, hb⟩
end Go.Proofs.YtjhdmghpklagkaaGreat.Stb
namespace Go.Proofs.YtjhdmghpklagkaaGreat.Stb
open Go.RowKit
variable {α : Type}
end Go.Proofs.YtjhdmghpklagkaaGreat.Stb
namespace Go.Proofs.YtjhdmghpklagkaaGreat.Stb
open Go.RowKit
variable {α : Type}
end Go.Proofs.YtjhdmghpklagkaaGreat.Stb
namespace Go.Proofs.YtjhdmghpklagkaaGreat.Stb
open Go.RowKit
variable {α : Type}
end Go.Proofs.YtjhdmghpklagkaaGreat.Stb
namespace Go.Proofs.YtjhdmghpklagkaaGreat.Stb
open Go.RowKit
variable {α : Type}
def Blk (lt : α → α → Bool) (B : Nat) (bs : List (List α)) : Prop := ∀ b ∈ bs, b.length = B ∧ Sorted lt b
end Go.Proofs.YtjhdmghpklagkaaGreat.Stb
namespace Go.Proofs.YtjhdmghpklagkaaGreat.Stb
variable {α : Type}

def insR (lt : α → α → Bool) (s : α) : List α → List α
  | [] => [s]
  | x :: L => if lt s x then s :: x :: L else x :: insR lt s L
theorem insR_lt {lt : α → α → Bool} {s x : α} {L : List α} (h : lt s x = true) : insR lt s (x :: L) = s :: x :: L := by rw [insR, if_pos h]
theorem insR_ge {lt : α → α → Bool} {s x : α} {L : List α} (h : lt s x = false) : insR lt s (x :: L) = x :: insR lt s L := by rw [insR, if_neg (by simp [h])]
theorem insR_ins {lt : α → α → Bool} (O : Ord lt) (s x : α) : ∀ S, insR lt s (ins lt x S) = ins lt x (insR lt s S)
  | [] => by
    rw [show ins lt x [] = [x] from rfl, show insR lt s [] = [s] from rfl]
    cases h : lt s x with
    | true => rw [insR_lt h, ins_lt h]; rfl
    | false => rw [insR_ge h, ins_ge h]; rfl
  | y :: S => by
    cases h1 : lt y x with
    | true =>
      rw [ins_lt h1]
      cases h2 : lt s y with
      | true => rw [insR_lt h2, insR_lt h2, ins_lt (O.trans _ _ _ h2 h1), ins_lt h1]
      | false => rw [insR_ge h2, insR_ge h2, ins_lt h1, insR_ins O s x S]
    | false =>
      rw [ins_ge h1]
      cases h2 : lt s y with
      | true =>
        rw [insR_lt h2]
        cases h3 : lt s x with
        | true => rw [insR_lt h3, ins_lt h3, ins_ge h1]
        | false => rw [insR_ge h3, ins_ge h3, insR_lt h2]
      | false =>
        rw [insR_ge h2, insR_ge (O.ntrans _ _ _ h2 h1), insR_ge h2, ins_ge h1]
theorem isort_snoc {lt : α → α → Bool} (O : Ord lt) (s : α) : ∀ L : List α, isort lt (L ++ [s]) = insR lt s (isort lt L)
  | [] => rfl
  | x :: L => by rw [List.cons_append, isort, isort_snoc O s L, isort, insR_ins O]
def eqv (lt : α → α → Bool) (x y : α) : Bool := !lt x y && !lt y x
def run (lt : α → α → Bool) (f : α → α → α) : α → List α → List α
  | x, [] => [x]
  | x, y :: L => if eqv lt x y then run lt f (f x y) L else x :: run lt f y L
theorem run_eq {lt : α → α → Bool} {f : α → α → α} {x y : α} {L : List α} (h : eqv lt x y = true) : run lt f x (y :: L) = run lt f (f x y) L := by rw [run, if_pos h]
theorem run_ne {lt : α → α → Bool} {f : α → α → α} {x y : α} {L : List α} (h : eqv lt x y = false) : run lt f x (y :: L) = x :: run lt f y L := by rw [run, if_neg (by simp [h])]
def runs (lt : α → α → Bool) (f : α → α → α) : List α → List α
  | [] => []
  | x :: L => run lt f x L
def put (lt : α → α → Bool) (f : α → α → α) (s : α) : List α → List α
  | [] => [s]
  | x :: L => if eqv lt x s then f x s :: L else if lt s x then s :: x :: L else x :: put lt f s L
theorem put_eq {lt : α → α → Bool} {f : α → α → α} {s x : α} {L : List α} (h : eqv lt x s = true) : put lt f s (x :: L) = f x s :: L := by rw [put, if_pos h]
theorem put_lt {lt : α → α → Bool} {f : α → α → α} {s x : α} {L : List α} (h : lt s x = true) : put lt f s (x :: L) = s :: x :: L := by
  rw [put, if_neg (by simp [eqv, h]), if_pos h]
theorem put_gt {lt : α → α → Bool} {f : α → α → α} {s x : α} {L : List α} (h : eqv lt x s = false) (h2 : lt s x = false) : put lt f s (x :: L) = x :: put lt f s L := by
  rw [put, if_neg (by simp [h]), if_neg (by simp [h2])]
structure Jn (lt : α → α → Bool) (f : α → α → α) : Prop where
  left : ∀ x s z, lt (f x s) z = lt x z
  right : ∀ x s z, lt z (f x s) = lt z x
theorem run_head {lt : α → α → Bool} {f : α → α → α} (J : Jn lt f) : ∀ (L : List α) (x : α), ∃ y M, run lt f x L = y :: M ∧ (∀ z, lt y z = lt x z) ∧ (∀ z, lt z y = lt z x)
  | [], x => ⟨x, [], rfl, fun _ => rfl, fun _ => rfl⟩
  | y :: L, x => by
    cases h : eqv lt x y with
    | true =>
      obtain ⟨z, M, h1, h2, h3⟩ := run_head J L (f x y)
      exact ⟨z, M, by rw [run_eq h, h1], fun u => (h2 u).trans (J.left x y u), fun u => (h3 u).trans (J.right x y u)⟩
    | false => exact ⟨x, _, run_ne h, fun _ => rfl, fun _ => rfl⟩
theorem put_run_lt {lt : α → α → Bool} {f : α → α → α} (J : Jn lt f) {s x : α} (h : lt s x = true) (L : List α) : put lt f s (run lt f x L) = s :: run lt f x L := by
  obtain ⟨y, M, h1, _, h3⟩ := run_head J L x
  rw [h1, put_lt (by rw [h3]; exact h)]
theorem eqv_lt {lt : α → α → Bool} {x y : α} (h : lt x y = true) : eqv lt x y = false := by simp [eqv, h]
theorem eqv_of {lt : α → α → Bool} {x y : α} (h1 : lt x y = false) (h2 : lt y x = false) : eqv lt x y = true := by simp [eqv, h1, h2]
theorem eqv_iff {lt : α → α → Bool} {x y : α} (h : eqv lt x y = true) : lt x y = false ∧ lt y x = false := by simpa [eqv] using h
theorem run_put {lt : α → α → Bool} {f : α → α → α} (O : Ord lt) (J : Jn lt f) (s : α) : ∀ (S : List α) (x : α), Sorted lt (x :: S) → lt s x = false → run lt f x (insR lt s S) = put lt f s (run lt f x S)
  | [], x, _, h => by
    show run lt f x [s] = put lt f s [x]
    cases h1 : eqv lt x s with
    | true => rw [run_eq h1, put_eq h1]; rfl
    | false => rw [run_ne h1, put_gt h1 h]; rfl
  | y :: S, x, hs, h => by
    have hxy : lt y x = false := (List.pairwise_cons.1 hs).1 y (by simp)
    have hs2 : Sorted lt (y :: S) := (List.pairwise_cons.1 hs).2
    cases h1 : eqv lt x y with
    | true =>
      obtain ⟨e1, e2⟩ := eqv_iff h1
      have h2 : lt s y = false := O.ntrans _ _ _ h e1
      rw [insR_ge h2, run_eq h1, run_eq h1]
      refine run_put O J s S (f x y) (List.pairwise_cons.2 ⟨?_, (List.pairwise_cons.1 hs2).2⟩) (by rw [J.right]; exact h)
      intro z hz
      rw [J.right]
      exact (List.pairwise_cons.1 hs).1 z (by simp [hz])
    | false =>
      have hlt : lt x y = true := by
        cases h3 : lt x y with
        | true => rfl
        | false => rw [eqv_of h3 hxy] at h1; cases h1
      rw [run_ne h1]
      cases h2 : lt s y with
      | true =>
        rw [insR_lt h2]
        cases h3 : eqv lt x s with
        | true =>
          rw [run_eq h3, put_eq h3, run_ne (eqv_lt (by rw [J.left]; exact hlt))]
        | false =>
          rw [run_ne h3, put_gt h3 h, run_ne (eqv_lt h2), put_run_lt J h2]
      | false =>
        have h4 : lt x s = true := by
          cases h5 : lt x s with
          | true => rfl
          | false => rw [O.ntrans _ _ _ h5 h2] at hlt; cases hlt
        rw [insR_ge h2, run_ne h1, put_gt (eqv_lt h4) h, run_put O J s S y hs2 h2]
theorem runs_put {lt : α → α → Bool} {f : α → α → α} (O : Ord lt) (J : Jn lt f) (s : α) (S : List α) (hs : Sorted lt S) : runs lt f (insR lt s S) = put lt f s (runs lt f S) := by
  cases S with
  | nil => rfl
  | cons x S =>
    cases h : lt s x with
    | true =>
      rw [insR_lt h]
      show run lt f s (x :: S) = put lt f s (run lt f x S)
      rw [run_ne (eqv_lt h), put_run_lt J h]
    | false => rw [insR_ge h]; exact run_put O J s S x hs h
def puts (lt : α → α → Bool) (f : α → α → α) (A B : List α) : List α := B.foldl (fun o s => put lt f s o) A
theorem puts_snoc (lt : α → α → Bool) (f : α → α → α) (A B : List α) (s : α) : puts lt f A (B ++ [s]) = put lt f s (puts lt f A B) := by simp [puts]
theorem puts_append (lt : α → α → Bool) (f : α → α → α) (A B C : List α) : puts lt f A (B ++ C) = puts lt f (puts lt f A B) C := by simp [puts]
theorem runs_isort {lt : α → α → Bool} {f : α → α → α} (O : Ord lt) (J : Jn lt f) (L : List α) : runs lt f (isort lt L) = puts lt f [] L := by
  suffices h : ∀ R : List α, runs lt f (isort lt R.reverse) = puts lt f [] R.reverse by simpa using h L.reverse
  intro R
  induction R with
  | nil => rfl
  | cons s R ih => rw [List.reverse_cons, isort_snoc O, runs_put O J s _ (isort_is_sorted O _), ih, puts_snoc]
def upd (lt : α → α → Bool) (f : α → α → α) (o : List α) (s : α) : List α :=
  match o.getLast? with
  | none => [s]
  | some x => if eqv lt x s then o.dropLast ++ [f x s] else o ++ [s]
theorem upd_nil (lt : α → α → Bool) (f : α → α → α) (s : α) : upd lt f [] s = [s] := rfl
theorem upd_eq {lt : α → α → Bool} {f : α → α → α} {o : List α} {x s : α} (h : eqv lt x s = true) : upd lt f (o ++ [x]) s = o ++ [f x s] := by
  simp [upd, h]
theorem upd_ne {lt : α → α → Bool} {f : α → α → α} {o : List α} {x s : α} (h : eqv lt x s = false) : upd lt f (o ++ [x]) s = o ++ [x] ++ [s] := by
  simp [upd, h]
theorem foldl_run (lt : α → α → Bool) (f : α → α → α) : ∀ (L : List α) (o : List α) (x : α), L.foldl (upd lt f) (o ++ [x]) = o ++ run lt f x L
  | [], _, _ => rfl
  | y :: L, o, x => by
    rw [List.foldl_cons]
    cases h : eqv lt x y with
    | true => rw [upd_eq h, foldl_run lt f L o, run_eq h]
    | false => rw [upd_ne h, foldl_run lt f L (o ++ [x]) y, run_ne h]; simp
theorem foldl_runs (lt : α → α → Bool) (f : α → α → α) (L : List α) : L.foldl (upd lt f) [] = runs lt f L := by
  cases L with
  | nil => rfl
  | cons x L => rw [List.foldl_cons, upd_nil]; exact foldl_run lt f L [] x
theorem ins_map {β : Type} {lt : α → α → Bool} {lt' : β → β → Bool} (g : α → β) (h : ∀ x y, lt' (g x) (g y) = lt x y) (x : α) : ∀ L : List α, (ins lt x L).map g = ins lt' (g x) (L.map g)
  | [] => rfl
  | y :: L => by
    rw [List.map_cons]
    cases h1 : lt y x with
    | true => rw [ins_lt h1, ins_lt (by rw [h]; exact h1), List.map_cons, ins_map g h x L]
    | false => rw [ins_ge h1, ins_ge (by rw [h]; exact h1)]; rfl
theorem isort_map {β : Type} {lt : α → α → Bool} {lt' : β → β → Bool} (g : α → β) (h : ∀ x y, lt' (g x) (g y) = lt x y) : ∀ L : List α, (isort lt L).map g = isort lt' (L.map g)
  | [] => rfl
  | x :: L => by rw [isort, ins_map g h, isort_map g h L]; rfl
end Go.Proofs.YtjhdmghpklagkaaGreat.Stb
namespace Go.Proofs.YtjhdmghpklagkaaGreat.Stb
open Go.RowKit
open Go.Proofs.YtjhdmghpklagkaaGreat.Lab (Lb HasL cmpList cmpL cmpN cmpV orC cb_trans cb_zero cb_self cb_neg cmpN_zero cmpN_eq cmpN_trans)
open Go.Proofs.YtjhdmghpklagkaaGreat.Smp (Sm HasS)
open Go.Proofs.YtjhdmghpklagkaaGreat.Srs (Q HasQ agQ pl q0 Pl)

theorem orC_neg {x y : Int} : orC x y < 0 ↔ x < 0 ∨ (x = 0 ∧ y < 0) := by unfold orC; split <;> omega
theorem orC_zero {x y : Int} : orC x y = 0 ↔ x = 0 ∧ y = 0 := by unfold orC; split <;> omega
theorem cmpV_zero {p q : Lb} (h : cmpV p q = 0) : p.2 = q.2 := ByteArray.ext (Array.toList_inj.1 (cb_zero _ _ h))
theorem cmpL_zero {p q : Lb} (h : cmpL p q = 0) : p = q := by
  obtain ⟨h1, h2⟩ := orC_zero.1 h
  exact Prod.ext (cmpN_zero h1) (cmpV_zero h2)
theorem cmpL_self (p : Lb) : cmpL p p = 0 := orC_zero.2 ⟨cmpN_eq rfl, cb_self _⟩
theorem cmpN_congr {p q r : Lb} (h : p.1 = q.1) : cmpN p r = cmpN q r := by unfold cmpN; rw [h]
theorem cmpN_congr' {p q r : Lb} (h : p.1 = q.1) : cmpN r p = cmpN r q := by unfold cmpN; rw [h]
theorem cmpL_trans {p q r : Lb} (h1 : cmpL p q < 0) (h2 : cmpL q r < 0) : cmpL p r < 0 := by
  rcases orC_neg.1 h1 with a | ⟨a, a'⟩
  · rcases orC_neg.1 h2 with b | ⟨b, _⟩
    · exact orC_neg.2 (.inl (cmpN_trans a b))
    · exact orC_neg.2 (.inl (by rw [← cmpN_congr' (cmpN_zero b)]; exact a))
  · rcases orC_neg.1 h2 with b | ⟨b, b'⟩
    · exact orC_neg.2 (.inl (by rw [cmpN_congr (cmpN_zero a)]; exact b))
    · exact orC_neg.2 (.inr ⟨cmpN_eq ((cmpN_zero a).trans (cmpN_zero b)), cb_trans _ _ _ a' b'⟩)
theorem lst_zero : ∀ {a b : List Lb}, cmpList a b = 0 → a = b := by
  intro a
  induction a with
  | nil => intro b h; cases b with
    | nil => rfl
    | cons y b => simp [cmpList] at h
  | cons x a ih => intro b h; cases b with
    | nil => simp [cmpList] at h
    | cons y b =>
      obtain ⟨h1, h2⟩ := orC_zero.1 h
      rw [cmpL_zero h1, ih h2]
theorem lst_self (a : List Lb) : cmpList a a = 0 := by
  induction a with
  | nil => rfl
  | cons x a ih => exact orC_zero.2 ⟨cmpL_self x, ih⟩
theorem lst_trans : ∀ {a b c : List Lb}, cmpList a b < 0 → cmpList b c < 0 → cmpList a c < 0 := by
  intro a
  induction a with
  | nil => intro b c h1 h2; cases b with
    | nil => exact h2
    | cons y b => cases c with
      | nil => simp [cmpList] at h2
      | cons z c => simp [cmpList]
  | cons x a ih => intro b c h1 h2; cases b with
    | nil => simp [cmpList] at h1
    | cons y b => cases c with
      | nil => simp [cmpList] at h2
      | cons z c =>
        rcases orC_neg.1 h1 with p | ⟨p, p'⟩
        · rcases orC_neg.1 h2 with q | ⟨q, _⟩
          · exact orC_neg.2 (.inl (cmpL_trans p q))
          · exact orC_neg.2 (.inl (by rw [← cmpL_zero q]; exact p))
        · rcases orC_neg.1 h2 with q | ⟨q, q'⟩
          · exact orC_neg.2 (.inl (by rw [cmpL_zero p]; exact q))
          · exact orC_neg.2 (.inr ⟨by rw [cmpL_zero p]; exact q, ih p' q'⟩)
theorem cmpL_neg (p q : Lb) : cmpL q p = - cmpL p q := by
  unfold cmpL cmpN cmpV orC
  rw [cb_neg p.1.data.toList q.1.data.toList, cb_neg p.2.data.toList q.2.data.toList]
  split <;> split <;> omega
theorem lst_neg : ∀ a b : List Lb, cmpList b a = - cmpList a b
  | [], [] => rfl
  | [], _ :: _ => rfl
  | _ :: _, [] => rfl
  | p :: a, q :: b => by
    show orC (cmpL q p) (cmpList b a) = - orC (cmpL p q) (cmpList a b)
    rw [cmpL_neg p q, lst_neg a b]
    unfold orC
    split <;> split <;> omega
def ltP (x y : Pl) : Bool := decide (cmpList x.1 y.1 < 0)
def ltQ (x y : Q) : Bool := decide (cmpList x.l y.l < 0)
theorem ord_of {α : Type} (k : α → List Lb) : Ord (fun x y => decide (cmpList (k x) (k y) < 0)) where
  asym x y h := by
    have h := of_decide_eq_true h
    have := lst_neg (k x) (k y)
    exact decide_eq_false (by omega)
  trans x y z h1 h2 := decide_eq_true (lst_trans (of_decide_eq_true h1) (of_decide_eq_true h2))
  ntrans x y z h1 h2 := by
    have h1 := of_decide_eq_false h1
    have h2 := of_decide_eq_false h2
    refine decide_eq_false fun h3 => ?_
    have e1 := lst_neg (k x) (k y)
    have e2 := lst_neg (k y) (k z)
    by_cases z1 : cmpList (k x) (k y) = 0
    · rw [lst_zero z1] at h3; exact h2 h3
    · have := lst_trans (a := k y) (b := k x) (c := k z) (by omega) h3
      exact h2 this
theorem ordP : Ord ltP := ord_of (fun x : Pl => x.1)
theorem eqvP {x y : Pl} : eqv ltP x y = decide (cmpList x.1 y.1 = 0) := by
  have := lst_neg x.1 y.1
  unfold eqv ltP
  by_cases h : cmpList x.1 y.1 = 0
  · rw [h] at this; simp [h, this]
  · by_cases h2 : cmpList x.1 y.1 < 0
    · simp [h, h2]
    · have h3 : cmpList y.1 x.1 < 0 := by omega
      simp [h, h3]
theorem jnP (f : List Sm → List Sm → List Sm) : Jn ltP (fun x y => (x.1, f x.2 y.2)) := ⟨fun _ _ _ => rfl, fun _ _ _ => rfl⟩
theorem isortQ (L : List Q) : (isort ltQ L).map pl = isort ltP (L.map pl) := isort_map (lt := ltQ) (lt' := ltP) pl (fun _ _ => rfl) L
end Go.Proofs.YtjhdmghpklagkaaGreat.Stb
namespace Go.Proofs.YtjhdmghpklagkaaGreat.Hpl
open Go.Proofs.YtjhdmghpklagkaaGreat.Stb
open Go.Proofs.YtjhdmghpklagkaaGreat.Srs (Q q0 pl Pl)

theorem c3Q : C3 cbQ where
  neg a b := Stb.lst_neg a.l b.l
  trans _ _ _ h1 h2 := Stb.lst_trans h1 h2
  cong a b h c := by
    have e : a.l = b.l := Stb.lst_zero h
    show Lab.cmpList a.l c.l = Lab.cmpList b.l c.l
    rw [e]
theorem exps_nums : ∀ (H : List Ln), H.Pairwise (fun x y => x.k < y.k) → (exps Ln.k Ln.L H).Pairwise (fun p q => p.1 ≤ q.1)
  | [], _ => by simp [exps]
  | x :: H, h => by
    rw [List.pairwise_cons] at h
    rw [exps_cons]
    refine List.pairwise_append.2 ⟨?_, exps_nums H h.2, fun p hp q hq => ?_⟩
    · rw [List.pairwise_map]
      exact List.Pairwise.imp (fun _ => Nat.le_refl _) (List.pairwise_of_forall (fun _ _ => trivial))
    · obtain ⟨a, _, rfl⟩ := List.mem_map.1 hp
      obtain ⟨y, hy, b, _, rfl⟩ := exps_mem.1 hq
      exact Nat.le_of_lt (h.1 y hy)
theorem exps_snd (H : List Ln) : (exps Ln.k Ln.L H).map Prod.snd = H.flatMap Ln.L := by
  induction H with
  | nil => rfl
  | cons x H ih => rw [exps_cons, List.map_append, ih, List.map_map, List.flatMap_cons]; congr 1; exact (show x.L.map (fun q => q) = x.L from List.map_id' _)
theorem all_flat {H : List Ln} (h : H.Pairwise (fun x y => x.k < y.k)) : all H = isort ltQ (H.flatMap Ln.L) := by
  unfold all
  rw [isort_num c3Q _ (exps_nums H h), exps_snd]
  rfl
end Go.Proofs.YtjhdmghpklagkaaGreat.Hpl
namespace Go.Proofs.YtjhdmghpklagkaaGreat.Pat
open Go.RowKit

theorem hid {p : Prop} (h : p) : Hid p := h
theorem ret_bool {a b : Bool} (h : a = b) : Ending.returned (.bool a) = .returned (.bool b) := by rw [h]
def prB (c : UInt8) : Bool := decide (32 ≤ c.toNat ∧ c.toNat ≤ 126)
def printL (l : List UInt8) : Bool := l.all prB
theorem all_take_succ (p : UInt8 → Bool) (s : ByteArray) (k : Nat) (h : k < s.size) : (s.data.toList.take (k + 1)).all p = ((s.data.toList.take k).all p && p s[k]) := by
  rw [List.take_succ_eq_append_getElem (by simpa using h), List.all_append]; simp; rfl
theorem all_false (p : UInt8 → Bool) (s : ByteArray) (k : Nat) (h : k < s.size) (hp : p s[k] = false) : s.data.toList.all p = false := by
  rw [List.all_eq_false]
  refine ⟨s[k], ?_, by simp [hp]⟩
  exact List.getElem_mem (l := s.data.toList) (n := k) (by simpa using h)
theorem take_all (p : UInt8 → Bool) (s : ByteArray) (k : Nat) (h : s.size ≤ k) (hp : (s.data.toList.take k).all p = true) : s.data.toList.all p = true := by
  rwa [List.take_of_length_le (by simpa using h)] at hp

theorem f84 (s : ByteArray) (w : World) (hs : s.size ≤ maxLen) : Calls Tryz.prog 84 #[.string s] w fun e w' => e = .returned (.bool (printL s.data.toList)) ∧ w' = w := by
  unfold maxLen at hs
  go_enter Tryz.func84, Tryz.ntmps84
  go_wp2
  go_loop [3] (fun i => ∃ k : Nat, k ≤ s.size ∧ i = .int .i64 k ∧ Hid ((s.data.toList.take k).all prB = true)) (fun i => s.size - (intOf i).toNat)
  case atStart => exact ⟨0, Nat.zero_le _, rfl, by unfold Hid; simp⟩
  case round =>
    obtain ⟨k, hk, rfl, hp⟩ := hrel
    by_cases hlt : k < s.size
    · have HS := hid (all_take_succ prB s k hlt)
      have HA := hid (all_false prB s k hlt)
      by_cases h1 : (s[k].toNat : Int) < 32
      · go_wp2
        go_ret
        exact ⟨ret_bool (HA.out (by unfold prB; rw [decide_eq_false]; omega)).symm, rfl⟩
      · by_cases h2 : 126 < (s[k].toNat : Int)
        · go_wp2
          go_ret
          exact ⟨ret_bool (HA.out (by unfold prB; rw [decide_eq_false]; omega)).symm, rfl⟩
        · go_wp2
          go_round
          case rel => exact ⟨k + 1, by omega, by go_num, by unfold Hid; rw [HS.out, hp.out, Bool.true_and]; unfold prB; rw [decide_eq_true]; omega⟩
          case measure => simp [intOf]; omega
    · go_wp2
      go_ret
      exact ⟨ret_bool (take_all prB s k (by omega) hp.out).symm, rfl⟩

theorem f127 (s : ByteArray) (w : World) (hs : s.size ≤ maxLen) : Calls Tryz.prog 127 #[.string s] w fun e w' => e = .returned (.bool (printL s.data.toList)) ∧ w' = w := by
  unfold maxLen at hs
  go_enter Tryz.func127, Tryz.ntmps127
  go_wp2
  go_loop [6] (fun i => ∃ k : Nat, k ≤ s.size ∧ i = .int .i64 k ∧ Hid ((s.data.toList.take k).all prB = true)) (fun i => s.size - (intOf i).toNat)
  case atStart => exact ⟨0, Nat.zero_le _, rfl, by unfold Hid; simp⟩
  case round =>
    obtain ⟨k, hk, rfl, hp⟩ := hrel
    by_cases hlt : k < s.size
    · have HS := hid (all_take_succ prB s k hlt)
      have HA := hid (all_false prB s k hlt)
      by_cases h1 : (s[k].toNat : Int) < 32
      · go_wp2
        go_ret
        exact ⟨ret_bool (HA.out (by unfold prB; rw [decide_eq_false]; omega)).symm, rfl⟩
      · by_cases h2 : 126 < (s[k].toNat : Int)
        · go_wp2
          go_ret
          exact ⟨ret_bool (HA.out (by unfold prB; rw [decide_eq_false]; omega)).symm, rfl⟩
        · go_wp2
          go_round
          case rel => exact ⟨k + 1, by omega, by go_num, by unfold Hid; rw [HS.out, hp.out, Bool.true_and]; unfold prB; rw [decide_eq_true]; omega⟩
          case measure => simp [intOf]; omega
    · go_wp2
      go_ret
      exact ⟨ret_bool (take_all prB s k (by omega) hp.out).symm, rfl⟩

def sgB (z : Int) : Bool := decide (z = 42 ∨ z = 63 ∨ z = 124 ∨ z = 92)
def escL : List UInt8 → Bool
  | [] => true
  | [c] => !decide ((c.toNat : Int) = 92)
  | c :: d :: r => if (c.toNat : Int) = 92 then sgB d.toNat && escL r else escL (d :: r)
theorem esc_plain (c : UInt8) (r : List UInt8) (h : (c.toNat : Int) ≠ 92) : escL (c :: r) = escL r := by
  cases r with
  | nil => simp [escL, h]
  | cons d r => rw [escL, if_neg h]
theorem esc_end (c : UInt8) (h : (c.toNat : Int) = 92) : escL [c] = false := by simp [escL, h]
theorem esc_sign (c d : UInt8) (r : List UInt8) (h : (c.toNat : Int) = 92) : escL (c :: d :: r) = (sgB d.toNat && escL r) := by rw [escL, if_pos h]
theorem drop_str (s : ByteArray) (k : Nat) (h : k < s.size) : s.data.toList.drop k = s[k] :: s.data.toList.drop (k + 1) := by
  rw [List.drop_eq_getElem_cons (by simpa using h)]; rfl
def From (s : ByteArray) (k : Nat) : Prop := escL s.data.toList = escL (s.data.toList.drop k)
theorem From.zero (s : ByteArray) : From s 0 := rfl
theorem From.plain {s : ByteArray} {k : Nat} (h : From s k) (hk : k < s.size) (hc : (s[k].toNat : Int) ≠ 92) : From s (k + 1) := by
  unfold From at *; rw [h, drop_str s k hk, esc_plain _ _ hc]
theorem From.last {s : ByteArray} {k : Nat} (h : From s k) (hk : k < s.size) (hc : (s[k].toNat : Int) = 92) (he : k + 1 = s.size) : escL s.data.toList = false := by
  unfold From at h; rw [h, drop_str s k hk, List.drop_eq_nil_of_le (by simp; omega), esc_end _ hc]
theorem From.bad {s : ByteArray} {k : Nat} (h : From s k) (hk : k < s.size) (hc : (s[k].toNat : Int) = 92) (hk1 : k + 1 < s.size) (hs : sgB (s[k + 1].toNat : Int) = false) : escL s.data.toList = false := by
  unfold From at h; rw [h, drop_str s k hk, drop_str s (k + 1) hk1, esc_sign _ _ _ hc, hs]; rfl
theorem From.sign {s : ByteArray} {k : Nat} (h : From s k) (hk : k < s.size) (hc : (s[k].toNat : Int) = 92) (hk1 : k + 1 < s.size) (hs : sgB (s[k + 1].toNat : Int) = true) : From s (k + 1 + 1) := by
  unfold From at *; rw [h, drop_str s k hk, drop_str s (k + 1) hk1, esc_sign _ _ _ hc, hs]; rfl
theorem From.done {s : ByteArray} {k : Nat} (h : From s k) (hk : s.size ≤ k) : escL s.data.toList = true := by
  unfold From at h; rw [h, List.drop_eq_nil_of_le (by simpa using hk)]; rfl
def patB (s : ByteArray) : Bool := decide (s.size ≤ 100) && printL s.data.toList && escL s.data.toList
theorem pat_ok {s : ByteArray} {b : Bool} (h1 : s.size ≤ 100) (h2 : printL s.data.toList = true) (h3 : escL s.data.toList = b) : patB s = b := by unfold patB; rw [h2, h3]; simp [h1]
theorem pat_long {s : ByteArray} (h1 : 100 < s.size) : patB s = false := by unfold patB; rw [decide_eq_false (by omega)]; rfl
theorem pat_unprinted {s : ByteArray} (h1 : printL s.data.toList = false) : patB s = false := by unfold patB; rw [h1]; simp

theorem own_form {w : World} {base e size n : Nat} {v : Value} {xs : List Value} (h : w.ownsRow base e size v n xs) : ∃ a c, v = .slice a n c := by
  rcases h.2 with ⟨h1, h2⟩ | ⟨g, cap, cur, h1, _⟩
  · subst h2; exact ⟨none, 0, h1⟩
  · exact ⟨_, _, h1⟩
theorem own_apart {w : World} {b1 b2 e1 e2 s1 s2 n1 n2 : Nat} {v1 v2 : Value} {x1 x2 : List Value} (h1 : w.ownsRow b1 e1 s1 v1 n1 x1) (h2 : w.ownsRow b2 e2 s2 v2 n2 x2) (hne : e1 ≠ e2) : v1.ownBlock = none ∨ v1.ownBlock ≠ v2.ownBlock := by
  rcases h1.2 with ⟨rfl, _⟩ | ⟨g1, c1, cur1, rfl, _, hg1, _⟩
  · exact .inl rfl
  · refine .inr (fun e => ?_)
    rcases h2.2 with ⟨rfl, _⟩ | ⟨g2, c2, cur2, rfl, _, hg2, _⟩
    · cases e
    · simp only [Value.ownBlock, Option.some.injEq] at e
      subst e
      rw [hg1] at hg2
      simp only [Option.some.injEq, Obj.cells.injEq] at hg2
      exact hne hg2.2.1
theorem one_row (w : World) (x : Value) (t : TypeId) : ∀ j u, [x][j]? = some u → (w.alloc (.cells #[x] t)).cell? ((⟨w.heap.size, 0, none⟩ : Addr).add j) = some u := by
  intro j u hj
  have h := heap_alloc_new w (.cells #[x] t)
  match j, hj with
  | 0, hj =>
    simp at hj; subst hj
    have : (⟨w.heap.size, 0, none⟩ : Addr).add 0 = ⟨w.heap.size, 0, none⟩ := by simp [Addr.add]
    rw [this]
    unfold World.cell?
    simp only [h]
    rfl
  | j + 1, hj => simp at hj
theorem info3 : (Tryz.prog.info? 3).map (fun i => (i.zero, i.size, i.bytes)) = some (some (.int .i64 0), 1, 8) := by kernel_rfl
theorem info83 : (Tryz.prog.info? 24).map (fun i => (i.zero, i.size, i.bytes)) = some (some (.slice none 0 0), 1, 24) := by kernel_rfl
end Go.Proofs.YtjhdmghpklagkaaGreat.Pat
