/- Runs of a stably sorted list, joined: the same as putting one after another to its place, or joining it to what stands there. -/
import Derived.Test.YtailoeloonnoeaaRST
namespace Go.Proofs.Ytailoeloonnoeaa.Stb
variable {α : Type}

/-- Put behind the last one that is not greater. -/
def insR (lt : α → α → Bool) (s : α) : List α → List α
  | [] => [s]
  | x :: L => if lt s x then s :: x :: L else x :: insR lt s L
theorem insR_lt {lt : α → α → Bool} {s x : α} {L : List α} (h : lt s x = true) : insR lt s (x :: L) = s :: x :: L := by rw [insR, if_pos h]
theorem insR_ge {lt : α → α → Bool} {s x : α} {L : List α} (h : lt s x = false) : insR lt s (x :: L) = x :: insR lt s L := by rw [insR, if_neg (by simp [h])]
theorem insR_ins {lt : α → α → Bool} (O : Ord lt) (s x : α) : ∀ S, insR lt s (ins lt x S) = ins lt x (insR lt s S)
  | [] => by
    rw [show ins lt x [] = [x] from rfl, show insR lt s [] = [s] from rfl]
    cases h : lt s x with
    | true => rw [insR_lt h, ins_lt h]; rfl
    | false => rw [insR_ge h, ins_ge h]; rfl
  | y :: S => by
    cases h1 : lt y x with
    | true =>
      rw [ins_lt h1]
      cases h2 : lt s y with
      | true => rw [insR_lt h2, insR_lt h2, ins_lt (O.trans _ _ _ h2 h1), ins_lt h1]
      | false => rw [insR_ge h2, insR_ge h2, ins_lt h1, insR_ins O s x S]
    | false =>
      rw [ins_ge h1]
      cases h2 : lt s y with
      | true =>
        rw [insR_lt h2]
        cases h3 : lt s x with
        | true => rw [insR_lt h3, ins_lt h3, ins_ge h1]
        | false => rw [insR_ge h3, ins_ge h3, insR_lt h2]
      | false =>
        rw [insR_ge h2, insR_ge (O.ntrans _ _ _ h2 h1), insR_ge h2, ins_ge h1]
theorem isort_snoc {lt : α → α → Bool} (O : Ord lt) (s : α) : ∀ L : List α, isort lt (L ++ [s]) = insR lt s (isort lt L)
  | [] => rfl
  | x :: L => by rw [List.cons_append, isort, isort_snoc O s L, isort, insR_ins O]
/-- Neither is less. -/
def eqv (lt : α → α → Bool) (x y : α) : Bool := !lt x y && !lt y x
/-- The runs, joined, of what begins with x. -/
def run (lt : α → α → Bool) (f : α → α → α) : α → List α → List α
  | x, [] => [x]
  | x, y :: L => if eqv lt x y then run lt f (f x y) L else x :: run lt f y L
theorem run_eq {lt : α → α → Bool} {f : α → α → α} {x y : α} {L : List α} (h : eqv lt x y = true) : run lt f x (y :: L) = run lt f (f x y) L := by rw [run, if_pos h]
theorem run_ne {lt : α → α → Bool} {f : α → α → α} {x y : α} {L : List α} (h : eqv lt x y = false) : run lt f x (y :: L) = x :: run lt f y L := by rw [run, if_neg (by simp [h])]
def runs (lt : α → α → Bool) (f : α → α → α) : List α → List α
  | [] => []
  | x :: L => run lt f x L
/-- One put to its place, or joined to what stands there. -/
def put (lt : α → α → Bool) (f : α → α → α) (s : α) : List α → List α
  | [] => [s]
  | x :: L => if eqv lt x s then f x s :: L else if lt s x then s :: x :: L else x :: put lt f s L
theorem put_eq {lt : α → α → Bool} {f : α → α → α} {s x : α} {L : List α} (h : eqv lt x s = true) : put lt f s (x :: L) = f x s :: L := by rw [put, if_pos h]
theorem put_lt {lt : α → α → Bool} {f : α → α → α} {s x : α} {L : List α} (h : lt s x = true) : put lt f s (x :: L) = s :: x :: L := by
  rw [put, if_neg (by simp [eqv, h]), if_pos h]
theorem put_gt {lt : α → α → Bool} {f : α → α → α} {s x : α} {L : List α} (h : eqv lt x s = false) (h2 : lt s x = false) : put lt f s (x :: L) = x :: put lt f s L := by
  rw [put, if_neg (by simp [h]), if_neg (by simp [h2])]
/-- What is asked of joining: it stays where the first one stands. -/
structure Jn (lt : α → α → Bool) (f : α → α → α) : Prop where
  left : ∀ x s z, lt (f x s) z = lt x z
  right : ∀ x s z, lt z (f x s) = lt z x
theorem run_head {lt : α → α → Bool} {f : α → α → α} (J : Jn lt f) : ∀ (L : List α) (x : α), ∃ y M, run lt f x L = y :: M ∧ (∀ z, lt y z = lt x z) ∧ (∀ z, lt z y = lt z x)
  | [], x => ⟨x, [], rfl, fun _ => rfl, fun _ => rfl⟩
  | y :: L, x => by
    cases h : eqv lt x y with
    | true =>
      obtain ⟨z, M, h1, h2, h3⟩ := run_head J L (f x y)
      exact ⟨z, M, by rw [run_eq h, h1], fun u => (h2 u).trans (J.left x y u), fun u => (h3 u).trans (J.right x y u)⟩
    | false => exact ⟨x, _, run_ne h, fun _ => rfl, fun _ => rfl⟩
theorem put_run_lt {lt : α → α → Bool} {f : α → α → α} (J : Jn lt f) {s x : α} (h : lt s x = true) (L : List α) : put lt f s (run lt f x L) = s :: run lt f x L := by
  obtain ⟨y, M, h1, _, h3⟩ := run_head J L x
  rw [h1, put_lt (by rw [h3]; exact h)]
theorem eqv_lt {lt : α → α → Bool} {x y : α} (h : lt x y = true) : eqv lt x y = false := by simp [eqv, h]
theorem eqv_gt {lt : α → α → Bool} {x y : α} (h : lt y x = true) : eqv lt x y = false := by simp [eqv, h]
theorem eqv_of {lt : α → α → Bool} {x y : α} (h1 : lt x y = false) (h2 : lt y x = false) : eqv lt x y = true := by simp [eqv, h1, h2]
theorem eqv_iff {lt : α → α → Bool} {x y : α} (h : eqv lt x y = true) : lt x y = false ∧ lt y x = false := by simpa [eqv] using h
theorem run_put {lt : α → α → Bool} {f : α → α → α} (O : Ord lt) (J : Jn lt f) (s : α) : ∀ (S : List α) (x : α), Sorted lt (x :: S) → lt s x = false → run lt f x (insR lt s S) = put lt f s (run lt f x S)
  | [], x, _, h => by
    show run lt f x [s] = put lt f s [x]
    cases h1 : eqv lt x s with
    | true => rw [run_eq h1, put_eq h1]; rfl
    | false => rw [run_ne h1, put_gt h1 h]; rfl
  | y :: S, x, hs, h => by
    have hxy : lt y x = false := (List.pairwise_cons.1 hs).1 y (by simp)
    have hs2 : Sorted lt (y :: S) := (List.pairwise_cons.1 hs).2
    cases h1 : eqv lt x y with
    | true =>
      obtain ⟨e1, e2⟩ := eqv_iff h1
      have h2 : lt s y = false := O.ntrans _ _ _ h e1
      rw [insR_ge h2, run_eq h1, run_eq h1]
      refine run_put O J s S (f x y) (List.pairwise_cons.2 ⟨?_, (List.pairwise_cons.1 hs2).2⟩) (by rw [J.right]; exact h)
      intro z hz
      rw [J.right]
      exact (List.pairwise_cons.1 hs).1 z (by simp [hz])
    | false =>
      have hlt : lt x y = true := by
        cases h3 : lt x y with
        | true => rfl
        | false => rw [eqv_of h3 hxy] at h1; cases h1
      rw [run_ne h1]
      cases h2 : lt s y with
      | true =>
        rw [insR_lt h2]
        cases h3 : eqv lt x s with
        | true =>
          rw [run_eq h3, put_eq h3, run_ne (eqv_lt (by rw [J.left]; exact hlt))]
        | false =>
          rw [run_ne h3, put_gt h3 h, run_ne (eqv_lt h2), put_run_lt J h2]
      | false =>
        have h4 : lt x s = true := by
          cases h5 : lt x s with
          | true => rfl
          | false => rw [O.ntrans _ _ _ h5 h2] at hlt; cases hlt
        rw [insR_ge h2, run_ne h1, put_gt (eqv_lt h4) h, run_put O J s S y hs2 h2]
theorem runs_put {lt : α → α → Bool} {f : α → α → α} (O : Ord lt) (J : Jn lt f) (s : α) (S : List α) (hs : Sorted lt S) : runs lt f (insR lt s S) = put lt f s (runs lt f S) := by
  cases S with
  | nil => rfl
  | cons x S =>
    cases h : lt s x with
    | true =>
      rw [insR_lt h]
      show run lt f s (x :: S) = put lt f s (run lt f x S)
      rw [run_ne (eqv_lt h), put_run_lt J h]
    | false => rw [insR_ge h]; exact run_put O J s S x hs h
/-- One after another. -/
def puts (lt : α → α → Bool) (f : α → α → α) (A B : List α) : List α := B.foldl (fun o s => put lt f s o) A
theorem puts_nil (lt : α → α → Bool) (f : α → α → α) (A : List α) : puts lt f A [] = A := rfl
theorem puts_snoc (lt : α → α → Bool) (f : α → α → α) (A B : List α) (s : α) : puts lt f A (B ++ [s]) = put lt f s (puts lt f A B) := by simp [puts]
theorem puts_append (lt : α → α → Bool) (f : α → α → α) (A B C : List α) : puts lt f A (B ++ C) = puts lt f (puts lt f A B) C := by simp [puts]
/-- The runs of the sorted list are what comes of putting one after another. -/
theorem runs_isort {lt : α → α → Bool} {f : α → α → α} (O : Ord lt) (J : Jn lt f) (L : List α) : runs lt f (isort lt L) = puts lt f [] L := by
  suffices h : ∀ R : List α, runs lt f (isort lt R.reverse) = puts lt f [] R.reverse by simpa using h L.reverse
  intro R
  induction R with
  | nil => rfl
  | cons s R ih => rw [List.reverse_cons, isort_snoc O, runs_put O J s _ (isort_is_sorted O _), ih, puts_snoc]
/-- Rising strictly. -/
def Rise (lt : α → α → Bool) (L : List α) : Prop := L.Pairwise (fun x y => lt x y = true)
theorem put_last {lt : α → α → Bool} {f : α → α → α} (O : Ord lt) (s : α) : ∀ A : List α, (∀ x ∈ A, lt x s = true) → put lt f s A = A ++ [s]
  | [], _ => rfl
  | x :: A, h => by
    have h1 := h x (by simp)
    rw [put_gt (eqv_lt h1) (O.asym _ _ h1), put_last O s A (fun y hy => h y (by simp [hy]))]
    rfl
theorem puts_rise {lt : α → α → Bool} {f : α → α → α} (O : Ord lt) (L : List α) (h : Rise lt L) : puts lt f [] L = L := by
  suffices h' : ∀ R : List α, Rise lt R.reverse → puts lt f [] R.reverse = R.reverse by simpa using h' L.reverse (by simpa using h)
  clear h
  intro R
  induction R with
  | nil => intro _; rfl
  | cons s R ih =>
    intro h
    rw [List.reverse_cons] at h ⊢
    have h2 := List.pairwise_append.1 h
    rw [puts_snoc, ih h2.1, put_last O s _ (fun x hx => h2.2.2 x hx s (by simp))]
/-- Two rising lists, one behind the other, sorted and joined: the second put into the first. -/
theorem runs_two {lt : α → α → Bool} {f : α → α → α} (O : Ord lt) (J : Jn lt f) (A B : List α) (h : Rise lt A) : runs lt f (isort lt (A ++ B)) = puts lt f A B := by
  rw [runs_isort O J, puts_append, puts_rise O A h]
/-- The runs as a loop makes them: the last one joined, or one more. -/
def upd (lt : α → α → Bool) (f : α → α → α) (o : List α) (s : α) : List α :=
  match o.getLast? with
  | none => [s]
  | some x => if eqv lt x s then o.dropLast ++ [f x s] else o ++ [s]
theorem upd_nil (lt : α → α → Bool) (f : α → α → α) (s : α) : upd lt f [] s = [s] := rfl
theorem upd_eq {lt : α → α → Bool} {f : α → α → α} {o : List α} {x s : α} (h : eqv lt x s = true) : upd lt f (o ++ [x]) s = o ++ [f x s] := by
  simp [upd, h]
theorem upd_ne {lt : α → α → Bool} {f : α → α → α} {o : List α} {x s : α} (h : eqv lt x s = false) : upd lt f (o ++ [x]) s = o ++ [x] ++ [s] := by
  simp [upd, h]
theorem foldl_run (lt : α → α → Bool) (f : α → α → α) : ∀ (L : List α) (o : List α) (x : α), L.foldl (upd lt f) (o ++ [x]) = o ++ run lt f x L
  | [], _, _ => rfl
  | y :: L, o, x => by
    rw [List.foldl_cons]
    cases h : eqv lt x y with
    | true => rw [upd_eq h, foldl_run lt f L o, run_eq h]
    | false => rw [upd_ne h, foldl_run lt f L (o ++ [x]) y, run_ne h]; simp
theorem foldl_runs (lt : α → α → Bool) (f : α → α → α) (L : List α) : L.foldl (upd lt f) [] = runs lt f L := by
  cases L with
  | nil => rfl
  | cons x L => rw [List.foldl_cons, upd_nil]; exact foldl_run lt f L [] x
theorem ins_map {β : Type} {lt : α → α → Bool} {lt' : β → β → Bool} (g : α → β) (h : ∀ x y, lt' (g x) (g y) = lt x y) (x : α) : ∀ L : List α, (ins lt x L).map g = ins lt' (g x) (L.map g)
  | [] => rfl
  | y :: L => by
    rw [List.map_cons]
    cases h1 : lt y x with
    | true => rw [ins_lt h1, ins_lt (by rw [h]; exact h1), List.map_cons, ins_map g h x L]
    | false => rw [ins_ge h1, ins_ge (by rw [h]; exact h1)]; rfl
theorem isort_map {β : Type} {lt : α → α → Bool} {lt' : β → β → Bool} (g : α → β) (h : ∀ x y, lt' (g x) (g y) = lt x y) : ∀ L : List α, (isort lt L).map g = isort lt' (L.map g)
  | [] => rfl
  | x :: L => by rw [isort, ins_map g h, isort_map g h L]; rfl
end Go.Proofs.Ytailoeloonnoeaa.Stb
