/- The order of series by their labels; the comparison that the sort is handed. -/
import Derived.Test.YtailoeloonnoeaaRSth
import Derived.Test.YtailoeloonnoeaaRMsa
import Derived.Test.YtailoeloonnoeaaRXg
namespace Go.Proofs.Ytailoeloonnoeaa.Stb
open Go.RowKit
open Go.Proofs.Ytailoeloonnoeaa.Lab (Lb HasL cmpList cmpL cmpN cmpV orC cb_trans cb_zero cb_self cb_neg cmpN_zero cmpN_eq cmpN_trans)
open Go.Proofs.Ytailoeloonnoeaa.Smp (Sm HasS)
open Go.Proofs.Ytailoeloonnoeaa.Srs (Q HasQ agQ pl q0 Pl)

theorem orC_neg {x y : Int} : orC x y < 0 ↔ x < 0 ∨ (x = 0 ∧ y < 0) := by unfold orC; split <;> omega
theorem orC_zero {x y : Int} : orC x y = 0 ↔ x = 0 ∧ y = 0 := by unfold orC; split <;> omega
theorem cmpV_zero {p q : Lb} (h : cmpV p q = 0) : p.2 = q.2 := ByteArray.ext (Array.toList_inj.1 (cb_zero _ _ h))
theorem cmpL_zero {p q : Lb} (h : cmpL p q = 0) : p = q := by
  obtain ⟨h1, h2⟩ := orC_zero.1 h
  exact Prod.ext (cmpN_zero h1) (cmpV_zero h2)
theorem cmpL_self (p : Lb) : cmpL p p = 0 := orC_zero.2 ⟨cmpN_eq rfl, cb_self _⟩
theorem cmpN_congr {p q r : Lb} (h : p.1 = q.1) : cmpN p r = cmpN q r := by unfold cmpN; rw [h]
theorem cmpN_congr' {p q r : Lb} (h : p.1 = q.1) : cmpN r p = cmpN r q := by unfold cmpN; rw [h]
theorem cmpL_trans {p q r : Lb} (h1 : cmpL p q < 0) (h2 : cmpL q r < 0) : cmpL p r < 0 := by
  rcases orC_neg.1 h1 with a | ⟨a, a'⟩
  · rcases orC_neg.1 h2 with b | ⟨b, _⟩
    · exact orC_neg.2 (.inl (cmpN_trans a b))
    · exact orC_neg.2 (.inl (by rw [← cmpN_congr' (cmpN_zero b)]; exact a))
  · rcases orC_neg.1 h2 with b | ⟨b, b'⟩
    · exact orC_neg.2 (.inl (by rw [cmpN_congr (cmpN_zero a)]; exact b))
    · exact orC_neg.2 (.inr ⟨cmpN_eq ((cmpN_zero a).trans (cmpN_zero b)), cb_trans _ _ _ a' b'⟩)
theorem lst_zero : ∀ {a b : List Lb}, cmpList a b = 0 → a = b := by
  intro a
  induction a with
  | nil => intro b h; cases b with
    | nil => rfl
    | cons y b => simp [cmpList] at h
  | cons x a ih => intro b h; cases b with
    | nil => simp [cmpList] at h
    | cons y b =>
      obtain ⟨h1, h2⟩ := orC_zero.1 h
      rw [cmpL_zero h1, ih h2]
theorem lst_self (a : List Lb) : cmpList a a = 0 := by
  induction a with
  | nil => rfl
  | cons x a ih => exact orC_zero.2 ⟨cmpL_self x, ih⟩
theorem lst_trans : ∀ {a b c : List Lb}, cmpList a b < 0 → cmpList b c < 0 → cmpList a c < 0 := by
  intro a
  induction a with
  | nil => intro b c h1 h2; cases b with
    | nil => exact h2
    | cons y b => cases c with
      | nil => simp [cmpList] at h2
      | cons z c => simp [cmpList]
  | cons x a ih => intro b c h1 h2; cases b with
    | nil => simp [cmpList] at h1
    | cons y b => cases c with
      | nil => simp [cmpList] at h2
      | cons z c =>
        rcases orC_neg.1 h1 with p | ⟨p, p'⟩
        · rcases orC_neg.1 h2 with q | ⟨q, _⟩
          · exact orC_neg.2 (.inl (cmpL_trans p q))
          · exact orC_neg.2 (.inl (by rw [← cmpL_zero q]; exact p))
        · rcases orC_neg.1 h2 with q | ⟨q, q'⟩
          · exact orC_neg.2 (.inl (by rw [cmpL_zero p]; exact q))
          · exact orC_neg.2 (.inr ⟨by rw [cmpL_zero p]; exact q, ih p' q'⟩)
theorem cmpL_neg (p q : Lb) : cmpL q p = - cmpL p q := by
  unfold cmpL cmpN cmpV orC
  rw [cb_neg p.1.data.toList q.1.data.toList, cb_neg p.2.data.toList q.2.data.toList]
  split <;> split <;> omega
theorem lst_neg : ∀ a b : List Lb, cmpList b a = - cmpList a b
  | [], [] => rfl
  | [], _ :: _ => rfl
  | _ :: _, [] => rfl
  | p :: a, q :: b => by
    show orC (cmpL q p) (cmpList b a) = - orC (cmpL p q) (cmpList a b)
    rw [cmpL_neg p q, lst_neg a b]
    unfold orC
    split <;> split <;> omega
/-- Less by the labels: of what series are, and of series that lie somewhere. -/
def ltP (x y : Pl) : Bool := decide (cmpList x.1 y.1 < 0)
def ltQ (x y : Q) : Bool := decide (cmpList x.l y.l < 0)
theorem ord_of {α : Type} (k : α → List Lb) : Ord (fun x y => decide (cmpList (k x) (k y) < 0)) where
  asym x y h := by
    have h := of_decide_eq_true h
    have := lst_neg (k x) (k y)
    exact decide_eq_false (by omega)
  trans x y z h1 h2 := decide_eq_true (lst_trans (of_decide_eq_true h1) (of_decide_eq_true h2))
  ntrans x y z h1 h2 := by
    have h1 := of_decide_eq_false h1
    have h2 := of_decide_eq_false h2
    refine decide_eq_false fun h3 => ?_
    have e1 := lst_neg (k x) (k y)
    have e2 := lst_neg (k y) (k z)
    by_cases z1 : cmpList (k x) (k y) = 0
    · rw [lst_zero z1] at h3; exact h2 h3
    · have := lst_trans (a := k y) (b := k x) (c := k z) (by omega) h3
      exact h2 this
theorem ordP : Ord ltP := ord_of (fun x : Pl => x.1)
theorem ordQ : Ord ltQ := ord_of (fun x : Q => x.l)
theorem eqvP {x y : Pl} : eqv ltP x y = decide (cmpList x.1 y.1 = 0) := by
  have := lst_neg x.1 y.1
  unfold eqv ltP
  by_cases h : cmpList x.1 y.1 = 0
  · rw [h] at this; simp [h, this]
  · by_cases h2 : cmpList x.1 y.1 < 0
    · simp [h, h2]
    · have h3 : cmpList y.1 x.1 < 0 := by omega
      simp [h, h3]
theorem jnP (f : List Sm → List Sm → List Sm) : Jn ltP (fun x y => (x.1, f x.2 y.2)) := ⟨fun _ _ _ => rfl, fun _ _ _ => rfl⟩
/-- The sort of series that lie somewhere is the sort of what they are. -/
theorem isortQ (L : List Q) : (isort ltQ L).map pl = isort ltP (L.map pl) := isort_map (lt := ltQ) (lt' := ltP) pl (fun _ _ => rfl) L
abbrev slQ (q : Q) : (Option Addr × Nat × Nat) × (Option Addr × Nat × Nat) := ((q.a, q.l.length, q.c), (q.b, q.s.length, q.d))
theorem flat_two (L : List Q) : flat2 (encS slQ) L = Srs.flat L := rfl
def offA (a : Option Addr) (g : Nat) : Prop := ∀ p, a = some p → p.block ≠ g
theorem hasL_grown {w w' : World} {a : Option Addr} {ls : List Lb} {g : Nat} (h : HasL w a ls) (hg : w.grownBy w' (some g)) (ho : offA a g) : HasL w' a ls := by
  rcases h with h | ⟨b, off, h1, h2, h3⟩
  · exact .inl h
  · have hne : b ≠ g := ho _ h1
    have hb : w'.heap[b]? = w.heap[b]? := hg.block b h2 (by intro e; cases e; exact hne rfl)
    exact .inr ⟨b, off, h1, Nat.lt_of_lt_of_le h2 hg.size, fun i hi => ⟨(World.cell?_of_block (by exact hb)).trans (h3 i hi).1, (World.cell?_of_block (by exact hb)).trans (h3 i hi).2⟩⟩
theorem hasS_grown {w w' : World} {a : Option Addr} {ls : List Sm} {g : Nat} (h : HasS w a ls) (hg : w.grownBy w' (some g)) (ho : offA a g) : HasS w' a ls := by
  rcases h with h | ⟨b, off, h1, h2, h3⟩
  · exact .inl h
  · have hne : b ≠ g := ho _ h1
    have hb : w'.heap[b]? = w.heap[b]? := hg.block b h2 (by intro e; cases e; exact hne rfl)
    exact .inr ⟨b, off, h1, Nat.lt_of_lt_of_le h2 hg.size, fun i hi => ⟨(World.cell?_of_block (by exact hb)).trans (h3 i hi).1, (World.cell?_of_block (by exact hb)).trans (h3 i hi).2⟩⟩
/-- The comparison of series is what the sort asks for. -/
theorem cmpOkQ (w0 : World) (g : Nat) (D : List Q) (h : ∀ x ∈ D, x.l.length ≤ 1048576 ∧ HasL w0 x.a x.l ∧ offA x.a g) : CmpOk slQ ltQ w0 g D where
  cmp W x y hx hy hg := by
    obtain ⟨n1, h1, o1⟩ := h x hx
    obtain ⟨n2, h2, o2⟩ := h y hy
    refine (Srs.f24 x y W n1 n2 (hasL_grown h1 hg o1) (hasL_grown h2 hg o2)).mono ?_
    rintro e w' ⟨rfl, hb⟩
    exact ⟨_, rfl, rfl, hb⟩
end Go.Proofs.Ytailoeloonnoeaa.Stb
