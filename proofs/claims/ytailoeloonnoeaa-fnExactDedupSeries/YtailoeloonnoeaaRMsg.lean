/- Lists of series merged: the program's MergeSeries. -/
import Derived.Test.YtailoeloonnoeaaRMsf
import Derived.Test.YtailoeloonnoeaaRXg
namespace Go.Proofs.Ytailoeloonnoeaa.Srs
open Go.RowKit
open Go.Proofs.Ytailoeloonnoeaa.Lab (Lb HasL cmpList)
open Go.Proofs.Ytailoeloonnoeaa.Smp (Sm HasS mrg In64)
open Go.Proofs.Ytailoeloonnoeaa.Stb (isort ltP ltQ runs run isort_mem)

theorem mrg_sub : ∀ (a b : List Sm) (p : Sm), p ∈ mrg a b → p ∈ a ∨ p ∈ b := by
  intro a
  induction a with
  | nil => intro b p h; rw [Smp.mrg_nil_left] at h; exact .inr h
  | cons x A iha =>
    intro b
    induction b with
    | nil => intro p h; rw [Smp.mrg_nil_right] at h; exact .inl h
    | cons y B ihb =>
      intro p h
      rw [Smp.mrg_cons] at h
      split at h
      · rcases List.mem_cons.1 h with h | h
        · exact .inr (by simp [h])
        · rcases ihb p h with h | h
          · exact .inl h
          · exact .inr (by simp [h])
      · split at h
        · rcases List.mem_cons.1 h with h | h
          · exact .inl (by simp [h])
          · rcases iha B p h with h | h
            · exact .inl (by simp [h])
            · exact .inr (by simp [h])
        · rcases List.mem_cons.1 h with h | h
          · exact .inl (by simp [h])
          · rcases iha (y :: B) p h with h | h
            · exact .inl (by simp [h])
            · exact .inr h
theorem fit_mem {L : List Sm} (h : Smp.Fit L) {p : Sm} (hp : p ∈ L) : In64 p.1 ∧ In64 p.2 := by
  obtain ⟨i, hi, e⟩ := List.getElem_of_mem hp
  have := h i
  rw [show L.getD i Smp.e0 = p by simp [hi, e]] at this
  exact this
theorem fit_of {L : List Sm} (h : ∀ p ∈ L, In64 p.1 ∧ In64 p.2) : Smp.Fit L := by
  intro i
  by_cases hi : i < L.length
  · rw [show L.getD i Smp.e0 = L[i] by simp [hi]]; exact h _ (List.getElem_mem hi)
  · have := Smp.fit_nil i
    rw [show L.getD i Smp.e0 = Smp.e0 by simp [List.getD_eq_getElem?_getD, List.getElem?_eq_none (show L.length ≤ i by omega)]]
    simpa using this
theorem fit_mrg {a b : List Sm} (ha : Smp.Fit a) (hb : Smp.Fit b) : Smp.Fit (mrg a b) := fit_of fun p hp => by
  rcases mrg_sub a b p hp with h | h
  · exact fit_mem ha h
  · exact fit_mem hb h
theorem run_all {P : Pl → Prop} (hj : ∀ x y, P x → P y → P (jF x y)) : ∀ (L : List Pl) (x : Pl), P x → (∀ y ∈ L, P y) → ∀ z ∈ run ltP jF x L, P z
  | [], x, hx, _, z, hz => by obtain rfl : z = x := by simpa [run] using hz
                              exact hx
  | y :: L, x, hx, hL, z, hz => by
    cases h : Stb.eqv ltP x y with
    | true =>
      rw [Stb.run_eq h] at hz
      exact run_all hj L _ (hj x y hx (hL y (by simp))) (fun u hu => hL u (by simp [hu])) z hz
    | false =>
      rw [Stb.run_ne h] at hz
      rcases List.mem_cons.1 hz with h1 | h1
      · rw [h1]; exact hx
      · exact run_all hj L y (hL y (by simp)) (fun u hu => hL u (by simp [hu])) z h1
theorem runs_all {P : Pl → Prop} (hj : ∀ x y, P x → P y → P (jF x y)) (L : List Pl) (hL : ∀ y ∈ L, P y) : ∀ z ∈ runs ltP jF L, P z := by
  cases L with
  | nil => intro z hz; cases hz
  | cons x L => exact run_all hj L x (hL x (by simp)) (fun u hu => hL u (by simp [hu]))
def qOf (p : Pl) : Q := ⟨p.1, none, 0, p.2, none, 0⟩
/-- Whether a list of series is good, wherever they lie. -/
def gdL (L : List Pl) : Bool := gdQ (L.map qOf)
theorem gdQ_pl (qs : List Q) : gdQ qs = gdL (qs.map pl) := by
  unfold gdL
  refine (gdQ_congr (n := qs.length) rfl (by simp) (fun i hi => ?_)).symm
  simp [List.getD_eq_getElem?_getD, hi, qOf, pl]
/-- What merging two lists of series gives. -/
def mgA (A B : List Pl) : List Pl := runs ltP jF (isort ltP (A ++ B))
def mgL (A B : List Pl) : List Pl := if gdL A = true ∧ gdL B = true ∧ gdL (mgA A B) = true then mgA A B else []
theorem mgL_a {A B : List Pl} (h : ¬ gdL A = true) : mgL A B = [] := if_neg fun g => h g.1
theorem mgL_b {A B : List Pl} (h : ¬ gdL B = true) : mgL A B = [] := if_neg fun g => h g.2.1
theorem mgL_o {A B : List Pl} (h : ¬ gdL (mgA A B) = true) : mgL A B = [] := if_neg fun g => h g.2.2
theorem mgL_y {A B : List Pl} (h1 : gdL A = true) (h2 : gdL B = true) (h3 : gdL (mgA A B) = true) : mgL A B = mgA A B := if_pos ⟨h1, h2, h3⟩
theorem fitq_mem {qs : List Q} (h : FitQ qs) {q : Q} (hq : q ∈ qs) : Fq q := by
  obtain ⟨i, hi, e⟩ := List.getElem_of_mem hq
  have := h i
  rw [show qs.getD i q0 = q by simp [hi, e]] at this
  exact this
theorem fitq_of {qs : List Q} (h : ∀ q ∈ qs, Fq q) : FitQ qs := by
  intro i
  by_cases hi : i < qs.length
  · exact h _ (get_mem' hi)
  · rw [show qs.getD i q0 = q0 by simp [List.getD_eq_getElem?_getD, List.getElem?_eq_none (show qs.length ≤ i by omega)]]
    exact fit_q0
theorem okq_mem {qs : List Q} (h : GoodQ qs) {q : Q} (hq : q ∈ qs) : OkQ (pl q) := by
  obtain ⟨i, hi, e⟩ := List.getElem_of_mem hq
  have := (h.2 i hi).1
  rw [show qs.getD i q0 = q by simp [hi, e]] at this
  exact this
theorem named_ne {ls : List Lb} (h : Named ls) : ls ≠ [] := by
  rintro rfl
  exact h.2 (.inr ⟨fun k hk => by simp at hk, rfl⟩)
theorem okq_jq {q : Q} (h : OkQ (pl q)) (hd : q.d = q.s.length) : JQ q :=
  ⟨named_ne h.1, h.2.2, (good_goodP h.1.1).1, (show Smp.GoodP q.s from of_decide_eq_true h.2.1).1, hd⟩
end Go.Proofs.Ytailoeloonnoeaa.Srs
