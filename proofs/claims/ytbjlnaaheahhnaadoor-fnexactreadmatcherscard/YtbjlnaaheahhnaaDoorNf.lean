/- The model's reading of matchers: plain facts, l2Head. -/
import Derived.Test.YtbjlnaaheahhnaaDoorNe
import Derived.Test.YtbjlnaaheahhnaaDoorUr
namespace Go.Proofs.YtbjlnaaheahhnaaDoor.Lab
open Go.RowKit Go.Proofs.YtbjlnaaheahhnaaDoor.Str

theorem f35 (u v : ByteArray) (w : World) (_hu : u.size ≤ 1048576) (_hv : v.size ≤ 1000) : Calls Tryd.prog 35 #[.string u, .string v] w fun e w' => e = .returned (.bool (pfxU u v)) ∧ w' = w := by
  by_cases h0 : v.size ≤ u.size
  · have HE := hid (pfx_take u v)
    go_enter Tryd.func35, Tryd.ntmps35
    go_wp2
    go_ret
    exact ⟨ret_bool HE.out, rfl⟩
  · have HE := hid (pfx_short u v h0)
    go_enter Tryd.func35, Tryd.ntmps35
    go_wp2
    go_ret
    exact ⟨ret_bool HE.out.symm, rfl⟩
/-- The sign of an Op stands at the beginning, and a quote behind it. -/
def hdA (l : List UInt8) (i : Nat) : Bool := decide (l.take ((Pat.sgA i).size + 1) = (Pat.sgA i).data.toList ++ [34])
theorem hd_pfxU (s : ByteArray) (E i : Nat) : pfxU (s.extract E s.size) (Pat.sgA i ++ ⟨#[34]⟩) = hdA ((by' s).drop E) i := by
  unfold pfxU
  rw [ext_drop]
  unfold pfx hdA
  rw [ByteArray.size_append]
  have e1 : (⟨#[34]⟩ : ByteArray).size = 1 := rfl
  have e2 : (Pat.sgA i ++ (⟨#[34]⟩ : ByteArray)).data.toList = (Pat.sgA i).data.toList ++ [34] := by simp
  rw [e1, e2]
theorem sg_len (i : Nat) : (Pat.sgA i).data.toList.length = (Pat.sgA i).size := by simp
theorem hd_iff (l : List UInt8) (i : Nat) : hdA l i = true ↔ pfx l (Pat.sgA i) = true ∧ l[(Pat.sgA i).size]? = some 34 := by
  unfold hdA pfx
  have hl := sg_len i
  generalize (Pat.sgA i).data.toList = q at *
  generalize (Pat.sgA i).size = n at *
  subst hl
  simp only [decide_eq_true_eq]
  constructor
  · intro h
    have h1 := congrArg (List.take q.length) h
    have h2 := congrArg (fun x => x[q.length]?) h
    rw [List.take_take] at h1
    simp at h1 h2
    exact ⟨h1, h2⟩
  · rintro ⟨h1, h2⟩
    obtain ⟨hlt, he⟩ := List.getElem?_eq_some_iff.1 h2
    rw [List.take_succ_eq_append_getElem hlt, h1, he]
theorem sg_two {l : List UInt8} {i : Nat} (h1 : 2 ≤ i) (h4 : i ≤ 4) (h : pfx l (Pat.sgA i) = true) : (i = 2 ∧ l[0]? = some 33 ∧ l[1]? = some 61) ∨ (i = 3 ∧ l[0]? = some 61 ∧ l[1]? = some 126) ∨ (i = 4 ∧ l[0]? = some 33 ∧ l[1]? = some 126) := by
  have c : i = 2 ∨ i = 3 ∨ i = 4 := by omega
  unfold pfx at h
  have h' := of_decide_eq_true h
  rcases c with rfl | rfl | rfl
  · have a := congrArg (fun x => x[0]?) h'
    have b := congrArg (fun x => x[1]?) h'
    exact .inl ⟨rfl, by simpa [Pat.sgA, ByteArray.size] using a, by simpa [Pat.sgA, ByteArray.size] using b⟩
  · have a := congrArg (fun x => x[0]?) h'
    have b := congrArg (fun x => x[1]?) h'
    exact .inr (.inl ⟨rfl, by simpa [Pat.sgA, ByteArray.size] using a, by simpa [Pat.sgA, ByteArray.size] using b⟩)
  · have a := congrArg (fun x => x[0]?) h'
    have b := congrArg (fun x => x[1]?) h'
    exact .inr (.inr ⟨rfl, by simpa [Pat.sgA, ByteArray.size] using a, by simpa [Pat.sgA, ByteArray.size] using b⟩)
theorem sg_one {l : List UInt8} (h : hdA l 1 = true) : l[0]? = some 61 ∧ l[1]? = some 34 := by
  obtain ⟨h1, h2⟩ := (hd_iff l 1).1 h
  unfold pfx at h1
  have a := congrArg (fun x => x[0]?) (of_decide_eq_true h1)
  exact ⟨by simpa [Pat.sgA, ByteArray.size] using a, by simpa [Pat.sgA, ByteArray.size] using h2⟩
theorem hd_uniq {l : List UInt8} {i0 i : Nat} (h1 : 1 ≤ i0) (h2 : i0 < i) (h4 : i ≤ 4) (h : hdA l i0 = true) : pfx l (Pat.sgA i) = false := by
  cases hp : pfx l (Pat.sgA i) with
  | false => rfl
  | true =>
    have t := sg_two (by omega) h4 hp
    by_cases hi : i0 = 1
    · subst hi
      obtain ⟨a, b⟩ := sg_one h
      rcases t with ⟨_, t1, t2⟩ | ⟨_, t1, t2⟩ | ⟨_, t1, t2⟩
      · rw [a] at t1; simp at t1
      · rw [b] at t2; simp at t2
      · rw [a] at t1; simp at t1
    · have u := sg_two (show 2 ≤ i0 by omega) (by omega) ((hd_iff l i0).1 h).1
      rcases t with ⟨ti, t1, t2⟩ | ⟨ti, t1, t2⟩ | ⟨ti, t1, t2⟩ <;> rcases u with ⟨ui, u1, u2⟩ | ⟨ui, u1, u2⟩ | ⟨ui, u1, u2⟩
      all_goals first | omega | exact absurd (t1.symm.trans u1) (by decide) | exact absurd (t2.symm.trans u2) (by decide)
/-- What the loop over the signs has found, those above j asked. -/
def Inr (s : ByteArray) (E j : Nat) (z o : Int) (v : ByteArray) : Prop :=
  (z = -1 ∧ ∀ i, j < i → i ≤ 4 → hdA ((by' s).drop E) i = true → quo s (E + (Pat.sgA i).size) = none) ∨
  ∃ i0 k x, j < i0 ∧ i0 ≤ 4 ∧ hdA ((by' s).drop E) i0 = true ∧ quo s (E + (Pat.sgA i0).size) = some (x, k) ∧ z = ((k : Nat) : Int) ∧ o = ((i0 : Nat) : Int) ∧ v = mkS x
theorem Inr.none_ {s : ByteArray} {t : Nat} {o : Int} {v : ByteArray} {z : Int} (h : Inr s (nmE (by' s) t) 0 z o v) (hz : z = -1) : oneM s t = none := by
  rcases h with ⟨_, h⟩ | ⟨i0, k, x, _, _, _, _, hk, _⟩
  · unfold oneM
    cases ho : opA ((by' s).drop (nmE (by' s) t)) with
    | none => rfl
    | some j =>
      have hj := opA_le ho
      have hq : quo s (nmE (by' s) t + (Pat.sgA j).size) = none := by
        cases hh : hdA ((by' s).drop (nmE (by' s) t)) j with
        | true => exact h j (by omega) hj.2 hh
        | false =>
          have hp : pfx ((by' s).drop (nmE (by' s) t)) (Pat.sgA j) = true := by
            unfold opA at ho
            repeat' split at ho
            all_goals simp at ho
            all_goals (subst ho; assumption)
          unfold quo
          rw [if_neg]
          intro e
          have : hdA ((by' s).drop (nmE (by' s) t)) j = true := (hd_iff _ _).2 ⟨hp, by rw [List.getElem?_drop]; exact e⟩
          rw [hh] at this; cases this
      simp [hq]
  · omega
theorem Inr.some_ {s : ByteArray} {t : Nat} {o : Int} {v : ByteArray} {k : Nat} (h : Inr s (nmE (by' s) t) 0 (k : Int) o v) : oneM s t = some ((s.extract t (nmE (by' s) t), o, v), k) := by
  rcases h with ⟨h, _⟩ | ⟨i0, k', x, h0, h4, hh, hq, hk, rfl, rfl⟩
  · omega
  · obtain rfl : k = k' := by omega
    unfold oneM
    rw [opA_some (by omega) h4 ((hd_iff _ _).1 hh).1 (fun i h1 h2 => hd_uniq (by omega) h1 h2 hh)]
    simp [hq]
end Go.Proofs.YtbjlnaaheahhnaaDoor.Lab
