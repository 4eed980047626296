/- Values: rising texts, one put in after the other, or sorted and each told once: plain facts. -/
import Derived.Test.YtnhikdlhjdjmdaaCb
import Derived.Lib.SlicesCompact
namespace Go.Proofs.Ytnhikdlhjdjmdaa.Val
open Go.Lib

/-- Texts compared, as lists of bytes. -/
abbrev Tx := List UInt8
def Rise (l : List Tx) : Prop := l.Pairwise fun a b => compareBytes a b < 0
/-- A text put into rising ones. -/
def insF : List Tx → Tx → List Tx
  | [], s => [s]
  | t :: ts, s => if compareBytes t s < 0 then t :: insF ts s else if t = s then t :: ts else s :: t :: ts
theorem ins_skip : ∀ (k : Nat) (ss : List Tx) (s : Tx), (∀ i, i < k → compareBytes (ss.getD i []) s < 0) → k ≤ ss.length → insF ss s = ss.take k ++ insF (ss.drop k) s := by
  intro k
  induction k with
  | zero => intro ss s _ _; simp
  | succ k ih =>
    intro ss s h hk
    cases ss with
    | nil => simp at hk
    | cons t ts =>
      have h0 := h 0 (by omega)
      simp at h0
      rw [insF, if_pos h0, ih ts s (fun i hi => by have := h (i + 1) (by omega); simpa using this) (by simpa using hk)]
      simp
theorem ins_same {k : Nat} {ss : List Tx} {s : Tx} (h : ∀ i, i < k → compareBytes (ss.getD i []) s < 0) (hk : k < ss.length) (he : ss.getD k [] = s) : insF ss s = ss := by
  rw [ins_skip k ss s h (by omega), List.drop_eq_getElem_cons hk]
  have e : ss[k] = s := by simpa [hk] using he
  rw [insF, if_neg (by rw [e, Lab.cb_self]; omega), if_pos e]
  rw [← List.drop_eq_getElem_cons hk, List.take_append_drop]
theorem ins_new {k : Nat} {ss : List Tx} {s : Tx} (h : ∀ i, i < k → compareBytes (ss.getD i []) s < 0) (hk : k ≤ ss.length) (hn : k < ss.length → ¬ compareBytes (ss.getD k []) s < 0 ∧ ss.getD k [] ≠ s) : insF ss s = ss.take k ++ s :: ss.drop k := by
  rw [ins_skip k ss s h hk]
  by_cases hl : k < ss.length
  · obtain ⟨h1, h2⟩ := hn hl
    have e : ss.getD k [] = ss[k] := by simp [hl]
    rw [e] at h1 h2
    rw [List.drop_eq_getElem_cons hl, insF, if_neg h1, if_neg h2]
  · rw [List.drop_eq_nil_of_le (by omega), insF]
theorem ins_mem (s t : Tx) : ∀ ss : List Tx, t ∈ insF ss s ↔ t ∈ ss ∨ t = s := by
  intro ss
  induction ss with
  | nil => simp [insF]
  | cons x xs ih =>
    rw [insF]
    split
    · simp only [List.mem_cons, ih, or_assoc]
    · split
      · rename_i e
        constructor
        · intro h; exact .inl h
        · rintro (h | rfl)
          · exact h
          · rw [e]; simp
      · simp only [List.mem_cons]
        constructor
        · rintro (h | h)
          · exact .inr h
          · exact .inl h
        · rintro (h | h)
          · exact .inr h
          · exact .inl h
theorem ins_rise (s : Tx) : ∀ ss : List Tx, Rise ss → Rise (insF ss s) := by
  intro ss
  induction ss with
  | nil => intro _; simp [insF, Rise]
  | cons x xs ih =>
    intro h
    unfold Rise at h ih ⊢
    obtain ⟨h1, h2⟩ := List.pairwise_cons.1 h
    rw [insF]
    split
    · rename_i hlt
      refine List.pairwise_cons.2 ⟨fun a ha => ?_, ih h2⟩
      rcases (ins_mem s a xs).1 ha with g | rfl
      · exact h1 a g
      · exact hlt
    · rename_i hge
      split
      · exact h
      · rename_i hne
        have hsx : compareBytes s x < 0 := by
          have := Lab.cb_neg x s
          by_cases e : compareBytes x s = 0
          · exact absurd (Lab.cb_zero _ _ e) hne
          · omega
        refine List.pairwise_cons.2 ⟨fun a ha => ?_, h⟩
        rcases List.mem_cons.1 ha with rfl | g
        · exact hsx
        · exact Lab.cb_trans _ _ _ hsx (h1 a g)
/-- Rising texts are told by what they have. -/
theorem rise_uniq : ∀ (A B : List Tx), Rise A → Rise B → (∀ t, t ∈ A ↔ t ∈ B) → A = B := by
  intro A
  induction A with
  | nil =>
    intro B _ _ h
    cases B with
    | nil => rfl
    | cons b B => have := (h b).2 (by simp); simp at this
  | cons a A ih =>
    intro B hA hB h
    cases B with
    | nil => have := (h a).1 (by simp); simp at this
    | cons b B =>
      obtain ⟨a1, a2⟩ := List.pairwise_cons.1 hA
      obtain ⟨b1, b2⟩ := List.pairwise_cons.1 hB
      have e : a = b := by
        rcases List.mem_cons.1 ((h a).1 (by simp)) with e | g
        · exact e
        rcases List.mem_cons.1 ((h b).2 (by simp)) with e | g'
        · exact e.symm
        have h1 := b1 a g
        have h2 := a1 b g'
        have := Lab.cb_neg a b
        omega
      subst e
      congr 1
      refine ih B a2 b2 fun t => ?_
      constructor
      · intro ht
        rcases List.mem_cons.1 ((h t).1 (List.mem_cons_of_mem _ ht)) with rfl | g
        · have := a1 t ht; rw [Lab.cb_self] at this; omega
        · exact g
      · intro ht
        rcases List.mem_cons.1 ((h t).2 (List.mem_cons_of_mem _ ht)) with rfl | g
        · have := b1 t ht; rw [Lab.cb_self] at this; omega
        · exact g
/-- The order of lists of bytes is the comparison's. -/
theorem lt_cb : ∀ (a b : Tx), a < b ↔ compareBytes a b < 0 := by
  intro a
  induction a with
  | nil =>
    intro b
    cases b with
    | nil => simp [compareBytes]
    | cons y b => simp [compareBytes]
  | cons x a ih =>
    intro b
    cases b with
    | nil => simp [compareBytes]
    | cons y b =>
      rw [List.cons_lt_cons_iff, Lab.cb_cons, ih b]
      have hxy : x < y ↔ x.toNat < y.toNat := UInt8.lt_iff_toNat_lt
      by_cases h1 : x.toNat < y.toNat
      · rw [if_pos h1]; simp [hxy.2 h1]
      · rw [if_neg h1]
        by_cases h2 : y.toNat < x.toNat
        · rw [if_pos h2]
          constructor
          · rintro (h | ⟨rfl, _⟩)
            · exact absurd (hxy.1 h) h1
            · omega
          · intro h; omega
        · rw [if_neg h2]
          have e : x = y := UInt8.toNat_inj.1 (by omega)
          subst e
          simp
theorem le_cb (a b : Tx) : a ≤ b ↔ compareBytes a b ≤ 0 := by
  rw [← List.not_lt, lt_cb]
  have := Lab.cb_neg a b
  omega
/-- What is sorted and told once each. -/
def srt (D : List Tx) : List Tx := D.mergeSort fun x y => decide (x ≤ y)
theorem srt_perm (D : List Tx) : (srt D).Perm D := List.mergeSort_perm D _
theorem srt_pair (D : List Tx) : (srt D).Pairwise fun a b => compareBytes a b ≤ 0 := by
  have := List.pairwise_mergeSort (le := fun x y : Tx => decide (x ≤ y)) (fun a b c h1 h2 => by
      have h1 := (le_cb _ _).1 (of_decide_eq_true h1)
      have h2 := (le_cb _ _).1 (of_decide_eq_true h2)
      refine decide_eq_true ((le_cb _ _).2 ?_)
      by_cases e1 : compareBytes a b = 0
      · rw [Lab.cb_zero _ _ e1]; exact h2
      · by_cases e2 : compareBytes b c = 0
        · rw [← Lab.cb_zero _ _ e2]; exact h1
        · have := Lab.cb_trans a b c (by omega) (by omega); omega) (fun a b => by
      have := Lab.cb_neg a b
      by_cases h : compareBytes a b ≤ 0
      · simp [(le_cb a b).2 h]
      · have : b ≤ a := (le_cb b a).2 (by omega)
        simp [this]) D
  exact this.imp fun h => (le_cb _ _).1 (of_decide_eq_true h)
theorem cmp_mem {d : Array Tx} (t : Tx) (ht : t ∈ d.toList) : t ∈ compactUpTo d d.size := by
  obtain ⟨j, hj, he⟩ := List.getElem_of_mem ht
  have key : ∀ j, (hj : j < d.size) → d[j] = t → t ∈ compactUpTo d d.size := by
    intro j
    induction j with
    | zero =>
      intro hj he
      unfold compactUpTo
      refine List.mem_map.2 ⟨0, List.mem_filter.2 ⟨by simpa using hj, by simp [keeps]⟩, ?_⟩
      rw [getElem!_pos d 0 hj]; exact he
    | succ j ih =>
      intro hj he
      by_cases e : d[j]'(by omega) = t
      · exact ih (by omega) e
      · unfold compactUpTo
        refine List.mem_map.2 ⟨j + 1, List.mem_filter.2 ⟨by simpa using hj, ?_⟩, ?_⟩
        · refine keeps_pos ?_
          rw [getElem!_pos d (j + 1) hj, getElem!_pos d (j + 1 - 1) (by omega), he]
          exact fun h => e h.symm
        · rw [getElem!_pos d (j + 1) hj]; exact he
  exact key j (by simpa using hj) (by simpa using he)
theorem mem_cmp {d : Array Tx} (t : Tx) (ht : t ∈ compactUpTo d d.size) : t ∈ d.toList := by
  unfold compactUpTo at ht
  obtain ⟨j, hj, rfl⟩ := List.mem_map.1 ht
  have hj' : j < d.size := by simpa using (List.mem_filter.1 hj).1
  rw [getElem!_pos d j hj']
  simp
theorem cmp_rise {d : Array Tx} (hs : d.toList.Pairwise fun a b => compareBytes a b ≤ 0) : Rise (compactUpTo d d.size) := by
  unfold Rise compactUpTo
  rw [List.pairwise_map]
  have hr : (List.range d.size).Pairwise (· < ·) := List.pairwise_lt_range
  refine (hr.filter _).imp_of_mem fun {i j} hi hj hij => ?_
  have hi' : i < d.size := by simpa using (List.mem_filter.1 hi).1
  have hj' : j < d.size := by simpa using (List.mem_filter.1 hj).1
  have hk := (List.mem_filter.1 hj).2
  have hne : d[j]! ≠ d[j - 1]! := by
    intro e
    rw [keeps_neg (by omega) e] at hk
    cases hk
  rw [getElem!_pos d j hj', getElem!_pos d (j - 1) (by omega)] at hne
  rw [getElem!_pos d i hi', getElem!_pos d j hj']
  have hp := List.pairwise_iff_getElem.1 hs
  have h1 : compareBytes (d[j - 1]'(by omega)) d[j] ≤ 0 := by have := hp (j - 1) j (by simp; omega) (by simpa using hj') (by omega); rw [Array.getElem_toList, Array.getElem_toList] at this; exact this
  have h2 : compareBytes (d[j - 1]'(by omega)) d[j] < 0 := by
    by_cases e : compareBytes (d[j - 1]'(by omega)) d[j] = 0
    · exact absurd (Lab.cb_zero _ _ e).symm hne
    · omega
  by_cases e : i = j - 1
  · subst e; exact h2
  · have h3 : compareBytes d[i] (d[j - 1]'(by omega)) ≤ 0 := by have := hp i (j - 1) (by simpa using hi') (by simp; omega) (by omega); rw [Array.getElem_toList, Array.getElem_toList] at this; exact this
    by_cases e2 : compareBytes d[i] (d[j - 1]'(by omega)) = 0
    · rw [Lab.cb_zero _ _ e2]; exact h2
    · exact Lab.cb_trans _ _ _ (by omega) h2
/-- One put in after the other. -/
def insAll (D : List Tx) : List Tx := D.foldl insF []
theorem insAll_snoc (D : List Tx) (s : Tx) : insAll (D ++ [s]) = insF (insAll D) s := by simp [insAll]
theorem insAll_ok (D : List Tx) : Rise (insAll D) ∧ ∀ t, t ∈ insAll D ↔ t ∈ D := by
  have key : ∀ (D A : List Tx), Rise A → Rise (D.foldl insF A) ∧ ∀ t, t ∈ D.foldl insF A ↔ t ∈ A ∨ t ∈ D := by
    intro D
    induction D with
    | nil => intro A h; simp [h]
    | cons s D ih =>
      intro A h
      obtain ⟨h1, h2⟩ := ih (insF A s) (ins_rise s A h)
      refine ⟨h1, fun t => ?_⟩
      rw [List.foldl_cons, h2, ins_mem, List.mem_cons, or_assoc]
  have := key D [] (by simp [Rise])
  exact ⟨this.1, fun t => by rw [show insAll D = D.foldl insF [] from rfl, this.2]; simp⟩
/-- What the model puts together is what is sorted and told once each. -/
theorem both (D : List Tx) : compactUpTo (srt D).toArray (srt D).toArray.size = insAll D := by
  obtain ⟨h1, h2⟩ := insAll_ok D
  refine rise_uniq _ _ (cmp_rise (by simpa using srt_pair D)) h1 fun t => ?_
  rw [h2 t]
  constructor
  · intro h
    have := mem_cmp t h
    exact (srt_perm D).mem_iff.1 (by simpa using this)
  · intro h
    refine cmp_mem t ?_
    simpa using (srt_perm D).mem_iff.2 h
end Go.Proofs.Ytnhikdlhjdjmdaa.Val
