/- Merged samples: rising lists are told by what is in them. -/
import Derived.Test.YtfmijboakipooaaTl
import Derived.Test.YtfmijboakipooaaTh
namespace Go.Proofs.Ytfmijboakipooaa.Smp
open Go.RowKit

abbrev SP (l : List Sm) : Prop := l.Pairwise (fun p q => p.1 < q.1)
theorem good_iff (l : List Sm) : GoodP l ↔ l.length ≤ 2000 ∧ (∀ p ∈ l, TimeP p.1) ∧ SP l := by
  constructor
  · intro h; exact ⟨h.1, good_mem h, good_pw h⟩
  · rintro ⟨h1, h2, h3⟩
    refine ⟨h1, fun i hi => ⟨?_, fun h0 => ?_⟩⟩
    · have : l.getD i e0 = l[i] := by simp [hi]
      rw [this]; exact h2 _ (List.getElem_mem _)
    · have e1 : l.getD i e0 = l[i] := by simp [hi]
      have e2 : l.getD (i - 1) e0 = l[i - 1]'(by omega) := by simp [show i - 1 < l.length by omega]
      rw [e1, e2]
      exact (List.pairwise_iff_getElem.1 h3) (i - 1) i (by omega) hi (by omega)
theorem sp_ext : ∀ (l1 l2 : List Sm), SP l1 → SP l2 → (∀ p, p ∈ l1 ↔ p ∈ l2) → l1 = l2 := by
  intro l1
  induction l1 with
  | nil =>
    intro l2 _ _ h
    cases l2 with
    | nil => rfl
    | cons q l2 => have := (h q).2 (by simp); simp at this
  | cons p l1 ih =>
    intro l2 h1 h2 h
    cases l2 with
    | nil => have := (h p).1 (by simp); simp at this
    | cons q l2 =>
      rw [SP, List.pairwise_cons] at h1 h2
      have e : p = q := by
        have hp := (h p).1 (by simp)
        have hq := (h q).2 (by simp)
        rcases List.mem_cons.1 hp with e | hp
        · exact e
        · rcases List.mem_cons.1 hq with e | hq
          · exact e.symm
          · have := h2.1 p hp; have := h1.1 q hq; omega
      subst e
      congr 1
      refine ih l2 h1.2 h2.2 fun r => ⟨fun hr => ?_, fun hr => ?_⟩
      · rcases List.mem_cons.1 ((h r).1 (by simp [hr])) with e | hr'
        · subst e; have := h1.1 r hr; omega
        · exact hr'
      · rcases List.mem_cons.1 ((h r).2 (by simp [hr])) with e | hr'
        · subst e; have := h2.1 r hr; omega
        · exact hr'
theorem mrg_mem : ∀ (a b : List Sm), SP a → SP b → ∀ p, p ∈ mrg a b ↔ p ∈ a ∨ (p ∈ b ∧ ∀ q ∈ a, q.1 ≠ p.1) := by
  intro a
  induction a with
  | nil => intro b _ _ p; rw [mrg_nil_left]; simp
  | cons x A iha =>
    intro b
    induction b with
    | nil => intro _ _ p; rw [mrg_nil_right]; simp
    | cons y B ihb =>
      intro ha hb p
      have ha' := List.pairwise_cons.1 ha
      have hb' := List.pairwise_cons.1 hb
      rw [mrg_cons]
      split
      · rename_i h1
        rw [List.mem_cons, ihb ha hb'.2 p]
        constructor
        · rintro (h | h | h)
          · subst h
            refine .inr ⟨by simp, fun q hq => ?_⟩
            rcases List.mem_cons.1 hq with e | hq
            · subst e; omega
            · have := ha'.1 q hq; omega
          · exact .inl h
          · exact .inr ⟨by simp [h.1], h.2⟩
        · rintro (h | ⟨h, h2⟩)
          · exact .inr (.inl h)
          · rcases List.mem_cons.1 h with e | h
            · exact .inl e
            · exact .inr (.inr ⟨h, h2⟩)
      · rename_i h1
        split
        · rename_i h2
          rw [List.mem_cons, iha B ha'.2 hb'.2 p]
          constructor
          · rintro (h | h | h)
            · exact .inl (by simp [h])
            · exact .inl (by simp [h])
            · refine .inr ⟨by simp [h.1], fun q hq => ?_⟩
              rcases List.mem_cons.1 hq with e | hq
              · subst e; have := hb'.1 p h.1; omega
              · exact h.2 q hq
          · rintro (h | ⟨h, h3⟩)
            · rcases List.mem_cons.1 h with e | h
              · exact .inl e
              · exact .inr (.inl h)
            · rcases List.mem_cons.1 h with e | h
              · subst e; exact absurd h2 (h3 x (by simp))
              · exact .inr (.inr ⟨h, fun q hq => h3 q (by simp [hq])⟩)
        · rename_i h2
          rw [List.mem_cons, iha (y :: B) ha'.2 hb p]
          constructor
          · rintro (h | h | h)
            · exact .inl (by simp [h])
            · exact .inl (by simp [h])
            · refine .inr ⟨h.1, fun q hq => ?_⟩
              rcases List.mem_cons.1 hq with e | hq
              · subst e
                rcases List.mem_cons.1 h.1 with e | h3
                · subst e; omega
                · have := hb'.1 p h3; omega
              · exact h.2 q hq
          · rintro (h | ⟨h, h3⟩)
            · rcases List.mem_cons.1 h with e | h
              · exact .inl e
              · exact .inr (.inl h)
            · exact .inr (.inr ⟨h, fun q hq => h3 q (by simp [hq])⟩)
theorem mrg_sp : ∀ (a b : List Sm), SP a → SP b → SP (mrg a b) := by
  intro a
  induction a with
  | nil => intro b _ h; rw [mrg_nil_left]; exact h
  | cons x A iha =>
    intro b
    induction b with
    | nil => intro h _; rw [mrg_nil_right]; exact h
    | cons y B ihb =>
      intro ha hb
      have ha' := List.pairwise_cons.1 ha
      have hb' := List.pairwise_cons.1 hb
      rw [mrg_cons]
      split
      · rename_i h1
        refine List.pairwise_cons.2 ⟨fun p hp => ?_, ihb ha hb'.2⟩
        rcases (mrg_mem _ _ ha hb'.2 p).1 hp with h | h
        · rcases List.mem_cons.1 h with e | h
          · subst e; exact h1
          · have := ha'.1 p h; omega
        · exact hb'.1 p h.1
      · rename_i h1
        split
        · rename_i h2
          refine List.pairwise_cons.2 ⟨fun p hp => ?_, iha B ha'.2 hb'.2⟩
          rcases (mrg_mem _ _ ha'.2 hb'.2 p).1 hp with h | h
          · exact ha'.1 p h
          · have := hb'.1 p h.1; omega
        · rename_i h2
          refine List.pairwise_cons.2 ⟨fun p hp => ?_, iha (y :: B) ha'.2 hb⟩
          rcases (mrg_mem _ _ ha'.2 hb p).1 hp with h | h
          · exact ha'.1 p h
          · rcases List.mem_cons.1 h.1 with e | h3
            · subst e; omega
            · have := hb'.1 p h3; omega
theorem mrg_ge : ∀ (a b : List Sm), a.length ≤ (mrg a b).length ∧ b.length ≤ (mrg a b).length := by
  intro a
  induction a with
  | nil => intro b; rw [mrg_nil_left]; simp
  | cons x A iha =>
    intro b
    induction b with
    | nil => rw [mrg_nil_right]; simp
    | cons y B ihb =>
      rw [mrg_cons]
      split
      · simp at *; omega
      · split
        · have := iha B; simp at *; omega
        · have := iha (y :: B); simp at *; omega
theorem mrg_self {a : List Sm} (h : SP a) : mrg a a = a := by
  refine sp_ext _ _ (mrg_sp a a h h) h fun p => ?_
  rw [mrg_mem a a h h p]
  constructor
  · rintro (h | h)
    · exact h
    · exact h.1
  · exact .inl
theorem mrg_assoc {a b c : List Sm} (ha : SP a) (hb : SP b) (hc : SP c) : mrg (mrg a b) c = mrg a (mrg b c) := by
  refine sp_ext _ _ (mrg_sp _ _ (mrg_sp a b ha hb) hc) (mrg_sp _ _ ha (mrg_sp b c hb hc)) fun p => ?_
  rw [mrg_mem _ _ (mrg_sp a b ha hb) hc, mrg_mem _ _ ha hb, mrg_mem _ _ ha (mrg_sp b c hb hc), mrg_mem _ _ hb hc]
  constructor
  · rintro ((h | h) | ⟨h, h2⟩)
    · exact .inl h
    · exact .inr ⟨.inl h.1, h.2⟩
    · have h3 : ∀ q ∈ a, q.1 ≠ p.1 := fun q hq => h2 q ((mrg_mem a b ha hb q).2 (.inl hq))
      refine .inr ⟨.inr ⟨h, fun q hq => ?_⟩, h3⟩
      intro e
      by_cases h4 : ∀ r ∈ a, r.1 ≠ q.1
      · exact h2 q ((mrg_mem a b ha hb q).2 (.inr ⟨hq, h4⟩)) e
      · obtain ⟨r, hr, hrq⟩ : ∃ r ∈ a, r.1 = q.1 := by
          refine Classical.byContradiction fun hn => h4 fun r hr e => hn ⟨r, hr, e⟩
        exact h3 r hr (hrq.trans e)
  · rintro (h | ⟨h | h, h2⟩)
    · exact .inl (.inl h)
    · exact .inl (.inr ⟨h, h2⟩)
    · refine .inr ⟨h.1, fun q hq => ?_⟩
      rcases (mrg_mem a b ha hb q).1 hq with h3 | h3
      · exact h2 q h3
      · exact h.2 q h3.1
theorem cut_one {l : List Sm} (h : SP l) {s : Sm} (hs : s ∈ l) : cut l s.1 s.1 = [s] := by
  refine sp_ext _ _ (h.filter _) (List.pairwise_singleton _ _) fun p => ?_
  unfold cut
  rw [List.mem_filter, List.mem_singleton]
  constructor
  · rintro ⟨hp, h2⟩
    simp at h2
    have e : p.1 = s.1 := by omega
    obtain ⟨i, hi, rfl⟩ := List.mem_iff_getElem.1 hp
    obtain ⟨j, hj, rfl⟩ := List.mem_iff_getElem.1 hs
    rcases Nat.lt_trichotomy i j with hij | hij | hij
    · have := (List.pairwise_iff_getElem.1 h) i j hi hj hij; omega
    · subst hij; rfl
    · have := (List.pairwise_iff_getElem.1 h) j i hj hi hij; omega
  · rintro rfl; exact ⟨hs, by simp⟩
theorem cut_none {l : List Sm} {t : Int} (h : ∀ q ∈ l, q.1 ≠ t) : cut l t t = [] := by
  unfold cut
  rw [List.filter_eq_nil_iff]
  intro q hq
  have := h q hq
  simp; omega
theorem mrg_good {a b : List Sm} (ha : GoodP a) (hb : GoodP b) (h : a.length + b.length ≤ 2000) : GoodP (mrg a b) := by
  rw [good_iff] at ha hb ⊢
  refine ⟨Nat.le_trans (mrg_len a b) h, fun p hp => ?_, mrg_sp _ _ ha.2.2 hb.2.2⟩
  rcases (mrg_mem _ _ ha.2.2 hb.2.2 p).1 hp with h | h
  · exact ha.2.1 p h
  · exact hb.2.1 p h.1
end Go.Proofs.Ytfmijboakipooaa.Smp
