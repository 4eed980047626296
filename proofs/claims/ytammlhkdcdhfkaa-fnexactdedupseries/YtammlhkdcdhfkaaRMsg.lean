/- Lists of series merged: the program's MergeSeries. -/
import Derived.Test.YtammlhkdcdhfkaaRMsf
import Derived.Test.YtammlhkdcdhfkaaRXg
namespace Go.Proofs.Ytammlhkdcdhfkaa.Srs
open Go.RowKit
open Go.Proofs.Ytammlhkdcdhfkaa.Lab (Lb HasL cmpList)
open Go.Proofs.Ytammlhkdcdhfkaa.Smp (Sm HasS mrg In64)
open Go.Proofs.Ytammlhkdcdhfkaa.Stb (isort ltP ltQ runs run isort_mem)

theorem mrg_sub : ∀ (a b : List Sm) (p : Sm), p ∈ mrg a b → p ∈ a ∨ p ∈ b := by
  intro a
  induction a with
  | nil => intro b p h; rw [Smp.mrg_nil_left] at h; exact .inr h
  | cons x A iha =>
    intro b
    induction b with
    | nil => intro p h; rw [Smp.mrg_nil_right] at h; exact .inl h
    | cons y B ihb =>
      intro p h
      rw [Smp.mrg_cons] at h
      split at h
      · rcases List.mem_cons.1 h with h | h
        · exact .inr (by simp [h])
        · rcases ihb p h with h | h
          · exact .inl h
          · exact .inr (by simp [h])
      · split at h
        · rcases List.mem_cons.1 h with h | h
          · exact .inl (by simp [h])
          · rcases iha B p h with h | h
            · exact .inl (by simp [h])
            · exact .inr (by simp [h])
        · rcases List.mem_cons.1 h with h | h
          · exact .inl (by simp [h])
          · rcases iha (y :: B) p h with h | h
            · exact .inl (by simp [h])
            · exact .inr h
theorem fit_mem {L : List Sm} (h : Smp.Fit L) {p : Sm} (hp : p ∈ L) : In64 p.1 ∧ In64 p.2 := by
  obtain ⟨i, hi, e⟩ := List.getElem_of_mem hp
  have := h i
  rw [show L.getD i Smp.e0 = p by simp [hi, e]] at this
  exact this
theorem fit_of {L : List Sm} (h : ∀ p ∈ L, In64 p.1 ∧ In64 p.2) : Smp.Fit L := by
  intro i
  by_cases hi : i < L.length
  · rw [show L.getD i Smp.e0 = L[i] by simp [hi]]; exact h _ (List.getElem_mem hi)
  · have := Smp.fit_nil i
    rw [show L.getD i Smp.e0 = Smp.e0 by simp [List.getD_eq_getElem?_getD, List.getElem?_eq_none (show L.length ≤ i by omega)]]
    simpa using this
theorem fit_mrg {a b : List Sm} (ha : Smp.Fit a) (hb : Smp.Fit b) : Smp.Fit (mrg a b) := fit_of fun p hp => by
  rcases mrg_sub a b p hp with h | h
  · exact fit_mem ha h
  · exact fit_mem hb h
theorem run_all {P : Pl → Prop} (hj : ∀ x y, P x → P y → P (jF x y)) : ∀ (L : List Pl) (x : Pl), P x → (∀ y ∈ L, P y) → ∀ z ∈ run ltP jF x L, P z
  | [], x, hx, _, z, hz => by obtain rfl : z = x := by simpa [run] using hz
                              exact hx
  | y :: L, x, hx, hL, z, hz => by
    cases h : Stb.eqv ltP x y with
    | true =>
      rw [Stb.run_eq h] at hz
      exact run_all hj L _ (hj x y hx (hL y (by simp))) (fun u hu => hL u (by simp [hu])) z hz
    | false =>
      rw [Stb.run_ne h] at hz
      rcases List.mem_cons.1 hz with h1 | h1
      · rw [h1]; exact hx
      · exact run_all hj L y (hL y (by simp)) (fun u hu => hL u (by simp [hu])) z h1
theorem runs_all {P : Pl → Prop} (hj : ∀ x y, P x → P y → P (jF x y)) (L : List Pl) (hL : ∀ y ∈ L, P y) : ∀ z ∈ runs ltP jF L, P z := by
  cases L with
  | nil => intro z hz; cases hz
  | cons x L => exact run_all hj L x (hL x (by simp)) (fun u hu => hL u (by simp [hu]))
def qOf (p : Pl) : Q := ⟨p.1, none, 0, p.2, none, 0⟩
/-- Whether a list of series is good, wherever they lie. -/
def gdL (L : List Pl) : Bool := gdQ (L.map qOf)
theorem gdQ_pl (qs : List Q) : gdQ qs = gdL (qs.map pl) := by
  unfold gdL
  refine (gdQ_congr (n := qs.length) rfl (by simp) (fun i hi => ?_)).symm
  simp [List.getD_eq_getElem?_getD, hi, qOf, pl]
/-- What merging two lists of series gives. -/
def mgA (A B : List Pl) : List Pl := runs ltP jF (isort ltP (A ++ B))
def mgL (A B : List Pl) : List Pl := if gdL A = true ∧ gdL B = true ∧ gdL (mgA A B) = true then mgA A B else []
theorem mgL_a {A B : List Pl} (h : ¬ gdL A = true) : mgL A B = [] := if_neg fun g => h g.1
theorem mgL_b {A B : List Pl} (h : ¬ gdL B = true) : mgL A B = [] := if_neg fun g => h g.2.1
theorem mgL_o {A B : List Pl} (h : ¬ gdL (mgA A B) = true) : mgL A B = [] := if_neg fun g => h g.2.2
theorem mgL_y {A B : List Pl} (h1 : gdL A = true) (h2 : gdL B = true) (h3 : gdL (mgA A B) = true) : mgL A B = mgA A B := if_pos ⟨h1, h2, h3⟩
theorem fitq_mem {qs : List Q} (h : FitQ qs) {q : Q} (hq : q ∈ qs) : Fq q := by
  obtain ⟨i, hi, e⟩ := List.getElem_of_mem hq
  have := h i
  rw [show qs.getD i q0 = q by simp [hi, e]] at this
  exact this
theorem fitq_of {qs : List Q} (h : ∀ q ∈ qs, Fq q) : FitQ qs := by
  intro i
  by_cases hi : i < qs.length
  · exact h _ (get_mem' hi)
  · rw [show qs.getD i q0 = q0 by simp [List.getD_eq_getElem?_getD, List.getElem?_eq_none (show qs.length ≤ i by omega)]]
    exact fit_q0
theorem okq_mem {qs : List Q} (h : GoodQ qs) {q : Q} (hq : q ∈ qs) : OkQ (pl q) := by
  obtain ⟨i, hi, e⟩ := List.getElem_of_mem hq
  have := (h.2 i hi).1
  rw [show qs.getD i q0 = q by simp [hi, e]] at this
  exact this
theorem named_ne {ls : List Lb} (h : Named ls) : ls ≠ [] := by
  rintro rfl
  exact h.2 (.inr ⟨fun k hk => by simp at hk, rfl⟩)
theorem okq_jq {q : Q} (h : OkQ (pl q)) (hd : q.d = q.s.length) : JQ q :=
  ⟨named_ne h.1, h.2.2, (good_goodP h.1.1).1, (show Smp.GoodP q.s from of_decide_eq_true h.2.1).1, hd⟩
set_option maxRecDepth 10000 in
set_option maxHeartbeats 4000000 in
theorem f13 (a b : Option Addr) (n n' c c' : Nat) (qs ps : List Q) (w : World) (hn : qs.length = n) (hn' : ps.length = n') (h1 : n ≤ 1048576) (h1' : n' ≤ 1048576) (hr : HasQ w a qs) (hr' : HasQ w b ps) (hf : FitQ qs) (hf' : FitQ ps) (hz : SmlQ qs) (hz' : SmlQ ps) (hd : ∀ q ∈ qs, q.d = q.s.length) (hd' : ∀ q ∈ ps, q.d = q.s.length) (hc : a = none → c = 0) (hc' : b = none → c' = 0) :
    Calls Try.prog 13 #[.slice a n c, .slice b n' c'] w fun e w' => ∃ a' m' c'' R, e = .returned (.slice a' m' c'') ∧ OwnO w.heap.size a' m' c'' R w' ∧ R.map pl = mgL (qs.map pl) (ps.map pl) ∧ Below w.heap.size w w' := by
  have HN := hid hn
  have HN' := hid hn'
  have HR := hid hr
  have HR' := hid hr'
  have HF := hid hf
  have HF' := hid hf'
  have HZ := hid hz
  have HZ' := hid hz'
  have HD := hid hd
  have HD' := hid hd'
  have HC := hid hc
  have HC' := hid hc'
  clear hn hn' hr hr' hf hf' hz hz' hd hd' hc hc'
  go_enter Try.func13, Try.ntmps13
  go_wp2_with fail
  refine (f22 a n c qs _ HN.out (by unfold maxLen; omega) HR.out HF.out HZ.out).mono ?_
  rintro e w1 ⟨rfl, hb1⟩
  have HB1 := hid hb1
  clear hb1
  cases ga : gdQ qs with
  | false =>
    have HE := hid (mgL_a (A := qs.map pl) (B := ps.map pl) (by rw [← gdQ_pl, ga]; simp))
    go_wp2
    go_ret
    exact ⟨none, 0, 0, [], rfl, OwnO.nil _ _, HE.out.symm, HB1.out⟩
  | true =>
  go_wp2_with fail
  refine (f22 b n' c' ps _ HN'.out (by unfold maxLen; omega) (HR'.out.below HB1.out) HF'.out HZ'.out).mono ?_
  rintro e w2 ⟨rfl, hb2⟩
  have HB2 := hid (HB1.out.trans (hb2.mono HB1.out.size))
  clear hb2
  cases gb : gdQ ps with
  | false =>
    have HE := hid (mgL_b (A := qs.map pl) (B := ps.map pl) (by rw [← gdQ_pl, gb]; simp))
    go_wp2
    go_ret
    exact ⟨none, 0, 0, [], rfl, OwnO.nil _ _, HE.out.symm, HB2.out⟩
  | true =>
  have HGa := hid (gdQ_iff.1 ga)
  have HGb := hid (gdQ_iff.1 gb)
  have HPa := hid (show gdL (qs.map pl) = true by rw [← gdQ_pl]; exact ga)
  have HPb := hid (show gdL (ps.map pl) = true by rw [← gdQ_pl]; exact gb)
  clear ga gb
  have hA := (Below.refl w2.heap.size w2).alloc (Nat.le_refl _) (.cells #[.slice a n c, .slice b n' c'] 24)
  have HBx := hid (heap_alloc_new w2 (.cells #[.slice a n c, .slice b n' c'] 24))
  have HBA := hid (HB2.out.trans (hA.mono HB2.out.size))
  have HPc : Hid (Pcs (w2.alloc (.cells #[.slice a n c, .slice b n' c'] 24)) w2.heap.size [(.slice a n c, qs), (.slice b n' c', ps)]) := by
    intro i hi
    have t := two HBx.out
    match i, hi with
    | 0, _ => exact ⟨t.1, by have := Src.of (c := c) (HR.out.below HBA.out) HC.out; rw [HN.out] at this; exact this⟩
    | 1, _ => exact ⟨t.2, by have := Src.of (c := c') (HR'.out.below HBA.out) HC'.out; rw [HN'.out] at this; exact this⟩
  have HJ := hid (f36 w2.heap.size 2 [(.slice a n c, qs), (.slice b n' c', ps)] _ HPc.out (by simp) (by have := HGa.out.1; have := HGb.out.1; simp [joined]; omega) (fun q hq => by
    rcases (show q ∈ qs ∨ q ∈ ps by simpa [joined] using hq) with h | h
    · obtain ⟨i, hi, e⟩ := List.getElem_of_mem h
      obtain ⟨_, _, _, _, _, _, t1, t2⟩ := (HR.out.below HBA.out).at2 i hi
      rw [show qs.getD i q0 = q by simp [hi, e]] at t1 t2
      exact ⟨okq_jq (okq_mem HGa.out h) (HD.out q h), t1, t2⟩
    · obtain ⟨i, hi, e⟩ := List.getElem_of_mem h
      obtain ⟨_, _, _, _, _, _, t1, t2⟩ := (HR'.out.below HBA.out).at2 i hi
      rw [show ps.getD i q0 = q by simp [hi, e]] at t1 t2
      exact ⟨okq_jq (okq_mem HGb.out h) (HD'.out q h), t1, t2⟩))
  clear hA HPc HBx
  go_wp2_with fail
  refine HJ.out.mono ?_
  rintro e w3 ⟨a3, m3, c3, R, rfl, ho3, hR, ⟨hm3, hq3⟩, hb3⟩
  have HB3 := hid (HBA.out.trans (hb3.mono HBA.out.size))
  have HO3 : Hid (OwnO w.heap.size a3 m3 c3 R w3) := ho3.base HBA.out.size
  have HM : Hid (R.map pl = mgA (qs.map pl) (ps.map pl)) := by
    unfold Hid mgA
    rw [hR]
    simp [joined]
  have HFR : Hid (FitQ R) := fitq_of fun q hq => by
    have hall := runs_all (P := fun x => Lab.Fit x.1 ∧ Smp.Fit x.2) (fun x y hx hy => ⟨hx.1, fit_mrg hx.2 hy.2⟩) (isort ltP (qs.map pl ++ ps.map pl)) (fun y hy => by
      rcases List.mem_append.1 (isort_mem.1 hy) with h | h
      · obtain ⟨x, hx, rfl⟩ := List.mem_map.1 h
        exact ⟨(fitq_mem HF.out hx).1, (fitq_mem HF.out hx).2.2.1⟩
      · obtain ⟨x, hx, rfl⟩ := List.mem_map.1 h
        exact ⟨(fitq_mem HF'.out hx).1, (fitq_mem HF'.out hx).2.2.1⟩) (pl q) (by have : pl q ∈ R.map pl := List.mem_map_of_mem hq; rw [HM.out] at this; exact this)
    have := hq3 q hq
    exact ⟨hall.1, by unfold maxLen; omega, hall.2, by unfold maxLen; omega⟩
  have HSR : Hid (SmlQ R) := fun i hi => by have := hq3 _ (get_mem' hi); exact ⟨by omega, by omega⟩
  clear ho3 hR hq3 hb3 HJ
  go_wp2_with fail
  refine (f22 a3 m3 c3 R _ HO3.out.len (by unfold maxLen; omega) HO3.out.has HFR.out HSR.out).mono ?_
  rintro e w4 ⟨rfl, hb4⟩
  have HB4 := hid (HB3.out.trans (hb4.mono HB3.out.size))
  have HO4 := hid (HO3.out.below hb4)
  clear hb4
  cases gc : gdQ R with
  | false =>
    have HE := hid (mgL_o (A := qs.map pl) (B := ps.map pl) (by rw [← HM.out, ← gdQ_pl, gc]; simp))
    go_wp2
    go_ret
    exact ⟨none, 0, 0, [], rfl, OwnO.nil _ _, HE.out.symm, HB4.out⟩
  | true =>
    have HE := hid (mgL_y HPa.out HPb.out (by rw [← HM.out, ← gdQ_pl]; exact gc))
    go_wp2
    go_ret
    exact ⟨a3, m3, c3, R, rfl, HO4.out, HM.out.trans HE.out.symm, HB4.out⟩
end Go.Proofs.Ytammlhkdcdhfkaa.Srs
