/- Lists of series merged: the model's l7Merge. -/
import Derived.Test.YtailoeloonnoeaaRMsg
import Derived.Test.YtailoeloonnoeaaRMsh
import Derived.Test.YtailoeloonnoeaaRMsi
import Derived.Test.YtailoeloonnoeaaRMsj
import Derived.Test.YtailoeloonnoeaaRKk
namespace Go.Proofs.Ytailoeloonnoeaa.Srs
open Go.RowKit
open Go.Proofs.Ytailoeloonnoeaa.Lab (Lb HasL cmpList)
open Go.Proofs.Ytailoeloonnoeaa.Smp (Sm HasS mrg)
open Go.Proofs.Ytailoeloonnoeaa.Stb (ltP put puts)

/-- Series that the model can merge. -/
structure MQ (q : Q) : Prop where
  l1 : q.l ≠ []
  s1 : q.s ≠ []
  l2 : q.l.length ≤ 20
  s2 : q.s.length ≤ 2000
  lf : Lab.Fit q.l
  sf : Smp.Fit q.s
theorem drop_past {α : Type} (X Y : List α) (k : Nat) (h : Y.length ≤ k) : (X ++ Y).drop (X.length + k) = [] := List.drop_eq_nil_of_le (by simp; omega)
theorem shift_flat (A B : List Q) : ∃ x, (flat (A ++ B ++ [q0])).take ((A.length + 1) * 2) ++ flat B ++ (flat (A ++ B ++ [q0])).drop ((A.length + 1) * 2 + (flat B).length) = flat (A ++ x :: B) := by
  obtain ⟨x, C, hC, hl⟩ : ∃ x C, B ++ [q0] = x :: C ∧ C.length = B.length := by
    cases B with
    | nil => exact ⟨q0, [], rfl, rfl⟩
    | cons y B => exact ⟨y, B ++ [q0], rfl, by simp⟩
  refine ⟨x, ?_⟩
  rw [List.append_assoc A B [q0], hC, show A ++ x :: C = (A ++ [x]) ++ C by simp, flat_append (A ++ [x]) C]
  have e1 : (flat (A ++ [x])).length = (A.length + 1) * 2 := by rw [flat_len]; simp
  rw [← e1, List.take_left, drop_past (flat (A ++ [x])) (flat C) (flat B).length (by rw [flat_len, flat_len, hl]; exact Nat.le_refl _), show A ++ x :: B = (A ++ [x]) ++ B by simp, flat_append (A ++ [x]) B, List.append_nil]
theorem own_addr {w : World} {X e z n c g : Nat} {a : Option Addr} {xs : List Value} (h : w.ownsRow X e z (.slice a n c) n xs) (hg : (Value.slice a n c).ownBlock = some g) : a = some ⟨g, 0, none⟩ := by
  rcases h.2 with ⟨h4, _⟩ | ⟨g', cap, cur, h4, _⟩
  · simp only [Value.slice.injEq] at h4; rw [h4.1] at hg; cases hg
  · simp only [Value.slice.injEq] at h4
    rw [h4.1] at hg
    have : g' = g := Option.some.inj hg
    rw [this] at h4
    exact h4.1
theorem own_cap {w : World} {X e z n c : Nat} {g : Nat} {xs : List Value} (h : w.ownsRow X e z (.slice (some ⟨g, 0, none⟩) n c) n xs) : n ≤ c := by
  rcases h.2 with ⟨h4, _⟩ | ⟨g', cap, cur, h4, _, _, h5, _⟩
  · simp at h4
  · simp only [Value.slice.injEq] at h4
    omega
theorem set_mid (A B : List Q) (x q : Q) : (A ++ x :: B).set A.length q = A ++ q :: B := by simp
/-- What is merged of the first k. -/
abbrev MR (qs ps R : List Q) (k : Nat) : Prop := R.map pl = puts ltP jF (qs.map pl) ((ps.take k).map pl) ∧ ∀ q ∈ R, q.s ≠ [] ∧ q.l.length ≤ 20 ∧ q.s.length ≤ 2000 * (k + 1) ∧ Lab.Fit q.l ∧ Smp.Fit q.s
theorem MR.step {qs ps R : List Q} {k : Nat} {q : Q} (h : MR qs ps R k) (ht : ps.take (k + 1) = ps.take k ++ [q]) : puts ltP jF (qs.map pl) ((ps.take (k + 1)).map pl) = put ltP jF (pl q) (R.map pl) := by
  rw [ht, show (ps.take k ++ [q]).map pl = (ps.take k).map pl ++ [pl q] by simp, Stb.puts_snoc, h.1]
theorem MR.join {qs ps A B : List Q} {p q p' : Q} {k : Nat} (h : MR qs ps (A ++ p :: B) k) (ht : ps.take (k + 1) = ps.take k ++ [q]) (hA : ∀ x ∈ A, cmpList x.l q.l < 0) (hc : cmpList p.l q.l = 0) (hq : MQ q) (hl : p'.l = p.l) (hs : p'.s = mrg p.s q.s) : MR qs ps (A ++ p' :: B) (k + 1) := by
  refine ⟨?_, fun x hx => ?_⟩
  · rw [MR.step h ht, show (A ++ p :: B).map pl = A.map pl ++ pl p :: B.map pl by simp, put_there (s := pl q) (x := pl p) (fun x hx => by obtain ⟨y, hy, rfl⟩ := List.mem_map.1 hx; exact hA y hy) hc, show (A ++ p' :: B).map pl = A.map pl ++ pl p' :: B.map pl by simp]
    simp only [pl, jF, hl, hs]
  · rcases List.mem_append.1 hx with h1 | h1
    · have := h.2 x (by simp [h1])
      exact ⟨this.1, this.2.1, by omega, this.2.2.2⟩
    · rcases List.mem_cons.1 h1 with h1 | h1
      · have h2 := h.2 p (by simp)
        have h3 := Smp.mrg_len p.s q.s
        have h4 := hq.s2
        rw [h1]
        exact ⟨by rw [hs]; exact mrg_pos h2.1, by rw [hl]; exact h2.2.1, by rw [hs]; omega, by rw [hl]; exact h2.2.2.2.1, by rw [hs]; exact fit_mrg h2.2.2.2.2 hq.sf⟩
      · have := h.2 x (by simp [h1])
        exact ⟨this.1, this.2.1, by omega, this.2.2.2⟩
theorem MR.more {qs ps A B : List Q} {q p' : Q} {k : Nat} (h : MR qs ps (A ++ B) k) (ht : ps.take (k + 1) = ps.take k ++ [q]) (hA : ∀ x ∈ A, cmpList x.l q.l < 0) (hB : ∀ x, B.head? = some x → 0 < cmpList x.l q.l) (hq : MQ q) (he : pl p' = pl q) : MR qs ps (A ++ p' :: B) (k + 1) := by
  have hl : p'.l = q.l := congrArg Prod.fst he
  have hs : p'.s = q.s := congrArg Prod.snd he
  refine ⟨?_, fun x hx => ?_⟩
  · rw [MR.step h ht, show (A ++ B).map pl = A.map pl ++ B.map pl by simp, put_new (s := pl q) (fun x hx => by obtain ⟨y, hy, rfl⟩ := List.mem_map.1 hx; exact hA y hy) (fun x hx => by
      cases B with
      | nil => simp at hx
      | cons y B => simp at hx; rw [← hx]; exact hB y rfl), show (A ++ p' :: B).map pl = A.map pl ++ pl p' :: B.map pl by simp, he]
  · rcases List.mem_append.1 hx with h1 | h1
    · have := h.2 x (by simp [h1])
      exact ⟨this.1, this.2.1, by omega, this.2.2.2⟩
    · rcases List.mem_cons.1 h1 with h1 | h1
      · have h4 := hq.s2
        rw [h1]
        exact ⟨by rw [hs]; exact hq.s1, by rw [hl]; exact hq.l2, by rw [hs]; omega, by rw [hl]; exact hq.lf, by rw [hs]; exact hq.sf⟩
      · have := h.2 x (by simp [h1])
        exact ⟨this.1, this.2.1, by omega, this.2.2.2⟩
theorem MR.fit {qs ps R : List Q} {k : Nat} (h : MR qs ps R k) (hk : k ≤ 200) : FitQ R ∧ SmlQ R :=
  ⟨fitq_of fun q hq => by have := h.2 q hq; exact ⟨this.2.2.2.1, by unfold maxLen; omega, this.2.2.2.2, by unfold maxLen; omega⟩, fun i hi => by have := h.2 _ (get_mem' hi); exact ⟨by omega, by omega⟩⟩
theorem same_map {n : Nat} {qs R : List Q} (h1 : qs.length = n) (h2 : R.length = n) (h : Same n qs R) : R.map pl = qs.map pl := by
  apply List.ext_getElem (by simp [h1, h2])
  intro i hi hj
  have h3 : i < R.length := by simpa using hi
  have h4 : i < qs.length := by simpa using hj
  have := h i (by omega)
  simpa [h3, h4] using this
end Go.Proofs.Ytailoeloonnoeaa.Srs
