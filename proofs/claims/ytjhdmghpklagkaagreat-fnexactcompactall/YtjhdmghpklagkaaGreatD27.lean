/- Series put one after another, no two of one name: how long they get. -/
import Derived.Test.YtjhdmghpklagkaaGreatD24
import Derived.Test.YtjhdmghpklagkaaGreatD09
import Derived.Test.YtjhdmghpklagkaaGreatD00
import Derived.WalkKit
import Derived.ProofKit
import Derived.Below
import Derived.Laws.CopyRow
import Derived.Laws.IdiomCopy
import Derived.Laws.AppendOwn
import Derived.Deep.RegionHeld3
import Derived.Test.YtjhdmghpklagkaaGreatD20
import Derived.Test.YtjhdmghpklagkaaGreatD08
namespace Go.Proofs.YtjhdmghpklagkaaGreat.Hpl
open Go.Proofs.YtjhdmghpklagkaaGreat.Stb
open Go.Proofs.YtjhdmghpklagkaaGreat.Smp (Sm)
variable {κ : Type}
def Lim (B N : Nat) (P o : List (κ × List Sm)) : Prop := ∀ x ∈ o, x.2.length ≤ B + N ∧ ((∀ y ∈ P, y.1 ≠ x.1) → x.2.length ≤ B)
theorem put_lim {lt : κ × List Sm → κ × List Sm → Bool} {f : κ × List Sm → κ × List Sm → κ × List Sm} (hf1 : ∀ x s, (f x s).1 = x.1) (hf2 : ∀ x s, (f x s).2.length ≤ x.2.length + s.2.length) (hz : ∀ x s, eqv lt x s = true → x.1 = s.1) {B N : Nat} {P : List (κ × List Sm)} {s : κ × List Sm} (hs : s.2.length ≤ N) (hd : ∀ y ∈ P, y.1 ≠ s.1) : ∀ o : List (κ × List Sm), Lim B N P o → Lim B N (P ++ [s]) (put lt f s o)
  | [], _ => by
    intro x hx
    have : x = s := by simpa [put] using hx
    subst this
    exact ⟨by omega, fun h => absurd rfl (h x (by simp))⟩
  | x :: o, h => by
    have up : ∀ y ∈ x :: o, y.2.length ≤ B + N ∧ ((∀ z ∈ P ++ [s], z.1 ≠ y.1) → y.2.length ≤ B) := fun y hy => ⟨(h y hy).1, fun g => (h y hy).2 (fun z hzP => g z (by simp [hzP]))⟩
    have me : s.2.length ≤ B + N ∧ ((∀ z ∈ P ++ [s], z.1 ≠ s.1) → s.2.length ≤ B) := ⟨by omega, fun h => absurd rfl (h s (by simp))⟩
    unfold put
    by_cases he : eqv lt x s = true
    · rw [if_pos he]
      intro y hy
      rcases List.mem_cons.1 hy with rfl | hy
      · have hk := hz x s he
        have h1 := (h x (by simp)).2 (fun z hzP => by rw [hk]; exact hd z hzP)
        have h2 := hf2 x s
        exact ⟨by omega, fun g => absurd (hk.symm.trans (hf1 x s).symm) (g s (by simp))⟩
      · exact up y (by simp [hy])
    · rw [if_neg he]
      by_cases hl : lt s x = true
      · rw [if_pos hl]
        intro y hy
        rcases List.mem_cons.1 hy with rfl | hy
        · exact me
        · exact up y hy
      · rw [if_neg hl]
        have ih := put_lim hf1 hf2 hz hs hd o (fun y hy => h y (by simp [hy]))
        intro y hy
        rcases List.mem_cons.1 hy with rfl | hy
        · exact up y (by simp)
        · exact ih y hy
theorem puts_lim {lt : κ × List Sm → κ × List Sm → Bool} {f : κ × List Sm → κ × List Sm → κ × List Sm} (hf1 : ∀ x s, (f x s).1 = x.1) (hf2 : ∀ x s, (f x s).2.length ≤ x.2.length + s.2.length) (hz : ∀ x s, eqv lt x s = true → x.1 = s.1) {B N : Nat} : ∀ (L P o : List (κ × List Sm)), (∀ s ∈ L, s.2.length ≤ N) → (P ++ L).Pairwise (fun y s => y.1 ≠ s.1) → Lim B N P o → Lim B N (P ++ L) (puts lt f o L)
  | [], P, o, _, _, h => by rw [List.append_nil]; exact h
  | s :: L, P, o, hN, hp, h => by
    have hd : ∀ y ∈ P, y.1 ≠ s.1 := fun y hy => (List.pairwise_append.1 hp).2.2 y hy s (by simp)
    have h1 := put_lim hf1 hf2 hz (hN s (by simp)) hd o h
    have h2 := puts_lim hf1 hf2 hz L (P ++ [s]) (put lt f s o) (fun x hx => hN x (by simp [hx])) (by simpa using hp) h1
    rw [show P ++ s :: L = P ++ [s] ++ L by simp]
    exact h2
theorem puts_len {lt : κ × List Sm → κ × List Sm → Bool} {f : κ × List Sm → κ × List Sm → κ × List Sm} (hf1 : ∀ x s, (f x s).1 = x.1) (hf2 : ∀ x s, (f x s).2.length ≤ x.2.length + s.2.length) (hz : ∀ x s, eqv lt x s = true → x.1 = s.1) {B N : Nat} {o L : List (κ × List Sm)} (ho : ∀ x ∈ o, x.2.length ≤ B) (hN : ∀ s ∈ L, s.2.length ≤ N) (hp : L.Pairwise (fun y s => y.1 ≠ s.1)) : ∀ x ∈ puts lt f o L, x.2.length ≤ B + N :=
  fun x hx => (puts_lim hf1 hf2 hz L [] o hN (by simpa using hp) (fun x hx => ⟨by have := ho x hx; omega, fun _ => ho x hx⟩) x hx).1
end Go.Proofs.YtjhdmghpklagkaaGreat.Hpl
namespace Go.Proofs.YtjhdmghpklagkaaGreat.Srs
open Go.RowKit
open Go.Proofs.YtjhdmghpklagkaaGreat.Lab (Lb HasL cmpList)
open Go.Proofs.YtjhdmghpklagkaaGreat.Smp (Sm HasS mrg In64)
open Go.Proofs.YtjhdmghpklagkaaGreat.Stb (isort ltP ltQ runs run isort_mem)

theorem mrg_sub : ∀ (a b : List Sm) (p : Sm), p ∈ mrg a b → p ∈ a ∨ p ∈ b := by
  intro a
  induction a with
  | nil => intro b p h; rw [Smp.mrg_nil_left] at h; exact .inr h
  | cons x A iha =>
    intro b
    induction b with
    | nil => intro p h; rw [Smp.mrg_nil_right] at h; exact .inl h
    | cons y B ihb =>
      intro p h
      rw [Smp.mrg_cons] at h
      split at h
      · rcases List.mem_cons.1 h with h | h
        · exact .inr (by simp [h])
        · rcases ihb p h with h | h
          · exact .inl h
          · exact .inr (by simp [h])
      · split at h
        · rcases List.mem_cons.1 h with h | h
          · exact .inl (by simp [h])
          · rcases iha B p h with h | h
            · exact .inl (by simp [h])
            · exact .inr (by simp [h])
        · rcases List.mem_cons.1 h with h | h
          · exact .inl (by simp [h])
          · rcases iha (y :: B) p h with h | h
            · exact .inl (by simp [h])
            · exact .inr h
theorem fit_mem {L : List Sm} (h : Smp.Fit L) {p : Sm} (hp : p ∈ L) : In64 p.1 ∧ In64 p.2 := by
  obtain ⟨i, hi, e⟩ := List.getElem_of_mem hp
  have := h i
  rw [show L.getD i Smp.e0 = p by simp [hi, e]] at this
  exact this
theorem fit_of {L : List Sm} (h : ∀ p ∈ L, In64 p.1 ∧ In64 p.2) : Smp.Fit L := by
  intro i
  by_cases hi : i < L.length
  · rw [show L.getD i Smp.e0 = L[i] by simp [hi]]; exact h _ (List.getElem_mem hi)
  · have := Smp.fit_nil i
    rw [show L.getD i Smp.e0 = Smp.e0 by simp [List.getD_eq_getElem?_getD, List.getElem?_eq_none (show L.length ≤ i by omega)]]
    simpa using this
theorem fit_mrg {a b : List Sm} (ha : Smp.Fit a) (hb : Smp.Fit b) : Smp.Fit (mrg a b) := fit_of fun p hp => by
  rcases mrg_sub a b p hp with h | h
  · exact fit_mem ha h
  · exact fit_mem hb h
theorem run_all {P : Pl → Prop} (hj : ∀ x y, P x → P y → P (jF x y)) : ∀ (L : List Pl) (x : Pl), P x → (∀ y ∈ L, P y) → ∀ z ∈ run ltP jF x L, P z
  | [], x, hx, _, z, hz => by obtain rfl : z = x := by simpa [run] using hz
                              exact hx
  | y :: L, x, hx, hL, z, hz => by
    cases h : Stb.eqv ltP x y with
    | true =>
      rw [Stb.run_eq h] at hz
      exact run_all hj L _ (hj x y hx (hL y (by simp))) (fun u hu => hL u (by simp [hu])) z hz
    | false =>
      rw [Stb.run_ne h] at hz
      rcases List.mem_cons.1 hz with h1 | h1
      · rw [h1]; exact hx
      · exact run_all hj L y (hL y (by simp)) (fun u hu => hL u (by simp [hu])) z h1
theorem runs_all {P : Pl → Prop} (hj : ∀ x y, P x → P y → P (jF x y)) (L : List Pl) (hL : ∀ y ∈ L, P y) : ∀ z ∈ runs ltP jF L, P z := by
  cases L with
  | nil => intro z hz; cases hz
  | cons x L => exact run_all hj L x (hL x (by simp)) (fun u hu => hL u (by simp [hu]))
def qOf (p : Pl) : Q := ⟨p.1, none, 0, p.2, none, 0⟩
theorem fitq_of {qs : List Q} (h : ∀ q ∈ qs, Fq q) : FitQ qs := by
  intro i
  by_cases hi : i < qs.length
  · exact h _ (get_mem' hi)
  · rw [show qs.getD i q0 = q0 by simp [List.getD_eq_getElem?_getD, List.getElem?_eq_none (show qs.length ≤ i by omega)]]
    exact fit_q0
theorem okq_mem {qs : List Q} (h : GoodQ qs) {q : Q} (hq : q ∈ qs) : OkQ (pl q) := by
  obtain ⟨i, hi, e⟩ := List.getElem_of_mem hq
  have := (h.2 i hi).1
  rw [show qs.getD i q0 = q by simp [hi, e]] at this
  exact this
theorem named_ne {ls : List Lb} (h : Named ls) : ls ≠ [] := by
  rintro rfl
  exact h.2 (.inr ⟨fun k hk => by simp at hk, rfl⟩)
end Go.Proofs.YtjhdmghpklagkaaGreat.Srs
namespace Go.Proofs.YtjhdmghpklagkaaGreat.Cpy
open Go.RowKit

theorem run_copy_at {P : Program} (w : World) (dT sT ty elem : TypeId) (i : TypeInfo) (z : Nat) (g o k dL dC sL sC : Nat) (a : Addr) (cur : Array Value) (t : TypeId) (cs : List Value)
    (hu : P.underlying dT = some (.slice elem)) (hi : P.info? elem = some i) (hz : i.size = z) (hk : Nat.min sL dL = k)
    (hg : w.heap[g]? = some (.cells cur t (0, 0))) (hn : cs.length = k * z)
    (hsrc : ∀ j v, cs[j]? = some v → w.cell? (a.add j) = some v) (hfit : o + cs.length ≤ cur.size) (h1 : ∀ v ∈ cs, v.oneCell' = true) :
    (Builtin.copy_ #[dT, sT] ty #[.slice (some ⟨g, o, none⟩) dL dC, .slice (some a) sL sC]).run P w =
      .ok (goInt k) (w.setRow g (cur.toList.take o ++ cs ++ cur.toList.drop (o + cs.length)).toArray) := by
  have hl := run_loadCells_list (P := P) w a cs hsrc
  have hst := run_storeCells_at P g o t cs 0 cur w hg (by simpa using hfit) h1
  simp only [Nat.add_zero] at hst
  simp [Builtin.copy_, run_underlying hu, Builtin.lenOf, Builtin.firstCells, sizeOf, typeInfo, hi, hz, hk, ← hn, hl, hst]
theorem run_copy_no {P : Program} (w : World) (dT sT ty elem : TypeId) (i : TypeInfo) (dp sp : Option Addr) (dL dC sL sC : Nat)
    (hu : P.underlying dT = some (.slice elem)) (hi : P.info? elem = some i) (hk : Nat.min sL dL = 0) :
    (Builtin.copy_ #[dT, sT] ty #[.slice dp dL dC, .slice sp sL sC]).run P w = .ok (goInt 0) w := by
  cases dp <;> cases sp <;> simp [Builtin.copy_, run_underlying hu, Builtin.lenOf, Builtin.firstCells, sizeOf, typeInfo, hi, hk, storeCells, loadCells, loadCellsFrom]
theorem step_copy_in {P : Program} {ops : Array Oper} {o : Oper} {a : Act} {w : World} {K : Act → World → Prop} {Q : Exit → Act → World → Prop} {E : Prop} (hgd : o.guard = none) (d s : Operand) (dT sT : TypeId)
    (ho : o.op = .call { callee := .builtin .copy, args := #[d, s], argTypes := #[dT, sT] }) (elem : TypeId) (i : TypeInfo) (z : Nat) (hu : P.underlying dT = some (.slice elem)) (hi : P.info? elem = some i) (hz : i.size = z)
    (X g n cap : Nat) (xs : List Value) (hown : w.ownsRow X elem z (.slice (some ⟨g, 0, none⟩) n cap) n xs)
    (dp sp : Option Addr) (dL dC sL sC : Nat) (hd : a.eval d = .slice dp dL dC) (hs : a.eval s = .slice sp sL sC) (k off so : Nat) (hk : Nat.min sL dL = k) (cs : List Value) (hn : cs.length = k * z)
    (hpos : 0 < k → dp = some ⟨g, off, none⟩ ∧ sp = some ⟨g, so, none⟩) (hsrc : ∀ j v, cs[j]? = some v → xs[so + j]? = some v) (hfit : off + cs.length ≤ xs.length) (h1 : ∀ v ∈ cs, v.oneCell' = true)
    (h : ∀ w', w'.ownsRow X elem z (.slice (some ⟨g, 0, none⟩) n cap) n (xs.take off ++ cs ++ xs.drop (off + cs.length)) → w.grownBy w' (some g) → K (a.put o.dst (goInt k)) w') :
    if Region.wanted o (yielded ops a.tmps) = true then Oper.wp P o a w K Q else E := by
  have hw : Region.wanted o (yielded ops a.tmps) = true := by simp [Region.wanted, hgd]
  rw [if_pos hw]
  by_cases h0 : k = 0
  · subst h0
    obtain rfl : cs = [] := List.eq_nil_of_length_eq_zero (by simpa using hn)
    have hrun := run_copy_no (P := P) w dT sT o.type elem i dp sp dL dC sL sC hu hi hk
    unfold Oper.wp
    simp [execOp, ho, resolve, invoke, builtin, hd, hs, hrun, Result.andThen]
    exact h w (by simpa using hown) ⟨rfl, rfl, rfl, Nat.le_refl _, fun _ _ _ => rfl⟩
  · obtain ⟨rfl, rfl⟩ := hpos (by omega)
    have hcell : ∀ j v, cs[j]? = some v → w.cell? ((⟨g, so, none⟩ : Addr).add j) = some v := by
      intro j v hj
      have hx := hsrc j v hj
      have hlt := (List.getElem?_eq_some_iff.1 hx).1
      rw [Smp.add_none]
      exact (hown.cellAt (so + j) (by rw [← hown.1]; exact hlt)).trans hx
    rcases hown.2 with ⟨h', _⟩ | ⟨g', cap', cur, h', hb, hg, hnc, hcm, hcs, htake⟩
    · simp at h'
    · simp only [Value.slice.injEq, Option.some.injEq, Addr.mk.injEq, and_true, true_and] at h'
      obtain ⟨rfl, rfl⟩ := h'
      have hxl := hown.1
      have hcl : n * z ≤ cur.toList.length := by rw [Array.length_toList, hcs]; exact Nat.mul_le_mul_right _ hnc
      have hrun := run_copy_at (P := P) w dT sT o.type elem i z g off k dL dC sL sC ⟨g, so, none⟩ cur elem cs hu hi hz hk hg hn hcell (by rw [Array.length_toList] at hcl; omega) h1
      unfold Oper.wp
      simp [execOp, ho, resolve, invoke, builtin, hd, hs, hrun, Result.andThen]
      refine h _ ⟨?_, .inr ⟨g, cap, (cur.toList.take off ++ cs ++ cur.toList.drop (off + cs.length)).toArray, rfl, hb, by simpa using setRow_heap w g cur _ elem _ hg, hnc, hcm, ?_, ?_⟩⟩ ⟨rfl, rfl, rfl, by simp [World.setRow], fun k _ hk => setRow_other w g k _ (fun e => hk (by rw [e]))⟩
      · simp only [List.length_append, List.length_take, List.length_drop]; omega
      · simp only [List.size_toArray, List.length_append, List.length_take, List.length_drop]
        rw [← hcs, ← Array.length_toList]; omega
      · rw [List.toList_toArray, ← htake]
        have e1 : (cur.toList.take (n * z)).take off = cur.toList.take off := by rw [List.take_take, Nat.min_eq_left (by omega)]
        have e2 : (cur.toList.take off ++ cs).length = off + cs.length := by simp only [List.length_append, List.length_take]; omega
        rw [e1, List.take_append, e2, List.take_of_length_le (by rw [e2]; omega), List.drop_take]
end Go.Proofs.YtjhdmghpklagkaaGreat.Cpy
namespace Go.Proofs.YtjhdmghpklagkaaGreat.Srs
open Go.RowKit
open Go.Proofs.YtjhdmghpklagkaaGreat.Lab (Lb HasL cmpList)
open Go.Proofs.YtjhdmghpklagkaaGreat.Smp (Sm HasS)
open Go.Proofs.YtjhdmghpklagkaaGreat.Stb (ltP put eqv lst_neg)

abbrev lb (qs : List Q) (i : Nat) : List Lb := (qs.getD i q0).l
structure Place (qs : List Q) (l : List Lb) (lo : Nat) : Prop where
  le : lo ≤ qs.length
  less : ∀ i, i < lo → cmpList (lb qs i) l < 0
  geq : lo < qs.length → 0 ≤ cmpList (lb qs lo) l
theorem ret_tup {i : Int} {a b : Bool} (h : a = b) : Ending.returned (.tuple #[.int .i64 i, .bool a]) = .returned (.tuple #[.int .i64 i, .bool b]) := by rw [h]
set_option maxHeartbeats 2000000 in
theorem f109 (a : Option Addr) (n c : Nat) (qs : List Q) (a' : Option Addr) (c' : Nat) (l : List Lb) (w : World) (hn : qs.length = n) (hb : n ≤ 1048576) (hr : HasQ w a qs) (hf : FitQ qs) (hz : SmlQ qs) (hl : HasL w a' l) (hl1 : l.length ≤ 1048576) :
    Calls Tryz.prog 109 #[.slice a n c, .slice a' l.length c'] w fun e w' => ∃ lo : Nat, Place qs l lo ∧ e = .returned (.tuple #[.int .i64 lo, .bool (decide (lo < n ∧ cmpList (lb qs lo) l = 0))]) ∧ Below w.heap.size w w' := by
  have HN := hid hn
  have HR := hid hr
  have HF := hid hf
  have HZ := hid hz
  have HL := hid hl
  clear hn hr hf hz hl
  go_enter Tryz.func109, Tryz.ntmps109
  go_wp2
  go_loopw [11] (fun i wr => ∃ k : Nat, k ≤ n ∧ i = .int .i64 (k : Int) ∧ Hid (∀ i, i < k → cmpList (lb qs i) l < 0) ∧ Hid (Below w.heap.size w wr)) (fun i _ => n - (intOf i).toNat)
  case atStart => exact ⟨0, Nat.zero_le _, rfl, fun i hi => by omega, Below.refl _ _⟩
  case round =>
    obtain ⟨k, hk, rfl, HU, HX⟩ := hrel
    by_cases hlt : k < n
    · obtain ⟨b, off, rfl, hbl, c0, c1, t1, t2⟩ := (HR.out.below HX.out).at2 k (by rw [HN.out]; exact hlt)
      have HFq := hid (HF.out k)
      have HZq := hid (HZ.out k (by rw [HN.out]; exact hlt)).1
      obtain ⟨q, hq⟩ : ∃ q, q = qs.getD k q0 := ⟨_, rfl⟩
      rw [← hq] at c0 c1 t1 HFq HZq
      have HP : Hid (0 ≤ cmpList q.l l → Place qs l k) := fun h => ⟨by rw [HN.out]; omega, HU.out, fun _ => by rw [hq] at h; exact h⟩
      have HD : Hid (∀ r, (cmpList q.l l == 0) = r → decide (k < n ∧ cmpList (lb qs k) l = 0) = r) := by
        have e : lb qs k = q.l := by rw [hq]
        rintro r rfl
        by_cases hz : cmpList q.l l = 0
        · rw [decide_eq_true (show k < n ∧ cmpList (lb qs k) l = 0 from ⟨hlt, by rw [e]; exact hz⟩), hz]; rfl
        · rw [decide_eq_false (show ¬ (k < n ∧ cmpList (lb qs k) l = 0) from fun h => hz (by rw [← e]; exact h.2))]; symm; rw [beq_eq_false_iff_ne]; exact hz
      have HUs : Hid (cmpList q.l l < 0 → ∀ i, i < k + 1 → cmpList (lb qs i) l < 0) := by
        intro h i hi
        by_cases e : i = k
        · subst e; rw [hq] at h; exact h
        · exact HU.out i (by omega)
      clear hq
      have HB0 := hid ((Below.refl wr.heap.size wr).alloc (Nat.le_refl _) (.cells #[.slice q.a q.l.length q.c, .slice q.b q.s.length q.d] 80))
      have HT1 := hid (t1.below HB0.out)
      have i1 : (k : Int) < (n : Int) := by omega
      clear t1 t2 hbl
      go_wp2_with fail
      refine (Lab.f88 q.a a' q.l.length l.length q.c c' q.l l _ rfl rfl HZq.out hl1 HT1.out (HL.out.below (HX.out.trans (HB0.out.mono HX.out.size))) HFq.out.1).mono ?_
      rintro e w2 ⟨rfl, nq, hw2⟩
      have HX2 : Hid (Below w.heap.size w w2) := by unfold Hid; rw [hw2]; exact Lab.below_drewN (HX.out.trans (HB0.out.mono HX.out.size)) nq
      clear hw2 c0 c1
      rcases Int.lt_trichotomy (cmpList q.l l) 0 with h | h | h
      · have g1 : (cmpList q.l l == 0) = false := by rw [beq_eq_false_iff_ne]; omega
        have g2 : ¬ cmpList q.l l > 0 := by omega
        go_wp2
        go_roundw
        case rel => exact ⟨k + 1, by omega, by go_num, HUs.out h, HX2⟩
        case measure => simp [intOf]; omega
      · have g1 : (cmpList q.l l == 0) = true := by rw [h]; rfl
        have HG := hid g1
        have HH : Hid (0 ≤ cmpList q.l l) := by unfold Hid; omega
        clear h
        go_wp2
        go_ret2
        exact ⟨k, HP.out HH.out, ret_tup (HD.out _ HG.out).symm, HX2.out⟩
      · have g1 : (cmpList q.l l == 0) = false := by rw [beq_eq_false_iff_ne]; omega
        have HG := hid g1
        go_wp2
        go_ret2
        exact ⟨k, HP.out (by omega), ret_tup (HD.out _ HG.out).symm, HX2.out⟩
    · obtain rfl : k = n := by omega
      have HD : Hid (decide (k < k ∧ cmpList (lb qs k) l = 0) = false) := by unfold Hid; rw [decide_eq_false_iff_not]; intro h; omega
      have HP : Hid (Place qs l k) := ⟨by rw [HN.out]; omega, HU.out, fun h => absurd h (by rw [HN.out]; omega)⟩
      go_wp2
      go_ret2
      exact ⟨k, HP.out, ret_tup HD.out.symm, HX.out⟩

theorem eqv_no {x s : Pl} (h : ¬ cmpList x.1 s.1 = 0) : eqv ltP x s = false := by rw [Stb.eqvP]; exact decide_eq_false h
theorem eqv_yes {x s : Pl} (h : cmpList x.1 s.1 = 0) : eqv ltP x s = true := by rw [Stb.eqvP]; exact decide_eq_true h
theorem ltP_no {x s : Pl} (h : cmpList x.1 s.1 < 0) : ltP s x = false := decide_eq_false (by have := lst_neg x.1 s.1; omega)
theorem ltP_gt {x s : Pl} (h : 0 < cmpList x.1 s.1) : ltP s x = true := decide_eq_true (by have := lst_neg x.1 s.1; omega)
theorem put_less {f : Pl → Pl → Pl} {s : Pl} : ∀ (A B : List Pl), (∀ x ∈ A, cmpList x.1 s.1 < 0) → put ltP f s (A ++ B) = A ++ put ltP f s B
  | [], _, _ => rfl
  | x :: A, B, h => by
    have h1 := h x (by simp)
    rw [List.cons_append, Stb.put_gt (eqv_no (by omega)) (ltP_no h1), put_less A B (fun y hy => h y (by simp [hy]))]
    rfl
theorem put_there {f : Pl → Pl → Pl} {s x : Pl} {A B : List Pl} (h : ∀ x ∈ A, cmpList x.1 s.1 < 0) (h0 : cmpList x.1 s.1 = 0) : put ltP f s (A ++ x :: B) = A ++ f x s :: B := by
  rw [put_less A _ h, Stb.put_eq (eqv_yes h0)]
theorem put_new {f : Pl → Pl → Pl} {s : Pl} {A B : List Pl} (h : ∀ x ∈ A, cmpList x.1 s.1 < 0) (h0 : ∀ x, B.head? = some x → 0 < cmpList x.1 s.1) : put ltP f s (A ++ B) = A ++ s :: B := by
  rw [put_less A _ h]
  cases B with
  | nil => rfl
  | cons x B => rw [Stb.put_lt (ltP_gt (h0 x rfl))]
theorem Place.part {qs : List Q} {l : List Lb} {lo : Nat} (h : Place qs l lo) : ∃ A B, qs = A ++ B ∧ A.length = lo ∧ (∀ q ∈ A, cmpList q.l l < 0) ∧ ∀ q, B.head? = some q → 0 ≤ cmpList q.l l := by
  refine ⟨qs.take lo, qs.drop lo, (List.take_append_drop lo qs).symm, by have := h.le; simp; omega, fun q hq => ?_, fun q hq => ?_⟩
  · obtain ⟨i, hi, e⟩ := List.getElem_of_mem hq
    have hi' : i < lo := by simp at hi; omega
    have h1 := h.less i hi'
    have hi2 : i < qs.length := by simp at hi; omega
    rw [show lb qs i = q.l by rw [← e]; unfold lb; congr 1; simp [List.getD_eq_getElem?_getD, hi2]] at h1
    exact h1
  · rw [List.head?_drop] at hq
    have hlt := (List.getElem?_eq_some_iff.1 hq).1
    have h1 := h.geq hlt
    rw [show lb qs lo = q.l by unfold lb; rw [List.getD_eq_getElem?_getD, hq]; rfl] at h1
    exact h1
end Go.Proofs.YtjhdmghpklagkaaGreat.Srs
