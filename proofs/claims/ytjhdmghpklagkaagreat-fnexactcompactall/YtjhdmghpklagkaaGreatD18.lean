/- A heap of lanes of series: what its iterator needs. -/
import Derived.Test.YtjhdmghpklagkaaGreatD17
import Derived.Test.YtjhdmghpklagkaaGreatD04
import Derived.RangeFuncNested
import Derived.RangeFuncBound
import Derived.RangeFuncCalls
import Derived.RangeFuncLeaves
import Derived.RangeFuncRecord
import Derived.RangeFuncOwn
import Derived.RangeFuncBox
import Derived.Shelf.Abstract
import Derived.Shelf.RegionOpen
import Derived.WalkKit
import Derived.OwnWalkIn
import Derived.TacticsInMore
import Derived.LoopNIn
import Derived.LoopIn
import Derived.OrdersIn
import Derived.OrdersHeld
namespace Go.Proofs.YtjhdmghpklagkaaGreat.Hpl
open Go.RowKit
open Go.Proofs.YtjhdmghpklagkaaGreat.Stb
open Go.Proofs.YtjhdmghpklagkaaGreat.Lab (orC two0 two1 cmpList)
open Go.Proofs.YtjhdmghpklagkaaGreat.Str (numC)
open Go.Proofs.YtjhdmghpklagkaaGreat.Srs (Q q0)

theorem op_wide {n : Nat} {P : Program} {ops : Array Oper} {Q : Exit → Act → World → Prop} {i : Nat} {K : Act → World → Prop} {a : Act} {w : World} (hno : ¬ LetsOut Q) (h : wpOp P ops Q i K a w) : wpOpIn Fence.wide n P ops Q i K a w := by
  unfold wpOp at h
  unfold wpOpIn
  cases ho : ops[i]? with
  | none => rw [ho] at h; exact h
  | some o =>
    rw [ho] at h
    simp only at h ⊢
    by_cases hw : Region.wanted o (yielded ops a.tmps) = true
    · rw [if_pos hw] at h ⊢
      have h := h.resolve_right (fun e => hno e.2)
      unfold Oper.wp at h
      refine ⟨fun f _ => trivial, ?_⟩
      show o.uponIn Fence.wide n P a K Q ((o.semAt none a.eval).run P w)
      show o.uponIn Fence.wide n P a K Q ((execOp a.eval o).run P w)
      generalize (execOp a.eval o).run P w = r at *
      cases r with
      | ok x w' =>
        cases x <;> first
          | exact h
          | exact ⟨by intro e; simp [Fence.wide] at e, callsIn_wide.2 h⟩
          | exact ⟨by intro e; simp [Fence.wide] at e, fun c cs _ => let ⟨v, w', r, s⟩ := h c cs; ⟨v, w', r, stepsIn_wide.2 s⟩⟩
          | exact h.elim
      | halt x w' => cases x <;> first | exact h | exact h.elim
    · rw [if_neg hw] at h ⊢
      exact ⟨fun f _ => trivial, h⟩
theorem any_wide {n : Nat} {P : Program} {md : Region.Mode} {ops : Array Oper} {Q : Exit → Act → World → Prop} (hno : ¬ LetsOut Q) : ∀ (fuel : Nat) (listed : Array Bool) (a : Act) (w : World), wpAny P md ops Q fuel listed a w → wpAnyIn Fence.wide n P md ops Q fuel listed a w
  | 0, _, _, _, h => h
  | fuel + 1, _, _, _, h => ⟨h.1, fun i hi => wpOpIn_mono (fun a' w' h' => any_wide hno fuel _ a' w' h') (op_wide hno (h.2 i hi))⟩
theorem region_wide {n id : Nat} {P : Program} {ops : Array Oper} {Q : Exit → Act → World → Prop} {S : World → Prop} {a : Act} {w : World} (hm : P.follows .mixedOrders = true) (hno : ¬ LetsOut Q) (hS : S w.drew)
    (h : S w.drew → wpAnyH P .any ops Q S ops.size (Array.replicate ops.size false) a w.drew) : (Code.region id ops true).wpIn Fence.wide n P Q a w :=
  wpIn_region_any hm (any_wide hno _ _ _ _ (wpAny_of_held _ _ _ _ (h hS)))

structure Ln where
  k : Nat
  b : Nat
  o : Nat
  c : Nat
  L : List Q
abbrev cbQ (p q : Q) : Int := cmpList p.l q.l
abbrev slH (q : Q) : (Option Addr × Nat × Nat) × (Option Addr × Nat × Nat) := ((q.a, q.l.length, q.c), (q.b, q.s.length, q.d))
abbrev YQ : Lay Ln where
  nu := Ln.k
  bl := Ln.b
  ofs := Ln.o
  ln x := x.L.length
  cp := Ln.c
  hs x := slH (x.L.headD q0)
  cz x y := cbQ (x.L.headD q0) (y.L.headD q0)
def Ln.tl (x : Ln) : Ln := ⟨x.k, x.b, x.o + 2, x.c - 1, x.L.tail⟩
theorem ordY (C : C3 cbQ) : Ord YQ.lt where
  asym x y := (ordI C).asym (x.k, x.L.headD q0) (y.k, y.L.headD q0)
  trans x y z := (ordI C).trans (x.k, x.L.headD q0) (y.k, y.L.headD q0) (z.k, z.L.headD q0)
  ntrans x y z := (ordI C).ntrans (x.k, x.L.headD q0) (y.k, y.L.headD q0) (z.k, z.L.headD q0)
abbrev all (H : List Ln) : List Q := (isort (ltI cbQ) (exps Ln.k Ln.L H)).map Prod.snd
theorem heap_least (C : C3 cbQ) {d t : Ln} {R : List Ln} (h : Heap YQ.lt d (t :: R) 0) : ∀ x ∈ R, ltI cbQ (x.k, x.L.headD q0) (t.k, t.L.headD q0) = false := by
  intro x hx
  obtain ⟨i, hi, rfl⟩ := List.getElem_of_mem hx
  have h1 := Heap.top (ordY C) h (i + 1) (by simp; omega)
  have e1 : (t :: R).getD (i + 1) d = R[i] := by simp [hi]
  have e2 : (t :: R).getD 0 d = t := rfl
  rw [e1, e2] at h1
  exact h1
theorem all_stay (C : C3 cbQ) {d t : Ln} {R : List Ln} {q q' : Q} {K : List Q} (h : Lanes cbQ Ln.k Ln.L (t :: R)) (hh : Heap YQ.lt d (t :: R) 0) (ht : t.L = q :: q' :: K) : all (t :: R) = q :: all (t.tl :: R) ∧ Lanes cbQ Ln.k Ln.L (t.tl :: R) := by
  have hl := heap_least C hh
  rw [ht] at hl
  have hm : t.tl.L = q' :: K := by unfold Ln.tl; rw [ht]; rfl
  refine ⟨?_, ?_, ?_, ?_⟩
  · unfold all
    rw [take_one C (q0 := q0) (H1 := t.tl :: R) h ht hl (by rw [exps_cons, hm]; exact List.Perm.refl _)]
    rfl
  · intro x hx
    rcases List.mem_cons.1 hx with rfl | hx
    · have := h.rise t (by simp); rw [ht] at this; rw [hm]; exact (List.pairwise_cons.1 this).2
    · exact h.rise x (by simp [hx])
  · intro x hx
    rcases List.mem_cons.1 hx with rfl | hx
    · rw [hm]; simp
    · exact h.ne x (by simp [hx])
  · have := List.pairwise_cons.1 h.nums
    exact List.pairwise_cons.2 ⟨this.1, this.2⟩
theorem last_perm {α : Type} (d t : α) (R : List α) (n : Nat) (hn : (t :: R).length = n + 1) : (((t :: R).set 0 ((t :: R).getD n d)).take n).Perm R := by
  cases R with
  | nil => simp at hn; subst hn; simp
  | cons y R =>
    have hn' : n = R.length + 1 := by simp at hn; omega
    subst hn'
    rw [List.set_cons_zero, List.take_succ_cons]
    have e1 : (t :: y :: R).getD (R.length + 1) d = (y :: R).getLast (by simp) := by
      rw [List.getLast_eq_getElem]; simp
    have e2 : (y :: R).take R.length = (y :: R).dropLast := by rw [List.dropLast_eq_take]; simp
    rw [e1, e2]
    have h3 := List.dropLast_concat_getLast (l := y :: R) (by simp)
    have h4 : ((y :: R).getLast (by simp) :: (y :: R).dropLast).Perm ((y :: R).dropLast ++ [(y :: R).getLast (by simp)]) := (List.perm_append_singleton _ _).symm
    rw [h3] at h4
    exact h4
theorem all_gone (C : C3 cbQ) {d t : Ln} {R : List Ln} {q : Q} {n : Nat} (h : Lanes cbQ Ln.k Ln.L (t :: R)) (hh : Heap YQ.lt d (t :: R) 0) (ht : t.L = [q]) (hn : (t :: R).length = n + 1) : all (t :: R) = q :: all (((t :: R).set 0 ((t :: R).getD n d)).take n) ∧ Lanes cbQ Ln.k Ln.L (((t :: R).set 0 ((t :: R).getD n d)).take n) := by
  have hl := heap_least C hh
  rw [ht] at hl
  have hp := last_perm d t R n hn
  refine ⟨?_, Lanes.perm ⟨fun x hx => h.rise x (by simp [hx]), fun x hx => h.ne x (by simp [hx]), (List.pairwise_cons.1 h.nums).2⟩ hp.symm⟩
  unfold all
  rw [take_one C (q0 := q0) (K := []) (H1 := ((t :: R).set 0 ((t :: R).getD n d)).take n) h ht hl (exps_perm hp)]
  rfl
def lenOf : Option Value → Nat
  | some (.slice _ n _) => n
  | _ => 0
def meas (hb g : Nat) (w : World) : Nat := ((List.range (lenOf (w.cell? ⟨hb, 0, none⟩))).map (fun i => lenOf (w.cell? ⟨g, i * 2 + 1, none⟩))).sum
theorem meas_eq {base hb g c n : Nat} {H : List Ln} {w : World} (h : RowL YQ base g c n H w) (hx : Hbx w hb (some ⟨g, 0, none⟩) n c) : meas hb g w = (exps Ln.k Ln.L H).length := by
  have hl := rowL_len h
  unfold meas
  rw [two0 hx]
  have e : (List.range n).map (fun i => lenOf (w.cell? ⟨g, i * 2 + 1, none⟩)) = H.map (fun x => x.L.length) := by
    apply List.ext_getElem
    · simp [hl]
    · intro i h1 h2
      simp at h1 h2
      have := (rowL_get ⟨0, 0, 0, 0, []⟩ h (i := i) h2).2
      simp only [List.getElem_map, List.getElem_range]
      rw [this]
      simp [lenOf, h2]
  show ((List.range n).map _).sum = _
  rw [e, exps, List.length_flatMap]
  simp
theorem own_same {w w' : World} {base e size n c g : Nat} {xs : List Value} (h : w.ownsRow base e size (.slice (some ⟨g, 0, none⟩) n c) n xs) (hg : w'.heap[g]? = w.heap[g]?) : w'.ownsRow base e size (.slice (some ⟨g, 0, none⟩) n c) n xs := by
  refine ⟨h.1, ?_⟩
  rcases h.2 with hn | ⟨g', cap, cur, e1, hb, hgg, rest⟩
  · exact .inl hn
  · refine .inr ⟨g', cap, cur, e1, hb, ?_, rest⟩
    have : g' = g := by injection e1 with e2; injection e2 with e3; injection e3 with e4; exact e4.symm
    subst this
    rw [hg]; exact hgg
theorem own_first {w : World} {base e size n c g k : Nat} {xs : List Value} (h : w.ownsRow base e size (.slice (some ⟨g, 0, none⟩) n c) n xs) (hk : k ≤ n) : w.ownsRow base e size (.slice (some ⟨g, 0, none⟩) k c) k (xs.take (k * size)) := by
  have hl := h.1
  have hm : k * size ≤ n * size := Nat.mul_le_mul_right _ hk
  refine ⟨by rw [List.length_take]; omega, ?_⟩
  rcases h.2 with ⟨h1, h2⟩ | ⟨g', cap, cur, h1, h2, h3, h4, h5, h6, h7⟩
  · simp at h1
  · simp only [Value.slice.injEq] at h1
    obtain ⟨e1, _, rfl⟩ := h1
    refine .inr ⟨g', c, cur, by rw [e1], h2, h3, by omega, h5, h6, ?_⟩
    rw [← h7, List.take_take, Nat.min_eq_left (by omega)]
end Go.Proofs.YtjhdmghpklagkaaGreat.Hpl
