/- The builtin copy within a row of the call's own, of elements of more than one cell. -/
import Derived.Test.YtailoeloonnoeaaRTb
import Derived.WalkKit
import Derived.ProofKit
import Derived.Below
import Derived.Laws.CopyRow
import Derived.Laws.IdiomCopy
import Derived.Laws.AppendOwn
import Derived.Deep.RegionHeld3
namespace Go.Proofs.Ytailoeloonnoeaa.Cpy
open Go.RowKit

theorem run_copy_at {P : Program} (w : World) (dT sT ty elem : TypeId) (i : TypeInfo) (z : Nat) (g o k dL dC sL sC : Nat) (a : Addr) (cur : Array Value) (t : TypeId) (cs : List Value)
    (hu : P.underlying dT = some (.slice elem)) (hi : P.info? elem = some i) (hz : i.size = z) (hk : Nat.min sL dL = k)
    (hg : w.heap[g]? = some (.cells cur t (0, 0))) (hn : cs.length = k * z)
    (hsrc : ∀ j v, cs[j]? = some v → w.cell? (a.add j) = some v) (hfit : o + cs.length ≤ cur.size) (h1 : ∀ v ∈ cs, v.oneCell' = true) :
    (Builtin.copy_ #[dT, sT] ty #[.slice (some ⟨g, o, none⟩) dL dC, .slice (some a) sL sC]).run P w =
      .ok (goInt k) (w.setRow g (cur.toList.take o ++ cs ++ cur.toList.drop (o + cs.length)).toArray) := by
  have hl := run_loadCells_list (P := P) w a cs hsrc
  have hst := run_storeCells_at P g o t cs 0 cur w hg (by simpa using hfit) h1
  simp only [Nat.add_zero] at hst
  simp [Builtin.copy_, run_underlying hu, Builtin.lenOf, Builtin.firstCells, sizeOf, typeInfo, hi, hz, hk, ← hn, hl, hst]
theorem run_copy_no {P : Program} (w : World) (dT sT ty elem : TypeId) (i : TypeInfo) (dp sp : Option Addr) (dL dC sL sC : Nat)
    (hu : P.underlying dT = some (.slice elem)) (hi : P.info? elem = some i) (hk : Nat.min sL dL = 0) :
    (Builtin.copy_ #[dT, sT] ty #[.slice dp dL dC, .slice sp sL sC]).run P w = .ok (goInt 0) w := by
  cases dp <;> cases sp <;> simp [Builtin.copy_, run_underlying hu, Builtin.lenOf, Builtin.firstCells, sizeOf, typeInfo, hi, hk, storeCells, loadCells, loadCellsFrom]
theorem step_copy_in {P : Program} {ops : Array Oper} {o : Oper} {a : Act} {w : World} {K : Act → World → Prop} {Q : Exit → Act → World → Prop} {E : Prop} (hgd : o.guard = none) (d s : Operand) (dT sT : TypeId)
    (ho : o.op = .call { callee := .builtin .copy, args := #[d, s], argTypes := #[dT, sT] }) (elem : TypeId) (i : TypeInfo) (z : Nat) (hu : P.underlying dT = some (.slice elem)) (hi : P.info? elem = some i) (hz : i.size = z)
    (X g n cap : Nat) (xs : List Value) (hown : w.ownsRow X elem z (.slice (some ⟨g, 0, none⟩) n cap) n xs)
    (dp sp : Option Addr) (dL dC sL sC : Nat) (hd : a.eval d = .slice dp dL dC) (hs : a.eval s = .slice sp sL sC) (k off so : Nat) (hk : Nat.min sL dL = k) (cs : List Value) (hn : cs.length = k * z)
    (hpos : 0 < k → dp = some ⟨g, off, none⟩ ∧ sp = some ⟨g, so, none⟩) (hsrc : ∀ j v, cs[j]? = some v → xs[so + j]? = some v) (hfit : off + cs.length ≤ xs.length) (h1 : ∀ v ∈ cs, v.oneCell' = true)
    (h : ∀ w', w'.ownsRow X elem z (.slice (some ⟨g, 0, none⟩) n cap) n (xs.take off ++ cs ++ xs.drop (off + cs.length)) → w.grownBy w' (some g) → K (a.put o.dst (goInt k)) w') :
    if Region.wanted o (yielded ops a.tmps) = true then Oper.wp P o a w K Q else E := by
  have hw : Region.wanted o (yielded ops a.tmps) = true := by simp [Region.wanted, hgd]
  rw [if_pos hw]
  by_cases h0 : k = 0
  · subst h0
    obtain rfl : cs = [] := List.eq_nil_of_length_eq_zero (by simpa using hn)
    have hrun := run_copy_no (P := P) w dT sT o.type elem i dp sp dL dC sL sC hu hi hk
    unfold Oper.wp
    simp [execOp, ho, resolve, invoke, builtin, hd, hs, hrun, Result.andThen]
    exact h w (by simpa using hown) ⟨rfl, rfl, rfl, Nat.le_refl _, fun _ _ _ => rfl⟩
  · obtain ⟨rfl, rfl⟩ := hpos (by omega)
    have hcell : ∀ j v, cs[j]? = some v → w.cell? ((⟨g, so, none⟩ : Addr).add j) = some v := by
      intro j v hj
      have hx := hsrc j v hj
      have hlt := (List.getElem?_eq_some_iff.1 hx).1
      rw [Smp.add_none]
      exact (hown.cellAt (so + j) (by rw [← hown.1]; exact hlt)).trans hx
    rcases hown.2 with ⟨h', _⟩ | ⟨g', cap', cur, h', hb, hg, hnc, hcm, hcs, htake⟩
    · simp at h'
    · simp only [Value.slice.injEq, Option.some.injEq, Addr.mk.injEq, and_true, true_and] at h'
      obtain ⟨rfl, rfl⟩ := h'
      have hxl := hown.1
      have hcl : n * z ≤ cur.toList.length := by rw [Array.length_toList, hcs]; exact Nat.mul_le_mul_right _ hnc
      have hrun := run_copy_at (P := P) w dT sT o.type elem i z g off k dL dC sL sC ⟨g, so, none⟩ cur elem cs hu hi hz hk hg hn hcell (by rw [Array.length_toList] at hcl; omega) h1
      unfold Oper.wp
      simp [execOp, ho, resolve, invoke, builtin, hd, hs, hrun, Result.andThen]
      refine h _ ⟨?_, .inr ⟨g, cap, (cur.toList.take off ++ cs ++ cur.toList.drop (off + cs.length)).toArray, rfl, hb, by simpa using setRow_heap w g cur _ elem _ hg, hnc, hcm, ?_, ?_⟩⟩ ⟨rfl, rfl, rfl, by simp [World.setRow], fun k _ hk => setRow_other w g k _ (fun e => hk (by rw [e]))⟩
      · simp only [List.length_append, List.length_take, List.length_drop]; omega
      · simp only [List.size_toArray, List.length_append, List.length_take, List.length_drop]
        rw [← hcs, ← Array.length_toList]; omega
      · rw [List.toList_toArray, ← htake]
        have e1 : (cur.toList.take (n * z)).take off = cur.toList.take off := by rw [List.take_take, Nat.min_eq_left (by omega)]
        have e2 : (cur.toList.take off ++ cs).length = off + cs.length := by simp only [List.length_append, List.length_take]; omega
        rw [e1, List.take_append, e2, List.take_of_length_le (by rw [e2]; omega), List.drop_take]
end Go.Proofs.Ytailoeloonnoeaa.Cpy
