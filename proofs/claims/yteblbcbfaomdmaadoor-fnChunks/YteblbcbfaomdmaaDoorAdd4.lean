/- What AddBits of the program comes to. -/
import Derived.Test.YteblbcbfaomdmaaDoorAdd3
import Derived.Laws.CopyOwn
namespace Go.Proofs.YteblbcbfaomdmaaDoor.Bts
open Go.RowKit Go.Proofs.YteblbcbfaomdmaaDoor.Byt

/-- make of a slice of n bytes with room for k. -/
theorem wpList_make_len {P : Program} (w : World) {ops : Array Oper} {rest : List Oper} {o : Oper} {a : Act} {Q : Exit → Act → World → Prop}
    (hg : o.guard = none) (l c : Operand) (t : TypeId) (hop : o.op = Op.makeSlice t l c)
    (e : TypeId) (i : TypeInfo) (z : Value) (h1 : P.underlying t = some (.slice e)) (h2 : P.info? e = some i) (h3 : i.zero = some z) (h4 : i.size = 1) (h5 : i.bytes = 1)
    (kl kc : IntKind) (L C : Int) (n k : Nat) (hl : a.eval l = .int kl L) (hc : a.eval c = .int kc C) (hL : L = (n : Int)) (hC : C = (k : Int)) (hnk : n ≤ k) (hk : k ≤ 281474976710656)
    (hK : wpList P ops Q rest (a.put o.dst (.slice (some ⟨w.heap.size, 0, none⟩) n k)) (w.alloc (.cells (madeCells z.cells k) e))) :
    wpList P ops Q (o :: rest) a w := by
  refine wpList_plain hg fun K hK' => ?_
  have hrun := run_make (P := P) w t e i z h1 h2 h3 kl kc L C (by omega) (by omega) (by rw [h5]; omega) (by omega)
  subst hL
  subst hC
  rw [h4, Int.toNat_natCast, Int.toNat_natCast, Nat.mul_one] at hrun
  unfold Oper.wp
  simp [execOp, hop, hl, hc, hrun, Result.andThen]
  exact hK' _ _ hK

theorem f44 (a : Option Addr) (n cap R : Nat) (s : Int) (w : World) (hR : w.heap[R]? = some (.cells #[.slice a n cap, .int .i64 s] 64 (0, 0))) :
    Calls Tryd.prog 44 #[.pointer (some ⟨R, 0, none⟩)] w fun e w' => e = .returned (.agg #[.slice a n cap, .int .i64 s]) ∧ ∃ u, w' = (w.alloc (.cells u 26)).drew := by
  have r0 := two0 hR
  have r1 := two1 hR
  have hl := lt_of_block hR
  clear hR
  go_enter Tryd.func44, Tryd.ntmps44
  go_wp2
  go_region
  all_goals go_wp2
  all_goals exact bodyPost_ret (v := .agg #[.slice a n cap, .int .i64 s]) (by simp [results, Tryd.results44, go_sem]) rfl ⟨rfl, _, rfl⟩

theorem own_of_heap {w : World} {B g n k : Nat} {xs cur : List Value} (hg : w.heap[g]? = some (.cells cur.toArray 5 (0, 0))) (hB : B ≤ g) (hn : xs.length = n) (hnk : n ≤ k) (hk : k ≤ 281474976710656) (hc : cur.length = k) (ht : cur.take n = xs) :
    w.ownsRow B 5 1 (.slice (some ⟨g, 0, none⟩) n k) n xs :=
  ⟨by rw [hn, Nat.mul_one], .inr ⟨g, k, cur.toArray, rfl, hB, hg, hnk, by unfold maxLen; omega, by simp [hc], by simpa using ht⟩⟩

end Go.Proofs.YteblbcbfaomdmaaDoor.Bts
