/- The walk of FnExactGoodSeries. -/
import Derived.Test.YtaekngadfajcaaaGreatRXB
import Derived.Test.YtaekngadfajcaaaGreatRXf
import Derived.Test.YtaekngadfajcaaaGreatRXg
namespace Go.Proofs.YtaekngadfajcaaaGreat.Srs
open Go.RowKit
open Go.Proofs.YtaekngadfajcaaaGreat.Lab (Lb HasL)
open Go.Proofs.YtaekngadfajcaaaGreat.Smp (Sm HasS)

theorem SameTo.same {n : Nat} {qs d : List Q} (h : SameTo n qs d) : Same n qs d := fun i hi => (h i hi).1
theorem Same.trans {n : Nat} {qs d d' : List Q} (h1 : SameTo n qs d) (h2 : SameTo n qs d') : Same n d d' := fun i hi => (h2 i hi).1.trans (h1 i hi).1.symm
theorem getD_out {qs : List Q} {i : Nat} (h : ¬ i < qs.length) : qs.getD i q0 = q0 := by
  rw [List.getD_eq_getElem?_getD, List.getElem?_eq_none (by omega)]; rfl
theorem FitQ.same {n : Nat} {qs d : List Q} (h : FitQ qs) (h1 : d.length = n) (hs : Same n qs d) : FitQ d := by
  intro i
  by_cases hi : i < n
  · have e := hs i hi
    simp only [pl, Prod.mk.injEq] at e
    have := h i
    unfold Fq at this ⊢
    rw [e.1, e.2]; exact this
  · rw [getD_out (by omega)]; exact fit_q0
theorem SmlQ.same {n : Nat} {qs d : List Q} (h : SmlQ qs) (h0 : qs.length = n) (h1 : d.length = n) (hs : Same n qs d) : SmlQ d := by
  intro i hi
  have e := hs i (by omega)
  simp only [pl, Prod.mk.injEq] at e
  have := h i (by omega)
  rw [e.1, e.2]; exact this
end Go.Proofs.YtaekngadfajcaaaGreat.Srs
