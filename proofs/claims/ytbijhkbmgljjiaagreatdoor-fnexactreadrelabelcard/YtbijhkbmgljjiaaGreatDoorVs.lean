/- The model's ReadRelabel: plain facts of what it reads, step by step. -/
import Derived.Test.YtbijhkbmgljjiaaGreatDoorVr
namespace Go.Proofs.YtbijhkbmgljjiaaGreatDoor.Rdd
open Go.RowKit Go.Proofs.YtbijhkbmgljjiaaGreatDoor.Pat

theorem rs_drop {v l : List UInt8} (h : sg v l = true) : rs v l = l.drop v.length := by
  unfold sg at h
  unfold rs
  unfold Rel.sgn at *
  split at h
  · rename_i hp
    rw [if_pos hp]; rfl
  · cases h
theorem sgn_yes {v l : List UInt8} (h : sg v l = true) : Rel.sgn v l = some (rs v l) := by
  unfold sg at h
  unfold rs
  cases hq : Rel.sgn v l with
  | none => rw [hq] at h; cases h
  | some r => rfl
theorem sgn_none {v l : List UInt8} (h : sg v l = false) : Rel.sgn v l = none := by
  unfold sg at h
  cases hq : Rel.sgn v l with
  | none => rfl
  | some r => rw [hq] at h; cases h
theorem kn_by_nil {r0 : Rel.Rule} {l : List UInt8} (e : l = Rel.t5 r0) (hg : sg sB l = false) : l = [] := by
  have := kn_by_no e hg
  rw [e]; exact Rel.back_by_no r0 this.symm
theorem kn_by_all {r0 : Rel.Rule} {l : List UInt8} (h : Rel.goodR r0 = true) (e : l = Rel.t5 r0) (hg : sg sB l = true) : rs sB l = Lib.itoa r0.md ∧ 1 ≤ r0.md ∧ r0.md ≤ 1000 := by
  subst e
  obtain ⟨m0, m1⟩ := Rel.good_md h
  by_cases hf : r0.md = 0
  · rw [Rel.back_by_no r0 hf] at hg; cases hg
  · rw [(sg_of (Rel.back_by_yes r0 hf)).2]
    exact ⟨rfl, by omega, m1⟩
theorem ext_mk (l : List UInt8) (k : Nat) : (mkS l).extract k (mkS l).size = mkS (l.drop k) := by
  apply ByteArray.ext
  apply Array.toList_inj.1
  rw [ext_drop]
theorem wrds_end {n : Nat} {l : List UInt8} (h : Rel.sgn [44] (Rel.wrd l).2 = none) : Rel.wrds n l = ([(Rel.wrd l).1], (Rel.wrd l).2) := by
  rw [wrds_wt, wt_none h]
theorem wrds_more {n : Nat} {l r : List UInt8} (h : Rel.sgn [44] (Rel.wrd l).2 = some r) : Rel.wrds (n + 1) l = ((Rel.wrd l).1 :: (Rel.wrds n r).1, (Rel.wrds n r).2) := by
  rw [wrds_wt, wt_some h, wrds_wt n r]
def szOf : Value → Nat
  | .string s => s.size
  | _ => 0
/-- The end of a name, and what is left behind it. -/
theorem nm_facts (l : List UInt8) (t : Nat) : (mkS l).extract t (nmE l t) = mkS (Rel.wrd (l.drop t)).1 ∧ (mkS l).extract (nmE l t) (mkS l).size = mkS (Rel.wrd (l.drop t)).2 := by
  refine ⟨nm_take (mkS l) t, ?_⟩
  rw [ext_mk, nm_drop]
end Go.Proofs.YtbijhkbmgljjiaaGreatDoor.Rdd
