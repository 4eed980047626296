/- slices.Insert of one element, at a row of the call's own. -/
import Derived.Test.YtigakbhficoonaaCpo
import Derived.Lib.AppendZerosOnto
import Derived.Lib.Overlaps
import Derived.Lib.BufferOwn
import Derived.Laws.Externs
import Derived.Shelf.Spec.SlicesInsert
namespace Go.Proofs.Ytigakbhficoonaa.Ins
open Go.RowKit
open Go.Proofs.Ytigakbhficoonaa.Cpo

theorem infoE : (Try.prog.info? 33).map (fun i => (i.zero, i.size, i.bytes)) = some (some (.agg #[.string ⟨#[]⟩, .string ⟨#[]⟩]), 2, 32) := by kernel_rfl
theorem hidI {p : Prop} (h : p) : Hid p := h
theorem add_noneI (b off j : Nat) : (⟨b, off, none⟩ : Addr).add j = ⟨b, off + j, none⟩ := by
  by_cases h : j = 0
  · subst h; simp [Addr.add]
  · simp [Addr.add, h]
theorem src_at {w : World} {g o k : Nat} {cur : Array Value} {t : TypeId} {cs : List Value} (hg : w.heap[g]? = some (.cells cur t (0, 0))) (h : (cur.toList.drop o).take k = cs) : ∀ j v, cs[j]? = some v → w.cell? ((⟨g, o, none⟩ : Addr).add j) = some v := by
  intro j v hj
  rw [add_noneI]
  rw [← h, List.getElem?_take] at hj
  split at hj
  · rw [List.getElem?_drop] at hj
    simp only [World.cell?, hg]
    simpa using hj
  · simp at hj
theorem src_all {w : World} {g : Nat} {vs : List Value} {t : TypeId} (hg : w.heap[g]? = some (.cells vs.toArray t (0, 0))) : ∀ j v, vs[j]? = some v → w.cell? ((⟨g, 0, none⟩ : Addr).add j) = some v := src_at (k := vs.length) hg (by simp)
theorem gr_tr {a b c : World} {r : Option Nat} (h : a.grownBy b r) (k : b.grownBy c r) : a.grownBy c r := Lib.grownBy_trans h k
theorem gr_und {a b : World} {r : Option Nat} (h : a.drew.grownBy b r) : a.grownBy b r := ⟨h.os, h.tape, h.output, h.size, h.block⟩
theorem gr_drew {a b : World} {r : Option Nat} (h : a.grownBy b r) : a.grownBy b.drew r := ⟨h.os, h.tape, h.output, h.size, h.block⟩
/-- What Insert leaves. -/
def InsR (X : Nat) (a : Option Addr) (n c i : Nat) (xs vs : List Value) (w : World) (e : Ending) (w' : World) : Prop :=
  ∃ a' c', e = .returned (.slice a' (n + 1) c') ∧ w'.ownsRow X 33 2 (.slice a' (n + 1) c') (n + 1) (xs.take (i * 2) ++ vs ++ xs.drop (i * 2)) ∧ w.grownBy w' (Value.slice a n c).ownBlock
abbrev INS : FuncId := 35
set_option maxRecDepth 10000 in
set_option maxHeartbeats 4000000 in
theorem ins_end (X : Nat) (a : Option Addr) (n c vb : Nat) (xs vs : List Value) (w : World) (hown : w.ownsRow X 33 2 (.slice a n c) n xs) (hv : w.heap[vb]? = some (.cells vs.toArray 33 (0, 0))) (hvl : vs.length = 2) (h1v : ∀ v ∈ vs, v.oneCell' = true) (hn : n ≤ 1000) (hX : X ≤ w.heap.size) :
    Calls Try.prog 35 #[.slice a n c, .int .i64 n, .slice (some ⟨vb, 0, none⟩) 1 1] w (InsR X a n c n xs vs w) := by
  obtain ⟨i0, hi, hz0, hz1, hz2⟩ := info_parts infoE
  have hxl : xs.length = n * 2 := hown.1
  have HXS : Hid (xs.take (n * 2) ++ vs ++ xs.drop (n * 2) = xs ++ vs) := by
    unfold Hid
    rw [List.take_of_length_le (by omega), List.drop_of_length_le (by omega), List.append_nil]
  have HO := hidI hown
  have HV := hidI (src_all hv)
  have HH := hidI h1v
  have hcases : (a = none ∧ n = 0 ∧ c = 0) ∨ ∃ g, a = some ⟨g, 0, none⟩ ∧ n ≤ c ∧ c ≤ maxLen := by
    rcases hown.2 with ⟨h1, h2⟩ | ⟨g, cap, cur, h1, h2, h3, h4, h5, _⟩
    · simp only [Value.slice.injEq] at h1; exact .inl ⟨h1.1, h2, h1.2.2⟩
    · simp only [Value.slice.injEq] at h1
      obtain ⟨rfl, _, rfl⟩ := h1
      exact .inr ⟨g, rfl, h4, h5⟩
  have e1 : ((n : Int) == (n : Int)) = true := by simp
  clear hown hv h1v
  have fin : ∀ (v3 : Value) (w3 : World), w3.ownsRow X 33 2 v3 (n + 1) (xs ++ vs) → w.grownBy w3 (Value.slice a n c).ownBlock → InsR X a n c n xs vs w (.returned v3) w3 := by
    intro v3 w3 h1 h2
    have h3 : ∃ a' c', v3 = .slice a' (n + 1) c' := by
      rcases h1.2 with ⟨h, h'⟩ | ⟨g, cap, cur, h, _⟩
      · omega
      · exact ⟨_, _, h⟩
    obtain ⟨a', c', rfl⟩ := h3
    exact ⟨a', c', rfl, by rw [HXS.out]; exact h1, h2⟩
  have FIN := hidI fin
  clear fin
  rcases hcases with ⟨rfl, rfl, rfl⟩ | ⟨g, rfl, hnc, hcm⟩
  · go_enter Try.func35, Try.ntmps35
    go_wp2_with (at_builtin; refine wpList_append_own _ rfl (.tmp 23) (.tmp 24) 22 rfl X 33 i0 (.agg #[.string ⟨#[]⟩, .string ⟨#[]⟩]) 2 32 Try.underlying22 hi hz0 hz1 hz2 rfl (by decide) _ _ _ rfl HO.out ⟨vb, 0, none⟩ 1 1 vs rfl (by omega) ?d1 ?d2 ?d3 ?d4 ?d5 ?_)
    case d1 => exact HV.out
    case d2 => exact HH.out
    case d3 => unfold maxLen; omega
    case d4 => omega
    case d5 => omega
    intro v3 w3 hown3 hgr3 _
    have HF := hidI (FIN.out v3 w3 hown3 hgr3)
    go_wp2
    go_ret
    exact HF.out
  · have i1 : (0 : Int) ≤ (n : Int) := by omega
    have i2 : (n : Int) ≤ (c : Int) := by omega
    unfold maxLen at hcm
    by_cases hcn : c = n
    all_goals
      go_enter Try.func35, Try.ntmps35
      go_wp2_with (at_builtin; refine wpList_append_own _ rfl (.tmp 23) (.tmp 24) 22 rfl X 33 i0 (.agg #[.string ⟨#[]⟩, .string ⟨#[]⟩]) 2 32 Try.underlying22 hi hz0 hz1 hz2 rfl (by decide) _ _ _ rfl HO.out ⟨vb, 0, none⟩ 1 1 vs rfl (by omega) ?d1 ?d2 ?d3 ?d4 ?d5 ?_)
      case d1 => exact HV.out
      case d2 => exact HH.out
      case d3 => unfold maxLen; omega
      case d4 => omega
      case d5 => omega
      intro v3 w3 hown3 hgr3 _
      have HF := hidI (FIN.out v3 w3 hown3 hgr3)
      go_wp2
      go_ret
      exact HF.out
end Go.Proofs.Ytigakbhficoonaa.Ins
