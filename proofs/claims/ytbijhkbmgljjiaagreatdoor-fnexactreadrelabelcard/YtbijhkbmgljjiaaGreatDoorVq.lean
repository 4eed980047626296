/- Good rules' texts: how long they are at most, and what stands ahead of their first blank: plain. -/
import Derived.Test.YtbijhkbmgljjiaaGreatDoorVp
import Derived.Test.YtbijhkbmgljjiaaGreatDoorVo
import Derived.Test.YtbijhkbmgljjiaaGreatDoorVm
namespace Go.Proofs.YtbijhkbmgljjiaaGreatDoor.Rdd
open Go.RowKit Go.Proofs.YtbijhkbmgljjiaaGreatDoor.Pat

theorem nm_len {s : ByteArray} (h : Rel.nm s = true) : s.data.toList.length ≤ 40 := by
  unfold Rel.nm nameL at h
  simp only [Bool.and_eq_true, decide_eq_true_eq] at h
  exact h.1.1.2
theorem em_size {s : ByteArray} (h : Rel.em s = true) : s.size = 0 := by
  have h1 : s.data.toList.length = 0 := by rw [Rel.em_nil h]; rfl
  have h2 : s.data.toList.length = s.size := by simp
  omega
theorem good_val {r : Rel.Rule} (h : Rel.goodR r = true) : r.val.size ≤ 200 := by
  unfold Rel.goodR Rel.kindB at h
  simp only [Bool.and_eq_true] at h
  obtain ⟨_, _, h⟩ := h
  have he : ∀ s : ByteArray, Rel.em s = true → s.size ≤ 200 := fun s q => by
    have := em_size q
    omega
  have hf : ∀ s : ByteArray, Fil.filB s = true → s.size ≤ 200 := fun s q => by
    unfold Fil.filB at q
    simp only [Bool.and_eq_true, decide_eq_true_eq] at q
    omega
  repeat' split at h
  all_goals
    simp only [Bool.and_eq_true] at h
    first | exact hf _ h.2.1 | exact he _ h.2.2.1 | exact hf _ h.2.2.2.1 | exact he _ h.2.2.2.1 | exact he _ h.2.1
theorem good_sizes {r : Rel.Rule} (h : Rel.goodR r = true) : r.sep.size ≤ 10 ∧ r.pat.size ≤ 100 ∧ r.tgt.size ≤ 40 := by
  have ht := good_tgt h
  unfold Rel.goodR Rel.baseB at h
  simp only [Bool.and_eq_true, decide_eq_true_eq] at h
  refine ⟨h.1.2.2.1, ?_, ?_⟩
  · have := h.1.2.2.2.2
    unfold patB at this
    simp only [Bool.and_eq_true, decide_eq_true_eq] at this
    exact this.1.1
  · rcases ht with q | q
    · have := em_size q
      omega
    · have := nm_len q
      simpa using this
theorem pQ_le (tag : List UInt8) (s : ByteArray) : (Rel.pQ tag s).length ≤ tag.length + 2 * s.size + 2 := by
  unfold Rel.pQ
  have := Rel.quoB_len s.data.toList
  split
  · simp
  · rw [List.length_append]; simp at this ⊢; omega
theorem txt_short {r : Rel.Rule} (h : Rel.goodR r = true) : (Rel.txtR r).length ≤ 2000 := by
  obtain ⟨h1, h2, h3⟩ := good_sizes h
  have h4 := good_val h
  obtain ⟨h5, h6⟩ := from_len h
  obtain ⟨m0, m1⟩ := Rel.good_md h
  have e0 := Rel.wd_len r.act
  have e1 : (Rel.pF r.from').length ≤ 6 + 410 := by
    unfold Rel.pF
    split
    · simp
    · have := Rel.join_len (r.from'.map (·.data.toList)) [44] 40 (by
        intro x hx
        obtain ⟨p, hp, rfl⟩ := List.mem_map.1 hx
        unfold Rel.namesB at h6
        exact nm_len (List.all_eq_true.1 h6 p hp))
      rw [List.length_append]
      unfold Rel.jn
      simp only [List.length_map, List.length_cons, List.length_nil] at this ⊢
      omega
  have e2 := pQ_le [32, 115, 101, 112, 32] r.sep
  have e3 := pQ_le [32, 108, 105, 107, 101, 32] r.pat
  have e4 : (Rel.pT r.tgt).length ≤ 44 := by
    unfold Rel.pT
    split
    · simp
    · rw [List.length_append]; simp; omega
  have e5 := pQ_le [32, 97, 115, 32] r.val
  have e6 : (Rel.pM r.md).length ≤ 8 := by
    unfold Rel.pM
    split
    · simp
    · rename_i hm
      have := (Rel.it_len (s := mkS (Lib.itoa r.md)) (N := r.md) (by omega) m1 rfl).2.1
      rw [mk_len] at this
      rw [List.length_append]; simp; omega
  unfold Rel.txtR Rel.x5 Rel.x4 Rel.x3 Rel.x2 Rel.x1
  simp only [List.length_append, List.length_cons, List.length_nil] at *
  omega
theorem nb32 {c : UInt8} (h : nbC c = true) : c ≠ 32 := by
  rintro rfl
  revert h; decide
theorem kn_hdw {r0 : Rel.Rule} {l : List UInt8} (h : Kn r0 l) : hdw l = Rel.wd r0.act ∧ l.drop (hdw l).length = Rel.t0 r0 ∧ 1 ≤ r0.act ∧ r0.act ≤ 8 := by
  have ha := Rel.good_act h.1
  have hw : hdw l = Rel.wd r0.act := by
    rw [h.2, Rel.txt_tail]
    unfold hdw
    rw [List.takeWhile_append_of_pos (fun c hc => by simpa using nb32 (Rel.wd_all _ ha c hc))]
    rcases Rel.hd0 r0 with e | ⟨k, r, e, _⟩
    · rw [e]; simp
    · rw [e, List.takeWhile_cons_of_neg (by simp)]; simp
  refine ⟨hw, ?_, ha.1, ha.2⟩
  rw [hw, h.2, Rel.txt_tail]
  simp
theorem hdw_len (l : List UInt8) : (hdw l).length ≤ l.length := by
  unfold hdw
  exact (List.takeWhile_prefix _).length_le
end Go.Proofs.YtbijhkbmgljjiaaGreatDoor.Rdd
