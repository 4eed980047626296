/- Both GroupOfs. -/
import Derived.Test.YtkjodikccehmkaaRRK
import Derived.Test.YtkjodikccehmkaaRAnl
namespace Go.Proofs.Ytkjodikccehmkaa.Rou
open Go.RowKit
open Go.Proofs.Ytkjodikccehmkaa.Lab (Lb HasL goodL selR selL)
open Go.Proofs.Ytkjodikccehmkaa.Rwc

/-- What GroupOf gives. -/
noncomputable def grp (ts : List T) (z : Int) (l : List Lb) : List Lb := if goodR ts = true ∧ 0 ≤ z ∧ z < (ts.length : Int) then selR l (ts.getD z.toNat t0).ds true else []
theorem grp_no {ts : List T} {z : Int} {l : List Lb} (h : ¬ (goodR ts = true ∧ 0 ≤ z ∧ z < (ts.length : Int))) : grp ts z l = [] := by unfold grp; rw [if_neg h]
theorem grp_yes {ts : List T} {k : Nat} {l : List Lb} (h : goodR ts = true) (hk : k < ts.length) : grp ts (k : Int) l = selR l (ts.getD k t0).ds true := by
  unfold grp; rw [if_pos ⟨h, by omega, by omega⟩]; rfl
theorem goodR_iff {ts : List T} : goodR ts = true ↔ GoodRt (ts.map pl) := by
  constructor
  · intro h
    by_cases g : GoodRt (ts.map pl)
    · exact g
    · rw [show goodR ts = false from goodP_false g] at h; cases h
  · exact goodP_true
theorem good_row {ts : List T} {k : Nat} (h : goodR ts = true) (hk : k < ts.length) : okR (ts.getD k t0) = true := by
  obtain ⟨_, h1, _⟩ := good_iff.1 (goodR_iff.1 h)
  exact (h1 (pl (ts.getD k t0)) (List.mem_map.2 ⟨_, by simp [List.getD_eq_getElem?_getD, hk], rfl⟩)).1
theorem good_by {q : T} (h : okR q = true) : q.ds.length ≤ 10 := by
  unfold okR okP at h
  have h1 : Nmt.namesL q.ds = true := by
    cases hh : Nmt.namesL q.ds
    · simp [pl, hh] at h
    · rfl
  unfold Nmt.namesL at h1
  simp at h1
  exact h1.1.2
theorem grp_len (ts : List T) (z : Int) (l : List Lb) : (grp ts z l).length ≤ 1048576 := by
  unfold grp
  split
  · have := Lab.selR_len l (ts.getD z.toNat t0).ds true; omega
  · simp
theorem grp_same {n : Nat} {ts ts' : List T} (h : Same n ts ts') (hn : ts.length = n) (hn' : ts'.length = n) (z : Int) (l : List Lb) : grp ts' z l = grp ts z l := by
  unfold grp
  rw [goodR_same h hn hn', hn, hn']
  split
  · rename_i g
    have := h z.toNat (by omega)
    rw [show (ts'.getD z.toNat t0).ds = (ts.getD z.toNat t0).ds from congrArg Pl.ds this]
  · rfl
set_option maxHeartbeats 4000000 in
theorem f26 (a la : Option Addr) (n c nl lc : Nat) (z : Int) (ts : List T) (l : List Lb) (w : World) (hn : ts.length = n) (hnl : l.length = nl) (hb : n ≤ 1048576) (hbl : nl ≤ 1048576) (hz : Sml ts) (hf : Fit ts) (hfl : Lab.Fit l) (hr : Has w a ts) (hrl : HasL w la l) :
    Calls Try.prog 26 #[.slice a n c, .int .i64 z, .slice la nl lc] w fun e w' => ∃ v, e = .returned v ∧ Anl.Own w' w.heap.size v (grp ts z l) ∧ Below w.heap.size w w' := by
  have HC := hid (f23n a n c ts w hn hb hr hf hz)
  have HN := hid hn
  have HNL := hid hnl
  have HR := hid hr
  have HRL := hid hrl
  have HF := hid hf
  have HFL := hid hfl
  have HZ := hid hz
  have HNO : Hid (¬ (goodR ts = true ∧ 0 ≤ z ∧ z < (n : Int)) → ∀ x : World, Anl.Own x w.heap.size (.slice none 0 0) (grp ts z l)) := by
    intro h x; rw [grp_no (by rw [hn]; exact h)]; exact World.ownsRow_nil _ _ _ _
  clear hn hnl hr hrl hf hfl hz
  obtain ⟨G, hG⟩ : ∃ G, G = goodR ts := ⟨_, rfl⟩
  have HG := hid hG
  rw [← hG] at HC HNO
  clear hG
  go_enter Try.func26, Try.ntmps26
  cases G
  · have HY := hid (HNO.out (by simp))
    go_wp2_with fail
    refine HC.out.mono ?_
    rintro e w1 ⟨rfl, hb1⟩
    have HB1 := hid hb1
    clear hb1 HC
    go_wp2
    go_ret
    exact ⟨_, rfl, HY.out _, HB1.out⟩
  go_wp2_with fail
  refine HC.out.mono ?_
  rintro e w1 ⟨rfl, hb1⟩
  have HB1 := hid hb1
  clear hb1 HC
  by_cases g1 : z < 0
  · have HY := hid (HNO.out (by omega))
    go_wp2
    go_ret
    exact ⟨_, rfl, HY.out _, HB1.out⟩
  by_cases g2 : z ≥ (n : Int)
  · have HY := hid (HNO.out (by omega))
    go_wp2
    go_ret
    exact ⟨_, rfl, HY.out _, HB1.out⟩
  obtain ⟨k, rfl⟩ : ∃ k : Nat, z = (k : Int) := ⟨z.toNat, by omega⟩
  have hk : k < n := by omega
  obtain ⟨b, off, rfl, hbl', hc, hl⟩ := (HR.out.below HB1.out).at2 k (by rw [HN.out]; exact hk)
  have HAN : Hid (grp ts (k : Int) l = selR l (ts.getD k t0).ds true) := grp_yes HG.out.symm (by rw [HN.out]; exact hk)
  have HBY := good_by (good_row HG.out.symm (by rw [HN.out]; exact hk))
  generalize ts.getD k t0 = q at *
  obtain ⟨d0, d1, d2, d3, d4, d5, d6, d7, d8⟩ := hc.all
  have HKL := hid (Lab.f50 la q.da nl lc q.ds.length q.dc l q.ds w1 HNL.out hbl (HRL.out.below HB1.out) HFL.out rfl (by omega) hl.d)
  clear hc hl
  go_wp2_with fail
  refine HKL.out.mono ?_
  rintro e w2 ⟨a', m, c', rfl, ho, hb2⟩
  have HO := hid ho
  have HB2 := hid (HB1.out.trans (hb2.mono HB1.out.size))
  have hsz := HB1.out.size
  clear ho hb2 HKL
  go_wp2
  go_ret
  refine ⟨_, rfl, ?_, HB2.out⟩
  rw [HAN.out]
  have e := Lab.own_len HO.out
  have := own_base HO.out hsz
  unfold Anl.Own
  rw [e]; exact this
set_option maxHeartbeats 4000000 in
theorem f25 (a la : Option Addr) (n c nl lc : Nat) (z : Int) (ts : List T) (l : List Lb) (w : World) (hn : ts.length = n) (hnl : l.length = nl) (hb : n ≤ 1048576) (hbl : nl ≤ 1048576) (hz : Sml ts) (hf : Fit ts) (hfl : Lab.Fit l) (hr : Has w a ts) (hrl : HasL w la l) :
    Calls Try.prog 25 #[.slice a n c, .int .i64 z, .slice la nl lc] w fun e w' => ∃ v, e = .returned v ∧ Anl.Own w' w.heap.size v (grp ts z l) ∧ Below w.heap.size w w' := by
  have HC := hid (f21n a n c ts w hn hb hr hf hz)
  have HN := hid hn
  have HNL := hid hnl
  have HR := hid hr
  have HRL := hid hrl
  have HF := hid hf
  have HFL := hid hfl
  have HZ := hid hz
  have HNO : Hid (¬ (goodR ts = true ∧ 0 ≤ z ∧ z < (n : Int)) → ∀ x : World, Anl.Own x w.heap.size (.slice none 0 0) (grp ts z l)) := by
    intro h x; rw [grp_no (by rw [hn]; exact h)]; exact World.ownsRow_nil _ _ _ _
  clear hn hnl hr hrl hf hfl hz
  obtain ⟨G, hG⟩ : ∃ G, G = goodR ts := ⟨_, rfl⟩
  have HG := hid hG
  rw [← hG] at HC HNO
  clear hG
  go_enter Try.func25, Try.ntmps25
  cases G
  · have HY := hid (HNO.out (by simp))
    go_wp2_with fail
    refine HC.out.mono ?_
    rintro e w1 ⟨rfl, hb1⟩
    have HB1 := hid hb1
    clear hb1 HC
    go_wp2
    go_ret
    exact ⟨_, rfl, HY.out _, HB1.out⟩
  go_wp2_with fail
  refine HC.out.mono ?_
  rintro e w1 ⟨rfl, hb1⟩
  have HB1 := hid hb1
  clear hb1 HC
  by_cases g1 : z < 0
  · have HY := hid (HNO.out (by omega))
    go_wp2
    go_ret
    exact ⟨_, rfl, HY.out _, HB1.out⟩
  by_cases g2 : z ≥ (n : Int)
  · have HY := hid (HNO.out (by omega))
    go_wp2
    go_ret
    exact ⟨_, rfl, HY.out _, HB1.out⟩
  obtain ⟨k, rfl⟩ : ∃ k : Nat, z = (k : Int) := ⟨z.toNat, by omega⟩
  have hk : k < n := by omega
  have HGL := hid (Lab.f37 la nl lc l w1 HNL.out (by unfold maxLen; omega) (HRL.out.below HB1.out) HFL.out)
  have HAN : Hid (grp ts (k : Int) l = selR l (ts.getD k t0).ds true) := grp_yes HG.out.symm (by rw [HN.out]; exact hk)
  have HBY := good_by (good_row HG.out.symm (by rw [HN.out]; exact hk))
  cases hgl : goodL l
  · have HY : Hid (∀ x : World, Anl.Own x w.heap.size (.slice none 0 0) (grp ts (k : Int) l)) := by
      intro x; rw [HAN.out, Lab.selR_no1 hgl]; exact World.ownsRow_nil _ _ _ _
    rw [hgl] at HGL
    clear hgl
    go_wp2_with fail
    refine HGL.out.mono ?_
    rintro e w2 ⟨rfl, hb2⟩
    have HB2 := hid (HB1.out.trans (hb2.mono HB1.out.size))
    clear hb2 HGL
    go_wp2
    go_ret
    exact ⟨_, rfl, HY.out _, HB2.out⟩
  have h20 : nl ≤ 20 := by have := (Lab.good_iff hgl).1; have := HNL.out; omega
  have HAN2 : Hid (grp ts (k : Int) l = selL (ts.getD k t0).ds true l) := HAN.out.trans (Lab.selR_yes hgl (by omega))
  rw [hgl] at HGL
  clear hgl
  go_wp2_with fail
  refine HGL.out.mono ?_
  rintro e w2 ⟨rfl, hb2⟩
  have HB2 := hid (HB1.out.trans (hb2.mono HB1.out.size))
  clear hb2 HGL
  obtain ⟨b, off, rfl, hbl', hc, hl⟩ := (HR.out.below HB2.out).at2 k (by rw [HN.out]; exact hk)
  generalize ts.getD k t0 = q at *
  obtain ⟨d0, d1, d2, d3, d4, d5, d6, d7, d8⟩ := hc.all
  have HKL := hid (Lab.f49 la q.da nl lc q.ds.length q.dc true l q.ds w2 HNL.out h20 (HRL.out.below HB2.out) rfl (by omega) hl.d)
  clear hc hl
  go_wp2_with fail
  refine HKL.out.mono ?_
  rintro e w3 ⟨a', m, c', rfl, ho, hb3⟩
  have HO := hid ho
  have HB3 := hid (HB2.out.trans (hb3.mono HB2.out.size))
  have hsz := HB2.out.size
  clear ho hb3 HKL
  go_wp2
  go_ret
  refine ⟨_, rfl, ?_, HB3.out⟩
  rw [HAN2.out]
  have e := Lab.own_len HO.out
  have := own_base HO.out hsz
  unfold Anl.Own
  rw [e]; exact this
end Go.Proofs.Ytkjodikccehmkaa.Rou
