/- Two good rules with one text are one rule: plain. -/
import Derived.Test.YtbijhkbmgljjiaaGreatDoorVh
namespace Go.Proofs.YtbijhkbmgljjiaaGreatDoor.Rdd
open Go.RowKit Go.Proofs.YtbijhkbmgljjiaaGreatDoor.Pat

theorem data_inj {a b : ByteArray} (h : a.data.toList = b.data.toList) : a = b := ByteArray.ext (Array.toList_inj.1 h)
theorem beh_inj {v l : List UInt8} {a b : ByteArray} {x y : List UInt8} (h : Rel.beh v l = some (a.data.toList, x)) (h' : Rel.beh v l = some (b.data.toList, y)) : a = b ∧ x = y := by
  rw [h] at h'
  have := (Prod.mk.injEq _ _ _ _).mp (Option.some.inj h')
  exact ⟨data_inj this.1, this.2⟩
theorem from_inj {r r' : Rel.Rule} (h : Rel.goodR r = true) (h' : Rel.goodR r' = true) (e : Rel.t0 r = Rel.t0 r') : r.from' = r'.from' ∧ Rel.t1 r = Rel.t1 r' := by
  cases hg : sg sF (Rel.t0 r)
  · have a := kn_from_no h rfl hg
    have b := kn_from_no h' e hg
    exact ⟨a.1.symm.trans b.1, a.2.symm.trans b.2⟩
  · by_cases hf : r.from' = []
    · rw [(sg_no (Rel.back_from_no r hf).1).1] at hg; cases hg
    · obtain ⟨l, h1, h2⟩ := Rel.back_from_yes r 10 hf (by have := (from_len h).1; omega) (from_len h).2
      have hw : Rel.wrds 10 (rs sF (Rel.t0 r)) = (r.from'.map (·.data.toList), Rel.t1 r) := by rw [(sg_of h1).2]; exact h2
      exact kn_from_yes h' e (by decide) hg hw
theorem to_inj {r r' : Rel.Rule} (h : Rel.goodR r = true) (h' : Rel.goodR r' = true) (e : Rel.t3 r = Rel.t3 r') : r.tgt = r'.tgt ∧ Rel.t4 r = Rel.t4 r' := by
  cases hg : sg sT (Rel.t3 r)
  · have a := kn_to_no h rfl hg
    have b := kn_to_no h' e hg
    exact ⟨a.1.symm.trans b.1, a.2.symm.trans b.2⟩
  · have a := kn_to_yes h rfl hg
    have b := kn_to_yes h' e hg
    exact ⟨a.1.symm.trans b.1, a.2.symm.trans b.2⟩
theorem by_inj {r r' : Rel.Rule} (h : Rel.goodR r = true) (h' : Rel.goodR r' = true) (e : Rel.t5 r = Rel.t5 r') : r.md = r'.md := by
  cases hg : sg sB (Rel.t5 r)
  · exact (kn_by_no rfl hg).symm.trans (kn_by_no e hg)
  · obtain ⟨a1, a2, a3⟩ := kn_by_yes h rfl hg
    obtain ⟨b1, b2, b3⟩ := kn_by_yes h' e hg
    have c := Rel.atoi_itoa r.md a2 a3
    rw [← a1, b1, Rel.atoi_itoa r'.md b2 b3] at c
    exact (Lib.NumEnd.ok.inj c).symm
theorem txt_inj {r r' : Rel.Rule} (h : Rel.goodR r = true) (h' : Rel.goodR r' = true) (e : Rel.txtR r = Rel.txtR r') : r = r' := by
  obtain ⟨a1, a2⟩ := Rel.good_act h
  obtain ⟨b1, b2⟩ := Rel.good_act h'
  have w1 := Rel.back_word r ⟨a1, a2⟩
  rw [e, Rel.back_word r' ⟨b1, b2⟩] at w1
  obtain ⟨w2, e0⟩ := (Prod.mk.injEq _ _ _ _).mp w1
  have hA : r.act = r'.act := by
    have := Rel.wd_inj r.act.toNat r'.act.toNat (by omega) (by omega) (by omega) (by omega) (by rw [show ((r.act.toNat : Nat) : Int) = r.act from by omega, show ((r'.act.toNat : Nat) : Int) = r'.act from by omega]; exact w2.symm)
    omega
  obtain ⟨hF, e1⟩ := from_inj h h' e0.symm
  obtain ⟨hS, e2⟩ := beh_inj (Rel.back_sep r) (by rw [e1]; exact Rel.back_sep r')
  obtain ⟨hP, e3⟩ := beh_inj (Rel.back_pat r) (by rw [e2]; exact Rel.back_pat r')
  obtain ⟨hT, e4⟩ := to_inj h h' e3
  obtain ⟨hV, e5⟩ := beh_inj (Rel.back_val r) (by rw [e4]; exact Rel.back_val r')
  have hM := by_inj h h' e5
  obtain ⟨A, ss, sep, pat, tgt, val, md⟩ := r
  obtain ⟨A', ss', sep', pat', tgt', val', md'⟩ := r'
  simp only at hA hF hS hP hT hV hM
  subst hA hF hS hP hT hV hM
  rfl
end Go.Proofs.YtbijhkbmgljjiaaGreatDoor.Rdd
