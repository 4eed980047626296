/- Lists of structs marked: only their own memory is written. -/
import Derived.Test.YtkjodikccehmkaaGreatRRoo
import Derived.Test.YtkjodikccehmkaaGreatRFrw
import Derived.Test.YtkjodikccehmkaaGreatRPs
namespace Go.Proofs.YtkjodikccehmkaaGreat.Rou
open Go.RowKit
open Go.Proofs.YtkjodikccehmkaaGreat.Pat (Mt HasM FitM)
open Go.Proofs.YtkjodikccehmkaaGreat.Rwc
open Go.Proofs.YtkjodikccehmkaaGreat.Frw (Fr apart)

/-- How many marks a row takes. -/
def mw (q : T) : Nat := 6 + 3 * q.ms.length + 1 * q.ds.length + 1 * q.us.length
def mtt (ts : List T) : Nat → Nat
  | 0 => 0
  | k + 1 => mtt ts k + mw (ts.getD k t0)
theorem mtt_mono (ts : List T) : ∀ (k j : Nat), j ≤ k → mtt ts j ≤ mtt ts k := by
  intro k
  induction k with
  | zero => intro j h; rw [show j = 0 by omega]; exact Nat.le_refl _
  | succ k ih =>
    intro j h
    by_cases e : j = k + 1
    · rw [e]; exact Nat.le_refl _
    · have := ih j (by omega)
      simp only [mtt]; omega
theorem mtt_tot (ts : List T) : ∀ k, mtt ts k ≤ 6 * k + 3 * tot ts k
  | 0 => by simp [mtt]
  | k + 1 => by
    have := mtt_tot ts k
    simp only [mtt, tot, mw, wt]; omega
theorem Own1.grown {X B U r : Nat} {q : T} {w x : World} (h : Own1 X B U q w) (hg : w.grownBy x (some r)) (hc : r < B ∨ U ≤ r) : Own1 X B U q x := by
  obtain ⟨gm, xm, ym, zm, om⟩ := h.m
  obtain ⟨gd, xd, yd, zd, od⟩ := h.d
  obtain ⟨gu, xu, yu, zu, ou⟩ := h.u
  exact ⟨⟨gm, xm, ym, zm, own_grown om hg (by omega)⟩, ⟨gd, xd, yd, zd, own_grown od hg (by omega)⟩, ⟨gu, xu, yu, zu, own_grown ou hg (by omega)⟩⟩
/-- The rows from i on have their lists as they were; what was written lies from g to Y. -/
structure Mk (X g Y n i : Nat) (Z : Nat → Nat) (ts : List T) (w x : World) (ys : List Value) : Prop where
  row : x.ownsRow X 52 9 (.slice (some ⟨g, 0, none⟩) n n) n ys
  midm : ∀ j, j < n → ys[j * 9 + 1]? = some (.slice (ts.getD j t0).ma (ts.getD j t0).ms.length (ts.getD j t0).mc)
  midd : ∀ j, j < n → ys[j * 9 + 2]? = some (.slice (ts.getD j t0).da (ts.getD j t0).ds.length (ts.getD j t0).dc)
  midu : ∀ j, j < n → ys[j * 9 + 6]? = some (.slice (ts.getD j t0).ua (ts.getD j t0).us.length (ts.getD j t0).uc)
  own : ∀ j, i ≤ j → j < n → Own1 X (Z j) (Z (j + 1)) (ts.getD j t0) x
  fr : Fr g Y w x
theorem Mk.below {X g Y n i : Nat} {Z : Nat → Nat} {ts : List T} {w x y : World} {ys : List Value} (h : Mk X g Y n i Z ts w x ys) (hb : Below x.heap.size x y) : Mk X g Y n i Z ts w y ys :=
  ⟨own_below h.row hb, h.midm, h.midd, h.midu, fun j h1 h2 => (h.own j h1 h2).below hb, h.fr.below hb⟩
theorem Mk.weak {X g Y n i : Nat} {Z : Nat → Nat} {ts : List T} {w x : World} {ys : List Value} (h : Mk X g Y n i Z ts w x ys) : Mk X g Y n (i + 1) Z ts w x ys :=
  ⟨h.row, h.midm, h.midd, h.midu, fun j h1 h2 => h.own j (by omega) h2, h.fr⟩
theorem Mk.set {X g Y n i o : Nat} {Z : Nat → Nat} {ts : List T} {w x : World} {ys : List Value} (h : Mk X g Y n i Z ts w x ys) (hZ : g < Z 0) (hU : ∀ j, j ≤ n → Z 0 ≤ Z j) (hY : g < Y) (v : Value) (hom : ∀ j, j * 9 + 1 ≠ o) (hod : ∀ j, j * 9 + 2 ≠ o) (hou : ∀ j, j * 9 + 6 ≠ o) : Mk X g Y n i Z ts w (x.setCell ⟨g, o, none⟩ v) (ys.set o v) :=
  ⟨(h.row.stored o v).1, fun j hj => by rw [List.getElem?_set_ne (Ne.symm (hom j))]; exact h.midm j hj, fun j hj => by rw [List.getElem?_set_ne (Ne.symm (hod j))]; exact h.midd j hj, fun j hj => by rw [List.getElem?_set_ne (Ne.symm (hou j))]; exact h.midu j hj, fun j h1 h2 => (h.own j h1 h2).set (.inl (by have := hU j (by omega); omega)) v, h.fr.set (Nat.le_refl _) hY v⟩
theorem Mk.next {X g Y n i r : Nat} {Z : Nat → Nat} {ts : List T} {w x y : World} {ys : List Value} (h : Mk X g Y n (i + 1) Z ts w x ys) (hg : x.grownBy y (some r)) (hZ : g < Z 0) (hU : ∀ a b, a ≤ b → b ≤ n → Z a ≤ Z b) (h1 : Z i ≤ r) (h2 : r < Z (i + 1)) (hi : i < n) (hY : Z n ≤ Y) : Mk X g Y n (i + 1) Z ts w y ys := by
  have q1 := hU 0 i (Nat.zero_le _) (by omega)
  have q2 := hU (i + 1) n (by omega) (Nat.le_refl _)
  refine ⟨own_grown h.row hg (by omega), h.midm, h.midd, h.midu, fun j a b => (h.own j a b).grown hg (.inl ?_), h.fr.grown hg (by omega) (by omega)⟩
  have := hU (i + 1) j a (by omega)
  omega

set_option maxRecDepth 20000 in
set_option maxHeartbeats 8000000 in
theorem f13 (X g Y n k : Nat) (Z : Nat → Nat) (ts : List T) (w : World) (hb : n ≤ 1048576) (hk : k + mtt ts n ≤ 100000000) (hz : Sml ts) (hrow : w.ownsRow X 52 9 (.slice (some ⟨g, 0, none⟩) n n) n (flat ts)) (hkin : Owns X g n Z ts w) (hY : Z n ≤ Y) :
    Calls Tryz.prog 13 #[.slice (some ⟨g, 0, none⟩) n n, .int .i64 k] w fun e w' => e = .returned (.int .i64 ((k + mtt ts n : Nat) : Int)) ∧ Fr g Y w w' := by
  have HK := hid hk
  have HN := hid hkin.len
  have HLo := hid hkin.low
  have HU : Hid (∀ a b, a ≤ b → b ≤ n → Z a ≤ Z b) := fun a b h1 h2 => hkin.zle b a h1 h2
  have HS := hid hz
  have HYY : Hid (Z n ≤ Y) := hY
  have HGY : Hid (g < Y) := by have := HU.out 0 n (Nat.zero_le _) (Nat.le_refl _); have := HLo.out; unfold Hid; omega
  have H0 : Hid (Mk X g Y n 0 Z ts w w (flat ts)) := ⟨hrow, fun j hj => flat_get ts j 1 (by rw [HN.out]; exact hj) (by omega), fun j hj => flat_get ts j 2 (by rw [HN.out]; exact hj) (by omega), fun j hj => flat_get ts j 6 (by rw [HN.out]; exact hj) (by omega), fun j _ hj => hkin.own j hj, Frw.Fr.refl _ _ _⟩
  clear hk hz hrow hkin hY
  go_enter Tryz.func13, Tryz.ntmps13
  go_wp2
  go_loopw [1, 5] (fun sk si wr => ∃ (i m : Nat) (ys : List Value), i ≤ n ∧ si = .int .i64 i ∧ sk = .int .i64 (m : Int) ∧ Hid (m = k + mtt ts i) ∧ Hid (Mk X g Y n i Z ts w wr ys)) (fun _ si _ => n - (intOf si).toNat)
  case atStart => exact ⟨0, k, _, Nat.zero_le _, rfl, rfl, rfl, H0.out⟩
  case round =>
    clear H0
    obtain ⟨i, m, ys, hi, rfl, rfl, hm, HM0⟩ := hrel
    by_cases hlt : i < n
    rotate_left
    · obtain rfl : i = n := by omega
      have HX := hid HM0.out.fr
      have i1 : ¬ (i : Int) < (i : Int) := by omega
      go_wp2
      go_ret
      exact ⟨congrArg (fun z : Int => Ending.returned (.int .i64 z)) (by have := hm.out; omega : (m : Int) = ((k + mtt ts i : Nat) : Int)), HX.out⟩
    have i1 : (i : Int) < (n : Int) := by omega
    have HT : Hid (mtt ts (i + 1) = mtt ts i + mw (ts.getD i t0)) := rfl
    have hmono := mtt_mono ts n (i + 1) (by omega)
    have hsz : wt (ts.getD i t0) ≤ 1048576 := HS.out i (by rw [HN.out]; exact hlt)
    have HL : Hid (ys.length = n * 9) := HM0.out.row.1
    have HU0 : Hid (∀ j, j ≤ n → Z 0 ≤ Z j) := fun j hj => HU.out 0 j (Nat.zero_le _) hj
    obtain ⟨gm, em, lom, upm, om⟩ := (HM0.out.own i (Nat.le_refl _) hlt).m
    obtain ⟨gd, ed, lod, upd, od⟩ := (HM0.out.own i (Nat.le_refl _) hlt).d
    obtain ⟨gu, eu, lou, upu, ou⟩ := (HM0.out.own i (Nat.le_refl _) hlt).u
    have HEm := hid em
    have Om := hid om
    clear em om
    have HEd := hid ed
    have Od := hid od
    clear ed od
    have HEu := hid eu
    have Ou := hid ou
    clear eu ou
    have hm1 : m + mw (ts.getD i t0) ≤ 100000000 := by have := hm.out; have := HK.out; have := HT.out; omega
    have HE : Hid (m + mw (ts.getD i t0) = k + mtt ts (i + 1)) := by unfold Hid; have := hm.out; have := HT.out; omega
    unfold mw at hm1 HE
    unfold wt at hsz
    generalize hNm : (ts.getD i t0).ms.length = Nm at *
    generalize hCm : (ts.getD i t0).mc = Cm at *
    generalize hSm : (ts.getD i t0).ms = Sm at *
    replace hNm := hid hNm
    replace hCm := hid hCm
    replace hSm := hid hSm
    generalize hNd : (ts.getD i t0).ds.length = Nd at *
    generalize hCd : (ts.getD i t0).dc = Cd at *
    generalize hSd : (ts.getD i t0).ds = Sd at *
    replace hNd := hid hNd
    replace hCd := hid hCd
    replace hSd := hid hSd
    generalize hNu : (ts.getD i t0).us.length = Nu at *
    generalize hCu : (ts.getD i t0).uc = Cu at *
    generalize hSu : (ts.getD i t0).us = Su at *
    replace hNu := hid hNu
    replace hCu := hid hCu
    replace hSu := hid hSu
    clear hmono
    have HM := hid HM0.out.weak
    clear HM0
    go_wp2_with fail
    refine (Lab.f29 m _ (by omega)).mono ?_
    rintro e w2 ⟨rfl, hb⟩
    obtain ⟨y2, HL2, HM2⟩ : ∃ zs : List Value, Hid (zs.length = n * 9) ∧ Hid (Mk X g Y n (i + 1) Z ts w w2 zs) := ⟨_, (HM.out.below hb).row.1, HM.out.below hb⟩
    replace Om := hid (own_below Om.out hb)
    replace Od := hid (own_below Od.out hb)
    replace Ou := hid (own_below Ou.out hb)
    clear hb HM
    have fz0 := HM2.out.row.frozenAt (i * 9)
    obtain ⟨z0, hz0⟩ : ∃ z, w2.cell? ⟨g, i * 9, none⟩ = some z := ⟨y2[i * 9]'(by rw [HL2.out]; omega), by rw [HM2.out.row.cellAt (i * 9) (by omega), List.getElem?_eq_getElem (by rw [HL2.out]; omega)]⟩
    have dm : w2.cell? ⟨g, i * 9 + 1, none⟩ = some (.slice (some ⟨gm, 0, none⟩) Nm Cm) := (HM2.out.row.cellAt (i * 9 + 1) (by omega)).trans (by rw [HM2.out.midm i hlt, HEm.out, hSm.out, hNm.out, hCm.out])
    have HA1 := hid (Mk.set HM2.out (o := i * 9) HLo.out HU0.out HGY.out (.string (Lab.mkT m)) (fun j => by omega) (fun j => by omega) (fun j => by omega))
    replace Om := hid (own_set Om.out (p := ⟨g, i * 9, none⟩) (by simp only; have := HLo.out; have := HU0.out i (by omega); omega) (.string (Lab.mkT m)))
    replace Od := hid (own_set Od.out (p := ⟨g, i * 9, none⟩) (by simp only; have := HLo.out; have := HU0.out i (by omega); omega) (.string (Lab.mkT m)))
    replace Ou := hid (own_set Ou.out (p := ⟨g, i * 9, none⟩) (by simp only; have := HLo.out; have := HU0.out i (by omega); omega) (.string (Lab.mkT m)))
    have npd : gd ≠ gm := fun e => apart Od.out Om.out (by decide) rfl (by rw [e]; rfl)
    have npu : gu ≠ gm := fun e => apart Ou.out Om.out (by decide) rfl (by rw [e]; rfl)
    go_wp2_with fail
    refine (Frw.f30 gm Nm Cm X (m + 1) _ _ (by omega) (by omega) Om.out).mono ?_
    rintro e w3 ⟨rfl, hg⟩
    obtain ⟨y3, HL3, HM3⟩ : ∃ zs : List Value, Hid (zs.length = n * 9) ∧ Hid (Mk X g Y n (i + 1) Z ts w w3 zs) := ⟨_, (HA1.out.next hg HLo.out HU.out lom upm hlt HYY.out).row.1, HA1.out.next hg HLo.out HU.out lom upm hlt HYY.out⟩
    replace Od := hid (own_grown Od.out hg npd)
    replace Ou := hid (own_grown Ou.out hg npu)
    clear hg Om npd npu HM2 HA1
    obtain ⟨m3, hm3⟩ : ∃ z, z = (m + 1) + 3 * Nm := ⟨_, rfl⟩
    rw [← hm3]
    have hbm3 : m3 + (5 + 1 * Nd + 1 * Nu) ≤ 100000000 := by omega
    have HVm3 := hid hm3
    clear hm3
    have dd : w3.cell? ⟨g, i * 9 + 2, none⟩ = some (.slice (some ⟨gd, 0, none⟩) Nd Cd) := (HM3.out.row.cellAt (i * 9 + 2) (by omega)).trans (by rw [HM3.out.midd i hlt, HEd.out, hSd.out, hNd.out, hCd.out])
    have npu : gu ≠ gd := fun e => apart Ou.out Od.out (by decide) rfl (by rw [e]; rfl)
    go_wp2_with fail
    refine (Pat.f31 gd Nd Cd X m3 Sd _ hNd.out (by omega) Od.out).mono ?_
    rintro e w4 ⟨rfl, _, hg⟩
    obtain ⟨y4, HL4, HM4⟩ : ∃ zs : List Value, Hid (zs.length = n * 9) ∧ Hid (Mk X g Y n (i + 1) Z ts w w4 zs) := ⟨_, (HM3.out.next hg HLo.out HU.out lod upd hlt HYY.out).row.1, HM3.out.next hg HLo.out HU.out lod upd hlt HYY.out⟩
    replace Ou := hid (own_grown Ou.out hg npu)
    clear hg Od npu HM3
    obtain ⟨m4, hm4⟩ : ∃ z, z = m3 + Nd := ⟨_, rfl⟩
    rw [← hm4]
    have hbm4 : m4 + (5 + 1 * Nu) ≤ 100000000 := by omega
    have HVm4 := hid hm4
    clear hm4
    have fz3 := HM4.out.row.frozenAt (i * 9 + 3)
    obtain ⟨z3, hz3⟩ : ∃ z, w4.cell? ⟨g, i * 9 + 3, none⟩ = some z := ⟨y4[i * 9 + 3]'(by rw [HL4.out]; omega), by rw [HM4.out.row.cellAt (i * 9 + 3) (by omega), List.getElem?_eq_getElem (by rw [HL4.out]; omega)]⟩
    have fz4 := HM4.out.row.frozenAt (i * 9 + 4)
    obtain ⟨z4, hz4⟩ : ∃ z, w4.cell? ⟨g, i * 9 + 4, none⟩ = some z := ⟨y4[i * 9 + 4]'(by rw [HL4.out]; omega), by rw [HM4.out.row.cellAt (i * 9 + 4) (by omega), List.getElem?_eq_getElem (by rw [HL4.out]; omega)]⟩
    have fz5 := HM4.out.row.frozenAt (i * 9 + 5)
    obtain ⟨z5, hz5⟩ : ∃ z, w4.cell? ⟨g, i * 9 + 5, none⟩ = some z := ⟨y4[i * 9 + 5]'(by rw [HL4.out]; omega), by rw [HM4.out.row.cellAt (i * 9 + 5) (by omega), List.getElem?_eq_getElem (by rw [HL4.out]; omega)]⟩
    have du : w4.cell? ⟨g, i * 9 + 6, none⟩ = some (.slice (some ⟨gu, 0, none⟩) Nu Cu) := (HM4.out.row.cellAt (i * 9 + 6) (by omega)).trans (by rw [HM4.out.midu i hlt, HEu.out, hSu.out, hNu.out, hCu.out])
    have HA2 := hid (Mk.set HM4.out (o := i * 9 + 3) HLo.out HU0.out HGY.out (.int .i64 (m4 : Int)) (fun j => by omega) (fun j => by omega) (fun j => by omega))
    replace Ou := hid (own_set Ou.out (p := ⟨g, i * 9 + 3, none⟩) (by simp only; have := HLo.out; have := HU0.out i (by omega); omega) (.int .i64 (m4 : Int)))
    have HA3 := hid (Mk.set HA2.out (o := i * 9 + 4) HLo.out HU0.out HGY.out (.int .i64 ((m4 : Int) + 1)) (fun j => by omega) (fun j => by omega) (fun j => by omega))
    replace Ou := hid (own_set Ou.out (p := ⟨g, i * 9 + 4, none⟩) (by simp only; have := HLo.out; have := HU0.out i (by omega); omega) (.int .i64 ((m4 : Int) + 1)))
    have HA4 := hid (Mk.set HA3.out (o := i * 9 + 5) HLo.out HU0.out HGY.out (.int .i64 ((m4 : Int) + 2)) (fun j => by omega) (fun j => by omega) (fun j => by omega))
    replace Ou := hid (own_set Ou.out (p := ⟨g, i * 9 + 5, none⟩) (by simp only; have := HLo.out; have := HU0.out i (by omega); omega) (.int .i64 ((m4 : Int) + 2)))
    go_wp2_with fail
    refine (Ino.f15 gu Nu Cu X (((m4 + 3) : Nat) : Int) Su _ (by omega) (by omega) (by omega) Ou.out).mono ?_
    rintro e w5 ⟨rfl, _, hg⟩
    obtain ⟨y5, HL5, HM5⟩ : ∃ zs : List Value, Hid (zs.length = n * 9) ∧ Hid (Mk X g Y n (i + 1) Z ts w w5 zs) := ⟨_, (HA4.out.next hg HLo.out HU.out lou upu hlt HYY.out).row.1, HA4.out.next hg HLo.out HU.out lou upu hlt HYY.out⟩
    clear hg Ou  HM4 HA2 HA3 HA4
    obtain ⟨m5, hm5⟩ : ∃ z, z = (m4 + 3) + Nu := ⟨_, rfl⟩
    rw [show (((m4 + 3) : Nat) : Int) + (Nu : Int) = (m5 : Int) by rw [hm5]; omega]
    have hbm5 : m5 + (2) ≤ 100000000 := by omega
    have HVm5 := hid hm5
    clear hm5
    have fz7 := HM5.out.row.frozenAt (i * 9 + 7)
    obtain ⟨z7, hz7⟩ : ∃ z, w5.cell? ⟨g, i * 9 + 7, none⟩ = some z := ⟨y5[i * 9 + 7]'(by rw [HL5.out]; omega), by rw [HM5.out.row.cellAt (i * 9 + 7) (by omega), List.getElem?_eq_getElem (by rw [HL5.out]; omega)]⟩
    have fz8 := HM5.out.row.frozenAt (i * 9 + 8)
    obtain ⟨z8, hz8⟩ : ∃ z, w5.cell? ⟨g, i * 9 + 8, none⟩ = some z := ⟨y5[i * 9 + 8]'(by rw [HL5.out]; omega), by rw [HM5.out.row.cellAt (i * 9 + 8) (by omega), List.getElem?_eq_getElem (by rw [HL5.out]; omega)]⟩
    have HA5 := fun (v7 : Value) => hid (Mk.set HM5.out (o := i * 9 + 7) HLo.out HU0.out HGY.out (v7) (fun j => by omega) (fun j => by omega) (fun j => by omega))
    have HA6 := fun (v7 : Value) => hid (Mk.set (HA5 v7).out (o := i * 9 + 8) HLo.out HU0.out HGY.out (.int .i64 ((m5 : Int) + 1)) (fun j => by omega) (fun j => by omega) (fun j => by omega))
    have HZ : Hid ((m5 + 2) = k + mtt ts (i + 1)) := by unfold Hid; have := HE.out; have := HVm3.out; have := HVm4.out; have := HVm5.out; omega
    go_wp2
    go_roundw
    case rel => exact ⟨i + 1, (m5 + 2), _, by omega, by go_num, by go_num, HZ.out, (HA6 _).out⟩
    case measure => simp [intOf]; omega
end Go.Proofs.YtkjodikccehmkaaGreat.Rou
