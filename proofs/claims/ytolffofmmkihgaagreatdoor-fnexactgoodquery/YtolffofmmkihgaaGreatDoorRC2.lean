/- The program's GoodQuery: whether all rows are one tree, and all of its nodes right. -/
import Derived.Test.YtolffofmmkihgaaGreatDoorRC4
import Derived.Test.YtolffofmmkihgaaGreatDoorRQpi
import Derived.Test.YtolffofmmkihgaaGreatDoorRA3
import Derived.Test.YtolffofmmkihgaaGreatDoorRQmze
namespace Go.Proofs.YtolffofmmkihgaaGreatDoor.Qry
open Go.RowKit
open Go.Proofs.YtolffofmmkihgaaGreatDoor.Pat (ret_bool)

theorem growOk : ∀ m, GrowOk m := by
  intro m
  induction m with
  | zero =>
    intro rs a c w0 w hm h60 hc hcm hr hrw hb0
    have e := List.length_eq_zero_iff.1 (Nat.le_zero.1 hm)
    subst e
    go_enter Tryz.func35, Tryz.ntmps35
    go_wp2
    refine bodyPost_ret (results_tmp3 rfl _ _ _) rfl ?_
    exact ⟨Below.refl _ _, .inl ⟨rfl, fun d t x e => no_rows t x e⟩⟩
  | succ m ih =>
    intro rs a c w0 w hm h60 hc hcm hr hrw hb0
    cases rs with
    | nil =>
      go_enter Tryz.func35, Tryz.ntmps35
      go_wp2
      refine bodyPost_ret (results_tmp3 rfl _ _ _) rfl ?_
      exact ⟨Below.refl _ _, .inl ⟨rfl, fun d t x e => no_rows t x e⟩⟩
    | cons q tl => exact grow_step m ih q tl a c w0 w (by simpa using hm) (by simpa using h60) (by simpa using hc) hcm hr hrw hb0
/-- What the call of goodTree leaves. -/
def GtR (w0 : World) (ps : List Pl) (w : World) (e : Ending) (w' : World) : Prop :=
  Below w.heap.size w w' ∧ ((∃ v, e = .returned (.tuple #[v, .bool false]) ∧ ¬ GoodQ ps) ∨ ∃ t v, e = .returned (.tuple #[v, .bool true]) ∧ ps = rows t ∧ ps.length ≤ 60 ∧ Gt NM 1 t ∧ Nv w0 (fun b => w.heap.size ≤ b ∧ b < w'.heap.size) w' t v)
theorem no_good {ps : List Pl} (h : ∀ d t x, ps = rows t ++ x → ¬ Gt N1 d t) : ¬ GoodQ ps := by
  rintro ⟨_, t, e, hg⟩
  exact h 0 t [] (by simpa using e) ((gt_iff t 0).1 hg).1
theorem no_rest {ps x : List Pl} {t : Tr} (hx : x ≠ []) (e : ps = rows t ++ x) (hg : Gt N1 0 t) : ¬ GoodQ ps := by
  rintro ⟨_, t', e', hg'⟩
  have := rows_one N1 N1 t t' 0 0 x [] hg ((gt_iff t' 0).1 hg').1 (by rw [← e, e']; simp)
  exact hx this.2
theorem no_right {ps : List Pl} {t : Tr} (e : ps = rows t) (hg : Gt N1 0 t) (hn : ¬ Gt N2 0 t) : ¬ GoodQ ps := by
  rintro ⟨_, t', e', hg'⟩
  obtain ⟨rfl, _⟩ := rows_one N1 N1 t t' 0 0 [] [] hg ((gt_iff t' 0).1 hg').1 (by rw [← e, e'])
  exact hn ((gt_iff t 0).1 hg').2
set_option maxHeartbeats 4000000 in
theorem f21 (rs : List R) (a : Option Addr) (c : Nat) (w0 w : World) (hl : rs.length ≤ maxLen) (hc : rs.length ≤ c) (hcm : c ≤ maxLen) (hr : HasR w a rs) (hrw : ∀ q ∈ rs, Rw w0 q) (hb0 : Below w0.heap.size w0 w) (ht : Tabs w) : Calls Tryz.prog 21 #[.slice a rs.length c] w (GtR w0 (rs.map pl) w) := by
  have hl' := hl
  unfold maxLen at hl'
  by_cases h60 : 60 < rs.length
  · go_enter Tryz.func21, Tryz.ntmps21
    go_wp2
    go_ret2
    exact ⟨Below.refl _ _, .inl ⟨_, rfl, fun h => by have := h.1; simp at this; omega⟩⟩
  have HT := hid ht
  have HB0 := hid hb0
  have HGR := hid (growOk 60 rs a c w0 w (by omega) (by omega) hc hcm hr hrw hb0)
  clear ht hb0 hr hrw
  go_enter Tryz.func21, Tryz.ntmps21
  go_wp2_with fail
  refine HGR.out.mono ?_
  rintro e w1 ⟨hb1, hk⟩
  rcases hk with ⟨rfl, hno⟩ | ⟨t, v, rest, a', c', rfl, hsf, hll, hmap, hgt, hnv, hlie, hcl, hcx⟩
  · have HN := hid (no_good hno)
    have HB1 := hid hb1
    clear hno hb1
    go_wp2
    go_ret2
    exact ⟨HB1.out, .inl ⟨_, rfl, HN.out⟩⟩
  · have HB1 := hid hb1
    have HM := hid hmap
    have HG := hid hgt
    have HV := hid hnv
    clear hmap hgt hnv hsf hlie hb1
    by_cases hr0 : rest.length = 0
    · have hrr : rest = [] := List.length_eq_zero_iff.1 hr0
      subst hrr
      have HM' : Hid (rs.map pl = rows t) := by unfold Hid; rw [HM.out]; simp
      have HX : Hid (∀ wx, Below w1.heap.size w1 wx → Calls Tryz.prog 36 #[v, .int .i64 12] wx fun e w' => (∃ b, e = .returned (.bool b) ∧ (b = true ↔ Gt N2 0 t)) ∧ Below wx.heap.size wx w') := fun wx hx => f36 12 12 t v w0 _ wx 0 rfl rfl HG.out (Nv.agr (Agr.below hx) t v HV.out) (HB0.out.trans ((HB1.out.trans (hx.mono HB1.out.size)).mono HB0.out.size)) ((HT.out.below HB1.out).below hx)
      go_wp2_with (go_at_call 36; refine (HX.out _ (Below.refl _ _)).mono ?_; rintro e w2 ⟨⟨bb, rfl, hbb⟩, hb2⟩; have HB2 := hid hb2; have HBB := hid hbb; clear hb2 hbb)
      all_goals
        go_ret2
        refine ⟨HB1.out.trans (HB2.out.mono HB1.out.size), ?_⟩
        cases bb
        · exact .inl ⟨_, rfl, no_right HM'.out HG.out (fun h => by have := HBB.out.2 h; cases this)⟩
        · refine .inr ⟨t, v, rfl, HM'.out, by simp; omega, (gt_iff t 0).2 ⟨HG.out, HBB.out.1 rfl⟩, Nv.agr (S := fun b => w.heap.size ≤ b ∧ b < w1.heap.size) ⟨HB2.out.size, fun b _ hb => HB2.out.block b hb, fun b hb => ⟨hb.1, Nat.lt_of_lt_of_le hb.2 HB2.out.size⟩⟩ t v HV.out⟩
    · have HN : Hid (¬ GoodQ (rs.map pl)) := no_rest (x := rest.map pl) (by intro e; exact hr0 (by simpa using congrArg List.length e)) HM.out HG.out
      have hq : ((rest.length : Int) == 0) = false := by simp; intro e; exact hr0 (by simp [e])
      go_wp2
      go_ret2
      exact ⟨HB1.out, .inl ⟨_, rfl, HN.out⟩⟩
theorem f9 (rs : List R) (a : Option Addr) (c : Nat) (w0 w : World) (hl : rs.length ≤ maxLen) (hc : rs.length ≤ c) (hcm : c ≤ maxLen) (hr : HasR w a rs) (hrw : ∀ q ∈ rs, Rw w0 q) (hb0 : Below w0.heap.size w0 w) (ht : Tabs w) : Calls Tryz.prog 9 #[.slice a rs.length c] w fun e w' => (∃ b, e = .returned (.bool b) ∧ (b = true ↔ GoodQ (rs.map pl))) ∧ Below w.heap.size w w' := by
  have HG := hid (f21 rs a c w0 w hl hc hcm hr hrw hb0 ht)
  clear hr hrw hb0 ht
  go_enter Tryz.func9, Tryz.ntmps9
  go_wp2_with fail
  refine HG.out.mono ?_
  rintro e w1 ⟨hb1, hk⟩
  rcases hk with ⟨v, rfl, hno⟩ | ⟨t, v, rfl, he, h60, hgt, _⟩
  · have HN := hid hno
    have HB1 := hid hb1
    clear hno hb1
    go_wp2
    go_ret
    exact ⟨⟨false, rfl, fun h => (by cases h), fun h => absurd h HN.out⟩, HB1.out⟩
  · have HY : Hid (GoodQ (rs.map pl)) := ⟨h60, t, he, hgt⟩
    have HB1 := hid hb1
    clear hb1 he hgt h60
    go_wp2
    go_ret
    exact ⟨⟨true, rfl, fun _ => HY.out, fun _ => rfl⟩, HB1.out⟩
end Go.Proofs.YtolffofmmkihgaaGreatDoor.Qry
/- The walk of FnExactGoodQuery. -/
namespace Go.Proofs.YtolffofmmkihgaaGreatDoor.Qry
open Go.RowKit

theorem SameTo.same {n : Nat} {rs d : List R} (h : SameTo n rs d) : Same n rs d := fun i hi => (h i hi).1
theorem map_same {n : Nat} {rs d : List R} (h : Same n rs d) (hn : rs.length = n) (hd : d.length = n) : d.map pl = rs.map pl := by
  apply List.ext_getElem
  · simp [hn, hd]
  · intro i h1 h2
    have hi : i < n := by simpa [hd] using h1
    have := h i hi
    simpa [List.getD_eq_getElem?_getD, hn, hd, hi] using this
theorem rows_rw {w : World} {a : Option Addr} {d : List R} (hr : HasR w a d) (hf : FitR d) (hz : SmlR d) : ∀ q ∈ d, Rw w q := by
  intro q hq
  obtain ⟨i, hi, rfl⟩ := List.mem_iff_getElem.1 hq
  have e : d.getD i r0 = d[i] := by simp [List.getD_eq_getElem?_getD, hi]
  obtain ⟨_, _, _, _, _, hl⟩ := hr.at2 i hi
  have h2 := hf i
  have h3 := hz i hi
  rw [e] at hl h2 h3
  exact ⟨hl, h2, h3⟩

set_option maxHeartbeats 4000000 in
theorem walkGood (a : Option Addr) (n c : Nat) (rs : List R) (w : World) (hn : rs.length = n) (hmax : n ≤ maxLen) (hr : HasR w a rs) (hf : FitR rs) (ht : Tabs w) :
    Calls Tryz.prog 3 #[.slice a n c] w fun e w' => e = .returned (.bool true) ∧ Below w.heap.size w w' := by
  have HN := hid hn
  have HR := hid hr
  have HF := hid hf
  have HM := hid hmax
  have HT := hid ht
  clear hn hr hf hmax ht
  go_enter Tryz.func3, Tryz.ntmps3
  go_wp2_with fail
  refine (f6 a n c 1048576 rs _ (by omega) (by omega) HN.out HR.out HF.out HM.out).mono ?_
  rintro e w1 ⟨y, rfl, y0, y1, hy, hb⟩
  have HB1 := hid hb
  have HR1 := hid (HR.out.below hb)
  clear hb HR
  by_cases g0 : y < 0
  · go_wp2
    go_ret
    exact ⟨rfl, HB1.out⟩
  have h1 := hy (by omega)
  have hle : n ≤ 1048576 := by omega
  have HZ : Hid (SmlR rs) := sml_tot (by rw [HN.out]; omega)
  clear h1 hy
  have HMx : Hid (n ≤ maxLen) := HM.out
  go_wp2_with fail
  refine (f8 a n c rs _ HN.out hle HR1.out HZ.out).mono ?_
  rintro e w2 ⟨d2, rfl, hs2, ho2, hb⟩
  have HB2 := hid (HB1.out.trans (hb.mono HB1.out.size))
  have HR2 := hid (HR1.out.below hb)
  have HL2 : Hid (d2.length = n) := ho2.kin.len
  have HS2 := hid hs2.same
  have HH2 := hid ho2.has
  clear hb ho2 hs2 HB1 HR1
  have HG2 := hid (map_same HS2.out HN.out HL2.out)
  have HP := hid (f7 d2 (some ⟨w1.heap.size, 0, none⟩) n w2 w2 (by rw [HL2.out]; exact HMx.out) HH2.out (rows_rw HH2.out (HS2.out.fit HL2.out HF.out) (HS2.out.sml HN.out HL2.out HZ.out)) (Below.refl _ _))
  rw [HL2.out] at HP
  generalize w1.heap.size = X1 at *
  go_wp2_with fail
  refine HP.out.mono ?_
  rintro e w3 ⟨⟨R1, rfl, hR1⟩, hb⟩
  rw [HG2.out] at hR1
  have HB3 := hid (HB2.out.trans (hb.mono HB2.out.size))
  have HR3 := hid (HR2.out.below hb)
  have HRa := hid hR1
  clear hb hR1 HB2 HR2 HL2 HS2 HH2 HG2 HP
  go_wp2_with fail
  refine (f8 a n c rs _ HN.out hle HR3.out HZ.out).mono ?_
  rintro e w4 ⟨d4, rfl, hs4, ho4, hb⟩
  have HB4 := hid (HB3.out.trans (hb.mono HB3.out.size))
  have HR4 := hid (HR3.out.below hb)
  have HL4 : Hid (d4.length = n) := ho4.kin.len
  have HS4 := hid hs4.same
  have HH4 := hid ho4.has
  clear hb ho4 hs4 HB3 HR3
  have HG4 := hid (map_same HS4.out HN.out HL4.out)
  have HP := hid (f9 d4 (some ⟨w3.heap.size, 0, none⟩) n w4 w4 (by rw [HL4.out]; exact HMx.out) (by rw [HL4.out]; exact Nat.le_refl _) HMx.out HH4.out (rows_rw HH4.out (HS4.out.fit HL4.out HF.out) (HS4.out.sml HN.out HL4.out HZ.out)) (Below.refl _ _) (HT.out.below HB4.out))
  rw [HL4.out] at HP
  generalize w3.heap.size = X3 at *
  go_wp2_with fail
  refine HP.out.mono ?_
  rintro e w5 ⟨⟨R2, rfl, hR2⟩, hb⟩
  rw [HG4.out] at hR2
  have e12 : R2 = R1 := by
    have h := HRa.out
    cases R1 <;> cases R2 <;> simp_all
  subst e12
  have HB5 := hid (HB4.out.trans (hb.mono HB4.out.size))
  have HR5 := hid (HR4.out.below hb)
  have HH5 := hid (HH4.out.below hb)
  clear hb hR2 HB4 HR4 HH4 HRa HG4 HP
  have gR : (R2 != R2) = false := by simp
  go_wp2_with fail
  refine (f8 a n c rs _ HN.out hle HR5.out HZ.out).mono ?_
  rintro e w6 ⟨d6, rfl, hs6, ho6, hb⟩
  have HB6 := hid (HB5.out.trans (hb.mono HB5.out.size))
  have HH6 := hid (HH5.out.below hb)
  have HL6 : Hid (d6.length = n) := ho6.kin.len
  have HS6 := hid hs6.same
  have HO6 := hid ho6.has
  clear hb ho6 hs6 HB5 HH5
  generalize w5.heap.size = X5 at *
  go_wp2_with fail
  refine (f10 _ _ n n n d4 d6 _ HL4.out HL6.out hle HH6.out HO6.out (HS4.out.trans' HS6.out) (HS4.out.sml HN.out HL4.out HZ.out)).mono ?_
  rintro e w7 ⟨rfl, hb⟩
  have HB7 := hid (HB6.out.trans (hb.mono HB6.out.size))
  clear hb
  go_wp2
  go_ret
  exact ⟨rfl, HB7.out⟩
end Go.Proofs.YtolffofmmkihgaaGreatDoor.Qry
