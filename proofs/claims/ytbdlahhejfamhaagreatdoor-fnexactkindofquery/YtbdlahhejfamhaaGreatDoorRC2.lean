/- The program's GoodQuery: whether all rows are one tree, and all of its nodes right. -/
import Derived.Test.YtbdlahhejfamhaaGreatDoorRC4
import Derived.Test.YtbdlahhejfamhaaGreatDoorRQpi
namespace Go.Proofs.YtbdlahhejfamhaaGreatDoor.Qry
open Go.RowKit
open Go.Proofs.YtbdlahhejfamhaaGreatDoor.Pat (ret_bool)

theorem growOk : ∀ m, GrowOk m := by
  intro m
  induction m with
  | zero =>
    intro rs a c w0 w hm h60 hc hcm hr hrw hb0
    have e := List.length_eq_zero_iff.1 (Nat.le_zero.1 hm)
    subst e
    go_enter Tryz.func66, Tryz.ntmps66
    go_wp2
    refine bodyPost_ret (results_tmp3 rfl _ _ _) rfl ?_
    exact ⟨Below.refl _ _, .inl ⟨rfl, fun d t x e => no_rows t x e⟩⟩
  | succ m ih =>
    intro rs a c w0 w hm h60 hc hcm hr hrw hb0
    cases rs with
    | nil =>
      go_enter Tryz.func66, Tryz.ntmps66
      go_wp2
      refine bodyPost_ret (results_tmp3 rfl _ _ _) rfl ?_
      exact ⟨Below.refl _ _, .inl ⟨rfl, fun d t x e => no_rows t x e⟩⟩
    | cons q tl => exact grow_step m ih q tl a c w0 w (by simpa using hm) (by simpa using h60) (by simpa using hc) hcm hr hrw hb0
/-- What the call of goodTree leaves. -/
def GtR (w0 : World) (ps : List Pl) (w : World) (e : Ending) (w' : World) : Prop :=
  Below w.heap.size w w' ∧ ((∃ v, e = .returned (.tuple #[v, .bool false]) ∧ ¬ GoodQ ps) ∨ ∃ t v, e = .returned (.tuple #[v, .bool true]) ∧ ps = rows t ∧ ps.length ≤ 60 ∧ Gt NM 1 t ∧ Nv w0 (fun b => w.heap.size ≤ b ∧ b < w'.heap.size) w' t v)
theorem no_good {ps : List Pl} (h : ∀ d t x, ps = rows t ++ x → ¬ Gt N1 d t) : ¬ GoodQ ps := by
  rintro ⟨_, t, e, hg⟩
  exact h 0 t [] (by simpa using e) ((gt_iff t 0).1 hg).1
theorem no_rest {ps x : List Pl} {t : Tr} (hx : x ≠ []) (e : ps = rows t ++ x) (hg : Gt N1 0 t) : ¬ GoodQ ps := by
  rintro ⟨_, t', e', hg'⟩
  have := rows_one N1 N1 t t' 0 0 x [] hg ((gt_iff t' 0).1 hg').1 (by rw [← e, e']; simp)
  exact hx this.2
theorem no_right {ps : List Pl} {t : Tr} (e : ps = rows t) (hg : Gt N1 0 t) (hn : ¬ Gt N2 0 t) : ¬ GoodQ ps := by
  rintro ⟨_, t', e', hg'⟩
  obtain ⟨rfl, _⟩ := rows_one N1 N1 t t' 0 0 [] [] hg ((gt_iff t' 0).1 hg').1 (by rw [← e, e'])
  exact hn ((gt_iff t 0).1 hg').2
set_option maxHeartbeats 4000000 in
theorem f33 (rs : List R) (a : Option Addr) (c : Nat) (w0 w : World) (hl : rs.length ≤ maxLen) (hc : rs.length ≤ c) (hcm : c ≤ maxLen) (hr : HasR w a rs) (hrw : ∀ q ∈ rs, Rw w0 q) (hb0 : Below w0.heap.size w0 w) (ht : Tabs w) : Calls Tryz.prog 33 #[.slice a rs.length c] w (GtR w0 (rs.map pl) w) := by
  have hl' := hl
  unfold maxLen at hl'
  by_cases h60 : 60 < rs.length
  · go_enter Tryz.func33, Tryz.ntmps33
    go_wp2
    go_ret2
    exact ⟨Below.refl _ _, .inl ⟨_, rfl, fun h => by have := h.1; simp at this; omega⟩⟩
  have HT := hid ht
  have HB0 := hid hb0
  have HGR := hid (growOk 60 rs a c w0 w (by omega) (by omega) hc hcm hr hrw hb0)
  clear ht hb0 hr hrw
  go_enter Tryz.func33, Tryz.ntmps33
  go_wp2_with fail
  refine HGR.out.mono ?_
  rintro e w1 ⟨hb1, hk⟩
  rcases hk with ⟨rfl, hno⟩ | ⟨t, v, rest, a', c', rfl, hsf, hll, hmap, hgt, hnv, hlie, hcl, hcx⟩
  · have HN := hid (no_good hno)
    have HB1 := hid hb1
    clear hno hb1
    go_wp2
    go_ret2
    exact ⟨HB1.out, .inl ⟨_, rfl, HN.out⟩⟩
  · have HB1 := hid hb1
    have HM := hid hmap
    have HG := hid hgt
    have HV := hid hnv
    clear hmap hgt hnv hsf hlie hb1
    by_cases hr0 : rest.length = 0
    · have hrr : rest = [] := List.length_eq_zero_iff.1 hr0
      subst hrr
      have HM' : Hid (rs.map pl = rows t) := by unfold Hid; rw [HM.out]; simp
      have HX : Hid (∀ wx, Below w1.heap.size w1 wx → Calls Tryz.prog 67 #[v, .int .i64 12] wx fun e w' => (∃ b, e = .returned (.bool b) ∧ (b = true ↔ Gt N2 0 t)) ∧ Below wx.heap.size wx w') := fun wx hx => f67 12 12 t v w0 _ wx 0 rfl rfl HG.out (Nv.agr (Agr.below hx) t v HV.out) (HB0.out.trans ((HB1.out.trans (hx.mono HB1.out.size)).mono HB0.out.size)) ((HT.out.below HB1.out).below hx)
      go_wp2_with (go_at_call 67; refine (HX.out _ (Below.refl _ _)).mono ?_; rintro e w2 ⟨⟨bb, rfl, hbb⟩, hb2⟩; have HB2 := hid hb2; have HBB := hid hbb; clear hb2 hbb)
      all_goals
        go_ret2
        refine ⟨HB1.out.trans (HB2.out.mono HB1.out.size), ?_⟩
        cases bb
        · exact .inl ⟨_, rfl, no_right HM'.out HG.out (fun h => by have := HBB.out.2 h; cases this)⟩
        · refine .inr ⟨t, v, rfl, HM'.out, by simp; omega, (gt_iff t 0).2 ⟨HG.out, HBB.out.1 rfl⟩, Nv.agr (S := fun b => w.heap.size ≤ b ∧ b < w1.heap.size) ⟨HB2.out.size, fun b _ hb => HB2.out.block b hb, fun b hb => ⟨hb.1, Nat.lt_of_lt_of_le hb.2 HB2.out.size⟩⟩ t v HV.out⟩
    · have HN : Hid (¬ GoodQ (rs.map pl)) := no_rest (x := rest.map pl) (by intro e; exact hr0 (by simpa using congrArg List.length e)) HM.out HG.out
      have hq : ((rest.length : Int) == 0) = false := by simp; intro e; exact hr0 (by simp [e])
      go_wp2
      go_ret2
      exact ⟨HB1.out, .inl ⟨_, rfl, HN.out⟩⟩
end Go.Proofs.YtbdlahhejfamhaaGreatDoor.Qry
