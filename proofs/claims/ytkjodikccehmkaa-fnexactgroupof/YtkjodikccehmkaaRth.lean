/- How deep a tree of routes is: the walk through it. -/
import Derived.Test.YtkjodikccehmkaaRtf
namespace Go.Proofs.Ytkjodikccehmkaa.Rou
open Go.RowKit
open Go.Proofs.Ytkjodikccehmkaa.Rwc

/-- The variables of a walk that tells how deep it is. -/
structure DVars (Bv Bs Bm : Nat) (m : Nat) (w : World) : Prop where
  visit : w.heap[Bv]? = some (.cells #[.func (.func 110) #[] #[ptr Bm]] 129)
  step : w.heap[Bs]? = some (.cells #[.func (.func 120) #[] #[ptr Bv, ptr Bs]] 129)
  most : w.heap[Bm]? = some (.cells #[.int .i64 m] 3)
theorem DVars.fb {Bv Bs Bm m m' : Nat} {w w' : World} (h : DVars Bv Bs Bm m w) (hb : Fb Bm w w') (hv : Bv ≠ Bm) (hs : Bs ≠ Bm) (hm : w'.heap[Bm]? = some (.cells #[.int .i64 m'] 3)) : DVars Bv Bs Bm m' w' :=
  ⟨hb.kept h.visit hv, hb.kept h.step hs, hm⟩
theorem f110 (b m wi Bm : Nat) (w : World) (_hm : m ≤ 1000) (hw : wi ≤ 1000) (h : w.heap[Bm]? = some (.cells #[.int .i64 m] 3)) :
    Calls Try.prog 110 #[ptr b, .int .i64 wi, ptr Bm] w fun e w' => e = .returned (.tuple #[]) ∧ Fb Bm w w' ∧ w'.heap[Bm]? = some (.cells #[.int .i64 ((max m (wi + 1) : Nat) : Int)] 3) := by
  have c0 : w.cell? ⟨Bm, 0, none⟩ = some (.int .i64 m) := cell_at h 0
  have f0 := froz_at h 0
  have HE : Hid (∀ (x : World) (y : Int), x = w.setCell ⟨Bm, 0, none⟩ (.int .i64 y) → y = ((max m (wi + 1) : Nat) : Int) → Fb Bm w x ∧ x.heap[Bm]? = some (.cells #[.int .i64 ((max m (wi + 1) : Nat) : Int)] 3)) := by
    rintro x y rfl rfl
    exact ⟨Fb.set Bm 0 _ w, set_at h⟩
  clear h
  go_enter Try.func110, Try.ntmps110
  go_wp2
  all_goals
    refine bodyPost_end (results_none rfl _ _ _) rfl ⟨rfl, ?_⟩
    exact HE.out _ _ rfl (by omega)
theorem dpL_mid (pre post : List Tr) (t : Tr) : dp t ≤ dpL (pre ++ t :: post) := by
  rw [dpL_append]; simp only [dpL]; omega
theorem rows_mid (pre post : List Tr) (t : Tr) : (rows t).length + (rowsL pre).length ≤ (rowsL (pre ++ t :: post)).length := by
  rw [rowsL_append]; simp only [rowsL, List.length_append]; omega
theorem take_mid {ks pre post : List Tr} {t : Tr} {k : Nat} (h : ks = pre ++ t :: post) (hk : pre.length = k) : ks.take k = pre ∧ ks.take (k + 1) = pre ++ [t] := by
  subst hk; subst h
  constructor
  · simp
  · rw [show pre ++ t :: post = (pre ++ [t]) ++ post by simp, List.take_left' (by simp)]
set_option maxHeartbeats 4000000 in
theorem walk_deep (Bv Bs Bm : Nat) (hv : Bv ≠ Bm) (hs : Bs ≠ Bm) : ∀ (D : Nat) (t : Tr), dp t ≤ D → ∀ (w0 w : World) (S : Nat → Prop) (i b m wi : Nat), Nv w0 S w i t b → (∀ x, S x → x ≠ Bm) → wi + dp t ≤ 1000 → m ≤ 1000 → (rows t).length ≤ 1000 → DVars Bv Bs Bm m w →
    Calls Try.prog 120 #[ptr b, .int .i64 wi, ptr Bv, ptr Bs] w fun e w' => e = .returned (.tuple #[]) ∧ Fb Bm w w' ∧ w'.heap[Bm]? = some (.cells #[.int .i64 ((max m (wi + dp t) : Nat) : Int)] 3) := by
  intro D
  induction D with
  | zero => rintro ⟨r, ks⟩ h; simp [dp] at h
  | succ D ih =>
    rintro ⟨r, ks⟩ hd w0 w S i b m wi hn hS hw hm hz hV
    have HIH := hid ih
    have HN := hid hn
    have HSB := hid hS
    have HV := hid hV
    simp only [Nv] at hn
    obtain ⟨hb1, hb2, q, bs, ak, ck, hp, hrw, hx, hhv, hl⟩ := hn
    have hbm := hS b hb1
    have HX := hid hx
    have HHV := hid hhv
    have HL := hid hl
    have HLN := hid (NvL.len _ _ _ hl)
    have HVB := hid hv
    have HSS := hid hs
    have HD : Hid (dp (.nd r ks) = dpL ks + 1) := rfl
    have hdk : dpL ks ≤ D := by simp only [dp] at hd; omega
    have hzk : (rowsL ks).length ≤ 999 := by simp [rows] at hz; omega
    have hbl : bs.length ≤ 999 := by have := rowsL_len ks; have := HLN.out; omega
    have hdw : wi + (dpL ks + 1) ≤ 1000 := by simp only [dp] at hw; omega
    have c0 : w.cell? ⟨Bv, 0, none⟩ = some (.func (.func 110) #[] #[ptr Bm]) := cell_at hV.visit 0
    have HC := hid (f110 b m wi Bm w hm (by omega) hV.most)
    clear ih hS hV hz hb1 hb2 hp hrw hx hhv hl hd hw hv hs
    go_enter Try.func120, Try.ntmps120
    go_wp2_with fail
    refine HC.out.mono ?_
    rintro e w1 ⟨rfl, hf1, hm1⟩
    have HF1 := hid hf1
    have HM1 := hid hm1
    have x10 : w1.cell? ⟨b, 10, none⟩ = some (.slice ak bs.length ck) := cell_at (hf1.kept HX.out hbm) 10
    clear hf1 hm1 c0 HC
    go_wp2
    go_loopw [17] (fun s17 wr => ∃ k : Nat, k ≤ bs.length ∧ s17 = .int .i64 k ∧ Hid (wr.heap[Bm]? = some (.cells #[.int .i64 ((max m (wi + 1 + dpL (ks.take k)) : Nat) : Int)] 3)) ∧ Hid (Fb Bm w wr)) (fun s17 _ => bs.length - (intOf s17).toNat)
    case atStart => exact ⟨0, Nat.zero_le _, rfl, by unfold Hid; simpa [dpL] using HM1.out, HF1⟩
    case round =>
      obtain ⟨k, hk, rfl, HM, HF⟩ := hrel
      by_cases hlt : k < bs.length
      · obtain ⟨pre, t, post, b', e1, e2, e3, e4⟩ := NvL.cut ks (i + 1) bs HL.out k (by rw [← HLN.out]; exact hlt)
        rcases HHV.out with hz | ⟨g, off, rfl, hg1, hg2, hg3⟩
        · exact absurd hlt (by have := congrArg List.length hz; rw [vals_len] at this; simp at this; rw [this]; simp)
        have hag : Agr S S w wr := Fb.agr HF.out (fun x hx => ⟨HSB.out x hx, hx⟩)
        have y1 : wr.cell? ⟨g, off + k, none⟩ = some (ptr b') := by
          refine (cell_of (p := ⟨g, off + k, none⟩) (hag.blk g hg1 hg2)).trans ?_
          rw [hg3 k (by rw [vals_len]; exact hlt)]; exact vals_get e3
        obtain ⟨ht1, ht2⟩ := take_mid e1 e2
        have hdt : dp t ≤ dpL ks := by rw [e1]; exact dpL_mid pre post t
        have hrt : (rows t).length ≤ 1000 := by have := rows_mid pre post t; rw [← e1] at this; omega
        have hpre : dpL pre ≤ dpL ks := by rw [e1, dpL_append]; omega
        have HM' : Hid (wr.heap[Bm]? = some (.cells #[.int .i64 ((max m (wi + 1 + dpL pre) : Nat) : Int)] 3)) := by have := HM.out; rw [ht1] at this; exact this
        have HVr : Hid (DVars Bv Bs Bm (max m (wi + 1 + dpL pre)) wr) := HV.out.fb HF.out HVB.out HSS.out HM'.out
        have y2 : wr.cell? ⟨Bs, 0, none⟩ = some (.func (.func 120) #[] #[ptr Bv, ptr Bs]) := cell_at HVr.out.step 0
        have HC := hid (HIH.out t (by omega) w0 wr S _ b' (max m (wi + 1 + dpL pre)) (wi + 1) (e4 |> Nv.agr hag t _ b') HSB.out (by omega) (by omega) hrt HVr.out)
        have HT2 := hid ht2
        clear e1 e2 e3 e4 hag HM ht1 ht2 hrt
        go_wp2_with fail
        refine HC.out.mono ?_
        rintro e w2 ⟨rfl, hf2, hm2⟩
        have HF2 := hid (HF.out.trans hf2)
        have HM2 : Hid (w2.heap[Bm]? = some (.cells #[.int .i64 ((max m (wi + 1 + dpL (ks.take (k + 1))) : Nat) : Int)] 3)) := by
          unfold Hid
          have e : max m (wi + 1 + dpL (ks.take (k + 1))) = max (max m (wi + 1 + dpL pre)) (wi + 1 + dp t) := by
            rw [HT2.out, dpL_append]; simp only [dpL]; omega
          rw [hm2, e]
        clear hf2 hm2 HC
        go_wp2
        go_roundw
        case rel => exact ⟨k + 1, by omega, by go_num, HM2, HF2⟩
        case measure => simp [intOf]; omega
      · obtain rfl : k = bs.length := by omega
        go_wp2
        refine bodyPost_end (results_none rfl _ _ _) rfl ⟨rfl, HF.out, ?_⟩
        have := HM.out
        rw [HLN.out, List.take_length] at this
        have e : max m (wi + dp (.nd r ks)) = max m (wi + 1 + dpL ks) := by rw [HD.out]; omega
        rw [e]; exact this
end Go.Proofs.Ytkjodikccehmkaa.Rou
