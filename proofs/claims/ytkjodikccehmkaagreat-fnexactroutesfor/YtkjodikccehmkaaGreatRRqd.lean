/- Both RoutesFors. -/
import Derived.Test.YtkjodikccehmkaaGreatRRqc
namespace Go.Proofs.YtkjodikccehmkaaGreat.Rou
open Go.RowKit
open Go.Proofs.YtkjodikccehmkaaGreat.Lab (Lb HasL OfV goodL)
open Go.Proofs.YtkjodikccehmkaaGreat.Rwc

open Classical in
/-- The numbers of the routes that take labels. -/
noncomputable def rfP (ps : List Pl) (l : List Lb) : List Int := if h : GoodRt ps ∧ goodL l = true then tak l 0 (Classical.choose h.1.2) else []
noncomputable abbrev rfr (ts : List T) (l : List Lb) : List Int := rfP (ts.map pl) l
theorem rf_no1 {ps : List Pl} {l : List Lb} (h : ¬ GoodRt ps) : rfP ps l = [] := by unfold rfP; rw [dif_neg (fun g => h g.1)]
theorem rf_no2 {ps : List Pl} {l : List Lb} (h : goodL l = false) : rfP ps l = [] := by unfold rfP; rw [dif_neg (fun g => by rw [h] at g; cases g.2)]
theorem rf_yes {ps : List Pl} {l : List Lb} {t : Tr} (hl : ps.length ≤ 40) (ht : Is ps t) (hg : goodL l = true) : rfP ps l = tak l 0 t := by
  have h : GoodRt ps ∧ goodL l = true := ⟨⟨hl, t, ht⟩, hg⟩
  unfold rfP
  rw [dif_pos h]
  have := Classical.choose_spec h.1.2
  rw [one_tree this.gt ht.gt (this.rows.symm.trans ht.rows)]
theorem rf_same {n : Nat} {ts ts' : List T} (h : Same n ts ts') (hn : ts.length = n) (hn' : ts'.length = n) (l : List Lb) : rfr ts' l = rfr ts l := by
  unfold rfr; rw [same_map h hn hn']
theorem rf_len (ts : List T) (l : List Lb) : (rfr ts l).length ≤ 1048576 := by
  by_cases h : GoodRt (ts.map pl)
  · cases hg : goodL l
    · unfold rfr; rw [rf_no2 hg]; simp
    · obtain ⟨h1, t, ht⟩ := h
      unfold rfr; rw [rf_yes h1 ht hg]
      have := tak_len l _ t 0 (Nat.le_refl _)
      rw [← ht.rows] at this
      omega
  · unfold rfr; rw [rf_no1 h]; simp
set_option maxHeartbeats 4000000 in
theorem f26 (t : Tr) (la : Option Addr) (nl lc : Nat) (l : List Lb) (w0 w : World) (S : Nat → Prop) (b d : Nat) (hn : Nv w0 S w 0 t b) (hS : ∀ x, S x → x < w.heap.size) (hg : Gt NR d t) (hz : (rows t).length ≤ 1000) (hb0 : Below w0.heap.size w0 w) (hnl : l.length = nl) (hgl : goodL l = true) (hrl : HasL w0 la l) :
    Calls Tryz.prog 26 #[ptr b, .slice la nl lc] w fun e w' => ∃ v, e = .returned v ∧ w'.ownsRow w.heap.size 3 1 v (tak l 0 t).length (valI (tak l 0 t)) ∧ Below w.heap.size w w' := by
  have b1 := fun (W : World) o => (Below.refl W.heap.size W).alloc (Nat.le_refl _) o
  obtain ⟨W0, hW0⟩ : ∃ W, W = (((w.alloc (.cells #[.slice la nl lc] 30)).alloc (.cells #[.slice none 0 0] 26)).alloc (.cells #[.nilFunc] 79)) := ⟨_, rfl⟩
  have HL0 : Hid (W0.heap[w.heap.size]? = some (.cells #[.slice la nl lc] 30)) := by
    rw [hW0]; exact kept (kept (heap_alloc_new w _) (b1 _ _)) (b1 _ _)
  have HN0 : Hid (W0.heap[w.heap.size + 1]? = some (.cells #[.slice none 0 0] 26)) := by
    have := kept (heap_alloc_new (w.alloc (.cells #[.slice la nl lc] 30)) (.cells #[.slice none 0 0] 26)) (b1 _ (.cells #[.nilFunc] 79))
    rw [hW0]; unfold Hid; simpa using this
  have HG0 : Hid (W0.heap[w.heap.size + 1 + 1]? = some (.cells #[.nilFunc] 79)) := by
    have := heap_alloc_new ((w.alloc (.cells #[.slice la nl lc] 30)).alloc (.cells #[.slice none 0 0] 26)) (.cells #[.nilFunc] 79)
    rw [hW0]; unfold Hid; simpa using this
  have HB0 : Hid (Below w.heap.size w W0) := by rw [hW0]; exact ((b1 w _).alloc (by simp) _).alloc (by simp; omega) _
  have g0 : W0.cell? ⟨w.heap.size + 1 + 1, 0, none⟩ = some .nilFunc := cell_at HG0.out 0
  have g1 := froz_at HG0.out 0
  have HW0 := hid hW0
  have HBB0 := hid hb0
  have HNV := hid hn
  have HS := hid hS
  have HGT := hid hg
  have HNL := hid hnl
  have HGL := hid hgl
  have HRL := hid hrl
  clear hW0 hn hS hg hb0 hnl hgl hrl b1
  go_enter Tryz.func26, Tryz.ntmps26
  go_upto_region 3 with fail
  rw [← HW0.out]
  go_upto_region 4 with fail
  obtain ⟨B, hB⟩ : ∃ B, B = w.heap.size := ⟨_, rfl⟩
  rw [← hB] at HL0 HN0 HG0 g0 g1 ⊢
  have HBB := hid hB
  obtain ⟨W1, hW1⟩ : ∃ W, W = W0.setCell ⟨B + 1 + 1, 0, none⟩ (.func (.func 50) #[] #[ptr B, ptr (B + 1), ptr (B + 1 + 1)]) := ⟨_, rfl⟩
  have HV1 : Hid (CVars B (B + 1) (B + 1 + 1) la nl lc (.slice none 0 0) W1) := by
    rw [hW1]
    exact ⟨set_else HL0.out (by simp only; omega), set_else HN0.out (by simp only; omega), set_at HG0.out⟩
  have HB1 : Hid (Below w.heap.size w W1) := by rw [hW1]; exact HB0.out.setCell (by simp only; omega) _
  have hlt := lt_at HV1.out.come
  rw [← hW1]
  clear hW1 hB HL0 HN0 HG0 HB0 HW0 g0 g1
  have g0 : W1.cell? ⟨B + 1 + 1, 0, none⟩ = some (.func (.func 50) #[] #[ptr B, ptr (B + 1), ptr (B + 1 + 1)]) := cell_at HV1.out.come 0
  have hwB := HBB.out
  have HC := hid (come_ok (dp t) t (Nat.le_refl _) B (B + 1) (B + 1 + 1) la nl lc l w0 W1 (.slice none 0 0) [] S 0 b d (Nv.agr (Agr.below HB1.out) t 0 b HNV.out) (fun x hx => by have := HS.out x hx; omega) HGT.out hz (by simp; omega) (by omega)
    ⟨⟨by omega, by omega, hlt⟩, by have := HBB0.out.size; omega, HBB0.out.trans (HB1.out.mono HBB0.out.size), HNL.out, HGL.out, HRL.out, HV1.out, World.ownsRow_nil _ _ _ _⟩)
  clear hlt hwB
  go_wp2_with fail
  refine HC.out.mono ?_
  clear HC
  rintro e w2 ⟨rfl, v, ht, hr, hc⟩
  have hwB := HBB.out
  have HB2 : Hid (Below w.heap.size w w2) := CR.below (X := w.heap.size) HB1.out hc (by omega) HB1.out.size (fun g e => by cases e) (Nat.le_refl _)
  have HR := hid (own_base hr (show w.heap.size ≤ B + 1 + 1 + 1 by omega))
  have x1 : w2.cell? ⟨B + 1, 0, none⟩ = some v := cell_at ht 0
  obtain ⟨av, cv, rfl⟩ := Pat.own_form hr
  clear ht hr hc g0 hwB
  rw [List.nil_append] at x1 HR
  generalize hL : (tak l 0 t).length = L at *
  go_wp2
  go_ret
  refine ⟨_, rfl, ?_, HB2.out⟩
  rw [hL]; exact HR.out
set_option maxHeartbeats 4000000 in
theorem f9 (a la : Option Addr) (n c nl lc : Nat) (ts : List T) (l : List Lb) (w : World) (hn : ts.length = n) (hnl : l.length = nl) (hb : n ≤ 1048576) (hbl : nl ≤ 1048576) (hz : Sml ts) (hf : Fit ts) (hfl : Lab.Fit l) (hr : Has w a ts) (hrl : HasL w la l) :
    Calls Tryz.prog 9 #[.slice a n c, .slice la nl lc] w fun e w' => ∃ v, e = .returned v ∧ Anj.Own w' w.heap.size v (rfr ts l) ∧ Below w.heap.size w w' := by
  subst hn
  have HC := hid (f24 ts a c w w hb hr hf hz (Below.refl _ _))
  have HNL := hid hnl
  have HRL := hid hrl
  have HFL := hid hfl
  clear hnl hr hrl hf hfl hz
  go_enter Tryz.func9, Tryz.ntmps9
  go_wp2_with fail
  refine HC.out.mono ?_
  clear HC
  rintro e w1 ⟨hb1, hk⟩
  have HB1 := hid hb1
  rcases hk with ⟨rfl, hg⟩ | ⟨t, b, rfl, _, h40, his, hnv⟩
  · have HA : Hid (rfr ts l = []) := rf_no1 (fun g => by have := goodP_true g; rw [show goodP (ts.map pl) = false from hg] at this; cases this)
    clear hg hb1
    go_wp2
    go_ret
    exact ⟨_, rfl, by rw [HA.out]; exact World.ownsRow_nil _ _ _ _, HB1.out⟩
  have HIS := hid his
  have HNV := hid hnv
  have hrl : (rows t).length ≤ 40 := by rw [← his.rows]; simpa using h40
  have HGLB := hid (Lab.f25 la nl lc l w1 HNL.out (by unfold maxLen; omega) (HRL.out.below hb1) HFL.out)
  clear hb1 his hnv
  cases hgl : goodL l
  · have HA : Hid (rfr ts l = []) := rf_no2 hgl
    rw [hgl] at HGLB
    clear hgl
    go_wp2_with fail
    refine HGLB.out.mono ?_
    rintro e w2 ⟨rfl, hb2⟩
    have HB2 := hid (HB1.out.trans (hb2.mono HB1.out.size))
    clear hb2 HGLB
    go_wp2
    go_ret
    exact ⟨_, rfl, by rw [HA.out]; exact World.ownsRow_nil _ _ _ _, HB2.out⟩
  have HA : Hid (rfr ts l = tak l 0 t) := rf_yes (by simpa using h40) HIS.out hgl
  have HGL := hid hgl
  rw [hgl] at HGLB
  clear hgl
  go_wp2_with fail
  refine HGLB.out.mono ?_
  rintro e w2 ⟨rfl, hb2⟩
  have HB2 := hid (HB1.out.trans (hb2.mono HB1.out.size))
  have HT := hid (f26 t la nl lc l w w2 (fun b => w.heap.size ≤ b ∧ b < w1.heap.size) b 1 (Nv.agr (Agr.below hb2) t 0 b HNV.out) (fun x hx => by have := hb2.size; omega) HIS.out.gt (by omega) HB2.out HNL.out HGL.out HRL.out)
  clear hb2 HGLB
  go_wp2_with fail
  refine HT.out.mono ?_
  rintro e w3 ⟨v, rfl, ho, hb3⟩
  obtain ⟨av, cv, rfl⟩ := Pat.own_form ho
  have HO := hid (own_base ho HB2.out.size)
  have HB3 := hid (HB2.out.trans (hb3.mono HB2.out.size))
  clear ho hb3 HT
  go_wp2
  go_ret
  exact ⟨_, rfl, by rw [HA.out]; exact HO.out, HB3.out⟩
theorem f19n (a : Option Addr) (n c : Nat) (ts : List T) (w : World) (hn : ts.length = n) (hb : n ≤ 1048576) (hr : Has w a ts) (hf : Fit ts) (hz : Sml ts) :
    Calls Tryz.prog 19 #[.slice a n c] w fun e w' => e = .returned (.bool (goodR ts)) ∧ Below w.heap.size w w' := by
  subst hn; exact f19 ts a c w hb hr hf hz
theorem goodR_iff {ts : List T} : goodR ts = true ↔ GoodRt (ts.map pl) := by
  constructor
  · intro h
    by_cases g : GoodRt (ts.map pl)
    · exact g
    · rw [show goodR ts = false from goodP_false g] at h; cases h
  · exact goodP_true
set_option maxHeartbeats 4000000 in
theorem f6 (a la : Option Addr) (n c nl lc : Nat) (ts : List T) (l : List Lb) (w : World) (hn : ts.length = n) (hnl : l.length = nl) (hb : n ≤ 1048576) (hbl : nl ≤ 1048576) (hz : Sml ts) (hf : Fit ts) (hfl : Lab.Fit l) (hr : Has w a ts) (hrl : HasL w la l) :
    Calls Tryz.prog 6 #[.slice a n c, .slice la nl lc] w fun e w' => ∃ v, e = .returned v ∧ Anj.Own w' w.heap.size v (rfr ts l) ∧ Below w.heap.size w w' := by
  have HC := hid (f19n a n c ts w hn hb hr hf hz)
  have HN := hid hn
  have HNL := hid hnl
  have HR := hid hr
  have HRL := hid hrl
  have HF := hid hf
  have HZ := hid hz
  have HFL := hid hfl
  clear hn hnl hr hrl hf hfl hz
  go_enter Tryz.func6, Tryz.ntmps6
  cases hg : goodR ts
  · have HA : Hid (rfr ts l = []) := rf_no1 (fun g => by have := goodP_true g; rw [show goodP (ts.map pl) = false from hg] at this; cases this)
    rw [hg] at HC
    clear hg
    go_wp2_with fail
    refine HC.out.mono ?_
    rintro e w1 ⟨rfl, hb1⟩
    have HB1 := hid hb1
    clear hb1 HC
    go_wp2
    go_ret
    exact ⟨_, rfl, by rw [HA.out]; exact World.ownsRow_nil _ _ _ _, HB1.out⟩
  have HGR := hid (goodR_iff.1 hg)
  rw [hg] at HC
  clear hg
  go_wp2_with fail
  refine HC.out.mono ?_
  rintro e w1 ⟨rfl, hb1⟩
  have HB1 := hid hb1
  have HGLB := hid (Lab.f20 la nl lc l w1 HNL.out (by unfold maxLen; omega) (HRL.out.below hb1) HFL.out)
  clear hb1 HC
  cases hgl : goodL l
  · have HA : Hid (rfr ts l = []) := rf_no2 hgl
    rw [hgl] at HGLB
    clear hgl
    go_wp2_with fail
    refine HGLB.out.mono ?_
    rintro e w2 ⟨rfl, hb2⟩
    have HB2 := hid (HB1.out.trans (hb2.mono HB1.out.size))
    clear hb2 HGLB
    go_wp2
    go_ret
    exact ⟨_, rfl, by rw [HA.out]; exact World.ownsRow_nil _ _ _ _, HB2.out⟩
  obtain ⟨h40, t, ht⟩ := HGR.out
  have h40' : ts.length ≤ 40 := by simpa using h40
  have HIS := hid ht
  have HA : Hid (rfr ts l = tak l 0 t) := rf_yes h40 ht hgl
  have HGL := hid hgl
  have hrl : (rows t).length ≤ 40 := by rw [← ht.rows]; exact h40
  rw [hgl] at HGLB
  clear hgl ht h40
  go_wp2_with fail
  refine HGLB.out.mono ?_
  rintro e w2 ⟨rfl, hb2⟩
  have HB2 := hid (HB1.out.trans (hb2.mono HB1.out.size))
  have HT : Hid (Calls Tryz.prog 21 #[.slice a n c, .int .i64 0, .slice la nl lc, .slice none 0 0] w2 fun e w' => ∃ v', e = .returned v' ∧ w'.ownsRow w2.heap.size 3 1 v' ([] ++ tak l 0 t).length (valI ([] ++ tak l 0 t)) ∧ OR (.slice none 0 0) w2 v' w') := by
    have := for_ok (dp t) t (Nat.le_refl _) ts a la c 0 nl lc 1 w2.heap.size l w w2 none 0 [] [] (by omega) HR.out HF.out HZ.out HNL.out HGL.out HRL.out HB2.out HB2.out.size (Nat.le_refl _) (by simpa using HIS.out.rows) HIS.out.gt (Nat.le_refl _) (by simp; omega) (World.ownsRow_nil _ _ _ _)
    rw [HN.out] at this
    exact this
  clear hb2 HGLB
  go_wp2_with fail
  refine HT.out.mono ?_
  rintro e w3 ⟨v, rfl, ho, hc⟩
  obtain ⟨av, cv, rfl⟩ := Pat.own_form ho
  have HO := hid (own_base ho HB2.out.size)
  have HB3 : Hid (Below w.heap.size w w3) := OR.below (X := w.heap.size) HB2.out hc HB2.out.size (fun g e => by cases e) (Nat.le_refl _)
  clear ho hc HT
  go_wp2
  go_ret
  exact ⟨_, rfl, by rw [HA.out]; exact HO.out, HB3.out⟩
end Go.Proofs.YtkjodikccehmkaaGreat.Rou
