/- The program's readRule: of any text it reads some rule, of a good rule's text that rule. -/
import Derived.Test.YtbijhkbmgljjiaaGreatDoorVg
namespace Go.Proofs.YtbijhkbmgljjiaaGreatDoor.Rdd
open Go.RowKit Go.Proofs.YtbijhkbmgljjiaaGreatDoor.Pat

/-- The text that is left is the text of the good rule r0. -/
def Kn (r0 : Rel.Rule) (l : List UInt8) : Prop := Rel.goodR r0 = true ∧ l = Rel.txtR r0
theorem mk_eq {s : ByteArray} {l : List UInt8} (h : l = s.data.toList) : mkS l = s := by rw [h]
theorem map_data {xs ys : List ByteArray} (h : xs.map (·.data.toList) = ys.map (·.data.toList)) : xs = ys := by
  refine List.map_inj_right (f := fun x : ByteArray => x.data.toList) ?_ |>.1 h
  intro x y e
  exact ByteArray.ext (Array.toList_inj.1 e)
theorem kn_word {r0 : Rel.Rule} {l : List UInt8} (h : Kn r0 l) : (Rel.wrd l).1 = Rel.wd r0.act ∧ (Rel.wrd l).2 = Rel.t0 r0 ∧ 1 ≤ r0.act ∧ r0.act ≤ 8 := by
  obtain ⟨h1, h2⟩ := Rel.good_act h.1
  rw [h.2, Rel.back_word r0 ⟨h1, h2⟩]
  exact ⟨rfl, rfl, h1, h2⟩
/-- What the call of readRule leaves. -/
def RrR (R : Nat) (s : ByteArray) (l : List UInt8) (r0 : Rel.Rule) (w : World) (e : Ending) (w' : World) : Prop :=
  ∃ (r : Rel.Rule) (a : Option Addr) (n c : Nat) (ok : Bool), e = .returned (.tuple #[Rel.agR r a n c, .bool ok]) ∧ r.from'.length = n ∧ n ≤ s.size ∧ (∀ x ∈ r.from', x.size ≤ s.size) ∧ w'.ownsRow w.heap.size 9 1 (.slice a n c) n (r.from'.map Value.string) ∧ w.grownBy w' (some R) ∧ 0 ≤ r.act ∧ r.act ≤ 8 ∧ r.sep.size ≤ s.size ∧ r.pat.size ≤ s.size ∧ r.tgt.size ≤ s.size ∧ r.val.size ≤ s.size ∧ -9223372036854775808 ≤ r.md ∧ r.md ≤ 9223372036854775807 ∧ (Kn r0 l → r = r0 ∧ ok = true)
theorem from_len {r0 : Rel.Rule} (h : Rel.goodR r0 = true) : r0.from'.length ≤ 10 ∧ Rel.namesB r0.from' = true := by
  unfold Rel.goodR Rel.baseB at h
  simp only [Bool.and_eq_true, decide_eq_true_eq] at h
  exact ⟨h.1.2.1, h.2.1⟩
theorem good_tgt {r : Rel.Rule} (h : Rel.goodR r = true) : Rel.em r.tgt = true ∨ Rel.nm r.tgt = true := by
  unfold Rel.goodR Rel.kindB at h
  simp only [Bool.and_eq_true] at h
  obtain ⟨_, _, h⟩ := h
  repeat' split at h
  all_goals
    simp only [Bool.and_eq_true] at h
    first | exact .inr h.1 | exact .inr h.2.1 | exact .inl h.2.2.1 | exact .inl h.1 | exact .inl h.2.1
abbrev sF : List UInt8 := [32, 102, 114, 111, 109, 32]
abbrev sT : List UInt8 := [32, 116, 111, 32]
abbrev sB : List UInt8 := [32, 98, 121, 32]
theorem sg_of {v l r : List UInt8} (h : Rel.sgn v l = some r) : sg v l = true ∧ rs v l = r := by unfold sg rs; rw [h]; exact ⟨rfl, rfl⟩
theorem sg_no {v l : List UInt8} (h : Rel.sgn v l = none) : sg v l = false ∧ rs v l = l := by unfold sg rs; rw [h]; exact ⟨rfl, rfl⟩
theorem kn_from_no {r0 : Rel.Rule} {l1 : List UInt8} (h : Rel.goodR r0 = true) (e : l1 = Rel.t0 r0) (hg : sg sF l1 = false) : [] = r0.from' ∧ rs sF l1 = Rel.t1 r0 := by
  subst e
  by_cases hf : r0.from' = []
  · obtain ⟨h1, h2⟩ := Rel.back_from_no r0 hf
    exact ⟨hf.symm, (sg_no h1).2.trans h2⟩
  · obtain ⟨l, h1, _⟩ := Rel.back_from_yes r0 10 hf (by have := (from_len h).1; omega) (from_len h).2
    rw [(sg_of h1).1] at hg; cases hg
theorem kn_from_yes {r0 : Rel.Rule} {l1 l' : List UInt8} {m : Nat} {acc : List ByteArray} (h : Rel.goodR r0 = true) (e : l1 = Rel.t0 r0) (hm : 9 ≤ m) (hg : sg sF l1 = true) (hw : Rel.wrds m (rs sF l1) = (acc.map (·.data.toList), l')) : acc = r0.from' ∧ l' = Rel.t1 r0 := by
  subst e
  by_cases hf : r0.from' = []
  · obtain ⟨h1, h2⟩ := Rel.back_from_no r0 hf
    rw [(sg_no h1).1] at hg; cases hg
  · obtain ⟨l, h1, h2⟩ := Rel.back_from_yes r0 m hf (by have := (from_len h).1; omega) (from_len h).2
    rw [(sg_of h1).2, h2] at hw
    have h3 := (Prod.mk.injEq _ _ _ _).mp hw
    exact ⟨(map_data h3.1).symm, h3.2.symm⟩
theorem em_nil' {s : ByteArray} (h : Rel.em s = true) : (⟨#[]⟩ : ByteArray) = s := by
  have := Rel.em_nil h
  apply ByteArray.ext
  apply Array.toList_inj.1
  rw [this]
theorem kn_to_no {r0 : Rel.Rule} {l : List UInt8} (h : Rel.goodR r0 = true) (e : l = Rel.t3 r0) (hg : sg sT l = false) : ⟨#[]⟩ = r0.tgt ∧ rs sT l = Rel.t4 r0 := by
  subst e
  by_cases hf : Rel.em r0.tgt = true
  · obtain ⟨h1, h2⟩ := Rel.back_to_no r0 hf
    exact ⟨em_nil' hf, (sg_no h1).2.trans h2⟩
  · obtain ⟨l, h1, _⟩ := Rel.back_to_yes r0 (by simpa using hf) ((good_tgt h).resolve_left hf)
    rw [(sg_of h1).1] at hg; cases hg
theorem kn_to_yes {r0 : Rel.Rule} {l : List UInt8} (h : Rel.goodR r0 = true) (e : l = Rel.t3 r0) (hg : sg sT l = true) : mkS (Rel.wrd (rs sT l)).1 = r0.tgt ∧ (Rel.wrd (rs sT l)).2 = Rel.t4 r0 := by
  subst e
  by_cases hf : Rel.em r0.tgt = true
  · obtain ⟨h1, h2⟩ := Rel.back_to_no r0 hf
    rw [(sg_no h1).1] at hg; cases hg
  · obtain ⟨l, h1, h2⟩ := Rel.back_to_yes r0 (by simpa using hf) ((good_tgt h).resolve_left hf)
    rw [(sg_of h1).2, h2]
    exact ⟨mk_eq rfl, rfl⟩
theorem digits_nb (u : Nat) : ∀ c ∈ Lib.decDigits u, nbC c = true := by
  intro c hc
  obtain ⟨k, hk⟩ := List.mem_iff_getElem?.1 hc
  obtain ⟨d, hd⟩ := Lib.digit_of_decFrom _ _ _ (Rel.dec_back u) k c hk
  have := Lib.digitVal_eq hd
  unfold nbC nbB digB
  have h1 : (48 : Int) ≤ (c.toNat : Int) ∧ (c.toNat : Int) ≤ 57 := by omega
  rw [decide_eq_true h1]; simp
theorem kn_by_no {r0 : Rel.Rule} {l : List UInt8} (e : l = Rel.t5 r0) (hg : sg sB l = false) : 0 = r0.md := by
  subst e
  by_cases hf : r0.md = 0
  · exact hf.symm
  · rw [(sg_of (Rel.back_by_yes r0 hf)).1] at hg; cases hg
theorem kn_by_yes {r0 : Rel.Rule} {l : List UInt8} (h : Rel.goodR r0 = true) (e : l = Rel.t5 r0) (hg : sg sB l = true) : (Rel.wrd (rs sB l)).1 = Lib.itoa r0.md ∧ 1 ≤ r0.md ∧ r0.md ≤ 1000 := by
  subst e
  obtain ⟨m0, m1⟩ := Rel.good_md h
  by_cases hf : r0.md = 0
  · rw [Rel.back_by_no r0 hf] at hg
    cases hg
  · rw [(sg_of (Rel.back_by_yes r0 hf)).2]
    have e1 : Lib.itoa r0.md = Lib.decDigits r0.md.toNat := by unfold Lib.itoa; rw [if_neg (by omega)]
    have := Rel.wrd_app (u := Lib.decDigits r0.md.toNat) (l := []) (digits_nb _) (.inl rfl)
    rw [List.append_nil] at this
    rw [e1, this]
    exact ⟨rfl, by omega, m1⟩
theorem wd_ge {A : Int} (h1 : 1 ≤ A) (h8 : A ≤ 8) : 3 ≤ (Rel.wd A).length := by
  rcases (show A = 1 ∨ A = 2 ∨ A = 3 ∨ A = 4 ∨ A = 5 ∨ A = 6 ∨ A = 7 ∨ A = 8 by omega) with rfl | rfl | rfl | rfl | rfl | rfl | rfl | rfl
  all_goals decide
theorem sg_len {v l : List UInt8} (h : sg v l = true) : v.length ≤ l.length := by
  unfold sg Rel.sgn at h
  split at h
  · rename_i hp
    rw [List.isPrefixOf_iff_prefix] at hp
    exact hp.length_le
  · cases h
theorem rs_len {v l : List UInt8} (h : sg v l = true) : (rs v l).length + v.length = l.length := by
  have hl := sg_len h
  unfold sg at h
  unfold rs
  unfold Rel.sgn at *
  split at h
  · rename_i hp
    rw [if_pos hp]
    simp; omega
  · cases h
theorem new_set {w0 w : World} {R b i : Nat} {v : Value} (h : w0.grownBy w (some R)) (hb : w0.heap.size ≤ b) : w0.grownBy (w.setCell ⟨b, i, none⟩ v) (some R) := by
  have hg := set_by w b i v
  refine ⟨h.os, h.tape, h.output, Nat.le_trans h.size hg.size, fun j hj hr => ?_⟩
  rw [hg.block j (Nat.lt_of_lt_of_le hj h.size) (by simp; omega)]
  exact h.block j hj hr
/-- The rule is laid into the answer's box. -/
abbrev put7 (w : World) (b : Nat) (x0 x1 x2 x3 x4 x5 x6 : Value) : World := ((((((w.setCell ⟨b, 0, none⟩ x0).setCell ⟨b, 1, none⟩ x1).setCell ⟨b, 2, none⟩ x2).setCell ⟨b, 3, none⟩ x3).setCell ⟨b, 4, none⟩ x4).setCell ⟨b, 5, none⟩ x5).setCell ⟨b, 6, none⟩ x6
theorem put7_box {w : World} {b : Nat} {y0 y1 y2 y3 y4 y5 y6 : Value} {t : TypeId} (h : w.heap[b]? = some (.cells #[y0, y1, y2, y3, y4, y5, y6] t)) (x0 x1 x2 x3 x4 x5 x6 : Value) : (put7 w b x0 x1 x2 x3 x4 x5 x6).heap[b]? = some (.cells #[x0, x1, x2, x3, x4, x5, x6] t) := by
  have h0 : (w.setCell ⟨b, 0, none⟩ x0).heap[b]? = some (.cells #[x0, y1, y2, y3, y4, y5, y6] t) := seven_set h 0 x0
  have h1 := seven_set h0 1 x1
  have h2 := seven_set (x1 := x1) h1 2 x2
  have h3 := seven_set (x2 := x2) h2 3 x3
  have h4 := seven_set (x3 := x3) h3 4 x4
  have h5 := seven_set (x4 := x4) h4 5 x5
  exact seven_set (x5 := x5) h5 6 x6
theorem put7_new {w0 w : World} {R b : Nat} (h : w0.grownBy w (some R)) (hb : w0.heap.size ≤ b) (x0 x1 x2 x3 x4 x5 x6 : Value) : w0.grownBy (put7 w b x0 x1 x2 x3 x4 x5 x6) (some R) :=
  new_set (new_set (new_set (new_set (new_set (new_set (new_set h hb) hb) hb) hb) hb) hb) hb
theorem put7_own {w : World} {base e size n b : Nat} {v : Value} {xs : List Value} (h : w.ownsRow base e size v n xs) (hb : b < base) (x0 x1 x2 x3 x4 x5 x6 : Value) : (put7 w b x0 x1 x2 x3 x4 x5 x6).ownsRow base e size v n xs :=
  own_kept (own_kept (own_kept (own_kept (own_kept (own_kept (own_kept h (set_by _ b 0 _) hb) (set_by _ b 1 _) hb) (set_by _ b 2 _) hb) (set_by _ b 3 _) hb) (set_by _ b 4 _) hb) (set_by _ b 5 _) hb) (set_by _ b 6 _) hb
set_option maxHeartbeats 4000000 in
theorem f18 (R : Nat) (s : ByteArray) (l : List UInt8) (r0 : Rel.Rule) (w : World) (hs : s.size ≤ 1048576) (h : Rd R s l w) (hG : Glb w) (hR : 4 < R) : Calls Tryz.prog 18 #[.pointer (some ⟨R, 0, none⟩)] w (RrR R s l r0 w) := by
  have HR := hid h
  have HG := hid hG
  have hRw := h.lt
  have hs2 : s.size ≤ 1048576 := by omega
  have HK0 := hid (fun k : Kn r0 l => kn_word k)
  have HLL := hid h.left.2
  have HWL := hid (wrd_len l)
  clear h hG
  go_enter Tryz.func18, Tryz.ntmps18
  go_wp2_with fail
  refine (f34L R s l _ hs2 (HR.out.alloc _)).mono ?_
  rintro e w1 ⟨rfl, hr1, hg1⟩
  have HG1 := hid (HG.out.kept (Lib.grownBy_trans (World.grownBy_alloc w _ (some R)) hg1) hR)
  go_wp2_with fail
  refine (Rel.f33 _ _ (by rw [mk_len]; have := HLL.out; have := HWL.out; omega) HG1.out.tab).mono ?_
  rintro e w2 ⟨rfl, A, rfl, hA, hB⟩
  have HA : Hid (Kn r0 l → (A : Int) = r0.act) := fun k => by
    obtain ⟨h1, h2, h3, h4⟩ := HK0.out k
    exact hB _ h3 h4 h1
  have HS : Hid (Sr R w2.heap.size s w (Rel.wrd l).2 ⟨A, [], ⟨#[]⟩, ⟨#[]⟩, ⟨#[]⟩, ⟨#[]⟩, 0⟩ none 0 0 (w2.alloc (.cells (ruleC ⟨A, [], ⟨#[]⟩, ⟨#[]⟩, ⟨#[]⟩, ⟨#[]⟩, 0⟩ none 0 0) 24))) := by
    have hsz := hg1.size
    simp only [World.size_alloc] at hsz
    refine ⟨hr1.alloc _, ?_, heap_alloc_new _ _, World.ownsRow_nil _ _ _ _, rfl, ?_, hRw, by omega⟩
    · exact box_alloc ((hg1.block w.heap.size (by simp) (by simp; omega)).trans (heap_alloc_new w _)) _
    · exact Lib.grownBy_allocR (Lib.grownBy_trans (World.grownBy_alloc w _ (some R)) hg1) _
  have HL1 : Hid (Kn r0 l → (Rel.wrd l).2 = Rel.t0 r0) := fun k => (HK0.out k).2.1
  generalize (Rel.wrd l).2 = l1 at *
  clear hr1 hg1 hB HG1
  go_wp2_with fail
  refine (f35B R s _ l1 _ hs2 (by decide) HS.out.rdr).mono ?_
  rintro e w3 ⟨rfl, hr3, hg3⟩
  have HS3 := hid (HS.out.moved hr3 hg3)
  generalize hX : w2.heap.size = X at *
  clear hr3 hg3 HS
  go_upto_if 14 with fail
  go_cut [] from 14 to 17 (fun wx => ∃ (l2 : List UInt8) (ss : List ByteArray) (a : Option Addr) (c : Nat), Hid (Sr R X s w l2 ⟨A, ss, ⟨#[]⟩, ⟨#[]⟩, ⟨#[]⟩, ⟨#[]⟩, 0⟩ a ss.length c wx) ∧ Hid (Kn r0 l → ss = r0.from' ∧ l2 = Rel.t1 r0) ∧ ss.length ≤ s.size ∧ Hid (∀ x ∈ ss, x.size ≤ s.size))
  case first =>
    cases hb : sg sF l1
    · have HB := hid hb
      go_wp2
      go_meet
      exact ⟨_, [], none, 0, HS3, fun k => kn_from_no k.1 (HL1.out k) HB.out, by simp, by intro x hx; cases hx⟩
    · have HB := hid hb
      go_wp2_with fail
      refine (f36 R s _ _ hs HS3.out.rdr).mono ?_
      rintro e w4 ⟨acc, l', a, c, hw, rfl, hls, h1, h2, h3⟩
      have HM := hid (HS3.out.moved hls.rdr hls.grw)
      have HN := hid (HS3.out.names hls)
      have HW := hid hw
      have HZ := hid h3
      obtain ⟨b0, b1, b2, b3, b4, b5, b6⟩ := Rel.cells7 HM.out.box
      have rf := seven_frz (o := 1) HM.out.box
      clear hw h3 hls b0 b2 b3 b4 b5 b6
      go_wp2
      go_meet
      exact ⟨l', acc, a, c, HN, fun k => kn_from_yes k.1 (HL1.out k) (by have g1 := HWL.out; have g2 := HLL.out; obtain ⟨g3, g4, g5, g6⟩ := HK0.out k; have g7 := wd_ge g5 g6; have g8 := sg_len HB.out; rw [g3] at g1; simp at g8; omega) HB.out HW.out, by have g1 := HWL.out; have g2 := HLL.out; have g3 : (rs [32, 102, 114, 111, 109, 32] l1).length + 6 = l1.length := rs_len HB.out; omega, HZ⟩
  case rest =>
  clear HS3
  obtain ⟨l2, ss, a, c, HS4, HK4, hsl, HZ⟩ := hcut
  go_wp2_with fail
  refine (f37J R s _ l2 _ hs2 (by decide) HS4.out.rdr).mono ?_
  rintro e w5 ⟨hg5, v5, ok5, l5, rfl, hr5, hv5, hk5⟩
  have HS5 := hid (HS4.out.moved hr5 hg5)
  have HK5 : Hid (Kn r0 l → ss = r0.from' ∧ v5 = r0.sep ∧ ok5 = true ∧ l5 = Rel.t2 r0) := fun k => by
    obtain ⟨h1, h2⟩ := HK4.out k
    obtain ⟨h3, h4, h5⟩ := hk5 _ _ (by rw [h2]; exact Rel.back_sep r0)
    exact ⟨h1, h3.trans (mk_eq rfl), h4, h5⟩
  have HV5 := hid hv5
  have HS6 := hid (HS5.out.sep v5)
  obtain ⟨b0, b1, b2, b3, b4, b5, b6⟩ := Rel.cells7 HS5.out.box
  have rf := seven_frz (o := 2) HS5.out.box
  clear hg5 hr5 hk5 hv5 HS4 HK4 b0 b1 b3 b4 b5 b6
  go_wp2_with fail
  refine (f37J R s _ l5 _ hs2 (by decide) HS6.out.rdr).mono ?_
  rintro e w7 ⟨hg7, v7, ok7, l7, rfl, hr7, hv7, hk7⟩
  have HS7 := hid (HS6.out.moved hr7 hg7)
  have HK7 : Hid (Kn r0 l → ss = r0.from' ∧ v5 = r0.sep ∧ ok5 = true ∧ v7 = r0.pat ∧ ok7 = true ∧ l7 = Rel.t3 r0) := fun k => by
    obtain ⟨h1, h2, h3, h4⟩ := HK5.out k
    obtain ⟨h5, h6, h7⟩ := hk7 _ _ (by rw [h4]; exact Rel.back_pat r0)
    exact ⟨h1, h2, h3, h5.trans (mk_eq rfl), h6, h7⟩
  have HV7 := hid hv7
  have HS8 := hid (HS7.out.pat v7)
  obtain ⟨b0, b1, b2', b3, b4, b5, b6⟩ := Rel.cells7 HS7.out.box
  have rf7 := seven_frz (o := 3) HS7.out.box
  clear hg7 hr7 hk7 hv7 HS5 HS6 HK5 b2 rf b0 b1 b2' b4 b5 b6
  go_wp2_with fail
  refine (f35B R s _ l7 _ hs2 (by decide) HS8.out.rdr).mono ?_
  rintro e w9 ⟨rfl, hr9, hg9⟩
  have HS9 := hid (HS8.out.moved hr9 hg9)
  clear hr9 hg9 HS7 HS8 b3 rf7
  go_upto_if 31 with fail
  go_cut [] from 31 to 34 (fun wx => ∃ (l10 : List UInt8) (v10 : ByteArray), Hid (Sr R X s w l10 ⟨A, ss, v5, v7, v10, ⟨#[]⟩, 0⟩ a ss.length c wx) ∧ Hid (Kn r0 l → v10 = r0.tgt ∧ l10 = Rel.t4 r0) ∧ Hid (v10.size ≤ s.size))
  case first =>
    cases hb : sg sT l7
    · have HB := hid hb
      go_wp2
      go_meet
      exact ⟨_, _, HS9, fun k => kn_to_no k.1 (HK7.out k).2.2.2.2.2 HB.out, Nat.zero_le _⟩
    · have HB := hid hb
      go_wp2_with fail
      refine (f34L R s _ _ hs2 HS9.out.rdr).mono ?_
      rintro e w10 ⟨rfl, hr10, hg10⟩
      have HLW : Hid ((Rel.wrd (rs sT l7)).1.length ≤ s.size) := by
        have h1 := wrd_len (rs sT l7)
        have h2 := HS9.out.rdr.left.2
        unfold Hid
        have : (rs sT l7).length ≤ s.size := h2
        omega
      have HS10 := hid (HS9.out.moved hr10 hg10)
      have HS11 := hid (HS10.out.tgt (mkS (Rel.wrd (rs sT l7)).1))
      obtain ⟨b0, b1, b2, b3, b4, b5, b6⟩ := Rel.cells7 HS10.out.box
      have rf := seven_frz (o := 4) HS10.out.box
      clear hr10 hg10 b0 b1 b2 b3 b5 b6
      go_wp2
      go_meet
      exact ⟨_, _, HS11, fun k => kn_to_yes k.1 (HK7.out k).2.2.2.2.2 HB.out, by unfold Hid; rw [mk_len]; exact HLW.out⟩
  case rest =>
  clear HS9
  obtain ⟨l10, v10, HS10, HK10, HV10⟩ := hcut
  go_wp2_with fail
  refine (f37J R s _ l10 _ hs2 (by decide) HS10.out.rdr).mono ?_
  rintro e w11 ⟨hg11, v11, ok11, l11, rfl, hr11, hv11, hk11⟩
  have HS11 := hid (HS10.out.moved hr11 hg11)
  have HK11 : Hid (Kn r0 l → v11 = r0.val ∧ ok11 = true ∧ l11 = Rel.t5 r0) := fun k => by
    obtain ⟨h1, h2⟩ := HK10.out k
    obtain ⟨h3, h4, h5⟩ := hk11 _ _ (by rw [h2]; exact Rel.back_val r0)
    exact ⟨h3.trans (mk_eq rfl), h4, h5⟩
  have HV11 := hid hv11
  have HS12 := hid (HS11.out.val v11)
  obtain ⟨b0, b1, b2, b3, b4, b5, b6⟩ := Rel.cells7 HS11.out.box
  have rf := seven_frz (o := 5) HS11.out.box
  clear hg11 hr11 hk11 hv11 HS10 b0 b1 b2 b3 b4 b6
  go_wp2_with fail
  refine (f35B R s _ l11 _ hs2 (by decide) HS12.out.rdr).mono ?_
  rintro e w13 ⟨rfl, hr13, hg13⟩
  have HS13 := hid (HS12.out.moved hr13 hg13)
  clear hr13 hg13 HS11 HS12 b5 rf
  go_upto_if 42 with fail
  go_cut [8] from 42 to 49 (fun s8 wx => ∃ (l14 : List UInt8) (ok14 : Bool) (m14 : Int), s8 = .bool ok14 ∧ Hid (Sr R X s w l14 ⟨A, ss, v5, v7, v10, v11, m14⟩ a ss.length c wx) ∧ Hid (Kn r0 l → m14 = r0.md ∧ ok14 = true) ∧ -9223372036854775808 ≤ m14 ∧ m14 ≤ 9223372036854775807)
  case first =>
    cases hb : sg sB l11
    · have HB := hid hb
      go_wp2
      go_meet
      exact ⟨_, true, 0, rfl, HS13, fun k => ⟨kn_by_no (HK11.out k).2.2 HB.out, rfl⟩, by omega, by omega⟩
    · have HB := hid hb
      go_wp2_with fail
      refine (f34L R s _ _ hs2 HS13.out.rdr).mono ?_
      rintro e w14 ⟨rfl, hr14, hg14⟩
      have HS14 := hid (HS13.out.moved hr14 hg14)
      have HLW : Hid ((mkS (Rel.wrd (rs sB l11)).1).size ≤ 1048576) := by
        have h1 := wrd_len (rs sB l11)
        have h2 := HS13.out.rdr.left.2
        unfold Hid
        have : (rs sB l11).length ≤ s.size := h2
        rw [mk_len]
        omega
      clear hr14 hg14
      have HGl := hid (HS14.out.glb hR HG.out)
      go_wp2_with fail
      refine (Rel.f38 _ _ HLW.out HGl.out.pow HGl.out.ers).mono ?_
      rintro e w15 ⟨hb15, m, ok, rfl, hm0, hm1, hm⟩
      have HS15 := hid (HS14.out.below hb15)
      have HS16 := hid (HS15.out.md m)
      have HM : Hid (Kn r0 l → m = r0.md ∧ ok = true) := fun k => by
        obtain ⟨h1, h2, h3⟩ := kn_by_yes k.1 (HK11.out k).2.2 HB.out
        exact hm _ h2 h3 h1
      obtain ⟨b0, b1, b2, b3, b4, b5, b6⟩ := Rel.cells7 HS15.out.box
      have rf := seven_frz (o := 6) HS15.out.box
      clear hb15 hm b0 b1 b2 b3 b4 b5
      go_wp2
      go_meet
      exact ⟨_, ok, m, rfl, HS16, HM, hm0, hm1⟩
  case rest =>
  clear HS13
  obtain ⟨l14, ok14, m14, rfl, HS14, HK14, hm0, hm1⟩ := hcut
  obtain ⟨b0, b1, b2, b3, b4, b5, b6⟩ := Rel.cells7 HS14.out.box
  obtain ⟨z0, z1, z2, z3, z4, z5, z6⟩ := Rel.cells7 HS14.out.zer
  have rf0 := seven_frz (o := 0) HS14.out.zer
  have rf1 := seven_frz (o := 1) HS14.out.zer
  have rf2 := seven_frz (o := 2) HS14.out.zer
  have rf3 := seven_frz (o := 3) HS14.out.zer
  have rf4 := seven_frz (o := 4) HS14.out.zer
  have rf5 := seven_frz (o := 5) HS14.out.zer
  have rf6 := seven_frz (o := 6) HS14.out.zer
  have hXp := HS14.out.pos
  have HE : Hid (∀ ok : Bool, (Kn r0 l → ok = true) → RrR R s l r0 w (.returned (.tuple #[Rel.agR ⟨A, ss, v5, v7, v10, v11, m14⟩ a ss.length c, .bool ok])) (put7 wc w.heap.size (.int .i64 A) (.slice a ss.length c) (.string v5) (.string v7) (.string v10) (.string v11) (.int .i64 m14))) := by
    intro ok hok
    refine ⟨⟨A, ss, v5, v7, v10, v11, m14⟩, a, ss.length, c, ok, rfl, rfl, hsl, HZ.out, own_base (put7_own HS14.out.row (by omega) _ _ _ _ _ _ _) (by omega), put7_new HS14.out.grw (Nat.le_refl _) _ _ _ _ _ _ _, by simp only; omega, by simp only; omega, HV5.out, HV7.out, HV10.out, HV11.out, hm0, hm1, fun k => ⟨?_, hok k⟩⟩
    obtain ⟨k1, k2, k3, k4, k5, k6⟩ := HK7.out k
    obtain ⟨k7, k8⟩ := HK10.out k
    obtain ⟨k9, k10, k11⟩ := HK11.out k
    obtain ⟨k12, k13⟩ := HK14.out k
    have k0 := HA.out k
    rw [k0, k1, k2, k4, k7, k9, k12]
  have y := put7_box HS14.out.zer (.int .i64 A) (.slice a ss.length c) (.string v5) (.string v7) (.string v10) (.string v11) (.int .i64 m14)
  have HY := hid (Rel.cells7 y)
  clear y
  have HOK : Hid (Kn r0 l → ok5 = true ∧ ok7 = true ∧ ok11 = true ∧ ok14 = true) := fun k => ⟨(HK7.out k).2.2.1, (HK7.out k).2.2.2.2.1, (HK11.out k).2.1, (HK14.out k).2⟩
  cases ok5
  · go_wp2
    obtain ⟨y0, y1, y2, y3, y4, y5, y6⟩ := HY.out
    refine bodyPost_ret (v := .tuple #[Rel.agR ⟨A, ss, v5, v7, v10, v11, m14⟩ a ss.length c, .bool false]) ?_ rfl (HE.out false fun k => (HOK.out k).1)
    rw [results_cell_tmp rfl]
    go_simp
  cases ok7
  · go_wp2
    obtain ⟨y0, y1, y2, y3, y4, y5, y6⟩ := HY.out
    refine bodyPost_ret (v := .tuple #[Rel.agR ⟨A, ss, v5, v7, v10, v11, m14⟩ a ss.length c, .bool false]) ?_ rfl (HE.out false fun k => (HOK.out k).2.1)
    rw [results_cell_tmp rfl]
    go_simp
  cases ok11
  · go_wp2
    obtain ⟨y0, y1, y2, y3, y4, y5, y6⟩ := HY.out
    refine bodyPost_ret (v := .tuple #[Rel.agR ⟨A, ss, v5, v7, v10, v11, m14⟩ a ss.length c, .bool false]) ?_ rfl (HE.out false fun k => (HOK.out k).2.2.1)
    rw [results_cell_tmp rfl]
    go_simp
  · go_wp2
    obtain ⟨y0, y1, y2, y3, y4, y5, y6⟩ := HY.out
    refine bodyPost_ret (v := .tuple #[Rel.agR ⟨A, ss, v5, v7, v10, v11, m14⟩ a ss.length c, .bool ok14]) ?_ rfl (HE.out ok14 fun k => (HOK.out k).2.2.2)
    rw [results_cell_tmp rfl]
    go_simp
end Go.Proofs.YtbijhkbmgljjiaaGreatDoor.Rdd
