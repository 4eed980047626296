/- What is retained: the program's copyBlocks, both RetainBlocks. -/
import Derived.Test.YtmgghnmlhkahnaaGreatKm
namespace Go.Proofs.YtmgghnmlhkahnaaGreat.Blk
open Go.RowKit
open Go.Proofs.YtmgghnmlhkahnaaGreat.Lab (Lb HasL)
open Go.Proofs.YtmgghnmlhkahnaaGreat.Smp (Sm HasS own_form ret_bool)
open Go.Proofs.YtmgghnmlhkahnaaGreat.Srs (hid lt_at kept blk own_base own_below own_grown own_set set_else set_at Q q0 HasQ SmlQ OwnG Own2 Named)
open Go.Proofs.YtmgghnmlhkahnaaGreat.Stn (T t0 OwnT HasT SmlT three infoT)

theorem ownc_grown {X Y : Nat} {h : Bk} {w w' : World} {r : Option Nat} (o : OwnC X Y h w) (hg : w.grownBy w' r) (hne : ∀ g, r = some g → g < X ∨ Y ≤ g) : OwnC X Y h w' := by
  obtain ⟨g, k, M, e1, e2, e3, e4, o1, o2, l1, l2, l3, l4, l5, l6⟩ := o.ex
  have nb : ∀ b, X ≤ b → b < Y → some b ≠ r := fun b h1 h2 e => by have := hne b e.symm; omega
  have lg := (o1.row.lt g rfl).1
  refine ⟨⟨g, k, M, e1, e2, e3, e4, ⟨o1.len, o1.row.kept hg (.inr (nb g lg (by omega))), fun i hi => (o1.own i hi).kept hg (nb _ (o1.own i hi).lo.1 (by have := (l3 i hi).1; omega)) (nb _ (o1.own i hi).lo.2 (by have := (l3 i hi).2; omega)), o1.apt⟩, ⟨o2.row.kept hg (.inr (nb k (by omega) l5)), ⟨o2.kin.len, fun i hi => ⟨(o2.kin.own i hi).ha, (o2.kin.own i hi).lab.kept hg (.inr (nb (blk (h.ts.getD i t0).a) (by have h5 : M ≤ blk (h.ts.getD i t0).a := ((o2.kin.own i hi).lab.lt _ rfl).1; omega) (l6 i hi)))⟩, o2.kin.off, o2.kin.dis⟩⟩, l1, l2, l3, l4, l5, l6⟩, Nat.le_trans o.top hg.size⟩
theorem wayOwn : Way OwnC := ⟨fun h => h.below, fun h => ownc_grown h, fun h => h.top, fun h => h.has⟩
/-- What the program gives: a row of blocks, each in a stretch of its own, one behind the other. -/
structure Ans (X : Nat) (a : Option Addr) (n c : Nat) (R : List Bk) (w : World) : Prop where
  ex : ∃ L U, RowK OwnC X a n c R L U w ∧ (∀ i, i < n → X ≤ L i) ∧ (∀ i j, i < j → j < n → U i ≤ L j)
set_option maxHeartbeats 4000000 in
theorem f16 (a : Option Addr) (n c : Nat) (bs : List Bk) (w : World) (hn : bs.length = n) (hb : n ≤ 100) (hr : HasK w a bs) (hc : ∀ i, i < n → Cpb (bs.getD i k0)) :
    Calls Tryz.prog 16 #[.slice a n c] w fun e w' => ∃ (a' : Option Addr) (c' : Nat) (R : List Bk), e = .returned (.slice a' n c') ∧ Hid (Ans w.heap.size a' n c' R w') ∧ Hid (SameK n bs R) ∧ Below w.heap.size w w' := by
  obtain ⟨i0, hi, hz0, hz1, hz2⟩ := info_parts infoK
  have HN := hid hn
  have HR := hid hr
  have HC := hid hc
  clear hn hr hc
  go_enter Tryz.func16, Tryz.ntmps16
  go_wp2_with (at_make; refine wpList_make_own _ rfl _ _ 24 rfl w.heap.size 40 i0 (.agg #[.int .i64 0, .int .i64 0, .int .i64 0, .slice none 0 0, .slice none 0 0]) 5 Tryz.underlying24 hi hz0 hz1 _ _ _ n rfl rfl (by omega) ?b2 ?b3 (Nat.le_refl _) ?_)
  case b2 => rw [hz2]; omega
  case b3 => unfold maxLen; omega
  intro w0 hown0 hgrow0
  have HB0 := hid ((Below.refl w.heap.size w).grown hgrow0 (Nat.le_refl _) (fun k h => by cases h))
  have HO0 : Hid (RowK OwnC w.heap.size (some ⟨w.heap.size, 0, none⟩) 0 n [] (fun _ => 0) (fun _ => 0) w0) := ⟨rfl, hown0, fun i hi => by omega, fun g _ i hi => by omega⟩
  clear hown0 hgrow0
  go_wp2
  go_loopw [3, 11] (fun so si wr => ∃ (k c' : Nat) (a' : Option Addr) (R : List Bk) (L U : Nat → Nat), k ≤ n ∧ si = .int .i64 k ∧ so = .slice a' k c' ∧ Hid (RowK OwnC w.heap.size a' k c' R L U wr) ∧ Hid ((∀ i, i < k → w.heap.size ≤ L i) ∧ (∀ i j, i < j → j < k → U i ≤ L j)) ∧ Hid (SameK k bs R) ∧ Hid (Below w.heap.size w wr)) (fun _ si _ => n - (intOf si).toNat)
  case atStart => exact ⟨0, n, _, [], _, _, Nat.zero_le _, rfl, rfl, HO0, ⟨fun i hi => by omega, fun i j _ hj => by omega⟩, fun i hi => by omega, HB0⟩
  case round =>
    obtain ⟨k, c', a', R, L, U, hk, rfl, rfl, HO, HU, HS, HX⟩ := hrel
    by_cases hlt : k < n
    rotate_left
    · obtain rfl : k = n := by omega
      have HE : Hid (Ans w.heap.size a' k c' R wr) := ⟨L, U, HO.out, HU.out.1, HU.out.2⟩
      go_wp2
      go_ret
      exact ⟨a', c', R, rfl, HE, HS, HX.out⟩
    obtain ⟨b, off, rfl, hbl, hcc, t1⟩ := (HR.out.below HX.out).at2 k (by rw [HN.out]; exact hlt)
    obtain ⟨c0, c1, c2, c3, c4⟩ := hcc
    have HCq := hid (HC.out k hlt)
    have HQk : Hid (∀ q', SameB (bs.getD k k0) q' → SameK (k + 1) bs (R ++ [q'])) := by
      intro q' he i hi
      rw [getK_snoc, HO.out.len]
      by_cases e : i = k
      · rw [if_pos e, e]; exact he
      · rw [if_neg e]; exact HS.out i (by omega)
    generalize bs.getD k k0 = q at *
    have i1 : (k : Int) < (n : Int) := by omega
    have HW0 := hid ((Below.refl wr.heap.size wr).alloc (Nat.le_refl _) (.cells (clB q) 40))
    have HT1 := hid (t1.below HW0.out)
    have hX0 : w.heap.size ≤ wr.heap.size := HX.out.size
    simp only [clB] at HW0 HT1
    clear t1 hbl
    go_wp2_with fail
    refine (f34 q _ HT1.out HCq.out).mono ?_
    rintro e w4 ⟨h4, rfl, hs4, hi4, hb4⟩
    have HW4 : Hid (Below wr.heap.size wr w4) := HW0.out.trans (hb4.mono HW0.out.size)
    have HX4 := hid (HX.out.trans (HW4.out.mono hX0))
    obtain ⟨Lo, hLo⟩ : ∃ Lo, Lo = (wr.alloc (.cells #[.int .i64 q.F, .int .i64 q.T, .int .i64 q.L, .slice q.a q.qs.length q.c, .slice q.b q.ts.length q.d] 40)).heap.size := ⟨_, rfl⟩
    rw [← hLo] at hi4
    have hLo1 : wr.heap.size ≤ Lo := by rw [hLo]; exact HW0.out.size
    have HI4 := hid hi4.out
    have HS4 := hid (HQk.out h4 hs4.out)
    have HO4 := hid (HO.out.below wayOwn HW4.out)
    have HTp : Hid (∀ i, i < k → U i ≤ wr.heap.size) := fun i hi => (HO.out.each i hi).top
    clear hs4 hi4 hb4 hLo c0 c1 c2 c3 c4
    go_wp2_with (at_builtin; refine wpList_append_own_at _ rfl (.tmp 15) (.tmp 18) 24 rfl w.heap.size 40 i0 (.agg #[.int .i64 0, .int .i64 0, .int .i64 0, .slice none 0 0, .slice none 0 0]) 5 72 Tryz.underlying24 hi hz0 hz1 hz2 rfl (by decide) _ _ _ rfl (HO4.out.row.alloc _) ⟨w4.heap.size, 0, none⟩ 1 1 (clK h4) rfl rfl ?d1 ?d2 ?d3 ?d4 ?d5 ?_)
    case d1 => exact five_new w4 _ _ _ _ _ _
    case d2 => (intro u hu; simp [clK] at hu; rcases hu with rfl | rfl | rfl | rfl | rfl <;> rfl)
    case d3 => unfold maxLen; omega
    case d4 => omega
    case d5 => have := HX4.out.size; simp; omega
    intro v8 w8 hown8 hgr8 _ hat8
    obtain ⟨a8, c8, rfl⟩ := own_form hown8
    have HX8 := hid ((HX4.out.alloc HX4.out.size (.cells (clB h4) 40)).grown hgr8 (by have := HX4.out.size; simp; omega) (fun j hj => (HO4.out.row.lt j hj).1))
    have HO8 : Hid (RowK OwnC w.heap.size a8 (k + 1) c8 (R ++ [h4]) (fun i => if i = k then Lo else L i) (fun i => if i = k then w4.heap.size else U i) w8) := by
      have hba := (Below.refl w4.heap.size w4).alloc (Nat.le_refl _) (.cells (clB h4) 40)
      refine HO.out.push wayOwn (HW4.out.trans (hba.mono HW4.out.size)) (HI4.out.below hba) (fun g hg => .inl (by have := (HO.out.row.lt g hg).2; omega)) hgr8 ?_ (by rw [World.size_alloc]; exact hat8)
      rw [flatK_snoc]
      exact hown8
    have HU8 : Hid ((∀ i, i < k + 1 → w.heap.size ≤ (if i = k then Lo else L i)) ∧ (∀ i j, i < j → j < k + 1 → (if i = k then w4.heap.size else U i) ≤ (if j = k then Lo else L j))) := by
      refine ⟨fun i hi => ?_, fun i j hij hj => ?_⟩
      · by_cases e : i = k
        · rw [if_pos e]; omega
        · rw [if_neg e]; exact HU.out.1 i (by omega)
      · rw [if_neg (show ¬ i = k by omega)]
        by_cases e : j = k
        · rw [if_pos e]; have := HTp.out i (by omega); omega
        · rw [if_neg e]; exact HU.out.2 i j hij (by omega)
    clear hown8 hgr8 hat8
    go_wp2
    go_roundw
    case rel => exact ⟨k + 1, c8, a8, R ++ [h4], _, _, by omega, by go_num, rfl, HO8, HU8, HS4, HX8⟩
    case measure => simp [intOf]; omega
/-- What both give. -/
noncomputable def rt (b : Int) (bs : List Bk) (x : Int) : List Bk := if gdK b bs = true then kp x bs else []
theorem named_nn {ls : List Lb} (h : Named ls) : ls ≠ [] := by
  rintro rfl
  exact h.2 (.inr ⟨fun k hk => by simp at hk, rfl⟩)
theorem good_cpb {h : Bk} (g : GoodB h) (hz : SmlB h) (hcap : ∀ i, i < h.qs.length → (h.qs.getD i q0).d = (h.qs.getD i q0).s.length) : Cpb h := by
  refine ⟨hz, fun i hi => ⟨named_nn (g.2.1.2 i hi).1.1, (g.2.1.2 i hi).1.2.2⟩, hcap, fun i hi => ?_⟩
  obtain ⟨j, hj, he⟩ := (g.2.2.2.2.1 i hi).1
  rw [← lst_zero he]
  exact named_nn (g.2.1.2 j hj).1.1
set_option maxHeartbeats 4000000 in
theorem f5 (b : Int) (a : Option Addr) (n c : Nat) (bs : List Bk) (x : Int) (w : World) (hb0 : -9223372036854775808 ≤ b) (hb1 : b ≤ 9223372036854775807) (hn : bs.length = n) (hb : n ≤ 1048576) (hr : HasK w a bs) (hf : FitK bs) (hz : SmlK bs) (hcap : ∀ j, j < n → ∀ i, i < (bs.getD j k0).qs.length → ((bs.getD j k0).qs.getD i q0).d = ((bs.getD j k0).qs.getD i q0).s.length) :
    Calls Tryz.prog 5 #[.int .i64 b, .slice a n c, .int .i64 x] w fun e w' => ∃ (a' : Option Addr) (m c' : Nat) (R : List Bk), e = .returned (.slice a' m c') ∧ Hid (R.length = m ∧ m = (rt b bs x).length ∧ SameK m (rt b bs x) R ∧ HasK w' a' R) ∧ Below w.heap.size w w' := by
  have HN := hid hn
  have HR := hid hr
  have HZ := hid hz
  have HCp := hid hcap
  have HG := hid (f12 b a n c bs w hb0 hb1 hn hb hr hf hz)
  clear hn hr hf hz hcap
  go_enter Tryz.func5, Tryz.ntmps5
  go_wp2_with fail
  refine HG.out.mono ?_
  rintro e w1 ⟨rfl, hb1'⟩
  have HB1 := hid hb1'
  have HR1 := hid (HR.out.below hb1')
  clear hb1' HG
  cases hg : gdK b bs
  · have E : Hid (rt b bs x = []) := by unfold Hid rt; rw [hg]; rfl
    go_wp2
    go_ret
    exact ⟨none, 0, 0, [], rfl, ⟨rfl, by rw [E.out]; rfl, fun i hi => by omega, .inl rfl⟩, HB1.out⟩
  have E : Hid (rt b bs x = kp x bs) := by unfold Hid rt; rw [hg]; rfl
  have HGK := hid (gdK_iff.1 hg)
  have h100 : n ≤ 100 := by rw [← HN.out]; exact HGK.out.2.1
  go_wp2_with fail
  refine (f13 a n c bs x _ HN.out h100 HR1.out (fun j hj => good_cpb (HGK.out.2.2 j (by rw [HN.out]; exact hj)).2.1 (HZ.out j (by rw [HN.out]; exact hj)) (HCp.out j hj))).mono ?_
  rintro e w2 ⟨a2, m2, c2, R2, rfl, h2, hb2⟩
  have HB2 := hid (HB1.out.trans (hb2.mono HB1.out.size))
  have H2 := hid h2.out
  rw [← E.out] at H2
  clear h2 hb2
  go_wp2
  go_ret
  exact ⟨a2, m2, c2, R2, rfl, H2, HB2.out⟩
theorem hasB_agr0 {w y : World} {h : Bk} (hh : HasB w h) (ha : AgrI 0 w.heap.size w y) : HasB y h := by
  refine ⟨?_, ?_⟩
  · rcases hh.1 with e | ⟨b, off, h1, h2, h3⟩
    · exact .inl e
    · refine .inr ⟨b, off, h1, Nat.lt_of_lt_of_le h2 ha.size, fun i hi => ?_⟩
      obtain ⟨k0, k1, k2, k3⟩ := h3 i hi
      refine ⟨(cell_agr ha (Nat.zero_le _) h2).trans k0, (cell_agr ha (Nat.zero_le _) h2).trans k1, ?_, ?_⟩
      · rcases k2 with e | ⟨b', o', q1, q2, q3⟩
        · exact .inl e
        · exact hasL_agr ha (.inr ⟨b', o', q1, q2, q3⟩) fun _ b2 o2 e2 => by rw [q1] at e2; cases e2; exact ⟨Nat.zero_le _, q2⟩
      · rcases k3 with e | ⟨b', o', q1, q2, q3⟩
        · exact .inl e
        · exact hasS_agr ha (.inr ⟨b', o', q1, q2, q3⟩) fun _ b2 o2 e2 => by rw [q1] at e2; cases e2; exact ⟨Nat.zero_le _, q2⟩
  · rcases hh.2 with e | ⟨b, off, h1, h2, h3⟩
    · exact .inl e
    · refine .inr ⟨b, off, h1, Nat.lt_of_lt_of_le h2 ha.size, fun i hi => ?_⟩
      obtain ⟨⟨k0, k1, k2⟩, k3⟩ := h3 i hi
      refine ⟨⟨(cell_agr ha (Nat.zero_le _) h2).trans k0, (cell_agr ha (Nat.zero_le _) h2).trans k1, (cell_agr ha (Nat.zero_le _) h2).trans k2⟩, ?_⟩
      rcases k3 with e | ⟨b', o', q1, q2, q3⟩
      · exact .inl e
      · exact hasL_agr ha (.inr ⟨b', o', q1, q2, q3⟩) fun _ b2 o2 e2 => by rw [q1] at e2; cases e2; exact ⟨Nat.zero_le _, q2⟩
theorem ans_base {X Y n c : Nat} {a : Option Addr} {R : List Bk} {w : World} (h : Ans X a n c R w) (hy : Y ≤ X) : Ans Y a n c R w := by
  obtain ⟨L, U, h1, h2, h3⟩ := h.ex
  exact ⟨L, U, ⟨h1.len, World.ownsRow.mono h1.row hy, h1.each, h1.off⟩, fun i hi => Nat.le_trans hy (h2 i hi), h3⟩
set_option maxHeartbeats 4000000 in
theorem f7 (b : Int) (a : Option Addr) (n c : Nat) (bs : List Bk) (x : Int) (w : World) (hb0 : -9223372036854775808 ≤ b) (hb1 : b ≤ 9223372036854775807) (hn : bs.length = n) (hb : n ≤ 1048576) (hr : HasK w a bs) (hf : FitK bs) (hz : SmlK bs) (hcap : ∀ j, j < n → ∀ i, i < (bs.getD j k0).qs.length → ((bs.getD j k0).qs.getD i q0).d = ((bs.getD j k0).qs.getD i q0).s.length) :
    Calls Tryz.prog 7 #[.int .i64 b, .slice a n c, .int .i64 x] w fun e w' => ∃ (a' : Option Addr) (m c' : Nat) (R : List Bk), e = .returned (.slice a' m c') ∧ Hid (R.length = m ∧ m = (rt b bs x).length ∧ SameK m (rt b bs x) R ∧ Ans w.heap.size a' m c' R w') ∧ Below w.heap.size w w' := by
  obtain ⟨i0, hi, hz0, hz1, hz2⟩ := info_parts infoK
  have HN := hid hn
  have HR := hid hr
  have HZ := hid hz
  have HCp := hid hcap
  have HG := hid (f15 b a n c bs w hb0 hb1 hn hb hr hf hz)
  clear hn hr hf hz hcap
  go_enter Tryz.func7, Tryz.ntmps7
  go_wp2_with fail
  refine HG.out.mono ?_
  rintro e w1 ⟨rfl, hb1'⟩
  have HB1 := hid hb1'
  have HR1 := hid (HR.out.below hb1')
  clear hb1' HG
  cases hg : gdK b bs
  · have E : Hid (rt b bs x = []) := by unfold Hid rt; rw [hg]; rfl
    go_wp2
    go_ret
    exact ⟨none, 0, 0, [], rfl, ⟨rfl, by rw [E.out]; rfl, fun i hi => by omega, ⟨fun _ => 0, fun _ => 0, RowK.nil _ _ _ _, fun i hi => by omega, fun i j _ hj => by omega⟩⟩, HB1.out⟩
  have E : Hid (rt b bs x = kp x bs) := by unfold Hid rt; rw [hg]; rfl
  have HGK := hid (gdK_iff.1 hg)
  have h100 : n ≤ 100 := by rw [← HN.out]; exact HGK.out.2.1
  have HCb : Hid (∀ j, j < n → Cpb (bs.getD j k0)) := fun j hj => good_cpb (HGK.out.2.2 j (by rw [HN.out]; exact hj)).2.1 (HZ.out j (by rw [HN.out]; exact hj)) (HCp.out j hj)
  have hsz1 : w.heap.size ≤ w1.heap.size := HB1.out.size
  clear hg
  go_wp2
  go_loopw [7, 16] (fun so si wr => ∃ (k m c' : Nat) (a' : Option Addr) (L U : Nat → Nat), k ≤ n ∧ si = .int .i64 k ∧ so = .slice a' m c' ∧ m ≤ k ∧ Hid (RowK InB w1.heap.size a' m c' (kp x (bs.take k)) L U wr) ∧ Hid (∀ i, i < m → L i = 0 ∧ U i = w1.heap.size) ∧ Hid (∀ i, i < m → Cpb ((kp x (bs.take k)).getD i k0)) ∧ Hid (Below w1.heap.size w1 wr)) (fun _ si _ => n - (intOf si).toNat)
  case atStart => exact ⟨0, 0, 0, none, fun _ => 0, fun _ => 0, Nat.zero_le _, rfl, rfl, Nat.le_refl _, RowK.nil _ _ _ _, fun i hi => by omega, fun i hi => by omega, Below.refl _ _⟩
  case round =>
    obtain ⟨k, m, c', a', L, U, hk, rfl, rfl, hmk, HO, HLU, HCk, HX⟩ := hrel
    by_cases hlt : k < n
    rotate_left
    · obtain rfl : k = n := by omega
      have HT : Hid (kp x (bs.take k) = rt b bs x) := by unfold Hid; rw [List.take_of_length_le (by rw [HN.out]; exact Nat.le_refl _), E.out]
      rw [HT.out] at HO HCk
      go_wp2_with fail
      refine (f16 a' m c' (rt b bs x) _ HO.out.len (by omega) (HO.out.has wayIn) HCk.out).mono ?_
      rintro e w2 ⟨a2, c2, R2, rfl, ha2, hs2, hb2⟩
      have hsr : w.heap.size ≤ wr.heap.size := Nat.le_trans hsz1 HX.out.size
      have H2 : Hid (R2.length = m ∧ m = (rt b bs x).length ∧ SameK m (rt b bs x) R2 ∧ Ans w.heap.size a2 m c2 R2 w2) := by
        obtain ⟨L2, U2, r1, _, _⟩ := ha2.out.ex
        exact ⟨r1.len, HO.out.len.symm, hs2.out, ans_base ha2.out hsr⟩
      have HB2 := hid ((HB1.out.trans (HX.out.mono hsz1)).trans (hb2.mono hsr))
      clear ha2 hs2 hb2
      go_wp2
      go_ret
      exact ⟨a2, m, c2, R2, rfl, H2, HB2.out⟩
    obtain ⟨bb, off, rfl, hbl, hcc, t1⟩ := (HR1.out.below HX.out).at2 k (by rw [HN.out]; exact hlt)
    have HI1 : Hid (InB 0 w1.heap.size (bs.getD k k0) w1) := by
      obtain ⟨_, _, _, _, _, t0'⟩ := HR1.out.at2 k (by rw [HN.out]; exact hlt)
      exact ⟨Nat.le_refl _, fun y hy => hasB_agr0 t0' hy⟩
    obtain ⟨c0, c1, c2, c3, c4⟩ := hcc
    have HCq := hid (HCb.out k hlt)
    have HKt := hid (kp_take (x := x) (bs := bs) (k := k) (by rw [HN.out]; exact hlt))
    generalize bs.getD k k0 = q at *
    have i1 : (k : Int) < (n : Int) := by omega
    have HW0 := hid ((Below.refl wr.heap.size wr).alloc (Nat.le_refl _) (.cells (clB q) 40))
    have HBx := hid (heap_alloc_new wr (.cells (clB q) 40))
    have hX0 : w1.heap.size ≤ wr.heap.size := HX.out.size
    simp only [clB] at HW0 HBx
    obtain ⟨d0, d1, d2, d3, d4⟩ := five HBx.out
    clear t1 hbl
    by_cases hx : x < q.T
    rotate_left
    · have HE2 : Hid (kp x (bs.take (k + 1)) = kp x (bs.take k)) := by unfold Hid; rw [HKt.out, if_neg hx, List.append_nil]
      have HO2 := hid (HO.out.below wayIn HW0.out)
      have HX2 := hid (HX.out.trans (HW0.out.mono hX0))
      rw [← HE2.out] at HO2 HCk
      go_wp2
      go_roundw
      case rel => exact ⟨k + 1, m, c', a', L, U, by omega, by go_num, rfl, by omega, HO2, HLU, HCk, HX2⟩
      case measure => simp [intOf]; omega
    have HE3 : Hid (kp x (bs.take (k + 1)) = kp x (bs.take k) ++ [q]) := by unfold Hid; rw [HKt.out, if_pos hx]
    have HW4 : Hid (Below wr.heap.size wr (wr.alloc (.cells (clB q) 40))) := HW0.out
    have HX4 : Hid (Below w1.heap.size w1 (wr.alloc (.cells (clB q) 40))) := HX.out.trans (HW0.out.mono hX0)
    have HO4 := hid (HO.out.below wayIn HW4.out)
    simp only [clB] at HW4 HX4 HO4
    have hnew := five_new (wr.alloc (.cells #[.int .i64 q.F, .int .i64 q.T, .int .i64 q.L, .slice q.a q.qs.length q.c, .slice q.b q.ts.length q.d] 40)) (.int .i64 q.F) (.int .i64 q.T) (.int .i64 q.L) (.slice q.a q.qs.length q.c) (.slice q.b q.ts.length q.d) 40
    rw [World.size_alloc] at hnew
    have HNw := hid hnew
    clear hnew
    go_wp2_with (at_builtin; refine wpList_append_own_at _ rfl (.tmp 24) (.tmp 26) 24 rfl w1.heap.size 40 i0 (.agg #[.int .i64 0, .int .i64 0, .int .i64 0, .slice none 0 0, .slice none 0 0]) 5 72 Tryz.underlying24 hi hz0 hz1 hz2 rfl (by decide) _ _ _ rfl (HO4.out.row.alloc _) ⟨wr.heap.size + 1, 0, none⟩ 1 1 (clK q) rfl rfl ?d1 ?d2 ?d3 ?d4 ?d5 ?_)
    case d1 => exact HNw.out
    case d2 => (intro u hu; simp [clK] at hu; rcases hu with rfl | rfl | rfl | rfl | rfl <;> rfl)
    case d3 => unfold maxLen; omega
    case d4 => omega
    case d5 => have := HX.out.size; simp; omega
    intro v8 w8 hown8 hgr8 _ hat8
    obtain ⟨a8, c8, rfl⟩ := own_form hown8
    have hba := (Below.refl (wr.alloc (.cells #[.int .i64 q.F, .int .i64 q.T, .int .i64 q.L, .slice q.a q.qs.length q.c, .slice q.b q.ts.length q.d] 40)).heap.size (wr.alloc (.cells #[.int .i64 q.F, .int .i64 q.T, .int .i64 q.L, .slice q.a q.qs.length q.c, .slice q.b q.ts.length q.d] 40))).alloc (Nat.le_refl _) (.cells #[.int .i64 q.F, .int .i64 q.T, .int .i64 q.L, .slice q.a q.qs.length q.c, .slice q.b q.ts.length q.d] 40)
    have HX8 := hid ((HX4.out.trans (hba.mono HX4.out.size)).grown hgr8 (by have := HX.out.size; simp; omega) (fun j hj => (HO4.out.row.lt j hj).1))
    have HO8 : Hid (RowK InB w1.heap.size a8 (m + 1) c8 (kp x (bs.take (k + 1))) (fun i => if i = m then 0 else L i) (fun i => if i = m then w1.heap.size else U i) w8) := by
      unfold Hid
      rw [HE3.out]
      refine HO.out.push wayIn (HW4.out.trans (hba.mono HW4.out.size)) ((HI1.out.below (HX4.out)).below hba) (fun g hg => .inr (HO.out.row.lt g hg).1) hgr8 ?_ (by rw [World.size_alloc, World.size_alloc]; exact hat8)
      rw [flatK_snoc]
      exact hown8
    have HL8 : Hid (∀ i, i < m + 1 → (if i = m then 0 else L i) = 0 ∧ (if i = m then w1.heap.size else U i) = w1.heap.size) := by
      intro i hi
      by_cases e : i = m
      · rw [if_pos e, if_pos e]; exact ⟨rfl, rfl⟩
      · rw [if_neg e, if_neg e]; exact HLU.out i (by omega)
    have HC8 : Hid (∀ i, i < m + 1 → Cpb ((kp x (bs.take (k + 1))).getD i k0)) := by
      intro i hi
      rw [HE3.out, getK_snoc, HO.out.len]
      by_cases e : i = m
      · rw [if_pos e]; exact HCq.out
      · rw [if_neg e]; exact HCk.out i (by omega)
    clear hown8 hgr8 hat8 hba
    go_wp2
    go_roundw
    case rel => exact ⟨k + 1, m + 1, c8, a8, _, _, by omega, by go_num, rfl, by omega, HO8, HL8, HC8, HX8⟩
    case measure => simp [intOf]; omega
end Go.Proofs.YtmgghnmlhkahnaaGreat.Blk
