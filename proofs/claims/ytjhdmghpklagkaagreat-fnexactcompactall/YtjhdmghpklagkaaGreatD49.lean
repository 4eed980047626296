/- What is retained: the program's copyBlocks, both RetainBlocks. -/
import Derived.Test.YtjhdmghpklagkaaGreatD48
namespace Go.Proofs.YtjhdmghpklagkaaGreat.Blk
open Go.RowKit
open Go.Proofs.YtjhdmghpklagkaaGreat.Lab (Lb HasL)
open Go.Proofs.YtjhdmghpklagkaaGreat.Smp (Sm HasS own_form ret_bool)
open Go.Proofs.YtjhdmghpklagkaaGreat.Srs (hid lt_at kept blk own_base own_below own_grown own_set set_else set_at Q q0 HasQ SmlQ OwnG Own2 Named)
open Go.Proofs.YtjhdmghpklagkaaGreat.Stn (T t0 OwnT HasT SmlT three infoT)

theorem ownc_grown {X Y : Nat} {h : Bk} {w w' : World} {r : Option Nat} (o : OwnC X Y h w) (hg : w.grownBy w' r) (hne : ∀ g, r = some g → g < X ∨ Y ≤ g) : OwnC X Y h w' := by
  obtain ⟨g, k, M, e1, e2, e3, e4, o1, o2, l1, l2, l3, l4, l5, l6⟩ := o.ex
  have nb : ∀ b, X ≤ b → b < Y → some b ≠ r := fun b h1 h2 e => by have := hne b e.symm; omega
  have lg := (o1.row.lt g rfl).1
  refine ⟨⟨g, k, M, e1, e2, e3, e4, ⟨o1.len, o1.row.kept hg (.inr (nb g lg (by omega))), fun i hi => (o1.own i hi).kept hg (nb _ (o1.own i hi).lo.1 (by have := (l3 i hi).1; omega)) (nb _ (o1.own i hi).lo.2 (by have := (l3 i hi).2; omega)), o1.apt⟩, ⟨o2.row.kept hg (.inr (nb k (by omega) l5)), ⟨o2.kin.len, fun i hi => ⟨(o2.kin.own i hi).ha, (o2.kin.own i hi).lab.kept hg (.inr (nb (blk (h.ts.getD i t0).a) (by have h5 : M ≤ blk (h.ts.getD i t0).a := ((o2.kin.own i hi).lab.lt _ rfl).1; omega) (l6 i hi)))⟩, o2.kin.off, o2.kin.dis⟩⟩, l1, l2, l3, l4, l5, l6⟩, Nat.le_trans o.top hg.size⟩
theorem wayOwn : Way OwnC := ⟨fun h => h.below, fun h => ownc_grown h, fun h => h.top, fun h => h.has⟩
structure Ans (X : Nat) (a : Option Addr) (n c : Nat) (R : List Bk) (w : World) : Prop where
  ex : ∃ L U, RowK OwnC X a n c R L U w ∧ (∀ i, i < n → X ≤ L i) ∧ (∀ i j, i < j → j < n → U i ≤ L j)
set_option maxHeartbeats 4000000 in
theorem f45 (a : Option Addr) (n c : Nat) (bs : List Bk) (w : World) (hn : bs.length = n) (hb : n ≤ 100) (hr : HasK w a bs) (hc : ∀ i, i < n → Cpb (bs.getD i k0)) :
    Calls Tryz.prog 45 #[.slice a n c] w fun e w' => ∃ (a' : Option Addr) (c' : Nat) (R : List Bk), e = .returned (.slice a' n c') ∧ Hid (Ans w.heap.size a' n c' R w') ∧ Hid (SameK n bs R) ∧ Below w.heap.size w w' := by
  obtain ⟨i0, hi, hz0, hz1, hz2⟩ := info_parts infoK
  have HN := hid hn
  have HR := hid hr
  have HC := hid hc
  clear hn hr hc
  go_enter Tryz.func45, Tryz.ntmps45
  go_wp2_with (at_make; refine wpList_make_own _ rfl _ _ 26 rfl w.heap.size 36 i0 (.agg #[.int .i64 0, .int .i64 0, .int .i64 0, .slice none 0 0, .slice none 0 0]) 5 Tryz.underlying26 hi hz0 hz1 _ _ _ n rfl rfl (by omega) ?b2 ?b3 (Nat.le_refl _) ?_)
  case b2 => rw [hz2]; omega
  case b3 => unfold maxLen; omega
  intro w0 hown0 hgrow0
  have HB0 := hid ((Below.refl w.heap.size w).grown hgrow0 (Nat.le_refl _) (fun k h => by cases h))
  have HO0 : Hid (RowK OwnC w.heap.size (some ⟨w.heap.size, 0, none⟩) 0 n [] (fun _ => 0) (fun _ => 0) w0) := ⟨rfl, hown0, fun i hi => by omega, fun g _ i hi => by omega⟩
  clear hown0 hgrow0
  go_wp2
  go_loopw [3, 11] (fun so si wr => ∃ (k c' : Nat) (a' : Option Addr) (R : List Bk) (L U : Nat → Nat), k ≤ n ∧ si = .int .i64 k ∧ so = .slice a' k c' ∧ Hid (RowK OwnC w.heap.size a' k c' R L U wr) ∧ Hid ((∀ i, i < k → w.heap.size ≤ L i) ∧ (∀ i j, i < j → j < k → U i ≤ L j)) ∧ Hid (SameK k bs R) ∧ Hid (Below w.heap.size w wr)) (fun _ si _ => n - (intOf si).toNat)
  case atStart => exact ⟨0, n, _, [], _, _, Nat.zero_le _, rfl, rfl, HO0, ⟨fun i hi => by omega, fun i j _ hj => by omega⟩, fun i hi => by omega, HB0⟩
  case round =>
    obtain ⟨k, c', a', R, L, U, hk, rfl, rfl, HO, HU, HS, HX⟩ := hrel
    by_cases hlt : k < n
    rotate_left
    · obtain rfl : k = n := by omega
      have HE : Hid (Ans w.heap.size a' k c' R wr) := ⟨L, U, HO.out, HU.out.1, HU.out.2⟩
      go_wp2
      go_ret
      exact ⟨a', c', R, rfl, HE, HS, HX.out⟩
    obtain ⟨b, off, rfl, hbl, hcc, t1⟩ := (HR.out.below HX.out).at2 k (by rw [HN.out]; exact hlt)
    obtain ⟨c0, c1, c2, c3, c4⟩ := hcc
    have HCq := hid (HC.out k hlt)
    have HQk : Hid (∀ q', SameB (bs.getD k k0) q' → SameK (k + 1) bs (R ++ [q'])) := by
      intro q' he i hi
      rw [getK_snoc, HO.out.len]
      by_cases e : i = k
      · rw [if_pos e, e]; exact he
      · rw [if_neg e]; exact HS.out i (by omega)
    generalize bs.getD k k0 = q at *
    have i1 : (k : Int) < (n : Int) := by omega
    have HW0 := hid ((Below.refl wr.heap.size wr).alloc (Nat.le_refl _) (.cells (clB q) 36))
    have HT1 := hid (t1.below HW0.out)
    have hX0 : w.heap.size ≤ wr.heap.size := HX.out.size
    simp only [clB] at HW0 HT1
    clear t1 hbl
    go_wp2_with fail
    refine (f78 q _ HT1.out HCq.out).mono ?_
    rintro e w4 ⟨h4, rfl, hs4, hi4, hb4⟩
    have HW4 : Hid (Below wr.heap.size wr w4) := HW0.out.trans (hb4.mono HW0.out.size)
    have HX4 := hid (HX.out.trans (HW4.out.mono hX0))
    obtain ⟨Lo, hLo⟩ : ∃ Lo, Lo = (wr.alloc (.cells #[.int .i64 q.F, .int .i64 q.T, .int .i64 q.L, .slice q.a q.qs.length q.c, .slice q.b q.ts.length q.d] 36)).heap.size := ⟨_, rfl⟩
    rw [← hLo] at hi4
    have hLo1 : wr.heap.size ≤ Lo := by rw [hLo]; exact HW0.out.size
    have HI4 := hid hi4.out
    have HS4 := hid (HQk.out h4 hs4.out)
    have HO4 := hid (HO.out.below wayOwn HW4.out)
    have HTp : Hid (∀ i, i < k → U i ≤ wr.heap.size) := fun i hi => (HO.out.each i hi).top
    clear hs4 hi4 hb4 hLo c0 c1 c2 c3 c4
    go_wp2_with (at_builtin; refine wpList_append_own_at _ rfl (.tmp 15) (.tmp 18) 26 rfl w.heap.size 36 i0 (.agg #[.int .i64 0, .int .i64 0, .int .i64 0, .slice none 0 0, .slice none 0 0]) 5 72 Tryz.underlying26 hi hz0 hz1 hz2 rfl (by decide) _ _ _ rfl (HO4.out.row.alloc _) ⟨w4.heap.size, 0, none⟩ 1 1 (clK h4) rfl rfl ?d1 ?d2 ?d3 ?d4 ?d5 ?_)
    case d1 => exact five_new w4 _ _ _ _ _ _
    case d2 => (intro u hu; simp [clK] at hu; rcases hu with rfl | rfl | rfl | rfl | rfl <;> rfl)
    case d3 => unfold maxLen; omega
    case d4 => omega
    case d5 => have := HX4.out.size; simp; omega
    intro v8 w8 hown8 hgr8 _ hat8
    obtain ⟨a8, c8, rfl⟩ := own_form hown8
    have HX8 := hid ((HX4.out.alloc HX4.out.size (.cells (clB h4) 36)).grown hgr8 (by have := HX4.out.size; simp; omega) (fun j hj => (HO4.out.row.lt j hj).1))
    have HO8 : Hid (RowK OwnC w.heap.size a8 (k + 1) c8 (R ++ [h4]) (fun i => if i = k then Lo else L i) (fun i => if i = k then w4.heap.size else U i) w8) := by
      have hba := (Below.refl w4.heap.size w4).alloc (Nat.le_refl _) (.cells (clB h4) 36)
      refine HO.out.push wayOwn (HW4.out.trans (hba.mono HW4.out.size)) (HI4.out.below hba) (fun g hg => .inl (by have := (HO.out.row.lt g hg).2; omega)) hgr8 ?_ (by rw [World.size_alloc]; exact hat8)
      rw [flatK_snoc]
      exact hown8
    have HU8 : Hid ((∀ i, i < k + 1 → w.heap.size ≤ (if i = k then Lo else L i)) ∧ (∀ i j, i < j → j < k + 1 → (if i = k then w4.heap.size else U i) ≤ (if j = k then Lo else L j))) := by
      refine ⟨fun i hi => ?_, fun i j hij hj => ?_⟩
      · by_cases e : i = k
        · rw [if_pos e]; omega
        · rw [if_neg e]; exact HU.out.1 i (by omega)
      · rw [if_neg (show ¬ i = k by omega)]
        by_cases e : j = k
        · rw [if_pos e]; have := HTp.out i (by omega); omega
        · rw [if_neg e]; exact HU.out.2 i j hij (by omega)
    clear hown8 hgr8 hat8
    go_wp2
    go_roundw
    case rel => exact ⟨k + 1, c8, a8, R ++ [h4], _, _, by omega, by go_num, rfl, HO8, HU8, HS4, HX8⟩
    case measure => simp [intOf]; omega
theorem named_nn {ls : List Lb} (h : Named ls) : ls ≠ [] := by
  rintro rfl
  exact h.2 (.inr ⟨fun k hk => by simp at hk, rfl⟩)
theorem good_cpb {h : Bk} (g : GoodB h) (hz : SmlB h) (hcap : ∀ i, i < h.qs.length → (h.qs.getD i q0).d = (h.qs.getD i q0).s.length) : Cpb h := by
  refine ⟨hz, fun i hi => ⟨named_nn (g.2.1.2 i hi).1.1, (g.2.1.2 i hi).1.2.2⟩, hcap, fun i hi => ?_⟩
  obtain ⟨j, hj, he⟩ := (g.2.2.2.2.1 i hi).1
  rw [← lst_zero he]
  exact named_nn (g.2.1.2 j hj).1.1
end Go.Proofs.YtjhdmghpklagkaaGreat.Blk
namespace Go.Proofs.YtjhdmghpklagkaaGreat.Stn
open Go.RowKit
open Go.Proofs.YtjhdmghpklagkaaGreat.Lab (Lb HasL)
open Go.Proofs.YtjhdmghpklagkaaGreat.Srs (hid blk Fr own_fr own_grown own_below)
set_option maxHeartbeats 4000000 in
theorem f43 (X g n k : Nat) (ts : List T) (w : World) (hn : ts.length = n) (hb : n ≤ 1048576) (hk : k + mk ts n ≤ 100000000) (hr : OwnT X g n (mts k ts) w) :
    Calls Tryz.prog 43 #[.slice (some ⟨g, 0, none⟩) n n, .int .i64 k] w fun e w' => e = .returned (.int .i64 ((k + mk ts n : Nat) : Int)) ∧ Below w.heap.size w w' := by
  have HN := hid hn
  have HK := hid hk
  have HR := hid hr
  clear hn hk hr
  go_enter Tryz.func43, Tryz.ntmps43
  go_wp2
  go_loopw [1, 5] (fun sk si wr => ∃ (i m : Nat), i ≤ n ∧ si = .int .i64 i ∧ sk = .int .i64 (m : Int) ∧ Hid (m = k + mk ts i) ∧ Hid (Below w.heap.size w wr)) (fun _ si _ => n - (intOf si).toNat)
  case atStart => exact ⟨0, k, Nat.zero_le _, rfl, rfl, rfl, Below.refl _ _⟩
  case round =>
    obtain ⟨i, m, hi, rfl, rfl, hm, HX⟩ := hrel
    by_cases hlt : i < n
    rotate_left
    · obtain rfl : i = n := by omega
      go_wp2
      go_ret
      exact ⟨by rw [← hm.out]; rfl, HX.out⟩
    have hrw := HR.out.below HX.out
    obtain ⟨b, off, e0, hbl, ⟨c0, c1, c2⟩, t1⟩ := hrw.has.at2 i (by rw [mts_len, HN.out]; exact hlt)
    have ho := hrw.kin.own i hlt
    rw [mts_get k ts i (by rw [HN.out]; exact hlt)] at c0 c1 c2 t1 ho
    rw [ho.ha] at c0 t1
    cases e0
    clear hrw ho
    have HT := hid (mk_succ ts i)
    have HTn : Hid (mk ts (i + 1) ≤ mk ts n) := by unfold Hid mk; have := tot_mono ts n (i + 1) hlt; omega
    simp only [mt, Lab.markL_len, Nat.zero_add] at c0 c1 c2 t1
    rw [← hm.out] at c1 c2 t1
    generalize ts.getD i t0 = q at *
    have HT1 := hid t1
    have N1 : Hid (m + 2 * q.l.length + 2 ≤ 100000000) := by unfold Hid; have := hm.out; have := HK.out; have := HTn.out; have := HT.out; omega
    clear t1
    go_wp2_with fail
    refine (Lab.f60 (blk q.a) q.l.length q.c m _ (by have := N1.out; omega) HT1.out).mono ?_
    rintro e w2 ⟨rfl, hb2⟩
    have HX2 := hid (HX.out.trans (hb2.mono HX.out.size))
    have d1 := (hb2.cell (p := ⟨g, i * 3 + 1, none⟩) hbl).trans c1
    have d2 := (hb2.cell (p := ⟨g, i * 3 + 2, none⟩) hbl).trans c2
    clear hb2 c0 c1 c2 hbl HX
    obtain ⟨m2, hm2e⟩ : ∃ m2, m2 = m + 2 * q.l.length := ⟨_, rfl⟩
    have HE2 : Hid (m2 + 2 = k + mk ts (i + 1)) := by unfold Hid; have := hm.out; have := HT.out; omega
    have hm4 : m2 ≤ 99999998 := by have := N1.out; omega
    rw [← hm2e] at d1 d2 ⊢
    have d2' : w2.cell? ⟨g, i * 3 + 2, none⟩ = some (.int .i64 ((m2 : Int) + 1)) := by rw [d2]; simp
    clear hm2e d2 N1
    have hm3 : ¬ (m2 : Int) < 0 := by omega
    have g1 : ((m2 : Int) != (m2 : Int)) = false := by simp
    have g2 : ((m2 : Int) + 1 != (m2 : Int) + 1) = false := by simp
    go_wp2
    go_roundw
    case rel => exact ⟨i + 1, m2 + 2, by omega, by go_num, by go_num, HE2.out, HX2.out⟩
    case measure => simp [intOf]; omega
end Go.Proofs.YtjhdmghpklagkaaGreat.Stn
namespace Go.Proofs.YtjhdmghpklagkaaGreat.Blk
open Go.RowKit
open Go.Proofs.YtjhdmghpklagkaaGreat.Lab (Lb HasL)
open Go.Proofs.YtjhdmghpklagkaaGreat.Smp (Sm HasS own_form ret_bool)
open Go.Proofs.YtjhdmghpklagkaaGreat.Srs (hid lt_at kept blk own_base own_below own_grown own_set set_else set_at Q q0 HasQ SmlQ OwnG Own2 Fr own_fr tot mqs mqs_len mqs_get)
open Go.Proofs.YtjhdmghpklagkaaGreat.Stn (T t0 OwnT HasT SmlT mts mts_len mts_get mk set_same)

def mkb (h : Bk) : Nat := 3 + 2 * tot h.qs h.qs.length + mk h.ts h.ts.length
def mb (k : Nat) (h : Bk) : Bk := ⟨(k : Int), (k : Int) + 1, (k : Int) + 2, mqs (k + 3) h.qs, h.a, h.c, mts (k + 3 + 2 * tot h.qs h.qs.length) h.ts, h.b, h.d⟩
def mkK (R : List Bk) : Nat → Nat
  | 0 => 0
  | i + 1 => mkK R i + mkb (R.getD i k0)
theorem mkK_mono (R : List Bk) : ∀ (k j : Nat), j ≤ k → mkK R j ≤ mkK R k := by
  intro k
  induction k with
  | zero => intro j h; rw [show j = 0 by omega]; exact Nat.le_refl _
  | succ k ih =>
    intro j h
    by_cases e : j = k + 1
    · rw [e]; exact Nat.le_refl _
    · have := ih j (by omega)
      simp only [mkK]; omega
def mbs (k : Nat) (R : List Bk) : List Bk := (List.range R.length).map fun j => mb (k + mkK R j) (R.getD j k0)
theorem mbs_len (k : Nat) (R : List Bk) : (mbs k R).length = R.length := by simp [mbs]
theorem mbs_get (k : Nat) (R : List Bk) (j : Nat) (h : j < R.length) : (mbs k R).getD j k0 = mb (k + mkK R j) (R.getD j k0) := by simp [mbs, h]
def halfK (k : Nat) (R : List Bk) (i : Nat) : List Bk := (mbs k R).take i ++ R.drop i
theorem halfK_len (k : Nat) (R : List Bk) (i : Nat) (h : i ≤ R.length) : (halfK k R i).length = R.length := by simp [halfK, mbs_len]; omega
theorem halfK_get (k : Nat) (R : List Bk) (i j : Nat) (h : i ≤ j) (hi : i ≤ R.length) : (halfK k R i).getD j k0 = R.getD j k0 := by
  unfold halfK
  rw [List.getD_eq_getElem?_getD, List.getD_eq_getElem?_getD, List.getElem?_append_right (by simp [mbs_len]; omega), List.getElem?_drop]
  congr 2
  simp [mbs_len]; omega
theorem halfK_set (k : Nat) (R : List Bk) (i : Nat) (h : i < R.length) : (halfK k R i).set i (mb (k + mkK R i) (R.getD i k0)) = halfK k R (i + 1) := by
  unfold halfK
  have hl : ((mbs k R).take i).length = i := by simp [mbs_len]; omega
  have hg : (mbs k R)[i]? = some (mb (k + mkK R i) (R.getD i k0)) := by
    rw [← mbs_get k R i h, List.getD_eq_getElem?_getD]
    have : i < (mbs k R).length := by rw [mbs_len]; exact h
    simp [this]
  rw [List.set_append_right _ _ (by omega), hl, Nat.sub_self, List.drop_eq_getElem_cons h, List.set_cons_zero, List.take_add_one, hg, List.append_assoc]
  rfl
theorem halfK_end (k : Nat) (R : List Bk) : halfK k R R.length = mbs k R := by
  unfold halfK
  rw [List.drop_eq_nil_of_le (Nat.le_refl _), List.append_nil, List.take_of_length_le (by rw [mbs_len]; exact Nat.le_refl _)]
theorem flatK_set3 (L : List Bk) (i : Nat) (q : Bk) (hi : i < L.length) (h3 : Value.slice q.a q.qs.length q.c = .slice (L.getD i k0).a (L.getD i k0).qs.length (L.getD i k0).c) (h4 : Value.slice q.b q.ts.length q.d = .slice (L.getD i k0).b (L.getD i k0).ts.length (L.getD i k0).d) : (((flatK L).set (i * 5) (.int .i64 q.F)).set (i * 5 + 1) (.int .i64 q.T)).set (i * 5 + 2) (.int .i64 q.L) = flatK (L.set i q) := by
  obtain ⟨g0, g1, g2, g3, g4⟩ := flatK_get L i hi
  rw [← flatK_set L i q hi]
  have e3 : ((((flatK L).set (i * 5) (.int .i64 q.F)).set (i * 5 + 1) (.int .i64 q.T)).set (i * 5 + 2) (.int .i64 q.L)).set (i * 5 + 3) (.slice q.a q.qs.length q.c) = (((flatK L).set (i * 5) (.int .i64 q.F)).set (i * 5 + 1) (.int .i64 q.T)).set (i * 5 + 2) (.int .i64 q.L) :=
    set_same (by rw [List.getElem?_set_ne (by omega), List.getElem?_set_ne (by omega), List.getElem?_set_ne (by omega), g3, h3])
  rw [e3]
  exact (set_same (by rw [List.getElem?_set_ne (by omega), List.getElem?_set_ne (by omega), List.getElem?_set_ne (by omega), g4, h4])).symm
theorem ownc_fr {X Y X' Y' : Nat} {h : Bk} {w x : World} (o : OwnC X Y h w) (hf : Fr X' Y' w x) (hd : Y' ≤ X ∨ Y ≤ X') : OwnC X Y h x := by
  obtain ⟨g, k, M, e1, e2, e3, e4, o1, o2, l1, l2, l3, l4, l5, l6⟩ := o.ex
  have lg := (o1.row.lt g rfl).1
  refine ⟨⟨g, k, M, e1, e2, e3, e4, ⟨o1.len, own_fr o1.row hf (by omega), fun i hi => ?_, o1.apt⟩, ⟨own_fr o2.row hf (by omega), ⟨o2.kin.len, fun i hi => ⟨(o2.kin.own i hi).ha, own_fr (o2.kin.own i hi).lab hf ?_⟩, o2.kin.off, o2.kin.dis⟩⟩, l1, l2, l3, l4, l5, l6⟩, Nat.le_trans o.top hf.size⟩
  · have p := o1.own i hi
    have q := l3 i hi
    have r := p.lo
    exact ⟨p.ha, p.hb, own_fr p.lab hf (by omega), own_fr p.smp hf (by omega), p.ne⟩
  · have h5 : M ≤ blk (h.ts.getD i t0).a := ((o2.kin.own i hi).lab.lt _ rfl).1
    have h6 := l6 i hi
    omega
structure Mb (X Y : Nat) (a : Option Addr) (n c k i : Nat) (R : List Bk) (L U : Nat → Nat) (w x : World) : Prop where
  row : x.ownsRow X 36 5 (.slice a n c) n (flatK (halfK k R i))
  done : ∀ j, j < i → OwnC (L j) (U j) (mb (k + mkK R j) (R.getD j k0)) x
  own : ∀ j, i ≤ j → j < n → OwnC (L j) (U j) (R.getD j k0) x
  fr : Fr X Y w x
theorem fr_trans {X Y X' Y' : Nat} {w x y : World} (h : Fr X Y w x) (g : Fr X' Y' x y) (h1 : X ≤ X') (h2 : Y' ≤ Y) : Fr X Y w y :=
  ⟨g.os.trans h.os, g.tape.trans h.tape, g.output.trans h.output, Nat.le_trans h.size g.size, fun k hk hne => (g.block k (Nat.lt_of_lt_of_le hk h.size) (by omega)).trans (h.block k hk hne)⟩
set_option maxRecDepth 10000 in
set_option maxHeartbeats 8000000 in
theorem f13 (X Y : Nat) (a : Option Addr) (n c k : Nat) (R : List Bk) (L U : Nat → Nat) (w : World) (hb : n ≤ 1048576) (hk : k + mkK R n ≤ 100000000) (ho : RowK OwnC X a n c R L U w) (hlo : ∀ i, i < n → X ≤ L i) (hord : ∀ i j, i < j → j < n → U i ≤ L j) (hY : ∀ i, i < n → U i ≤ Y) (hg : ∀ g, (Value.slice a n c).ownBlock = some g → g < Y) (hsz : ∀ i, i < n → SmlB (R.getD i k0)) :
    Calls Tryz.prog 13 #[.slice a n c, .int .i64 k] w fun e w' => e = .returned (.int .i64 ((k + mkK R n : Nat) : Int)) ∧ RowK OwnC X a n c (mbs k R) L U w' ∧ Fr X Y w w' := by
  have HN := hid ho.len
  have HK := hid hk
  have HOff := hid ho.off
  have HLo := hid hlo
  have HOr := hid hord
  have HY := hid hY
  have HGY := hid hg
  have HSz := hid hsz
  have H0 : Hid (Mb X Y a n c k 0 R L U w w) := ⟨ho.row, fun j hj => by omega, fun j _ hj => ho.each j hj, Fr.refl _ _ _⟩
  clear hk ho hlo hord hY hg hsz
  go_enter Tryz.func13, Tryz.ntmps13
  go_wp2
  go_loopw [1, 5] (fun sk si wr => ∃ (i m : Nat), i ≤ n ∧ si = .int .i64 i ∧ sk = .int .i64 (m : Int) ∧ Hid (m = k + mkK R i) ∧ Hid (Mb X Y a n c k i R L U w wr)) (fun _ si _ => n - (intOf si).toNat)
  case atStart => exact ⟨0, k, Nat.zero_le _, rfl, rfl, rfl, H0.out⟩
  case round =>
    obtain ⟨i, m, hi, rfl, rfl, hm, HM⟩ := hrel
    by_cases hlt : i < n
    rotate_left
    · obtain rfl : i = n := by omega
      have HX : Hid (RowK OwnC X a i c (mbs k R) L U wr ∧ Fr X Y w wr) := by
        have hl := HN.out
        have hr := HM.out.row
        rw [← hl] at hr
        rw [halfK_end, hl] at hr
        exact ⟨⟨(mbs_len k R).trans hl, hr, fun j hj => by rw [mbs_get k R j (by omega)]; exact HM.out.done j hj, HOff.out⟩, HM.out.fr⟩
      go_wp2
      go_ret
      exact ⟨by rw [← hm.out]; rfl, HX.out.1, HX.out.2⟩
    obtain ⟨g, rfl⟩ : ∃ g, a = some ⟨g, 0, none⟩ := by
      rcases HM.out.row.2 with ⟨_, h2⟩ | ⟨g, cap, cur, h1, _⟩
      · omega
      · simp only [Value.slice.injEq] at h1; exact ⟨g, h1.1⟩
    have hgY : g < Y := HGY.out g rfl
    have hXg : X ≤ g := (HM.out.row.lt g rfl).1
    have HOfg : Hid (∀ j, j < n → g < L j ∨ U j ≤ g) := fun j hj => HOff.out g rfl j hj
    have HL' : Hid ((halfK k R i).length = n) := by unfold Hid; rw [halfK_len k R i (by rw [HN.out]; exact hi), HN.out]
    obtain ⟨y0, y1, y2, y3, y4⟩ := flatK_get (halfK k R i) i (by rw [HL'.out]; exact hlt)
    have HHg := hid (halfK_get k R i i (Nat.le_refl _) (by rw [HN.out]; exact hi))
    rw [HHg.out] at y0 y1 y2 y3 y4
    have HHs := hid (halfK_set k R i (by rw [HN.out]; exact hlt))
    have HOi := hid (HM.out.own i (Nat.le_refl _) hlt)
    have HMs : Hid (mkK R (i + 1) = mkK R i + mkb (R.getD i k0)) := rfl
    have HMn := hid (mkK_mono R n (i + 1) hlt)
    have HSq := hid (HSz.out i hlt)
    have hLX := HLo.out i hlt
    have hUY := HY.out i hlt
    have hOg := HOfg.out i hlt
    have HB1 : Hid (∀ j, j < i → U j ≤ L i) := fun j hj => HOr.out j i hj hlt
    have HB2 : Hid (∀ j, i < j → j < n → U i ≤ L j) := fun j h1 h2 => HOr.out i j h1 h2
    have HQ0 : Hid (∀ j, j < i → OwnC (L j) (U j) (mb (k + mkK R j) (R.getD j k0)) wr) := HM.out.done
    have HQ1 : Hid (∀ j, i + 1 ≤ j → j < n → OwnC (L j) (U j) (R.getD j k0) wr) := fun j h1 h2 => HM.out.own j (by omega) h2
    have HF0 := hid HM.out.fr
    have HR0 := hid HM.out.row
    obtain ⟨q, hq⟩ : ∃ q, q = R.getD i k0 := ⟨_, rfl⟩
    have HQ := hid hq
    rw [← hq] at y0 y1 y2 y3 y4 HHg HHs HOi HMs HSq
    clear hq HM
    have N1 : Hid (m + mkb q ≤ 100000000) := by unfold Hid; have := hm.out; have := HK.out; have := HMn.out; have := HMs.out; omega
    have hN : m + 3 ≤ 100000000 := by have := N1.out; unfold mkb at this; omega
    have z0 := (HR0.out.cellAt (i * 5) (by omega)).trans y0
    have z1 := (HR0.out.cellAt (i * 5 + 1) (by omega)).trans y1
    have z2 := (HR0.out.cellAt (i * 5 + 2) (by omega)).trans y2
    have z3 := (HR0.out.cellAt (i * 5 + 3) (by omega)).trans y3
    have f0 := HR0.out.frozenAt (i * 5)
    have f1 := HR0.out.frozenAt (i * 5 + 1)
    have f2 := HR0.out.frozenAt (i * 5 + 2)
    obtain ⟨gs, ks, M, ea, eb, ec, ed, _⟩ := HOi.out.ex
    have hks : ks = ks := rfl
    rw [ea, ec] at y3 z3
    rw [eb, ed] at y4
    obtain ⟨w3, hw3⟩ : ∃ w3, w3 = ((wr.setCell ⟨g, i * 5, none⟩ (.int .i64 (m : Int))).setCell ⟨g, i * 5 + 1, none⟩ (.int .i64 ((m : Int) + 1))).setCell ⟨g, i * 5 + 2, none⟩ (.int .i64 ((m : Int) + 1 + 1)) := ⟨_, rfl⟩
    have H3 : Hid (w3.ownsRow X 36 5 (.slice (some ⟨g, 0, none⟩) n c) n (flatK (halfK k R (i + 1))) ∧ OwnC (L i) (U i) q w3 ∧ (∀ j, j < i → OwnC (L j) (U j) (mb (k + mkK R j) (R.getD j k0)) w3) ∧ (∀ j, i + 1 ≤ j → j < n → OwnC (L j) (U j) (R.getD j k0) w3) ∧ Fr X Y w w3 ∧ (flatK (halfK k R (i + 1)))[i * 5 + 4]? = some (.slice (some ⟨ks, 0, none⟩) q.ts.length q.ts.length)) := by
      rw [hw3]
      have s1 := HR0.out.stored (i * 5) (.int .i64 (m : Int))
      have s2 := s1.1.stored (i * 5 + 1) (.int .i64 ((m : Int) + 1))
      have s3 := s2.1.stored (i * 5 + 2) (.int .i64 ((m : Int) + 1 + 1))
      have tr : ∀ {j : Nat} {p : Bk}, j < n → OwnC (L j) (U j) p wr → OwnC (L j) (U j) p (((wr.setCell ⟨g, i * 5, none⟩ (.int .i64 (m : Int))).setCell ⟨g, i * 5 + 1, none⟩ (.int .i64 ((m : Int) + 1))).setCell ⟨g, i * 5 + 2, none⟩ (.int .i64 ((m : Int) + 1 + 1))) := fun {j p} hj hp =>
        ownc_grown (ownc_grown (ownc_grown hp s1.2 (fun g' e => by cases e; exact HOfg.out j hj)) s2.2 (fun g' e => by cases e; exact HOfg.out j hj)) s3.2 (fun g' e => by cases e; exact HOfg.out j hj)
      refine ⟨?_, tr hlt HOi.out, fun j hj => tr (by omega) (HQ0.out j hj), fun j h1 h2 => tr h2 (HQ1.out j h1 h2), ((HF0.out.grown s1.2 hXg hgY).grown s2.2 hXg hgY).grown s3.2 hXg hgY, ?_⟩
      rotate_left
      · rw [← HHs.out, ← hm.out, ← flatK_set3 (halfK k R i) i (mb m q) (by rw [HL'.out]; exact hlt) (by rw [HHg.out]; simp only [mb, mqs_len]) (by rw [HHg.out]; simp only [mb, mts_len]), List.getElem?_set_ne (by omega), List.getElem?_set_ne (by omega), List.getElem?_set_ne (by omega)]; exact y4
      have e : (((flatK (halfK k R i)).set (i * 5) (.int .i64 (m : Int))).set (i * 5 + 1) (.int .i64 ((m : Int) + 1))).set (i * 5 + 2) (.int .i64 ((m : Int) + 1 + 1)) = flatK (halfK k R (i + 1)) := by
        rw [← HHs.out, ← hm.out]
        have := flatK_set3 (halfK k R i) i (mb m q) (by rw [HL'.out]; exact hlt) (by rw [HHg.out]; simp only [mb, mqs_len]) (by rw [HHg.out]; simp only [mb, mts_len])
        rw [← this]
        simp only [mb]
        rw [show (m : Int) + 1 + 1 = (m : Int) + 2 by omega]
      rw [← e]; exact s3.1
    obtain ⟨m3, hm3⟩ : ∃ m3 : Nat, m3 = m + 3 := ⟨_, rfl⟩
    have e3 : (m : Int) + 1 + 1 + 1 = (m3 : Int) := by omega
    have HM3 := hid hm3
    clear hm3
    go_wp2_with fail
    rw [← hw3]
    clear hw3 z0 z1 z2 z3 f0 f1 f2 y0 y1 y2 y3 y4 e3 HR0 HQ0 HQ1 HF0
    obtain ⟨gs', ks', M', ea', eb', ec', ed', og, ot, l1, l2, l3, l4, l5, l6⟩ := H3.out.2.1.ex
    obtain rfl : gs' = gs := by rw [ea] at ea'; cases ea'; rfl
    obtain rfl : ks' = ks := by rw [eb] at eb'; cases eb'; rfl
    rw [ec'] at og
    have N2 := N1.out
    unfold mkb at N2
    have hm3' := HM3.out
    have HOG := hid og
    have HOT := hid ot
    have HL3 := hid l3
    have HL6 := hid l6
    have hq1 : q.qs.length ≤ 1048576 := HSq.out.1
    have hq2 : q.ts.length ≤ 1048576 := HSq.out.2.2.1
    have hk3 : m3 + 2 * tot q.qs q.qs.length ≤ 100000000 := by omega
    clear og ot l3 l6 hm3'
    refine (Srs.f31f (L i) M' gs' q.qs.length q.qs.length m3 q.qs _ hq1 hk3 HOG.out HL3.out).mono ?_
    rintro e w4 ⟨rfl, og4, hf4⟩
    have HR4 := hid (own_fr H3.out.1 hf4 (by omega))
    have z4 := (HR4.out.cellAt (i * 5 + 4) (by omega)).trans H3.out.2.2.2.2.2
    have HOT4 : Hid (OwnT M' ks' q.ts.length q.ts w4) := ⟨own_fr HOT.out.row hf4 (.inr l4), ⟨HOT.out.kin.len, fun j hj => ⟨(HOT.out.kin.own j hj).ha, own_fr (HOT.out.kin.own j hj).lab hf4 (.inr (HOT.out.kin.own j hj |>.lab.lt _ rfl).1)⟩, HOT.out.kin.off, HOT.out.kin.dis⟩⟩
    have HOG4 := hid og4
    have HF4 := hid hf4
    obtain ⟨m4, hm4⟩ : ∃ m4 : Nat, m4 = m3 + 2 * tot q.qs q.qs.length := ⟨_, rfl⟩
    have HM4 := hid hm4
    have hk4 : m4 + mk q.ts q.ts.length ≤ 100000000 := by have := HM3.out; omega
    rw [← hm4]
    clear hm4 og4 hf4 hk3
    go_wp2_with fail
    refine (Stn.f39f M' (U i) ks' q.ts.length m4 q.ts _ rfl hq2 hk4 HOT4.out l4 l5 HL6.out).mono ?_
    rintro e w5 ⟨rfl, ot5, hf5⟩
    have HE : Hid (m4 + mk q.ts q.ts.length = k + mkK R (i + 1)) := by unfold Hid; have h1 := hm.out; have h2 := HMs.out; unfold mkb at h2; have := HM3.out; have := HM4.out; omega
    have HM5 : Hid (Mb X Y (some ⟨g, 0, none⟩) n c k (i + 1) R L U w w5) := by
      refine ⟨own_fr HR4.out hf5 (by omega), fun j hj => ?_, fun j h1 h2 => ownc_fr (ownc_fr (H3.out.2.2.2.1 j h1 h2) HF4.out (.inl (by have := HB2.out j (by omega) h2; omega))) hf5 (.inl (HB2.out j (by omega) h2)), fr_trans (fr_trans H3.out.2.2.2.2.1 HF4.out hLX (by omega)) hf5 (by omega) hUY⟩
      by_cases e : j = i
      · subst e
        rw [← HQ.out, ← hm.out]
        have hge : ∀ t, t < q.qs.length → blk ((mqs (m + 3) q.qs).getD t q0).a = blk (q.qs.getD t q0).a ∧ blk ((mqs (m + 3) q.qs).getD t q0).b = blk (q.qs.getD t q0).b := fun t ht => by rw [mqs_get _ _ _ ht]; exact ⟨rfl, rfl⟩
        have hgt : ∀ t, t < q.ts.length → blk ((mts (m + 3 + 2 * tot q.qs q.qs.length) q.ts).getD t t0).a = blk (q.ts.getD t t0).a := fun t ht => by rw [mts_get _ _ _ ht]; rfl
        have og5 : OwnG (L j) gs' q.qs.length q.qs.length (mqs (m + 3) q.qs) w5 := by
          have h0 := HOG4.out
          rw [HM3.out] at h0
          have lg := (h0.row.lt gs' rfl).1
          refine ⟨h0.len, own_fr h0.row hf5 (.inl l2), fun t ht => ?_, h0.apt⟩
          have p := h0.own t ht
          have r := HL3.out t ht
          have r2 := hge t ht
          exact ⟨p.ha, p.hb, own_fr p.lab hf5 (.inl (by omega)), own_fr p.smp hf5 (.inl (by omega)), p.ne⟩
        have ot5' : OwnT M' ks' q.ts.length (mts (m + 3 + 2 * tot q.qs q.qs.length) q.ts) w5 := by
          have h0 := ot5
          rw [HM4.out, HM3.out] at h0
          exact h0
        refine ⟨⟨gs', ks', M', ea', eb', ?_, ?_, ?_, ?_, l1, l2, fun t ht => ?_, l4, l5, fun t ht => ?_⟩, Nat.le_trans H3.out.2.1.top (Nat.le_trans HF4.out.size hf5.size)⟩
        · simp only [mb, mqs_len]; exact ec'
        · simp only [mb, mts_len]; exact ed'
        · simp only [mb, mqs_len]; rw [ec']; exact og5
        · simp only [mb, mts_len]; exact ot5'
        · simp only [mb, mqs_len] at ht ⊢; rw [(hge t ht).1, (hge t ht).2]; exact HL3.out t ht
        · simp only [mb, mts_len] at ht ⊢; rw [hgt t ht]; exact HL6.out t ht
      · exact ownc_fr (ownc_fr (H3.out.2.2.1 j (by omega)) HF4.out (.inr (HB1.out j (by omega)))) hf5 (.inr (by have := HB1.out j (by omega); omega))
    obtain ⟨m5, hm5⟩ : ∃ m5 : Nat, m5 = m4 + mk q.ts q.ts.length := ⟨_, rfl⟩
    rw [← hm5]
    have HE5 : Hid (m5 = k + mkK R (i + 1)) := by unfold Hid; rw [hm5]; exact HE.out
    clear hm5 hf5 ot5 z4 HR4 H3 HOG4 HOT4 HF4
    go_wp2
    go_roundw
    case rel => exact ⟨i + 1, m5, by omega, by go_num, rfl, HE5.out, HM5.out⟩
    case measure => simp [intOf]; omega
end Go.Proofs.YtjhdmghpklagkaaGreat.Blk
namespace Go.Proofs.YtjhdmghpklagkaaGreat.Blk
open Go.RowKit
open Go.Proofs.YtjhdmghpklagkaaGreat.Smp (Sm HasS own_form ret_bool)
open Go.Proofs.YtjhdmghpklagkaaGreat.Srs (hid lt_at kept blk own_base own_below own_grown Q q0 HasQ SmlQ OwnG Own2 Fr own_fr tot mqs mqs_len mqs_get)
open Go.Proofs.YtjhdmghpklagkaaGreat.Stn (T t0 OwnT HasT SmlT mts mts_len mts_get mk set_same)
theorem ownq_g {g n : Nat} {qs : List Q} {w : World} (h : Srs.OwnQ g g n qs w) {X : Nat} (hx : X ≤ g) : OwnG X g n n qs w := by
  refine ⟨h.kin.len, own_base h.row hx, fun i hi => ?_, ⟨fun i hi => ?_, fun i j hi hj hne => ?_⟩⟩
  · have p := h.kin.own i hi
    have q := h.kin.off i hi
    exact ⟨p.ha, p.hb, own_base p.lab hx, own_base p.smp hx, by have := p.lt; omega⟩
  · have p := (h.kin.own i hi).lt
    have q := h.kin.off i hi
    constructor <;> omega
  · have p := (h.kin.own i hi).lt
    have p' := (h.kin.own j hj).lt
    rcases Nat.lt_or_gt_of_ne hne with e | e
    · have := h.kin.dis i j e hj; refine ⟨?_, ?_, ?_, ?_⟩ <;> omega
    · have := h.kin.dis j i e hi; refine ⟨?_, ?_, ?_, ?_⟩ <;> omega
theorem ownin_c {X Y : Nat} {h h' : Bk} {w : World} (o : OwnIn X Y h h' w) : OwnC X Y h' w := by
  obtain ⟨g, k, S, o1, h2, h3, h4⟩ := o
  refine ⟨⟨g, k, S, o1.ea, o1.eb, o1.ec.trans o1.lq.symm, o1.ed.trans o1.lt.symm, ?_, ?_, by have := o1.lo; have := o1.mid; omega, o1.mid.1, fun i hi => ?_, o1.mid.2, h2, fun i hi => h3 i (by rw [← o1.lt]; exact hi)⟩, h4⟩
  · rw [o1.lq, o1.ec]; exact ownq_g o1.oq o1.lo
  · rw [o1.lt]
    have t := o1.ot
    exact ⟨own_base t.row o1.mid.2, ⟨t.kin.len, fun i hi => (t.kin.own i hi).base o1.mid.2, t.kin.off, t.kin.dis⟩⟩
  · have hi' : i < h.qs.length := by rw [← o1.lq]; exact hi
    have p := (o1.oq.kin.own i hi').lt
    have q := o1.top i hi'
    constructor <;> omega
theorem ownk_row {R0 : Nat} {Z : Nat → Nat} {n : Nat} {bs d : List Bk} {w : World} (h : OwnK R0 Z n bs d w) : RowK OwnC R0 (some ⟨R0, 0, none⟩) n n d Z (fun i => Z (i + 1)) w :=
  ⟨h.kin.len, h.row, fun i hi => ownin_c (h.kin.own i hi), fun g e i hi => by cases e; exact .inl (h.kin.lo i (by omega))⟩
theorem zmono {R0 : Nat} {Z : Nat → Nat} {n : Nat} {bs d : List Bk} {w : World} (h : KinK R0 Z n bs d w) : ∀ (k j : Nat), j ≤ k → k ≤ n → Z j ≤ Z k := by
  intro k
  induction k with
  | zero => intro j h1 _; rw [show j = 0 by omega]; exact Nat.le_refl _
  | succ k ih =>
    intro j h1 h2
    by_cases e : j = k + 1
    · rw [e]; exact Nat.le_refl _
    · exact Nat.le_trans (ih j (by omega) (by omega)) (h.up k (by omega))
theorem ownk_cap {R0 : Nat} {Z : Nat → Nat} {n : Nat} {bs d : List Bk} {w : World} (h : OwnK R0 Z n bs d w) : ∀ j, j < n → ∀ i, i < (d.getD j k0).qs.length → ((d.getD j k0).qs.getD i q0).d = ((d.getD j k0).qs.getD i q0).s.length := by
  intro j hj i hi
  obtain ⟨g, k, S, o1, _⟩ := h.kin.own j hj
  exact (o1.sq i (by rw [← o1.lq]; exact hi)).2.2
end Go.Proofs.YtjhdmghpklagkaaGreat.Blk
