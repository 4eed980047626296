/- Shelves with a span deleted: the program's DeleteBlocks. -/
import Derived.Test.YtkbaaidnkkcpoaaGreatRKy
namespace Go.Proofs.YtkbaaidnkkcpoaaGreat.Blk
open Go.RowKit
open Go.Proofs.YtkbaaidnkkcpoaaGreat.Lab (Lb HasL cmpList)
open Go.Proofs.YtkbaaidnkkcpoaaGreat.Smp (In64 own_form)
open Go.Proofs.YtkbaaidnkkcpoaaGreat.Srs (hid lt_at kept own_base own_below set_at set_else Q q0 HasQ SmlQ two)
open Go.Proofs.YtkbaaidnkkcpoaaGreat.Stn (T t0 HasT SmlT agT three three_frz infoT pl)
open Go.Proofs.YtkbaaidnkkcpoaaGreat.Pat (Mt m0 HasM goodM allM FitM)

set_option maxRecDepth 10000 in
set_option maxHeartbeats 8000000 in
theorem f10 (b : Int) (a : Option Addr) (n c : Nat) (bs : List Bk) (am : Option Addr) (cm : Nat) (ms : List Mt) (x y : Int) (w : World) (hb0 : -9223372036854775808 ≤ b) (hb1 : b ≤ 9223372036854775807) (hn : bs.length = n) (hb : n ≤ 1048576) (hr : HasK w a bs) (hf : FitK bs) (hz : SmlK bs) (hcap : ∀ j, j < n → ∀ i, i < (bs.getD j k0).qs.length → ((bs.getD j k0).qs.getD i q0).d = ((bs.getD j k0).qs.getD i q0).s.length) (hct : ∀ j, j < n → (bs.getD j k0).ts.length ≤ (bs.getD j k0).d) (hm : HasM w am ms) (hmx : ms.length ≤ maxLen) (hfm : FitM ms) :
    Calls Tryz.prog 10 #[.int .i64 b, .slice a n c, .slice am ms.length cm, .int .i64 x, .int .i64 y] w fun e w' => ∃ (a' : Option Addr) (m c' : Nat) (R : List Bk), e = .returned (.slice a' m c') ∧ Hid (R.length = m ∧ m = (dk b bs ms x y).length ∧ SameK m (dk b bs ms x y) R ∧ Ans w.heap.size a' m c' R w') ∧ Below w.heap.size w w' := by
  obtain ⟨i0, hi, hz0, hz1, hz2⟩ := info_parts infoK
  have HN := hid hn
  have HR := hid hr
  have HZ := hid hz
  have HCp := hid hcap
  have HCt := hid hct
  have HM := hid hm
  have HG := hid (f28 b a n c bs w hb0 hb1 hn hb hr hf hz)
  have HGm := fun z (hz : HasM z am ms) => hid (Pat.f29 am ms.length cm ms z rfl hmx hz hfm)
  have HNil : ∀ z, Hid (Ans w.heap.size none 0 0 [] z) := fun z => ⟨fun _ => 0, fun _ => 0, RowK.nil _ _ _ _, fun i hi => by omega, fun i j _ hj => by omega⟩
  clear hn hr hf hz hcap hct hm
  go_enter Tryz.func10, Tryz.ntmps10
  go_wp2_with fail
  refine HG.out.mono ?_
  rintro e w1 ⟨rfl, hb1'⟩
  have HB1 := hid hb1'
  have HR1 := hid (HR.out.below hb1')
  clear hb1' HG
  cases hg : gdK b bs
  · have E : Hid (dk b bs ms x y = []) := by unfold Hid dk; rw [hg, if_neg (fun h => by cases h.1)]
    go_wp2
    go_ret
    exact ⟨none, 0, 0, [], rfl, ⟨rfl, by rw [E.out]; rfl, fun i hi => by omega, (HNil _).out⟩, HB1.out⟩
  go_wp2_with fail
  refine (HGm _ (HM.out.below HB1.out)).out.mono ?_
  rintro e w2 ⟨rfl, hb2⟩
  have HB2 := hid (HB1.out.trans (hb2.mono HB1.out.size))
  have HR2 := hid (HR1.out.below hb2)
  clear hb2 HR1 HGm HB1
  cases hgm : goodM ms
  · have E : Hid (dk b bs ms x y = []) := by unfold Hid dk; rw [hgm, if_neg (fun h => by cases h.2.1)]
    go_wp2
    go_ret
    exact ⟨none, 0, 0, [], rfl, ⟨rfl, by rw [E.out]; rfl, fun i hi => by omega, (HNil _).out⟩, HB2.out⟩
  have HGK := hid (gdK_iff.1 hg)
  have h100 : n ≤ 100 := by rw [← HN.out]; exact HGK.out.2.1
  have HE : Hid (dk b bs ms x y = if AllD ms x y bs then bs.map (dlb ms x y) else []) := by
    unfold Hid dk
    by_cases h : AllD ms x y bs
    · rw [if_pos ⟨hg, hgm, h⟩, if_pos h]
    · rw [if_neg (fun g => h g.2.2), if_neg h]
  have HGM := hid hgm
  have hsz2 : w.heap.size ≤ w2.heap.size := HB2.out.size
  clear hg hgm
  go_wp2_with (at_make; refine wpList_make_own _ rfl _ _ 26 rfl w2.heap.size 44 i0 (.agg #[.int .i64 0, .int .i64 0, .int .i64 0, .slice none 0 0, .slice none 0 0]) 5 Tryz.underlying26 hi hz0 hz1 _ _ _ n rfl rfl (by omega) ?b2 ?b3 (Nat.le_refl _) ?_)
  case b2 => rw [hz2]; omega
  case b3 => unfold maxLen; omega
  intro w3 hown0 hgrow0
  have HB3 := hid ((Below.refl w2.heap.size w2).grown hgrow0 (Nat.le_refl _) (fun k h => by cases h))
  have HO0 : Hid (RowK OwnC w2.heap.size (some ⟨w2.heap.size, 0, none⟩) 0 n [] (fun _ => 0) (fun _ => 0) w3) := ⟨rfl, hown0, fun i hi => by omega, fun g _ i hi => by omega⟩
  clear hown0 hgrow0
  go_wp2
  go_loopw [11, 29] (fun so si wr => ∃ (k c' : Nat) (a' : Option Addr) (R : List Bk) (L U : Nat → Nat), k ≤ n ∧ si = .int .i64 k ∧ so = .slice a' k c' ∧ Hid (RowK OwnC w2.heap.size a' k c' R L U wr) ∧ Hid ((∀ i, i < k → w2.heap.size ≤ L i) ∧ (∀ i j, i < j → j < k → U i ≤ L j)) ∧ Hid (SameK k (bs.map (dlb ms x y)) R) ∧ Hid (∀ i, i < k → OkD ms x y (bs.getD i k0)) ∧ Hid (Below w2.heap.size w2 wr)) (fun _ si _ => n - (intOf si).toNat)
  case atStart => exact ⟨0, n, _, [], _, _, Nat.zero_le _, rfl, rfl, HO0, ⟨fun i hi => by omega, fun i j _ hj => by omega⟩, fun i hi => by omega, fun i hi => by omega, HB3⟩
  case round =>
    clear HO0 HB3
    obtain ⟨k, c', a', R, L, U, hk, rfl, rfl, HO, HU, HS, HA, HX⟩ := hrel
    by_cases hlt : k < n
    rotate_left
    · obtain rfl : k = n := by omega
      have HAll : Hid (AllD ms x y bs) := fun i hi => HA.out i (by rw [← HN.out]; exact hi)
      have E : Hid (dk b bs ms x y = bs.map (dlb ms x y)) := by unfold Hid; rw [HE.out, if_pos HAll.out]
      have H3 : Hid (R.length = k ∧ k = (dk b bs ms x y).length ∧ SameK k (dk b bs ms x y) R ∧ Ans w.heap.size a' k c' R wr) := by
        rw [E.out]
        exact ⟨HO.out.len, by rw [List.length_map, HN.out], HS.out, ans_base ⟨L, U, HO.out, HU.out.1, HU.out.2⟩ hsz2⟩
      have HBe := hid (HB2.out.trans (HX.out.mono hsz2))
      go_wp2
      go_ret
      exact ⟨a', k, c', R, rfl, H3, HBe.out⟩
    obtain ⟨bb, off, rfl, hbl, hcc, t1⟩ := (HR2.out.below HX.out).at2 k (by rw [HN.out]; exact hlt)
    obtain ⟨c0, c1, c2, c3, c4⟩ := hcc
    have HGq := hid (HGK.out.2.2 k (by rw [HN.out]; exact hlt)).2.1
    have HZq := hid (HZ.out k (by rw [HN.out]; exact hlt))
    have HCq := hid (good_cpb HGq.out HZq.out (HCp.out k hlt))
    have HTq := hid (HCt.out k hlt)
    have HQk : Hid (∀ q', SameB (dlb ms x y (bs.getD k k0)) q' → SameK (k + 1) (bs.map (dlb ms x y)) (R ++ [q'])) := by
      intro q' he i hi
      rw [getK_snoc, HO.out.len]
      by_cases e : i = k
      · rw [if_pos e, e, map_getK ms x y (by rw [HN.out]; exact hlt)]; exact he
      · rw [if_neg e]; exact HS.out i (by omega)
    have HAk : Hid (OkD ms x y (bs.getD k k0) → ∀ i, i < k + 1 → OkD ms x y (bs.getD i k0)) := by
      intro h i hi
      by_cases e : i = k
      · rw [e]; exact h
      · exact HA.out i (by omega)
    have HAn : Hid (¬ OkD ms x y (bs.getD k k0) → ¬ AllD ms x y bs) := fun h g => h (g k (by rw [HN.out]; exact hlt))
    generalize bs.getD k k0 = q at *
    have i1 : (k : Int) < (n : Int) := by omega
    have HW0 := hid ((Below.refl wr.heap.size wr).alloc (Nat.le_refl _) (.cells (clB q) 44))
    have hX0 : w2.heap.size ≤ wr.heap.size := HX.out.size
    have HT1 := hid (t1.below HW0.out)
    have HMw : Hid (HasM (wr.alloc (.cells (clB q) 44)) am ms) := HM.out.below (HB2.out.trans ((HX.out.trans (HW0.out.mono hX0)).mono hsz2))
    simp only [clB] at HW0 HT1 HMw
    clear t1 hbl
    have HCall := hid (f30 q am cm ms x y _ HT1.out HZq.out HGq.out HTq.out HMw.out HGM.out)
    simp only [agB, clB] at HCall
    go_wp2_with fail
    refine HCall.out.mono ?_
    rintro e w4 ⟨b4', d4', rfl, hh4, hb4⟩
    have HW4 : Hid (Below wr.heap.size wr w4) := HW0.out.trans (hb4.mono HW0.out.size)
    have HX4 := hid (HX.out.trans (HW4.out.mono hX0))
    obtain ⟨h4, hh⟩ : ∃ h4 : Bk, h4 = ⟨q.F, q.T, q.L, q.qs, q.a, q.c, delB ms q x y, b4', d4'⟩ := ⟨_, rfl⟩
    have HH4 : Hid (HasB w4 h4) := by rw [hh]; exact hh4.out
    have HS4 : Hid (SameB (dlb ms x y q) h4) := by rw [hh]; exact ⟨rfl, rfl, rfl, rfl, rfl, fun _ _ => rfl, fun _ _ => rfl⟩
    have HP4 : Hid (OkD ms x y q → Cpb h4) := by rw [hh]; exact fun h => del_cpb HGq.out HCq.out h b4' d4'
    have hF : q.F = h4.F := by rw [hh]
    have hT : q.T = h4.T := by rw [hh]
    have hLL : q.L = h4.L := by rw [hh]
    have hsl : Value.slice q.a q.qs.length q.c = .slice h4.a h4.qs.length h4.c := by rw [hh]
    have hst : Value.slice b4' (delB ms q x y).length d4' = .slice h4.b h4.ts.length h4.d := by rw [hh]
    have hl4 : h4.ts.length = (delB ms q x y).length := by rw [hh]
    rw [hF, hT, hLL, hsl, hst]
    clear hh hF hT hLL hsl hst hh4 hb4 c0 c1 c2 c3 c4 HCall
    have hbx := (Below.refl w4.heap.size w4).alloc (Nat.le_refl _) (.cells (clB h4) 44)
    have HBx := hid (heap_alloc_new w4 (.cells (clB h4) 44))
    have HW5 := hid (HW4.out.trans (hbx.mono HW4.out.size))
    have HX5 := hid (HX4.out.trans (hbx.mono HX4.out.size))
    have HH5 := hid (HH4.out.below hbx)
    simp only [clB] at HBx HW5 HX5 HH5
    clear hbx
    obtain ⟨d0, d1, d2, d3, d4⟩ := five HBx.out
    by_cases h5 : OkD ms x y q
    rotate_left
    · have E : Hid (dk b bs ms x y = []) := by unfold Hid; rw [HE.out, if_neg (HAn.out h5)]
      have h6 : (100 : Int) < (h4.ts.length : Int) := by unfold OkD at h5; omega
      have HBe := hid (HB2.out.trans (HX5.out.mono hsz2))
      clear h5 hl4
      go_wp2
      go_ret
      exact ⟨none, 0, 0, [], rfl, ⟨rfl, by rw [E.out]; rfl, fun i hi => by omega, (HNil _).out⟩, HBe.out⟩
    have h6 : ¬ (100 : Int) < (h4.ts.length : Int) := by unfold OkD at h5; omega
    have HA5 := hid (HAk.out h5)
    have HCo := hid (f31 h4 _ HH5.out (HP4.out h5))
    simp only [agB, clB] at HCo
    clear h5 hl4
    go_wp2_with fail
    refine HCo.out.mono ?_
    rintro e w6 ⟨h6', rfl, hs6, hi6, hb6⟩
    obtain ⟨Lo, hLo⟩ : ∃ Lo, Lo = (w4.alloc (.cells #[.int .i64 h4.F, .int .i64 h4.T, .int .i64 h4.L, .slice h4.a h4.qs.length h4.c, .slice h4.b h4.ts.length h4.d] 44)).heap.size := ⟨_, rfl⟩
    rw [← hLo] at hi6
    have hLo1 : wr.heap.size ≤ Lo := by rw [hLo]; exact HW5.out.size
    have HW6 : Hid (Below wr.heap.size wr w6) := HW5.out.trans (hb6.mono HW5.out.size)
    have HX6 := hid (HX.out.trans (HW6.out.mono hX0))
    have HI6 := hid hi6.out
    have HS6 := hid (HQk.out h6' (HS4.out.symm.trans hs6.out))
    have HO6 := hid (HO.out.below wayOwn HW6.out)
    have HTp : Hid (∀ i, i < k → U i ≤ wr.heap.size) := fun i hi => (HO.out.each i hi).top
    clear hs6 hi6 hb6 hLo d0 d1 d2 d3 d4 HCo HH5 HBx HW5 HX5 HH4 HS4 HP4
    go_wp2_with (at_builtin; refine wpList_append_own_at _ rfl (.tmp 42) (.tmp 45) 26 rfl w2.heap.size 44 i0 (.agg #[.int .i64 0, .int .i64 0, .int .i64 0, .slice none 0 0, .slice none 0 0]) 5 72 Tryz.underlying26 hi hz0 hz1 hz2 rfl (by decide) _ _ _ rfl (HO6.out.row.alloc _) ⟨w6.heap.size, 0, none⟩ 1 1 (clK h6') rfl rfl ?d1 ?d2 ?d3 ?d4 ?d5 ?_)
    case d1 => exact five_new w6 _ _ _ _ _ _
    case d2 => (intro u hu; simp [clK] at hu; rcases hu with rfl | rfl | rfl | rfl | rfl <;> rfl)
    case d3 => unfold maxLen; omega
    case d4 => omega
    case d5 => have := HX6.out.size; simp; omega
    intro v8 w8 hown8 hgr8 _ hat8
    obtain ⟨a8, c8, rfl⟩ := own_form hown8
    have HX8 := hid ((HX6.out.alloc HX6.out.size (.cells (clB h6') 44)).grown hgr8 (by have := HX6.out.size; simp; omega) (fun j hj => (HO6.out.row.lt j hj).1))
    have HO8 : Hid (RowK OwnC w2.heap.size a8 (k + 1) c8 (R ++ [h6']) (fun i => if i = k then Lo else L i) (fun i => if i = k then w6.heap.size else U i) w8) := by
      have hba := (Below.refl w6.heap.size w6).alloc (Nat.le_refl _) (.cells (clB h6') 44)
      refine HO.out.push wayOwn (HW6.out.trans (hba.mono HW6.out.size)) (HI6.out.below hba) (fun g hg => .inl (by have := (HO.out.row.lt g hg).2; omega)) hgr8 ?_ (by rw [World.size_alloc]; exact hat8)
      rw [flatK_snoc]
      exact hown8
    have HU8 : Hid ((∀ i, i < k + 1 → w2.heap.size ≤ (if i = k then Lo else L i)) ∧ (∀ i j, i < j → j < k + 1 → (if i = k then w6.heap.size else U i) ≤ (if j = k then Lo else L j))) := by
      refine ⟨fun i hi => ?_, fun i j hij hj => ?_⟩
      · by_cases e : i = k
        · rw [if_pos e]; omega
        · rw [if_neg e]; exact HU.out.1 i (by omega)
      · rw [if_neg (show ¬ i = k by omega)]
        by_cases e : j = k
        · rw [if_pos e]; have := HTp.out i (by omega); omega
        · rw [if_neg e]; exact HU.out.2 i j hij (by omega)
    clear hown8 hgr8 hat8
    go_wp2
    go_roundw
    case rel => exact ⟨k + 1, c8, a8, R ++ [h6'], _, _, by omega, by go_num, rfl, HO8, HU8, HS6, HA5, HX8⟩
    case measure => simp [intOf]; omega
end Go.Proofs.YtkbaaidnkkcpoaaGreat.Blk
