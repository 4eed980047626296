/- Shelves with a span deleted: the model's l10Delete, both DeleteBlocks. -/
import Derived.Test.YtkbaaidnkkcpoaaGreatRKx
import Derived.Test.YtkbaaidnkkcpoaaGreatRKM
import Derived.Test.YtkbaaidnkkcpoaaGreatRMgd
namespace Go.Proofs.YtkbaaidnkkcpoaaGreat.Blk
open Go.RowKit
open Go.Proofs.YtkbaaidnkkcpoaaGreat.Lab (Lb HasL cmpList)
open Go.Proofs.YtkbaaidnkkcpoaaGreat.Smp (In64 own_form)
open Go.Proofs.YtkbaaidnkkcpoaaGreat.Srs (hid lt_at kept own_base own_below set_at set_else Q q0 HasQ SmlQ two)
open Go.Proofs.YtkbaaidnkkcpoaaGreat.Stn (T t0 HasT SmlT agT three three_frz infoT pl)
open Go.Proofs.YtkbaaidnkkcpoaaGreat.Pat (Mt m0 HasM goodM allM FitM)

/-- A block behind a deletion. -/
noncomputable def dlb (ms : List Mt) (x y : Int) (h : Bk) : Bk := ⟨h.F, h.T, h.L, h.qs, h.a, h.c, delB ms h x y, none, 0⟩
def OkD (ms : List Mt) (x y : Int) (h : Bk) : Prop := (delB ms h x y).length ≤ 100
noncomputable instance (ms : List Mt) (x y : Int) (h : Bk) : Decidable (OkD ms x y h) := by unfold OkD; infer_instance
def AllD (ms : List Mt) (x y : Int) (bs : List Bk) : Prop := ∀ i, i < bs.length → OkD ms x y (bs.getD i k0)
noncomputable instance (ms : List Mt) (x y : Int) (bs : List Bk) : Decidable (AllD ms x y bs) := Classical.propDecidable _
/-- What both give. -/
noncomputable def dk (b : Int) (bs : List Bk) (ms : List Mt) (x y : Int) : List Bk := if gdK b bs = true ∧ goodM ms = true ∧ AllD ms x y bs then bs.map (dlb ms x y) else []
theorem map_getK (ms : List Mt) (x y : Int) {bs : List Bk} {i : Nat} (hi : i < bs.length) : (bs.map (dlb ms x y)).getD i k0 = dlb ms x y (bs.getD i k0) := by
  simp [hi]
theorem SameB.refl (h : Bk) : SameB h h := ⟨rfl, rfl, rfl, rfl, rfl, fun _ _ => rfl, fun _ _ => rfl⟩
theorem dlb_same {ms : List Mt} {x y : Int} {h h' : Bk} (s : SameB h h') : SameB (dlb ms x y h) (dlb ms x y h') := res_same s rfl
theorem okD_same {ms : List Mt} {x y : Int} {h h' : Bk} (s : SameB h h') : OkD ms x y h' ↔ OkD ms x y h := by
  have := (dlb_same (ms := ms) (x := x) (y := y) s).lt
  unfold OkD
  have e : (delB ms h' x y).length = (delB ms h x y).length := this
  rw [e]
theorem delB_mem {ms : List Mt} {x y : Int} {h : Bk} (g : GoodB h) {p : T} (hp : p ∈ delB ms h x y) : ∃ i, i < h.qs.length ∧ p.l = lb h.qs i := by
  have old : ∀ p ∈ h.ts, ∃ i, i < h.qs.length ∧ p.l = lb h.qs i := fun p hp => by
    obtain ⟨i, h1, h2⟩ := nonempty_of_mem g hp
    exact ⟨i, h1, (lst_zero h2).symm⟩
  unfold delB at hp
  split at hp
  · exact old p hp
  · rename_i hgt
    have hh := g.1
    unfold Head at hh
    have hf : Tm (max x h.F) := by unfold Tm; omega
    have ht : Tm (min y (h.T - 1)) := by unfold Tm; omega
    unfold delK at hp
    rw [List.take_length] at hp
    obtain ⟨q, hq, hp⟩ := List.mem_flatMap.1 hp
    have hqi : ∃ i, i < h.qs.length ∧ q.l = lb h.qs i := by
      obtain ⟨i, hi, rfl⟩ := List.getElem_of_mem hq
      exact ⟨i, hi, by simp [lb, hi]⟩
    unfold delQ at hp
    split at hp
    · rcases cov_mem (q := ⟨q.l, q.a, q.c, max x h.F, min y (h.T - 1)⟩) hf ht (fun p hp => stone_tm g p (own1_mem hp).1) hp with e | ⟨e, _⟩
      · exact old p (own1_mem e).1
      · obtain ⟨i, h1, h2⟩ := hqi
        exact ⟨i, h1, e.trans h2⟩
    · exact old p (own1_mem hp).1
theorem del_cpb {ms : List Mt} {x y : Int} {h : Bk} (g : GoodB h) (hc : Cpb h) (h100 : OkD ms x y h) (b' : Option Addr) (d' : Nat) : Cpb ⟨h.F, h.T, h.L, h.qs, h.a, h.c, delB ms h x y, b', d'⟩ := by
  have key : ∀ i, i < (delB ms h x y).length → ((delB ms h x y).getD i t0).l ≠ [] ∧ ((delB ms h x y).getD i t0).l.length ≤ 20 := fun i hi => by
    have hm : (delB ms h x y).getD i t0 ∈ delB ms h x y := by rw [List.getD_eq_getElem?_getD, List.getElem?_eq_getElem hi]; exact List.getElem_mem _
    obtain ⟨j, h1, h2⟩ := delB_mem g hm
    have hn := (g.2.1.2 j h1).1
    rw [h2]
    exact ⟨named_nn hn.1, (Srs.good_goodP hn.1.1).1⟩
  unfold OkD at h100
  refine ⟨⟨hc.sml.1, hc.sml.2.1, ?_, fun i hi => ?_⟩, hc.ne, hc.cap, fun i hi => (key i hi).1⟩
  · show (delB ms h x y).length ≤ 1048576
    omega
  · have := (key i hi).2
    show ((delB ms h x y).getD i t0).l.length ≤ 1048576
    omega
set_option maxRecDepth 10000 in
set_option maxHeartbeats 4000000 in
theorem f26 (a : Option Addr) (n c : Nat) (bs : List Bk) (am : Option Addr) (cm : Nat) (ms : List Mt) (x y : Int) (w : World) (hn : bs.length = n) (hb : n ≤ 100) (hr : HasK w a bs) (hc : ∀ i, i < n → Cpb (bs.getD i k0)) (hff : FitK bs) (hg : ∀ i, i < n → GoodB (bs.getD i k0)) (hm : HasM w am ms) (hgm : goodM ms = true) :
    Calls Tryz.prog 26 #[.slice a n c, .slice am ms.length cm, .int .i64 x, .int .i64 y] w fun e w' => ∃ (a' : Option Addr) (m c' : Nat) (R : List Bk), Hid (e = .returned (.tuple #[.slice a' m c', .bool (decide (AllD ms x y bs))]) ∧ (AllD ms x y bs → R.length = m ∧ m = n ∧ SameK m (bs.map (dlb ms x y)) R ∧ HasK w' a' R) ∧ Below w.heap.size w w') := by
  obtain ⟨i0, hi, hz0, hz1, hz2⟩ := info_parts infoK
  have HN := hid hn
  have HR := hid hr
  have HC := hid hc
  have HFf := hid hff
  have HG := hid hg
  have HM := hid hm
  clear hn hr hc hff hg hm
  go_enter Tryz.func26, Tryz.ntmps26
  go_wp2
  go_loopw [10, 16] (fun so si wr => ∃ (k c' : Nat) (a' : Option Addr) (R : List Bk) (L U : Nat → Nat), k ≤ n ∧ si = .int .i64 k ∧ so = .slice a' k c' ∧ Hid (RowK InB w.heap.size a' k c' R L U wr) ∧ Hid (SameK k (bs.map (dlb ms x y)) R) ∧ Hid (∀ i, i < k → OkD ms x y (bs.getD i k0)) ∧ Hid (Below w.heap.size w wr)) (fun _ si _ => n - (intOf si).toNat)
  case atStart => exact ⟨0, 0, none, [], fun _ => 0, fun _ => 0, Nat.zero_le _, rfl, rfl, RowK.nil _ _ _ _, fun i hi => by omega, fun i hi => by omega, Below.refl _ _⟩
  case round =>
    obtain ⟨k, c', a', R, L, U, hk, rfl, rfl, HO, HS, HA, HX⟩ := hrel
    by_cases hlt : k < n
    rotate_left
    · obtain rfl : k = n := by omega
      have HAll : Hid (AllD ms x y bs) := fun i hi => HA.out i (by rw [← HN.out]; exact hi)
      have HD : Hid (decide (AllD ms x y bs) = true) := decide_eq_true HAll.out
      have HE : Hid (R.length = k ∧ SameK k (bs.map (dlb ms x y)) R ∧ HasK wr a' R) := ⟨HO.out.len, HS.out, HO.out.has wayIn⟩
      go_wp2
      go_ret2
      exact ⟨a', k, c', R, ⟨by rw [HD.out]; rfl, fun _ => ⟨HE.out.1, rfl, HE.out.2⟩, HX.out⟩⟩
    obtain ⟨b, off, rfl, hbl, hcc, t1⟩ := (HR.out.below HX.out).at2 k (by rw [HN.out]; exact hlt)
    obtain ⟨c0, c1, c2, c3, c4⟩ := hcc
    have HCq := hid (HC.out k hlt)
    have HGq := hid (HG.out k hlt)
    have HFq := hid (HFf.out k)
    have HQk : Hid (∀ q', SameB (dlb ms x y (bs.getD k k0)) q' → SameK (k + 1) (bs.map (dlb ms x y)) (R ++ [q'])) := by
      intro q' he i hi
      rw [getK_snoc, HO.out.len]
      by_cases e : i = k
      · rw [if_pos e, e, map_getK ms x y (by rw [HN.out]; exact hlt)]; exact he
      · rw [if_neg e]; exact HS.out i (by omega)
    have HAk : Hid (OkD ms x y (bs.getD k k0) → ∀ i, i < k + 1 → OkD ms x y (bs.getD i k0)) := by
      intro h i hi
      by_cases e : i = k
      · rw [e]; exact h
      · exact HA.out i (by omega)
    have HAn : Hid (¬ OkD ms x y (bs.getD k k0) → ¬ AllD ms x y bs) := fun h g => h (g k (by rw [HN.out]; exact hlt))
    generalize bs.getD k k0 = q at *
    have i1 : (k : Int) < (n : Int) := by omega
    have HW0 := hid ((Below.refl wr.heap.size wr).alloc (Nat.le_refl _) (.cells (clB q) 44))
    have hX0 : w.heap.size ≤ wr.heap.size := HX.out.size
    have HT1 := hid (t1.below HW0.out)
    have HMw := hid (HM.out.below (HX.out.trans (HW0.out.mono hX0)))
    simp only [clB] at HW0 HT1 HMw
    clear t1 hbl
    have HCall := hid (f41 q am cm ms x y _ HT1.out HCq.out HFq.out HGq.out HMw.out hgm)
    simp only [agB, clB] at HCall
    go_wp2_with fail
    refine HCall.out.mono ?_
    rintro e w4 ⟨h4, rfl, hs4, hi4, hb4⟩
    have HW4 : Hid (Below wr.heap.size wr w4) := HW0.out.trans (hb4.mono HW0.out.size)
    have HX4 := hid (HX.out.trans (HW4.out.mono hX0))
    have HI4 : Hid (InB wr.heap.size w4.heap.size h4 w4) := ⟨hi4.out.top, fun y hy => hi4.out.lies y ⟨hy.size, fun k h1 h2 => hy.same k (by have := HW0.out.size; omega) h2⟩⟩
    have HS4 := hid (HQk.out h4 hs4.out)
    have hl4 : h4.ts.length = (delB ms q x y).length := hs4.out.lt
    clear hs4 hi4 hb4 c0 c1 c2 c3 c4 HCall HQk
    have hbx := (Below.refl w4.heap.size w4).alloc (Nat.le_refl _) (.cells (clB h4) 44)
    have HBx := hid (heap_alloc_new w4 (.cells (clB h4) 44))
    have HW5 := hid (HW4.out.trans (hbx.mono HW4.out.size))
    have HX5 := hid (HX4.out.trans (hbx.mono HX4.out.size))
    have HI5 := hid (HI4.out.below hbx)
    have HO5 := hid (HO.out.below wayIn HW5.out)
    simp only [clB] at HBx HW5 HX5 HI5 HO5
    clear hbx
    obtain ⟨d0, d1, d2, d3, d4⟩ := five HBx.out
    by_cases h5 : OkD ms x y q
    rotate_left
    · have HD : Hid (decide (AllD ms x y bs) = false) := decide_eq_false (HAn.out h5)
      have h6 : (100 : Int) < (h4.ts.length : Int) := by unfold OkD at h5; omega
      have HNo := hid (HAn.out h5)
      clear h5 hl4
      go_wp2
      go_ret2
      exact ⟨none, 0, 0, [], ⟨by rw [HD.out]; rfl, fun h => absurd h HNo.out, HX5.out⟩⟩
    have h6 : ¬ (100 : Int) < (h4.ts.length : Int) := by unfold OkD at h5; omega
    have HA5 := hid (HAk.out h5)
    clear h5 hl4
    obtain ⟨w5, hw5⟩ : ∃ w5, w5 = w4.alloc (.cells #[.int .i64 h4.F, .int .i64 h4.T, .int .i64 h4.L, .slice h4.a h4.qs.length h4.c, .slice h4.b h4.ts.length h4.d] 44) := ⟨_, rfl⟩
    have hnew := five_new (w4.alloc (.cells #[.int .i64 h4.F, .int .i64 h4.T, .int .i64 h4.L, .slice h4.a h4.qs.length h4.c, .slice h4.b h4.ts.length h4.d] 44)) (.int .i64 h4.F) (.int .i64 h4.T) (.int .i64 h4.L) (.slice h4.a h4.qs.length h4.c) (.slice h4.b h4.ts.length h4.d) 44
    rw [World.size_alloc] at hnew
    have HNw := hid hnew
    clear hnew
    go_wp2_with (at_builtin; refine wpList_append_own_at _ rfl (.tmp 29) (.tmp 31) 26 rfl w.heap.size 44 i0 (.agg #[.int .i64 0, .int .i64 0, .int .i64 0, .slice none 0 0, .slice none 0 0]) 5 72 Tryz.underlying26 hi hz0 hz1 hz2 rfl (by decide) _ _ _ rfl (HO5.out.row.alloc _) ⟨w4.heap.size + 1, 0, none⟩ 1 1 (clK h4) rfl rfl ?d1 ?d2 ?d3 ?d4 ?d5 ?_)
    case d1 => exact HNw.out
    case d2 => (intro u hu; simp [clK] at hu; rcases hu with rfl | rfl | rfl | rfl | rfl <;> rfl)
    case d3 => unfold maxLen; omega
    case d4 => omega
    case d5 => have := HX4.out.size; simp; omega
    intro v8 w8 hown8 hgr8 _ hat8
    obtain ⟨a8, c8, rfl⟩ := own_form hown8
    rw [← hw5] at HBx HW5 HX5 HI5 HO5 hgr8
    have hba := (Below.refl w5.heap.size w5).alloc (Nat.le_refl _) (.cells #[.int .i64 h4.F, .int .i64 h4.T, .int .i64 h4.L, .slice h4.a h4.qs.length h4.c, .slice h4.b h4.ts.length h4.d] 44)
    have hsz5 : w5.heap.size = w4.heap.size + 1 := by rw [hw5]; simp
    have HX8 := hid ((HX5.out.trans (hba.mono HX5.out.size)).grown hgr8 (by have := HX5.out.size; simp; omega) (fun j hj => (HO5.out.row.lt j hj).1))
    have HO8 : Hid (RowK InB w.heap.size a8 (k + 1) c8 (R ++ [h4]) (fun i => if i = k then wr.heap.size else L i) (fun i => if i = k then w4.heap.size else U i) w8) := by
      refine HO.out.push wayIn (HW5.out.trans (hba.mono HW5.out.size)) (HI5.out.below hba) (fun g hg => .inl (HO.out.row.lt g hg).2) hgr8 ?_ (by rw [World.size_alloc, hsz5]; exact hat8)
      rw [flatK_snoc]
      exact hown8
    clear hown8 hgr8 hat8 hba hw5
    go_wp2
    go_roundw
    case rel => exact ⟨k + 1, c8, a8, R ++ [h4], _, _, by omega, by go_num, rfl, HO8, HS4, HA5, HX8⟩
    case measure => simp [intOf]; omega
set_option maxRecDepth 10000 in
set_option maxHeartbeats 4000000 in
theorem f7 (b : Int) (a : Option Addr) (n c : Nat) (bs : List Bk) (am : Option Addr) (cm : Nat) (ms : List Mt) (x y : Int) (w : World) (hb0 : -9223372036854775808 ≤ b) (hb1 : b ≤ 9223372036854775807) (hn : bs.length = n) (hb : n ≤ 1048576) (hr : HasK w a bs) (hf : FitK bs) (hz : SmlK bs) (hcap : ∀ j, j < n → ∀ i, i < (bs.getD j k0).qs.length → ((bs.getD j k0).qs.getD i q0).d = ((bs.getD j k0).qs.getD i q0).s.length) (hm : HasM w am ms) (hmx : ms.length ≤ maxLen) (hfm : FitM ms) :
    Calls Tryz.prog 7 #[.int .i64 b, .slice a n c, .slice am ms.length cm, .int .i64 x, .int .i64 y] w fun e w' => ∃ (a' : Option Addr) (m c' : Nat) (R : List Bk), e = .returned (.slice a' m c') ∧ Hid (R.length = m ∧ m = (dk b bs ms x y).length ∧ SameK m (dk b bs ms x y) R ∧ HasK w' a' R) ∧ Below w.heap.size w w' := by
  have HN := hid hn
  have HR := hid hr
  have HZ := hid hz
  have HF := hid hf
  have HCp := hid hcap
  have HM := hid hm
  have HG := hid (f24 b a n c bs w hb0 hb1 hn hb hr hf hz)
  have HGm := fun z (hz : HasM z am ms) => hid (Pat.f25 am ms.length cm ms z rfl hmx hz hfm)
  clear hn hr hf hz hcap hm
  go_enter Tryz.func7, Tryz.ntmps7
  go_wp2_with fail
  refine HG.out.mono ?_
  rintro e w1 ⟨rfl, hb1'⟩
  have HB1 := hid hb1'
  have HR1 := hid (HR.out.below hb1')
  clear hb1' HG
  cases hg : gdK b bs
  · have E : Hid (dk b bs ms x y = []) := by unfold Hid dk; rw [hg, if_neg (fun h => by cases h.1)]
    go_wp2
    go_ret
    exact ⟨none, 0, 0, [], rfl, ⟨rfl, by rw [E.out]; rfl, fun i hi => by omega, .inl rfl⟩, HB1.out⟩
  go_wp2_with fail
  refine (HGm _ (HM.out.below HB1.out)).out.mono ?_
  rintro e w2 ⟨rfl, hb2⟩
  have HB2 := hid (HB1.out.trans (hb2.mono HB1.out.size))
  have HR2 := hid (HR1.out.below hb2)
  clear hb2 HR1 HGm
  cases hgm : goodM ms
  · have E : Hid (dk b bs ms x y = []) := by unfold Hid dk; rw [hgm, if_neg (fun h => by cases h.2.1)]
    go_wp2
    go_ret
    exact ⟨none, 0, 0, [], rfl, ⟨rfl, by rw [E.out]; rfl, fun i hi => by omega, .inl rfl⟩, HB2.out⟩
  have HGK := hid (gdK_iff.1 hg)
  have h100 : n ≤ 100 := by rw [← HN.out]; exact HGK.out.2.1
  have HE : Hid (dk b bs ms x y = if AllD ms x y bs then bs.map (dlb ms x y) else []) := by
    unfold Hid dk
    by_cases h : AllD ms x y bs
    · rw [if_pos ⟨hg, hgm, h⟩, if_pos h]
    · rw [if_neg (fun g => h g.2.2), if_neg h]
  have HCall := hid (f26 a n c bs am cm ms x y w2 HN.out h100 HR2.out (fun j hj => good_cpb (HGK.out.2.2 j (by rw [HN.out]; exact hj)).2.1 (HZ.out j (by rw [HN.out]; exact hj)) (HCp.out j hj)) HF.out (fun j hj => (HGK.out.2.2 j (by rw [HN.out]; exact hj)).2.1) (HM.out.below HB2.out) hgm)
  clear hg hgm
  go_wp2_with fail
  refine HCall.out.mono ?_
  rintro e w3 ⟨a3, m3, c3, R3, hh⟩
  obtain ⟨rfl, hR, hb3⟩ := hh.out
  have HB3 := hid (HB2.out.trans (hb3.mono HB2.out.size))
  have HR3 := hid hR
  clear hh hR hb3 HCall
  by_cases hA : AllD ms x y bs
  · have E : Hid (dk b bs ms x y = bs.map (dlb ms x y)) := by unfold Hid; rw [HE.out, if_pos hA]
    have H3 : Hid (R3.length = m3 ∧ m3 = (dk b bs ms x y).length ∧ SameK m3 (dk b bs ms x y) R3 ∧ HasK w3 a3 R3) := by
      obtain ⟨q1, q2, q3, q4⟩ := HR3.out hA
      rw [E.out]
      exact ⟨q1, by rw [List.length_map, HN.out]; exact q2, q3, q4⟩
    rw [decide_eq_true hA]
    clear hA
    go_wp2
    go_ret
    exact ⟨a3, m3, c3, R3, rfl, H3, HB3.out⟩
  · have E : Hid (dk b bs ms x y = []) := by unfold Hid; rw [HE.out, if_neg hA]
    rw [decide_eq_false hA]
    clear hA
    go_wp2
    go_ret
    exact ⟨none, 0, 0, [], rfl, ⟨rfl, by rw [E.out]; rfl, fun i hi => by omega, .inl rfl⟩, HB3.out⟩
end Go.Proofs.YtkbaaidnkkcpoaaGreat.Blk
