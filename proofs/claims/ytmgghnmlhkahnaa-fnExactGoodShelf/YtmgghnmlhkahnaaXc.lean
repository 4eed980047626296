/- Lists of series: toSeriesS: all of it owned. -/
import Derived.Test.YtmgghnmlhkahnaaXb
namespace Go.Proofs.Ytmgghnmlhkahnaa.Srs
open Go.RowKit
open Go.Proofs.Ytmgghnmlhkahnaa.Lab (Lb HasL)
open Go.Proofs.Ytmgghnmlhkahnaa.Smp (Sm HasS)

theorem infoQ : (Try.prog.info? 49).map (fun i => (i.zero, i.size, i.bytes)) = some (some (.agg #[.slice none 0 0, .slice none 0 0]), 2, 48) := by kernel_rfl
theorem step_set (d : List Q) (n k : Nat) (q : Q) (hd : d.length = k) (hk : k < n) : (d ++ List.replicate (n - k) q0).set k q = (d ++ [q]) ++ List.replicate (n - (k + 1)) q0 := by
  rw [List.set_append_right _ _ (by omega), hd, Nat.sub_self, show n - k = (n - (k + 1)) + 1 from by omega, List.replicate_succ, List.set_cons_zero, List.append_assoc]
  rfl
theorem getD_snoc (d : List Q) (q : Q) (i : Nat) : (d ++ [q]).getD i q0 = if i = d.length then q else d.getD i q0 := by
  rw [List.getD_eq_getElem?_getD, List.getD_eq_getElem?_getD]
  by_cases h : i < d.length
  · rw [List.getElem?_append_left h, if_neg (by omega)]
  · rw [List.getElem?_append_right (by omega)]
    by_cases e : i = d.length
    · rw [if_pos e, e, Nat.sub_self]; rfl
    · rw [if_neg e, List.getElem?_eq_none (by simp; omega), List.getElem?_eq_none (by omega)]
/-- Where the labels and the samples of a series lie that is in memory of its own. -/
def blk (a : Option Addr) : Nat := match a with
  | some x => x.block
  | none => 0
/-- The first k of a list of series lie in memory of their own, behind B, one behind the other. -/
structure Owns (X B k : Nat) (d : List Q) (w : World) : Prop where
  len : d.length = k
  own : ∀ i, i < k → Own1 X (blk (d.getD i q0).a) (blk (d.getD i q0).b) (d.getD i q0) w
  off : ∀ i, i < k → B < blk (d.getD i q0).a
  dis : ∀ i j, i < j → j < k → blk (d.getD i q0).b < blk (d.getD j q0).a
theorem Owns.nil {X B : Nat} {w : World} : Owns X B 0 [] w := ⟨rfl, fun i hi => by omega, fun i hi => by omega, fun i j h1 h2 => by omega⟩
theorem Owns.below {X B k : Nat} {d : List Q} {w w' : World} (h : Owns X B k d w) (hb : Below w.heap.size w w') : Owns X B k d w' := ⟨h.len, fun i hi => (h.own i hi).below hb, h.off, h.dis⟩
theorem Owns.set {X B k : Nat} {d : List Q} {w : World} (h : Owns X B k d w) (o : Nat) (v : Value) : Owns X B k d (w.setCell ⟨B, o, none⟩ v) :=
  ⟨h.len, fun i hi => (h.own i hi).set (p := ⟨B, o, none⟩) (Nat.ne_of_gt (h.off i hi)) (Nat.ne_of_gt (Nat.lt_trans (h.off i hi) (h.own i hi).lt)) v, h.off, h.dis⟩
theorem Owns.snoc {X B k : Nat} {d : List Q} {w : World} {q : Q} (h : Owns X B k d w) (h1 : Own1 X (blk q.a) (blk q.b) q w) (h2 : B < blk q.a) (h3 : ∀ i, i < k → blk (d.getD i q0).b < blk q.a) : Owns X B (k + 1) (d ++ [q]) w := by
  have hl := h.len
  refine ⟨by simp [hl], fun i hi => ?_, fun i hi => ?_, fun i j hij hj => ?_⟩
  · rw [getD_snoc]
    by_cases e : i = d.length
    · rw [if_pos e]; exact h1
    · rw [if_neg e]; exact h.own i (by omega)
  · rw [getD_snoc]
    by_cases e : i = d.length
    · rw [if_pos e]; exact h2
    · rw [if_neg e]; exact h.off i (by omega)
  · rw [getD_snoc, getD_snoc, if_neg (show ¬ i = d.length by omega)]
    by_cases e : j = d.length
    · rw [if_pos e]; exact h3 i (by omega)
    · rw [if_neg e]; exact h.dis i j hij (by omega)
theorem Own1.at_blk {X ga gb : Nat} {q : Q} {w : World} (h : Own1 X ga gb q w) : Own1 X (blk q.a) (blk q.b) q w := by
  have e1 : blk q.a = ga := by rw [h.ha]; rfl
  have e2 : blk q.b = gb := by rw [h.hb]; rfl
  rw [e1, e2]; exact h
/-- A list of series at block g, all of it in memory of its own from X on. -/
structure OwnQ (X g n : Nat) (qs : List Q) (w : World) : Prop where
  row : w.ownsRow X 49 2 (.slice (some ⟨g, 0, none⟩) n n) n (flat qs)
  kin : Owns X g n qs w
theorem OwnQ.below {X g n : Nat} {qs : List Q} {w w' : World} (h : OwnQ X g n qs w) (hb : Below w.heap.size w w') : OwnQ X g n qs w' := ⟨own_below h.row hb, h.kin.below hb⟩
theorem OwnQ.has {X g n : Nat} {qs : List Q} {w : World} (h : OwnQ X g n qs w) : HasQ w (some ⟨g, 0, none⟩) qs :=
  own_has h.row fun i hi => ⟨(h.kin.own i (by rw [← h.kin.len]; exact hi)).hasL, (h.kin.own i (by rw [← h.kin.len]; exact hi)).hasS⟩
def SameTo (k : Nat) (qs d : List Q) : Prop := ∀ i, i < k → pl (d.getD i q0) = pl (qs.getD i q0) ∧ (d.getD i q0).c = (d.getD i q0).l.length ∧ (d.getD i q0).d = (d.getD i q0).s.length
theorem SameTo.snoc {k : Nat} {qs d : List Q} {q : Q} (h : SameTo k qs d) (hd : d.length = k) (h1 : pl q = pl (qs.getD k q0)) (h2 : q.c = q.l.length) (h3 : q.d = q.s.length) : SameTo (k + 1) qs (d ++ [q]) := by
  intro i hi
  rw [getD_snoc]
  by_cases e : i = d.length
  · rw [if_pos e, e, hd]; exact ⟨h1, h2, h3⟩
  · rw [if_neg e]; exact h i (by omega)

set_option maxHeartbeats 2000000 in
theorem f26 (a : Option Addr) (n c : Nat) (qs : List Q) (w : World) (hn : qs.length = n) (hb : n ≤ 1048576) (hr : HasQ w a qs) (hz : SmlQ qs) :
    Calls Try.prog 26 #[.slice a n c] w fun e w' => ∃ qs' : List Q, e = .returned (.slice (some ⟨w.heap.size, 0, none⟩) n n) ∧ SameTo n qs qs' ∧ OwnQ w.heap.size w.heap.size n qs' w' ∧ Below w.heap.size w w' := by
  obtain ⟨i0, hi, hz0, hz1, hz2⟩ := info_parts infoQ
  have HN := hid hn
  have HR := hid hr
  have HZ := hid hz
  clear hn hr hz
  go_enter Try.func26, Try.ntmps26
  go_wp2_with (at_make; refine wpList_make_full _ rfl _ _ 34 rfl w.heap.size 49 i0 (.agg #[.slice none 0 0, .slice none 0 0]) 2 Try.underlying34 hi hz0 hz1 _ _ _ _ n rfl rfl rfl rfl ?b2 ?b3 (Nat.le_refl _) ?_)
  case b2 => rw [hz2]; omega
  case b3 => unfold maxLen; omega
  intro w0 hown0 hgrow0
  have hown1 : Hid (w0.ownsRow w.heap.size 49 2 (.slice (some ⟨w.heap.size, 0, none⟩) n n) n (flat (List.replicate n q0))) := by
    rw [← made_two]; exact hown0
  have hb0 := hid ((Below.refl w.heap.size w).grown hgrow0 (Nat.le_refl _) (fun k h => by cases h))
  clear hown0 hgrow0
  go_wp2
  go_loopw [4] (fun i wr => ∃ (k : Nat) (d : List Q), k ≤ n ∧ i = .int .i64 k ∧ Hid (SameTo k qs d) ∧ Hid (Owns w.heap.size w.heap.size k d wr) ∧ Hid (wr.ownsRow w.heap.size 49 2 (.slice (some ⟨w.heap.size, 0, none⟩) n n) n (flat (d ++ List.replicate (n - k) q0))) ∧ Hid (Below w.heap.size w wr))
    (fun i _ => n - (intOf i).toNat)
  case atStart => exact ⟨0, [], Nat.zero_le _, rfl, fun i hi => by omega, Owns.nil, by unfold Hid; simpa using hown1.out, hb0.out⟩
  case round =>
    obtain ⟨k, d, hk, rfl, HSm, HD, HO, HX⟩ := hrel
    by_cases hlt : k < n
    · obtain ⟨b, off, rfl, hbl, c0, c1, hT1, hT2⟩ := (HR.out).at2 k (by rw [HN.out]; exact hlt)
      have d0 := (HX.out.cell (p := ⟨b, off + k * 2, none⟩) hbl).trans c0
      have d1 := (HX.out.cell (p := ⟨b, off + k * 2 + 1, none⟩) hbl).trans c1
      have HT1 := hid (hT1.below HX.out)
      have HT2 := hid (hT2.below HX.out)
      have HS := hid (HZ.out k (by rw [HN.out]; exact hlt))
      obtain ⟨q, hq⟩ : ∃ q, q = qs.getD k q0 := ⟨_, rfl⟩
      have HQ := hid hq
      rw [← hq] at d0 d1 HT1 HT2 HS
      clear c0 c1 hT1 hT2 hbl hq
      go_wp2_with fail
      refine (f42 q _ HT1.out HT2.out HS.out.1 HS.out.2).mono ?_
      rintro e w2 ⟨q', ga, gb, rfl, hp, hc', hd', hg, ho2, hb2⟩
      have HD2 := hid (HD.out.below hb2)
      have HO2 := hid (own_below HO.out hb2)
      have HX2 := hid (HX.out.trans (hb2.mono HX.out.size))
      have HT3 := hid ((ho2.base HX.out.size).at_blk)
      have HBa : Hid (blk q'.a = ga) := by unfold Hid; rw [ho2.ha]; rfl
      have HGB : Hid (w.heap.size < blk q'.a ∧ ∀ i, i < k → blk (d.getD i q0).b < blk q'.a) := by
        have h1 := (HO.out.lt w.heap.size rfl).2
        refine ⟨by rw [HBa.out]; omega, fun i hi => ?_⟩
        have h2 := (HD.out.own i hi).lts
        rw [HBa.out]; omega
      have HL : Hid ((d ++ List.replicate (n - k) q0).length = n) := by unfold Hid; have := HD.out.len; simp; omega
      have HSn := hid (HSm.out.snoc HD.out.len (hp.trans (by rw [← HQ.out])) hc' hd')
      obtain ⟨y0, y1⟩ := flat_get (d ++ List.replicate (n - k) q0) k (by rw [HL.out]; exact hlt)
      have z0 := (HO2.out.cellAt (k * 2) (by omega)).trans y0
      have z1 := (HO2.out.cellAt (k * 2 + 1) (by omega)).trans y1
      have f0 := HO2.out.frozenAt (k * 2)
      have f1 := HO2.out.frozenAt (k * 2 + 1)
      have HE : Hid (∀ wz, wz = (w2.setCell ⟨w.heap.size, k * 2, none⟩ (.slice q'.a q'.l.length q'.c)).setCell ⟨w.heap.size, k * 2 + 1, none⟩ (.slice q'.b q'.s.length q'.d) → Owns w.heap.size w.heap.size (k + 1) (d ++ [q']) wz ∧ wz.ownsRow w.heap.size 49 2 (.slice (some ⟨w.heap.size, 0, none⟩) n n) n (flat ((d ++ [q']) ++ List.replicate (n - (k + 1)) q0)) ∧ Below w.heap.size w wz) := by
        rintro wz rfl
        have n1 : blk q'.a ≠ w.heap.size := Nat.ne_of_gt HGB.out.1
        have n2 : blk q'.b ≠ w.heap.size := Nat.ne_of_gt (Nat.lt_trans HGB.out.1 HT3.out.lt)
        refine ⟨((HD2.out.set _ _).set _ _).snoc ((HT3.out.set (p := ⟨w.heap.size, k * 2, none⟩) n1 n2 _).set (p := ⟨w.heap.size, k * 2 + 1, none⟩) n1 n2 _) HGB.out.1 HGB.out.2, ?_, (HX2.out.setCell (Nat.le_refl _) _).setCell (Nat.le_refl _) _⟩
        rw [← step_set d n k _ HD2.out.len hlt, ← flat_set _ k _ (by rw [HL.out]; exact hlt)]
        exact ((HO2.out.stored (k * 2) _).1.stored (k * 2 + 1) _).1
      clear y0 y1 hb2 hg ho2 hp hc' hd' HO HT1 HT2 HO2 HD2 HX2 HT3 HX HD HSm HBa HGB d0 d1
      go_wp2
      go_roundw
      case rel =>
        obtain ⟨e1, e2, e3⟩ := HE.out _ rfl
        exact ⟨k + 1, _, by omega, by go_num, HSn.out, e1, e2, e3⟩
      case measure => simp [intOf]; omega
    · obtain rfl : k = n := by omega
      have HE : Hid (OwnQ w.heap.size w.heap.size k d wr) := by
        have h := HO.out
        rw [Nat.sub_self, List.replicate_zero, List.append_nil] at h
        exact ⟨h, HD.out⟩
      go_wp2
      go_ret
      exact ⟨d, rfl, HSm.out, HE.out, HX.out⟩
end Go.Proofs.Ytmgghnmlhkahnaa.Srs
