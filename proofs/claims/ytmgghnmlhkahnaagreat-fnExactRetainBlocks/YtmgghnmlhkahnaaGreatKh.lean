/- Stones and blocks copied: the program's copyStones, copyBlock. -/
import Derived.Test.YtmgghnmlhkahnaaGreatKg
import Derived.Test.YtmgghnmlhkahnaaGreatGM
namespace Go.Proofs.YtmgghnmlhkahnaaGreat.Stn
open Go.RowKit
open Go.Proofs.YtmgghnmlhkahnaaGreat.Lab (Lb HasL)
open Go.Proofs.YtmgghnmlhkahnaaGreat.Srs (hid lt_at kept blk own_base own_below own_grown set_else OwnL own_formC)

theorem t_cells {w : World} {b off : Nat} {L : List T} (hr : HasT w (some ⟨b, off, none⟩) L) : ∀ j u, (flat L)[j]? = some u → w.cell? ((⟨b, off, none⟩ : Addr).add j) = some u := by
  intro j u hj
  have hjl : j < L.length * 3 := by
    have := (List.getElem?_eq_some_iff.1 hj).1
    rw [flat_len] at this; exact this
  rcases hr with h | ⟨b', off', hbo, hb, hc⟩
  · rw [h] at hjl; simp at hjl
  · simp only [Option.some.injEq, Addr.mk.injEq, and_true] at hbo
    obtain ⟨rfl, rfl⟩ := hbo
    obtain ⟨i, hi⟩ : ∃ i, i = j / 3 := ⟨_, rfl⟩
    obtain ⟨g0, g1, g2⟩ := flat_get L i (by omega)
    obtain ⟨⟨c0, c1, c2⟩, _⟩ := hc i (by omega)
    rw [Smp.add_none]
    rcases (show j = i * 3 ∨ j = i * 3 + 1 ∨ j = i * 3 + 2 by omega) with h | h | h
    · subst h
      rw [c0, ← g0]; exact hj
    · subst h
      rw [show off + (i * 3 + 1) = off + i * 3 + 1 from by omega, c1, ← g1]; exact hj
    · subst h
      rw [show off + (i * 3 + 2) = off + i * 3 + 2 from by omega, c2, ← g2]; exact hj
theorem t_one (L : List T) : ∀ u ∈ flat L, u.oneCell' = true := by
  intro u hu
  unfold flat at hu
  obtain ⟨q, _, hq⟩ := List.mem_flatMap.1 hu
  simp [cl] at hq
  rcases hq with rfl | rfl | rfl <;> rfl
theorem flat_set1 (L : List T) (i : Nat) (q : T) (hi : i < L.length) (h : q.f = (L.getD i t0).f ∧ q.t = (L.getD i t0).t) : (flat L).set (i * 3) (.slice q.a q.l.length q.c) = flat (L.set i q) := by
  obtain ⟨g0, g1, g2⟩ := flat_get L i hi
  rw [← flat_set L i q hi]
  have e1 : ((flat L).set (i * 3) (.slice q.a q.l.length q.c)).set (i * 3 + 1) (.int .i64 q.f) = (flat L).set (i * 3) (.slice q.a q.l.length q.c) := set_same (by rw [List.getElem?_set_ne (by omega), g1, h.1])
  rw [e1]
  exact (set_same (by rw [List.getElem?_set_ne (by omega), g2, h.2])).symm
theorem mixt_get {d ts : List T} {k j : Nat} (hd : d.length = k) (hj : k ≤ j) : (d ++ ts.drop k).getD j t0 = ts.getD j t0 := by
  rw [List.getD_eq_getElem?_getD, List.getD_eq_getElem?_getD, List.getElem?_append_right (by omega), List.getElem?_drop, show k + (j - d.length) = j by omega]
theorem mixt_set {d ts : List T} {k : Nat} {q : T} (hd : d.length = k) (hk : k < ts.length) : (d ++ ts.drop k).set k q = (d ++ [q]) ++ ts.drop (k + 1) := by
  rw [List.set_append_right _ _ (by omega), hd, Nat.sub_self, List.drop_eq_getElem_cons hk, List.set_cons_zero, List.append_assoc]
  rfl
theorem Owns.grown {X B k : Nat} {d : List T} {w w' : World} (h : Owns X B k d w) (hg : w.grownBy w' (some B)) : Owns X B k d w' := ⟨h.len, fun i hi => (h.own i hi).grown hg (by have := h.off i hi; omega), h.off, h.dis⟩
set_option maxRecDepth 10000 in
set_option maxHeartbeats 4000000 in
theorem f56 (a : Option Addr) (n c : Nat) (ts : List T) (w : World) (hn : ts.length = n) (hb : n ≤ 1048576) (hr : HasT w a ts) (hne : ∀ i, i < n → (ts.getD i t0).l ≠ []) (hz : SmlT ts) :
    Calls Tryz.prog 56 #[.slice a n c] w fun e w' => ∃ d : List T, e = .returned (.slice (some ⟨w.heap.size, 0, none⟩) n n) ∧ Hid (OwnT w.heap.size w.heap.size n d w') ∧ Hid (Same n ts d) ∧ Below w.heap.size w w' := by
  obtain ⟨i0, hi, hz0, hz1, hz2⟩ := info_parts infoT
  have HN := hid hn
  have HR := hid hr
  have HZ := hid hz
  have HNe := hid hne
  clear hn hr hz hne
  go_enter Tryz.func56, Tryz.ntmps56
  go_wp2_with (at_make; refine wpList_make_full _ rfl _ _ 38 rfl w.heap.size 63 i0 (.agg #[.slice none 0 0, .int .i64 0, .int .i64 0]) 3 Tryz.underlying38 hi hz0 hz1 _ _ _ _ n rfl rfl rfl rfl ?b2 ?b3 (Nat.le_refl _) ?_)
  case b2 => rw [hz2]; omega
  case b3 => unfold maxLen; omega
  intro w0 hown0 hgrow0
  have HO0 := hid hown0
  have HB0 := hid ((Below.refl w.heap.size w).grown hgrow0 (Nat.le_refl _) (fun k h => by cases h))
  have HSr : Hid (0 < n → ∃ ad, a = some ad ∧ ∀ j v, (flat ts)[j]? = some v → w0.cell? (ad.add j) = some v) := by
    intro hp
    have hr0 := HR.out.below HB0.out
    obtain ⟨b, off, rfl, _⟩ := hr0.at2 0 (by rw [HN.out]; exact hp)
    exact ⟨_, rfl, t_cells hr0⟩
  clear hown0 hgrow0
  go_wp2_with (refine Cpy.wpList_copy_all rfl (.tmp 9) (.tmp 10) 38 38 rfl 63 i0 3 Tryz.underlying38 hi hz1 w.heap.size w.heap.size n _ rfl HO0.out a c rfl (flat ts) (by rw [flat_len, HN.out]) HSr.out (t_one ts) ?_)
  intro w1 hown1 hgr1
  have HO1 := hid hown1
  have HB1 := hid (HB0.out.grown hgr1 HB0.out.size (fun k hk => by cases hk; exact Nat.le_refl _))
  clear hown1 hgr1 HO0 HSr HB0
  go_wp2
  go_loopw [14] (fun si wr => ∃ (k : Nat) (d : List T), k ≤ n ∧ si = .int .i64 k ∧ Hid (Owns w.heap.size w.heap.size k d wr) ∧ Hid (Same k ts d) ∧ Hid (wr.ownsRow w.heap.size 63 3 (.slice (some ⟨w.heap.size, 0, none⟩) n n) n (flat (d ++ ts.drop k))) ∧ Hid (Below w.heap.size w wr)) (fun si _ => n - (intOf si).toNat)
  case atStart => exact ⟨0, [], Nat.zero_le _, rfl, Owns.nil, fun i hi => by omega, HO1.out, HB1.out⟩
  case round =>
    obtain ⟨k, d, hk, rfl, HD, HSm, HO, HX⟩ := hrel
    by_cases hlt : k < n
    rotate_left
    · obtain rfl : k = n := by omega
      have HE : Hid (OwnT w.heap.size w.heap.size k d wr) := by
        have h := HO.out
        rw [List.drop_eq_nil_of_le (by rw [HN.out]; exact Nat.le_refl _), List.append_nil] at h
        exact ⟨h, HD.out⟩
      go_wp2
      go_ret
      exact ⟨d, rfl, HE, HSm, HX.out⟩
    obtain ⟨b, off, rfl, hbl, ⟨c0, c1, c2⟩, t1⟩ := (HR.out.below HX.out).at2 k (by rw [HN.out]; exact hlt)
    have HNq := hid (HNe.out k hlt)
    have HZq := hid (HZ.out k (by rw [HN.out]; exact hlt))
    have HL : Hid ((d ++ ts.drop k).length = n) := by unfold Hid; have := HD.out.len; have := HN.out; simp; omega
    obtain ⟨y0, y1, y2⟩ := flat_get (d ++ ts.drop k) k (by rw [HL.out]; exact hlt)
    have HMx := hid (mixt_get (d := d) (ts := ts) HD.out.len (Nat.le_refl k))
    rw [HMx.out] at y0 y1 y2
    have HQk : Hid (∀ q', pl q' = pl (ts.getD k t0) → Same (k + 1) ts (d ++ [q'])) := by
      intro q' he i hi
      rw [getD_snoc, HD.out.len]
      by_cases e : i = k
      · rw [if_pos e, e]; exact he
      · rw [if_neg e]; exact HSm.out i (by omega)
    generalize ts.getD k t0 = q at *
    have i1 : (k : Int) < (n : Int) := by omega
    have hRow : w.heap.size < wr.heap.size := (HO.out.lt w.heap.size rfl).2
    have HW0 := hid ((Below.refl wr.heap.size wr).alloc (Nat.le_refl _) (.cells #[.slice q.a q.l.length q.c, .int .i64 q.f, .int .i64 q.t] 63))
    have HBx := hid (heap_alloc_new wr (.cells #[.slice q.a q.l.length q.c, .int .i64 q.f, .int .i64 q.t] 63))
    obtain ⟨bl, ol, hql⟩ : ∃ b o, q.a = some ⟨b, o, none⟩ := by
      rcases t1 with h | ⟨b, o, h, _⟩
      · exact absurd h HNq.out
      · exact ⟨b, o, h⟩
    have HT1 := hid (t1.below HW0.out)
    have hlp : 0 < q.l.length := List.length_pos_iff.2 HNq.out
    have hl1 : q.l.length ≤ 1048576 := HZq.out
    have HC1 : Hid (Calls Tryz.prog 79 #[.slice q.a q.l.length q.c] (wr.alloc (.cells #[.slice q.a q.l.length q.c, .int .i64 q.f, .int .i64 q.t] 63)) fun e w' => ∃ v', e = .returned v' ∧ OwnL w' (wr.alloc (.cells #[.slice q.a q.l.length q.c, .int .i64 q.f, .int .i64 q.t] 63)).heap.size v' q.l ∧ Below (wr.alloc (.cells #[.slice q.a q.l.length q.c, .int .i64 q.f, .int .i64 q.t] 63)).heap.size (wr.alloc (.cells #[.slice q.a q.l.length q.c, .int .i64 q.f, .int .i64 q.t] 63)) w') := by
      have h := HT1.out
      rw [hql] at h
      have h2 := Srs.f79 bl ol q.c q.l _ hl1 h
      rw [← hql] at h2
      exact h2
    clear t1 hbl hql
    go_wp2_with fail
    refine HC1.out.mono ?_
    rintro e w4 ⟨v4, rfl, ho4, hb4⟩
    obtain ⟨ga, ca, rfl⟩ := own_formC ho4 hlp
    have HL4 := hid ho4
    have hwr : wr.heap.size < (wr.alloc (.cells #[.slice q.a q.l.length q.c, .int .i64 q.f, .int .i64 q.t] 63)).heap.size := by simp
    have hga : wr.heap.size < ga := Nat.lt_of_lt_of_le hwr (ho4.lt ga rfl).1
    have HO4 := hid (own_below (own_below HO.out HW0.out) hb4)
    have HD4 := hid ((HD.out.below HW0.out).below hb4)
    have HX4 : Hid (Below w.heap.size w w4) := HX.out.trans ((HW0.out.trans (hb4.mono (Nat.le_of_lt hwr))).mono HX.out.size)
    have z0 := (HO4.out.cellAt (k * 3) (by omega)).trans y0
    have f0 := HO4.out.frozenAt (k * 3)
    have HE : Hid (∀ wz, wz = w4.setCell ⟨w.heap.size, k * 3, none⟩ (.slice (some ⟨ga, 0, none⟩) q.l.length ca) → ∃ q' : T, Owns w.heap.size w.heap.size (k + 1) (d ++ [q']) wz ∧ Same (k + 1) ts (d ++ [q']) ∧ wz.ownsRow w.heap.size 63 3 (.slice (some ⟨w.heap.size, 0, none⟩) n n) n (flat ((d ++ [q']) ++ ts.drop (k + 1))) ∧ Below w.heap.size w wz) := by
      rintro wz rfl
      have hst := HO4.out.stored (k * 3) (.slice (some ⟨ga, 0, none⟩) q.l.length ca)
      refine ⟨⟨q.l, some ⟨ga, 0, none⟩, ca, q.f, q.t⟩, ?_, HQk.out _ rfl, ?_, HX4.out.setCell (Nat.le_refl _) _⟩
      · have hq : Own1 w.heap.size ga ⟨q.l, some ⟨ga, 0, none⟩, ca, q.f, q.t⟩ w4 := ⟨rfl, own_base HL4.out (by simp; omega)⟩
        exact (HD4.out.grown hst.2).snoc (hq.grown hst.2 (by omega)) (show w.heap.size < ga by omega) (fun i hi => by have := (HD.out.own i hi).lts; show blk (d.getD i t0).a < ga; omega)
      · rw [← mixt_set HD.out.len (by rw [HN.out]; exact hlt), ← flat_set1 _ k _ (by rw [HL.out]; exact hlt) (by rw [HMx.out]; exact ⟨rfl, rfl⟩)]; exact hst.1
    clear ho4 hb4 HL4 HO4 HD4 HX4 HO HD HX HBx HT1 HC1 HW0 y0 y1 y2 c0 c1 c2
    go_wp2
    go_roundw
    case rel =>
      obtain ⟨q', e1, e2, e3, e4⟩ := HE.out _ rfl
      exact ⟨k + 1, d ++ [q'], by omega, by go_num, e1, e2, e3, e4⟩
    case measure => simp [intOf]; omega
end Go.Proofs.YtmgghnmlhkahnaaGreat.Stn
