/- Series copied: the model's l7CopySamples, l7Copy. -/
import Derived.Test.YtjhdmghpklagkaaGreatD07
import Derived.Test.YtjhdmghpklagkaaGreatD28
namespace Go.Proofs.YtjhdmghpklagkaaGreat.Srs
open Go.RowKit
open Go.Proofs.YtjhdmghpklagkaaGreat.Lab (Lb HasL)
open Go.Proofs.YtjhdmghpklagkaaGreat.Smp (Sm HasS own_form)

theorem step_append_at {P : Program} {ops : Array Oper} {o : Oper} {a : Act} {w : World} {K : Act → World → Prop} {Q : Exit → Act → World → Prop} {E : Prop}
    (hg : o.guard = none) (s x : Operand) (t : TypeId) (hop : o.op = Op.call { callee := Callee.builtin Builtin.append, args := #[s, x], argTypes := #[t, t] })
    (base : Nat) (e : TypeId) (i : TypeInfo) (z : Value) (size bytes : Nat) (h1 : P.underlying t = some (.slice e)) (h2 : P.info? e = some i) (h3 : i.zero = some z) (h4 : i.size = size) (h5 : i.bytes = bytes) (h6 : z.cells.size = size) (h7 : 0 < size)
    (ao : Option Addr) (n cap : Nat) (olds : List Value) (hs : a.eval s = .slice ao n cap) (hown : w.ownsRow base e size (.slice ao n cap) n olds)
    (ad : Addr) (m c : Nat) (news : List Value) (hx : a.eval x = .slice (some ad) m c) (hn : news.length = m * size) (hc : ∀ j u, news[j]? = some u → w.cell? (ad.add j) = some u) (h1c : ∀ u ∈ news, u.oneCell' = true)
    (b1 : n + m ≤ maxLen) (b2 : (n + m) * bytes ≤ 140737488355328) (hbase : base ≤ w.heap.size)
    (hK : ∀ v' w', w'.ownsRow base e size v' (n + m) (olds ++ news) → w.grownBy w' (Value.slice ao n cap).ownBlock → (v'.ownBlock = (Value.slice ao n cap).ownBlock ∨ v'.ownBlock = some w.heap.size) → K (a.put o.dst v') w') :
    if Region.wanted o (yielded ops a.tmps) = true then Oper.wp P o a w K Q else E := by
  have hw : Region.wanted o (yielded ops a.tmps) = true := by simp [Region.wanted, hg]
  rw [if_pos hw]
  obtain ⟨v', w', hrun, r1, r2, _, r4⟩ := run_append_own_at (P := P) w base t o.type e i z size bytes h1 h2 h3 h4 h5 h6 h7 (.slice ao n cap) n olds hown ad m c news hn hc h1c b1 b2 hbase
  unfold Oper.wp
  simp [execOp, hop, resolve, invoke, builtin, hs, hx, hrun, Result.andThen]
  exact hK v' w' r1 r2 r4
theorem infoQ2 : (Tryz.prog.info? 80).map (fun i => (i.zero, i.size, i.bytes)) = some (some (.agg #[.slice none 0 0, .slice none 0 0]), 2, 48) := by kernel_rfl
theorem infoS2 : (Tryz.prog.info? 119).map (fun i => (i.zero, i.size, i.bytes)) = some (some (.agg #[.int .i64 0, .int .i64 0]), 2, 16) := by kernel_rfl
theorem f112 (b off c : Nat) (L : List Sm) (w : World) (h20 : L.length ≤ 1048576) (hr : HasS w (some ⟨b, off, none⟩) L) :
    Calls Tryz.prog 112 #[.slice (some ⟨b, off, none⟩) L.length c] w fun e w' => ∃ v', e = .returned v' ∧ Smp.Own w' w.heap.size v' L ∧ Below w.heap.size w w' := by
  obtain ⟨i0, hi, hz0, hz1, hz2⟩ := info_parts infoS2
  have HN := hid (Smp.flat_cells hr)
  have H1 := hid (Smp.flat_oneCell L)
  clear hr
  go_enter Tryz.func112, Tryz.ntmps112
  go_wp2_with (at_builtin; refine wpList_append_own _ rfl (.tmp 4) (.tmp 5) 78 rfl w.heap.size 119 i0 (.agg #[.int .i64 0, .int .i64 0]) 2 16 Tryz.underlying78 hi hz0 hz1 hz2 rfl (by decide) _ _ _ rfl (World.ownsRow_nil w w.heap.size 119 2) ⟨b, off, none⟩ L.length c (Smp.flat L) rfl (Smp.flat_len L) HN.out H1.out ?d3 ?d4 ?d5 ?_)
  case d3 => unfold maxLen; omega
  case d4 => omega
  case d5 => exact Nat.le_refl _
  intro v1 w3 hown1 hgr1 _
  go_wp2
  go_ret
  refine ⟨v1, rfl, ?_, ?_⟩
  · unfold Smp.Own; simpa using hown1
  · exact (Below.refl _ w).grown hgr1 (Nat.le_refl _) (by intro k hk; simp [Value.ownBlock] at hk)
set_option maxRecDepth 10000 in
set_option maxHeartbeats 4000000 in
theorem f108 (a : Option Addr) (n c : Nat) (qs : List Q) (w : World) (hn : qs.length = n) (hb : n ≤ 1048576) (hr : HasQ w a qs) (hne : ∀ i, i < n → (qs.getD i q0).l ≠ [] ∧ (qs.getD i q0).s ≠ []) (hz : SmlQ qs) :
    Calls Tryz.prog 108 #[.slice a n c] w fun e w' => ∃ a' c' R, e = .returned (.slice a' n c') ∧ Hid (OwnO w.heap.size a' n c' R w') ∧ Hid (Same n qs R) ∧ Below w.heap.size w w' := by
  obtain ⟨i0, hi, hz0, hz1, hz2⟩ := info_parts infoQ2
  have HN := hid hn
  have HR := hid hr
  have HZ := hid hz
  have HNe := hid hne
  clear hn hr hz hne
  go_enter Tryz.func108, Tryz.ntmps108
  go_wp2
  go_loopw [3, 8] (fun so si wr => ∃ (k c' : Nat) (a' : Option Addr) (R : List Q), k ≤ n ∧ si = .int .i64 k ∧ so = .slice a' k c' ∧ Hid (OwnO w.heap.size a' k c' R wr) ∧ Hid (Same k qs R) ∧ Hid (Below w.heap.size w wr)) (fun _ si _ => n - (intOf si).toNat)
  case atStart => exact ⟨0, 0, none, [], Nat.zero_le _, rfl, rfl, OwnO.nil _ _, fun i hi => by omega, Below.refl _ _⟩
  case round =>
    obtain ⟨k, c', a', R, hk, rfl, rfl, HO, HSm, HX⟩ := hrel
    by_cases hlt : k < n
    rotate_left
    · obtain rfl : k = n := by omega
      go_wp2
      go_ret
      exact ⟨a', c', R, rfl, HO, HSm, HX.out⟩
    obtain ⟨b, off, rfl, hbl, c0, c1, t1, t2⟩ := (HR.out.below HX.out).at2 k (by rw [HN.out]; exact hlt)
    have HNq := hid (HNe.out k hlt)
    have HZq := hid (HZ.out k (by rw [HN.out]; exact hlt))
    have HQk : Hid (∀ q', pl q' = pl (qs.getD k q0) → Same (k + 1) qs (R ++ [q'])) := by
      intro q' he i hi
      rw [getD_snoc, HO.out.len]
      by_cases e : i = k
      · rw [if_pos e, e]; exact he
      · rw [if_neg e]; exact HSm.out i (by omega)
    generalize qs.getD k q0 = q at *
    have i1 : (k : Int) < (n : Int) := by omega
    have HW0 := hid ((Below.refl wr.heap.size wr).alloc (Nat.le_refl _) (.cells #[.slice q.a q.l.length q.c, .slice q.b q.s.length q.d] 80))
    have HBx := hid (heap_alloc_new wr (.cells #[.slice q.a q.l.length q.c, .slice q.b q.s.length q.d] 80))
    obtain ⟨bl, ol, hql⟩ : ∃ b o, q.a = some ⟨b, o, none⟩ := by
      rcases t1 with h | ⟨b, o, h, _⟩
      · exact absurd h HNq.out.1
      · exact ⟨b, o, h⟩
    obtain ⟨bs, os, hqs⟩ : ∃ b o, q.b = some ⟨b, o, none⟩ := by
      rcases t2 with h | ⟨b, o, h, _⟩
      · exact absurd h HNq.out.2
      · exact ⟨b, o, h⟩
    have HT1 := hid (t1.below HW0.out)
    have HT2 := hid (t2.below HW0.out)
    obtain ⟨W, hW⟩ : ∃ W, W = wr.alloc (.cells #[.slice q.a q.l.length q.c, .slice q.b q.s.length q.d] 80) := ⟨_, rfl⟩
    rw [← hW] at HW0 HBx HT1 HT2
    have hd2 : Below W.heap.size W W.drew := (Below.refl _ _).drew
    have hlp : 0 < q.l.length := List.length_pos_iff.2 HNq.out.1
    have hsp : 0 < q.s.length := List.length_pos_iff.2 HNq.out.2
    have hl1 : q.l.length ≤ 1048576 := HZq.out.1
    have hs1 : q.s.length ≤ 1048576 := HZq.out.2
    have hwW : wr.heap.size ≤ W.heap.size := HW0.out.size
    have hX0 : w.heap.size ≤ wr.heap.size := HX.out.size
    have HC1 : Hid (Calls Tryz.prog 111 #[.slice q.a q.l.length q.c] W.drew fun e w' => ∃ v', e = .returned v' ∧ OwnL w' W.drew.heap.size v' q.l ∧ Below W.drew.heap.size W.drew w') := by
      have h := HT1.out.below hd2
      rw [hql] at h ⊢
      exact f111 bl ol q.c q.l W.drew hl1 h
    have HC2 : Hid (∀ x, Below W.heap.size W x → Calls Tryz.prog 112 #[.slice q.b q.s.length q.d] x fun e w' => ∃ v', e = .returned v' ∧ Smp.Own w' x.heap.size v' q.s ∧ Below x.heap.size x w') := by
      intro x hx
      have h := HT2.out.below hx
      rw [hqs] at h ⊢
      exact f112 bs os q.d q.s x hs1 h
    clear t1 t2 hbl hql hqs
    go_wp2_with fail
    rw [← hW]
    clear hW c0 c1
    generalize hB : wr.heap.size = B at *
    refine wp_region_held_drew (S := fun x => SQ q B x) rfl (two (kept HBx.out hd2)) (fun hHeld => ?_)
    refine tkH 0 (some 12) (.slice a' k c') rfl ?_
    simp only [Act.put, zzA, zzB, zzC]
    refine tkH 1 (some 13) (.pointer (some ⟨B, 0, none⟩)) rfl ?_
    simp only [Act.put, zzA, zzB, zzC]
    refine tkH 2 (some 14) (.slice q.a q.l.length q.c) rfl ?_
    simp only [Act.put, zzA, zzB, zzC]
    refine tkH 4 (some 16) (.pointer (some ⟨B, 1, none⟩)) rfl ?_
    simp only [Act.put, zzA, zzB, zzC]
    refine tkH 5 (some 17) (.slice q.b q.s.length q.d) rfl ?_
    simp only [Act.put, zzA, zzB, zzC]
    refine wpAnyH_ready (rs := [3]) (by kernel_rfl) (by simp) (AllReadyH.cons (o := { dst := some 15, op := _, type := _, pos := _, after := _, guard := _ }) rfl ?_ AllReadyH.nil)
    intro K1 hK1
    go_simp
    go_wp2_with (go_at_call 111; refine HC1.out.mono ?_; rintro e w4 ⟨v4, rfl, ho4, hb4⟩; have hw4 : Below W.heap.size W w4 := hd2.trans (hb4.mono hd2.size))
    refine hK1.out _ _ (two (kept HBx.out hw4)) (fun _ => ?_)
    clear hK1 K1
    have HL4 := hid ho4
    clear ho4 hb4 hHeld
    refine wpAnyH_ready (rs := [6]) (by kernel_rfl) (by simp) (AllReadyH.cons (o := { dst := some 18, op := _, type := _, pos := _, after := _, guard := _ }) rfl ?_ AllReadyH.nil)
    intro K2 hK2
    go_simp
    go_wp2_with (go_at_call 112; refine (HC2.out w4 hw4).mono ?_; rintro e w5 ⟨v5, rfl, ho5, hb5⟩; have hw5 : Below W.heap.size W w5 := hw4.trans (hb5.mono hw4.size))
    refine hK2.out _ _ (two (kept HBx.out hw5)) (fun _ => ?_)
    clear hK2 K2
    obtain ⟨ga, ca, rfl⟩ := own_formC HL4.out hlp
    obtain ⟨gb, cb, rfl⟩ := own_formC ho5 hsp
    have HL5 := hid (own_below HL4.out hb5)
    have HS5 := hid ho5
    have hga : W.heap.size ≤ ga ∧ ga < w4.heap.size := ⟨Nat.le_trans hd2.size (HL4.out.lt ga rfl).1, (HL4.out.lt ga rfl).2⟩
    have hgb : w4.heap.size ≤ gb := (ho5.lt gb rfl).1
    have HW5 : Hid (Below B wr w5) := HW0.out.trans (hw5.mono hwW)
    have HX5 : Hid (Below w.heap.size w w5) := HX.out.trans (HW5.out.mono hX0)
    clear HL4 ho5 hb5
    obtain ⟨q', hq'⟩ : ∃ q' : Q, q' = ⟨q.l, some ⟨ga, 0, none⟩, ca, q.s, some ⟨gb, 0, none⟩, cb⟩ := ⟨_, rfl⟩
    have HQ5 : Hid (Own2 w.heap.size q' w5 ∧ B ≤ blk q'.a ∧ B ≤ blk q'.b ∧ pl q' = pl q ∧ cl q' = [.slice (some ⟨ga, 0, none⟩) q.l.length ca, .slice (some ⟨gb, 0, none⟩) q.s.length cb]) := by
      rw [hq']
      exact ⟨⟨rfl, rfl, own_base HL5.out (by have := hd2.size; omega), own_base HS5.out (by have := hw4.size; omega), (by show ga ≠ gb; omega)⟩, (show B ≤ ga by omega), (show B ≤ gb by have := hw4.size; omega), rfl, rfl⟩
    clear hq' HL5 HS5
    refine tkH 7 (some 19) (.agg #[.slice (some ⟨ga, 0, none⟩) q.l.length ca, .slice (some ⟨gb, 0, none⟩) q.s.length cb]) rfl ?_
    simp only [Act.put, zzA, zzB, zzC]
    have hba := (Below.refl w5.heap.size w5).alloc (Nat.le_refl _) (.cells #[.slice (some ⟨ga, 0, none⟩) q.l.length ca, .slice (some ⟨gb, 0, none⟩) q.s.length cb] 80)
    have hwa := hw5.trans (hba.mono hw5.size)
    refine wpAnyH_ready (rs := [8]) (by kernel_rfl) (by simp) (AllReadyH.cons (o := { dst := some 20, op := _, type := _, pos := _, after := _, guard := _ }) rfl ?_ AllReadyH.nil)
    intro K3 hK3
    go_simp
    refine hK3.out _ _ (two (kept HBx.out hwa)) (fun _ => ?_)
    clear hK3 K3
    try simp only [Act.put, zzA, zzB, zzC]
    have HO5 : Hid (OwnO w.heap.size a' k c' R w5) := HO.out.below (by rw [hB]; exact HW5.out)
    have HOlt : Hid (∀ g, (Value.slice a' k c').ownBlock = some g → w.heap.size ≤ g ∧ g < B) := fun g hg => by have := HO.out.row.lt g hg; rw [hB] at this; exact this
    refine wpAnyH_ready (rs := [9]) (by kernel_rfl) (by simp) (AllReadyH.cons (o := { dst := some 21, op := _, type := _, pos := _, after := _, guard := _ }) rfl ?_ AllReadyH.nil)
    intro K4 hK4
    refine step_append_at rfl (.tmp 12) (.tmp 20) 33 rfl w.heap.size 80 i0 (.agg #[.slice none 0 0, .slice none 0 0]) 2 48 Tryz.underlying33 hi hz0 hz1 hz2 rfl (by decide) _ _ _ _ rfl (HO5.out.row.alloc _) ⟨w5.heap.size, 0, none⟩ 1 1 [.slice (some ⟨ga, 0, none⟩) q.l.length ca, .slice (some ⟨gb, 0, none⟩) q.s.length cb] rfl rfl (Smp.two_new w5 _ _ _) (by intro u hu; simp at hu; rcases hu with rfl | rfl <;> rfl) (by unfold maxLen; omega) (by omega) (by have := HX5.out.size; simp; omega) ?_
    intro v8 w8 hown8 hgr8 hat8
    obtain ⟨a8, c8, rfl⟩ := own_form hown8
    have hby : w8.heap[B]? = some (.cells #[.slice q.a q.l.length q.c, .slice q.b q.s.length q.d] 80) := (hgr8.block _ (lt_at (kept HBx.out hwa)) (fun e => by have := (HOlt.out _ e.symm).2; omega)).trans (kept HBx.out hwa)
    refine hK4.out _ _ (two hby) (fun _ => ?_)
    clear hK4 K4
    simp only [Act.put, zzA, zzB, zzC]
    refine tkH 10 (some 3) (.slice a8 (k + 1) c8) rfl ?_
    simp only [Act.put, zzA, zzB, zzC]
    refine wpAnyH_done (by kernel_rfl) ?_ _
    have HX8 := hid ((HX5.out.alloc HX5.out.size (.cells #[.slice (some ⟨ga, 0, none⟩) q.l.length ca, .slice (some ⟨gb, 0, none⟩) q.s.length cb] 80)).grown hgr8 (by have := HX5.out.size; simp; omega) (fun j hj => (HOlt.out j hj).1))
    have HO8 : Hid (OwnO w.heap.size a8 (k + 1) c8 (R ++ [q']) w8) := by
      refine HO.out.push (by rw [hB]; exact HW5.out.trans (hba.mono (by have := HW5.out.size; omega))) (HQ5.out.1.below hba) (by rw [hB]; exact HQ5.out.2.1) (by rw [hB]; exact HQ5.out.2.2.1) hgr8 ?_ hat8
      have e : flat (R ++ [q']) = flat R ++ [.slice (some ⟨ga, 0, none⟩) q.l.length ca, .slice (some ⟨gb, 0, none⟩) q.s.length cb] := by
        rw [flat_append]
        show flat R ++ (cl q' ++ []) = _
        rw [HQ5.out.2.2.2.2, List.append_nil]
      rw [e]
      exact hown8
    have HS8 := hid (HQk.out q' HQ5.out.2.2.2.1)
    clear hown8 hgr8 hat8 hby hwa hba hw5 hw4
    go_wp2
    go_roundw
    case rel => exact ⟨k + 1, c8, a8, R ++ [q'], by omega, by go_num, rfl, HO8, HS8, HX8⟩
    case measure => simp [intOf]; omega
end Go.Proofs.YtjhdmghpklagkaaGreat.Srs
