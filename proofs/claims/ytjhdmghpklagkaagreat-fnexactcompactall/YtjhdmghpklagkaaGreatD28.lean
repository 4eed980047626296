import Derived.Test.YtjhdmghpklagkaaGreatRows
import Derived.Test.YtjhdmghpklagkaaGreatD07
import Derived.WalkKit
import Derived.ProofKit
import Derived.Below
import Derived.Laws.CopyRow
import Derived.Test.YtjhdmghpklagkaaGreatD23
import Derived.Test.YtjhdmghpklagkaaGreatD21
namespace Go.Proofs.YtjhdmghpklagkaaGreat.Cpy
open Go.RowKit

theorem run_copy_n {P : Program} (w : World) (dT sT ty elem : TypeId) (i : TypeInfo) (z : Nat) (g n dCap : Nat) (a : Addr) (sCap : Nat) (cur : Array Value) (t : TypeId) (cs : List Value)
    (hu : P.underlying dT = some (.slice elem)) (hi : P.info? elem = some i) (hz : i.size = z)
    (hg : w.heap[g]? = some (.cells cur t (0, 0))) (hn : cs.length = n * z)
    (hsrc : ∀ j v, cs[j]? = some v → w.cell? (a.add j) = some v) (hfit : cs.length ≤ cur.size) (h1 : ∀ v ∈ cs, v.oneCell' = true) :
    (Builtin.copy_ #[dT, sT] ty #[.slice (some ⟨g, 0, none⟩) n dCap, .slice (some a) n sCap]).run P w =
      .ok (goInt n) (w.setRow g (cs ++ cur.toList.drop cs.length).toArray) := by
  have hl := run_loadCells_list (P := P) w a cs hsrc
  have hst := run_storeCells_at P g 0 t cs 0 cur w hg (by simpa using hfit) h1
  simp only [Nat.zero_add, List.take_zero, List.nil_append, Nat.add_zero] at hst
  simp [Builtin.copy_, run_underlying hu, Builtin.lenOf, Builtin.firstCells, sizeOf, typeInfo, hi, hz, ← hn, hl, hst]
theorem run_copy_zero {P : Program} (w : World) (dT sT ty elem : TypeId) (i : TypeInfo) (dp sp : Option Addr) (dCap sCap : Nat)
    (hu : P.underlying dT = some (.slice elem)) (hi : P.info? elem = some i) :
    (Builtin.copy_ #[dT, sT] ty #[.slice dp 0 dCap, .slice sp 0 sCap]).run P w = .ok (goInt 0) w := by
  cases dp <;> cases sp <;> simp [Builtin.copy_, run_underlying hu, Builtin.lenOf, Builtin.firstCells, sizeOf, typeInfo, hi, storeCells, loadCells, loadCellsFrom]
theorem wpList_copy_all {P : Program} {w : World} {ops : Array Oper} {rest : List Oper} {o : Oper} {a : Act} {Q : Exit → Act → World → Prop} (hgd : o.guard = none) (d s : Operand) (dT sT : TypeId)
    (ho : o.op = .call { callee := .builtin .copy, args := #[d, s], argTypes := #[dT, sT] }) (elem : TypeId) (i : TypeInfo) (z : Nat) (hu : P.underlying dT = some (.slice elem)) (hi : P.info? elem = some i) (hz : i.size = z)
    (X g n : Nat) (xs : List Value) (hd : a.eval d = .slice (some ⟨g, 0, none⟩) n n) (hown : w.ownsRow X elem z (.slice (some ⟨g, 0, none⟩) n n) n xs)
    (sp : Option Addr) (sc : Nat) (hs : a.eval s = .slice sp n sc) (cs : List Value) (hn : cs.length = n * z) (hsrc : 0 < n → ∃ ad, sp = some ad ∧ ∀ j v, cs[j]? = some v → w.cell? (ad.add j) = some v) (h1 : ∀ v ∈ cs, v.oneCell' = true)
    (h : ∀ w', w'.ownsRow X elem z (.slice (some ⟨g, 0, none⟩) n n) n cs → w.grownBy w' (some g) → wpList P ops Q rest (a.put o.dst (goInt n)) w') :
    wpList P ops Q (o :: rest) a w := by
  refine wpList_plain hgd fun K hK => ?_
  by_cases h0 : n = 0
  · subst h0
    have hrun := run_copy_zero (P := P) w dT sT o.type elem i (some ⟨g, 0, none⟩) sp 0 sc hu hi
    unfold Oper.wp
    simp [execOp, ho, resolve, invoke, builtin, hd, hs, hrun, Result.andThen]
    have e1 : cs = [] := List.eq_nil_of_length_eq_zero (by simpa using hn)
    have e2 : xs = [] := List.eq_nil_of_length_eq_zero (by simpa using hown.1)
    subst e1 e2
    exact hK _ _ (h w hown ⟨rfl, rfl, rfl, Nat.le_refl _, fun _ _ _ => rfl⟩)
  · obtain ⟨ad, rfl, hc⟩ := hsrc (by omega)
    rcases hown.2 with ⟨h', _⟩ | ⟨g', cap', cur, h', hb, hg, hnc, hcm, hcs, htake⟩
    · simp at h'
    · simp only [Value.slice.injEq, Option.some.injEq, Addr.mk.injEq, and_true, true_and] at h'
      obtain ⟨rfl, rfl⟩ := h'
      have hrun := run_copy_n (P := P) w dT sT o.type elem i z g n n ad sc cur elem cs hu hi hz hg hn hc (by rw [hn, hcs]; exact Nat.le_refl _) h1
      unfold Oper.wp
      simp [execOp, ho, resolve, invoke, builtin, hd, hs, hrun, Result.andThen]
      have ed : cur.toList.drop cs.length = [] := List.drop_eq_nil_of_le (by rw [hn, Array.length_toList, hcs]; exact Nat.le_refl _)
      refine hK _ _ (h _ ⟨hn, .inr ⟨g, n, (cs ++ cur.toList.drop cs.length).toArray, rfl, hb, setRow_heap w g cur _ elem _ hg, hnc, hcm, ?_, ?_⟩⟩ ⟨rfl, rfl, rfl, by simp [World.setRow], fun k _ hk => setRow_other w g k _ (fun e => hk (by rw [e]))⟩)
      · rw [List.size_toArray, List.length_append, ed, hn]; simp
      · rw [List.toList_toArray, ed, List.append_nil, ← hn, List.take_length]
end Go.Proofs.YtjhdmghpklagkaaGreat.Cpy
namespace Go.Proofs.YtjhdmghpklagkaaGreat.Srs
open Go.RowKit
open Go.Proofs.YtjhdmghpklagkaaGreat.Lab (Lb HasL)
open Go.Proofs.YtjhdmghpklagkaaGreat.Smp (Sm HasS)

theorem q_cells {w : World} {b off : Nat} {L : List Q} (hr : HasQ w (some ⟨b, off, none⟩) L) : ∀ j u, (flat L)[j]? = some u → w.cell? ((⟨b, off, none⟩ : Addr).add j) = some u := by
  intro j u hj
  have hjl : j < L.length * 2 := by
    have := (List.getElem?_eq_some_iff.1 hj).1
    rw [flat_len] at this; exact this
  rcases hr with h | ⟨b', off', hbo, hb, hc⟩
  · rw [h] at hjl; simp at hjl
  · simp only [Option.some.injEq, Addr.mk.injEq, and_true] at hbo
    obtain ⟨rfl, rfl⟩ := hbo
    obtain ⟨i, hi⟩ : ∃ i, i = j / 2 := ⟨_, rfl⟩
    obtain ⟨g0, g1⟩ := flat_get L i (by omega)
    obtain ⟨c0, c1, _⟩ := hc i (by omega)
    rw [Smp.add_none]
    rcases (show j = i * 2 ∨ j = i * 2 + 1 by omega) with h | h
    · subst h
      rw [c0, ← g0]; exact hj
    · subst h
      rw [show off + (i * 2 + 1) = off + i * 2 + 1 from by omega, c1, ← g1]; exact hj
theorem own_formC {w : World} {base e size n : Nat} {v : Value} {xs : List Value} (h : w.ownsRow base e size v n xs) (hp : 0 < n) : ∃ g c, v = .slice (some ⟨g, 0, none⟩) n c := by
  rcases h.2 with ⟨_, h2⟩ | ⟨g, cap, cur, h1, _⟩
  · omega
  · exact ⟨g, cap, h1⟩
theorem q_one (L : List Q) : ∀ u ∈ flat L, u.oneCell' = true := by
  intro u hu
  unfold flat at hu
  obtain ⟨q, _, hq⟩ := List.mem_flatMap.1 hu
  simp [cl] at hq
  rcases hq with rfl | rfl <;> rfl
structure KinS (X g k : Nat) (d : List Q) (w : World) : Prop where
  len : d.length = k
  own : ∀ i, i < k → Own2 X (d.getD i q0) w
  off : ∀ i, i < k → g < blk (d.getD i q0).a
  lt : ∀ i, i < k → blk (d.getD i q0).a < blk (d.getD i q0).b
  dis : ∀ i j, i < j → j < k → blk (d.getD i q0).b < blk (d.getD j q0).a
theorem KinS.nil {X g : Nat} {w : World} : KinS X g 0 [] w := ⟨rfl, fun i hi => by omega, fun i hi => by omega, fun i hi => by omega, fun i j h1 h2 => by omega⟩
theorem KinS.below {X g k : Nat} {d : List Q} {w w' : World} (h : KinS X g k d w) (hb : Below w.heap.size w w') : KinS X g k d w' := ⟨h.len, fun i hi => (h.own i hi).below hb, h.off, h.lt, h.dis⟩
theorem KinS.grown {X g k : Nat} {d : List Q} {w w' : World} (h : KinS X g k d w) (hg : w.grownBy w' (some g)) : KinS X g k d w' := ⟨h.len, fun i hi => (h.own i hi).grown hg (by have := h.off i hi; omega) (by have := h.off i hi; have := h.lt i hi; omega), h.off, h.lt, h.dis⟩
theorem KinS.snoc {X g k : Nat} {d : List Q} {w : World} {q : Q} (h : KinS X g k d w) (h1 : Own2 X q w) (h2 : g < blk q.a) (h3 : blk q.a < blk q.b) (h4 : ∀ i, i < k → blk (d.getD i q0).b < blk q.a) : KinS X g (k + 1) (d ++ [q]) w := by
  have hl := h.len
  refine ⟨by simp [hl], fun i hi => ?_, fun i hi => ?_, fun i hi => ?_, fun i j hij hj => ?_⟩
  · rw [getD_snoc]
    by_cases e : i = d.length
    · rw [if_pos e]; exact h1
    · rw [if_neg e]; exact h.own i (by omega)
  · rw [getD_snoc]
    by_cases e : i = d.length
    · rw [if_pos e]; exact h2
    · rw [if_neg e]; exact h.off i (by omega)
  · rw [getD_snoc]
    by_cases e : i = d.length
    · rw [if_pos e]; exact h3
    · rw [if_neg e]; exact h.lt i (by omega)
  · rw [getD_snoc, getD_snoc, if_neg (show ¬ i = d.length by omega)]
    by_cases e : j = d.length
    · rw [if_pos e]; exact h4 i (by omega)
    · rw [if_neg e]; exact h.dis i j hij (by omega)
theorem KinS.apart {X g k : Nat} {d : List Q} {w : World} (h : KinS X g k d w) : Apart g k (fun i => d.getD i q0) := by
  refine ⟨fun i hi => ⟨by have := h.off i hi; omega, by have := h.off i hi; have := h.lt i hi; omega⟩, fun i j hi hj hne => ?_⟩
  have a1 := h.lt i hi
  have a2 := h.lt j hj
  rcases Nat.lt_or_gt_of_ne hne with e | e
  · have := h.dis i j e hj; refine ⟨?_, ?_, ?_, ?_⟩ <;> omega
  · have := h.dis j i e hi; refine ⟨?_, ?_, ?_, ?_⟩ <;> omega
theorem mix_get {d qs : List Q} {k j : Nat} (hd : d.length = k) (hj : k ≤ j) : (d ++ qs.drop k).getD j q0 = qs.getD j q0 := by
  rw [List.getD_eq_getElem?_getD, List.getD_eq_getElem?_getD, List.getElem?_append_right (by omega), List.getElem?_drop, show k + (j - d.length) = j by omega]
theorem mix_set {d qs : List Q} {k : Nat} {q : Q} (hd : d.length = k) (hk : k < qs.length) : (d ++ qs.drop k).set k q = (d ++ [q]) ++ qs.drop (k + 1) := by
  rw [List.set_append_right _ _ (by omega), hd, Nat.sub_self, List.drop_eq_getElem_cons hk, List.set_cons_zero, List.append_assoc]
  rfl
abbrev SQ (q : Q) (B : Nat) (x : World) : Prop := x.cell? ⟨B, 0, none⟩ = some (.slice q.a q.l.length q.c) ∧ x.cell? ⟨B, 1, none⟩ = some (.slice q.b q.s.length q.d)
set_option maxRecDepth 10000 in
set_option maxHeartbeats 4000000 in
theorem f117 (a : Option Addr) (n c : Nat) (qs : List Q) (w : World) (hn : qs.length = n) (hb : n ≤ 1048576) (hr : HasQ w a qs) (hne : ∀ i, i < n → (qs.getD i q0).l ≠ [] ∧ (qs.getD i q0).s ≠ []) (hz : SmlQ qs) (hcap : ∀ i, i < n → (qs.getD i q0).d = (qs.getD i q0).s.length) :
    Calls Tryz.prog 117 #[.slice a n c] w fun e w' => ∃ d : List Q, e = .returned (.slice (some ⟨w.heap.size, 0, none⟩) n n) ∧ Hid (OwnG w.heap.size w.heap.size n n d w') ∧ Hid (Same n qs d) ∧ Below w.heap.size w w' := by
  obtain ⟨i0, hi, hz0, hz1, hz2⟩ := info_parts infoQ
  have HN := hid hn
  have HR := hid hr
  have HZ := hid hz
  have HNe := hid hne
  have HCp := hid hcap
  clear hn hr hz hne hcap
  go_enter Tryz.func117, Tryz.ntmps117
  go_wp2_with (at_make; refine wpList_make_full _ rfl _ _ 33 rfl w.heap.size 80 i0 (.agg #[.slice none 0 0, .slice none 0 0]) 2 Tryz.underlying33 hi hz0 hz1 _ _ _ _ n rfl rfl rfl rfl ?b2 ?b3 (Nat.le_refl _) ?_)
  case b2 => rw [hz2]; omega
  case b3 => unfold maxLen; omega
  intro w0 hown0 hgrow0
  have HO0 := hid hown0
  have HB0 := hid ((Below.refl w.heap.size w).grown hgrow0 (Nat.le_refl _) (fun k h => by cases h))
  have HSr : Hid (0 < n → ∃ ad, a = some ad ∧ ∀ j v, (flat qs)[j]? = some v → w0.cell? (ad.add j) = some v) := by
    intro hp
    have hr0 := HR.out.below HB0.out
    obtain ⟨b, off, rfl, _⟩ := hr0.at2 0 (by rw [HN.out]; exact hp)
    exact ⟨_, rfl, q_cells hr0⟩
  clear hown0 hgrow0
  go_wp2_with (refine Cpy.wpList_copy_all rfl (.tmp 9) (.tmp 10) 33 33 rfl 80 i0 2 Tryz.underlying33 hi hz1 w.heap.size w.heap.size n _ rfl HO0.out a c rfl (flat qs) (by rw [flat_len, HN.out]) HSr.out (q_one qs) ?_)
  intro w1 hown1 hgr1
  have HO1 := hid hown1
  have HB1 := hid (HB0.out.grown hgr1 HB0.out.size (fun k hk => by cases hk; exact Nat.le_refl _))
  clear hown1 hgr1 HO0 HSr HB0
  go_wp2
  go_loopw [14] (fun si wr => ∃ (k : Nat) (d : List Q), k ≤ n ∧ si = .int .i64 k ∧ Hid (KinS w.heap.size w.heap.size k d wr) ∧ Hid (Same k qs d) ∧ Hid (wr.ownsRow w.heap.size 80 2 (.slice (some ⟨w.heap.size, 0, none⟩) n n) n (flat (d ++ qs.drop k))) ∧ Hid (Below w.heap.size w wr)) (fun si _ => n - (intOf si).toNat)
  case atStart => exact ⟨0, [], Nat.zero_le _, rfl, KinS.nil, fun i hi => by omega, HO1.out, HB1.out⟩
  case round =>
    obtain ⟨k, d, hk, rfl, HD, HSm, HO, HX⟩ := hrel
    by_cases hlt : k < n
    rotate_left
    · obtain rfl : k = n := by omega
      have HE : Hid (OwnG w.heap.size w.heap.size k k d wr) := by
        have h := HO.out
        rw [List.drop_eq_nil_of_le (by rw [HN.out]; exact Nat.le_refl _), List.append_nil] at h
        exact ⟨HD.out.len, h, HD.out.own, HD.out.apart⟩
      go_wp2
      go_ret
      exact ⟨d, rfl, HE, HSm, HX.out⟩
    obtain ⟨b, off, rfl, hbl, c0, c1, t1, t2⟩ := (HR.out.below HX.out).at2 k (by rw [HN.out]; exact hlt)
    have HNq := hid (HNe.out k hlt)
    have HCq := hid (HCp.out k hlt)
    have HZq := hid (HZ.out k (by rw [HN.out]; exact hlt))
    have HL : Hid ((d ++ qs.drop k).length = n) := by unfold Hid; have := HD.out.len; have := HN.out; simp; omega
    obtain ⟨y0, y1⟩ := flat_get (d ++ qs.drop k) k (by rw [HL.out]; exact hlt)
    rw [mix_get HD.out.len (Nat.le_refl _)] at y0 y1
    have HQk : Hid (∀ q', pl q' = pl (qs.getD k q0) → Same (k + 1) qs (d ++ [q'])) := by
      intro q' he i hi
      rw [getD_snoc, HD.out.len]
      by_cases e : i = k
      · rw [if_pos e, e]; exact he
      · rw [if_neg e]; exact HSm.out i (by omega)
    generalize qs.getD k q0 = q at *
    have i1 : (k : Int) < (n : Int) := by omega
    have hRow : w.heap.size < wr.heap.size := (HO.out.lt w.heap.size rfl).2
    have HW0 := hid ((Below.refl wr.heap.size wr).alloc (Nat.le_refl _) (.cells #[.slice q.a q.l.length q.c, .slice q.b q.s.length q.d] 80))
    have HBx := hid (heap_alloc_new wr (.cells #[.slice q.a q.l.length q.c, .slice q.b q.s.length q.d] 80))
    obtain ⟨bl, ol, hql⟩ : ∃ b o, q.a = some ⟨b, o, none⟩ := by
      rcases t1 with h | ⟨b, o, h, _⟩
      · exact absurd h HNq.out.1
      · exact ⟨b, o, h⟩
    obtain ⟨bs, os, hqs⟩ : ∃ b o, q.b = some ⟨b, o, none⟩ := by
      rcases t2 with h | ⟨b, o, h, _⟩
      · exact absurd h HNq.out.2
      · exact ⟨b, o, h⟩
    have HT1 := hid (t1.below HW0.out)
    have HT2 := hid (t2.below HW0.out)
    obtain ⟨W, hW⟩ : ∃ W, W = wr.alloc (.cells #[.slice q.a q.l.length q.c, .slice q.b q.s.length q.d] 80) := ⟨_, rfl⟩
    rw [← hW] at HW0 HBx HT1 HT2
    have hd2 : Below W.heap.size W W.drew := (Below.refl _ _).drew
    have hlp : 0 < q.l.length := List.length_pos_iff.2 HNq.out.1
    have hsp : 0 < q.s.length := List.length_pos_iff.2 HNq.out.2
    have hl1 : q.l.length ≤ 1048576 := HZq.out.1
    have hs1 : q.s.length ≤ 1048576 := HZq.out.2
    have hwW : wr.heap.size ≤ W.heap.size := HW0.out.size
    have HC1 : Hid (Calls Tryz.prog 132 #[.slice q.a q.l.length q.c] W.drew fun e w' => ∃ v', e = .returned v' ∧ OwnL w' W.drew.heap.size v' q.l ∧ Below W.drew.heap.size W.drew w') := by
      have h := HT1.out.below hd2
      rw [hql] at h ⊢
      exact f132 bl ol q.c q.l W.drew hl1 h
    have HC2 : Hid (∀ x, Below W.heap.size W x → Calls Tryz.prog 149 #[.slice q.b q.s.length q.d] x fun e w' => ∃ v', e = .returned v' ∧ Smp.Own w' x.heap.size v' q.s ∧ Below x.heap.size x w') := by
      intro x hx
      have h := HT2.out.below hx
      rw [hqs] at h
      rw [hqs, HCq.out]
      exact Smp.f149 q.s _ x hs1 (.inr ⟨hsp, bs, os, rfl, h⟩)
    clear t1 t2 hbl hql hqs
    go_wp2_with fail
    rw [← hW]
    clear hW c0 c1
    generalize hB : wr.heap.size = B at *
    refine wp_region_held_drew (S := fun x => SQ q B x) rfl (two (kept HBx.out hd2)) (fun hHeld => ?_)
    refine tkH 0 (some 19) (.slice (some ⟨w.heap.size, 0, none⟩) n n) rfl ?_
    simp only [Act.put, zzA, zzB, zzC]
    refine tkH 1 (some 20) (.int .i64 (k : Int)) rfl ?_
    simp only [Act.put, zzA, zzB, zzC]
    refine tkH 2 (some 21) (.slice (some ⟨w.heap.size, 0, none⟩) n n) rfl ?_
    simp only [Act.put, zzA, zzB, zzC]
    refine tkH 3 (some 22) (.int .i64 (k : Int)) rfl ?_
    simp only [Act.put, zzA, zzB, zzC]
    refine tkH 4 (some 23) (.pointer (some ⟨B, 0, none⟩)) rfl ?_
    simp only [Act.put, zzA, zzB, zzC]
    refine tkH 5 (some 24) (.slice q.a q.l.length q.c) rfl ?_
    simp only [Act.put, zzA, zzB, zzC]
    refine tkH 7 (some 26) (.pointer (some ⟨B, 1, none⟩)) rfl ?_
    simp only [Act.put, zzA, zzB, zzC]
    refine tkH 8 (some 27) (.slice q.b q.s.length q.d) rfl ?_
    simp only [Act.put, zzA, zzB, zzC]
    refine wpAnyH_ready (rs := [6]) (by kernel_rfl) (by simp) (AllReadyH.cons (o := { dst := some 25, op := _, type := _, pos := _, after := _, guard := _ }) rfl ?_ AllReadyH.nil)
    intro K1 hK1
    go_simp
    go_wp2_with (go_at_call 132; refine HC1.out.mono ?_; rintro e w4 ⟨v4, rfl, ho4, hb4⟩; have hw4 : Below W.heap.size W w4 := hd2.trans (hb4.mono hd2.size))
    refine hK1.out _ _ (two (kept HBx.out hw4)) (fun _ => ?_)
    clear hK1 K1
    have HL4 := hid ho4
    clear ho4 hb4 hHeld
    refine wpAnyH_ready (rs := [9]) (by kernel_rfl) (by simp) (AllReadyH.cons (o := { dst := some 28, op := _, type := _, pos := _, after := _, guard := _ }) rfl ?_ AllReadyH.nil)
    intro K2 hK2
    go_simp
    go_wp2_with (go_at_call 149; refine (HC2.out w4 hw4).mono ?_; rintro e w5 ⟨v5, rfl, ho5, hb5⟩; have hw5 : Below W.heap.size W w5 := hw4.trans (hb5.mono hw4.size))
    refine hK2.out _ _ (two (kept HBx.out hw5)) (fun _ => ?_)
    clear hK2 K2
    obtain ⟨ga, ca, rfl⟩ := own_formC HL4.out hlp
    obtain ⟨gb, cb, rfl⟩ := own_formC ho5 hsp
    have HL5 := hid (own_below HL4.out hb5)
    have HS5 := hid ho5
    have hga : W.heap.size ≤ ga ∧ ga < w4.heap.size := ⟨Nat.le_trans hd2.size (HL4.out.lt ga rfl).1, (HL4.out.lt ga rfl).2⟩
    have hgb : w4.heap.size ≤ gb := (ho5.lt gb rfl).1
    have HO5 := hid (own_below (own_below HO.out (hB ▸ HW0.out)) hw5)
    have HD5 := hid ((HD.out.below (hB ▸ HW0.out)).below hw5)
    clear HL4 ho5 hb5
    have z0 := (HO5.out.cellAt (k * 2) (by omega)).trans y0
    have f0 := HO5.out.frozenAt (k * 2)
    have hst := HO5.out.stored (k * 2) (.slice (some ⟨ga, 0, none⟩) q.l.length ca)
    have z1 : (w5.setCell ⟨w.heap.size, k * 2, none⟩ (.slice (some ⟨ga, 0, none⟩) q.l.length ca)).cell? ⟨w.heap.size, k * 2 + 1, none⟩ = some (.slice q.b q.s.length q.d) := by
      rw [hst.1.cellAt (k * 2 + 1) (by omega), List.getElem?_set_ne (by omega)]; exact y1
    have f1 := hst.1.frozenAt (k * 2 + 1)
    refine tkH 10 (some 29) (.pointer (some ⟨w.heap.size, k * 2, none⟩)) rfl ?_
    simp only [Act.put, zzA, zzB, zzC]
    refine tkH 11 (some 30) (.pointer (some ⟨w.heap.size, k * 2, none⟩)) rfl ?_
    simp only [Act.put, zzA, zzB, zzC]
    refine wpAnyH_ready (rs := [12]) (by kernel_rfl) (by simp) (AllReadyH.cons (o := { dst := none, op := _, type := _, pos := _, after := _, guard := _ }) rfl ?_ AllReadyH.nil)
    intro K3 hK3
    go_simp
    refine hK3.out _ _ (two (set_else (kept HBx.out hw5) (by simp only; omega))) (fun _ => ?_)
    clear hK3 K3
    refine tkH 13 (some 31) (.pointer (some ⟨w.heap.size, k * 2, none⟩)) rfl ?_
    simp only [Act.put, zzA, zzB, zzC]
    refine tkH 14 (some 32) (.pointer (some ⟨w.heap.size, k * 2 + 1, none⟩)) rfl ?_
    simp only [Act.put, zzA, zzB, zzC]
    refine wpAnyH_ready (rs := [15]) (by kernel_rfl) (by simp) (AllReadyH.cons (o := { dst := none, op := _, type := _, pos := _, after := _, guard := _ }) rfl ?_ AllReadyH.nil)
    intro K4 hK4
    go_simp
    refine hK4.out _ _ (two (set_else (set_else (kept HBx.out hw5) (by simp only; omega)) (by simp only; omega))) (fun _ => ?_)
    clear hK4 K4
    refine wpAnyH_done (by kernel_rfl) ?_ _
    have HE : Hid (∀ wz, wz = (w5.setCell ⟨w.heap.size, k * 2, none⟩ (.slice (some ⟨ga, 0, none⟩) q.l.length ca)).setCell ⟨w.heap.size, k * 2 + 1, none⟩ (.slice (some ⟨gb, 0, none⟩) q.s.length cb) → ∃ q' : Q, KinS w.heap.size w.heap.size (k + 1) (d ++ [q']) wz ∧ Same (k + 1) qs (d ++ [q']) ∧ wz.ownsRow w.heap.size 80 2 (.slice (some ⟨w.heap.size, 0, none⟩) n n) n (flat ((d ++ [q']) ++ qs.drop (k + 1))) ∧ Below w.heap.size w wz) := by
      rintro wz rfl
      have hst2 := hst.1.stored (k * 2 + 1) (.slice (some ⟨gb, 0, none⟩) q.s.length cb)
      have hX5 : Below w.heap.size w w5 := HX.out.trans ((HW0.out.trans (hw5.mono hwW)).mono (by omega))
      refine ⟨⟨q.l, some ⟨ga, 0, none⟩, ca, q.s, some ⟨gb, 0, none⟩, cb⟩, ?_, HQk.out _ rfl, ?_, (hX5.setCell (Nat.le_refl _) _).setCell (Nat.le_refl _) _⟩
      · have hq : Own2 w.heap.size ⟨q.l, some ⟨ga, 0, none⟩, ca, q.s, some ⟨gb, 0, none⟩, cb⟩ w5 := ⟨rfl, rfl, own_base HL5.out (by have := hd2.size; omega), own_base HS5.out (by have := hw4.size; omega), (by simp only [blk]; omega)⟩
        exact ((HD5.out.grown hst.2).grown hst2.2).snoc ((hq.grown hst.2 (by simp only [blk]; omega) (by simp only [blk]; omega)).grown hst2.2 (by simp only [blk]; omega) (by simp only [blk]; omega)) (by simp only [blk]; omega) (by simp only [blk]; omega) (fun i hi => by have := (HD.out.own i hi).hi; show blk (d.getD i q0).b < ga; omega)
      · rw [← mix_set HD.out.len (by rw [HN.out]; exact hlt), ← flat_set _ k _ (by rw [HL.out]; exact hlt)]; exact hst2.1
    clear hst z0 z1 f0 f1 HO5 HD5 HL5 HS5 hw4 hw5 HO HD HX HBx HT1 HT2 HC1 HC2 HW0 y0 y1
    go_wp2
    go_roundw
    case rel =>
      obtain ⟨q', e1, e2, e3, e4⟩ := HE.out _ rfl
      exact ⟨k + 1, d ++ [q'], by omega, by go_num, e1, e2, e3, e4⟩
    case measure => simp [intOf]; omega
end Go.Proofs.YtjhdmghpklagkaaGreat.Srs
namespace Go.Proofs.YtjhdmghpklagkaaGreat.Stn
open Go.RowKit
open Go.Proofs.YtjhdmghpklagkaaGreat.Lab (Lb HasL)
open Go.Proofs.YtjhdmghpklagkaaGreat.Srs (hid lt_at kept blk own_base own_below own_grown set_else OwnL own_formC)

theorem t_cells {w : World} {b off : Nat} {L : List T} (hr : HasT w (some ⟨b, off, none⟩) L) : ∀ j u, (flat L)[j]? = some u → w.cell? ((⟨b, off, none⟩ : Addr).add j) = some u := by
  intro j u hj
  have hjl : j < L.length * 3 := by
    have := (List.getElem?_eq_some_iff.1 hj).1
    rw [flat_len] at this; exact this
  rcases hr with h | ⟨b', off', hbo, hb, hc⟩
  · rw [h] at hjl; simp at hjl
  · simp only [Option.some.injEq, Addr.mk.injEq, and_true] at hbo
    obtain ⟨rfl, rfl⟩ := hbo
    obtain ⟨i, hi⟩ : ∃ i, i = j / 3 := ⟨_, rfl⟩
    obtain ⟨g0, g1, g2⟩ := flat_get L i (by omega)
    obtain ⟨⟨c0, c1, c2⟩, _⟩ := hc i (by omega)
    rw [Smp.add_none]
    rcases (show j = i * 3 ∨ j = i * 3 + 1 ∨ j = i * 3 + 2 by omega) with h | h | h
    · subst h
      rw [c0, ← g0]; exact hj
    · subst h
      rw [show off + (i * 3 + 1) = off + i * 3 + 1 from by omega, c1, ← g1]; exact hj
    · subst h
      rw [show off + (i * 3 + 2) = off + i * 3 + 2 from by omega, c2, ← g2]; exact hj
theorem t_one (L : List T) : ∀ u ∈ flat L, u.oneCell' = true := by
  intro u hu
  unfold flat at hu
  obtain ⟨q, _, hq⟩ := List.mem_flatMap.1 hu
  simp [cl] at hq
  rcases hq with rfl | rfl | rfl <;> rfl
theorem flat_set1 (L : List T) (i : Nat) (q : T) (hi : i < L.length) (h : q.f = (L.getD i t0).f ∧ q.t = (L.getD i t0).t) : (flat L).set (i * 3) (.slice q.a q.l.length q.c) = flat (L.set i q) := by
  obtain ⟨g0, g1, g2⟩ := flat_get L i hi
  rw [← flat_set L i q hi]
  have e1 : ((flat L).set (i * 3) (.slice q.a q.l.length q.c)).set (i * 3 + 1) (.int .i64 q.f) = (flat L).set (i * 3) (.slice q.a q.l.length q.c) := set_same (by rw [List.getElem?_set_ne (by omega), g1, h.1])
  rw [e1]
  exact (set_same (by rw [List.getElem?_set_ne (by omega), g2, h.2])).symm
theorem mixt_get {d ts : List T} {k j : Nat} (hd : d.length = k) (hj : k ≤ j) : (d ++ ts.drop k).getD j t0 = ts.getD j t0 := by
  rw [List.getD_eq_getElem?_getD, List.getD_eq_getElem?_getD, List.getElem?_append_right (by omega), List.getElem?_drop, show k + (j - d.length) = j by omega]
theorem mixt_set {d ts : List T} {k : Nat} {q : T} (hd : d.length = k) (hk : k < ts.length) : (d ++ ts.drop k).set k q = (d ++ [q]) ++ ts.drop (k + 1) := by
  rw [List.set_append_right _ _ (by omega), hd, Nat.sub_self, List.drop_eq_getElem_cons hk, List.set_cons_zero, List.append_assoc]
  rfl
theorem Owns.grown {X B k : Nat} {d : List T} {w w' : World} (h : Owns X B k d w) (hg : w.grownBy w' (some B)) : Owns X B k d w' := ⟨h.len, fun i hi => (h.own i hi).grown hg (by have := h.off i hi; omega), h.off, h.dis⟩
set_option maxRecDepth 10000 in
set_option maxHeartbeats 4000000 in
theorem f118 (a : Option Addr) (n c : Nat) (ts : List T) (w : World) (hn : ts.length = n) (hb : n ≤ 1048576) (hr : HasT w a ts) (hne : ∀ i, i < n → (ts.getD i t0).l ≠ []) (hz : SmlT ts) :
    Calls Tryz.prog 118 #[.slice a n c] w fun e w' => ∃ d : List T, e = .returned (.slice (some ⟨w.heap.size, 0, none⟩) n n) ∧ Hid (OwnT w.heap.size w.heap.size n d w') ∧ Hid (Same n ts d) ∧ Below w.heap.size w w' := by
  obtain ⟨i0, hi, hz0, hz1, hz2⟩ := info_parts infoT
  have HN := hid hn
  have HR := hid hr
  have HZ := hid hz
  have HNe := hid hne
  clear hn hr hz hne
  go_enter Tryz.func118, Tryz.ntmps118
  go_wp2_with (at_make; refine wpList_make_full _ rfl _ _ 34 rfl w.heap.size 94 i0 (.agg #[.slice none 0 0, .int .i64 0, .int .i64 0]) 3 Tryz.underlying34 hi hz0 hz1 _ _ _ _ n rfl rfl rfl rfl ?b2 ?b3 (Nat.le_refl _) ?_)
  case b2 => rw [hz2]; omega
  case b3 => unfold maxLen; omega
  intro w0 hown0 hgrow0
  have HO0 := hid hown0
  have HB0 := hid ((Below.refl w.heap.size w).grown hgrow0 (Nat.le_refl _) (fun k h => by cases h))
  have HSr : Hid (0 < n → ∃ ad, a = some ad ∧ ∀ j v, (flat ts)[j]? = some v → w0.cell? (ad.add j) = some v) := by
    intro hp
    have hr0 := HR.out.below HB0.out
    obtain ⟨b, off, rfl, _⟩ := hr0.at2 0 (by rw [HN.out]; exact hp)
    exact ⟨_, rfl, t_cells hr0⟩
  clear hown0 hgrow0
  go_wp2_with (refine Cpy.wpList_copy_all rfl (.tmp 9) (.tmp 10) 34 34 rfl 94 i0 3 Tryz.underlying34 hi hz1 w.heap.size w.heap.size n _ rfl HO0.out a c rfl (flat ts) (by rw [flat_len, HN.out]) HSr.out (t_one ts) ?_)
  intro w1 hown1 hgr1
  have HO1 := hid hown1
  have HB1 := hid (HB0.out.grown hgr1 HB0.out.size (fun k hk => by cases hk; exact Nat.le_refl _))
  clear hown1 hgr1 HO0 HSr HB0
  go_wp2
  go_loopw [14] (fun si wr => ∃ (k : Nat) (d : List T), k ≤ n ∧ si = .int .i64 k ∧ Hid (Owns w.heap.size w.heap.size k d wr) ∧ Hid (Same k ts d) ∧ Hid (wr.ownsRow w.heap.size 94 3 (.slice (some ⟨w.heap.size, 0, none⟩) n n) n (flat (d ++ ts.drop k))) ∧ Hid (Below w.heap.size w wr)) (fun si _ => n - (intOf si).toNat)
  case atStart => exact ⟨0, [], Nat.zero_le _, rfl, Owns.nil, fun i hi => by omega, HO1.out, HB1.out⟩
  case round =>
    obtain ⟨k, d, hk, rfl, HD, HSm, HO, HX⟩ := hrel
    by_cases hlt : k < n
    rotate_left
    · obtain rfl : k = n := by omega
      have HE : Hid (OwnT w.heap.size w.heap.size k d wr) := by
        have h := HO.out
        rw [List.drop_eq_nil_of_le (by rw [HN.out]; exact Nat.le_refl _), List.append_nil] at h
        exact ⟨h, HD.out⟩
      go_wp2
      go_ret
      exact ⟨d, rfl, HE, HSm, HX.out⟩
    obtain ⟨b, off, rfl, hbl, ⟨c0, c1, c2⟩, t1⟩ := (HR.out.below HX.out).at2 k (by rw [HN.out]; exact hlt)
    have HNq := hid (HNe.out k hlt)
    have HZq := hid (HZ.out k (by rw [HN.out]; exact hlt))
    have HL : Hid ((d ++ ts.drop k).length = n) := by unfold Hid; have := HD.out.len; have := HN.out; simp; omega
    obtain ⟨y0, y1, y2⟩ := flat_get (d ++ ts.drop k) k (by rw [HL.out]; exact hlt)
    have HMx := hid (mixt_get (d := d) (ts := ts) HD.out.len (Nat.le_refl k))
    rw [HMx.out] at y0 y1 y2
    have HQk : Hid (∀ q', pl q' = pl (ts.getD k t0) → Same (k + 1) ts (d ++ [q'])) := by
      intro q' he i hi
      rw [getD_snoc, HD.out.len]
      by_cases e : i = k
      · rw [if_pos e, e]; exact he
      · rw [if_neg e]; exact HSm.out i (by omega)
    generalize ts.getD k t0 = q at *
    have i1 : (k : Int) < (n : Int) := by omega
    have hRow : w.heap.size < wr.heap.size := (HO.out.lt w.heap.size rfl).2
    have HW0 := hid ((Below.refl wr.heap.size wr).alloc (Nat.le_refl _) (.cells #[.slice q.a q.l.length q.c, .int .i64 q.f, .int .i64 q.t] 94))
    have HBx := hid (heap_alloc_new wr (.cells #[.slice q.a q.l.length q.c, .int .i64 q.f, .int .i64 q.t] 94))
    obtain ⟨bl, ol, hql⟩ : ∃ b o, q.a = some ⟨b, o, none⟩ := by
      rcases t1 with h | ⟨b, o, h, _⟩
      · exact absurd h HNq.out
      · exact ⟨b, o, h⟩
    have HT1 := hid (t1.below HW0.out)
    have hlp : 0 < q.l.length := List.length_pos_iff.2 HNq.out
    have hl1 : q.l.length ≤ 1048576 := HZq.out
    have HC1 : Hid (Calls Tryz.prog 132 #[.slice q.a q.l.length q.c] (wr.alloc (.cells #[.slice q.a q.l.length q.c, .int .i64 q.f, .int .i64 q.t] 94)) fun e w' => ∃ v', e = .returned v' ∧ OwnL w' (wr.alloc (.cells #[.slice q.a q.l.length q.c, .int .i64 q.f, .int .i64 q.t] 94)).heap.size v' q.l ∧ Below (wr.alloc (.cells #[.slice q.a q.l.length q.c, .int .i64 q.f, .int .i64 q.t] 94)).heap.size (wr.alloc (.cells #[.slice q.a q.l.length q.c, .int .i64 q.f, .int .i64 q.t] 94)) w') := by
      have h := HT1.out
      rw [hql] at h
      have h2 := Srs.f132 bl ol q.c q.l _ hl1 h
      rw [← hql] at h2
      exact h2
    clear t1 hbl hql
    go_wp2_with fail
    refine HC1.out.mono ?_
    rintro e w4 ⟨v4, rfl, ho4, hb4⟩
    obtain ⟨ga, ca, rfl⟩ := own_formC ho4 hlp
    have HL4 := hid ho4
    have hwr : wr.heap.size < (wr.alloc (.cells #[.slice q.a q.l.length q.c, .int .i64 q.f, .int .i64 q.t] 94)).heap.size := by simp
    have hga : wr.heap.size < ga := Nat.lt_of_lt_of_le hwr (ho4.lt ga rfl).1
    have HO4 := hid (own_below (own_below HO.out HW0.out) hb4)
    have HD4 := hid ((HD.out.below HW0.out).below hb4)
    have HX4 : Hid (Below w.heap.size w w4) := HX.out.trans ((HW0.out.trans (hb4.mono (Nat.le_of_lt hwr))).mono HX.out.size)
    have z0 := (HO4.out.cellAt (k * 3) (by omega)).trans y0
    have f0 := HO4.out.frozenAt (k * 3)
    have HE : Hid (∀ wz, wz = w4.setCell ⟨w.heap.size, k * 3, none⟩ (.slice (some ⟨ga, 0, none⟩) q.l.length ca) → ∃ q' : T, Owns w.heap.size w.heap.size (k + 1) (d ++ [q']) wz ∧ Same (k + 1) ts (d ++ [q']) ∧ wz.ownsRow w.heap.size 94 3 (.slice (some ⟨w.heap.size, 0, none⟩) n n) n (flat ((d ++ [q']) ++ ts.drop (k + 1))) ∧ Below w.heap.size w wz) := by
      rintro wz rfl
      have hst := HO4.out.stored (k * 3) (.slice (some ⟨ga, 0, none⟩) q.l.length ca)
      refine ⟨⟨q.l, some ⟨ga, 0, none⟩, ca, q.f, q.t⟩, ?_, HQk.out _ rfl, ?_, HX4.out.setCell (Nat.le_refl _) _⟩
      · have hq : Own1 w.heap.size ga ⟨q.l, some ⟨ga, 0, none⟩, ca, q.f, q.t⟩ w4 := ⟨rfl, own_base HL4.out (by simp; omega)⟩
        exact (HD4.out.grown hst.2).snoc (hq.grown hst.2 (by omega)) (show w.heap.size < ga by omega) (fun i hi => by have := (HD.out.own i hi).lts; show blk (d.getD i t0).a < ga; omega)
      · rw [← mixt_set HD.out.len (by rw [HN.out]; exact hlt), ← flat_set1 _ k _ (by rw [HL.out]; exact hlt) (by rw [HMx.out]; exact ⟨rfl, rfl⟩)]; exact hst.1
    clear ho4 hb4 HL4 HO4 HD4 HX4 HO HD HX HBx HT1 HC1 HW0 y0 y1 y2 c0 c1 c2
    go_wp2
    go_roundw
    case rel =>
      obtain ⟨q', e1, e2, e3, e4⟩ := HE.out _ rfl
      exact ⟨k + 1, d ++ [q'], by omega, by go_num, e1, e2, e3, e4⟩
    case measure => simp [intOf]; omega
end Go.Proofs.YtjhdmghpklagkaaGreat.Stn
