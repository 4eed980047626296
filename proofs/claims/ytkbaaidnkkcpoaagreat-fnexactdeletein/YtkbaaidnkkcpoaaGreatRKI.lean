/- The builtin copy, of elements of more than one cell, into a row of the call's own. -/
import Derived.Test.YtkbaaidnkkcpoaaGreatRows
import Derived.WalkKit
import Derived.ProofKit
import Derived.Below
import Derived.Laws.CopyRow
import Derived.Test.YtkbaaidnkkcpoaaGreatRGB
import Derived.Test.YtkbaaidnkkcpoaaGreatRGM
import Derived.Test.YtkbaaidnkkcpoaaGreatRGK
namespace Go.Proofs.YtkbaaidnkkcpoaaGreat.Cpy
open Go.RowKit

theorem run_copy_n {P : Program} (w : World) (dT sT ty elem : TypeId) (i : TypeInfo) (z : Nat) (g n dCap : Nat) (a : Addr) (sCap : Nat) (cur : Array Value) (t : TypeId) (cs : List Value)
    (hu : P.underlying dT = some (.slice elem)) (hi : P.info? elem = some i) (hz : i.size = z)
    (hg : w.heap[g]? = some (.cells cur t (0, 0))) (hn : cs.length = n * z)
    (hsrc : ∀ j v, cs[j]? = some v → w.cell? (a.add j) = some v) (hfit : cs.length ≤ cur.size) (h1 : ∀ v ∈ cs, v.oneCell' = true) :
    (Builtin.copy_ #[dT, sT] ty #[.slice (some ⟨g, 0, none⟩) n dCap, .slice (some a) n sCap]).run P w =
      .ok (goInt n) (w.setRow g (cs ++ cur.toList.drop cs.length).toArray) := by
  have hl := run_loadCells_list (P := P) w a cs hsrc
  have hst := run_storeCells_at P g 0 t cs 0 cur w hg (by simpa using hfit) h1
  simp only [Nat.zero_add, List.take_zero, List.nil_append, Nat.add_zero] at hst
  simp [Builtin.copy_, run_underlying hu, Builtin.lenOf, Builtin.firstCells, sizeOf, typeInfo, hi, hz, ← hn, hl, hst]
theorem run_copy_zero {P : Program} (w : World) (dT sT ty elem : TypeId) (i : TypeInfo) (dp sp : Option Addr) (dCap sCap : Nat)
    (hu : P.underlying dT = some (.slice elem)) (hi : P.info? elem = some i) :
    (Builtin.copy_ #[dT, sT] ty #[.slice dp 0 dCap, .slice sp 0 sCap]).run P w = .ok (goInt 0) w := by
  cases dp <;> cases sp <;> simp [Builtin.copy_, run_underlying hu, Builtin.lenOf, Builtin.firstCells, sizeOf, typeInfo, hi, storeCells, loadCells, loadCellsFrom]
theorem wpList_copy_all {P : Program} {w : World} {ops : Array Oper} {rest : List Oper} {o : Oper} {a : Act} {Q : Exit → Act → World → Prop} (hgd : o.guard = none) (d s : Operand) (dT sT : TypeId)
    (ho : o.op = .call { callee := .builtin .copy, args := #[d, s], argTypes := #[dT, sT] }) (elem : TypeId) (i : TypeInfo) (z : Nat) (hu : P.underlying dT = some (.slice elem)) (hi : P.info? elem = some i) (hz : i.size = z)
    (X g n : Nat) (xs : List Value) (hd : a.eval d = .slice (some ⟨g, 0, none⟩) n n) (hown : w.ownsRow X elem z (.slice (some ⟨g, 0, none⟩) n n) n xs)
    (sp : Option Addr) (sc : Nat) (hs : a.eval s = .slice sp n sc) (cs : List Value) (hn : cs.length = n * z) (hsrc : 0 < n → ∃ ad, sp = some ad ∧ ∀ j v, cs[j]? = some v → w.cell? (ad.add j) = some v) (h1 : ∀ v ∈ cs, v.oneCell' = true)
    (h : ∀ w', w'.ownsRow X elem z (.slice (some ⟨g, 0, none⟩) n n) n cs → w.grownBy w' (some g) → wpList P ops Q rest (a.put o.dst (goInt n)) w') :
    wpList P ops Q (o :: rest) a w := by
  refine wpList_plain hgd fun K hK => ?_
  by_cases h0 : n = 0
  · subst h0
    have hrun := run_copy_zero (P := P) w dT sT o.type elem i (some ⟨g, 0, none⟩) sp 0 sc hu hi
    unfold Oper.wp
    simp [execOp, ho, resolve, invoke, builtin, hd, hs, hrun, Result.andThen]
    have e1 : cs = [] := List.eq_nil_of_length_eq_zero (by simpa using hn)
    have e2 : xs = [] := List.eq_nil_of_length_eq_zero (by simpa using hown.1)
    subst e1 e2
    exact hK _ _ (h w hown ⟨rfl, rfl, rfl, Nat.le_refl _, fun _ _ _ => rfl⟩)
  · obtain ⟨ad, rfl, hc⟩ := hsrc (by omega)
    rcases hown.2 with ⟨h', _⟩ | ⟨g', cap', cur, h', hb, hg, hnc, hcm, hcs, htake⟩
    · simp at h'
    · simp only [Value.slice.injEq, Option.some.injEq, Addr.mk.injEq, and_true, true_and] at h'
      obtain ⟨rfl, rfl⟩ := h'
      have hrun := run_copy_n (P := P) w dT sT o.type elem i z g n n ad sc cur elem cs hu hi hz hg hn hc (by rw [hn, hcs]; exact Nat.le_refl _) h1
      unfold Oper.wp
      simp [execOp, ho, resolve, invoke, builtin, hd, hs, hrun, Result.andThen]
      have ed : cur.toList.drop cs.length = [] := List.drop_eq_nil_of_le (by rw [hn, Array.length_toList, hcs]; exact Nat.le_refl _)
      refine hK _ _ (h _ ⟨hn, .inr ⟨g, n, (cs ++ cur.toList.drop cs.length).toArray, rfl, hb, setRow_heap w g cur _ elem _ hg, hnc, hcm, ?_, ?_⟩⟩ ⟨rfl, rfl, rfl, by simp [World.setRow], fun k _ hk => setRow_other w g k _ (fun e => hk (by rw [e]))⟩)
      · rw [List.size_toArray, List.length_append, ed, hn]; simp
      · rw [List.toList_toArray, ed, List.append_nil, ← hn, List.take_length]
end Go.Proofs.YtkbaaidnkkcpoaaGreat.Cpy
/- Series copied: the program's copySeries. -/
namespace Go.Proofs.YtkbaaidnkkcpoaaGreat.Srs
open Go.RowKit
open Go.Proofs.YtkbaaidnkkcpoaaGreat.Lab (Lb HasL)
open Go.Proofs.YtkbaaidnkkcpoaaGreat.Smp (Sm HasS)

theorem q_cells {w : World} {b off : Nat} {L : List Q} (hr : HasQ w (some ⟨b, off, none⟩) L) : ∀ j u, (flat L)[j]? = some u → w.cell? ((⟨b, off, none⟩ : Addr).add j) = some u := by
  intro j u hj
  have hjl : j < L.length * 2 := by
    have := (List.getElem?_eq_some_iff.1 hj).1
    rw [flat_len] at this; exact this
  rcases hr with h | ⟨b', off', hbo, hb, hc⟩
  · rw [h] at hjl; simp at hjl
  · simp only [Option.some.injEq, Addr.mk.injEq, and_true] at hbo
    obtain ⟨rfl, rfl⟩ := hbo
    obtain ⟨i, hi⟩ : ∃ i, i = j / 2 := ⟨_, rfl⟩
    obtain ⟨g0, g1⟩ := flat_get L i (by omega)
    obtain ⟨c0, c1, _⟩ := hc i (by omega)
    rw [Smp.add_none]
    rcases (show j = i * 2 ∨ j = i * 2 + 1 by omega) with h | h
    · subst h
      rw [c0, ← g0]; exact hj
    · subst h
      rw [show off + (i * 2 + 1) = off + i * 2 + 1 from by omega, c1, ← g1]; exact hj
theorem own_formC {w : World} {base e size n : Nat} {v : Value} {xs : List Value} (h : w.ownsRow base e size v n xs) (hp : 0 < n) : ∃ g c, v = .slice (some ⟨g, 0, none⟩) n c := by
  rcases h.2 with ⟨_, h2⟩ | ⟨g, cap, cur, h1, _⟩
  · omega
  · exact ⟨g, cap, h1⟩
theorem q_one (L : List Q) : ∀ u ∈ flat L, u.oneCell' = true := by
  intro u hu
  unfold flat at hu
  obtain ⟨q, _, hq⟩ := List.mem_flatMap.1 hu
  simp [cl] at hq
  rcases hq with rfl | rfl <;> rfl
/-- The first k are copied, one behind the other. -/
structure KinS (X g k : Nat) (d : List Q) (w : World) : Prop where
  len : d.length = k
  own : ∀ i, i < k → Own2 X (d.getD i q0) w
  off : ∀ i, i < k → g < blk (d.getD i q0).a
  lt : ∀ i, i < k → blk (d.getD i q0).a < blk (d.getD i q0).b
  dis : ∀ i j, i < j → j < k → blk (d.getD i q0).b < blk (d.getD j q0).a
theorem KinS.nil {X g : Nat} {w : World} : KinS X g 0 [] w := ⟨rfl, fun i hi => by omega, fun i hi => by omega, fun i hi => by omega, fun i j h1 h2 => by omega⟩
theorem KinS.below {X g k : Nat} {d : List Q} {w w' : World} (h : KinS X g k d w) (hb : Below w.heap.size w w') : KinS X g k d w' := ⟨h.len, fun i hi => (h.own i hi).below hb, h.off, h.lt, h.dis⟩
theorem KinS.grown {X g k : Nat} {d : List Q} {w w' : World} (h : KinS X g k d w) (hg : w.grownBy w' (some g)) : KinS X g k d w' := ⟨h.len, fun i hi => (h.own i hi).grown hg (by have := h.off i hi; omega) (by have := h.off i hi; have := h.lt i hi; omega), h.off, h.lt, h.dis⟩
theorem KinS.snoc {X g k : Nat} {d : List Q} {w : World} {q : Q} (h : KinS X g k d w) (h1 : Own2 X q w) (h2 : g < blk q.a) (h3 : blk q.a < blk q.b) (h4 : ∀ i, i < k → blk (d.getD i q0).b < blk q.a) : KinS X g (k + 1) (d ++ [q]) w := by
  have hl := h.len
  refine ⟨by simp [hl], fun i hi => ?_, fun i hi => ?_, fun i hi => ?_, fun i j hij hj => ?_⟩
  · rw [getD_snoc]
    by_cases e : i = d.length
    · rw [if_pos e]; exact h1
    · rw [if_neg e]; exact h.own i (by omega)
  · rw [getD_snoc]
    by_cases e : i = d.length
    · rw [if_pos e]; exact h2
    · rw [if_neg e]; exact h.off i (by omega)
  · rw [getD_snoc]
    by_cases e : i = d.length
    · rw [if_pos e]; exact h3
    · rw [if_neg e]; exact h.lt i (by omega)
  · rw [getD_snoc, getD_snoc, if_neg (show ¬ i = d.length by omega)]
    by_cases e : j = d.length
    · rw [if_pos e]; exact h4 i (by omega)
    · rw [if_neg e]; exact h.dis i j hij (by omega)
theorem KinS.apart {X g k : Nat} {d : List Q} {w : World} (h : KinS X g k d w) : Apart g k (fun i => d.getD i q0) := by
  refine ⟨fun i hi => ⟨by have := h.off i hi; omega, by have := h.off i hi; have := h.lt i hi; omega⟩, fun i j hi hj hne => ?_⟩
  have a1 := h.lt i hi
  have a2 := h.lt j hj
  rcases Nat.lt_or_gt_of_ne hne with e | e
  · have := h.dis i j e hj; refine ⟨?_, ?_, ?_, ?_⟩ <;> omega
  · have := h.dis j i e hi; refine ⟨?_, ?_, ?_, ?_⟩ <;> omega
theorem mix_get {d qs : List Q} {k j : Nat} (hd : d.length = k) (hj : k ≤ j) : (d ++ qs.drop k).getD j q0 = qs.getD j q0 := by
  rw [List.getD_eq_getElem?_getD, List.getD_eq_getElem?_getD, List.getElem?_append_right (by omega), List.getElem?_drop, show k + (j - d.length) = j by omega]
theorem mix_set {d qs : List Q} {k : Nat} {q : Q} (hd : d.length = k) (hk : k < qs.length) : (d ++ qs.drop k).set k q = (d ++ [q]) ++ qs.drop (k + 1) := by
  rw [List.set_append_right _ _ (by omega), hd, Nat.sub_self, List.drop_eq_getElem_cons hk, List.set_cons_zero, List.append_assoc]
  rfl
/-- A series in its box. -/
abbrev SQ (q : Q) (B : Nat) (x : World) : Prop := x.cell? ⟨B, 0, none⟩ = some (.slice q.a q.l.length q.c) ∧ x.cell? ⟨B, 1, none⟩ = some (.slice q.b q.s.length q.d)
set_option maxRecDepth 10000 in
set_option maxHeartbeats 4000000 in
theorem f60 (a : Option Addr) (n c : Nat) (qs : List Q) (w : World) (hn : qs.length = n) (hb : n ≤ 1048576) (hr : HasQ w a qs) (hne : ∀ i, i < n → (qs.getD i q0).l ≠ [] ∧ (qs.getD i q0).s ≠ []) (hz : SmlQ qs) (hcap : ∀ i, i < n → (qs.getD i q0).d = (qs.getD i q0).s.length) :
    Calls Tryz.prog 60 #[.slice a n c] w fun e w' => ∃ d : List Q, e = .returned (.slice (some ⟨w.heap.size, 0, none⟩) n n) ∧ Hid (OwnG w.heap.size w.heap.size n n d w') ∧ Hid (Same n qs d) ∧ Below w.heap.size w w' := by
  obtain ⟨i0, hi, hz0, hz1, hz2⟩ := info_parts infoQ
  have HN := hid hn
  have HR := hid hr
  have HZ := hid hz
  have HNe := hid hne
  have HCp := hid hcap
  clear hn hr hz hne hcap
  go_enter Tryz.func60, Tryz.ntmps60
  go_wp2_with (at_make; refine wpList_make_full _ rfl _ _ 41 rfl w.heap.size 81 i0 (.agg #[.slice none 0 0, .slice none 0 0]) 2 Tryz.underlying41 hi hz0 hz1 _ _ _ _ n rfl rfl rfl rfl ?b2 ?b3 (Nat.le_refl _) ?_)
  case b2 => rw [hz2]; omega
  case b3 => unfold maxLen; omega
  intro w0 hown0 hgrow0
  have HO0 := hid hown0
  have HB0 := hid ((Below.refl w.heap.size w).grown hgrow0 (Nat.le_refl _) (fun k h => by cases h))
  have HSr : Hid (0 < n → ∃ ad, a = some ad ∧ ∀ j v, (flat qs)[j]? = some v → w0.cell? (ad.add j) = some v) := by
    intro hp
    have hr0 := HR.out.below HB0.out
    obtain ⟨b, off, rfl, _⟩ := hr0.at2 0 (by rw [HN.out]; exact hp)
    exact ⟨_, rfl, q_cells hr0⟩
  clear hown0 hgrow0
  go_wp2_with (refine Cpy.wpList_copy_all rfl (.tmp 9) (.tmp 10) 41 41 rfl 81 i0 2 Tryz.underlying41 hi hz1 w.heap.size w.heap.size n _ rfl HO0.out a c rfl (flat qs) (by rw [flat_len, HN.out]) HSr.out (q_one qs) ?_)
  intro w1 hown1 hgr1
  have HO1 := hid hown1
  have HB1 := hid (HB0.out.grown hgr1 HB0.out.size (fun k hk => by cases hk; exact Nat.le_refl _))
  clear hown1 hgr1 HO0 HSr HB0
  go_wp2
  go_loopw [14] (fun si wr => ∃ (k : Nat) (d : List Q), k ≤ n ∧ si = .int .i64 k ∧ Hid (KinS w.heap.size w.heap.size k d wr) ∧ Hid (Same k qs d) ∧ Hid (wr.ownsRow w.heap.size 81 2 (.slice (some ⟨w.heap.size, 0, none⟩) n n) n (flat (d ++ qs.drop k))) ∧ Hid (Below w.heap.size w wr)) (fun si _ => n - (intOf si).toNat)
  case atStart => exact ⟨0, [], Nat.zero_le _, rfl, KinS.nil, fun i hi => by omega, HO1.out, HB1.out⟩
  case round =>
    obtain ⟨k, d, hk, rfl, HD, HSm, HO, HX⟩ := hrel
    by_cases hlt : k < n
    rotate_left
    · obtain rfl : k = n := by omega
      have HE : Hid (OwnG w.heap.size w.heap.size k k d wr) := by
        have h := HO.out
        rw [List.drop_eq_nil_of_le (by rw [HN.out]; exact Nat.le_refl _), List.append_nil] at h
        exact ⟨HD.out.len, h, HD.out.own, HD.out.apart⟩
      go_wp2
      go_ret
      exact ⟨d, rfl, HE, HSm, HX.out⟩
    obtain ⟨b, off, rfl, hbl, c0, c1, t1, t2⟩ := (HR.out.below HX.out).at2 k (by rw [HN.out]; exact hlt)
    have HNq := hid (HNe.out k hlt)
    have HCq := hid (HCp.out k hlt)
    have HZq := hid (HZ.out k (by rw [HN.out]; exact hlt))
    have HL : Hid ((d ++ qs.drop k).length = n) := by unfold Hid; have := HD.out.len; have := HN.out; simp; omega
    obtain ⟨y0, y1⟩ := flat_get (d ++ qs.drop k) k (by rw [HL.out]; exact hlt)
    rw [mix_get HD.out.len (Nat.le_refl _)] at y0 y1
    have HQk : Hid (∀ q', pl q' = pl (qs.getD k q0) → Same (k + 1) qs (d ++ [q'])) := by
      intro q' he i hi
      rw [getD_snoc, HD.out.len]
      by_cases e : i = k
      · rw [if_pos e, e]; exact he
      · rw [if_neg e]; exact HSm.out i (by omega)
    generalize qs.getD k q0 = q at *
    have i1 : (k : Int) < (n : Int) := by omega
    have hRow : w.heap.size < wr.heap.size := (HO.out.lt w.heap.size rfl).2
    have HW0 := hid ((Below.refl wr.heap.size wr).alloc (Nat.le_refl _) (.cells #[.slice q.a q.l.length q.c, .slice q.b q.s.length q.d] 81))
    have HBx := hid (heap_alloc_new wr (.cells #[.slice q.a q.l.length q.c, .slice q.b q.s.length q.d] 81))
    obtain ⟨bl, ol, hql⟩ : ∃ b o, q.a = some ⟨b, o, none⟩ := by
      rcases t1 with h | ⟨b, o, h, _⟩
      · exact absurd h HNq.out.1
      · exact ⟨b, o, h⟩
    obtain ⟨bs, os, hqs⟩ : ∃ b o, q.b = some ⟨b, o, none⟩ := by
      rcases t2 with h | ⟨b, o, h, _⟩
      · exact absurd h HNq.out.2
      · exact ⟨b, o, h⟩
    have HT1 := hid (t1.below HW0.out)
    have HT2 := hid (t2.below HW0.out)
    obtain ⟨W, hW⟩ : ∃ W, W = wr.alloc (.cells #[.slice q.a q.l.length q.c, .slice q.b q.s.length q.d] 81) := ⟨_, rfl⟩
    rw [← hW] at HW0 HBx HT1 HT2
    have hd2 : Below W.heap.size W W.drew := (Below.refl _ _).drew
    have hlp : 0 < q.l.length := List.length_pos_iff.2 HNq.out.1
    have hsp : 0 < q.s.length := List.length_pos_iff.2 HNq.out.2
    have hl1 : q.l.length ≤ 1048576 := HZq.out.1
    have hs1 : q.s.length ≤ 1048576 := HZq.out.2
    have hwW : wr.heap.size ≤ W.heap.size := HW0.out.size
    have HC1 : Hid (Calls Tryz.prog 100 #[.slice q.a q.l.length q.c] W.drew fun e w' => ∃ v', e = .returned v' ∧ OwnL w' W.drew.heap.size v' q.l ∧ Below W.drew.heap.size W.drew w') := by
      have h := HT1.out.below hd2
      rw [hql] at h ⊢
      exact f100 bl ol q.c q.l W.drew hl1 h
    have HC2 : Hid (∀ x, Below W.heap.size W x → Calls Tryz.prog 101 #[.slice q.b q.s.length q.d] x fun e w' => ∃ v', e = .returned v' ∧ Smp.Own w' x.heap.size v' q.s ∧ Below x.heap.size x w') := by
      intro x hx
      have h := HT2.out.below hx
      rw [hqs] at h
      rw [hqs, HCq.out]
      exact Smp.f101 q.s _ x hs1 (.inr ⟨hsp, bs, os, rfl, h⟩)
    clear t1 t2 hbl hql hqs
    go_wp2_with fail
    rw [← hW]
    clear hW c0 c1
    generalize hB : wr.heap.size = B at *
    refine wp_region_held_drew (S := fun x => SQ q B x) rfl (two (kept HBx.out hd2)) (fun hHeld => ?_)
    refine wpAnyH_take (i := 0) (oi := { dst := some 19, op := _, type := _, pos := _, after := _, guard := _ }) (v := .slice (some ⟨w.heap.size, 0, none⟩) n n) rfl (by kernel_rfl) (by kernel_rfl) (by kernel_rfl) (fun _ _ _ h => h) (Or.inl ⟨by rfl, fun w hSw => by (try dsimp only at hSw); go_split_ands; go_simp⟩) (by assumption) ?_
    simp only [Act.put, List.setIfInBounds_toArray, List.set_cons_zero, List.set_cons_succ]
    refine wpAnyH_take (i := 1) (oi := { dst := some 20, op := _, type := _, pos := _, after := _, guard := _ }) (v := .int .i64 (k : Int)) rfl (by kernel_rfl) (by kernel_rfl) (by kernel_rfl) (fun _ _ _ h => h) (Or.inl ⟨by rfl, fun w hSw => by (try dsimp only at hSw); go_split_ands; go_simp⟩) (by assumption) ?_
    simp only [Act.put, List.setIfInBounds_toArray, List.set_cons_zero, List.set_cons_succ]
    refine wpAnyH_take (i := 2) (oi := { dst := some 21, op := _, type := _, pos := _, after := _, guard := _ }) (v := .slice (some ⟨w.heap.size, 0, none⟩) n n) rfl (by kernel_rfl) (by kernel_rfl) (by kernel_rfl) (fun _ _ _ h => h) (Or.inl ⟨by rfl, fun w hSw => by (try dsimp only at hSw); go_split_ands; go_simp⟩) (by assumption) ?_
    simp only [Act.put, List.setIfInBounds_toArray, List.set_cons_zero, List.set_cons_succ]
    refine wpAnyH_take (i := 3) (oi := { dst := some 22, op := _, type := _, pos := _, after := _, guard := _ }) (v := .int .i64 (k : Int)) rfl (by kernel_rfl) (by kernel_rfl) (by kernel_rfl) (fun _ _ _ h => h) (Or.inl ⟨by rfl, fun w hSw => by (try dsimp only at hSw); go_split_ands; go_simp⟩) (by assumption) ?_
    simp only [Act.put, List.setIfInBounds_toArray, List.set_cons_zero, List.set_cons_succ]
    refine wpAnyH_take (i := 4) (oi := { dst := some 23, op := _, type := _, pos := _, after := _, guard := _ }) (v := .pointer (some ⟨B, 0, none⟩)) rfl (by kernel_rfl) (by kernel_rfl) (by kernel_rfl) (fun _ _ _ h => h) (Or.inl ⟨by rfl, fun w hSw => by (try dsimp only at hSw); go_split_ands; go_simp⟩) (by assumption) ?_
    simp only [Act.put, List.setIfInBounds_toArray, List.set_cons_zero, List.set_cons_succ]
    refine wpAnyH_take (i := 5) (oi := { dst := some 24, op := _, type := _, pos := _, after := _, guard := _ }) (v := .slice q.a q.l.length q.c) rfl (by kernel_rfl) (by kernel_rfl) (by kernel_rfl) (fun _ _ _ h => h) (Or.inl ⟨by rfl, fun w hSw => by (try dsimp only at hSw); go_split_ands; go_simp⟩) (by assumption) ?_
    simp only [Act.put, List.setIfInBounds_toArray, List.set_cons_zero, List.set_cons_succ]
    refine wpAnyH_take (i := 7) (oi := { dst := some 26, op := _, type := _, pos := _, after := _, guard := _ }) (v := .pointer (some ⟨B, 1, none⟩)) rfl (by kernel_rfl) (by kernel_rfl) (by kernel_rfl) (fun _ _ _ h => h) (Or.inl ⟨by rfl, fun w hSw => by (try dsimp only at hSw); go_split_ands; go_simp⟩) (by assumption) ?_
    simp only [Act.put, List.setIfInBounds_toArray, List.set_cons_zero, List.set_cons_succ]
    refine wpAnyH_take (i := 8) (oi := { dst := some 27, op := _, type := _, pos := _, after := _, guard := _ }) (v := .slice q.b q.s.length q.d) rfl (by kernel_rfl) (by kernel_rfl) (by kernel_rfl) (fun _ _ _ h => h) (Or.inl ⟨by rfl, fun w hSw => by (try dsimp only at hSw); go_split_ands; go_simp⟩) (by assumption) ?_
    simp only [Act.put, List.setIfInBounds_toArray, List.set_cons_zero, List.set_cons_succ]
    refine wpAnyH_ready (rs := [6]) (by kernel_rfl) (by simp) (AllReadyH.cons (o := { dst := some 25, op := _, type := _, pos := _, after := _, guard := _ }) rfl ?_ AllReadyH.nil)
    intro K1 hK1
    go_simp
    go_wp2_with (go_at_call 100; refine HC1.out.mono ?_; rintro e w4 ⟨v4, rfl, ho4, hb4⟩; have hw4 : Below W.heap.size W w4 := hd2.trans (hb4.mono hd2.size))
    refine hK1.out _ _ (two (kept HBx.out hw4)) (fun _ => ?_)
    clear hK1 K1
    have HL4 := hid ho4
    clear ho4 hb4 hHeld
    refine wpAnyH_ready (rs := [9]) (by kernel_rfl) (by simp) (AllReadyH.cons (o := { dst := some 28, op := _, type := _, pos := _, after := _, guard := _ }) rfl ?_ AllReadyH.nil)
    intro K2 hK2
    go_simp
    go_wp2_with (go_at_call 101; refine (HC2.out w4 hw4).mono ?_; rintro e w5 ⟨v5, rfl, ho5, hb5⟩; have hw5 : Below W.heap.size W w5 := hw4.trans (hb5.mono hw4.size))
    refine hK2.out _ _ (two (kept HBx.out hw5)) (fun _ => ?_)
    clear hK2 K2
    obtain ⟨ga, ca, rfl⟩ := own_formC HL4.out hlp
    obtain ⟨gb, cb, rfl⟩ := own_formC ho5 hsp
    have HL5 := hid (own_below HL4.out hb5)
    have HS5 := hid ho5
    have hga : W.heap.size ≤ ga ∧ ga < w4.heap.size := ⟨Nat.le_trans hd2.size (HL4.out.lt ga rfl).1, (HL4.out.lt ga rfl).2⟩
    have hgb : w4.heap.size ≤ gb := (ho5.lt gb rfl).1
    have HO5 := hid (own_below (own_below HO.out (hB ▸ HW0.out)) hw5)
    have HD5 := hid ((HD.out.below (hB ▸ HW0.out)).below hw5)
    clear HL4 ho5 hb5
    have z0 := (HO5.out.cellAt (k * 2) (by omega)).trans y0
    have f0 := HO5.out.frozenAt (k * 2)
    have hst := HO5.out.stored (k * 2) (.slice (some ⟨ga, 0, none⟩) q.l.length ca)
    have z1 : (w5.setCell ⟨w.heap.size, k * 2, none⟩ (.slice (some ⟨ga, 0, none⟩) q.l.length ca)).cell? ⟨w.heap.size, k * 2 + 1, none⟩ = some (.slice q.b q.s.length q.d) := by
      rw [hst.1.cellAt (k * 2 + 1) (by omega), List.getElem?_set_ne (by omega)]; exact y1
    have f1 := hst.1.frozenAt (k * 2 + 1)
    refine wpAnyH_take (i := 10) (oi := { dst := some 29, op := _, type := _, pos := _, after := _, guard := _ }) (v := .pointer (some ⟨w.heap.size, k * 2, none⟩)) rfl (by kernel_rfl) (by kernel_rfl) (by kernel_rfl) (fun _ _ _ h => h) (Or.inl ⟨by rfl, fun w hSw => by (try dsimp only at hSw); go_split_ands; go_simp⟩) (by assumption) ?_
    simp only [Act.put, List.setIfInBounds_toArray, List.set_cons_zero, List.set_cons_succ]
    refine wpAnyH_take (i := 11) (oi := { dst := some 30, op := _, type := _, pos := _, after := _, guard := _ }) (v := .pointer (some ⟨w.heap.size, k * 2, none⟩)) rfl (by kernel_rfl) (by kernel_rfl) (by kernel_rfl) (fun _ _ _ h => h) (Or.inl ⟨by rfl, fun w hSw => by (try dsimp only at hSw); go_split_ands; go_simp⟩) (by assumption) ?_
    simp only [Act.put, List.setIfInBounds_toArray, List.set_cons_zero, List.set_cons_succ]
    refine wpAnyH_ready (rs := [12]) (by kernel_rfl) (by simp) (AllReadyH.cons (o := { dst := none, op := _, type := _, pos := _, after := _, guard := _ }) rfl ?_ AllReadyH.nil)
    intro K3 hK3
    go_simp
    refine hK3.out _ _ (two (set_else (kept HBx.out hw5) (by simp only; omega))) (fun _ => ?_)
    clear hK3 K3
    refine wpAnyH_take (i := 13) (oi := { dst := some 31, op := _, type := _, pos := _, after := _, guard := _ }) (v := .pointer (some ⟨w.heap.size, k * 2, none⟩)) rfl (by kernel_rfl) (by kernel_rfl) (by kernel_rfl) (fun _ _ _ h => h) (Or.inl ⟨by rfl, fun w hSw => by (try dsimp only at hSw); go_split_ands; go_simp⟩) (by assumption) ?_
    simp only [Act.put, List.setIfInBounds_toArray, List.set_cons_zero, List.set_cons_succ]
    refine wpAnyH_take (i := 14) (oi := { dst := some 32, op := _, type := _, pos := _, after := _, guard := _ }) (v := .pointer (some ⟨w.heap.size, k * 2 + 1, none⟩)) rfl (by kernel_rfl) (by kernel_rfl) (by kernel_rfl) (fun _ _ _ h => h) (Or.inl ⟨by rfl, fun w hSw => by (try dsimp only at hSw); go_split_ands; go_simp⟩) (by assumption) ?_
    simp only [Act.put, List.setIfInBounds_toArray, List.set_cons_zero, List.set_cons_succ]
    refine wpAnyH_ready (rs := [15]) (by kernel_rfl) (by simp) (AllReadyH.cons (o := { dst := none, op := _, type := _, pos := _, after := _, guard := _ }) rfl ?_ AllReadyH.nil)
    intro K4 hK4
    go_simp
    refine hK4.out _ _ (two (set_else (set_else (kept HBx.out hw5) (by simp only; omega)) (by simp only; omega))) (fun _ => ?_)
    clear hK4 K4
    refine wpAnyH_done (by kernel_rfl) ?_ _
    have HE : Hid (∀ wz, wz = (w5.setCell ⟨w.heap.size, k * 2, none⟩ (.slice (some ⟨ga, 0, none⟩) q.l.length ca)).setCell ⟨w.heap.size, k * 2 + 1, none⟩ (.slice (some ⟨gb, 0, none⟩) q.s.length cb) → ∃ q' : Q, KinS w.heap.size w.heap.size (k + 1) (d ++ [q']) wz ∧ Same (k + 1) qs (d ++ [q']) ∧ wz.ownsRow w.heap.size 81 2 (.slice (some ⟨w.heap.size, 0, none⟩) n n) n (flat ((d ++ [q']) ++ qs.drop (k + 1))) ∧ Below w.heap.size w wz) := by
      rintro wz rfl
      have hst2 := hst.1.stored (k * 2 + 1) (.slice (some ⟨gb, 0, none⟩) q.s.length cb)
      have hX5 : Below w.heap.size w w5 := HX.out.trans ((HW0.out.trans (hw5.mono hwW)).mono (by omega))
      refine ⟨⟨q.l, some ⟨ga, 0, none⟩, ca, q.s, some ⟨gb, 0, none⟩, cb⟩, ?_, HQk.out _ rfl, ?_, (hX5.setCell (Nat.le_refl _) _).setCell (Nat.le_refl _) _⟩
      · have hq : Own2 w.heap.size ⟨q.l, some ⟨ga, 0, none⟩, ca, q.s, some ⟨gb, 0, none⟩, cb⟩ w5 := ⟨rfl, rfl, own_base HL5.out (by have := hd2.size; omega), own_base HS5.out (by have := hw4.size; omega), (by simp only [blk]; omega)⟩
        exact ((HD5.out.grown hst.2).grown hst2.2).snoc ((hq.grown hst.2 (by simp only [blk]; omega) (by simp only [blk]; omega)).grown hst2.2 (by simp only [blk]; omega) (by simp only [blk]; omega)) (by simp only [blk]; omega) (by simp only [blk]; omega) (fun i hi => by have := (HD.out.own i hi).hi; show blk (d.getD i q0).b < ga; omega)
      · rw [← mix_set HD.out.len (by rw [HN.out]; exact hlt), ← flat_set _ k _ (by rw [HL.out]; exact hlt)]; exact hst2.1
    clear hst z0 z1 f0 f1 HO5 HD5 HL5 HS5 hw4 hw5 HO HD HX HBx HT1 HT2 HC1 HC2 HW0 y0 y1
    go_wp2
    go_roundw
    case rel =>
      obtain ⟨q', e1, e2, e3, e4⟩ := HE.out _ rfl
      exact ⟨k + 1, d ++ [q'], by omega, by go_num, e1, e2, e3, e4⟩
    case measure => simp [intOf]; omega
end Go.Proofs.YtkbaaidnkkcpoaaGreat.Srs
/- Stones and blocks copied: the program's copyStones, copyBlock. -/
namespace Go.Proofs.YtkbaaidnkkcpoaaGreat.Stn
open Go.RowKit
open Go.Proofs.YtkbaaidnkkcpoaaGreat.Lab (Lb HasL)
open Go.Proofs.YtkbaaidnkkcpoaaGreat.Srs (hid lt_at kept blk own_base own_below own_grown set_else OwnL own_formC)

theorem t_cells {w : World} {b off : Nat} {L : List T} (hr : HasT w (some ⟨b, off, none⟩) L) : ∀ j u, (flat L)[j]? = some u → w.cell? ((⟨b, off, none⟩ : Addr).add j) = some u := by
  intro j u hj
  have hjl : j < L.length * 3 := by
    have := (List.getElem?_eq_some_iff.1 hj).1
    rw [flat_len] at this; exact this
  rcases hr with h | ⟨b', off', hbo, hb, hc⟩
  · rw [h] at hjl; simp at hjl
  · simp only [Option.some.injEq, Addr.mk.injEq, and_true] at hbo
    obtain ⟨rfl, rfl⟩ := hbo
    obtain ⟨i, hi⟩ : ∃ i, i = j / 3 := ⟨_, rfl⟩
    obtain ⟨g0, g1, g2⟩ := flat_get L i (by omega)
    obtain ⟨⟨c0, c1, c2⟩, _⟩ := hc i (by omega)
    rw [Smp.add_none]
    rcases (show j = i * 3 ∨ j = i * 3 + 1 ∨ j = i * 3 + 2 by omega) with h | h | h
    · subst h
      rw [c0, ← g0]; exact hj
    · subst h
      rw [show off + (i * 3 + 1) = off + i * 3 + 1 from by omega, c1, ← g1]; exact hj
    · subst h
      rw [show off + (i * 3 + 2) = off + i * 3 + 2 from by omega, c2, ← g2]; exact hj
theorem t_one (L : List T) : ∀ u ∈ flat L, u.oneCell' = true := by
  intro u hu
  unfold flat at hu
  obtain ⟨q, _, hq⟩ := List.mem_flatMap.1 hu
  simp [cl] at hq
  rcases hq with rfl | rfl | rfl <;> rfl
theorem flat_set1 (L : List T) (i : Nat) (q : T) (hi : i < L.length) (h : q.f = (L.getD i t0).f ∧ q.t = (L.getD i t0).t) : (flat L).set (i * 3) (.slice q.a q.l.length q.c) = flat (L.set i q) := by
  obtain ⟨g0, g1, g2⟩ := flat_get L i hi
  rw [← flat_set L i q hi]
  have e1 : ((flat L).set (i * 3) (.slice q.a q.l.length q.c)).set (i * 3 + 1) (.int .i64 q.f) = (flat L).set (i * 3) (.slice q.a q.l.length q.c) := set_same (by rw [List.getElem?_set_ne (by omega), g1, h.1])
  rw [e1]
  exact (set_same (by rw [List.getElem?_set_ne (by omega), g2, h.2])).symm
theorem mixt_get {d ts : List T} {k j : Nat} (hd : d.length = k) (hj : k ≤ j) : (d ++ ts.drop k).getD j t0 = ts.getD j t0 := by
  rw [List.getD_eq_getElem?_getD, List.getD_eq_getElem?_getD, List.getElem?_append_right (by omega), List.getElem?_drop, show k + (j - d.length) = j by omega]
theorem mixt_set {d ts : List T} {k : Nat} {q : T} (hd : d.length = k) (hk : k < ts.length) : (d ++ ts.drop k).set k q = (d ++ [q]) ++ ts.drop (k + 1) := by
  rw [List.set_append_right _ _ (by omega), hd, Nat.sub_self, List.drop_eq_getElem_cons hk, List.set_cons_zero, List.append_assoc]
  rfl
theorem Owns.grown {X B k : Nat} {d : List T} {w w' : World} (h : Owns X B k d w) (hg : w.grownBy w' (some B)) : Owns X B k d w' := ⟨h.len, fun i hi => (h.own i hi).grown hg (by have := h.off i hi; omega), h.off, h.dis⟩
set_option maxRecDepth 10000 in
set_option maxHeartbeats 4000000 in
theorem f61 (a : Option Addr) (n c : Nat) (ts : List T) (w : World) (hn : ts.length = n) (hb : n ≤ 1048576) (hr : HasT w a ts) (hne : ∀ i, i < n → (ts.getD i t0).l ≠ []) (hz : SmlT ts) :
    Calls Tryz.prog 61 #[.slice a n c] w fun e w' => ∃ d : List T, e = .returned (.slice (some ⟨w.heap.size, 0, none⟩) n n) ∧ Hid (OwnT w.heap.size w.heap.size n d w') ∧ Hid (Same n ts d) ∧ Below w.heap.size w w' := by
  obtain ⟨i0, hi, hz0, hz1, hz2⟩ := info_parts infoT
  have HN := hid hn
  have HR := hid hr
  have HZ := hid hz
  have HNe := hid hne
  clear hn hr hz hne
  go_enter Tryz.func61, Tryz.ntmps61
  go_wp2_with (at_make; refine wpList_make_full _ rfl _ _ 42 rfl w.heap.size 87 i0 (.agg #[.slice none 0 0, .int .i64 0, .int .i64 0]) 3 Tryz.underlying42 hi hz0 hz1 _ _ _ _ n rfl rfl rfl rfl ?b2 ?b3 (Nat.le_refl _) ?_)
  case b2 => rw [hz2]; omega
  case b3 => unfold maxLen; omega
  intro w0 hown0 hgrow0
  have HO0 := hid hown0
  have HB0 := hid ((Below.refl w.heap.size w).grown hgrow0 (Nat.le_refl _) (fun k h => by cases h))
  have HSr : Hid (0 < n → ∃ ad, a = some ad ∧ ∀ j v, (flat ts)[j]? = some v → w0.cell? (ad.add j) = some v) := by
    intro hp
    have hr0 := HR.out.below HB0.out
    obtain ⟨b, off, rfl, _⟩ := hr0.at2 0 (by rw [HN.out]; exact hp)
    exact ⟨_, rfl, t_cells hr0⟩
  clear hown0 hgrow0
  go_wp2_with (refine Cpy.wpList_copy_all rfl (.tmp 9) (.tmp 10) 42 42 rfl 87 i0 3 Tryz.underlying42 hi hz1 w.heap.size w.heap.size n _ rfl HO0.out a c rfl (flat ts) (by rw [flat_len, HN.out]) HSr.out (t_one ts) ?_)
  intro w1 hown1 hgr1
  have HO1 := hid hown1
  have HB1 := hid (HB0.out.grown hgr1 HB0.out.size (fun k hk => by cases hk; exact Nat.le_refl _))
  clear hown1 hgr1 HO0 HSr HB0
  go_wp2
  go_loopw [14] (fun si wr => ∃ (k : Nat) (d : List T), k ≤ n ∧ si = .int .i64 k ∧ Hid (Owns w.heap.size w.heap.size k d wr) ∧ Hid (Same k ts d) ∧ Hid (wr.ownsRow w.heap.size 87 3 (.slice (some ⟨w.heap.size, 0, none⟩) n n) n (flat (d ++ ts.drop k))) ∧ Hid (Below w.heap.size w wr)) (fun si _ => n - (intOf si).toNat)
  case atStart => exact ⟨0, [], Nat.zero_le _, rfl, Owns.nil, fun i hi => by omega, HO1.out, HB1.out⟩
  case round =>
    obtain ⟨k, d, hk, rfl, HD, HSm, HO, HX⟩ := hrel
    by_cases hlt : k < n
    rotate_left
    · obtain rfl : k = n := by omega
      have HE : Hid (OwnT w.heap.size w.heap.size k d wr) := by
        have h := HO.out
        rw [List.drop_eq_nil_of_le (by rw [HN.out]; exact Nat.le_refl _), List.append_nil] at h
        exact ⟨h, HD.out⟩
      go_wp2
      go_ret
      exact ⟨d, rfl, HE, HSm, HX.out⟩
    obtain ⟨b, off, rfl, hbl, ⟨c0, c1, c2⟩, t1⟩ := (HR.out.below HX.out).at2 k (by rw [HN.out]; exact hlt)
    have HNq := hid (HNe.out k hlt)
    have HZq := hid (HZ.out k (by rw [HN.out]; exact hlt))
    have HL : Hid ((d ++ ts.drop k).length = n) := by unfold Hid; have := HD.out.len; have := HN.out; simp; omega
    obtain ⟨y0, y1, y2⟩ := flat_get (d ++ ts.drop k) k (by rw [HL.out]; exact hlt)
    have HMx := hid (mixt_get (d := d) (ts := ts) HD.out.len (Nat.le_refl k))
    rw [HMx.out] at y0 y1 y2
    have HQk : Hid (∀ q', pl q' = pl (ts.getD k t0) → Same (k + 1) ts (d ++ [q'])) := by
      intro q' he i hi
      rw [getD_snoc, HD.out.len]
      by_cases e : i = k
      · rw [if_pos e, e]; exact he
      · rw [if_neg e]; exact HSm.out i (by omega)
    generalize ts.getD k t0 = q at *
    have i1 : (k : Int) < (n : Int) := by omega
    have hRow : w.heap.size < wr.heap.size := (HO.out.lt w.heap.size rfl).2
    have HW0 := hid ((Below.refl wr.heap.size wr).alloc (Nat.le_refl _) (.cells #[.slice q.a q.l.length q.c, .int .i64 q.f, .int .i64 q.t] 87))
    have HBx := hid (heap_alloc_new wr (.cells #[.slice q.a q.l.length q.c, .int .i64 q.f, .int .i64 q.t] 87))
    obtain ⟨bl, ol, hql⟩ : ∃ b o, q.a = some ⟨b, o, none⟩ := by
      rcases t1 with h | ⟨b, o, h, _⟩
      · exact absurd h HNq.out
      · exact ⟨b, o, h⟩
    have HT1 := hid (t1.below HW0.out)
    have hlp : 0 < q.l.length := List.length_pos_iff.2 HNq.out
    have hl1 : q.l.length ≤ 1048576 := HZq.out
    have HC1 : Hid (Calls Tryz.prog 100 #[.slice q.a q.l.length q.c] (wr.alloc (.cells #[.slice q.a q.l.length q.c, .int .i64 q.f, .int .i64 q.t] 87)) fun e w' => ∃ v', e = .returned v' ∧ OwnL w' (wr.alloc (.cells #[.slice q.a q.l.length q.c, .int .i64 q.f, .int .i64 q.t] 87)).heap.size v' q.l ∧ Below (wr.alloc (.cells #[.slice q.a q.l.length q.c, .int .i64 q.f, .int .i64 q.t] 87)).heap.size (wr.alloc (.cells #[.slice q.a q.l.length q.c, .int .i64 q.f, .int .i64 q.t] 87)) w') := by
      have h := HT1.out
      rw [hql] at h
      have h2 := Srs.f100 bl ol q.c q.l _ hl1 h
      rw [← hql] at h2
      exact h2
    clear t1 hbl hql
    go_wp2_with fail
    refine HC1.out.mono ?_
    rintro e w4 ⟨v4, rfl, ho4, hb4⟩
    obtain ⟨ga, ca, rfl⟩ := own_formC ho4 hlp
    have HL4 := hid ho4
    have hwr : wr.heap.size < (wr.alloc (.cells #[.slice q.a q.l.length q.c, .int .i64 q.f, .int .i64 q.t] 87)).heap.size := by simp
    have hga : wr.heap.size < ga := Nat.lt_of_lt_of_le hwr (ho4.lt ga rfl).1
    have HO4 := hid (own_below (own_below HO.out HW0.out) hb4)
    have HD4 := hid ((HD.out.below HW0.out).below hb4)
    have HX4 : Hid (Below w.heap.size w w4) := HX.out.trans ((HW0.out.trans (hb4.mono (Nat.le_of_lt hwr))).mono HX.out.size)
    have z0 := (HO4.out.cellAt (k * 3) (by omega)).trans y0
    have f0 := HO4.out.frozenAt (k * 3)
    have HE : Hid (∀ wz, wz = w4.setCell ⟨w.heap.size, k * 3, none⟩ (.slice (some ⟨ga, 0, none⟩) q.l.length ca) → ∃ q' : T, Owns w.heap.size w.heap.size (k + 1) (d ++ [q']) wz ∧ Same (k + 1) ts (d ++ [q']) ∧ wz.ownsRow w.heap.size 87 3 (.slice (some ⟨w.heap.size, 0, none⟩) n n) n (flat ((d ++ [q']) ++ ts.drop (k + 1))) ∧ Below w.heap.size w wz) := by
      rintro wz rfl
      have hst := HO4.out.stored (k * 3) (.slice (some ⟨ga, 0, none⟩) q.l.length ca)
      refine ⟨⟨q.l, some ⟨ga, 0, none⟩, ca, q.f, q.t⟩, ?_, HQk.out _ rfl, ?_, HX4.out.setCell (Nat.le_refl _) _⟩
      · have hq : Own1 w.heap.size ga ⟨q.l, some ⟨ga, 0, none⟩, ca, q.f, q.t⟩ w4 := ⟨rfl, own_base HL4.out (by simp; omega)⟩
        exact (HD4.out.grown hst.2).snoc (hq.grown hst.2 (by omega)) (show w.heap.size < ga by omega) (fun i hi => by have := (HD.out.own i hi).lts; show blk (d.getD i t0).a < ga; omega)
      · rw [← mixt_set HD.out.len (by rw [HN.out]; exact hlt), ← flat_set1 _ k _ (by rw [HL.out]; exact hlt) (by rw [HMx.out]; exact ⟨rfl, rfl⟩)]; exact hst.1
    clear ho4 hb4 HL4 HO4 HD4 HX4 HO HD HX HBx HT1 HC1 HW0 y0 y1 y2 c0 c1 c2
    go_wp2
    go_roundw
    case rel =>
      obtain ⟨q', e1, e2, e3, e4⟩ := HE.out _ rfl
      exact ⟨k + 1, d ++ [q'], by omega, by go_num, e1, e2, e3, e4⟩
    case measure => simp [intOf]; omega
end Go.Proofs.YtkbaaidnkkcpoaaGreat.Stn
/- Series copied: the model's l7CopySamples, l7Copy. -/
namespace Go.Proofs.YtkbaaidnkkcpoaaGreat.Srs
open Go.RowKit
open Go.Proofs.YtkbaaidnkkcpoaaGreat.Lab (Lb HasL)
open Go.Proofs.YtkbaaidnkkcpoaaGreat.Smp (Sm HasS own_form)

/-- An append to a row of the call's own, as one step of a region that draws its order, and where the new row lies. -/
theorem step_append_at {P : Program} {ops : Array Oper} {o : Oper} {a : Act} {w : World} {K : Act → World → Prop} {Q : Exit → Act → World → Prop} {E : Prop}
    (hg : o.guard = none) (s x : Operand) (t : TypeId) (hop : o.op = Op.call { callee := Callee.builtin Builtin.append, args := #[s, x], argTypes := #[t, t] })
    (base : Nat) (e : TypeId) (i : TypeInfo) (z : Value) (size bytes : Nat) (h1 : P.underlying t = some (.slice e)) (h2 : P.info? e = some i) (h3 : i.zero = some z) (h4 : i.size = size) (h5 : i.bytes = bytes) (h6 : z.cells.size = size) (h7 : 0 < size)
    (ao : Option Addr) (n cap : Nat) (olds : List Value) (hs : a.eval s = .slice ao n cap) (hown : w.ownsRow base e size (.slice ao n cap) n olds)
    (ad : Addr) (m c : Nat) (news : List Value) (hx : a.eval x = .slice (some ad) m c) (hn : news.length = m * size) (hc : ∀ j u, news[j]? = some u → w.cell? (ad.add j) = some u) (h1c : ∀ u ∈ news, u.oneCell' = true)
    (b1 : n + m ≤ maxLen) (b2 : (n + m) * bytes ≤ 140737488355328) (hbase : base ≤ w.heap.size)
    (hK : ∀ v' w', w'.ownsRow base e size v' (n + m) (olds ++ news) → w.grownBy w' (Value.slice ao n cap).ownBlock → (v'.ownBlock = (Value.slice ao n cap).ownBlock ∨ v'.ownBlock = some w.heap.size) → K (a.put o.dst v') w') :
    if Region.wanted o (yielded ops a.tmps) = true then Oper.wp P o a w K Q else E := by
  have hw : Region.wanted o (yielded ops a.tmps) = true := by simp [Region.wanted, hg]
  rw [if_pos hw]
  obtain ⟨v', w', hrun, r1, r2, _, r4⟩ := run_append_own_at (P := P) w base t o.type e i z size bytes h1 h2 h3 h4 h5 h6 h7 (.slice ao n cap) n olds hown ad m c news hn hc h1c b1 b2 hbase
  unfold Oper.wp
  simp [execOp, hop, resolve, invoke, builtin, hs, hx, hrun, Result.andThen]
  exact hK v' w' r1 r2 r4
theorem infoQ2 : (Tryz.prog.info? 81).map (fun i => (i.zero, i.size, i.bytes)) = some (some (.agg #[.slice none 0 0, .slice none 0 0]), 2, 48) := by kernel_rfl
theorem infoS2 : (Tryz.prog.info? 103).map (fun i => (i.zero, i.size, i.bytes)) = some (some (.agg #[.int .i64 0, .int .i64 0]), 2, 16) := by kernel_rfl
theorem f138 (b off c : Nat) (L : List Sm) (w : World) (h20 : L.length ≤ 1048576) (hr : HasS w (some ⟨b, off, none⟩) L) :
    Calls Tryz.prog 138 #[.slice (some ⟨b, off, none⟩) L.length c] w fun e w' => ∃ v', e = .returned v' ∧ Smp.Own w' w.heap.size v' L ∧ Below w.heap.size w w' := by
  obtain ⟨i0, hi, hz0, hz1, hz2⟩ := info_parts infoS2
  have HN := hid (Smp.flat_cells hr)
  have H1 := hid (Smp.flat_oneCell L)
  clear hr
  go_enter Tryz.func138, Tryz.ntmps138
  go_wp2_with (at_builtin; refine wpList_append_own _ rfl (.tmp 4) (.tmp 5) 79 rfl w.heap.size 103 i0 (.agg #[.int .i64 0, .int .i64 0]) 2 16 Tryz.underlying79 hi hz0 hz1 hz2 rfl (by decide) _ _ _ rfl (World.ownsRow_nil w w.heap.size 103 2) ⟨b, off, none⟩ L.length c (Smp.flat L) rfl (Smp.flat_len L) HN.out H1.out ?d3 ?d4 ?d5 ?_)
  case d3 => unfold maxLen; omega
  case d4 => omega
  case d5 => exact Nat.le_refl _
  intro v1 w3 hown1 hgr1 _
  go_wp2
  go_ret
  refine ⟨v1, rfl, ?_, ?_⟩
  · unfold Smp.Own; simpa using hown1
  · exact (Below.refl _ w).grown hgr1 (Nat.le_refl _) (by intro k hk; simp [Value.ownBlock] at hk)
set_option maxRecDepth 10000 in
set_option maxHeartbeats 4000000 in
theorem f110 (a : Option Addr) (n c : Nat) (qs : List Q) (w : World) (hn : qs.length = n) (hb : n ≤ 1048576) (hr : HasQ w a qs) (hne : ∀ i, i < n → (qs.getD i q0).l ≠ [] ∧ (qs.getD i q0).s ≠ []) (hz : SmlQ qs) :
    Calls Tryz.prog 110 #[.slice a n c] w fun e w' => ∃ a' c' R, e = .returned (.slice a' n c') ∧ Hid (OwnO w.heap.size a' n c' R w') ∧ Hid (Same n qs R) ∧ Below w.heap.size w w' := by
  obtain ⟨i0, hi, hz0, hz1, hz2⟩ := info_parts infoQ2
  have HN := hid hn
  have HR := hid hr
  have HZ := hid hz
  have HNe := hid hne
  clear hn hr hz hne
  go_enter Tryz.func110, Tryz.ntmps110
  go_wp2
  go_loopw [3, 8] (fun so si wr => ∃ (k c' : Nat) (a' : Option Addr) (R : List Q), k ≤ n ∧ si = .int .i64 k ∧ so = .slice a' k c' ∧ Hid (OwnO w.heap.size a' k c' R wr) ∧ Hid (Same k qs R) ∧ Hid (Below w.heap.size w wr)) (fun _ si _ => n - (intOf si).toNat)
  case atStart => exact ⟨0, 0, none, [], Nat.zero_le _, rfl, rfl, OwnO.nil _ _, fun i hi => by omega, Below.refl _ _⟩
  case round =>
    obtain ⟨k, c', a', R, hk, rfl, rfl, HO, HSm, HX⟩ := hrel
    by_cases hlt : k < n
    rotate_left
    · obtain rfl : k = n := by omega
      go_wp2
      go_ret
      exact ⟨a', c', R, rfl, HO, HSm, HX.out⟩
    obtain ⟨b, off, rfl, hbl, c0, c1, t1, t2⟩ := (HR.out.below HX.out).at2 k (by rw [HN.out]; exact hlt)
    have HNq := hid (HNe.out k hlt)
    have HZq := hid (HZ.out k (by rw [HN.out]; exact hlt))
    have HQk : Hid (∀ q', pl q' = pl (qs.getD k q0) → Same (k + 1) qs (R ++ [q'])) := by
      intro q' he i hi
      rw [getD_snoc, HO.out.len]
      by_cases e : i = k
      · rw [if_pos e, e]; exact he
      · rw [if_neg e]; exact HSm.out i (by omega)
    generalize qs.getD k q0 = q at *
    have i1 : (k : Int) < (n : Int) := by omega
    have HW0 := hid ((Below.refl wr.heap.size wr).alloc (Nat.le_refl _) (.cells #[.slice q.a q.l.length q.c, .slice q.b q.s.length q.d] 81))
    have HBx := hid (heap_alloc_new wr (.cells #[.slice q.a q.l.length q.c, .slice q.b q.s.length q.d] 81))
    obtain ⟨bl, ol, hql⟩ : ∃ b o, q.a = some ⟨b, o, none⟩ := by
      rcases t1 with h | ⟨b, o, h, _⟩
      · exact absurd h HNq.out.1
      · exact ⟨b, o, h⟩
    obtain ⟨bs, os, hqs⟩ : ∃ b o, q.b = some ⟨b, o, none⟩ := by
      rcases t2 with h | ⟨b, o, h, _⟩
      · exact absurd h HNq.out.2
      · exact ⟨b, o, h⟩
    have HT1 := hid (t1.below HW0.out)
    have HT2 := hid (t2.below HW0.out)
    obtain ⟨W, hW⟩ : ∃ W, W = wr.alloc (.cells #[.slice q.a q.l.length q.c, .slice q.b q.s.length q.d] 81) := ⟨_, rfl⟩
    rw [← hW] at HW0 HBx HT1 HT2
    have hd2 : Below W.heap.size W W.drew := (Below.refl _ _).drew
    have hlp : 0 < q.l.length := List.length_pos_iff.2 HNq.out.1
    have hsp : 0 < q.s.length := List.length_pos_iff.2 HNq.out.2
    have hl1 : q.l.length ≤ 1048576 := HZq.out.1
    have hs1 : q.s.length ≤ 1048576 := HZq.out.2
    have hwW : wr.heap.size ≤ W.heap.size := HW0.out.size
    have hX0 : w.heap.size ≤ wr.heap.size := HX.out.size
    have HC1 : Hid (Calls Tryz.prog 76 #[.slice q.a q.l.length q.c] W.drew fun e w' => ∃ v', e = .returned v' ∧ OwnL w' W.drew.heap.size v' q.l ∧ Below W.drew.heap.size W.drew w') := by
      have h := HT1.out.below hd2
      rw [hql] at h ⊢
      exact f76 bl ol q.c q.l W.drew hl1 h
    have HC2 : Hid (∀ x, Below W.heap.size W x → Calls Tryz.prog 138 #[.slice q.b q.s.length q.d] x fun e w' => ∃ v', e = .returned v' ∧ Smp.Own w' x.heap.size v' q.s ∧ Below x.heap.size x w') := by
      intro x hx
      have h := HT2.out.below hx
      rw [hqs] at h ⊢
      exact f138 bs os q.d q.s x hs1 h
    clear t1 t2 hbl hql hqs
    go_wp2_with fail
    rw [← hW]
    clear hW c0 c1
    generalize hB : wr.heap.size = B at *
    refine wp_region_held_drew (S := fun x => SQ q B x) rfl (two (kept HBx.out hd2)) (fun hHeld => ?_)
    refine wpAnyH_take (i := 0) (oi := { dst := some 12, op := _, type := _, pos := _, after := _, guard := _ }) (v := .slice a' k c') rfl (by kernel_rfl) (by kernel_rfl) (by kernel_rfl) (fun _ _ _ h => h) (Or.inl ⟨by rfl, fun w hSw => by (try dsimp only at hSw); go_split_ands; go_simp⟩) (by assumption) ?_
    simp only [Act.put, List.setIfInBounds_toArray, List.set_cons_zero, List.set_cons_succ]
    refine wpAnyH_take (i := 1) (oi := { dst := some 13, op := _, type := _, pos := _, after := _, guard := _ }) (v := .pointer (some ⟨B, 0, none⟩)) rfl (by kernel_rfl) (by kernel_rfl) (by kernel_rfl) (fun _ _ _ h => h) (Or.inl ⟨by rfl, fun w hSw => by (try dsimp only at hSw); go_split_ands; go_simp⟩) (by assumption) ?_
    simp only [Act.put, List.setIfInBounds_toArray, List.set_cons_zero, List.set_cons_succ]
    refine wpAnyH_take (i := 2) (oi := { dst := some 14, op := _, type := _, pos := _, after := _, guard := _ }) (v := .slice q.a q.l.length q.c) rfl (by kernel_rfl) (by kernel_rfl) (by kernel_rfl) (fun _ _ _ h => h) (Or.inl ⟨by rfl, fun w hSw => by (try dsimp only at hSw); go_split_ands; go_simp⟩) (by assumption) ?_
    simp only [Act.put, List.setIfInBounds_toArray, List.set_cons_zero, List.set_cons_succ]
    refine wpAnyH_take (i := 4) (oi := { dst := some 16, op := _, type := _, pos := _, after := _, guard := _ }) (v := .pointer (some ⟨B, 1, none⟩)) rfl (by kernel_rfl) (by kernel_rfl) (by kernel_rfl) (fun _ _ _ h => h) (Or.inl ⟨by rfl, fun w hSw => by (try dsimp only at hSw); go_split_ands; go_simp⟩) (by assumption) ?_
    simp only [Act.put, List.setIfInBounds_toArray, List.set_cons_zero, List.set_cons_succ]
    refine wpAnyH_take (i := 5) (oi := { dst := some 17, op := _, type := _, pos := _, after := _, guard := _ }) (v := .slice q.b q.s.length q.d) rfl (by kernel_rfl) (by kernel_rfl) (by kernel_rfl) (fun _ _ _ h => h) (Or.inl ⟨by rfl, fun w hSw => by (try dsimp only at hSw); go_split_ands; go_simp⟩) (by assumption) ?_
    simp only [Act.put, List.setIfInBounds_toArray, List.set_cons_zero, List.set_cons_succ]
    refine wpAnyH_ready (rs := [3]) (by kernel_rfl) (by simp) (AllReadyH.cons (o := { dst := some 15, op := _, type := _, pos := _, after := _, guard := _ }) rfl ?_ AllReadyH.nil)
    intro K1 hK1
    go_simp
    go_wp2_with (go_at_call 76; refine HC1.out.mono ?_; rintro e w4 ⟨v4, rfl, ho4, hb4⟩; have hw4 : Below W.heap.size W w4 := hd2.trans (hb4.mono hd2.size))
    refine hK1.out _ _ (two (kept HBx.out hw4)) (fun _ => ?_)
    clear hK1 K1
    have HL4 := hid ho4
    clear ho4 hb4 hHeld
    refine wpAnyH_ready (rs := [6]) (by kernel_rfl) (by simp) (AllReadyH.cons (o := { dst := some 18, op := _, type := _, pos := _, after := _, guard := _ }) rfl ?_ AllReadyH.nil)
    intro K2 hK2
    go_simp
    go_wp2_with (go_at_call 138; refine (HC2.out w4 hw4).mono ?_; rintro e w5 ⟨v5, rfl, ho5, hb5⟩; have hw5 : Below W.heap.size W w5 := hw4.trans (hb5.mono hw4.size))
    refine hK2.out _ _ (two (kept HBx.out hw5)) (fun _ => ?_)
    clear hK2 K2
    obtain ⟨ga, ca, rfl⟩ := own_formC HL4.out hlp
    obtain ⟨gb, cb, rfl⟩ := own_formC ho5 hsp
    have HL5 := hid (own_below HL4.out hb5)
    have HS5 := hid ho5
    have hga : W.heap.size ≤ ga ∧ ga < w4.heap.size := ⟨Nat.le_trans hd2.size (HL4.out.lt ga rfl).1, (HL4.out.lt ga rfl).2⟩
    have hgb : w4.heap.size ≤ gb := (ho5.lt gb rfl).1
    have HW5 : Hid (Below B wr w5) := HW0.out.trans (hw5.mono hwW)
    have HX5 : Hid (Below w.heap.size w w5) := HX.out.trans (HW5.out.mono hX0)
    clear HL4 ho5 hb5
    obtain ⟨q', hq'⟩ : ∃ q' : Q, q' = ⟨q.l, some ⟨ga, 0, none⟩, ca, q.s, some ⟨gb, 0, none⟩, cb⟩ := ⟨_, rfl⟩
    have HQ5 : Hid (Own2 w.heap.size q' w5 ∧ B ≤ blk q'.a ∧ B ≤ blk q'.b ∧ pl q' = pl q ∧ cl q' = [.slice (some ⟨ga, 0, none⟩) q.l.length ca, .slice (some ⟨gb, 0, none⟩) q.s.length cb]) := by
      rw [hq']
      exact ⟨⟨rfl, rfl, own_base HL5.out (by have := hd2.size; omega), own_base HS5.out (by have := hw4.size; omega), (by show ga ≠ gb; omega)⟩, (show B ≤ ga by omega), (show B ≤ gb by have := hw4.size; omega), rfl, rfl⟩
    clear hq' HL5 HS5
    refine wpAnyH_take (i := 7) (oi := { dst := some 19, op := _, type := _, pos := _, after := _, guard := _ }) (v := .agg #[.slice (some ⟨ga, 0, none⟩) q.l.length ca, .slice (some ⟨gb, 0, none⟩) q.s.length cb]) rfl (by kernel_rfl) (by kernel_rfl) (by kernel_rfl) (fun _ _ _ h => h) (Or.inl ⟨by rfl, fun w hSw => by (try dsimp only at hSw); go_split_ands; go_simp⟩) (by assumption) ?_
    simp only [Act.put, List.setIfInBounds_toArray, List.set_cons_zero, List.set_cons_succ]
    have hba := (Below.refl w5.heap.size w5).alloc (Nat.le_refl _) (.cells #[.slice (some ⟨ga, 0, none⟩) q.l.length ca, .slice (some ⟨gb, 0, none⟩) q.s.length cb] 81)
    have hwa := hw5.trans (hba.mono hw5.size)
    refine wpAnyH_ready (rs := [8]) (by kernel_rfl) (by simp) (AllReadyH.cons (o := { dst := some 20, op := _, type := _, pos := _, after := _, guard := _ }) rfl ?_ AllReadyH.nil)
    intro K3 hK3
    go_simp
    refine hK3.out _ _ (two (kept HBx.out hwa)) (fun _ => ?_)
    clear hK3 K3
    try simp only [Act.put, List.setIfInBounds_toArray, List.set_cons_zero, List.set_cons_succ]
    have HO5 : Hid (OwnO w.heap.size a' k c' R w5) := HO.out.below (by rw [hB]; exact HW5.out)
    have HOlt : Hid (∀ g, (Value.slice a' k c').ownBlock = some g → w.heap.size ≤ g ∧ g < B) := fun g hg => by have := HO.out.row.lt g hg; rw [hB] at this; exact this
    refine wpAnyH_ready (rs := [9]) (by kernel_rfl) (by simp) (AllReadyH.cons (o := { dst := some 21, op := _, type := _, pos := _, after := _, guard := _ }) rfl ?_ AllReadyH.nil)
    intro K4 hK4
    refine step_append_at rfl (.tmp 12) (.tmp 20) 41 rfl w.heap.size 81 i0 (.agg #[.slice none 0 0, .slice none 0 0]) 2 48 Tryz.underlying41 hi hz0 hz1 hz2 rfl (by decide) _ _ _ _ rfl (HO5.out.row.alloc _) ⟨w5.heap.size, 0, none⟩ 1 1 [.slice (some ⟨ga, 0, none⟩) q.l.length ca, .slice (some ⟨gb, 0, none⟩) q.s.length cb] rfl rfl (Smp.two_new w5 _ _ _) (by intro u hu; simp at hu; rcases hu with rfl | rfl <;> rfl) (by unfold maxLen; omega) (by omega) (by have := HX5.out.size; simp; omega) ?_
    intro v8 w8 hown8 hgr8 hat8
    obtain ⟨a8, c8, rfl⟩ := own_form hown8
    have hby : w8.heap[B]? = some (.cells #[.slice q.a q.l.length q.c, .slice q.b q.s.length q.d] 81) := (hgr8.block _ (lt_at (kept HBx.out hwa)) (fun e => by have := (HOlt.out _ e.symm).2; omega)).trans (kept HBx.out hwa)
    refine hK4.out _ _ (two hby) (fun _ => ?_)
    clear hK4 K4
    simp only [Act.put, List.setIfInBounds_toArray, List.set_cons_zero, List.set_cons_succ]
    refine wpAnyH_take (i := 10) (oi := { dst := some 3, op := _, type := _, pos := _, after := _, guard := _ }) (v := .slice a8 (k + 1) c8) rfl (by kernel_rfl) (by kernel_rfl) (by kernel_rfl) (fun _ _ _ h => h) (Or.inl ⟨by rfl, fun w hSw => by (try dsimp only at hSw); go_split_ands; go_simp⟩) (by assumption) ?_
    simp only [Act.put, List.setIfInBounds_toArray, List.set_cons_zero, List.set_cons_succ]
    refine wpAnyH_done (by kernel_rfl) ?_ _
    have HX8 := hid ((HX5.out.alloc HX5.out.size (.cells #[.slice (some ⟨ga, 0, none⟩) q.l.length ca, .slice (some ⟨gb, 0, none⟩) q.s.length cb] 81)).grown hgr8 (by have := HX5.out.size; simp; omega) (fun j hj => (HOlt.out j hj).1))
    have HO8 : Hid (OwnO w.heap.size a8 (k + 1) c8 (R ++ [q']) w8) := by
      refine HO.out.push (by rw [hB]; exact HW5.out.trans (hba.mono (by have := HW5.out.size; omega))) (HQ5.out.1.below hba) (by rw [hB]; exact HQ5.out.2.1) (by rw [hB]; exact HQ5.out.2.2.1) hgr8 ?_ hat8
      have e : flat (R ++ [q']) = flat R ++ [.slice (some ⟨ga, 0, none⟩) q.l.length ca, .slice (some ⟨gb, 0, none⟩) q.s.length cb] := by
        rw [flat_append]
        show flat R ++ (cl q' ++ []) = _
        rw [HQ5.out.2.2.2.2, List.append_nil]
      rw [e]
      exact hown8
    have HS8 := hid (HQk.out q' HQ5.out.2.2.2.1)
    clear hown8 hgr8 hat8 hby hwa hba hw5 hw4
    go_wp2
    go_roundw
    case rel => exact ⟨k + 1, c8, a8, R ++ [q'], by omega, by go_num, rfl, HO8, HS8, HX8⟩
    case measure => simp [intOf]; omega
end Go.Proofs.YtkbaaidnkkcpoaaGreat.Srs
/- Series and stones marked: what is written, and that nothing else is; stones held. -/
namespace Go.Proofs.YtkbaaidnkkcpoaaGreat.Srs
open Go.RowKit
open Go.Proofs.YtkbaaidnkkcpoaaGreat.Lab (Lb HasL)
open Go.Proofs.YtkbaaidnkkcpoaaGreat.Smp (Sm HasS)

/-- The series while they are being marked: the first i are. -/
structure Mf (X Y g n c k i : Nat) (qs : List Q) (w x : World) : Prop where
  row : x.ownsRow X 81 2 (.slice (some ⟨g, 0, none⟩) n c) n (flat qs)
  done : ∀ j, j < i → Own2 X (mq (k + 2 * tot qs j) (qs.getD j q0)) x
  own : ∀ j, i ≤ j → j < n → Own2 X (qs.getD j q0) x
  fr : Fr X Y w x
set_option maxHeartbeats 2000000 in
theorem f33f (X Y g n c k : Nat) (qs : List Q) (w : World) (hb : n ≤ 1048576) (hk : k + 2 * tot qs n ≤ 100000000) (ho : OwnG X g n c qs w) (hY : ∀ i, i < n → blk (qs.getD i q0).a < Y ∧ blk (qs.getD i q0).b < Y) :
    Calls Tryz.prog 33 #[.slice (some ⟨g, 0, none⟩) n c, .int .i64 k] w fun e w' => e = .returned (.int .i64 ((k + 2 * tot qs n : Nat) : Int)) ∧ OwnG X g n c (mqs k qs) w' ∧ Fr X Y w w' := by
  have HN := hid ho.len
  have HK := hid hk
  have HA := hid ho.apt
  have HY := hid hY
  have H0 : Hid (Mf X Y g n c k 0 qs w w) := ⟨ho.row, fun j hj => by omega, fun j _ hj => ho.own j hj, Fr.refl _ _ _⟩
  clear hk ho hY
  go_enter Tryz.func33, Tryz.ntmps33
  go_wp2
  go_loopw [1, 5] (fun sk si wr => ∃ (i m : Nat), i ≤ n ∧ si = .int .i64 i ∧ sk = .int .i64 (m : Int) ∧ Hid (m = k + 2 * tot qs i) ∧ Hid (Mf X Y g n c k i qs w wr)) (fun _ si _ => n - (intOf si).toNat)
  case atStart => exact ⟨0, k, Nat.zero_le _, rfl, rfl, rfl, H0.out⟩
  case round =>
    obtain ⟨i, m, hi, rfl, rfl, hm, HM⟩ := hrel
    by_cases hlt : i < n
    rotate_left
    · obtain rfl : i = n := by omega
      have HE : Hid (OwnG X g i c (mqs k qs) wr) := by
        have hl := HN.out
        refine ⟨(mqs_len k qs).trans hl, by rw [flat_mqs]; exact HM.out.row, fun j hj => by rw [mqs_get k qs j (by omega)]; exact HM.out.done j hj, ⟨fun j hj => ?_, fun j j' hj hj' hne => ?_⟩⟩
        · rw [mqs_get k qs j (by omega)]; exact HA.out.nea j hj
        · rw [mqs_get k qs j (by omega), mqs_get k qs j' (by omega)]; exact HA.out.dis j j' hj hj' hne
      have HB := hid HM.out.fr
      go_wp2
      go_ret
      exact ⟨by rw [← hm.out]; rfl, HE.out, HB.out⟩
    have HO := hid (HM.out.own i (Nat.le_refl _) hlt)
    obtain ⟨y0, y1⟩ := flat_get qs i (by rw [HN.out]; exact hlt)
    have c0 := (HM.out.row.cellAt (i * 2) (by omega)).trans y0
    have c1 := (HM.out.row.cellAt (i * 2 + 1) (by omega)).trans y1
    have HT : Hid (tot qs (i + 1) = tot qs i + (qs.getD i q0).l.length + (qs.getD i q0).s.length) := rfl
    have HTn := hid (tot_mono qs n (i + 1) hlt)
    have HDi := hid (fun j (h1 : j < n) (h2 : j ≠ i) => HA.out.dis j i h1 hlt h2)
    have HNi := hid (HA.out.nea i hlt)
    have HYi := hid (HY.out i hlt)
    rw [HO.out.ha] at c0
    rw [HO.out.hb] at c1
    obtain ⟨q, hq⟩ : ∃ q, q = qs.getD i q0 := ⟨_, rfl⟩
    have HQ := hid hq
    rw [← hq] at c0 c1 HO HT HDi HNi HYi
    clear hq y0 y1
    have hab := HO.out.ne
    have N1 : Hid (m + 2 * q.l.length + 2 * q.s.length ≤ 100000000) := by unfold Hid; have := hm.out; have := HK.out; have := HTn.out; have := HT.out; omega
    go_wp2_with fail
    refine (Lab.f62 (blk q.a) q.l.length q.c X m q.l _ rfl (by have := N1.out; omega) HO.out.lab).mono ?_
    rintro e w2 ⟨rfl, hl2, hg2⟩
    have HL2 := hid hl2
    have HR2 := hid (own_grown HM.out.row hg2 (Ne.symm HNi.out.1))
    have HS2 := hid (own_grown HO.out.smp hg2 (Ne.symm hab))
    have HD2 : Hid (∀ j, j < i → Own2 X (mq (k + 2 * tot qs j) (qs.getD j q0)) w2) := fun j h1 => (HM.out.done j h1).grown hg2 (HDi.out j (by omega) (by omega)).1 (HDi.out j (by omega) (by omega)).2.2.1
    have HA2 : Hid (∀ j, i + 1 ≤ j → j < n → Own2 X (qs.getD j q0) w2) := fun j h1 h2 => (HM.out.own j (by omega) h2).grown hg2 (HDi.out j h2 (by omega)).1 (HDi.out j h2 (by omega)).2.2.1
    have HB2 := hid (HM.out.fr.grown hg2 HO.out.lo.1 HYi.out.1)
    have d1 : w2.cell? ⟨g, i * 2 + 1, none⟩ = some (.slice (some ⟨blk q.b, 0, none⟩) q.s.length q.d) := by
      have e := hg2.block g (HM.out.row.lt g rfl).2 (fun e => HNi.out.1 (Option.some.inj e).symm)
      simp only [World.cell?, e]
      exact c1
    clear hg2 hl2 c0 c1
    go_wp2_with fail
    refine (Smp.f63 (blk q.b) q.d X (m + 2 * q.l.length) q.s _ (by have := N1.out; omega) HS2.out).mono ?_
    rintro e w3 ⟨rfl, hs3, hg3⟩
    have HM3 : Hid (Mf X Y g n c k (i + 1) qs w w3) := by
      refine ⟨own_grown HR2.out hg3 (Ne.symm HNi.out.2), fun j h1 => ?_, fun j h1 h2 => (HA2.out j h1 h2).grown hg3 (HDi.out j h2 (by omega)).2.1 (HDi.out j h2 (by omega)).2.2.2, HB2.out.grown hg3 HO.out.lo.2 HYi.out.2⟩
      by_cases e : j = i
      · rw [e, ← HQ.out, ← hm.out]
        exact ⟨HO.out.ha, HO.out.hb, by simp only [mq, Lab.markL_len]; exact own_grown HL2.out hg3 hab, by simp only [mq, Smp.markL_len]; exact hs3, hab⟩
      · exact (HD2.out j (by omega)).grown hg3 (HDi.out j (by omega) e).2.1 (HDi.out j (by omega) e).2.2.2
    have HE : Hid (m + 2 * q.l.length + 2 * q.s.length = k + 2 * tot qs (i + 1)) := by unfold Hid; have := hm.out; have := HT.out; omega
    clear hg3 hs3 d1 HM HR2 HS2 HA2 HD2 HB2 HL2
    go_wp2
    go_roundw
    case rel => exact ⟨i + 1, m + 2 * q.l.length + 2 * q.s.length, by omega, by go_num, by simp, HE.out, HM3.out⟩
    case measure => simp [intOf]; omega
end Go.Proofs.YtkbaaidnkkcpoaaGreat.Srs
namespace Go.Proofs.YtkbaaidnkkcpoaaGreat.Stn
open Go.RowKit
open Go.Proofs.YtkbaaidnkkcpoaaGreat.Lab (Lb HasL)
open Go.Proofs.YtkbaaidnkkcpoaaGreat.Srs (hid blk Fr own_fr own_grown own_below)

/-- A stone marked from k on. -/
def mt (k : Nat) (q : T) : T := ⟨Lab.markL k q.l.length, q.a, q.c, (k + 2 * q.l.length : Nat), (k + 2 * q.l.length + 1 : Nat)⟩
/-- How far the marks of the first i stones reach. -/
def mk (ts : List T) (i : Nat) : Nat := 2 * tot ts i + 2 * i
def mts (k : Nat) (ts : List T) : List T := (List.range ts.length).map fun j => mt (k + mk ts j) (ts.getD j t0)
theorem mts_len (k : Nat) (ts : List T) : (mts k ts).length = ts.length := by simp [mts]
theorem mts_get (k : Nat) (ts : List T) (j : Nat) (h : j < ts.length) : (mts k ts).getD j t0 = mt (k + mk ts j) (ts.getD j t0) := by simp [mts, h]
theorem mk_succ (ts : List T) (i : Nat) : mk ts (i + 1) = mk ts i + 2 * (ts.getD i t0).l.length + 2 := by unfold mk; simp only [tot]; omega
/-- The first i of the stones are marked. -/
def half (k : Nat) (ts : List T) (i : Nat) : List T := (mts k ts).take i ++ ts.drop i
theorem half_len (k : Nat) (ts : List T) (i : Nat) (h : i ≤ ts.length) : (half k ts i).length = ts.length := by simp [half, mts_len]; omega
theorem half_get (k : Nat) (ts : List T) (i j : Nat) (h : i ≤ j) (hi : i ≤ ts.length) : (half k ts i).getD j t0 = ts.getD j t0 := by
  unfold half
  rw [List.getD_eq_getElem?_getD, List.getD_eq_getElem?_getD, List.getElem?_append_right (by simp [mts_len]; omega), List.getElem?_drop]
  congr 2
  simp [mts_len]; omega
theorem half_set (k : Nat) (ts : List T) (i : Nat) (h : i < ts.length) : (half k ts i).set i (mt (k + mk ts i) (ts.getD i t0)) = half k ts (i + 1) := by
  unfold half
  have hl : ((mts k ts).take i).length = i := by simp [mts_len]; omega
  have hg : (mts k ts)[i]? = some (mt (k + mk ts i) (ts.getD i t0)) := by
    rw [← mts_get k ts i h, List.getD_eq_getElem?_getD]
    have : i < (mts k ts).length := by rw [mts_len]; exact h
    simp [this]
  rw [List.set_append_right _ _ (by omega), hl, Nat.sub_self, List.drop_eq_getElem_cons h, List.set_cons_zero, List.take_add_one, hg, List.append_assoc]
  rfl
theorem half_end (k : Nat) (ts : List T) : half k ts ts.length = mts k ts := by
  unfold half
  rw [List.drop_eq_nil_of_le (Nat.le_refl _), List.append_nil, List.take_of_length_le (by rw [mts_len]; exact Nat.le_refl _)]
/-- The stones while they are being marked. -/
structure Mf (X Y g n k i : Nat) (ts : List T) (w x : World) : Prop where
  row : x.ownsRow X 87 3 (.slice (some ⟨g, 0, none⟩) n n) n (flat (half k ts i))
  done : ∀ j, j < i → Own1 X (blk (ts.getD j t0).a) (mt (k + mk ts j) (ts.getD j t0)) x
  own : ∀ j, i ≤ j → j < n → Own1 X (blk (ts.getD j t0).a) (ts.getD j t0) x
  fr : Fr X Y w x
set_option maxHeartbeats 4000000 in
theorem f34f (X Y g n k : Nat) (ts : List T) (w : World) (hn : ts.length = n) (hb : n ≤ 1048576) (hk : k + mk ts n ≤ 100000000) (ho : OwnT X g n ts w) (hX : X ≤ g) (hg : g < Y) (hY : ∀ i, i < n → blk (ts.getD i t0).a < Y) :
    Calls Tryz.prog 34 #[.slice (some ⟨g, 0, none⟩) n n, .int .i64 k] w fun e w' => e = .returned (.int .i64 ((k + mk ts n : Nat) : Int)) ∧ OwnT X g n (mts k ts) w' ∧ Fr X Y w w' := by
  have HN := hid hn
  have HY := hid hY
  have HK := hid hk
  have HD := hid ho.kin.dis
  have HF := hid ho.kin.off
  have H0 : Hid (Mf X Y g n k 0 ts w w) := ⟨ho.row, fun j hj => by omega, fun j _ hj => ho.kin.own j hj, Fr.refl _ _ _⟩
  clear hn hY hk ho
  go_enter Tryz.func34, Tryz.ntmps34
  go_wp2
  go_loopw [1, 5] (fun sk si wr => ∃ (i m : Nat), i ≤ n ∧ si = .int .i64 i ∧ sk = .int .i64 (m : Int) ∧ Hid (m = k + mk ts i) ∧ Hid (Mf X Y g n k i ts w wr)) (fun _ si _ => n - (intOf si).toNat)
  case atStart => exact ⟨0, k, Nat.zero_le _, rfl, rfl, rfl, H0.out⟩
  case round =>
    obtain ⟨i, m, hi, rfl, rfl, hm, HM⟩ := hrel
    by_cases hlt : i < n
    rotate_left
    · obtain rfl : i = n := by omega
      have HX : Hid (OwnT X g i (mts k ts) wr ∧ Fr X Y w wr) := by
        have hl := HN.out
        have hr := HM.out.row
        rw [← hl] at hr
        rw [half_end, hl] at hr
        have key : ∀ j, j < i → Own1 X (blk ((mts k ts).getD j t0).a) ((mts k ts).getD j t0) wr ∧ blk ((mts k ts).getD j t0).a = blk (ts.getD j t0).a := fun j hj => by
          rw [mts_get k ts j (by omega)]; exact ⟨HM.out.done j hj, rfl⟩
        refine ⟨⟨hr, ⟨(mts_len k ts).trans hl, fun j hj => (key j hj).1, fun j hj => by rw [(key j hj).2]; exact HF.out j hj, fun j j' h1 h2 => by rw [(key j (by omega)).2, (key j' h2).2]; exact HD.out j j' h1 h2⟩⟩, HM.out.fr⟩
      go_wp2
      go_ret
      exact ⟨by rw [← hm.out]; rfl, HX.out.1, HX.out.2⟩
    have HO := hid (HM.out.own i (Nat.le_refl _) hlt)
    have row := HM.out.row
    have HL' : Hid ((half k ts i).length = n) := by unfold Hid; rw [half_len k ts i (by rw [HN.out]; exact hi), HN.out]
    obtain ⟨y0, y1, y2⟩ := flat_get (half k ts i) i (by rw [HL'.out]; exact hlt)
    have HHg := hid (half_get k ts i i (Nat.le_refl _) (by rw [HN.out]; exact hi))
    rw [HHg.out] at y0 y1 y2
    have c0 := (row.cellAt (i * 3) (by omega)).trans y0
    have HT := hid (mk_succ ts i)
    have HTn : Hid (mk ts (i + 1) ≤ mk ts n) := by unfold Hid mk; have := tot_mono ts n (i + 1) hlt; omega
    have HDi := hid (fun j (h1 : i < j) (h2 : j < n) => HD.out i j h1 h2)
    have HDj := hid (fun j (h1 : j < i) => HD.out j i h1 hlt)
    have HFi := hid (HF.out i hlt)
    have HYi := hid (HY.out i hlt)
    rw [HO.out.ha] at c0
    have HHs := hid (half_set k ts i (by rw [HN.out]; exact hlt))
    obtain ⟨q, hq⟩ : ∃ q, q = ts.getD i t0 := ⟨_, rfl⟩
    have HQ := hid hq
    rw [← hq] at c0 HO HT HDi HDj HFi HYi HHs HHg
    have HRow := hid row
    rw [← hq] at y0 y1 y2
    clear hq row
    have hlo : X ≤ blk q.a := (HO.out.lab.lt _ rfl).1
    generalize hga : blk q.a = ga at *
    have N1 : Hid (m + 2 * q.l.length + 2 ≤ 100000000) := by unfold Hid; have := hm.out; have := HK.out; have := HTn.out; have := HT.out; omega
    go_wp2_with fail
    refine (Lab.f62 ga q.l.length q.c X m q.l _ rfl (by have := N1.out; omega) HO.out.lab).mono ?_
    rintro e w2 ⟨rfl, hl2, hg2⟩
    have HL2 := hid hl2
    have HR2 := hid (own_grown HRow.out hg2 (by have := HFi.out; omega))
    have HA2 : Hid (∀ j, i + 1 ≤ j → j < n → Own1 X (blk (ts.getD j t0).a) (ts.getD j t0) w2) := fun j h1 h2 =>
      (HM.out.own j (by omega) h2).grown hg2 (by have := HDi.out j (by omega) h2; omega)
    have HB2 : Hid (∀ j, j < i → Own1 X (blk (ts.getD j t0).a) (mt (k + mk ts j) (ts.getD j t0)) w2) := fun j h1 =>
      (HM.out.done j h1).grown hg2 (by have := HDj.out j h1; omega)
    have HF2 := hid (HM.out.fr.grown hg2 hlo HYi.out)
    have d1 := (HR2.out.cellAt (i * 3 + 1) (by omega)).trans y1
    have d2 := (HR2.out.cellAt (i * 3 + 2) (by omega)).trans y2
    have f1 := HR2.out.frozenAt (i * 3 + 1)
    have f2 := HR2.out.frozenAt (i * 3 + 2)
    obtain ⟨M, hM⟩ : ∃ M, M = m + 2 * q.l.length := ⟨_, rfl⟩
    rw [← hM]
    have HE : Hid (M + 2 = k + mk ts (i + 1)) := by unfold Hid; have := hm.out; have := HT.out; omega
    have hM1 : M ≤ 99999999 := by have := N1.out; omega
    have HMq : Hid (mt (k + mk ts i) q = ⟨Lab.markL m q.l.length, q.a, q.c, (M : Int), (M : Int) + 1⟩) := by
      unfold Hid mt
      rw [← hm.out, ← hM]
      rfl
    have HM3 : Hid (∀ x, x = (w2.setCell ⟨g, i * 3 + 1, none⟩ (.int .i64 (M : Int))).setCell ⟨g, i * 3 + 2, none⟩ (.int .i64 ((M : Int) + 1)) → Mf X Y g n k (i + 1) ts w x) := by
      rintro x rfl
      have s1 := HR2.out.stored (i * 3 + 1) (.int .i64 (M : Int))
      have s2 := s1.1.stored (i * 3 + 2) (.int .i64 ((M : Int) + 1))
      refine ⟨?_, fun j h1 => ?_, fun j h1 h2 => ?_, ?_⟩
      · have e : ((flat (half k ts i)).set (i * 3 + 1) (.int .i64 (M : Int))).set (i * 3 + 2) (.int .i64 ((M : Int) + 1)) = flat (half k ts (i + 1)) := by
          rw [flat_set2 _ i _ _ (by rw [HL'.out]; exact hlt), HHg.out, ← HHs.out, HMq.out]
          rw [← flat_set _ i _ (by rw [HL'.out]; exact hlt), ← flat_set _ i _ (by rw [HL'.out]; exact hlt)]
          simp only [Lab.markL_len]
        rw [← e]; exact s2.1
      · by_cases e : j = i
        · rw [e, ← HQ.out, hga, HMq.out]
          have h0 : Own1 X ga ⟨Lab.markL m q.l.length, q.a, q.c, (M : Int), (M : Int) + 1⟩ w2 := ⟨HO.out.ha, by simp only [Lab.markL_len]; exact HL2.out⟩
          exact (h0.grown s1.2 (by have := HFi.out; omega)).grown s2.2 (by have := HFi.out; omega)
        · have hj := HF.out j (by omega)
          exact ((HB2.out j (by omega)).grown s1.2 (by omega)).grown s2.2 (by omega)
      · have hj := HF.out j h2
        exact ((HA2.out j h1 h2).grown s1.2 (by omega)).grown s2.2 (by omega)
      · exact (HF2.out.grown s1.2 hX hg).grown s2.2 hX hg
    clear hg2 hl2 y0 y1 y2 c0 HM HR2 HA2 HB2 HF2 HRow hM N1 HL2
    go_wp2
    go_roundw
    case rel => exact ⟨i + 1, M + 2, by omega, by go_num, by go_num, HE.out, HM3.out _ rfl⟩
    case measure => simp [intOf]; omega
end Go.Proofs.YtkbaaidnkkcpoaaGreat.Stn
/- Blocks copied: the program's copyBlock; stones held. -/
namespace Go.Proofs.YtkbaaidnkkcpoaaGreat.Blk
open Go.RowKit
open Go.Proofs.YtkbaaidnkkcpoaaGreat.Lab (Lb HasL)
open Go.Proofs.YtkbaaidnkkcpoaaGreat.Srs (hid lt_at kept blk own_base own_below own_grown set_else set_at OwnG OwnG.below Q q0 HasQ SmlQ Fr own_fr)
open Go.Proofs.YtkbaaidnkkcpoaaGreat.Stn (T t0 OwnT HasT SmlT)

/-- A block in memory of its own, from X on and below Y: its series, then its stones. -/
structure OwnC (X Y : Nat) (h : Bk) (w : World) : Prop where
  ex : ∃ g k M, h.a = some ⟨g, 0, none⟩ ∧ h.b = some ⟨k, 0, none⟩ ∧ h.c = h.qs.length ∧ h.d = h.ts.length ∧ OwnG X g h.qs.length h.c h.qs w ∧ OwnT M k h.ts.length h.ts w ∧ X ≤ M ∧ g < M ∧ (∀ i, i < h.qs.length → blk (h.qs.getD i q0).a < M ∧ blk (h.qs.getD i q0).b < M) ∧ M ≤ k ∧ k < Y ∧ (∀ i, i < h.ts.length → blk (h.ts.getD i t0).a < Y)
  top : Y ≤ w.heap.size
theorem OwnC.has {X Y : Nat} {h : Bk} {w : World} (o : OwnC X Y h w) : HasB w h := by
  obtain ⟨g, k, M, e1, e2, e3, e4, o1, o2, _⟩ := o.ex
  exact ⟨by rw [e1]; exact o1.has, by rw [e2]; exact o2.has⟩
theorem OwnC.below {X Y : Nat} {h : Bk} {w w' : World} (o : OwnC X Y h w) (hb : Below w.heap.size w w') : OwnC X Y h w' := by
  obtain ⟨g, k, M, e1, e2, e3, e4, o1, o2, r⟩ := o.ex
  exact ⟨⟨g, k, M, e1, e2, e3, e4, o1.below hb, o2.below hb, r⟩, Nat.le_trans o.top hb.size⟩
/-- What a copy asks of a block. -/
structure Cpb (h : Bk) : Prop where
  sml : SmlB h
  ne : ∀ i, i < h.qs.length → (h.qs.getD i q0).l ≠ [] ∧ (h.qs.getD i q0).s ≠ []
  cap : ∀ i, i < h.qs.length → (h.qs.getD i q0).d = (h.qs.getD i q0).s.length
  net : ∀ i, i < h.ts.length → (h.ts.getD i t0).l ≠ []
theorem own2_set {X : Nat} {q : Q} {w : World} (h : Srs.Own2 X q w) {p : Addr} (hp : p.block < X) (v : Value) : Srs.Own2 X q (w.setCell p v) :=
  ⟨h.ha, h.hb, Srs.own_set h.lab (by have := h.lo.1; omega) v, Srs.own_set h.smp (by have := h.lo.2; omega) v, h.ne⟩
theorem owng_set {X g n c : Nat} {qs : List Q} {w : World} (h : OwnG X g n c qs w) {p : Addr} (hp : p.block < X) (v : Value) : OwnG X g n c qs (w.setCell p v) :=
  ⟨h.len, Srs.own_set h.row (by have := (h.row.lt g rfl).1; omega) v, fun i hi => own2_set (h.own i hi) hp v, h.apt⟩
set_option maxRecDepth 10000 in
set_option maxHeartbeats 8000000 in
theorem f31 (h : Bk) (w : World) (hr : HasB w h) (hc : Cpb h) :
    Calls Tryz.prog 31 #[agB h] w fun e w' => ∃ h', e = .returned (agB h') ∧ Hid (SameB h h') ∧ Hid (OwnC w.heap.size w'.heap.size h' w') ∧ Below w.heap.size w w' := by
  obtain ⟨F, TT, LL, qs, a, c, ts, b, d⟩ := h
  obtain ⟨hz, hne, hcap, hnet⟩ := hc
  simp only at hne hcap hnet
  obtain ⟨W, hW⟩ : ∃ W, W = (w.alloc (.cells #[.int .i64 F, .int .i64 TT, .int .i64 LL, .slice a qs.length c, .slice b ts.length d] 44)).alloc Z5 := ⟨_, rfl⟩
  have HWb : Hid (Below w.heap.size w W ∧ W.heap[w.heap.size]? = some (.cells #[.int .i64 F, .int .i64 TT, .int .i64 LL, .slice a qs.length c, .slice b ts.length d] 44) ∧ W.heap[w.heap.size + 1]? = some Z5 ∧ W.heap.size = w.heap.size + 1 + 1) := by
    subst hW
    have h2 := heap_alloc_new (w.alloc (.cells #[.int .i64 F, .int .i64 TT, .int .i64 LL, .slice a qs.length c, .slice b ts.length d] 44)) Z5
    simp only [World.size_alloc] at h2
    exact ⟨((Below.refl w.heap.size w).alloc (Nat.le_refl _) _).alloc (by simp) _, (Below.heap_alloc _ _ w.heap.size (by simp)).trans (heap_alloc_new w _), h2, by simp⟩
  have hd2 : Below W.heap.size W W.drew := (Below.refl _ _).drew
  have hrW := hr.below HWb.out.1
  have HC1 := hid (Srs.f60 a qs.length c qs W.drew rfl hz.1 (hrW.1.below hd2) hne hz.2.1 hcap)
  have HC2 := fun x (hx : Below W.heap.size W x) => hid (Stn.f61 b ts.length d ts x rfl hz.2.2.1 (hrW.2.below hx) hnet hz.2.2.2)
  have HL0 : Hid (qs.length = qs.length) := rfl
  clear hr hz hne hcap hnet hrW
  simp only [agB, clB]
  go_enter Tryz.func31, Tryz.ntmps31
  obtain ⟨a0, a1, a2, a3, a4⟩ := five HWb.out.2.1
  obtain ⟨b0, b1, b2, b3, b4⟩ := five (kept HWb.out.2.1 hd2)
  go_wp2_with fail
  rw [← hW]
  clear hW
  go_region_with (first | (go_at_call 60; refine HC1.out.mono ?_; rintro e w4 ⟨qs4, rfl, ho4, hs4, hb4⟩; have hw4 : Below W.heap.size W w4 := hd2.trans (hb4.mono hd2.size); obtain ⟨p0, p1, p2, p3, p4⟩ := five (kept HWb.out.2.1 hw4)) | (go_at_call 61; refine (HC2 w4 hw4).out.mono ?_; rintro e w5 ⟨ts5, rfl, ho5, hs5, hb5⟩; have hw5 : Below W.heap.size W w5 := hw4.trans (hb5.mono hw4.size); obtain ⟨q0', q1', q2', q3', q4'⟩ := five (kept HWb.out.2.1 hw5); have r3 := five_frz (o := 3) (kept HWb.out.2.1 hw5); have r4 := five_frz (o := 4) (kept HWb.out.2.1 hw5)))
  all_goals
    have ho4' : OwnG W.heap.size W.heap.size qs.length qs.length qs4 w4 := ho4.out
    have l4 : W.heap.size ≤ w4.heap.size := hw4.size
    have HWs := hid HWb.out.2.2.2
    have hlt4 : W.heap.size < w4.heap.size := (ho4'.row.lt W.heap.size rfl).2
    have HTp4 : Hid (∀ i, i < qs.length → blk (qs4.getD i q0).a < w4.heap.size ∧ blk (qs4.getD i q0).b < w4.heap.size) := fun i hi => (ho4'.own i hi).hi
    have HTp5 : Hid (∀ i, i < ts.length → blk (ts5.getD i t0).a < w5.heap.size) := fun i hi => (ho5.out.kin.own i hi).lts
    have hlt5 : w4.heap.size < w5.heap.size := (ho5.out.row.lt w4.heap.size rfl).2
    obtain ⟨w6, hw6⟩ : ∃ w6, w6 = (w5.setCell ⟨w.heap.size, 3, none⟩ (.slice (some ⟨W.heap.size, 0, none⟩) qs.length qs.length)).setCell ⟨w.heap.size, 4, none⟩ (.slice (some ⟨w4.heap.size, 0, none⟩) ts.length ts.length) := ⟨_, rfl⟩
    have H6 : Hid (w6.heap[w.heap.size]? = some (.cells #[.int .i64 F, .int .i64 TT, .int .i64 LL, .slice (some ⟨W.heap.size, 0, none⟩) qs.length qs.length, .slice (some ⟨w4.heap.size, 0, none⟩) ts.length ts.length] 44) ∧ w6.heap[w.heap.size + 1]? = some Z5 ∧ OwnG W.heap.size W.heap.size qs.length qs.length qs4 w6 ∧ OwnT w4.heap.size w4.heap.size ts.length ts5 w6 ∧ Below w.heap.size w w6 ∧ w6.heap.size = w5.heap.size) := by
      have hWs := HWs.out
      rw [hw6]
      refine ⟨set_at (i := 4) (set_at (i := 3) (kept HWb.out.2.1 hw5)), set_else (set_else (kept HWb.out.2.2.1 hw5) (by simp only; omega)) (by simp only; omega), owng_set (owng_set (ho4'.below hb5) (by simp only; omega) _) (by simp only; omega) _, OwnT.set (OwnT.set ho5.out (by simp only; omega) _) (by simp only; omega) _, ?_, by simp⟩
      exact Below.setCell (p := ⟨w.heap.size, 4, none⟩) (Below.setCell (p := ⟨w.heap.size, 3, none⟩) (HWb.out.1.trans (hw5.mono HWb.out.1.size)) (Nat.le_refl _) _) (Nat.le_refl _) _
    rw [← hw6]
    have HS4 := hid hs4.out
    have HS5 := hid hs5.out
    clear hw6 ho4 ho5 hb4 hb5 hw4 hw5 hs4 hs5 p0 p1 p2 p3 p4 q0' q1' q2' q3' q4' r3 r4 a0 a1 a2 a3 a4 b0 b1 b2 b3 b4 HC1 HC2 ho4' hd2
    clear HWb
    generalize W.heap.size = S1 at *
    generalize w4.heap.size = S2 at *
    obtain ⟨c0, c1, c2, c3, c4⟩ := five H6.out.1
    obtain ⟨e0, e1, e2, e3, e4⟩ := five H6.out.2.1
    have u0 := five_frz (o := 0) H6.out.2.1
    have u1 := five_frz (o := 1) H6.out.2.1
    have u2 := five_frz (o := 2) H6.out.2.1
    have u3 := five_frz (o := 3) H6.out.2.1
    have u4 := five_frz (o := 4) H6.out.2.1
    have HF : Hid (∀ x, x = ((((w6.setCell ⟨w.heap.size + 1, 0, none⟩ (.int .i64 F)).setCell ⟨w.heap.size + 1, 1, none⟩ (.int .i64 TT)).setCell ⟨w.heap.size + 1, 2, none⟩ (.int .i64 LL)).setCell ⟨w.heap.size + 1, 3, none⟩ (.slice (some ⟨S1, 0, none⟩) qs.length qs.length)).setCell ⟨w.heap.size + 1, 4, none⟩ (.slice (some ⟨S2, 0, none⟩) ts.length ts.length) →
        x.heap[w.heap.size + 1]? = some (.cells #[.int .i64 F, .int .i64 TT, .int .i64 LL, .slice (some ⟨S1, 0, none⟩) qs.length qs.length, .slice (some ⟨S2, 0, none⟩) ts.length ts.length] 44) ∧ OwnG S1 S1 qs.length qs.length qs4 x ∧ OwnT S2 S2 ts.length ts5 x ∧ Below w.heap.size w x ∧ x.heap.size = w5.heap.size) := by
      rintro x rfl
      have hWs := HWs.out
      refine ⟨set_at (i := 4) (set_at (i := 3) (set_at (i := 2) (set_at (i := 1) (set_at (i := 0) H6.out.2.1)))), ?_, ?_, ?_, by have := H6.out.2.2.2.2.2; simpa using this⟩
      · exact owng_set (owng_set (owng_set (owng_set (owng_set H6.out.2.2.1 (by simp only; omega) _) (by simp only; omega) _) (by simp only; omega) _) (by simp only; omega) _) (by simp only; omega) _
      · exact OwnT.set (OwnT.set (OwnT.set (OwnT.set (OwnT.set H6.out.2.2.2.1 (by simp only; omega) _) (by simp only; omega) _) (by simp only; omega) _) (by simp only; omega) _) (by simp only; omega) _
      · exact Below.setCell (p := ⟨w.heap.size + 1, 4, none⟩) (Below.setCell (p := ⟨w.heap.size + 1, 3, none⟩) (Below.setCell (p := ⟨w.heap.size + 1, 2, none⟩) (Below.setCell (p := ⟨w.heap.size + 1, 1, none⟩) (Below.setCell (p := ⟨w.heap.size + 1, 0, none⟩) H6.out.2.2.2.2.1 (by simp only; omega) _) (by simp only; omega) _) (by simp only; omega) _) (by simp only; omega) _) (by simp only; omega) _
    have HL4 := hid H6.out.2.2.1.len
    have HL5 := hid H6.out.2.2.2.1.kin.len
    clear H6
    go_wp2
    revert HF
    generalize hwf : World.setCell _ _ _ = wf
    intro HF
    obtain ⟨k1, k2, k3, k4, k5⟩ := HF.out wf (by rw [← hwf])
    obtain ⟨y0, y1, y2, y3, y4⟩ := five k1
    have hres : ∃ h' : Bk, agB h' = .agg #[.int .i64 F, .int .i64 TT, .int .i64 LL, .slice (some ⟨S1, 0, none⟩) qs.length qs.length, .slice (some ⟨S2, 0, none⟩) ts.length ts.length] ∧ SameB ⟨F, TT, LL, qs, a, c, ts, b, d⟩ h' ∧ OwnC w.heap.size wf.heap.size h' wf := by
      refine ⟨⟨F, TT, LL, qs4, some ⟨S1, 0, none⟩, qs.length, ts5, some ⟨S2, 0, none⟩, ts.length⟩, ?_, ⟨rfl, rfl, rfl, HL4.out, HL5.out, HS4.out, HS5.out⟩, ⟨⟨S1, S2, S2, rfl, rfl, HL4.out.symm, HL5.out.symm, ?_, ?_, ?_, ?_, ?_, Nat.le_refl _, ?_, ?_⟩, Nat.le_refl _⟩⟩
      · simp only [agB, clB, HL4.out, HL5.out]
      · rw [show (⟨F, TT, LL, qs4, some ⟨S1, 0, none⟩, qs.length, ts5, some ⟨S2, 0, none⟩, ts.length⟩ : Bk).qs.length = qs.length from HL4.out]
        have hWs := HWs.out
        exact ⟨k2.len, own_base k2.row (by omega), fun i hi => ⟨(k2.own i hi).ha, (k2.own i hi).hb, own_base (k2.own i hi).lab (by omega), own_base (k2.own i hi).smp (by omega), (k2.own i hi).ne⟩, k2.apt⟩
      · rw [show (⟨F, TT, LL, qs4, some ⟨S1, 0, none⟩, qs.length, ts5, some ⟨S2, 0, none⟩, ts.length⟩ : Bk).ts.length = ts.length from HL5.out]; exact k3
      · have hWs := HWs.out; omega
      · omega
      · intro i hi; exact HTp4.out i (by rw [← HL4.out]; exact hi)
      · rw [k5]; exact hlt5
      · intro i hi; rw [k5]; exact HTp5.out i (by rw [← HL5.out]; exact hi)
    obtain ⟨h', he, hsm, hoc⟩ := hres
    have HH := hid (And.intro hsm hoc)
    clear hsm hoc HF k1 k2 k3 k5 HL4 HL5 HS4 HS5 HTp4 HTp5
    refine bodyPost_ret (v := .agg #[.int .i64 F, .int .i64 TT, .int .i64 LL, .slice (some ⟨S1, 0, none⟩) qs.length qs.length, .slice (some ⟨S2, 0, none⟩) ts.length ts.length]) (by simp [results, Tryz.results31, go_sem, y0, y1, y2, y3, y4]) rfl ?_
    exact ⟨h', congrArg Ending.returned he.symm, HH.out.1, HH.out.2, k4⟩
end Go.Proofs.YtkbaaidnkkcpoaaGreat.Blk
/- Blocks that lie in a stretch of memory; the model's l9CopyBlock. -/
namespace Go.Proofs.YtkbaaidnkkcpoaaGreat.Blk
open Go.RowKit
open Go.Proofs.YtkbaaidnkkcpoaaGreat.Lab (Lb HasL)
open Go.Proofs.YtkbaaidnkkcpoaaGreat.Smp (Sm HasS own_form)
open Go.Proofs.YtkbaaidnkkcpoaaGreat.Srs (hid lt_at kept blk own_base own_below own_grown own_set set_else set_at Q q0 HasQ SmlQ OwnO OwnL own_formC step_append_at)
open Go.Proofs.YtkbaaidnkkcpoaaGreat.Stn (T t0 OwnT HasT SmlT three infoT)

/-- The worlds agree from X on and below Y. -/
structure AgrI (X Y : Nat) (w y : World) : Prop where
  size : w.heap.size ≤ y.heap.size
  same : ∀ k, X ≤ k → k < Y → y.heap[k]? = w.heap[k]?
theorem cell_agr {X Y : Nat} {w y : World} (h : AgrI X Y w y) {b o : Nat} (h1 : X ≤ b) (h2 : b < Y) : y.cell? ⟨b, o, none⟩ = w.cell? ⟨b, o, none⟩ := by
  unfold World.cell?
  rw [h.same b h1 h2]
theorem hasL_agr {X Y : Nat} {w y : World} (h : AgrI X Y w y) {a : Option Addr} {l : List Lb} (hl : HasL w a l) (hb : l ≠ [] → ∀ b o, a = some ⟨b, o, none⟩ → X ≤ b ∧ b < Y) : HasL y a l := by
  rcases hl with e | ⟨b, off, h1, h2, h3⟩
  · exact .inl e
  · by_cases e : l = []
    · exact .inl e
    · obtain ⟨q1, q2⟩ := hb e b off h1
      exact .inr ⟨b, off, h1, Nat.lt_of_lt_of_le h2 h.size, fun i hi => ⟨(cell_agr h q1 q2).trans (h3 i hi).1, (cell_agr h q1 q2).trans (h3 i hi).2⟩⟩
theorem hasS_agr {X Y : Nat} {w y : World} (h : AgrI X Y w y) {a : Option Addr} {l : List Sm} (hl : HasS w a l) (hb : l ≠ [] → ∀ b o, a = some ⟨b, o, none⟩ → X ≤ b ∧ b < Y) : HasS y a l := by
  rcases hl with e | ⟨b, off, h1, h2, h3⟩
  · exact .inl e
  · by_cases e : l = []
    · exact .inl e
    · obtain ⟨q1, q2⟩ := hb e b off h1
      exact .inr ⟨b, off, h1, Nat.lt_of_lt_of_le h2 h.size, fun i hi => ⟨(cell_agr h q1 q2).trans (h3 i hi).1, (cell_agr h q1 q2).trans (h3 i hi).2⟩⟩
theorem owno_agr {X n c : Nat} {a : Option Addr} {R : List Q} {w y : World} (o : OwnO X a n c R w) (h : AgrI X w.heap.size w y) : HasQ y a R := by
  rcases o.has with e | ⟨b, off, h1, h2, h3⟩
  · exact .inl e
  · by_cases e : R = []
    · exact .inl e
    · rcases o.cases with ⟨e1, _⟩ | ⟨g, e1, og⟩
      · rw [e1] at h1; cases h1
      · rw [e1] at h1
        cases h1
        have hlo := (og.row.lt _ rfl).1
        refine .inr ⟨_, 0, e1, Nat.lt_of_lt_of_le h2 h.size, fun i hi => ?_⟩
        obtain ⟨k0, k1, k2, k3⟩ := h3 i hi
        have oi := o.own i (by rw [← o.len]; exact hi)
        refine ⟨(cell_agr h hlo h2).trans k0, (cell_agr h hlo h2).trans k1, hasL_agr h k2 fun _ b' o' e' => ?_, hasS_agr h k3 fun _ b' o' e' => ?_⟩
        · rw [oi.ha] at e'; cases e'; exact ⟨oi.lo.1, oi.hi.1⟩
        · rw [oi.hb] at e'; cases e'; exact ⟨oi.lo.2, oi.hi.2⟩
/-- A block of which all lies from X on and below Y. -/
structure InB (X Y : Nat) (h : Bk) (w : World) : Prop where
  top : Y ≤ w.heap.size
  lies : ∀ y, AgrI X Y w y → HasB y h
theorem InB.has {X Y : Nat} {h : Bk} {w : World} (o : InB X Y h w) : HasB w h := o.lies w ⟨Nat.le_refl _, fun _ _ _ => rfl⟩
theorem InB.below {X Y : Nat} {h : Bk} {w w' : World} (o : InB X Y h w) (hb : Below w.heap.size w w') : InB X Y h w' :=
  ⟨Nat.le_trans o.top hb.size, fun y hy => o.lies y ⟨Nat.le_trans hb.size hy.size, fun k h1 h2 => (hy.same k h1 h2).trans (hb.block k (by have := o.top; omega))⟩⟩
theorem InB.grown {X Y : Nat} {h : Bk} {w w' : World} {r : Option Nat} (o : InB X Y h w) (hg : w.grownBy w' r) (hne : ∀ g, r = some g → g < X ∨ Y ≤ g) : InB X Y h w' :=
  ⟨Nat.le_trans o.top hg.size, fun y hy => o.lies y ⟨Nat.le_trans hg.size hy.size, fun k h1 h2 => (hy.same k h1 h2).trans (hg.block k (by have := o.top; omega) (fun e => by have := hne k e.symm; omega))⟩⟩
/-- A row of stones of the call's own, their labels in rows of their own. -/
structure RowT (X : Nat) (a : Option Addr) (n c : Nat) (R : List T) (w : World) : Prop where
  len : R.length = n
  row : w.ownsRow X 87 3 (.slice a n c) n (Stn.flat R)
  own : ∀ i, i < n → Stn.Own1 X (blk (R.getD i t0).a) (R.getD i t0) w
  off : ∀ g, (Value.slice a n c).ownBlock = some g → ∀ i, i < n → blk (R.getD i t0).a ≠ g
theorem RowT.nil (X : Nat) (w : World) : RowT X none 0 0 [] w := ⟨rfl, World.ownsRow_nil _ _ _ _, fun i hi => by omega, fun g _ i hi => by omega⟩
theorem RowT.below {X n c : Nat} {a : Option Addr} {R : List T} {w w' : World} (h : RowT X a n c R w) (hb : Below w.heap.size w w') : RowT X a n c R w' := ⟨h.len, own_below h.row hb, fun i hi => (h.own i hi).below hb, h.off⟩
theorem RowT.set {X n c : Nat} {a : Option Addr} {R : List T} {w : World} (h : RowT X a n c R w) {p : Addr} (hp : p.block < X) (v : Value) : RowT X a n c R (w.setCell p v) := by
  refine ⟨h.len, ?_, fun i hi => (h.own i hi).set (by have h5 : X ≤ blk (R.getD i t0).a := ((h.own i hi).lab.lt _ rfl).1; omega) v, h.off⟩
  rcases h.row.2 with ⟨h1, h2⟩ | ⟨g, cap, cur, h1, h2, h3, h4⟩
  · have hr := h.row
    simp only [Value.slice.injEq] at h1
    obtain ⟨rfl, rfl, rfl⟩ := h1
    have e : Stn.flat R = [] := List.eq_nil_of_length_eq_zero (by have h5 := hr.1; simpa using h5)
    rw [e]; exact World.ownsRow_nil _ _ _ _
  · have hr := h.row
    simp only [Value.slice.injEq] at h1
    obtain ⟨rfl, -, rfl⟩ := h1
    exact own_set hr (by omega) v
theorem RowT.agr {X n c : Nat} {a : Option Addr} {R : List T} {w y : World} (o : RowT X a n c R w) (h : AgrI X w.heap.size w y) : HasT y a R := by
  by_cases e : R = []
  · exact .inl e
  · rcases o.row.2 with ⟨h1, h2⟩ | ⟨g, cap, cur, h1, _⟩
    · exact absurd (List.eq_nil_of_length_eq_zero (o.len.trans h2)) e
    · have hr := o.row
      simp only [Value.slice.injEq] at h1
      obtain ⟨rfl, -, rfl⟩ := h1
      have hh := Stn.own_has hr fun i hi => (o.own i (by rw [← o.len]; exact hi)).hasL
      rcases hh with e' | ⟨b, off, e1, h2, h3⟩
      · exact absurd e' e
      · cases e1
        have hlo := (hr.lt g rfl).1
        refine .inr ⟨g, 0, rfl, Nat.lt_of_lt_of_le h2 h.size, fun i hi => ?_⟩
        obtain ⟨⟨k0, k1, k2⟩, k3⟩ := h3 i hi
        have oi := o.own i (by rw [← o.len]; exact hi)
        refine ⟨⟨(cell_agr h hlo h2).trans k0, (cell_agr h hlo h2).trans k1, (cell_agr h hlo h2).trans k2⟩, hasL_agr h k3 fun _ b' o' e' => ?_⟩
        rw [oi.ha] at e'; cases e'; exact oi.lab.lt _ rfl
theorem RowT.push {X n c c' : Nat} {a a' : Option Addr} {R : List T} {q : T} {w W w' : World} (h : RowT X a n c R w) (hb : Below w.heap.size w W) (hq : Stn.Own1 X (blk q.a) q W) (h1 : w.heap.size ≤ blk q.a)
    (hg : W.grownBy w' (Value.slice a n c).ownBlock) (hr : w'.ownsRow X 87 3 (.slice a' (n + 1) c') (n + 1) (Stn.flat (R ++ [q])))
    (hv : (Value.slice a' (n + 1) c').ownBlock = (Value.slice a n c).ownBlock ∨ (Value.slice a' (n + 1) c').ownBlock = some W.heap.size) : RowT X a' (n + 1) c' (R ++ [q]) w' := by
  have hl := h.len
  have hget : ∀ i, (R ++ [q]).getD i t0 = if i = n then q else R.getD i t0 := fun i => by rw [Stn.getD_snoc, hl]
  have hob : ∀ g, (Value.slice a n c).ownBlock = some g → X ≤ g ∧ g < w.heap.size := fun g hgg => h.row.lt g hgg
  have kp : ∀ (p : T), Stn.Own1 X (blk p.a) p W → (∀ g, (Value.slice a n c).ownBlock = some g → blk p.a ≠ g) → Stn.Own1 X (blk p.a) p w' := fun p hp hn => ⟨hp.ha, hp.lab.kept hg (.inr fun e => hn _ e.symm rfl)⟩
  refine ⟨by simp [hl], hr, fun i hi => ?_, fun g hg' i hi => ?_⟩
  · rw [hget]
    by_cases e : i = n
    · rw [if_pos e]; exact kp q hq fun g hgg => by have := (hob g hgg).2; omega
    · rw [if_neg e]; exact kp _ ((h.own i (by omega)).below hb) fun g hgg => h.off g hgg i (by omega)
  · rw [hg'] at hv
    have hv' : some g = (Value.slice a n c).ownBlock ∨ some g = some W.heap.size := hv
    rw [hget]
    by_cases e : i = n
    · rw [if_pos e]
      rcases hv' with h3 | h3
      · have := (hob g h3.symm).2; omega
      · have h4 := Option.some.inj h3; have := hq.lts; omega
    · rw [if_neg e]
      rcases hv' with h3 | h3
      · exact h.off g h3.symm i (by omega)
      · have h4 := Option.some.inj h3; have := (h.own i (by omega)).lts; have := hb.size; omega
theorem three_new2 (w : World) (x y z : Value) (t : TypeId) : ∀ j u, [x, y, z][j]? = some u → (w.alloc (.cells #[x, y, z] t)).cell? ((⟨w.heap.size, 0, none⟩ : Addr).add j) = some u := by
  intro j u hj
  obtain ⟨d0, d1, d2⟩ := three (heap_alloc_new w (.cells #[x, y, z] t))
  rw [Smp.add_none, Nat.zero_add]
  match j, hj with
  | 0, h => simp at h; rw [← h]; exact d0
  | 1, h => simp at h; rw [← h]; exact d1
  | 2, h => simp at h; rw [← h]; exact d2
/-- A stone in its box. -/
abbrev SW (p : T) (B : Nat) (x : World) : Prop := x.cell? ⟨B, 0, none⟩ = some (.slice p.a p.l.length p.c) ∧ x.cell? ⟨B, 1, none⟩ = some (.int .i64 p.f) ∧ x.cell? ⟨B, 2, none⟩ = some (.int .i64 p.t)
theorem owno_set {X n c : Nat} {a : Option Addr} {R : List Q} {w : World} (o : OwnO X a n c R w) {p : Addr} (hp : p.block < X) (v : Value) : OwnO X a n c R (w.setCell p v) := by
  refine ⟨o.len, ?_, fun i hi => own2_set (o.own i hi) hp v, o.nea, o.dis⟩
  rcases o.cases with ⟨e1, e2, e3, e4⟩ | ⟨g, e1, og⟩
  · rw [e1, e2, e3, e4]; exact World.ownsRow_nil _ _ _ _
  · have hr := o.row
    rw [e1] at hr ⊢
    exact own_set hr (by have := (hr.lt g rfl).1; omega) v
theorem AgrI.mono {X X' Y : Nat} {w y : World} (h : AgrI X Y w y) (hx : X ≤ X') : AgrI X' Y w y := ⟨h.size, fun k h1 h2 => h.same k (by omega) h2⟩
set_option maxRecDepth 10000 in
set_option maxHeartbeats 8000000 in
theorem f73 (h : Bk) (w : World) (hr : HasB w h) (hc : Cpb h) :
    Calls Tryz.prog 73 #[agB h] w fun e w' => ∃ h', e = .returned (agB h') ∧ Hid (SameB h h') ∧ Hid (InB w.heap.size w'.heap.size h' w') ∧ Below w.heap.size w w' := by
  obtain ⟨i0, hi, hz0, hz1, hz2⟩ := info_parts infoT
  obtain ⟨F, TT, LL, qs, a, c, ts, b, d⟩ := h
  obtain ⟨hz, hne, hcap, hnet⟩ := hc
  simp only at hne hcap hnet
  obtain ⟨W, hW⟩ : ∃ W, W = (w.alloc (.cells #[.int .i64 F, .int .i64 TT, .int .i64 LL, .slice a qs.length c, .slice b ts.length d] 44)).alloc Z5 := ⟨_, rfl⟩
  have HWb : Hid (Below w.heap.size w W ∧ W.heap[w.heap.size]? = some (.cells #[.int .i64 F, .int .i64 TT, .int .i64 LL, .slice a qs.length c, .slice b ts.length d] 44) ∧ W.heap[w.heap.size + 1]? = some Z5 ∧ W.heap.size = w.heap.size + 1 + 1) := by
    subst hW
    have h2 := heap_alloc_new (w.alloc (.cells #[.int .i64 F, .int .i64 TT, .int .i64 LL, .slice a qs.length c, .slice b ts.length d] 44)) Z5
    simp only [World.size_alloc] at h2
    exact ⟨((Below.refl w.heap.size w).alloc (Nat.le_refl _) _).alloc (by simp) _, (Below.heap_alloc _ _ w.heap.size (by simp)).trans (heap_alloc_new w _), h2, by simp⟩
  have HRW := hid (hr.below HWb.out.1)
  have HRT := hid hr.2
  have HC1 := hid (Srs.f110 a qs.length c qs W rfl hz.1 HRW.out.1 hne hz.2.1)
  have HZ := hid hz.2.2.2
  have h20 : ts.length ≤ 1048576 := hz.2.2.1
  have HNt := hid hnet
  clear hr hz hne hcap hnet
  simp only [agB, clB]
  go_enter Tryz.func73, Tryz.ntmps73
  obtain ⟨a0, a1, a2, a3, a4⟩ := five HWb.out.2.1
  go_wp2_with fail
  rw [← hW]
  clear hW
  refine HC1.out.mono ?_
  rintro e w1 ⟨a1', c1', R1, rfl, ho1, hs1, hb1⟩
  have HS1 := hid hs1.out
  obtain ⟨p0, p1, p2, p3, p4⟩ := five (kept HWb.out.2.1 hb1)
  have r3 := five_frz (o := 3) (kept HWb.out.2.1 hb1)
  obtain ⟨w2, hw2⟩ : ∃ w2, w2 = w1.setCell ⟨w.heap.size, 3, none⟩ (.slice a1' qs.length c1') := ⟨_, rfl⟩
  have H2 : Hid (w2.heap[w.heap.size]? = some (.cells #[.int .i64 F, .int .i64 TT, .int .i64 LL, .slice a1' qs.length c1', .slice b ts.length d] 44) ∧ w2.heap[w.heap.size + 1]? = some Z5 ∧ OwnO W.heap.size a1' qs.length c1' R1 w2 ∧ Below w.heap.size w w2 ∧ HasT w2 b ts) := by
    rw [hw2]
    have hWs := HWb.out.2.2.2
    have hb0 : Below w.heap.size w w1 := HWb.out.1.trans (hb1.mono HWb.out.1.size)
    refine ⟨set_at (i := 3) (kept HWb.out.2.1 hb1), set_else (kept HWb.out.2.2.1 hb1) (by simp only; omega), ?_, hb0.setCell (Nat.le_refl _) _, ?_⟩
    · exact owno_set ho1.out (by simp only; omega) _
    · exact HRT.out.below (hb0.setCell (Nat.le_refl _) _)
  have hWs := HWb.out.2.2.2
  have hsz2 : W.heap.size ≤ w2.heap.size := by rw [hw2]; simpa using hb1.size
  have HWs := hid hWs
  go_wp2_with fail
  rw [← hw2]
  clear hw2 hWs p0 p1 p2 p3 p4 r3 a0 a1 a2 a3 a4 ho1 hs1 hb1 HC1 HRW HWb
  generalize W.heap.size = S1 at *
  obtain ⟨p0, p1, p2, p3, p4⟩ := five H2.out.1
  go_wp2
  go_loopw [3, 13] (fun so si wr => ∃ (k c' : Nat) (a' : Option Addr) (R : List T), k ≤ ts.length ∧ si = .int .i64 k ∧ so = .slice a' k c' ∧ Hid (RowT w2.heap.size a' k c' R wr) ∧ Hid (Stn.Same k ts R) ∧ Hid (Below w2.heap.size w2 wr)) (fun _ si _ => ts.length - (intOf si).toNat)
  case atStart => exact ⟨0, 0, none, [], Nat.zero_le _, rfl, rfl, RowT.nil _ _, fun i hi => by omega, Below.refl _ _⟩
  case round =>
    clear p0 p1 p2 p3 p4
    obtain ⟨k, c', a', R, hk, rfl, rfl, HO, HSm, HX⟩ := hrel
    by_cases hlt : k < ts.length
    rotate_left
    · obtain rfl : k = ts.length := by omega
      have H3 : Hid (wr.heap[w.heap.size]? = some (.cells #[.int .i64 F, .int .i64 TT, .int .i64 LL, .slice a1' qs.length c1', .slice b ts.length d] 44) ∧ wr.heap[w.heap.size + 1]? = some Z5 ∧ OwnO S1 a1' qs.length c1' R1 wr ∧ Below w.heap.size w wr) :=
        ⟨kept H2.out.1 HX.out, kept H2.out.2.1 HX.out, H2.out.2.2.1.below HX.out, H2.out.2.2.2.1.trans (HX.out.mono H2.out.2.2.2.1.size)⟩
      obtain ⟨p0, p1, p2, p3, p4⟩ := five H3.out.1
      have r4 := five_frz (o := 4) H3.out.1
      obtain ⟨e0, e1, e2, e3, e4⟩ := five H3.out.2.1
      have u0 := five_frz (o := 0) H3.out.2.1
      have u1 := five_frz (o := 1) H3.out.2.1
      have u2 := five_frz (o := 2) H3.out.2.1
      have u3 := five_frz (o := 3) H3.out.2.1
      have u4 := five_frz (o := 4) H3.out.2.1
      have HF : Hid (∀ x, x = (((((wr.setCell ⟨w.heap.size, 4, none⟩ (.slice a' ts.length c')).setCell ⟨w.heap.size + 1, 0, none⟩ (.int .i64 F)).setCell ⟨w.heap.size + 1, 1, none⟩ (.int .i64 TT)).setCell ⟨w.heap.size + 1, 2, none⟩ (.int .i64 LL)).setCell ⟨w.heap.size + 1, 3, none⟩ (.slice a1' qs.length c1')).setCell ⟨w.heap.size + 1, 4, none⟩ (.slice a' ts.length c') →
          x.heap[w.heap.size + 1]? = some (.cells #[.int .i64 F, .int .i64 TT, .int .i64 LL, .slice a1' qs.length c1', .slice a' ts.length c'] 44) ∧ OwnO S1 a1' qs.length c1' R1 x ∧ RowT w2.heap.size a' ts.length c' R x ∧ Below w.heap.size w x) := by
        rintro x rfl
        have hWs := HWs.out
        refine ⟨set_at (i := 4) (set_at (i := 3) (set_at (i := 2) (set_at (i := 1) (set_at (i := 0) (set_else H3.out.2.1 (by simp only; omega)))))), ?_, ?_, ?_⟩
        · exact owno_set (owno_set (owno_set (owno_set (owno_set (owno_set H3.out.2.2.1 (by simp only; omega) _) (by simp only; omega) _) (by simp only; omega) _) (by simp only; omega) _) (by simp only; omega) _) (by simp only; omega) _
        · exact RowT.set (RowT.set (RowT.set (RowT.set (RowT.set (RowT.set HO.out (by simp only; omega) _) (by simp only; omega) _) (by simp only; omega) _) (by simp only; omega) _) (by simp only; omega) _) (by simp only; omega) _
        · exact Below.setCell (p := ⟨w.heap.size + 1, 4, none⟩) (Below.setCell (p := ⟨w.heap.size + 1, 3, none⟩) (Below.setCell (p := ⟨w.heap.size + 1, 2, none⟩) (Below.setCell (p := ⟨w.heap.size + 1, 1, none⟩) (Below.setCell (p := ⟨w.heap.size + 1, 0, none⟩) (Below.setCell (p := ⟨w.heap.size, 4, none⟩) H3.out.2.2.2 (Nat.le_refl _) _) (by simp only; omega) _) (by simp only; omega) _) (by simp only; omega) _) (by simp only; omega) _) (by simp only; omega) _
      have HL1 := hid H2.out.2.2.1.len
      have HL2 := hid HO.out.len
      clear H3 HO HX H2
      go_wp2
      revert HF
      generalize hwf : World.setCell _ _ _ = wf
      intro HF
      obtain ⟨k1, k2, k3, k4⟩ := HF.out wf (by rw [← hwf])
      obtain ⟨y0, y1, y2, y3, y4⟩ := five k1
      have hres : ∃ h' : Bk, agB h' = .agg #[.int .i64 F, .int .i64 TT, .int .i64 LL, .slice a1' qs.length c1', .slice a' ts.length c'] ∧ SameB ⟨F, TT, LL, qs, a, c, ts, b, d⟩ h' ∧ InB w.heap.size wf.heap.size h' wf := by
        refine ⟨⟨F, TT, LL, R1, a1', c1', R, a', c'⟩, ?_, ⟨rfl, rfl, rfl, HL1.out, HL2.out, HS1.out, HSm.out⟩, ⟨Nat.le_refl _, fun y hy => ⟨owno_agr k2 (hy.mono (by have := HWs.out; omega)), RowT.agr k3 (hy.mono (by have := HWs.out; omega))⟩⟩⟩
        simp only [agB, clB, HL1.out, HL2.out]
      obtain ⟨h', he, hsm, hoc⟩ := hres
      have HH := hid (And.intro hsm hoc)
      clear hsm hoc HF k1 k2 k3 HL1 HL2 HS1 HSm
      refine bodyPost_ret (v := .agg #[.int .i64 F, .int .i64 TT, .int .i64 LL, .slice a1' qs.length c1', .slice a' ts.length c']) (by simp [results, Tryz.results73, go_sem, y0, y1, y2, y3, y4]) rfl ?_
      exact ⟨h', congrArg Ending.returned he.symm, HH.out.1, HH.out.2, k4⟩
    obtain ⟨bb, off, rfl, hbl, ⟨c0, c1, c2⟩, t1⟩ := (H2.out.2.2.2.2.below HX.out).at2 k hlt
    have HNq := hid (HNt.out k hlt)
    have HZq := hid (HZ.out k hlt)
    have HQk : Hid (∀ q', Stn.pl q' = Stn.pl (ts.getD k t0) → Stn.Same (k + 1) ts (R ++ [q'])) := by
      intro q' he i hi
      rw [Stn.getD_snoc, HO.out.len]
      by_cases e : i = k
      · rw [if_pos e, e]; exact he
      · rw [if_neg e]; exact HSm.out i (by omega)
    generalize ts.getD k t0 = q at *
    have i1 : (k : Int) < (ts.length : Int) := by omega
    have HW0 := hid ((Below.refl wr.heap.size wr).alloc (Nat.le_refl _) (.cells #[.slice q.a q.l.length q.c, .int .i64 q.f, .int .i64 q.t] 87))
    have HBx := hid (heap_alloc_new wr (.cells #[.slice q.a q.l.length q.c, .int .i64 q.f, .int .i64 q.t] 87))
    obtain ⟨bl, ol, hql⟩ : ∃ b o, q.a = some ⟨b, o, none⟩ := by
      rcases t1 with h | ⟨b, o, h, _⟩
      · exact absurd h HNq.out
      · exact ⟨b, o, h⟩
    have HT1 := hid (t1.below HW0.out)
    obtain ⟨W, hW⟩ : ∃ W, W = wr.alloc (.cells #[.slice q.a q.l.length q.c, .int .i64 q.f, .int .i64 q.t] 87) := ⟨_, rfl⟩
    rw [← hW] at HW0 HBx HT1
    have hd2 : Below W.heap.size W W.drew := (Below.refl _ _).drew
    have hlp : 0 < q.l.length := List.length_pos_iff.2 HNq.out
    have hl1 : q.l.length ≤ 1048576 := HZq.out
    have hwW : wr.heap.size ≤ W.heap.size := HW0.out.size
    have hX0 : w2.heap.size ≤ wr.heap.size := HX.out.size
    have HC1 : Hid (Calls Tryz.prog 76 #[.slice q.a q.l.length q.c] W.drew fun e w' => ∃ v', e = .returned v' ∧ OwnL w' W.drew.heap.size v' q.l ∧ Below W.drew.heap.size W.drew w') := by
      have h := HT1.out.below hd2
      rw [hql] at h ⊢
      exact Srs.f76 bl ol q.c q.l W.drew hl1 h
    clear t1 hbl hql
    go_wp2_with fail
    rw [← hW]
    clear hW c0 c1 c2
    generalize hB : wr.heap.size = B at *
    refine wp_region_held_drew (S := fun x => SW q B x) rfl (three (kept HBx.out hd2)) (fun hHeld => ?_)
    refine wpAnyH_take (i := 0) (oi := { dst := some 17, op := _, type := _, pos := _, after := _, guard := _ }) (v := .slice a' k c') rfl (by kernel_rfl) (by kernel_rfl) (by kernel_rfl) (fun _ _ _ h => h) (Or.inl ⟨by rfl, fun w hSw => by (try dsimp only at hSw); go_split_ands; go_simp⟩) (by assumption) ?_
    simp only [Act.put, List.setIfInBounds_toArray, List.set_cons_zero, List.set_cons_succ]
    refine wpAnyH_take (i := 1) (oi := { dst := some 18, op := _, type := _, pos := _, after := _, guard := _ }) (v := .pointer (some ⟨B, 0, none⟩)) rfl (by kernel_rfl) (by kernel_rfl) (by kernel_rfl) (fun _ _ _ h => h) (Or.inl ⟨by rfl, fun w hSw => by (try dsimp only at hSw); go_split_ands; go_simp⟩) (by assumption) ?_
    simp only [Act.put, List.setIfInBounds_toArray, List.set_cons_zero, List.set_cons_succ]
    refine wpAnyH_take (i := 2) (oi := { dst := some 19, op := _, type := _, pos := _, after := _, guard := _ }) (v := .slice q.a q.l.length q.c) rfl (by kernel_rfl) (by kernel_rfl) (by kernel_rfl) (fun _ _ _ h => h) (Or.inl ⟨by rfl, fun w hSw => by (try dsimp only at hSw); go_split_ands; go_simp⟩) (by assumption) ?_
    simp only [Act.put, List.setIfInBounds_toArray, List.set_cons_zero, List.set_cons_succ]
    refine wpAnyH_take (i := 4) (oi := { dst := some 21, op := _, type := _, pos := _, after := _, guard := _ }) (v := .pointer (some ⟨B, 1, none⟩)) rfl (by kernel_rfl) (by kernel_rfl) (by kernel_rfl) (fun _ _ _ h => h) (Or.inl ⟨by rfl, fun w hSw => by (try dsimp only at hSw); go_split_ands; go_simp⟩) (by assumption) ?_
    simp only [Act.put, List.setIfInBounds_toArray, List.set_cons_zero, List.set_cons_succ]
    refine wpAnyH_take (i := 5) (oi := { dst := some 22, op := _, type := _, pos := _, after := _, guard := _ }) (v := .int .i64 q.f) rfl (by kernel_rfl) (by kernel_rfl) (by kernel_rfl) (fun _ _ _ h => h) (Or.inl ⟨by rfl, fun w hSw => by (try dsimp only at hSw); go_split_ands; go_simp⟩) (by assumption) ?_
    simp only [Act.put, List.setIfInBounds_toArray, List.set_cons_zero, List.set_cons_succ]
    refine wpAnyH_take (i := 6) (oi := { dst := some 23, op := _, type := _, pos := _, after := _, guard := _ }) (v := .pointer (some ⟨B, 2, none⟩)) rfl (by kernel_rfl) (by kernel_rfl) (by kernel_rfl) (fun _ _ _ h => h) (Or.inl ⟨by rfl, fun w hSw => by (try dsimp only at hSw); go_split_ands; go_simp⟩) (by assumption) ?_
    simp only [Act.put, List.setIfInBounds_toArray, List.set_cons_zero, List.set_cons_succ]
    refine wpAnyH_take (i := 7) (oi := { dst := some 24, op := _, type := _, pos := _, after := _, guard := _ }) (v := .int .i64 q.t) rfl (by kernel_rfl) (by kernel_rfl) (by kernel_rfl) (fun _ _ _ h => h) (Or.inl ⟨by rfl, fun w hSw => by (try dsimp only at hSw); go_split_ands; go_simp⟩) (by assumption) ?_
    simp only [Act.put, List.setIfInBounds_toArray, List.set_cons_zero, List.set_cons_succ]
    refine wpAnyH_ready (rs := [3]) (by kernel_rfl) (by simp) (AllReadyH.cons (o := { dst := some 20, op := _, type := _, pos := _, after := _, guard := _ }) rfl ?_ AllReadyH.nil)
    intro K1 hK1
    go_simp
    go_wp2_with (go_at_call 76; refine HC1.out.mono ?_; rintro e w5 ⟨v4, rfl, ho4, hb4⟩; have hw5 : Below W.heap.size W w5 := hd2.trans (hb4.mono hd2.size))
    refine hK1.out _ _ (three (kept HBx.out hw5)) (fun _ => ?_)
    clear hK1 K1
    obtain ⟨ga, ca, rfl⟩ := own_formC ho4 hlp
    have HL5 := hid ho4
    have hga : W.heap.size ≤ ga := Nat.le_trans hd2.size (ho4.lt ga rfl).1
    have HW5 : Hid (Below B wr w5) := HW0.out.trans (hw5.mono hwW)
    have HX5 : Hid (Below w2.heap.size w2 w5) := HX.out.trans (HW5.out.mono hX0)
    clear ho4 hb4 hHeld
    obtain ⟨q', hq'⟩ : ∃ q' : T, q' = ⟨q.l, some ⟨ga, 0, none⟩, ca, q.f, q.t⟩ := ⟨_, rfl⟩
    have HQ5 : Hid (Stn.Own1 w2.heap.size (blk q'.a) q' w5 ∧ B ≤ blk q'.a ∧ Stn.pl q' = Stn.pl q ∧ Stn.cl q' = [.slice (some ⟨ga, 0, none⟩) q.l.length ca, .int .i64 q.f, .int .i64 q.t]) := by
      rw [hq']
      exact ⟨⟨rfl, own_base HL5.out (by have := hd2.size; omega)⟩, (show B ≤ ga by omega), rfl, rfl⟩
    clear hq' HL5
    refine wpAnyH_take (i := 8) (oi := { dst := some 25, op := _, type := _, pos := _, after := _, guard := _ }) (v := .agg #[.slice (some ⟨ga, 0, none⟩) q.l.length ca, .int .i64 q.f, .int .i64 q.t]) rfl (by kernel_rfl) (by kernel_rfl) (by kernel_rfl) (fun _ _ _ h => h) (Or.inl ⟨by rfl, fun w hSw => by (try dsimp only at hSw); go_split_ands; go_simp⟩) (by assumption) ?_
    simp only [Act.put, List.setIfInBounds_toArray, List.set_cons_zero, List.set_cons_succ]
    have hba := (Below.refl w5.heap.size w5).alloc (Nat.le_refl _) (.cells #[.slice (some ⟨ga, 0, none⟩) q.l.length ca, .int .i64 q.f, .int .i64 q.t] 87)
    have hwa := hw5.trans (hba.mono hw5.size)
    refine wpAnyH_ready (rs := [9]) (by kernel_rfl) (by simp) (AllReadyH.cons (o := { dst := some 26, op := _, type := _, pos := _, after := _, guard := _ }) rfl ?_ AllReadyH.nil)
    intro K3 hK3
    go_simp
    refine hK3.out _ _ (three (kept HBx.out hwa)) (fun _ => ?_)
    clear hK3 K3
    try simp only [Act.put, List.setIfInBounds_toArray, List.set_cons_zero, List.set_cons_succ]
    have HO5 : Hid (RowT w2.heap.size a' k c' R w5) := HO.out.below (by rw [hB]; exact HW5.out)
    have HOlt : Hid (∀ g, (Value.slice a' k c').ownBlock = some g → w2.heap.size ≤ g ∧ g < B) := fun g hg => by have := HO.out.row.lt g hg; rw [hB] at this; exact this
    refine wpAnyH_ready (rs := [10]) (by kernel_rfl) (by simp) (AllReadyH.cons (o := { dst := some 27, op := _, type := _, pos := _, after := _, guard := _ }) rfl ?_ AllReadyH.nil)
    intro K4 hK4
    refine step_append_at rfl (.tmp 17) (.tmp 26) 42 rfl w2.heap.size 87 i0 (.agg #[.slice none 0 0, .int .i64 0, .int .i64 0]) 3 40 Tryz.underlying42 hi hz0 hz1 hz2 rfl (by decide) _ _ _ _ rfl (HO5.out.row.alloc _) ⟨w5.heap.size, 0, none⟩ 1 1 [.slice (some ⟨ga, 0, none⟩) q.l.length ca, .int .i64 q.f, .int .i64 q.t] rfl rfl (three_new2 w5 _ _ _ _) (by intro u hu; simp at hu; rcases hu with rfl | rfl | rfl <;> rfl) (by unfold maxLen; omega) (by omega) (by have := HX5.out.size; simp; omega) ?_
    intro v8 w8 hown8 hgr8 hat8
    obtain ⟨a8, c8, rfl⟩ := own_form hown8
    have hby : w8.heap[B]? = some (.cells #[.slice q.a q.l.length q.c, .int .i64 q.f, .int .i64 q.t] 87) := (hgr8.block _ (lt_at (kept HBx.out hwa)) (fun e => by have := (HOlt.out _ e.symm).2; omega)).trans (kept HBx.out hwa)
    refine hK4.out _ _ (three hby) (fun _ => ?_)
    clear hK4 K4
    simp only [Act.put, List.setIfInBounds_toArray, List.set_cons_zero, List.set_cons_succ]
    refine wpAnyH_take (i := 11) (oi := { dst := some 3, op := _, type := _, pos := _, after := _, guard := _ }) (v := .slice a8 (k + 1) c8) rfl (by kernel_rfl) (by kernel_rfl) (by kernel_rfl) (fun _ _ _ h => h) (Or.inl ⟨by rfl, fun w hSw => by (try dsimp only at hSw); go_split_ands; go_simp⟩) (by assumption) ?_
    simp only [Act.put, List.setIfInBounds_toArray, List.set_cons_zero, List.set_cons_succ]
    refine wpAnyH_done (by kernel_rfl) ?_ _
    have HX8 := hid ((HX5.out.alloc HX5.out.size (.cells #[.slice (some ⟨ga, 0, none⟩) q.l.length ca, .int .i64 q.f, .int .i64 q.t] 87)).grown hgr8 (by have := HX5.out.size; simp; omega) (fun j hj => (HOlt.out j hj).1))
    have HO8 : Hid (RowT w2.heap.size a8 (k + 1) c8 (R ++ [q']) w8) := by
      refine HO.out.push (by rw [hB]; exact HW5.out.trans (hba.mono (by have := HW5.out.size; omega))) (HQ5.out.1.below hba) (by rw [hB]; exact HQ5.out.2.1) hgr8 ?_ hat8
      have e : Stn.flat (R ++ [q']) = Stn.flat R ++ [.slice (some ⟨ga, 0, none⟩) q.l.length ca, .int .i64 q.f, .int .i64 q.t] := by
        rw [Stn.flat_append]
        show Stn.flat R ++ (Stn.cl q' ++ []) = _
        rw [HQ5.out.2.2.2, List.append_nil]
      rw [e]
      exact hown8
    have HS8 := hid (HQk.out q' HQ5.out.2.2.1)
    clear hown8 hgr8 hat8 hby hwa hba hw5
    go_wp2
    go_roundw
    case rel => exact ⟨k + 1, c8, a8, R ++ [q'], by omega, by go_num, rfl, HO8, HS8, HX8⟩
    case measure => simp [intOf]; omega
end Go.Proofs.YtkbaaidnkkcpoaaGreat.Blk
