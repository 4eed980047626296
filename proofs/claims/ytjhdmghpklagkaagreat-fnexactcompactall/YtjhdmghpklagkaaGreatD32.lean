/- What stones leave of samples: the program's samplesLeft. -/
import Derived.Test.YtjhdmghpklagkaaGreatD31
import Derived.Test.YtjhdmghpklagkaaGreatD22
import Derived.Test.YtjhdmghpklagkaaGreatD07
namespace Go.Proofs.YtjhdmghpklagkaaGreat.Blk
open Go.RowKit
open Go.Proofs.YtjhdmghpklagkaaGreat.Smp (Sm HasS cut Own Piece flat flat_cells flat_oneCell flat_len flat_append own_form)
open Go.Proofs.YtjhdmghpklagkaaGreat.Srs (hid lt_at kept)
open Go.Proofs.YtjhdmghpklagkaaGreat.Stn (T HasT FitT SmlT agT t0 three Cells)

def spans (L : List T) : List Sp := L.map fun p => (p.f, p.t)
theorem spans_drop {L : List T} {k : Nat} (h : k < L.length) : (spans L).drop k = ((L.getD k t0).f, (L.getD k t0).t) :: (spans L).drop (k + 1) := by
  have h' : k < (spans L).length := by unfold spans; simpa using h
  rw [List.drop_eq_getElem_cons h']
  congr 1
  simp [spans, h]
theorem infoS' : (Tryz.prog.info? 119).map (fun i => (i.zero, i.size, i.bytes)) = some (some (.agg #[.int .i64 0, .int .i64 0]), 2, 16) := by kernel_rfl
theorem pg_cons (f t : Int) (S : List Sp) (s : List Sm) (x y : Int) : pg ((f, t) :: S) s x y = cut s x (min y (f - 1)) ++ pg S s (max x (t + 1)) y := rfl
set_option maxRecDepth 10000 in
set_option maxHeartbeats 4000000 in
theorem f130 (a a' : Option Addr) (c c' : Nat) (s : List Sm) (L : List T) (x y : Int) (w : World) (hx0 : -9223372036854775808 ≤ x) (hx1 : x ≤ 9223372036854775807) (hy0 : -9223372036854775808 ≤ y) (hy1 : y ≤ 9223372036854775807) (hg : Smp.GoodP s) (hr : HasS w a s) (hc : s.length ≤ c) (hL : HasT w a' L) (h100 : L.length ≤ 100) (hf : ∀ i, i < L.length → 0 ≤ (L.getD i t0).f ∧ (L.getD i t0).f ≤ 1000000000001 ∧ 0 ≤ (L.getD i t0).t ∧ (L.getD i t0).t ≤ 1000000000001) (hlen : (pg (spans L) s x y).length ≤ 2000) :
    Calls Tryz.prog 130 #[.slice a s.length c, .slice a' L.length c', .int .i64 x, .int .i64 y] w fun e w' => ∃ v, e = .returned v ∧ Smp.Own w' w.heap.size v (pg (spans L) s x y) ∧ Below w.heap.size w w' := by
  obtain ⟨i0, hi, hz0, hz1, hz2⟩ := info_parts infoS'
  have HG := hid hg
  have HR := hid hr
  have HL := hid hL
  have HF := hid hf
  have HLen := hid hlen
  clear hg hr hL hf hlen
  go_enter Tryz.func130, Tryz.ntmps130
  go_wp2
  go_loopw [2, 9, 14] (fun sx so si wr => ∃ (k : Nat) (x' : Int) (v : Value) (O : List Sm), k ≤ L.length ∧ si = .int .i64 k ∧ sx = .int .i64 x' ∧ so = v ∧ -9223372036854775808 ≤ x' ∧ x' ≤ 9223372036854775807 ∧ Hid (Smp.Own wr w.heap.size v O) ∧ Hid (O ++ pg ((spans L).drop k) s x' y = pg (spans L) s x y) ∧ Hid (Below w.heap.size w wr)) (fun _ _ si _ => L.length - (intOf si).toNat)
  case atStart => exact ⟨0, x, _, [], Nat.zero_le _, rfl, rfl, rfl, hx0, hx1, Smp.Own.nil _ _, rfl, Below.refl _ _⟩
  case round =>
    obtain ⟨k, x', v, O, hk, rfl, rfl, rfl, hx'0, hx'1, HO, HE, HX⟩ := hrel
    obtain ⟨ao, co, rfl⟩ := own_form HO.out
    by_cases hlt : k < L.length
    rotate_left
    · obtain rfl : k = L.length := by omega
      have HE2 : Hid (O ++ cut s x' y = pg (spans L) s x y) := by
        have h := HE.out
        rw [List.drop_eq_nil_of_le (by unfold spans; simp)] at h
        exact h
      have hol : O.length + (cut s x' y).length ≤ 2000 := by have := HLen.out; rw [← HE2.out, List.length_append] at this; exact this
      go_wp2_with fail
      refine (Smp.f158 a c s x' y _ HG.out (HR.out.below HX.out) hc).mono ?_
      rintro e w2 ⟨v2, rfl, hv2, hb2⟩
      have HX2 := hid (HX.out.trans (hb2.mono HX.out.size))
      have HO2 := hid (HO.out.below hb2)
      clear hb2 HO HX
      generalize cut s x' y = C at *
      rcases hv2 with ⟨rfl, rfl⟩ | ⟨hpos, b2, o2, rfl, hs2⟩
      · have HE3 : Hid (O = pg (spans L) s x y) := by have h := HE2.out; rw [List.append_nil] at h; exact h
        go_wp2_with (at_builtin; refine wpList_append_own_none rfl (.tmp 34) (.tmp 38) 78 rfl w.heap.size 119 i0 2 Tryz.underlying78 hi _ _ _ rfl HO2.out rfl ?_)
        go_ret
        exact ⟨_, rfl, by rw [← HE3.out]; exact HO2.out, HX2.out⟩
      · have HCS := hid (flat_cells hs2)
        have HOC := hid (flat_oneCell C)
        have HFL := hid (flat_len C)
        have HAP := hid (flat_append O C)
        clear hs2
        go_wp2_with (at_builtin; refine wpList_append_own _ rfl (.tmp 34) (.tmp 38) 78 rfl w.heap.size 119 i0 (.agg #[.int .i64 0, .int .i64 0]) 2 16 Tryz.underlying78 hi hz0 hz1 hz2 rfl (by decide) _ _ _ rfl HO2.out ⟨b2, o2, none⟩ C.length C.length (flat C) rfl HFL.out HCS.out HOC.out ?d3 ?d4 HX2.out.size ?_)
        case d3 => unfold maxLen; omega
        case d4 => omega
        intro v1 w3 hown1 hgr1 _
        go_wp2
        go_ret
        refine ⟨v1, rfl, ?_, HX2.out.grown hgr1 HX2.out.size (fun k hk => (World.ownsRow.lt HO2.out k hk).1)⟩
        rw [← HE2.out]
        unfold Smp.Own
        rw [HAP.out, List.length_append]
        exact hown1
    obtain ⟨b, off, rfl, hbl, ⟨c0, c1, c2⟩, t1⟩ := (HL.out.below HX.out).at2 k hlt
    obtain ⟨f0, f1, g0, g1⟩ := HF.out k hlt
    have HE1 := hid HE.out
    rw [spans_drop hlt, pg_cons] at HE1
    clear t1
    generalize L.getD k t0 = q at *
    have HW0 := hid ((Below.refl wr.heap.size wr).alloc (Nat.le_refl _) (.cells #[.slice q.a q.l.length q.c, .int .i64 q.f, .int .i64 q.t] 94))
    have HBox := hid (heap_alloc_new wr (.cells #[.slice q.a q.l.length q.c, .int .i64 q.f, .int .i64 q.t] 94))
    have HX0 := hid (HX.out.trans (HW0.out.mono HX.out.size))
    have HO0 := hid (HO.out.below HW0.out)
    have i1 : (k : Int) < (L.length : Int) := by omega
    obtain ⟨mn, hmn⟩ : ∃ mn, mn = min y (q.f - 1) := ⟨_, rfl⟩
    obtain ⟨mx, hmx⟩ : ∃ mx, mx = max x' (q.t + 1) := ⟨_, rfl⟩
    have HMX : Hid (mx = max x' (q.t + 1)) := hmx
    rw [← hmn, ← hmx] at HE1
    have hmx0 : -9223372036854775808 ≤ mx ∧ mx ≤ 9223372036854775807 := by omega
    have hol : O.length + (cut s x' mn).length ≤ 2000 := by have := HLen.out; rw [← HE1.out, List.length_append, List.length_append] at this; omega
    have HCall := fun z (hz : HasS z a s) => hid (Smp.f158 a c s x' mn z HG.out hz hc)
    have HSt : ∀ (W : World) (vo : Value) (O2 : List Sm), Hid (W.heap[wr.heap.size]? = some (.cells #[.slice q.a q.l.length q.c, .int .i64 q.f, .int .i64 q.t] 94) → Smp.Own W w.heap.size vo O2 → Below w.heap.size w W → O2 = O ++ cut s x' mn → O2 ++ pg ((spans L).drop (k + 1)) s mx y = pg (spans L) s x y) := by
      intro W vo O2 _ _ _ h
      rw [h, List.append_assoc]
      exact HE1.out
    clear hmx HE HE1
    have HOlt : Hid (∀ j, (Value.slice ao O.length co).ownBlock = some j → j < wr.heap.size) := fun j hj => (World.ownsRow.lt HO.out j hj).2
    by_cases hm1 : y ≤ q.f - 1
    · obtain rfl : mn = y := by rw [hmn]; omega
      clear hmn
      go_wp2_with fail
      refine (HCall _ (HR.out.below HX0.out)).out.mono ?_
      rintro e w2 ⟨v2, rfl, hv2, hb2⟩
      have HX2 := hid (HX0.out.trans (hb2.mono HX0.out.size))
      have HO2 := hid (HO0.out.below hb2)
      have HB2 := hid (kept HBox.out hb2)
      clear hb2 HO HO0 HX HX0 HBox HCall c0 c1 c2
      rcases hv2 with ⟨hC, rfl⟩ | ⟨hpos, b2, o2, rfl, hs2⟩
      · have HE3 := hid ((HSt w2 _ O).out HB2.out HO2.out HX2.out (by rw [hC, List.append_nil]))
        clear hC
        obtain ⟨d0, d1, d2⟩ := three HB2.out
        by_cases hm2 : x' ≤ q.t + 1
        · obtain rfl : mx = q.t + 1 := by rw [HMX.out]; omega
          clear HMX
          go_wp2_with (at_builtin; refine wpList_append_own_none rfl (.tmp 18) (.tmp 26) 78 rfl w.heap.size 119 i0 2 Tryz.underlying78 hi _ _ _ rfl HO2.out rfl ?_)
          go_roundw
          case rel => exact ⟨k + 1, q.t + 1, _, O, by omega, by go_num, by go_num, rfl, by omega, by omega, HO2.out, HE3.out, HX2.out⟩
          case measure => simp [intOf]; omega
        · obtain rfl : mx = x' := by rw [HMX.out]; omega
          clear HMX
          go_wp2_with (at_builtin; refine wpList_append_own_none rfl (.tmp 18) (.tmp 26) 78 rfl w.heap.size 119 i0 2 Tryz.underlying78 hi _ _ _ rfl HO2.out rfl ?_)
          go_roundw
          case rel => exact ⟨k + 1, mx, _, O, by omega, by go_num, rfl, rfl, by omega, by omega, HO2.out, HE3.out, HX2.out⟩
          case measure => simp [intOf]; omega
      · have HCS := hid (flat_cells hs2)
        have HOC := hid (flat_oneCell (cut s x' mn))
        have HFL := hid (flat_len (cut s x' mn))
        have HAP := hid (flat_append O (cut s x' mn))
        clear hs2
        generalize cut s x' mn = C at *
        go_wp2_with (at_builtin; refine wpList_append_own _ rfl (.tmp 18) (.tmp 26) 78 rfl w.heap.size 119 i0 (.agg #[.int .i64 0, .int .i64 0]) 2 16 Tryz.underlying78 hi hz0 hz1 hz2 rfl (by decide) _ _ _ rfl HO2.out ⟨b2, o2, none⟩ C.length C.length (flat C) rfl HFL.out HCS.out HOC.out ?d3 ?d4 HX2.out.size ?_)
        case d3 => unfold maxLen; omega
        case d4 => omega
        intro v1 w3 hown1 hgr1 _
        have HO3 : Hid (Smp.Own w3 w.heap.size v1 (O ++ C)) := by unfold Hid Smp.Own; rw [HAP.out, List.length_append]; exact hown1
        have HX3 := hid (HX2.out.grown hgr1 HX2.out.size (fun k hk => (World.ownsRow.lt HO2.out k hk).1))
        have HB3 : Hid (w3.heap[wr.heap.size]? = some (.cells #[.slice q.a q.l.length q.c, .int .i64 q.f, .int .i64 q.t] 94)) :=
          (hgr1.block wr.heap.size (lt_at HB2.out) (fun e => by have := HOlt.out wr.heap.size e.symm; omega)).trans HB2.out
        have HE3 := hid ((HSt w3 _ (O ++ C)).out HB3.out HO3.out HX3.out rfl)
        clear hown1 hgr1 HO2 HX2 HB2 HAP HFL HOC HCS
        obtain ⟨d0, d1, d2⟩ := three HB3.out
        by_cases hm2 : x' ≤ q.t + 1
        · obtain rfl : mx = q.t + 1 := by rw [HMX.out]; omega
          clear HMX
          go_wp2
          go_roundw
          case rel => exact ⟨k + 1, q.t + 1, _, O ++ C, by omega, by go_num, by go_num, rfl, by omega, by omega, HO3.out, HE3.out, HX3.out⟩
          case measure => simp [intOf]; omega
        · obtain rfl : mx = x' := by rw [HMX.out]; omega
          clear HMX
          go_wp2
          go_roundw
          case rel => exact ⟨k + 1, mx, _, O ++ C, by omega, by go_num, rfl, rfl, by omega, by omega, HO3.out, HE3.out, HX3.out⟩
          case measure => simp [intOf]; omega
    · obtain rfl : mn = q.f - 1 := by rw [hmn]; omega
      clear hmn
      go_wp2_with fail
      refine (HCall _ (HR.out.below HX0.out)).out.mono ?_
      rintro e w2 ⟨v2, rfl, hv2, hb2⟩
      have HX2 := hid (HX0.out.trans (hb2.mono HX0.out.size))
      have HO2 := hid (HO0.out.below hb2)
      have HB2 := hid (kept HBox.out hb2)
      clear hb2 HO HO0 HX HX0 HBox HCall c0 c1 c2
      rcases hv2 with ⟨hC, rfl⟩ | ⟨hpos, b2, o2, rfl, hs2⟩
      · have HE3 := hid ((HSt w2 _ O).out HB2.out HO2.out HX2.out (by rw [hC, List.append_nil]))
        clear hC
        obtain ⟨d0, d1, d2⟩ := three HB2.out
        by_cases hm2 : x' ≤ q.t + 1
        · obtain rfl : mx = q.t + 1 := by rw [HMX.out]; omega
          clear HMX
          go_wp2_with (at_builtin; refine wpList_append_own_none rfl (.tmp 18) (.tmp 26) 78 rfl w.heap.size 119 i0 2 Tryz.underlying78 hi _ _ _ rfl HO2.out rfl ?_)
          go_roundw
          case rel => exact ⟨k + 1, q.t + 1, _, O, by omega, by go_num, by go_num, rfl, by omega, by omega, HO2.out, HE3.out, HX2.out⟩
          case measure => simp [intOf]; omega
        · obtain rfl : mx = x' := by rw [HMX.out]; omega
          clear HMX
          go_wp2_with (at_builtin; refine wpList_append_own_none rfl (.tmp 18) (.tmp 26) 78 rfl w.heap.size 119 i0 2 Tryz.underlying78 hi _ _ _ rfl HO2.out rfl ?_)
          go_roundw
          case rel => exact ⟨k + 1, mx, _, O, by omega, by go_num, rfl, rfl, by omega, by omega, HO2.out, HE3.out, HX2.out⟩
          case measure => simp [intOf]; omega
      · have HCS := hid (flat_cells hs2)
        have HOC := hid (flat_oneCell (cut s x' (q.f - 1)))
        have HFL := hid (flat_len (cut s x' (q.f - 1)))
        have HAP := hid (flat_append O (cut s x' (q.f - 1)))
        clear hs2
        generalize cut s x' (q.f - 1) = C at *
        go_wp2_with (at_builtin; refine wpList_append_own _ rfl (.tmp 18) (.tmp 26) 78 rfl w.heap.size 119 i0 (.agg #[.int .i64 0, .int .i64 0]) 2 16 Tryz.underlying78 hi hz0 hz1 hz2 rfl (by decide) _ _ _ rfl HO2.out ⟨b2, o2, none⟩ C.length C.length (flat C) rfl HFL.out HCS.out HOC.out ?d3 ?d4 HX2.out.size ?_)
        case d3 => unfold maxLen; omega
        case d4 => omega
        intro v1 w3 hown1 hgr1 _
        have HO3 : Hid (Smp.Own w3 w.heap.size v1 (O ++ C)) := by unfold Hid Smp.Own; rw [HAP.out, List.length_append]; exact hown1
        have HX3 := hid (HX2.out.grown hgr1 HX2.out.size (fun k hk => (World.ownsRow.lt HO2.out k hk).1))
        have HB3 : Hid (w3.heap[wr.heap.size]? = some (.cells #[.slice q.a q.l.length q.c, .int .i64 q.f, .int .i64 q.t] 94)) :=
          (hgr1.block wr.heap.size (lt_at HB2.out) (fun e => by have := HOlt.out wr.heap.size e.symm; omega)).trans HB2.out
        have HE3 := hid ((HSt w3 _ (O ++ C)).out HB3.out HO3.out HX3.out rfl)
        clear hown1 hgr1 HO2 HX2 HB2 HAP HFL HOC HCS
        obtain ⟨d0, d1, d2⟩ := three HB3.out
        by_cases hm2 : x' ≤ q.t + 1
        · obtain rfl : mx = q.t + 1 := by rw [HMX.out]; omega
          clear HMX
          go_wp2
          go_roundw
          case rel => exact ⟨k + 1, q.t + 1, _, O ++ C, by omega, by go_num, by go_num, rfl, by omega, by omega, HO3.out, HE3.out, HX3.out⟩
          case measure => simp [intOf]; omega
        · obtain rfl : mx = x' := by rw [HMX.out]; omega
          clear HMX
          go_wp2
          go_roundw
          case rel => exact ⟨k + 1, mx, _, O ++ C, by omega, by go_num, rfl, rfl, by omega, by omega, HO3.out, HE3.out, HX3.out⟩
          case measure => simp [intOf]; omega
end Go.Proofs.YtjhdmghpklagkaaGreat.Blk
namespace Go.Proofs.YtjhdmghpklagkaaGreat.Blk
open Go.RowKit
open Go.Proofs.YtjhdmghpklagkaaGreat.Lab (Lb HasL cmpList)
open Go.Proofs.YtjhdmghpklagkaaGreat.Smp (Sm HasS cut Own Piece flat flat_cells flat_oneCell flat_len flat_append own_form)
open Go.Proofs.YtjhdmghpklagkaaGreat.Srs (hid lt_at kept Q HasQ agQ q0 two)
open Go.Proofs.YtjhdmghpklagkaaGreat.Stn (T HasT FitT SmlT agT t0 three Cells)

theorem step_append_own {P : Program} {ops : Array Oper} {o : Oper} {a : Act} {w : World} {K : Act → World → Prop} {Q : Exit → Act → World → Prop} {E : Prop}
    (hg : o.guard = none) (s x : Operand) (t : TypeId) (hop : o.op = Op.call { callee := Callee.builtin Builtin.append, args := #[s, x], argTypes := #[t, t] })
    (base : Nat) (e : TypeId) (i : TypeInfo) (z : Value) (size bytes : Nat) (h1 : P.underlying t = some (.slice e)) (h2 : P.info? e = some i) (h3 : i.zero = some z) (h4 : i.size = size) (h5 : i.bytes = bytes) (h6 : z.cells.size = size) (h7 : 0 < size)
    (ao : Option Addr) (n cap : Nat) (olds : List Value) (hs : a.eval s = .slice ao n cap) (hown : w.ownsRow base e size (.slice ao n cap) n olds)
    (ad : Addr) (m c : Nat) (news : List Value) (hx : a.eval x = .slice (some ad) m c) (hn : news.length = m * size) (hc : ∀ j u, news[j]? = some u → w.cell? (ad.add j) = some u) (h1c : ∀ u ∈ news, u.oneCell' = true)
    (b1 : n + m ≤ maxLen) (b2 : (n + m) * bytes ≤ 140737488355328) (hbase : base ≤ w.heap.size)
    (hK : ∀ v' w', w'.ownsRow base e size v' (n + m) (olds ++ news) → w.grownBy w' (Value.slice ao n cap).ownBlock → K (a.put o.dst v') w') :
    if Region.wanted o (yielded ops a.tmps) = true then Oper.wp P o a w K Q else E := by
  have hw : Region.wanted o (yielded ops a.tmps) = true := by simp [Region.wanted, hg]
  rw [if_pos hw]
  obtain ⟨v', w', hrun, r1, r2, _⟩ := run_append_own (P := P) w base t o.type e i z size bytes h1 h2 h3 h4 h5 h6 h7 (.slice ao n cap) n olds hown ad m c news hn hc h1c b1 b2 hbase
  unfold Oper.wp
  simp [execOp, hop, resolve, invoke, builtin, hs, hx, hrun, Result.andThen]
  exact hK v' w' r1 r2
theorem step_append_none {P : Program} {ops : Array Oper} {o : Oper} {a : Act} {w : World} {K : Act → World → Prop} {Q : Exit → Act → World → Prop} {E : Prop}
    (hg : o.guard = none) (s x : Operand) (t : TypeId) (hop : o.op = Op.call { callee := Callee.builtin Builtin.append, args := #[s, x], argTypes := #[t, t] })
    (base : Nat) (e : TypeId) (i : TypeInfo) (size : Nat) (ht : P.underlying t = some (.slice e)) (hi : P.info? e = some i)
    (v : Value) (n : Nat) (xs : List Value) (hs : a.eval s = v) (hown : w.ownsRow base e size v n xs) (hx : a.eval x = .slice none 0 0)
    (hK : K (a.put o.dst v) w) :
    if Region.wanted o (yielded ops a.tmps) = true then Oper.wp P o a w K Q else E := by
  have hw : Region.wanted o (yielded ops a.tmps) = true := by simp [Region.wanted, hg]
  rw [if_pos hw]
  have hrun := run_append_owned_none (P := P) (w := w) base t o.type e i size ht hi v n xs hown
  unfold Oper.wp
  simp [execOp, hop, resolve, invoke, builtin, hs, hx, hrun, Result.andThen]
  exact hK
theorem own_parts {w : World} {base : Nat} {v : Value} {L : List Sm} (h : Smp.Own w base v L) : (L = [] ∧ v = .slice none 0 0) ∨ ∃ g c, v = .slice (some ⟨g, 0, none⟩) L.length c ∧ base ≤ g ∧ HasS w (some ⟨g, 0, none⟩) L := by
  have h' := h
  unfold Smp.Own at h
  rcases h.2 with ⟨h1, h2⟩ | ⟨g, cap, cur, h1, _⟩
  · exact .inl ⟨List.eq_nil_of_length_eq_zero h2, h1⟩
  · rw [h1] at h
    exact .inr ⟨g, cap, h1, (h.lt g rfl).1, Smp.HasS.own h⟩
theorem own1_drop {ts : List T} {l : List Lb} {k : Nat} (h : k < ts.length) : own1 (ts.drop k) l = (if cmpList (ts.getD k t0).l l = 0 then [ts.getD k t0] else []) ++ own1 (ts.drop (k + 1)) l := by
  rw [List.drop_eq_getElem_cons h]
  have e : ts[k] = ts.getD k t0 := by simp [h]
  rw [e]
  clear e
  generalize ts.getD k t0 = p
  unfold own1
  rw [List.filter_cons]
  by_cases hc : cmpList p.l l = 0
  · simp [hc]
  · simp [hc]
theorem two_len {L : List Sm} {f t : Int} (h : L.length ≤ 2000) (hft : f ≤ t) : (cut L 0 (f - 1) ++ cut L (t + 1) 1000000000000).length ≤ 2000 := by
  rw [List.length_append]
  unfold cut
  have key : ∀ L : List Sm, (L.filter fun p => decide (0 ≤ p.1 ∧ p.1 ≤ f - 1)).length + (L.filter fun p => decide (t + 1 ≤ p.1 ∧ p.1 ≤ 1000000000000)).length ≤ L.length := by
    intro L
    induction L with
    | nil => simp
    | cons p L ih =>
      rw [List.filter_cons, List.filter_cons]
      by_cases h1 : 0 ≤ p.1 ∧ p.1 ≤ f - 1
      · have h2 : ¬ (t + 1 ≤ p.1 ∧ p.1 ≤ 1000000000000) := by omega
        simp only [h1, h2, decide_true, decide_false, if_true, List.length_cons, Bool.false_eq_true, if_false, and_self]
        omega
      · by_cases h2 : t + 1 ≤ p.1 ∧ p.1 ≤ 1000000000000
        · simp only [h1, h2, decide_true, decide_false, if_true, List.length_cons, Bool.false_eq_true, if_false, and_self]
          omega
        · simp only [h1, h2, decide_false, List.length_cons, Bool.false_eq_true, if_false]
          omega
  have := key L
  omega
def Loc (X : Nat) (q : Q) (a : Option Addr) : Prop := a = q.b ∨ ∀ bb oo, a = some ⟨bb, oo, none⟩ → X ≤ bb
structure KA (w : World) (h : Bk) (q : Q) (x : World) : Prop where
  b0 : x.heap[w.heap.size]? = some (.cells (clB h) 36)
  b1 : x.heap[w.heap.size + 1]? = some (.cells #[.slice q.a q.l.length q.c, .slice q.b q.s.length q.d] 80)
  has : HasB x h
  lab : HasL x q.a q.l
  smp : HasS x q.b q.s
  bel : Below w.heap.size w x
theorem KA.below {w : World} {h : Bk} {q : Q} {x y : World} (g : KA w h q x) (hb : Below x.heap.size x y) : KA w h q y := ⟨kept g.b0 hb, kept g.b1 hb, g.has.below hb, g.lab.below hb, g.smp.below hb, g.bel.trans (hb.mono g.bel.size)⟩
theorem KA.new {w : World} {h : Bk} {q : Q} (hr : HasB w h) (hl : HasL w q.a q.l) (hs : HasS w q.b q.s) : KA w h q ((w.alloc (.cells (clB h) 36)).alloc (.cells #[.slice q.a q.l.length q.c, .slice q.b q.s.length q.d] 80)) := by
  have hb : Below w.heap.size w ((w.alloc (.cells (clB h) 36)).alloc (.cells #[.slice q.a q.l.length q.c, .slice q.b q.s.length q.d] 80)) := ((Below.refl w.heap.size w).alloc (Nat.le_refl _) _).alloc (by simp) _
  have h2 := heap_alloc_new (w.alloc (.cells (clB h) 36)) (.cells #[.slice q.a q.l.length q.c, .slice q.b q.s.length q.d] 80)
  simp only [World.size_alloc] at h2
  exact ⟨(Below.heap_alloc _ _ w.heap.size (by simp)).trans (heap_alloc_new w _), h2, hr.below hb, hl.below hb, hs.below hb, hb⟩
abbrev SA (p : T) (B : Nat) (z x : World) : Prop := x.cell? ⟨B, 1, none⟩ = some (.int .i64 p.f) ∧ x.cell? ⟨B, 2, none⟩ = some (.int .i64 p.t) ∧ Below z.heap.size z x
theorem SA.new {p : T} {B : Nat} {z x : World} (hb : z.heap[B]? = some (.cells #[.slice p.a p.l.length p.c, .int .i64 p.f, .int .i64 p.t] 94)) (h : Below z.heap.size z x) : SA p B z x := by
  obtain ⟨d0, d1, d2⟩ := three (kept hb h)
  exact ⟨d1, d2, h⟩
set_option maxRecDepth 10000 in
set_option maxHeartbeats 4000000 in
theorem f114 (h : Bk) (q : Q) (w : World) (hr : HasB w h) (hz : SmlB h) (hf : FitT h.ts) (h100 : h.ts.length ≤ 100) (ht : ∀ i, i < h.ts.length → 0 ≤ (h.ts.getD i t0).f ∧ (h.ts.getD i t0).f ≤ 1000000000001 ∧ 0 ≤ (h.ts.getD i t0).t ∧ (h.ts.getD i t0).t ≤ 1000000000001 ∧ (h.ts.getD i t0).f ≤ (h.ts.getD i t0).t) (hl : HasL w q.a q.l) (hl1 : q.l.length ≤ 1048576) (hs : HasS w q.b q.s) (hs1 : q.s.length ≤ 2000) :
    Calls Tryz.prog 114 #[agB h, agQ q] w fun e w' => ∃ (a2 : Option Addr) (c2 : Nat) (L : List Sm), Hid (L = md (spans (own1 h.ts q.l)) q.s) ∧ e = .returned (.slice a2 L.length c2) ∧ Hid (HasS w' a2 L) ∧ Hid (Loc w.heap.size q a2) ∧ L.length ≤ 2000 ∧ Below w.heap.size w w' := by
  obtain ⟨i0, hi, hz0, hz1, hz2⟩ := info_parts infoS'
  obtain ⟨F, TT, LL, qs, a, c, ts, b, d⟩ := h
  simp only at hf h100 ht
  have H0 := hid (KA.new hr hl hs)
  have HZ := hid hz.2.2.2
  have HF := hid hf
  have HT := hid ht
  clear hr hl hs hz hf ht
  simp only [clB] at H0
  obtain ⟨b0, b1, b2, b3, b4⟩ := five H0.out.b0
  obtain ⟨e0, e1⟩ := two H0.out.b1
  simp only [agB, clB, agQ]
  go_enter Tryz.func114, Tryz.ntmps114
  go_wp2
  go_loopw [5, 13] (fun so si wr => ∃ (k : Nat) (a2 : Option Addr) (c2 : Nat) (L : List Sm), k ≤ ts.length ∧ si = .int .i64 k ∧ so = .slice a2 L.length c2 ∧ L.length ≤ 2000 ∧ Hid (HasS wr a2 L) ∧ Hid (Loc w.heap.size q a2) ∧ Hid (md (spans (own1 (ts.drop k) q.l)) L = md (spans (own1 ts q.l)) q.s) ∧ Hid (KA w ⟨F, TT, LL, qs, a, c, ts, b, d⟩ q wr)) (fun _ si _ => ts.length - (intOf si).toNat)
  case atStart => exact ⟨0, q.b, q.d, q.s, Nat.zero_le _, rfl, rfl, hs1, H0.out.smp, .inl rfl, rfl, H0.out⟩
  case round =>
    clear b0 b1 b2 b3 b4 e0 e1 H0
    obtain ⟨k, a2, c2, L, hk, rfl, rfl, hL, HS, HLo, HM, HX⟩ := hrel
    by_cases hlt : k < ts.length
    rotate_left
    · obtain rfl : k = ts.length := by omega
      have HE : Hid (L = md (spans (own1 ts q.l)) q.s) := by
        have h := HM.out
        rw [List.drop_eq_nil_of_le (Nat.le_refl _)] at h
        exact h
      go_wp2
      go_ret
      exact ⟨a2, c2, L, HE, rfl, HS, HLo, hL, HX.out.bel⟩
    obtain ⟨bb, off, hbb, hbl, ⟨c0, c1, c2'⟩, t1⟩ := HX.out.has.2.at2 k hlt
    simp only at hbb c0 c1 c2' t1
    subst hbb
    have HZq := hid (HZ.out k hlt)
    have HFq := hid (HF.out k).1
    obtain ⟨f0, f1, g0, g1, g2⟩ := HT.out k hlt
    have HD := hid HM.out
    rw [own1_drop hlt] at HD
    generalize ts.getD k t0 = p at *
    have i1 : (k : Int) < (ts.length : Int) := by omega
    have HW0 := hid ((Below.refl wr.heap.size wr).alloc (Nat.le_refl _) (.cells #[.slice p.a p.l.length p.c, .int .i64 p.f, .int .i64 p.t] 94))
    have HBx := hid (heap_alloc_new wr (.cells #[.slice p.a p.l.length p.c, .int .i64 p.f, .int .i64 p.t] 94))
    have HX1 := hid (HX.out.below HW0.out)
    have HT1 := hid (t1.below HW0.out)
    have HS1 := hid (HS.out.below HW0.out)
    obtain ⟨e0, e1⟩ := two HX1.out.b1
    clear t1 hbl HM
    go_wp2_with fail
    refine (Lab.f88 p.a q.a p.l.length q.l.length p.c q.c p.l q.l _ rfl rfl HZq.out hl1 HT1.out HX1.out.lab HFq.out).mono ?_
    rintro e w2 ⟨rfl, nq, hw2⟩
    have hb2 : Below (wr.alloc (.cells #[.slice p.a p.l.length p.c, .int .i64 p.f, .int .i64 p.t] 94)).heap.size (wr.alloc (.cells #[.slice p.a p.l.length p.c, .int .i64 p.f, .int .i64 p.t] 94)) w2 := by rw [hw2]; exact Lab.below_drewN (Below.refl _ _) nq
    have HX2 := hid (HX1.out.below hb2)
    have HS2 := hid (HS1.out.below hb2)
    have HB2 := hid (kept HBx.out hb2)
    clear hw2 hb2 HX HX1 HS HS1 HBx HT1 e0 e1 c0 c1 c2'
    generalize wr.heap.size = B at *
    by_cases h3 : cmpList p.l q.l = 0
    rotate_left
    · have g3 : (cmpList p.l q.l == 0) = false := by rw [beq_eq_false_iff_ne]; exact h3
      have HD2 : Hid (md (spans (own1 (ts.drop (k + 1)) q.l)) L = md (spans (own1 ts q.l)) q.s) := by
        have h := HD.out
        rw [if_neg h3] at h
        exact h
      clear h3
      generalize cmpList p.l q.l = z at *
      go_wp2
      go_roundw
      case rel => exact ⟨k + 1, a2, c2, L, by omega, by go_num, rfl, hL, HS2, HLo, HD2, HX2⟩
      case measure => simp [intOf]; omega
    have g3 : (cmpList p.l q.l == 0) = true := by rw [h3]; rfl
    have HD2 : Hid (md (spans (own1 (ts.drop (k + 1)) q.l)) (cut L 0 (p.f - 1) ++ cut L (p.t + 1) 1000000000000) = md (spans (own1 ts q.l)) q.s) := by
      have h := HD.out
      rw [if_pos h3] at h
      exact h
    clear h3
    generalize cmpList p.l q.l = z at *
    have hq1 : IntKind.i64.wrap (p.f - 1) = p.f - 1 := by rw [IntKind.wrap_i64]; omega
    have hq2 : IntKind.i64.wrap (p.t + 1) = p.t + 1 := by rw [IntKind.wrap_i64]; omega
    have HLn : Hid ((cut L 0 (p.f - 1) ++ cut L (p.t + 1) 1000000000000).length ≤ 2000) := hid (two_len hL g2)
    have hX2 : w.heap.size ≤ w2.heap.size := HX2.out.bel.size
    go_wp2_with fail
    refine wp_region_held_drew (S := fun x => SA p B w2 x) rfl (SA.new HB2.out (Below.refl _ _).drew) (fun hHeld => ?_)
    refine tkH 0 (some 23) (.slice a2 L.length c2) rfl ?_
    simp only [Act.put, zzA, zzB, zzC]
    refine tkH 1 (some 24) (.pointer (some ⟨B, 1, none⟩)) rfl ?_
    simp only [Act.put, zzA, zzB, zzC]
    refine tkH 2 (some 25) (.int .i64 p.f) rfl ?_
    simp only [Act.put, zzA, zzB, zzC]
    refine tkH 3 (some 26) (.int .i64 (p.f - 1)) rfl ?_
    simp only [Act.put, zzA, zzB, zzC]
    refine tkH 5 (some 28) (.slice a2 L.length c2) rfl ?_
    simp only [Act.put, zzA, zzB, zzC]
    refine tkH 6 (some 29) (.pointer (some ⟨B, 2, none⟩)) rfl ?_
    simp only [Act.put, zzA, zzB, zzC]
    refine tkH 7 (some 30) (.int .i64 p.t) rfl ?_
    simp only [Act.put, zzA, zzB, zzC]
    refine tkH 8 (some 31) (.int .i64 (p.t + 1)) rfl ?_
    simp only [Act.put, zzA, zzB, zzC]
    refine wpAnyH_ready (rs := [4]) (by kernel_rfl) (by simp) (AllReadyH.cons (o := { dst := some 27, op := _, type := _, pos := _, after := _, guard := _ }) rfl ?_ AllReadyH.nil)
    intro K1 hK1
    go_simp
    go_wp2_with (go_at_call 148; refine (Smp.f148 a2 c2 L 0 (p.f - 1) _ (by omega) (HS2.out.below hHeld.2.2)).mono ?_; rintro e w4 ⟨v4, rfl, hv4, hb4⟩; have hs4 : SA p B w2 w4 := SA.new HB2.out (hHeld.2.2.trans (hb4.mono hHeld.2.2.size)))
    refine hK1.out _ _ hs4 (fun _ => ?_)
    clear hK1 K1
    have HV4 : Hid (Smp.Own w4 w2.heap.size v4 (cut L 0 (p.f - 1))) := World.ownsRow.mono hv4 hHeld.2.2.size
    clear hHeld hv4 hb4
    refine wpAnyH_ready (rs := [9]) (by kernel_rfl) (by simp) (AllReadyH.cons (o := { dst := some 32, op := _, type := _, pos := _, after := _, guard := _ }) rfl ?_ AllReadyH.nil)
    intro K2 hK2
    go_simp
    go_wp2_with (go_at_call 148; refine (Smp.f148 a2 c2 L (p.t + 1) 1000000000000 _ (by omega) (HS2.out.below hs4.2.2)).mono ?_; rintro e w5 ⟨v5, rfl, hv5, hb5⟩; have hs5 : SA p B w2 w5 := SA.new HB2.out (hs4.2.2.trans (hb5.mono hs4.2.2.size)))
    refine hK2.out _ _ hs5 (fun _ => ?_)
    clear hK2 K2
    have HV5 : Hid (Smp.Own w5 w2.heap.size v4 (cut L 0 (p.f - 1))) := HV4.out.below hb5
    have HU5 := hid hv5
    clear hs4 hv5 hb5 HV4
    obtain ⟨a4, c4, rfl⟩ := own_form HV5.out
    rcases own_parts HU5.out with ⟨hC, rfl⟩ | ⟨g5, c5, rfl, hg5, hh5⟩
    · have HD3 := HD2
      rw [hC, List.append_nil] at HD3 HLn
      clear hC HD2
      refine wpAnyH_ready (rs := [10]) (by kernel_rfl) (by simp) (AllReadyH.cons (o := { dst := some 33, op := _, type := _, pos := _, after := _, guard := _ }) rfl ?_ AllReadyH.nil)
      intro K3 hK3
      refine step_append_none rfl (.tmp 27) (.tmp 32) 78 rfl w2.heap.size 119 i0 2 Tryz.underlying78 hi _ _ _ rfl HV5.out rfl ?_
      refine hK3.out _ _ hs5 (fun _ => ?_)
      clear hK3 K3
      simp only [Act.put, zzA, zzB, zzC]
      refine tkH 11 (some 5) (.slice a4 (cut L 0 (p.f - 1)).length c4) rfl ?_
      simp only [Act.put, zzA, zzB, zzC]
      refine wpAnyH_done (by kernel_rfl) ?_ _
      have HX5 := hid (HX2.out.below hs5.2.2)
      have HS5 : Hid (HasS w5 a4 (cut L 0 (p.f - 1)) ∧ Loc w.heap.size q a4) := by
        rcases own_parts HV5.out with ⟨h1, h2⟩ | ⟨g, c, h2, h3, h4⟩
        · simp only [Value.slice.injEq] at h2; obtain ⟨rfl, -, -⟩ := h2; rw [h1]; exact ⟨.inl rfl, .inr fun bb oo e => by cases e⟩
        · simp only [Value.slice.injEq] at h2; obtain ⟨rfl, -, -⟩ := h2; exact ⟨h4, .inr fun bb oo e => by cases e; omega⟩
      clear hs5 HV5 HU5 HX2 HS2
      generalize cut L 0 (p.f - 1) = C at *
      go_wp2
      go_roundw
      case rel => exact ⟨k + 1, a4, c4, C, by omega, by go_num, rfl, HLn.out, HS5.out.1, HS5.out.2, HD3.out, HX5⟩
      case measure => simp [intOf]; omega
    · have HCS := hid (flat_cells hh5)
      have HOC := hid (flat_oneCell (cut L (p.t + 1) 1000000000000))
      have HFL := hid (flat_len (cut L (p.t + 1) 1000000000000))
      have HAP := hid (flat_append (cut L 0 (p.f - 1)) (cut L (p.t + 1) 1000000000000))
      clear hh5 HU5
      have hln := HLn.out
      rw [List.length_append] at hln
      refine wpAnyH_ready (rs := [10]) (by kernel_rfl) (by simp) (AllReadyH.cons (o := { dst := some 33, op := _, type := _, pos := _, after := _, guard := _ }) rfl ?_ AllReadyH.nil)
      intro K3 hK3
      refine step_append_own rfl (.tmp 27) (.tmp 32) 78 rfl w2.heap.size 119 i0 (.agg #[.int .i64 0, .int .i64 0]) 2 16 Tryz.underlying78 hi hz0 hz1 hz2 rfl (by decide) _ _ _ _ rfl HV5.out ⟨g5, 0, none⟩ _ c5 (flat (cut L (p.t + 1) 1000000000000)) rfl HFL.out HCS.out HOC.out (by unfold maxLen; omega) (by omega) hs5.2.2.size ?_
      intro v6 w6 hown6 hgr6
      have HV6 : Hid (Smp.Own w6 w2.heap.size v6 (cut L 0 (p.f - 1) ++ cut L (p.t + 1) 1000000000000)) := by unfold Hid Smp.Own; rw [HAP.out, List.length_append]; exact hown6
      have hs6 : SA p B w2 w6 := SA.new HB2.out (hs5.2.2.grown hgr6 hs5.2.2.size (fun k hk => (World.ownsRow.lt HV5.out k hk).1))
      refine hK3.out _ _ hs6 (fun _ => ?_)
      clear hK3 K3 hs5 HV5 hown6 hgr6
      obtain ⟨a6, c6, rfl⟩ := own_form HV6.out
      simp only [Act.put, zzA, zzB, zzC]
      refine tkH 11 (some 5) (.slice a6 (cut L 0 (p.f - 1) ++ cut L (p.t + 1) 1000000000000).length c6) rfl ?_
      simp only [Act.put, zzA, zzB, zzC]
      refine wpAnyH_done (by kernel_rfl) ?_ _
      have HX5 := hid (HX2.out.below hs6.2.2)
      have HS5 : Hid (HasS w6 a6 (cut L 0 (p.f - 1) ++ cut L (p.t + 1) 1000000000000) ∧ Loc w.heap.size q a6) := by
        rcases own_parts HV6.out with ⟨h1, h2⟩ | ⟨g, c, h2, h3, h4⟩
        · simp only [Value.slice.injEq] at h2; obtain ⟨rfl, -, -⟩ := h2; rw [h1]; exact ⟨.inl rfl, .inr fun bb oo e => by cases e⟩
        · simp only [Value.slice.injEq] at h2; obtain ⟨rfl, -, -⟩ := h2; exact ⟨h4, .inr fun bb oo e => by cases e; omega⟩
      clear hs6 HV6 HX2 HS2 HCS HOC HFL HAP hln
      generalize cut L 0 (p.f - 1) ++ cut L (p.t + 1) 1000000000000 = C at *
      go_wp2
      go_roundw
      case rel => exact ⟨k + 1, a6, c6, C, by omega, by go_num, rfl, HLn.out, HS5.out.1, HS5.out.2, HD2.out, HX5⟩
      case measure => simp [intOf]; omega
end Go.Proofs.YtjhdmghpklagkaaGreat.Blk
