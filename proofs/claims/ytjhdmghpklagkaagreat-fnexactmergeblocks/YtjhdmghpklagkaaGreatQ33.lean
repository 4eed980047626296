/- What stones leave of samples: the program's samplesLeft. -/
import Derived.Test.YtjhdmghpklagkaaGreatQ32
import Derived.Test.YtjhdmghpklagkaaGreatQ24
namespace Go.Proofs.YtjhdmghpklagkaaGreat.Blk
open Go.RowKit
open Go.Proofs.YtjhdmghpklagkaaGreat.Smp (Sm HasS cut Own Piece flat flat_cells flat_oneCell flat_len flat_append own_form)
open Go.Proofs.YtjhdmghpklagkaaGreat.Srs (hid lt_at kept)
open Go.Proofs.YtjhdmghpklagkaaGreat.Stn (T HasT FitT SmlT agT t0 three Cells)

/-- The spans of stones. -/
def spans (L : List T) : List Sp := L.map fun p => (p.f, p.t)
theorem spans_drop {L : List T} {k : Nat} (h : k < L.length) : (spans L).drop k = ((L.getD k t0).f, (L.getD k t0).t) :: (spans L).drop (k + 1) := by
  have h' : k < (spans L).length := by unfold spans; simpa using h
  rw [List.drop_eq_getElem_cons h']
  congr 1
  simp [spans, h]
theorem infoS' : (Tryz.prog.info? 119).map (fun i => (i.zero, i.size, i.bytes)) = some (some (.agg #[.int .i64 0, .int .i64 0]), 2, 16) := by kernel_rfl
theorem pg_cons (f t : Int) (S : List Sp) (s : List Sm) (x y : Int) : pg ((f, t) :: S) s x y = cut s x (min y (f - 1)) ++ pg S s (max x (t + 1)) y := rfl
set_option maxRecDepth 10000 in
set_option maxHeartbeats 4000000 in
theorem f130 (a a' : Option Addr) (c c' : Nat) (s : List Sm) (L : List T) (x y : Int) (w : World) (hx0 : -9223372036854775808 ≤ x) (hx1 : x ≤ 9223372036854775807) (hy0 : -9223372036854775808 ≤ y) (hy1 : y ≤ 9223372036854775807) (hg : Smp.GoodP s) (hr : HasS w a s) (hc : s.length ≤ c) (hL : HasT w a' L) (h100 : L.length ≤ 100) (hf : ∀ i, i < L.length → 0 ≤ (L.getD i t0).f ∧ (L.getD i t0).f ≤ 1000000000001 ∧ 0 ≤ (L.getD i t0).t ∧ (L.getD i t0).t ≤ 1000000000001) (hlen : (pg (spans L) s x y).length ≤ 2000) :
    Calls Tryz.prog 130 #[.slice a s.length c, .slice a' L.length c', .int .i64 x, .int .i64 y] w fun e w' => ∃ v, e = .returned v ∧ Own w' w.heap.size v (pg (spans L) s x y) ∧ Below w.heap.size w w' := by
  obtain ⟨i0, hi, hz0, hz1, hz2⟩ := info_parts infoS'
  have HG := hid hg
  have HR := hid hr
  have HL := hid hL
  have HF := hid hf
  have HLen := hid hlen
  clear hg hr hL hf hlen
  go_enter Tryz.func130, Tryz.ntmps130
  go_wp2
  go_loopw [2, 9, 14] (fun sx so si wr => ∃ (k : Nat) (x' : Int) (v : Value) (O : List Sm), k ≤ L.length ∧ si = .int .i64 k ∧ sx = .int .i64 x' ∧ so = v ∧ -9223372036854775808 ≤ x' ∧ x' ≤ 9223372036854775807 ∧ Hid (Own wr w.heap.size v O) ∧ Hid (O ++ pg ((spans L).drop k) s x' y = pg (spans L) s x y) ∧ Hid (Below w.heap.size w wr)) (fun _ _ si _ => L.length - (intOf si).toNat)
  case atStart => exact ⟨0, x, _, [], Nat.zero_le _, rfl, rfl, rfl, hx0, hx1, Own.nil _ _, rfl, Below.refl _ _⟩
  case round =>
    obtain ⟨k, x', v, O, hk, rfl, rfl, rfl, hx'0, hx'1, HO, HE, HX⟩ := hrel
    obtain ⟨ao, co, rfl⟩ := own_form HO.out
    by_cases hlt : k < L.length
    rotate_left
    · obtain rfl : k = L.length := by omega
      have HE2 : Hid (O ++ cut s x' y = pg (spans L) s x y) := by
        have h := HE.out
        rw [List.drop_eq_nil_of_le (by unfold spans; simp)] at h
        exact h
      have hol : O.length + (cut s x' y).length ≤ 2000 := by have := HLen.out; rw [← HE2.out, List.length_append] at this; exact this
      go_wp2_with fail
      refine (Smp.f158 a c s x' y _ HG.out (HR.out.below HX.out) hc).mono ?_
      rintro e w2 ⟨v2, rfl, hv2, hb2⟩
      have HX2 := hid (HX.out.trans (hb2.mono HX.out.size))
      have HO2 := hid (HO.out.below hb2)
      clear hb2 HO HX
      generalize cut s x' y = C at *
      rcases hv2 with ⟨rfl, rfl⟩ | ⟨hpos, b2, o2, rfl, hs2⟩
      · have HE3 : Hid (O = pg (spans L) s x y) := by have h := HE2.out; rw [List.append_nil] at h; exact h
        go_wp2_with (at_builtin; refine wpList_append_own_none rfl (.tmp 34) (.tmp 38) 78 rfl w.heap.size 119 i0 2 Tryz.underlying78 hi _ _ _ rfl HO2.out rfl ?_)
        go_ret
        exact ⟨_, rfl, by rw [← HE3.out]; exact HO2.out, HX2.out⟩
      · have HCS := hid (flat_cells hs2)
        have HOC := hid (flat_oneCell C)
        have HFL := hid (flat_len C)
        have HAP := hid (flat_append O C)
        clear hs2
        go_wp2_with (at_builtin; refine wpList_append_own _ rfl (.tmp 34) (.tmp 38) 78 rfl w.heap.size 119 i0 (.agg #[.int .i64 0, .int .i64 0]) 2 16 Tryz.underlying78 hi hz0 hz1 hz2 rfl (by decide) _ _ _ rfl HO2.out ⟨b2, o2, none⟩ C.length C.length (flat C) rfl HFL.out HCS.out HOC.out ?d3 ?d4 HX2.out.size ?_)
        case d3 => unfold maxLen; omega
        case d4 => omega
        intro v1 w3 hown1 hgr1 _
        go_wp2
        go_ret
        refine ⟨v1, rfl, ?_, HX2.out.grown hgr1 HX2.out.size (fun k hk => (World.ownsRow.lt HO2.out k hk).1)⟩
        rw [← HE2.out]
        unfold Own
        rw [HAP.out, List.length_append]
        exact hown1
    obtain ⟨b, off, rfl, hbl, ⟨c0, c1, c2⟩, t1⟩ := (HL.out.below HX.out).at2 k hlt
    obtain ⟨f0, f1, g0, g1⟩ := HF.out k hlt
    have HE1 := hid HE.out
    rw [spans_drop hlt, pg_cons] at HE1
    clear t1
    generalize L.getD k t0 = q at *
    have HW0 := hid ((Below.refl wr.heap.size wr).alloc (Nat.le_refl _) (.cells #[.slice q.a q.l.length q.c, .int .i64 q.f, .int .i64 q.t] 94))
    have HBox := hid (heap_alloc_new wr (.cells #[.slice q.a q.l.length q.c, .int .i64 q.f, .int .i64 q.t] 94))
    have HX0 := hid (HX.out.trans (HW0.out.mono HX.out.size))
    have HO0 := hid (HO.out.below HW0.out)
    have i1 : (k : Int) < (L.length : Int) := by omega
    obtain ⟨mn, hmn⟩ : ∃ mn, mn = min y (q.f - 1) := ⟨_, rfl⟩
    obtain ⟨mx, hmx⟩ : ∃ mx, mx = max x' (q.t + 1) := ⟨_, rfl⟩
    have HMX : Hid (mx = max x' (q.t + 1)) := hmx
    rw [← hmn, ← hmx] at HE1
    have hmx0 : -9223372036854775808 ≤ mx ∧ mx ≤ 9223372036854775807 := by omega
    have hol : O.length + (cut s x' mn).length ≤ 2000 := by have := HLen.out; rw [← HE1.out, List.length_append, List.length_append] at this; omega
    have HCall := fun z (hz : HasS z a s) => hid (Smp.f158 a c s x' mn z HG.out hz hc)
    have HSt : ∀ (W : World) (vo : Value) (O2 : List Sm), Hid (W.heap[wr.heap.size]? = some (.cells #[.slice q.a q.l.length q.c, .int .i64 q.f, .int .i64 q.t] 94) → Own W w.heap.size vo O2 → Below w.heap.size w W → O2 = O ++ cut s x' mn → O2 ++ pg ((spans L).drop (k + 1)) s mx y = pg (spans L) s x y) := by
      intro W vo O2 _ _ _ h
      rw [h, List.append_assoc]
      exact HE1.out
    clear hmx HE HE1
    have HOlt : Hid (∀ j, (Value.slice ao O.length co).ownBlock = some j → j < wr.heap.size) := fun j hj => (World.ownsRow.lt HO.out j hj).2
    by_cases hm1 : y ≤ q.f - 1
    · obtain rfl : mn = y := by rw [hmn]; omega
      clear hmn
      go_wp2_with fail
      refine (HCall _ (HR.out.below HX0.out)).out.mono ?_
      rintro e w2 ⟨v2, rfl, hv2, hb2⟩
      have HX2 := hid (HX0.out.trans (hb2.mono HX0.out.size))
      have HO2 := hid (HO0.out.below hb2)
      have HB2 := hid (kept HBox.out hb2)
      clear hb2 HO HO0 HX HX0 HBox HCall c0 c1 c2
      rcases hv2 with ⟨hC, rfl⟩ | ⟨hpos, b2, o2, rfl, hs2⟩
      · have HE3 := hid ((HSt w2 _ O).out HB2.out HO2.out HX2.out (by rw [hC, List.append_nil]))
        clear hC
        obtain ⟨d0, d1, d2⟩ := three HB2.out
        by_cases hm2 : x' ≤ q.t + 1
        · obtain rfl : mx = q.t + 1 := by rw [HMX.out]; omega
          clear HMX
          go_wp2_with (at_builtin; refine wpList_append_own_none rfl (.tmp 18) (.tmp 26) 78 rfl w.heap.size 119 i0 2 Tryz.underlying78 hi _ _ _ rfl HO2.out rfl ?_)
          go_roundw
          case rel => exact ⟨k + 1, q.t + 1, _, O, by omega, by go_num, by go_num, rfl, by omega, by omega, HO2.out, HE3.out, HX2.out⟩
          case measure => simp [intOf]; omega
        · obtain rfl : mx = x' := by rw [HMX.out]; omega
          clear HMX
          go_wp2_with (at_builtin; refine wpList_append_own_none rfl (.tmp 18) (.tmp 26) 78 rfl w.heap.size 119 i0 2 Tryz.underlying78 hi _ _ _ rfl HO2.out rfl ?_)
          go_roundw
          case rel => exact ⟨k + 1, mx, _, O, by omega, by go_num, rfl, rfl, by omega, by omega, HO2.out, HE3.out, HX2.out⟩
          case measure => simp [intOf]; omega
      · have HCS := hid (flat_cells hs2)
        have HOC := hid (flat_oneCell (cut s x' mn))
        have HFL := hid (flat_len (cut s x' mn))
        have HAP := hid (flat_append O (cut s x' mn))
        clear hs2
        generalize cut s x' mn = C at *
        go_wp2_with (at_builtin; refine wpList_append_own _ rfl (.tmp 18) (.tmp 26) 78 rfl w.heap.size 119 i0 (.agg #[.int .i64 0, .int .i64 0]) 2 16 Tryz.underlying78 hi hz0 hz1 hz2 rfl (by decide) _ _ _ rfl HO2.out ⟨b2, o2, none⟩ C.length C.length (flat C) rfl HFL.out HCS.out HOC.out ?d3 ?d4 HX2.out.size ?_)
        case d3 => unfold maxLen; omega
        case d4 => omega
        intro v1 w3 hown1 hgr1 _
        have HO3 : Hid (Own w3 w.heap.size v1 (O ++ C)) := by unfold Hid Own; rw [HAP.out, List.length_append]; exact hown1
        have HX3 := hid (HX2.out.grown hgr1 HX2.out.size (fun k hk => (World.ownsRow.lt HO2.out k hk).1))
        have HB3 : Hid (w3.heap[wr.heap.size]? = some (.cells #[.slice q.a q.l.length q.c, .int .i64 q.f, .int .i64 q.t] 94)) :=
          (hgr1.block wr.heap.size (lt_at HB2.out) (fun e => by have := HOlt.out wr.heap.size e.symm; omega)).trans HB2.out
        have HE3 := hid ((HSt w3 _ (O ++ C)).out HB3.out HO3.out HX3.out rfl)
        clear hown1 hgr1 HO2 HX2 HB2 HAP HFL HOC HCS
        obtain ⟨d0, d1, d2⟩ := three HB3.out
        by_cases hm2 : x' ≤ q.t + 1
        · obtain rfl : mx = q.t + 1 := by rw [HMX.out]; omega
          clear HMX
          go_wp2
          go_roundw
          case rel => exact ⟨k + 1, q.t + 1, _, O ++ C, by omega, by go_num, by go_num, rfl, by omega, by omega, HO3.out, HE3.out, HX3.out⟩
          case measure => simp [intOf]; omega
        · obtain rfl : mx = x' := by rw [HMX.out]; omega
          clear HMX
          go_wp2
          go_roundw
          case rel => exact ⟨k + 1, mx, _, O ++ C, by omega, by go_num, rfl, rfl, by omega, by omega, HO3.out, HE3.out, HX3.out⟩
          case measure => simp [intOf]; omega
    · obtain rfl : mn = q.f - 1 := by rw [hmn]; omega
      clear hmn
      go_wp2_with fail
      refine (HCall _ (HR.out.below HX0.out)).out.mono ?_
      rintro e w2 ⟨v2, rfl, hv2, hb2⟩
      have HX2 := hid (HX0.out.trans (hb2.mono HX0.out.size))
      have HO2 := hid (HO0.out.below hb2)
      have HB2 := hid (kept HBox.out hb2)
      clear hb2 HO HO0 HX HX0 HBox HCall c0 c1 c2
      rcases hv2 with ⟨hC, rfl⟩ | ⟨hpos, b2, o2, rfl, hs2⟩
      · have HE3 := hid ((HSt w2 _ O).out HB2.out HO2.out HX2.out (by rw [hC, List.append_nil]))
        clear hC
        obtain ⟨d0, d1, d2⟩ := three HB2.out
        by_cases hm2 : x' ≤ q.t + 1
        · obtain rfl : mx = q.t + 1 := by rw [HMX.out]; omega
          clear HMX
          go_wp2_with (at_builtin; refine wpList_append_own_none rfl (.tmp 18) (.tmp 26) 78 rfl w.heap.size 119 i0 2 Tryz.underlying78 hi _ _ _ rfl HO2.out rfl ?_)
          go_roundw
          case rel => exact ⟨k + 1, q.t + 1, _, O, by omega, by go_num, by go_num, rfl, by omega, by omega, HO2.out, HE3.out, HX2.out⟩
          case measure => simp [intOf]; omega
        · obtain rfl : mx = x' := by rw [HMX.out]; omega
          clear HMX
          go_wp2_with (at_builtin; refine wpList_append_own_none rfl (.tmp 18) (.tmp 26) 78 rfl w.heap.size 119 i0 2 Tryz.underlying78 hi _ _ _ rfl HO2.out rfl ?_)
          go_roundw
          case rel => exact ⟨k + 1, mx, _, O, by omega, by go_num, rfl, rfl, by omega, by omega, HO2.out, HE3.out, HX2.out⟩
          case measure => simp [intOf]; omega
      · have HCS := hid (flat_cells hs2)
        have HOC := hid (flat_oneCell (cut s x' (q.f - 1)))
        have HFL := hid (flat_len (cut s x' (q.f - 1)))
        have HAP := hid (flat_append O (cut s x' (q.f - 1)))
        clear hs2
        generalize cut s x' (q.f - 1) = C at *
        go_wp2_with (at_builtin; refine wpList_append_own _ rfl (.tmp 18) (.tmp 26) 78 rfl w.heap.size 119 i0 (.agg #[.int .i64 0, .int .i64 0]) 2 16 Tryz.underlying78 hi hz0 hz1 hz2 rfl (by decide) _ _ _ rfl HO2.out ⟨b2, o2, none⟩ C.length C.length (flat C) rfl HFL.out HCS.out HOC.out ?d3 ?d4 HX2.out.size ?_)
        case d3 => unfold maxLen; omega
        case d4 => omega
        intro v1 w3 hown1 hgr1 _
        have HO3 : Hid (Own w3 w.heap.size v1 (O ++ C)) := by unfold Hid Own; rw [HAP.out, List.length_append]; exact hown1
        have HX3 := hid (HX2.out.grown hgr1 HX2.out.size (fun k hk => (World.ownsRow.lt HO2.out k hk).1))
        have HB3 : Hid (w3.heap[wr.heap.size]? = some (.cells #[.slice q.a q.l.length q.c, .int .i64 q.f, .int .i64 q.t] 94)) :=
          (hgr1.block wr.heap.size (lt_at HB2.out) (fun e => by have := HOlt.out wr.heap.size e.symm; omega)).trans HB2.out
        have HE3 := hid ((HSt w3 _ (O ++ C)).out HB3.out HO3.out HX3.out rfl)
        clear hown1 hgr1 HO2 HX2 HB2 HAP HFL HOC HCS
        obtain ⟨d0, d1, d2⟩ := three HB3.out
        by_cases hm2 : x' ≤ q.t + 1
        · obtain rfl : mx = q.t + 1 := by rw [HMX.out]; omega
          clear HMX
          go_wp2
          go_roundw
          case rel => exact ⟨k + 1, q.t + 1, _, O ++ C, by omega, by go_num, by go_num, rfl, by omega, by omega, HO3.out, HE3.out, HX3.out⟩
          case measure => simp [intOf]; omega
        · obtain rfl : mx = x' := by rw [HMX.out]; omega
          clear HMX
          go_wp2
          go_roundw
          case rel => exact ⟨k + 1, mx, _, O ++ C, by omega, by go_num, rfl, rfl, by omega, by omega, HO3.out, HE3.out, HX3.out⟩
          case measure => simp [intOf]; omega
end Go.Proofs.YtjhdmghpklagkaaGreat.Blk
