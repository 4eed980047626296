/- slices.Insert of one element ahead of the end. -/
import Derived.Test.YtigakbhficoonaaIsa
import Derived.Deep.CutRange
namespace Go.Proofs.Ytigakbhficoonaa.Ins
open Go.RowKit Go.Lib
open Go.Proofs.Ytigakbhficoonaa.Cpo

theorem zeros_len (m : Nat) : (Builtin.zeroCells (Value.cells (.agg #[.string ⟨#[]⟩, .string ⟨#[]⟩])) m).size = m * 2 := by
  rw [size_zeroCells]; rfl
set_option maxRecDepth 100000 in
set_option maxHeartbeats 8000000 in
theorem ins_grow (X g n i vb : Nat) (xs vs : List Value) (w : World) (hown : w.ownsRow X 33 2 (.slice (some ⟨g, 0, none⟩) n n) n xs) (hv : w.heap[vb]? = some (.cells vs.toArray 33 (0, 0))) (hvl : vs.length = 2) (hi : i < n) (h1x : ∀ v ∈ xs, v.oneCell' = true) (h1v : ∀ v ∈ vs, v.oneCell' = true) (hn : n ≤ 1000) (hX : X ≤ w.heap.size) :
    Calls Try.prog 35 #[.slice (some ⟨g, 0, none⟩) n n, .int .i64 i, .slice (some ⟨vb, 0, none⟩) 1 1] w (InsR X (some ⟨g, 0, none⟩) n n i xs vs w) := by
  obtain ⟨i0, hi0, hz0, hzs, hzb⟩ := info_parts infoE
  have hxl : xs.length = n * 2 := hown.1
  rcases hown.2 with ⟨h', _⟩ | ⟨g', cap', cur, h', hb, hg, hnc, hcm, hcs, htake⟩
  · simp at h'
  simp only [Value.slice.injEq, Option.some.injEq, Addr.mk.injEq, and_true, true_and] at h'
  obtain ⟨rfl, rfl⟩ := h'
  have hcur : cur.toList = xs := by rw [← htake, List.take_of_length_le (by rw [Array.length_toList, hcs]; exact Nat.le_refl _)]
  have hgw : g < w.heap.size := (Array.getElem?_eq_some_iff.1 hg).1
  have hvw : vb < w.heap.size := (Array.getElem?_eq_some_iff.1 hv).1
  have hkk : (n : Int) + 1 - (i : Int) = ((n + 1 - i : Nat) : Int) := by omega
  have hik : i + (n + 1 - i) = n + 1 := by omega
  have hold : (Builtin.firstCells i0.size i (.slice (some ⟨g, 0, none⟩) i n)).run Try.prog w.drew = .ok (xs.take (i * 2)).toArray w.drew := by
    rw [hzs]
    exact run_firstCells_some w.drew 2 i ⟨g, 0, none⟩ i n (xs.take (i * 2)) (by rw [List.length_take]; omega) (fun j v hj => by
      rw [List.getElem?_take] at hj
      split at hj
      · rw [add_noneI, Nat.zero_add]
        rw [← hcur] at hj
        have hg2 : w.drew.heap[g]? = some (.cells cur 33 (0, 0)) := hg
        simp only [World.cell?, hg2]
        simpa using hj
      · cases hj)
  have hrz : ∀ ty, (Builtin.append_ #[22, 3] ty #[.slice (some ⟨g, 0, none⟩) i n, .int .i64 ((n : Int) + 1 - (i : Int))]).run Try.prog w =
      .ok (.slice (some ⟨w.heap.size, 0, none⟩) (n + 1) (grownCap w (n + 1) n 33)) (w.drew.alloc (.cells ((xs.take (i * 2)).toArray ++ Builtin.zeroCells (Value.cells (.agg #[.string ⟨#[]⟩, .string ⟨#[]⟩])) (n + 1 - i) ++ Builtin.zeroCells (Value.cells (.agg #[.string ⟨#[]⟩, .string ⟨#[]⟩])) (grownCap w (n + 1) n 33 - (n + 1))) 33)) := fun ty => by
    have h := Lib.run_append_grow_zeros (P := Try.prog) w 22 3 ty 33 i0 _ .i64 .i64 Try.underlying22 Try.underlying3 hi0 hz0 (some ⟨g, 0, none⟩) i n (xs.take (i * 2)) hold (n + 1 - i) (by omega) (by omega) (by omega) (by omega) (by rw [hzb]; omega) (by rw [hzb, hik]; exact growslice_fits (by omega) (by omega))
    rw [hik] at h
    rw [hkk]
    exact h
  have hGn : n + 1 ≤ grownCap w (n + 1) n 33 := grownCap_ge w _ _ _
  have hGm := grownCap_le_maxLen w (n + 1) n 33 (by unfold maxLen; omega)
  obtain ⟨G, hG⟩ : ∃ G, G = grownCap w (n + 1) n 33 := ⟨_, rfl⟩
  rw [← hG] at hrz hGn hGm
  obtain ⟨ROW, hROW⟩ : ∃ ROW : Array Value, ROW = (xs.take (i * 2)).toArray ++ Builtin.zeroCells (Value.cells (.agg #[.string ⟨#[]⟩, .string ⟨#[]⟩])) (n + 1 - i) ++ Builtin.zeroCells (Value.cells (.agg #[.string ⟨#[]⟩, .string ⟨#[]⟩])) (G - (n + 1)) := ⟨_, rfl⟩
  rw [← hROW] at hrz
  have hRl : ROW.size = G * 2 := by
    rw [hROW, Array.size_append, Array.size_append, zeros_len, zeros_len, List.size_toArray, List.length_take]
    omega
  have hRt : ROW.toList.take (i * 2) = xs.take (i * 2) := by
    rw [hROW]
    simp only [Array.toList_append]
    rw [List.append_assoc, List.take_append_of_le_length (by rw [List.length_take]; omega), List.take_of_length_le (by rw [List.length_take]; omega)]
  obtain ⟨W1, hW1⟩ : ∃ W1, W1 = w.drew.alloc (.cells ROW 33) := ⟨_, rfl⟩
  rw [← hW1] at hrz
  have HG1 : Hid (W1.heap[w.heap.size]? = some (.cells ROW 33 (0, 0))) := by unfold Hid; rw [hW1]; exact heap_alloc_new w.drew _
  have hb1 : Below w.heap.size w W1 := by rw [hW1]; exact ((Below.refl w.heap.size w).drew).alloc (Nat.le_refl _) _
  have HB1 := hidI hb1
  have HV1 : Hid (W1.heap[vb]? = some (.cells vs.toArray 33 (0, 0))) := (hb1.block vb hvw).trans hv
  have HS1 : Hid (W1.heap[g]? = some (.cells cur 33 (0, 0))) := (hb1.block g hgw).trans hg
  have HRL := hidI hRl
  have HRT := hidI hRt
  have HCU := hidI hcur
  have HXl := hidI hxl
  have HVl := hidI hvl
  have H1 := hidI h1x
  have H2 := hidI h1v
  have HGM := hidI hGm
  have HRZ := hidI hrz
  have hXb := hidI hX
  have hne : g ≠ w.heap.size := by omega
  have HNE := hidI hne
  have HSv := hidI (src_all HV1.out)
  clear hkk hik hrz hown hb hg hnc hcm hcs htake hcur hold hW1 hG hROW hRl hRt hb1 hvw h1x h1v hX hne hGm hxl hvl hv
  have e0 : ((i : Int) == (n : Int)) = false := by simp; omega
  have q1 : (0 : Int) ≤ (i : Int) := by omega
  have q2 : (i : Int) ≤ (n : Int) := by omega
  have q3 : ¬ (n : Int) + 1 ≤ (n : Int) := by omega
  have q4 : (n : Int) < (n : Int) + 1 := by omega
  have q5 : ¬ n = i := by omega
  have q6 : ¬ G = i := by omega
  have q7 : ¬ G = i + 1 := by omega
  have q8 : IntKind.i64.wrap ((i : Int) + 1) = (i : Int) + 1 := by rw [IntKind.wrap_i64]; omega
  have q9 : (i : Int) + 1 ≤ (n : Int) + 1 := by omega
  have q10 : ((i : Int) + 1).toNat = i + 1 := by omega
  have q11 : (0 : Int) ≤ (i : Int) + 1 := by omega
  have q12 : (i : Int) ≤ (n : Int) + 1 := by omega
  have q13 : (n : Int) + 1 ≤ (G : Int) := by omega
  have q14 : (i : Int) ≤ (G : Int) := by omega
  generalize hN : w.heap.size = N at *
  have HN := hidI hN
  clear hN
  go_enter Try.func35, Try.ntmps35
  go_wp2_with (first | (at_builtin; refine Lib.wpList_append_run _ rfl _ _ _ _ rfl _ _ rfl rfl _ _ (HRZ.out _) ?_) | (refine wpList_copy_off rfl (.tmp 43) (.tmp 44) 22 22 rfl 33 i0 2 Try.underlying22 hi0 hzs N (i * 2) (n + 1 - i) 1 1 (G - i) 1 ⟨vb, 0, none⟩ rfl rfl ROW 33 HG1.out ?s1 vs ?s0 HSv.out ?s2 H2.out ?_))
  case s1 => show min 1 (n + 1 - i) = 1; omega
  case s0 => rw [HVl.out]
  case s2 => rw [HVl.out, HRL.out]; omega
  intro w2 hg2 hgr2
  obtain ⟨C2, hC2⟩ : ∃ C2 : List Value, C2 = ROW.toList.take (i * 2) ++ (vs ++ ROW.toList.drop (i * 2 + vs.length)) := ⟨_, rfl⟩
  rw [← hC2] at hg2
  rw [← List.append_assoc] at hC2
  have hC2l : C2.length = G * 2 := by
    have h1 := HVl.out
    have h2 := HRL.out
    rw [hC2]; simp only [List.length_append, List.length_take, List.length_drop, Array.length_toList, h1, h2]; omega
  have hC2t : C2.take ((i + 1) * 2) = xs.take (i * 2) ++ vs := by
    have h1 := HVl.out
    have h2 := HXl.out
    rw [hC2, HRT.out, List.take_append_of_le_length (by simp only [List.length_append, List.length_take]; omega), List.take_of_length_le (by simp only [List.length_append, List.length_take]; omega)]
  have HG2 : Hid (w2.drew.heap[N]? = some (.cells C2.toArray 33 (0, 0))) := hg2
  have HS2 : Hid (w2.drew.heap[g]? = some (.cells cur 33 (0, 0))) := (hgr2.block g (Array.getElem?_eq_some_iff.1 HS1.out).1 (fun e => HNE.out (Option.some.inj e))).trans HS1.out
  have HSs := hidI (src_at (o := i * 2) (k := (n - i) * 2) (cs := xs.drop (i * 2)) HS2.out (by rw [HCU.out, List.take_of_length_le]; have := HXl.out; rw [List.length_drop]; omega))
  have HGr2 := hidI hgr2
  have HL2 := hidI hC2l
  have HT2 := hidI hC2t
  have hdl : (xs.drop (i * 2)).length = (n - i) * 2 := by have := HXl.out; rw [List.length_drop]; omega
  have HDL := hidI hdl
  have HD1 : Hid (∀ v ∈ xs.drop (i * 2), v.oneCell' = true) := fun v hv => H1.out v (List.mem_of_mem_drop hv)
  have HM : Hid (Nat.min (n - i) (n + 1 - (i + 1)) = n - i) := by show min (n - i) (n + 1 - (i + 1)) = n - i; omega
  have HF : Hid ((i + 1) * 2 + (xs.drop (i * 2)).length ≤ C2.toArray.size) := by unfold Hid; rw [hdl, List.size_toArray, hC2l]; omega
  clear hg2 hgr2 hC2 hC2l hC2t hdl HG1 HV1 HS1 HSv HRZ
  go_wp2
  go_region_law (refine step_copy_off rfl (.tmp 50) (.tmp 53) 22 22 rfl 33 i0 2 Try.underlying22 hi0 hzs N ((i + 1) * 2) (n + 1 - (i + 1)) (n - i) (n - i) (G - (i + 1)) (n - i) ⟨g, i * 2, none⟩ (by go_simp) (by go_simp) _ 33 HG2.out HM.out (xs.drop (i * 2)) HDL.out HSs.out HF.out HD1.out ?_; intro w3 hg3 hgr3)
  have HE : Hid (InsR X (some ⟨g, 0, none⟩) n n i xs vs w (.returned (.slice (some ⟨N, 0, none⟩) (n + 1) G)) w3) := by
    refine ⟨_, _, rfl, ⟨?_, .inr ⟨N, G, (C2.take ((i + 1) * 2) ++ xs.drop (i * 2) ++ C2.drop ((i + 1) * 2 + (xs.drop (i * 2)).length)).toArray, rfl, hXb.out, by simpa using hg3, by omega, HGM.out, ?_, ?_⟩⟩, ?_⟩
    · have h1 := HVl.out
      have h2 := HXl.out
      simp only [List.length_append, List.length_take, List.length_drop]; omega
    · have h1 := HDL.out
      have h2 := HL2.out
      simp only [List.size_toArray, List.length_append, List.length_take, List.length_drop] at *; omega
    · have h1 := HVl.out
      have h2 := HXl.out
      have h3 := HDL.out
      rw [List.toList_toArray, HT2.out]
      have h4 : (xs.take (i * 2) ++ vs ++ xs.drop (i * 2)).length = (n + 1) * 2 := by simp only [List.length_append, List.length_take, h1, h2, h3]; omega
      rw [List.take_append_of_le_length (by omega), List.take_of_length_le (by omega)]
    · have k1 : w.grownBy W1 (some g) := ⟨HB1.out.os, HB1.out.tape, HB1.out.output, HB1.out.size, fun j hj _ => HB1.out.block j (by have := HN.out; omega)⟩
      have k2 : w.grownBy w2 (some g) := ⟨HGr2.out.os.trans k1.os, HGr2.out.tape.trans k1.tape, HGr2.out.output.trans k1.output, Nat.le_trans k1.size HGr2.out.size, fun j hj hne => (HGr2.out.block j (by have := k1.size; omega) (fun e => by have := Option.some.inj e; have := HN.out; omega)).trans (k1.block j hj hne)⟩
      exact ⟨hgr3.os.trans k2.os, hgr3.tape.trans k2.tape, hgr3.output.trans k2.output, Nat.le_trans k2.size hgr3.size, fun j hj hne => (hgr3.block j (by have := k2.size; show j < w2.heap.size; omega) (fun e => by have := Option.some.inj e; have := HN.out; omega)).trans (k2.block j hj hne)⟩
  clear hg3 hgr3
  go_wp2
  go_ret
  exact HE.out
end Go.Proofs.Ytigakbhficoonaa.Ins
