/- slices.Insert of one element: in place; the contract. -/
import Derived.Test.YtigakbhficoonaaIsb
import Derived.Deep.CutRange
namespace Go.Proofs.Ytigakbhficoonaa.Ins
open Go.RowKit Go.Lib
open Go.Proofs.Ytigakbhficoonaa.Cpo

/-- The row behind both copies, in place. -/
theorem room_cells {cur xs vs : List Value} {n i c : Nat} (hc : cur.length = c * 2) (hx : cur.take (n * 2) = xs) (hxl : xs.length = n * 2) (hvl : vs.length = 2) (hi : i ≤ n) (hnc : n < c) :
    let c1 := cur.take ((i + 1) * 2) ++ xs.drop (i * 2) ++ cur.drop ((i + 1) * 2 + (xs.drop (i * 2)).length)
    c1.length = c * 2 ∧ (let c2 := c1.take (i * 2) ++ vs ++ c1.drop (i * 2 + vs.length); c2.length = c * 2 ∧ c2.take ((n + 1) * 2) = xs.take (i * 2) ++ vs ++ xs.drop (i * 2)) := by
  have hd : (xs.drop (i * 2)).length = (n - i) * 2 := by rw [List.length_drop]; omega
  intro c1
  have h1 : c1.length = c * 2 := by simp only [c1, List.length_append, List.length_take, List.length_drop] at *; omega
  refine ⟨h1, ?_⟩
  intro c2
  have e0 : c1.take (i * 2) = xs.take (i * 2) := by
    simp only [c1]
    rw [List.append_assoc, List.take_append_of_le_length (by rw [List.length_take]; omega), List.take_take, Nat.min_eq_left (by omega), ← hx, List.take_take, Nat.min_eq_left (by omega)]
  have e1 : c1.drop (i * 2 + vs.length) = xs.drop (i * 2) ++ cur.drop ((i + 1) * 2 + (xs.drop (i * 2)).length) := by
    have e2 : (cur.take ((i + 1) * 2)).length = i * 2 + vs.length := by rw [List.length_take]; omega
    simp only [c1]
    rw [List.append_assoc, ← e2, List.drop_left]
  have h2 : c2.length = c * 2 := by simp only [c2, List.length_append, List.length_take, List.length_drop, h1]; omega
  refine ⟨h2, ?_⟩
  simp only [c2]
  rw [e0, e1, ← List.append_assoc, List.take_append_of_le_length (by simp only [List.length_append, List.length_take, hd]; omega), List.take_of_length_le (by simp only [List.length_append, List.length_take, hd]; omega)]
set_option maxRecDepth 100000 in
set_option maxHeartbeats 8000000 in
theorem ins_room (X g n c i vb : Nat) (xs vs : List Value) (w : World) (hown : w.ownsRow X 33 2 (.slice (some ⟨g, 0, none⟩) n c) n xs) (hv : w.heap[vb]? = some (.cells vs.toArray 33 (0, 0))) (hvb : vb ≠ g) (hvl : vs.length = 2) (hi : i < n) (hlt : n < c) (h1x : ∀ v ∈ xs, v.oneCell' = true) (h1v : ∀ v ∈ vs, v.oneCell' = true) (hn : n ≤ 1000) :
    Calls Try.prog 35 #[.slice (some ⟨g, 0, none⟩) n c, .int .i64 i, .slice (some ⟨vb, 0, none⟩) 1 1] w (InsR X (some ⟨g, 0, none⟩) n c i xs vs w) := by
  obtain ⟨i0, hi0, hz0, hzs, hzb⟩ := info_parts infoE
  have hxl : xs.length = n * 2 := hown.1
  rcases hown.2 with ⟨h', _⟩ | ⟨g', cap', cur, h', hb, hg, hnc, hcm, hcs, htake⟩
  · simp at h'
  simp only [Value.slice.injEq, Option.some.injEq, Addr.mk.injEq, and_true, true_and] at h'
  obtain ⟨rfl, rfl⟩ := h'
  have hsz : ∀ w, (Go.sizeOf 33).run Try.prog w = .ok 2 w := by intro w; simp [sizeOf, typeInfo, hi0, hzs]
  have hsa : w.shape? vb = some (33, vs.toArray.size) := by simp [World.shape?, hv]
  have hsb : w.shape? g = some (33, cur.size) := by simp [World.shape?, hg]
  have hfa : w.frozen? ⟨vb, 0, none⟩ = false := by simp [World.frozen?, hv]
  have hfe : w.frozen? ⟨vb, vs.toArray.size, none⟩ = false := by simp [World.frozen?, hv]
  have hov : ∀ lb cb, (callFunc 54 #[.slice (some ⟨vb, 0, none⟩) 1 1, .slice (some ⟨g, (i + 1) * 2, none⟩) lb cb]).run Try.prog w = .ok (.value (.bool false)) w := fun lb cb => by
    rw [run_callFunc_extern Try.func54 (by kernel_rfl) (by kernel_rfl) (by kernel_rfl) (e := Extern.SlicesOverlaps.overlaps #[22, 22] #[4]) (by kernel_rfl),
      Lib.run_overlaps_apart w 22 4 33 Try.underlying22 2 hsz ⟨vb, 0, none⟩ ⟨g, (i + 1) * 2, none⟩ 1 1 lb cb hvb 33 33 vs.toArray.size cur.size hsa hsb (by omega) hfa hfe]
    rfl
  have HRC := hidI (room_cells (cur := cur.toList) (vs := vs) (c := c) (i := i) (by rw [Array.length_toList, hcs]) htake hxl hvl (by omega) hlt)
  have HG : Hid (w.drew.heap[g]? = some (.cells cur 33 (0, 0))) := hg
  have HV : Hid (w.heap[vb]? = some (.cells vs.toArray 33 (0, 0))) := hv
  have HSs := hidI (src_at (o := i * 2) (k := (n - i) * 2) (cs := xs.drop (i * 2)) HG.out (by
    rw [← htake, List.drop_take]; congr 1; omega))
  have hdl : (xs.drop (i * 2)).length = (n - i) * 2 := by rw [List.length_drop]; omega
  have HDL := hidI hdl
  have HD1 : Hid (∀ v ∈ xs.drop (i * 2), v.oneCell' = true) := fun v hv => h1x v (List.mem_of_mem_drop hv)
  have HM : Hid (Nat.min (n + 1 - i) (n + 1 - (i + 1)) = n - i) := by show min (n + 1 - i) (n + 1 - (i + 1)) = n - i; omega
  have HF : Hid ((i + 1) * 2 + (xs.drop (i * 2)).length ≤ cur.size) := by unfold Hid; rw [hdl, hcs]; omega
  have H2 := hidI h1v
  have HVl := hidI hvl
  have HXl := hidI hxl
  have HCM := hidI hcm
  have HBb := hidI hb
  have HNE := hidI hvb
  have HOV := hidI hov
  clear hown hb hg hnc hcs htake h1x h1v hvb hxl hvl hv hsz hsa hsb hfa hfe hov hdl
  unfold maxLen at hcm
  have e0 : ((i : Int) == (n : Int)) = false := by simp; omega
  have q1 : (0 : Int) ≤ (i : Int) := by omega
  have q2 : (i : Int) ≤ (n : Int) := by omega
  have q3 : ¬ (n : Int) + 1 > (c : Int) := by omega
  have q4 : (n : Int) + 1 ≤ (c : Int) := by omega
  have q5 : ¬ c = i := by omega
  have q7 : ¬ c = i + 1 := by omega
  have q8 : IntKind.i64.wrap ((i : Int) + 1) = (i : Int) + 1 := by rw [IntKind.wrap_i64]; omega
  have q9 : (i : Int) + 1 ≤ (n : Int) + 1 := by omega
  have q10 : ((i : Int) + 1).toNat = i + 1 := by omega
  have q11 : (0 : Int) ≤ (i : Int) + 1 := by omega
  have q12 : (i : Int) ≤ (n : Int) + 1 := by omega
  have q14 : (i : Int) ≤ (c : Int) := by omega
  have q15 : (0 : Int) ≤ (n : Int) + 1 := by omega
  have q16 : ((n : Int) + 1).toNat = n + 1 := by omega
  have q17 : (n : Int) ≤ (c : Int) := by omega
  go_enter Try.func35, Try.ntmps35
  go_wp2_with (simp only [HOV.out])
  go_region_law (refine step_copy_off rfl (.tmp 73) (.tmp 76) 22 22 rfl 33 i0 2 Try.underlying22 hi0 hzs g ((i + 1) * 2) (n + 1 - (i + 1)) (n + 1 - i) (n - i) (c - (i + 1)) (c - i) ⟨g, i * 2, none⟩ (by go_simp) (by go_simp) _ 33 HG.out HM.out (xs.drop (i * 2)) HDL.out HSs.out HF.out HD1.out ?_; intro w1 hg1 hgr1)
  obtain ⟨C1, hC1⟩ : ∃ C1 : List Value, C1 = cur.toList.take ((i + 1) * 2) ++ xs.drop (i * 2) ++ cur.toList.drop ((i + 1) * 2 + (xs.drop (i * 2)).length) := ⟨_, rfl⟩
  have hRC : C1.length = c * 2 ∧ (C1.take (i * 2) ++ vs ++ C1.drop (i * 2 + vs.length)).length = c * 2 ∧ (C1.take (i * 2) ++ vs ++ C1.drop (i * 2 + vs.length)).take ((n + 1) * 2) = xs.take (i * 2) ++ vs ++ xs.drop (i * 2) := by rw [hC1]; exact HRC.out
  have HG1 : Hid (w1.heap[g]? = some (.cells C1.toArray 33 (0, 0))) := by unfold Hid; rw [hC1]; simpa using hg1
  have HV1 : Hid (w1.heap[vb]? = some (.cells vs.toArray 33 (0, 0))) := (hgr1.block vb (Array.getElem?_eq_some_iff.1 HV.out).1 (fun e => HNE.out (Option.some.inj e))).trans HV.out
  have HSv := hidI (src_all HV1.out)
  have HGr1 := hidI (gr_und hgr1)
  have HRC2 := hidI hRC
  have hF2 : i * 2 + vs.length ≤ C1.toArray.size := by have h1 := HVl.out; have h2 := hRC.1; rw [h1, List.size_toArray, h2]; omega
  have HF2 := hidI hF2
  clear hg1 hgr1 hC1 hRC HRC HG HV HSs HF HM HD1 hF2
  go_wp2_with (refine wpList_copy_off rfl (.tmp 80) (.tmp 81) 22 22 rfl 33 i0 2 Try.underlying22 hi0 hzs g (i * 2) (n + 1 - i) 1 1 (c - i) 1 ⟨vb, 0, none⟩ rfl rfl C1.toArray 33 HG1.out ?s1 vs ?s0 HSv.out HF2.out H2.out ?_)
  case s1 => show min 1 (n + 1 - i) = 1; omega
  case s0 => rw [HVl.out]
  intro w2 hg2 hgr2
  have HE : Hid (InsR X (some ⟨g, 0, none⟩) n c i xs vs w (.returned (.slice (some ⟨g, 0, none⟩) (n + 1) c)) w2) := by
    obtain ⟨_, h2, h3⟩ := HRC2.out
    refine ⟨_, _, rfl, ⟨?_, .inr ⟨g, c, (C1.take (i * 2) ++ vs ++ C1.drop (i * 2 + vs.length)).toArray, rfl, HBb.out, by simpa using hg2, by omega, HCM.out, ?_, ?_⟩⟩, gr_tr HGr1.out hgr2⟩
    · have h1 := HVl.out
      have h2 := HXl.out
      simp only [List.length_append, List.length_take, List.length_drop]; omega
    · rw [List.size_toArray]; exact h2
    · rw [List.toList_toArray]; exact h3
  clear hg2 hgr2
  go_wp2
  go_ret
  exact HE.out
/-- slices.Insert of one element at a row of the call's own. -/
theorem f35 (X : Nat) (a : Option Addr) (n c i vb : Nat) (xs vs : List Value) (w : World) (hown : w.ownsRow X 33 2 (.slice a n c) n xs) (hv : w.heap[vb]? = some (.cells vs.toArray 33 (0, 0))) (hvb : (Value.slice a n c).ownBlock ≠ some vb) (hvl : vs.length = 2) (hi : i ≤ n) (h1x : ∀ v ∈ xs, v.oneCell' = true) (h1v : ∀ v ∈ vs, v.oneCell' = true) (hn : n ≤ 1000) (hX : X ≤ w.heap.size) :
    Calls Try.prog 35 #[.slice a n c, .int .i64 i, .slice (some ⟨vb, 0, none⟩) 1 1] w (InsR X a n c i xs vs w) := by
  by_cases h : i = n
  · subst h; exact ins_end X a i c vb xs vs w hown hv hvl h1v hn hX
  have hcases : ∃ g, a = some ⟨g, 0, none⟩ ∧ n ≤ c := by
    rcases hown.2 with ⟨h1, h2⟩ | ⟨g, cap, cur, h1, h2, h3, h4, h5, _⟩
    · omega
    · simp only [Value.slice.injEq] at h1
      obtain ⟨rfl, _, rfl⟩ := h1
      exact ⟨g, rfl, h4⟩
  obtain ⟨g, rfl, hnc⟩ := hcases
  by_cases h2 : n = c
  · subst h2; exact ins_grow X g n i vb xs vs w hown hv hvl (by omega) h1x h1v hn hX
  · exact ins_room X g n c i vb xs vs w hown hv (fun e => hvb (by rw [e]; rfl)) hvl (by omega) (by omega) h1x h1v hn
end Go.Proofs.Ytigakbhficoonaa.Ins
