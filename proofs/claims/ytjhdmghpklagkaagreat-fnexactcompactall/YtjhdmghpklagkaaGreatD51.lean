/- slices.Replace at blocks: one block for some that lie ahead of the last. -/
import Derived.Test.YtjhdmghpklagkaaGreatD50
import Derived.Test.YtjhdmghpklagkaaGreatD45
import Derived.Test.YtjhdmghpklagkaaGreatD47
import Derived.Test.YtjhdmghpklagkaaGreatD49
namespace Go.Proofs.YtjhdmghpklagkaaGreat.Pln
open Go.RowKit
open Go.Proofs.YtjhdmghpklagkaaGreat.Stb
open Go.Proofs.YtjhdmghpklagkaaGreat.Srs (lt_at kept)
open Go.Proofs.YtjhdmghpklagkaaGreat.Blk

abbrev zB : Value := .agg #[.int .i64 0, .int .i64 0, .int .i64 0, .slice none 0 0, .slice none 0 0]
theorem zero_blk (w : World) : (zeroValue 36).run Tryz.prog w = .ok zB w := by
  obtain ⟨j0, ji, jz0, jz1, jz2⟩ := info_parts infoK
  simp [zeroValue, typeInfo, ji, jz0]
theorem zeros_blk (m : Nat) : (Builtin.zeroCells zB.cells m).toList.length = m * 5 ∧ ∀ v ∈ (Builtin.zeroCells zB.cells m).toList, v.oneCell' = true := by
  have hc : zB.cells = #[.int .i64 0, .int .i64 0, .int .i64 0, .slice none 0 0, .slice none 0 0] := by simp [Value.cells]
  refine ⟨?_, ?_⟩
  · rw [hc]; simp [Builtin.zeroCells]
  · rw [hc]
    intro v hv
    simp only [Builtin.zeroCells, Array.toList_map, List.mem_map] at hv
    obtain ⟨i, _, rfl⟩ := hv
    show (#[Value.int .i64 0, .int .i64 0, .int .i64 0, .slice none 0 0, .slice none 0 0][i % 5]!).oneCell' = true
    rcases (show i % 5 = 0 ∨ i % 5 = 1 ∨ i % 5 = 2 ∨ i % 5 = 3 ∨ i % 5 = 4 by omega) with h | h | h | h | h <;> rw [h] <;> rfl
theorem src_of {w : World} {g o k : Nat} {cur : Array Value} {t : TypeId} {cs : List Value} (hg : w.heap[g]? = some (.cells cur t (0, 0))) (h : (cur.toList.drop o).take k = cs) : ∀ j v, cs[j]? = some v → w.cell? ((⟨g, o, none⟩ : Addr).add j) = some v := by
  intro j v hj
  rw [Smp.add_none]
  rw [← h, List.getElem?_take] at hj
  split at hj
  · rw [List.getElem?_drop] at hj
    simp only [World.cell?, hg]
    simpa using hj
  · simp at hj
theorem cl_src {w : World} {gv : Nat} {h : Bk} (hv : w.heap[gv]? = some (.cells (clB h) 36)) : ∀ j v, (clK h)[j]? = some v → w.cell? ((⟨gv, 0, none⟩ : Addr).add j) = some v := by
  intro j u hj
  obtain ⟨d0, d1, d2, d3, d4⟩ := five hv
  rw [Smp.add_none, Nat.zero_add]
  unfold clK at hj
  match j, hj with
  | 0, h => simp at h; rw [← h]; exact d0
  | 1, h => simp at h; rw [← h]; exact d1
  | 2, h => simp at h; rw [← h]; exact d2
  | 3, h => simp at h; rw [← h]; exact d3
  | 4, h => simp at h; rw [← h]; exact d4
theorem cl_ones (h : Bk) : ∀ v ∈ clK h, v.oneCell' = true := fun v hv => by
  simp [clK] at hv
  rcases hv with rfl | rfl | rfl | rfl | rfl <;> rfl
theorem gr_trans {a b c : World} {r : Option Nat} (h : a.grownBy b r) (k : b.grownBy c r) : a.grownBy c r := Ino.grownBy_trans h k
theorem gr_und {a b : World} {r : Option Nat} (h : a.drew.grownBy b r) : a.grownBy b r := ⟨h.os, h.tape, h.output, h.size, h.block⟩
set_option maxRecDepth 10000 in
set_option maxHeartbeats 8000000 in
theorem f46 (g n c i j X gv : Nat) (R : List Bk) (kb : Bk) (w : World) (hown : w.ownsRow X 36 5 (.slice (some ⟨g, 0, none⟩) n c) n (flatK R)) (hR : R.length = n) (hij : i < j) (hjn : j < n) (hn : n ≤ 100) (hv : w.heap[gv]? = some (.cells (clB kb) 36)) :
    Calls Tryz.prog 46 #[.slice (some ⟨g, 0, none⟩) n c, .int .i64 i, .int .i64 j, .slice (some ⟨gv, 0, none⟩) 1 1] w fun e w' => e = .returned (.slice (some ⟨g, 0, none⟩) (i + 1 + (n - j)) c) ∧ w'.ownsRow X 36 5 (.slice (some ⟨g, 0, none⟩) (i + 1 + (n - j)) c) (i + 1 + (n - j)) (flatK (rpl i j kb R)) ∧ w.grownBy w' (some g) := by
  obtain ⟨j0, ji, jz0, jz1, jz2⟩ := info_parts infoK
  rcases hown.2 with ⟨h', _⟩ | ⟨g', cap', cur, h', hb, hg, hnc, hcm, hcs, htake⟩
  · simp at h'
  simp only [Value.slice.injEq, Option.some.injEq, Addr.mk.injEq, and_true, true_and] at h'
  obtain ⟨rfl, rfl⟩ := h'
  have HG : Hid (w.drew.heap[g]? = some (.cells cur 36)) := hg
  have HV := hid (cl_src (w := w.drew) (h := kb) hv)
  have HOn := hid (cl_ones kb)
  have HOr := hid (flatK_one (R.drop j))
  have hcl : n * 5 ≤ cur.toList.length := by rw [Array.length_toList, hcs]; omega
  have HRC := hid (rpl_cells (cur := cur.toList) (h := kb) hR hij hjn htake hcl)
  have hdl : (flatK (R.drop j)).length = (n - j) * 5 := by rw [flatK_len, List.length_drop, hR]
  have HDl := hid hdl
  have HHb := hid hb
  have HCm := hid hcm
  have HCs := hid hcs
  have hne : ((i : Int) == (j : Int)) = false := by simp; omega
  have hne2 : ((j : Int) == (n : Int)) = false := by simp; omega
  have i1 : (i : Int) ≤ (j : Int) := by omega
  clear hown hg htake hv hcl hdl hR hb hcs
  unfold maxLen at hcm
  go_enter Tryz.func46, Tryz.ntmps46
  go_wp2
  have q1 : (i : Int) ≤ (c : Int) := by omega
  have q2 : (j : Int) ≤ (n : Int) := by omega
  have q3 : (n : Int) ≤ (c : Int) := by omega
  have q4 : (0 : Int) ≤ (i : Int) := by omega
  have q5 : (0 : Int) ≤ (j : Int) := by omega
  have q6 : i ≤ c := by omega
  have q7 : j ≤ n := by omega
  have q8 : ¬ c = j := by omega
  have q9 : ¬ c = i := by omega
  go_region_law (fail)
  go_wp2_with (refine wpList_copy_off rfl (.tmp 95) (.tmp 96) 26 26 rfl 36 j0 5 Tryz.underlying26 ji jz1 g (i * 5) (i + 1 + (n - j) - i) 1 1 (c - i) 1 ⟨gv, 0, none⟩ rfl rfl cur 36 HG.out ?s1 (clK kb) rfl HV.out ?s2 HOn.out ?_)
  case s1 => show min 1 (i + 1 + (n - j) - i) = 1; omega
  case s2 => have := HCs.out; show i * 5 + 5 ≤ cur.size; omega
  intro w1 hg1 hgr1
  have HG1 : Hid (w1.drew.heap[g]? = some (.cells (cur.toList.take (i * 5) ++ clK kb ++ cur.toList.drop (i * 5 + 5)).toArray 36)) := by unfold Hid; rw [List.append_assoc]; exact hg1
  have HGr1 := hid (gr_und hgr1)
  clear hg1 hgr1 HG HV
  have HS2 := hid (src_of (o := j * 5) (k := (n - j) * 5) (cs := flatK (R.drop j)) HG1.out (by exact HRC.out.2.1))
  have hF2 : (i + 1) * 5 + (flatK (R.drop j)).length ≤ (cur.toList.take (i * 5) ++ clK kb ++ cur.toList.drop (i * 5 + 5)).toArray.size := by
    have h1 := HRC.out.1
    have h3 : (cur.toList.take (i * 5) ++ clK kb ++ cur.toList.drop (i * 5 + 5)).toArray.size = cur.size := by rw [List.size_toArray]; rw [h1, Array.length_toList]
    have h5 := HDl.out
    have h6 := HCs.out
    omega
  have HF2 := hid hF2
  have HM2 : Hid (Nat.min (n - j) (i + 1 + (n - j) - (i + 1)) = n - j) := by show min (n - j) (i + 1 + (n - j) - (i + 1)) = n - j; omega
  clear hF2
  have r1 : (i : Int) + 1 ≤ ((i + 1 + (n - j) : Nat) : Int) := by omega
  have r2 : (i : Int) + 1 ≤ (i : Int) + 1 + ((n - j : Nat) : Int) := by omega
  have r3 : (0 : Int) ≤ (i : Int) + 1 := by omega
  have r4 : ¬ c = i + 1 := by omega
  have r5 : (i : Int) + 1 ≤ (c : Int) := by omega
  have r6 : ((i : Int) + 1).toNat = i + 1 := by omega
  have r7 : i + 1 ≤ c := by omega
  have r8 : IntKind.i64.wrap ((i : Int) + 1) = (i : Int) + 1 := wrap_in (by omega) (by omega)
  go_wp2
  go_region_law (refine step_copy_off rfl (.tmp 103) (.tmp 106) 26 26 rfl 36 j0 5 Tryz.underlying26 ji jz1 g ((i + 1) * 5) (i + 1 + (n - j) - (i + 1)) (n - j) (n - j) (c - (i + 1)) (c - j) ⟨g, j * 5, none⟩ (by go_simp) (by go_simp) _ 36 HG1.out HM2.out (flatK (R.drop j)) HDl.out HS2.out HF2.out HOr.out ?_; intro w2 hg2 hgr2)
  have HGr2 := hid (gr_trans HGr1.out (gr_und hgr2))
  obtain ⟨C2, hC2⟩ : ∃ C2 : List Value, C2 = (cur.toList.take (i * 5) ++ clK kb ++ cur.toList.drop (i * 5 + 5)).take ((i + 1) * 5) ++ flatK (R.drop j) ++ (cur.toList.take (i * 5) ++ clK kb ++ cur.toList.drop (i * 5 + 5)).drop ((i + 1) * 5 + (n - j) * 5) := ⟨_, rfl⟩
  have hC3 := HRC.out.2.2
  have HC2 : Hid (C2.length = c * 5 ∧ C2.take ((i + 1 + (n - j)) * 5) = flatK (rpl i j kb R)) := by
    unfold Hid
    rw [hC2]
    have h3 := hC3.1.trans (show cur.toList.length = c * 5 by have := HCs.out; simpa using this)
    exact ⟨h3, hC3.2⟩
  have HG2 : Hid (w2.heap[g]? = some (.cells C2.toArray 36)) := by
    unfold Hid
    rw [hC2, ← HDl.out]
    simpa using hg2
  clear hC2 hC3 hg2 hgr2 HRC HG1 HS2 HF2 HM2 HGr1 HOn HOr
  have hzl := zeros_blk (n - (i + 1 + (n - j)))
  obtain ⟨zs, hzs⟩ : ∃ zs, (Builtin.zeroCells zB.cells (n - (i + 1 + (n - j)))).toList = zs := ⟨_, rfl⟩
  rw [hzs] at hzl
  have HZl := hid hzl
  have HZs := hid hzs
  clear hzl hzs
  have t1 : (i : Int) + 1 + ((n - j : Nat) : Int) ≤ (n : Int) := by omega
  have t2 : (0 : Int) ≤ (i : Int) + 1 + ((n - j : Nat) : Int) := by omega
  have t3 : ((i : Int) + 1 + ((n - j : Nat) : Int)).toNat = i + 1 + (n - j) := by omega
  have HEnd : Hid (∀ (w3 : World) (C3 : List Value), w3.heap[g]? = some (.cells C3.toArray 36) → C3.length = c * 5 → C3.take ((i + 1 + (n - j)) * 5) = C2.take ((i + 1 + (n - j)) * 5) → w3.ownsRow X 36 5 (.slice (some ⟨g, 0, none⟩) (i + 1 + (n - j)) c) (i + 1 + (n - j)) (flatK (rpl i j kb R))) := by
    intro w3 C3 h1 h2 h3
    refine ⟨?_, .inr ⟨g, c, C3.toArray, rfl, HHb.out, h1, by omega, HCm.out, by simpa using h2, ?_⟩⟩
    · rw [← HC2.out.2, List.length_take, HC2.out.1]
      have : (i + 1 + (n - j)) * 5 ≤ c * 5 := by omega
      omega
    · rw [List.toList_toArray, h3, HC2.out.2]
  by_cases hct : c = i + 1 + (n - j)
  · have hnt : n - (i + 1 + (n - j)) = 0 := by omega
    have HZn : Hid (zs = []) := by
      have h2 := HZl.out.1
      rw [hnt, Nat.zero_mul] at h2
      exact List.eq_nil_of_length_eq_zero h2
    have HFc : Hid (0 + zs.length ≤ C2.toArray.size) := by unfold Hid; rw [HZn.out]; exact Nat.zero_le _
    clear hnt
    go_wp2_with (refine wpList_clear_off rfl (.tmp 110) 26 rfl 36 zB Tryz.underlying26 zero_blk g 0 (n - (i + 1 + (n - j))) 0 rfl C2.toArray 36 HG2.out zs HZs.out HFc.out HZl.out.2 (fun _ => HZn.out) ?_)
    intro w3 hg3 hgr3
    have HE : Hid (w3.ownsRow X 36 5 (.slice (some ⟨g, 0, none⟩) (i + 1 + (n - j)) c) (i + 1 + (n - j)) (flatK (rpl i j kb R)) ∧ w.grownBy w3 (some g)) := by
      rw [HZn.out] at hg3
      refine ⟨HEnd.out w3 C2 (by simpa using hg3) HC2.out.1 rfl, gr_trans HGr2.out hgr3⟩
    clear hg3 hgr3
    go_wp2
    go_ret
    exact ⟨(show Ending.returned (.slice (some ⟨g, 0, none⟩) (i + 1 + (n - j)) (i + 1 + (n - j))) = .returned (.slice (some ⟨g, 0, none⟩) (i + 1 + (n - j)) c) by rw [← hct]), HE.out⟩
  · have HFc : Hid ((i + 1 + (n - j)) * 5 + zs.length ≤ C2.toArray.size) := by
      unfold Hid
      have h1 := HC2.out.1
      have h2 := HZl.out.1
      rw [h2, List.size_toArray, h1]
      omega
    have HZ0 : Hid (n - (i + 1 + (n - j)) = 0 → zs = []) := fun h => by
      have h2 := HZl.out.1
      rw [h, Nat.zero_mul] at h2
      exact List.eq_nil_of_length_eq_zero h2
    go_wp2_with (refine wpList_clear_off rfl (.tmp 110) 26 rfl 36 zB Tryz.underlying26 zero_blk g ((i + 1 + (n - j)) * 5) (n - (i + 1 + (n - j))) (c - (i + 1 + (n - j))) rfl C2.toArray 36 HG2.out zs HZs.out HFc.out HZl.out.2 HZ0.out ?_)
    intro w3 hg3 hgr3
    have HE : Hid (w3.ownsRow X 36 5 (.slice (some ⟨g, 0, none⟩) (i + 1 + (n - j)) c) (i + 1 + (n - j)) (flatK (rpl i j kb R)) ∧ w.grownBy w3 (some g)) := by
      have hl : (C2.take ((i + 1 + (n - j)) * 5)).length = (i + 1 + (n - j)) * 5 := by
        have h1 := HC2.out.1
        rw [List.length_take, h1]
        omega
      refine ⟨HEnd.out w3 _ hg3 ?_ ?_, gr_trans HGr2.out hgr3⟩
      · have h1 := HC2.out.1
        have h2 := HFc.out
        rw [List.size_toArray, h1] at h2
        simp only [List.length_append, hl, List.length_drop, h1]
        omega
      · rw [List.take_append_of_le_length (by rw [hl]; exact Nat.le_refl _), List.take_of_length_le (by rw [hl]; exact Nat.le_refl _)]
    clear hg3 hgr3
    go_wp2
    go_ret
    exact ⟨rfl, HE.out⟩
end Go.Proofs.YtjhdmghpklagkaaGreat.Pln
namespace Go.Proofs.YtjhdmghpklagkaaGreat.Mgb
open Go.RowKit
open Go.Proofs.YtjhdmghpklagkaaGreat.Srs (hid lt_at kept blk own_base own_below own_grown Q q0 HasQ SmlQ OwnO OwnG Own2 Fr own_fr tot pl Pl mqs mqs_len mqs_get)
open Go.Proofs.YtjhdmghpklagkaaGreat.Blk
open Go.Proofs.YtjhdmghpklagkaaGreat.Stn (T t0)

theorem f39z (k : Nat) (w : World) : Calls Tryz.prog 39 #[.slice none 0 0, .int .i64 k] w fun e w' => e = .returned (.int .i64 k) ∧ w' = w := by
  go_enter Tryz.func39, Tryz.ntmps39
  go_wp2
  go_loopw [1, 5] (fun s i wr => s = .int .i64 k ∧ i = .int .i64 0 ∧ wr = w) (fun _ _ _ => 0)
  case atStart => exact ⟨rfl, rfl, rfl⟩
  case round =>
    obtain ⟨rfl, rfl, rfl⟩ := hrel
    go_wp2
    go_ret
    exact ⟨rfl, rfl⟩
theorem f43z (k : Nat) (w : World) : Calls Tryz.prog 43 #[.slice none 0 0, .int .i64 k] w fun e w' => e = .returned (.int .i64 k) ∧ w' = w := by
  go_enter Tryz.func43, Tryz.ntmps43
  go_wp2
  go_loopw [1, 5] (fun s i wr => s = .int .i64 k ∧ i = .int .i64 0 ∧ wr = w) (fun _ _ _ => 0)
  case atStart => exact ⟨rfl, rfl, rfl⟩
  case round =>
    obtain ⟨rfl, rfl, rfl⟩ := hrel
    go_wp2
    go_ret
    exact ⟨rfl, rfl⟩
def Lo (Y : Nat) (h : Bk) : Prop := ∀ i, i < h.qs.length → blk (h.qs.getD i q0).a < Y ∧ blk (h.qs.getD i q0).b < Y
theorem own_og {X g n c : Nat} {qs : List Q} {w : World} (h : OwnG X g n c qs w) : OwnO X (some ⟨g, 0, none⟩) n c qs w := ⟨h.len, h.row, h.own, fun g' e i hi => by cases e; exact h.apt.nea i hi, h.apt.dis⟩
end Go.Proofs.YtjhdmghpklagkaaGreat.Mgb
namespace Go.Proofs.YtjhdmghpklagkaaGreat.Pln
open Go.RowKit
open Go.Proofs.YtjhdmghpklagkaaGreat.Smp (Sm HasS own_form ret_bool)
open Go.Proofs.YtjhdmghpklagkaaGreat.Srs (hid lt_at kept blk own_base own_below own_grown own_set set_else set_at Q q0 HasQ SmlQ OwnO OwnG Own2 Fr own_fr tot mqs mqs_len mqs_get)
open Go.Proofs.YtjhdmghpklagkaaGreat.Stn (T t0 OwnT HasT SmlT mts mts_len mts_get mk set_same)
open Go.Proofs.YtjhdmghpklagkaaGreat.Blk
open Go.Proofs.YtjhdmghpklagkaaGreat.Mgb

def StoX (M Y : Nat) (b : Option Addr) (d : Nat) (ts : List T) (w : World) : Prop :=
  (ts = [] ∧ b = none ∧ d = 0) ∨ ∃ k, b = some ⟨k, 0, none⟩ ∧ d = ts.length ∧ OwnT M k ts.length ts w ∧ M ≤ k ∧ k < Y ∧ ∀ i, i < ts.length → blk (ts.getD i t0).a < Y
structure OwnX (X Y : Nat) (h : Bk) (w : World) : Prop where
  ex : ∃ M, X ≤ M ∧ M ≤ Y ∧ OwnO X h.a h.qs.length h.c h.qs w ∧ (∀ g, (Value.slice h.a h.qs.length h.c).ownBlock = some g → g < M) ∧ (∀ i, i < h.qs.length → blk (h.qs.getD i q0).a < M ∧ blk (h.qs.getD i q0).b < M) ∧ StoX M Y h.b h.d h.ts w
  top : Y ≤ w.heap.size
theorem StoX.has {M Y : Nat} {b : Option Addr} {d : Nat} {ts : List T} {w : World} (h : StoX M Y b d ts w) : HasT w b ts := by
  rcases h with ⟨h, _⟩ | ⟨k, e, _, o, _⟩
  · exact .inl h
  · rw [e]; exact o.has
theorem OwnX.has {X Y : Nat} {h : Bk} {w : World} (o : OwnX X Y h w) : HasB w h := by
  obtain ⟨M, _, _, o1, _, _, o2⟩ := o.ex
  exact ⟨o1.has, o2.has⟩
theorem OwnX.below {X Y : Nat} {h : Bk} {w w' : World} (o : OwnX X Y h w) (hb : Below w.heap.size w w') : OwnX X Y h w' := by
  obtain ⟨M, l1, l2, o1, l3, l4, o2⟩ := o.ex
  refine ⟨⟨M, l1, l2, o1.below hb, l3, l4, ?_⟩, Nat.le_trans o.top hb.size⟩
  rcases o2 with h | ⟨k, e, f, o, r⟩
  · exact .inl h
  · exact .inr ⟨k, e, f, o.below hb, r⟩
theorem OwnX.ofC {X Y : Nat} {h : Bk} {w : World} (o : OwnC X Y h w) : OwnX X Y h w := by
  obtain ⟨g, k, M, e1, e2, e3, e4, o1, o2, l1, l2, l3, l4, l5, l6⟩ := o.ex
  refine ⟨⟨M, l1, by omega, by rw [e1]; exact own_og o1, fun g' hg => ?_, l3, .inr ⟨k, e2, e4, o2, l4, l5, l6⟩⟩, o.top⟩
  rw [e1] at hg
  cases hg
  exact l2
theorem OwnX.ofA {X : Nat} {h : Bk} {w : World} (o : Am X h w) (hX : X ≤ w.heap.size) : OwnX X w.heap.size h w :=
  ⟨⟨w.heap.size, hX, Nat.le_refl _, o.own, fun g hg => (o.own.row.lt g hg).2, fun i hi => (o.own.own i hi).hi, .inl ⟨o.ts, o.b, o.d⟩⟩, Nat.le_refl _⟩
theorem own2_fr {X X' Y' : Nat} {q : Q} {w x : World} (p : Own2 X q w) (hf : Fr X' Y' w x) (h1 : blk q.a < X' ∨ Y' ≤ blk q.a) (h2 : blk q.b < X' ∨ Y' ≤ blk q.b) : Own2 X q x :=
  ⟨p.ha, p.hb, own_fr p.lab hf h1, own_fr p.smp hf h2, p.ne⟩
theorem row_fr {w x : World} {X' Y' base e size n : Nat} {v : Value} {xs : List Value} (h : w.ownsRow base e size v n xs) (hf : Fr X' Y' w x) (hne : ∀ g, v.ownBlock = some g → g < X' ∨ Y' ≤ g) : x.ownsRow base e size v n xs := by
  refine ⟨h.1, ?_⟩
  rcases h.2 with h1 | ⟨g, cap, cur, h1, h2, h3, h4⟩
  · exact .inl h1
  · exact .inr ⟨g, cap, cur, h1, h2, (hf.block g (lt_at h3) (hne g (by rw [h1]; rfl))).trans h3, h4⟩
theorem owno_frx {X X' Y' n c : Nat} {a : Option Addr} {qs : List Q} {w x : World} (o : OwnO X a n c qs w) (hf : Fr X' Y' w x) (h0 : ∀ g, (Value.slice a n c).ownBlock = some g → g < X' ∨ Y' ≤ g) (h1 : ∀ i, i < n → (blk (qs.getD i q0).a < X' ∨ Y' ≤ blk (qs.getD i q0).a) ∧ (blk (qs.getD i q0).b < X' ∨ Y' ≤ blk (qs.getD i q0).b)) : OwnO X a n c qs x :=
  ⟨o.len, row_fr o.row hf h0, fun i hi => own2_fr (o.own i hi) hf (h1 i hi).1 (h1 i hi).2, o.nea, o.dis⟩
theorem ownt_fr {M k n X' Y' : Nat} {ts : List T} {w x : World} (o : OwnT M k n ts w) (hf : Fr X' Y' w x) (h0 : k < X' ∨ Y' ≤ k) (h1 : ∀ i, i < n → blk (ts.getD i t0).a < X' ∨ Y' ≤ blk (ts.getD i t0).a) : OwnT M k n ts x :=
  ⟨own_fr o.row hf h0, ⟨o.kin.len, fun i hi => ⟨(o.kin.own i hi).ha, own_fr (o.kin.own i hi).lab hf (h1 i hi)⟩, o.kin.off, o.kin.dis⟩⟩
theorem stox_fr {M Y X' Y' : Nat} {b : Option Addr} {d : Nat} {ts : List T} {w x : World} (o : StoX M Y b d ts w) (hf : Fr X' Y' w x) (hd : Y' ≤ M ∨ Y ≤ X') : StoX M Y b d ts x := by
  rcases o with h | ⟨k, e1, e2, o2, l4, l5, l6⟩
  · exact .inl h
  · refine .inr ⟨k, e1, e2, ownt_fr o2 hf (by omega) (fun i hi => ?_), l4, l5, l6⟩
    have h5 : M ≤ blk (ts.getD i t0).a := ((o2.kin.own i hi).lab.lt _ rfl).1
    have h6 := l6 i hi
    omega
theorem ownx_fr {X Y X' Y' : Nat} {h : Bk} {w x : World} (o : OwnX X Y h w) (hf : Fr X' Y' w x) (hd : Y' ≤ X ∨ Y ≤ X') : OwnX X Y h x := by
  obtain ⟨M, l1, l2, o1, l3, l4, o2⟩ := o.ex
  refine ⟨⟨M, l1, l2, owno_frx o1 hf (fun g hg => ?_) (fun i hi => ?_), l3, l4, stox_fr o2 hf (by omega)⟩, Nat.le_trans o.top hf.size⟩
  · have := l3 g hg
    have := (o1.row.lt g hg).1
    omega
  · have q := l4 i hi
    have r := (o1.own i hi).lo
    omega
theorem ownx_grown {X Y : Nat} {h : Bk} {w w' : World} {r : Option Nat} (o : OwnX X Y h w) (hg : w.grownBy w' r) (hne : ∀ g, r = some g → g < X ∨ Y ≤ g) : OwnX X Y h w' := by
  have hf : Fr (match r with | some g => g | none => w.heap.size) (match r with | some g => g + 1 | none => w.heap.size) w w' := ⟨hg.os, hg.tape, hg.output, hg.size, fun k hk hq => hg.block k hk (fun e => by subst e; simp only at hq; omega)⟩
  refine ownx_fr o hf ?_
  cases r with
  | none => exact .inr o.top
  | some g => have := hne g rfl; simp only; omega
theorem wayX : Blk.Way OwnX := ⟨fun h => h.below, fun h => ownx_grown h, fun h => h.top, fun h => h.has⟩
theorem mark_ser (X Y : Nat) (a : Option Addr) (n c k : Nat) (qs : List Q) (w : World) (hb : n ≤ 1048576) (hk : k + 2 * tot qs n ≤ 100000000) (ho : OwnO X a n c qs w) (hY : ∀ i, i < n → blk (qs.getD i q0).a < Y ∧ blk (qs.getD i q0).b < Y) :
    Calls Tryz.prog 31 #[.slice a n c, .int .i64 k] w fun e w' => e = .returned (.int .i64 ((k + 2 * tot qs n : Nat) : Int)) ∧ OwnO X a n c (mqs k qs) w' ∧ Fr X Y w w' := by
  rcases ho.cases with ⟨h1, h2, h3, h4⟩ | ⟨g, h1, h2⟩
  · subst h1 h2 h3 h4
    refine (Srs.f31n k w).mono ?_
    rintro e w' ⟨rfl, rfl⟩
    exact ⟨rfl, OwnO.nil _ _, Fr.refl _ _ _⟩
  · subst h1
    refine (Srs.f31f X Y g n c k qs w hb hk h2 hY).mono ?_
    rintro e w' ⟨rfl, o, hf⟩
    exact ⟨rfl, own_og o, hf⟩
theorem mark_sto (M Y : Nat) (b : Option Addr) (d k : Nat) (ts : List T) (w : World) (hb : ts.length ≤ 1048576) (hk : k + mk ts ts.length ≤ 100000000) (ho : StoX M Y b d ts w) :
    Calls Tryz.prog 39 #[.slice b ts.length d, .int .i64 k] w fun e w' => e = .returned (.int .i64 ((k + mk ts ts.length : Nat) : Int)) ∧ StoX M Y b d (mts k ts) w' ∧ Fr M Y w w' := by
  rcases ho with ⟨rfl, rfl, rfl⟩ | ⟨g, rfl, rfl, o, l4, l5, l6⟩
  · refine (f39z k w).mono ?_
    rintro e w' ⟨rfl, rfl⟩
    exact ⟨rfl, .inl ⟨rfl, rfl, rfl⟩, Fr.refl _ _ _⟩
  · refine (Stn.f39f M Y g ts.length k ts w rfl hb hk o l4 l5 l6).mono ?_
    rintro e w' ⟨rfl, o', hf⟩
    refine ⟨rfl, .inr ⟨g, rfl, (mts_len _ _).symm, by rw [mts_len]; exact o', l4, l5, fun i hi => ?_⟩, hf⟩
    rw [mts_len] at hi
    rw [mts_get _ _ _ hi]
    exact l6 i hi
theorem held_sto (M Y : Nat) (b : Option Addr) (d k : Nat) (ts : List T) (w : World) (hb : ts.length ≤ 1048576) (hk : k + mk ts ts.length ≤ 100000000) (ho : StoX M Y b d (mts k ts) w) :
    Calls Tryz.prog 43 #[.slice b ts.length d, .int .i64 k] w fun e w' => e = .returned (.int .i64 ((k + mk ts ts.length : Nat) : Int)) ∧ Below w.heap.size w w' := by
  rcases ho with ⟨h1, rfl, rfl⟩ | ⟨g, rfl, h2, o, l4, l5, l6⟩
  · have e : ts = [] := by
      have := congrArg List.length h1
      rw [mts_len] at this
      exact List.eq_nil_of_length_eq_zero this
    subst e
    refine (f43z k w).mono ?_
    rintro e w' ⟨rfl, rfl⟩
    exact ⟨rfl, Below.refl _ _⟩
  · rw [mts_len] at h2 o
    subst h2
    exact Stn.f43 M g ts.length k ts w rfl hb hk o
structure MbX (X Y : Nat) (a : Option Addr) (n c k i : Nat) (R : List Bk) (L U : Nat → Nat) (w x : World) : Prop where
  row : x.ownsRow X 36 5 (.slice a n c) n (flatK (halfK k R i))
  done : ∀ j, j < i → OwnX (L j) (U j) (mb (k + mkK R j) (R.getD j k0)) x
  own : ∀ j, i ≤ j → j < n → OwnX (L j) (U j) (R.getD j k0) x
  fr : Fr X Y w x
set_option maxRecDepth 10000 in
set_option maxHeartbeats 8000000 in
theorem f13x (X Y : Nat) (a : Option Addr) (n c k : Nat) (R : List Bk) (L U : Nat → Nat) (w : World) (hb : n ≤ 1048576) (hk : k + mkK R n ≤ 100000000) (ho : RowK OwnX X a n c R L U w) (hlo : ∀ i, i < n → X ≤ L i) (hord : ∀ i j, i < n → j < n → i ≠ j → U i ≤ L j ∨ U j ≤ L i) (hY : ∀ i, i < n → U i ≤ Y) (hg : ∀ g, (Value.slice a n c).ownBlock = some g → g < Y) (hsz : ∀ i, i < n → SmlB (R.getD i k0)) :
    Calls Tryz.prog 13 #[.slice a n c, .int .i64 k] w fun e w' => e = .returned (.int .i64 ((k + mkK R n : Nat) : Int)) ∧ RowK OwnX X a n c (mbs k R) L U w' ∧ Fr X Y w w' := by
  have HN := hid ho.len
  have HK := hid hk
  have HOff := hid ho.off
  have HLo := hid hlo
  have HOr := hid hord
  have HY := hid hY
  have HGY := hid hg
  have HSz := hid hsz
  have H0 : Hid (MbX X Y a n c k 0 R L U w w) := ⟨ho.row, fun j hj => by omega, fun j _ hj => ho.each j hj, Fr.refl _ _ _⟩
  clear hk ho hlo hord hY hg hsz
  go_enter Tryz.func13, Tryz.ntmps13
  go_wp2
  go_loopw [1, 5] (fun sk si wr => ∃ (i m : Nat), i ≤ n ∧ si = .int .i64 i ∧ sk = .int .i64 (m : Int) ∧ Hid (m = k + mkK R i) ∧ Hid (MbX X Y a n c k i R L U w wr)) (fun _ si _ => n - (intOf si).toNat)
  case atStart => exact ⟨0, k, Nat.zero_le _, rfl, rfl, rfl, H0.out⟩
  case round =>
    obtain ⟨i, m, hi, rfl, rfl, hm, HM⟩ := hrel
    by_cases hlt : i < n
    rotate_left
    · obtain rfl : i = n := by omega
      have HX : Hid (RowK OwnX X a i c (mbs k R) L U wr ∧ Fr X Y w wr) := by
        have hl := HN.out
        have hr := HM.out.row
        rw [← hl] at hr
        rw [halfK_end, hl] at hr
        exact ⟨⟨(mbs_len k R).trans hl, hr, fun j hj => by rw [mbs_get k R j (by omega)]; exact HM.out.done j hj, HOff.out⟩, HM.out.fr⟩
      go_wp2
      go_ret
      exact ⟨by rw [← hm.out]; rfl, HX.out.1, HX.out.2⟩
    obtain ⟨g, rfl⟩ : ∃ g, a = some ⟨g, 0, none⟩ := by
      rcases HM.out.row.2 with ⟨_, h2⟩ | ⟨g, cap, cur, h1, _⟩
      · omega
      · simp only [Value.slice.injEq] at h1; exact ⟨g, h1.1⟩
    have hgY : g < Y := HGY.out g rfl
    have hXg : X ≤ g := (HM.out.row.lt g rfl).1
    have HOfg : Hid (∀ j, j < n → g < L j ∨ U j ≤ g) := fun j hj => HOff.out g rfl j hj
    have HL' : Hid ((halfK k R i).length = n) := by unfold Hid; rw [halfK_len k R i (by rw [HN.out]; exact hi), HN.out]
    obtain ⟨y0, y1, y2, y3, y4⟩ := flatK_get (halfK k R i) i (by rw [HL'.out]; exact hlt)
    have HHg := hid (halfK_get k R i i (Nat.le_refl _) (by rw [HN.out]; exact hi))
    rw [HHg.out] at y0 y1 y2 y3 y4
    have HHs := hid (halfK_set k R i (by rw [HN.out]; exact hlt))
    have HOi := hid (HM.out.own i (Nat.le_refl _) hlt)
    have HMs : Hid (mkK R (i + 1) = mkK R i + mkb (R.getD i k0)) := rfl
    have HMn := hid (mkK_mono R n (i + 1) hlt)
    have HSq := hid (HSz.out i hlt)
    have hLX := HLo.out i hlt
    have hUY := HY.out i hlt
    have hOg := HOfg.out i hlt
    have HB1 : Hid (∀ j, j < n → j ≠ i → U j ≤ L i ∨ U i ≤ L j) := fun j hj hne => HOr.out j i hj hlt hne
    have HQ0 : Hid (∀ j, j < i → OwnX (L j) (U j) (mb (k + mkK R j) (R.getD j k0)) wr) := HM.out.done
    have HQ1 : Hid (∀ j, i + 1 ≤ j → j < n → OwnX (L j) (U j) (R.getD j k0) wr) := fun j h1 h2 => HM.out.own j (by omega) h2
    have HF0 := hid HM.out.fr
    have HR0 := hid HM.out.row
    obtain ⟨q, hq⟩ : ∃ q, q = R.getD i k0 := ⟨_, rfl⟩
    have HQ := hid hq
    rw [← hq] at y0 y1 y2 y3 y4 HHg HHs HOi HMs HSq
    clear hq HM
    have N1 : Hid (m + mkb q ≤ 100000000) := by unfold Hid; have := hm.out; have := HK.out; have := HMn.out; have := HMs.out; omega
    have hN : m + 3 ≤ 100000000 := by have := N1.out; unfold mkb at this; omega
    have z0 := (HR0.out.cellAt (i * 5) (by omega)).trans y0
    have z1 := (HR0.out.cellAt (i * 5 + 1) (by omega)).trans y1
    have z2 := (HR0.out.cellAt (i * 5 + 2) (by omega)).trans y2
    have z3 := (HR0.out.cellAt (i * 5 + 3) (by omega)).trans y3
    have f0 := HR0.out.frozenAt (i * 5)
    have f1 := HR0.out.frozenAt (i * 5 + 1)
    have f2 := HR0.out.frozenAt (i * 5 + 2)
    obtain ⟨w3, hw3⟩ : ∃ w3, w3 = ((wr.setCell ⟨g, i * 5, none⟩ (.int .i64 (m : Int))).setCell ⟨g, i * 5 + 1, none⟩ (.int .i64 ((m : Int) + 1))).setCell ⟨g, i * 5 + 2, none⟩ (.int .i64 ((m : Int) + 1 + 1)) := ⟨_, rfl⟩
    have H3 : Hid (w3.ownsRow X 36 5 (.slice (some ⟨g, 0, none⟩) n c) n (flatK (halfK k R (i + 1))) ∧ OwnX (L i) (U i) q w3 ∧ (∀ j, j < i → OwnX (L j) (U j) (mb (k + mkK R j) (R.getD j k0)) w3) ∧ (∀ j, i + 1 ≤ j → j < n → OwnX (L j) (U j) (R.getD j k0) w3) ∧ Fr X Y w w3 ∧ (flatK (halfK k R (i + 1)))[i * 5 + 4]? = some (.slice q.b q.ts.length q.d)) := by
      rw [hw3]
      have s1 := HR0.out.stored (i * 5) (.int .i64 (m : Int))
      have s2 := s1.1.stored (i * 5 + 1) (.int .i64 ((m : Int) + 1))
      have s3 := s2.1.stored (i * 5 + 2) (.int .i64 ((m : Int) + 1 + 1))
      have tr : ∀ {j : Nat} {p : Bk}, j < n → OwnX (L j) (U j) p wr → OwnX (L j) (U j) p (((wr.setCell ⟨g, i * 5, none⟩ (.int .i64 (m : Int))).setCell ⟨g, i * 5 + 1, none⟩ (.int .i64 ((m : Int) + 1))).setCell ⟨g, i * 5 + 2, none⟩ (.int .i64 ((m : Int) + 1 + 1))) := fun {j p} hj hp =>
        ownx_grown (ownx_grown (ownx_grown hp s1.2 (fun g' e => by cases e; exact HOfg.out j hj)) s2.2 (fun g' e => by cases e; exact HOfg.out j hj)) s3.2 (fun g' e => by cases e; exact HOfg.out j hj)
      refine ⟨?_, tr hlt HOi.out, fun j hj => tr (by omega) (HQ0.out j hj), fun j h1 h2 => tr h2 (HQ1.out j h1 h2), ((HF0.out.grown s1.2 hXg hgY).grown s2.2 hXg hgY).grown s3.2 hXg hgY, ?_⟩
      rotate_left
      · rw [← HHs.out, ← hm.out, ← flatK_set3 (halfK k R i) i (mb m q) (by rw [HL'.out]; exact hlt) (by rw [HHg.out]; simp only [mb, mqs_len]) (by rw [HHg.out]; simp only [mb, mts_len]), List.getElem?_set_ne (by omega), List.getElem?_set_ne (by omega), List.getElem?_set_ne (by omega)]; exact y4
      have e : (((flatK (halfK k R i)).set (i * 5) (.int .i64 (m : Int))).set (i * 5 + 1) (.int .i64 ((m : Int) + 1))).set (i * 5 + 2) (.int .i64 ((m : Int) + 1 + 1)) = flatK (halfK k R (i + 1)) := by
        rw [← HHs.out, ← hm.out]
        have := flatK_set3 (halfK k R i) i (mb m q) (by rw [HL'.out]; exact hlt) (by rw [HHg.out]; simp only [mb, mqs_len]) (by rw [HHg.out]; simp only [mb, mts_len])
        rw [← this]
        simp only [mb]
        rw [show (m : Int) + 1 + 1 = (m : Int) + 2 by omega]
      rw [← e]; exact s3.1
    obtain ⟨m3, hm3⟩ : ∃ m3 : Nat, m3 = m + 3 := ⟨_, rfl⟩
    have e3 : (m : Int) + 1 + 1 + 1 = (m3 : Int) := by omega
    have HM3 := hid hm3
    clear hm3
    go_wp2_with fail
    rw [← hw3]
    clear hw3 z0 z1 z2 z3 f0 f1 f2 y0 y1 y2 y3 y4 e3 HR0 HQ0 HQ1 HF0
    obtain ⟨M', l1, lY, og, lg, l3, ot⟩ := H3.out.2.1.ex
    have N2 := N1.out
    unfold mkb at N2
    have hm3' := HM3.out
    have HOG := hid og
    have HOT := hid ot
    have HL3 := hid l3
    have HLg := hid lg
    have hq1 : q.qs.length ≤ 1048576 := HSq.out.1
    have hq2 : q.ts.length ≤ 1048576 := HSq.out.2.2.1
    have hk3 : m3 + 2 * tot q.qs q.qs.length ≤ 100000000 := by omega
    clear og ot l3 lg hm3'
    refine (mark_ser (L i) M' q.a q.qs.length q.c m3 q.qs _ hq1 hk3 HOG.out HL3.out).mono ?_
    rintro e w4 ⟨rfl, og4, hf4⟩
    have HR4 := hid (own_fr H3.out.1 hf4 (by omega))
    have z4 := (HR4.out.cellAt (i * 5 + 4) (by omega)).trans H3.out.2.2.2.2.2
    have HOT4 : Hid (StoX M' (U i) q.b q.d q.ts w4) := stox_fr HOT.out hf4 (.inl (Nat.le_refl _))
    have HOG4 := hid og4
    have HF4 := hid hf4
    obtain ⟨m4, hm4⟩ : ∃ m4 : Nat, m4 = m3 + 2 * tot q.qs q.qs.length := ⟨_, rfl⟩
    have HM4 := hid hm4
    have hk4 : m4 + mk q.ts q.ts.length ≤ 100000000 := by have := HM3.out; omega
    rw [← hm4]
    clear hm4 og4 hf4 hk3
    go_wp2_with fail
    refine (mark_sto M' (U i) q.b q.d m4 q.ts _ hq2 hk4 HOT4.out).mono ?_
    rintro e w5 ⟨rfl, ot5, hf5⟩
    have HE : Hid (m4 + mk q.ts q.ts.length = k + mkK R (i + 1)) := by unfold Hid; have h1 := hm.out; have h2 := HMs.out; unfold mkb at h2; have := HM3.out; have := HM4.out; omega
    have HM5 : Hid (MbX X Y (some ⟨g, 0, none⟩) n c k (i + 1) R L U w w5) := by
      refine ⟨own_fr HR4.out hf5 (by omega), fun j hj => ?_, fun j h1 h2 => ownx_fr (ownx_fr (H3.out.2.2.2.1 j h1 h2) HF4.out (by have := HB1.out j h2 (by omega); omega)) hf5 (by have := HB1.out j h2 (by omega); omega), fr_trans (fr_trans H3.out.2.2.2.2.1 HF4.out hLX (by omega)) hf5 (by omega) hUY⟩
      by_cases e : j = i
      · subst e
        rw [← HQ.out, ← hm.out]
        have hge : ∀ t, t < q.qs.length → blk ((mqs (m + 3) q.qs).getD t q0).a = blk (q.qs.getD t q0).a ∧ blk ((mqs (m + 3) q.qs).getD t q0).b = blk (q.qs.getD t q0).b := fun t ht => by rw [mqs_get _ _ _ ht]; exact ⟨rfl, rfl⟩
        have og5 : OwnO (L j) q.a q.qs.length q.c (mqs (m + 3) q.qs) w5 := by
          have h0 := HOG4.out
          rw [HM3.out] at h0
          refine owno_frx h0 hf5 (fun g' hg' => .inl (HLg.out g' hg')) (fun t ht => ?_)
          have r := HL3.out t ht
          have r2 := hge t ht
          omega
        have ot5' : StoX M' (U j) q.b q.d (mts (m + 3 + 2 * tot q.qs q.qs.length) q.ts) w5 := by
          have h0 := ot5
          rw [HM4.out, HM3.out] at h0
          exact h0
        refine ⟨⟨M', l1, lY, ?_, ?_, fun t ht => ?_, ot5'⟩, Nat.le_trans H3.out.2.1.top (Nat.le_trans HF4.out.size hf5.size)⟩
        · simp only [mb, mqs_len]; exact og5
        · simp only [mb, mqs_len]; exact HLg.out
        · simp only [mb, mqs_len] at ht ⊢; rw [(hge t ht).1, (hge t ht).2]; exact HL3.out t ht
      · exact ownx_fr (ownx_fr (H3.out.2.2.1 j (by omega)) HF4.out (by have := HB1.out j (by omega) e; omega)) hf5 (by have := HB1.out j (by omega) e; omega)
    obtain ⟨m5, hm5⟩ : ∃ m5 : Nat, m5 = m4 + mk q.ts q.ts.length := ⟨_, rfl⟩
    rw [← hm5]
    have HE5 : Hid (m5 = k + mkK R (i + 1)) := by unfold Hid; rw [hm5]; exact HE.out
    clear hm5 hf5 ot5 z4 HR4 H3 HOG4 HOT4 HF4
    go_wp2
    go_roundw
    case rel => exact ⟨i + 1, m5, by omega, by go_num, rfl, HE5.out, HM5.out⟩
    case measure => simp [intOf]; omega
end Go.Proofs.YtjhdmghpklagkaaGreat.Pln
