/- The program's relabellers: whether they are made. -/
import Derived.Test.YtcknlidbjnmbjaaGreatDoorRQE
import Derived.Test.YtcknlidbjnmbjaaGreatDoorRQF
import Derived.Test.YtcknlidbjnmbjaaGreatDoorRRh
import Derived.Test.YtcknlidbjnmbjaaGreatDoorRPax
import Derived.Deep.CutRange
namespace Go.Proofs.YtcknlidbjnmbjaaGreatDoor.Rul
open Go.RowKit Go.Proofs.YtcknlidbjnmbjaaGreatDoor.Fil Go.Proofs.YtcknlidbjnmbjaaGreatDoor.Rel

theorem good_pat {r : Rule} (h : goodR r = true) : Pat.patB r.pat = true := by
  unfold goodR baseB at h
  simp only [Bool.and_eq_true] at h
  exact h.1.2.2.2.2
theorem good_acts {r : Rule} (h : goodR r = true) : 1 ≤ r.act ∧ r.act ≤ 8 := by
  unfold goodR baseB at h
  simp only [Bool.and_eq_true, decide_eq_true_eq] at h
  exact h.1.1
theorem act_at (A : Int) (h1 : 1 ≤ A) (h8 : A ≤ 8) : ∃ f : Nat, D8.atKey (.int .i64 A) .nil = .lit (.int .i64 f) := by
  rcases (show A = 1 ∨ A = 2 ∨ A = 3 ∨ A = 4 ∨ A = 5 ∨ A = 6 ∨ A = 7 ∨ A = 8 by omega) with rfl | rfl | rfl | rfl | rfl | rfl | rfl | rfl
  · exact ⟨68, rfl⟩
  · exact ⟨69, rfl⟩
  · exact ⟨70, rfl⟩
  · exact ⟨71, rfl⟩
  · exact ⟨72, rfl⟩
  · exact ⟨73, rfl⟩
  · exact ⟨74, rfl⟩
  · exact ⟨75, rfl⟩
theorem look_act {w : World} {M : Nat} (h : w.ownsMap Tryz.prog 3 RF M 8 D8) (A : Int) (h1 : 1 ≤ A) (h8 : A ≤ 8) : ∃ f : Nat, (Instr.lookup 80 (.map (some M)) (.int .i64 A) false).run Tryz.prog w = .ok (.func (.func f) #[] #[]) w := by
  obtain ⟨v, ps, hrun, hv⟩ := h.lookup (t := 80) (z := .nilFunc) (zd := .nil) (zp := []) keyedI Tryz.underlying80 (by kernel_rfl) rfl (keyI A (by
    have : (Lit.int .i64 A).wf = true := by
      rcases (show A = 1 ∨ A = 2 ∨ A = 3 ∨ A = 4 ∨ A = 5 ∨ A = 6 ∨ A = 7 ∨ A = 8 by omega) with rfl | rfl | rfl | rfl | rfl | rfl | rfl | rfl
      all_goals decide
    exact this))
  obtain ⟨f, hf⟩ := act_at A h1 h8
  rw [hf] at hv
  exact ⟨f, by rw [← rf_func hv]; exact hrun⟩
theorem info9 : (Tryz.prog.info? 88).map (fun i => (i.zero, i.size, i.bytes)) = some (some (.agg #[.int .i64 0, .slice none 0 0, .string ByteArray.empty, .string ByteArray.empty, .string ByteArray.empty, .string ByteArray.empty, .int .i64 0, .slice none 0 0, .nilFunc]), 9, 136) := by kernel_rfl
/-- The table of actions, and what is ready by now. -/
structure Lp (w : World) (M B : Nat) (a : Option Addr) (k c : Nat) (xs : List Value) (x : World) : Prop where
  map : x.ownsMap Tryz.prog 3 RF M 8 D8
  row : x.ownsRow B 88 9 (.slice a k c) k xs
  bel : Below w.heap.size w x
  pos : M < B
  low : w.heap.size ≤ M
  siz : B ≤ x.heap.size
theorem Lp.below {w : World} {M B : Nat} {a : Option Addr} {k c : Nat} {xs : List Value} {x y : World} (h : Lp w M B a k c xs x) (hb : Below x.heap.size x y) : Lp w M B a k c xs y :=
  ⟨h.map.kept (row := none) ⟨hb.os, hb.tape, hb.output, hb.size, fun j hj _ => hb.block j hj⟩ (by simp), own_below h.row hb, h.bel.trans (hb.mono h.bel.size), h.pos, h.low, Nat.le_trans h.siz hb.size⟩
theorem Lp.app {w : World} {M B : Nat} {a a' : Option Addr} {k c k' c' : Nat} {xs ys : List Value} {x y : World} (h : Lp w M B a k c xs x) (hg : x.grownBy y (Value.slice a k c).ownBlock) (ho : y.ownsRow B 88 9 (.slice a' k' c') k' ys) : Lp w M B a' k' c' ys y := by
  have h1 := h.pos
  have h2 := h.low
  have hs := h.siz
  refine ⟨h.map.kept hg (fun e => ?_), ho, ⟨hg.os.trans h.bel.os, hg.tape.trans h.bel.tape, hg.output.trans h.bel.output, Nat.le_trans h.bel.size hg.size, fun j hj => (hg.block j (Nat.lt_of_lt_of_le hj h.bel.size) (fun e => ?_)).trans (h.bel.block j hj)⟩, h.pos, h.low, Nat.le_trans hs hg.size⟩
  · have := (h.row.lt M e.symm).1; omega
  · have := (h.row.lt j e.symm).1; omega
theorem nine_row (w : World) (x0 x1 x2 x3 x4 x5 x6 x7 x8 : Value) (t : TypeId) : ∀ j u, [x0, x1, x2, x3, x4, x5, x6, x7, x8][j]? = some u → (w.alloc (.cells #[x0, x1, x2, x3, x4, x5, x6, x7, x8] t)).cell? ((⟨w.heap.size, 0, none⟩ : Addr).add j) = some u := by
  intro j u hj
  have h := heap_alloc_new w (.cells #[x0, x1, x2, x3, x4, x5, x6, x7, x8] t)
  have hj9 : j < 9 := by
    rcases Nat.lt_or_ge j 9 with h1 | h1
    · exact h1
    · rw [List.getElem?_eq_none (by simpa using h1)] at hj; cases hj
  have e : (⟨w.heap.size, 0, none⟩ : Addr).add j = ⟨w.heap.size, j, none⟩ := by
    by_cases h0 : j = 0
    · subst h0; simp [Addr.add]
    · simp [Addr.add, h0]
  rw [e]
  simp only [World.cell?, h]
  simpa using hj
set_option maxRecDepth 100000 in
set_option maxHeartbeats 4000000 in
theorem f39 (a : Option Addr) (n c : Nat) (qs : List Q) (w : World) (hn : qs.length = n) (hb : n ≤ 1048576) (hr : HasR w a qs) (hz : SmlQ qs) (hf : FitQ qs) (ht : Tab w) :
    Calls Tryz.prog 39 #[.slice a n c] w fun e w' => (∃ V, e = .returned (.tuple #[V, .bool (gdQ qs)])) ∧ Below w.heap.size w w' := by
  obtain ⟨i0, hi, hz0, hz1, hz2⟩ := info_parts info9
  have HN := hid hn
  have HR := hid hr
  have HZ := hid hz
  have HF := hid hf
  have HTab := hid ht
  clear hn hr hz hf ht
  by_cases h30 : 30 < n
  · have HG : Hid (gdQ qs = false) := gdQ_many (by rw [HN.out]; exact h30)
    go_enter Tryz.func39, Tryz.ntmps39
    go_wp2
    go_ret2
    exact ⟨⟨_, by rw [HG.out]; rfl⟩, Below.refl _ _⟩
  go_enter Tryz.func39, Tryz.ntmps39
  go_wp2_with fail
  refine (f55 _).mono ?_
  rintro e w1 ⟨rfl, hm1, hb1⟩
  have HM1 := hid hm1
  have HB1 := hid hb1
  clear hm1 hb1
  go_wp2_with (at_make; refine wpList_make_own _ rfl _ _ 65 rfl w1.heap.size 88 i0 (.agg #[.int .i64 0, .slice none 0 0, .string ByteArray.empty, .string ByteArray.empty, .string ByteArray.empty, .string ByteArray.empty, .int .i64 0, .slice none 0 0, .nilFunc]) 9 Tryz.underlying65 hi hz0 hz1 _ _ _ n rfl rfl rfl ?b2 ?b3 ?b4 ?_)
  case b2 => rw [hz2]; omega
  case b3 => unfold maxLen; omega
  case b4 => exact Nat.le_refl _
  intro w2 hown2 hgrow2
  have HL0 : Hid (Lp w w.heap.size w1.heap.size (some ⟨w1.heap.size, 0, none⟩) 0 n [] w2) := by
    have hbw : Below w1.heap.size w1 w2 := (Below.refl _ _).grown hgrow2 (Nat.le_refl _) (fun k h => by cases h)
    exact ⟨HM1.out.kept hgrow2 (by simp), by simpa using hown2, HB1.out.trans (hbw.mono HB1.out.size), HM1.out.lt, Nat.le_refl _, hbw.size⟩
  clear hown2 hgrow2 HM1 HB1
  go_wp2
  go_loopw [5, 19] (fun so si wr => ∃ (k c' : Nat) (a' : Option Addr) (xs : List Value), k ≤ n ∧ si = .int .i64 k ∧ so = .slice a' k c' ∧ Hid (∀ i, i < k → goodR (qs.getD i q0).r = true) ∧ Hid (Lp w w.heap.size w1.heap.size a' k c' xs wr)) (fun _ si _ => n - (intOf si).toNat)
  case atStart => exact ⟨0, n, some ⟨w1.heap.size, 0, none⟩, [], Nat.zero_le _, rfl, rfl, fun i hi => by omega, HL0⟩
  case round =>
    obtain ⟨k, c', a', xs, hk, rfl, rfl, HU, HL⟩ := hrel
    by_cases hlt : k < n
    · obtain ⟨b, off, rfl, hbl, c0, c1, c2, c3, c4, c5, c6, hT⟩ := (HR.out).at7 k (by rw [HN.out]; exact hlt)
      have d0 := (HL.out.bel.cell (p := ⟨b, off + k * 7, none⟩) hbl).trans c0
      have d1 := (HL.out.bel.cell (p := ⟨b, off + k * 7 + 1, none⟩) hbl).trans c1
      have d2 := (HL.out.bel.cell (p := ⟨b, off + k * 7 + 2, none⟩) hbl).trans c2
      have d3 := (HL.out.bel.cell (p := ⟨b, off + k * 7 + 3, none⟩) hbl).trans c3
      have d4 := (HL.out.bel.cell (p := ⟨b, off + k * 7 + 4, none⟩) hbl).trans c4
      have d5 := (HL.out.bel.cell (p := ⟨b, off + k * 7 + 5, none⟩) hbl).trans c5
      have d6 := (HL.out.bel.cell (p := ⟨b, off + k * 7 + 6, none⟩) hbl).trans c6
      have HT := hid (hT.below HL.out.bel)
      have HS := hid (HZ.out k (by rw [HN.out]; exact hlt))
      have HFq := hid (HF.out k)
      have HTb := hid (HTab.out.below HL.out.bel)
      have HNo : Hid (goodR (qs.getD k q0).r = false → gdQ qs = false) := fun h => gdQ_bad (by rw [HN.out]; exact hlt) h
      have HUs : Hid (goodR (qs.getD k q0).r = true → ∀ i, i < k + 1 → goodR (qs.getD i q0).r = true) := by
        intro h i hi
        by_cases e : i = k
        · subst e; exact h
        · exact HU.out i (by omega)
      clear c0 c1 c2 c3 c4 c5 c6 hT hbl
      generalize qs.getD k q0 = q at *
      obtain ⟨⟨A, ss, sep, pat, tgt, val, md⟩, aq, cq⟩ := q
      have i1 : (k : Int) < (n : Int) := by omega
      have HBb : Hid (Below wr.heap.size wr (wr.alloc (.cells #[.int .i64 A, .slice aq ss.length cq, .string sep, .string pat, .string tgt, .string val, .int .i64 md] 63))) := (Below.refl _ _).alloc (Nat.le_refl _) _
      have HWb := hid (heap_alloc_new wr (.cells #[.int .i64 A, .slice aq ss.length cq, .string sep, .string pat, .string tgt, .string val, .int .i64 md] 63))
      have HLb := hid (HL.out.below HBb.out)
      have HTTb := hid (HT.out.below HBb.out)
      have HTabb := hid (HTb.out.below HBb.out)
      generalize hX : wr.heap.size = X at HWb
      have HX := hid hX
      clear hX HL HT HTb
      go_wp2_with fail
      refine (Pat2.f56 pat _ HFq.out.1.pat).mono ?_
      rintro e w3 ⟨⟨Va, Vn, Vc, rfl⟩, hb3⟩
      have HL3 := hid (HLb.out.below hb3)
      have HT3 := hid (HTTb.out.below hb3)
      have HTab3 := hid (HTabb.out.below hb3)
      have HW3 : Hid (w3.heap[wr.heap.size]? = some (.cells #[.int .i64 A, .slice aq ss.length cq, .string sep, .string pat, .string tgt, .string val, .int .i64 md] 63)) := by
        rw [HX.out]; exact kept_at HWb.out hb3
      clear hb3 HLb HTTb HTabb HWb HBb d0 d1 d2 d3 d4 d5 d6
      cases hp : Pat.patB pat
      · have HG : Hid (gdQ qs = false) := HNo.out (by
          cases hg : goodR ⟨A, ss, sep, pat, tgt, val, md⟩
          · rfl
          · have := good_pat hg; rw [show (⟨A, ss, sep, pat, tgt, val, md⟩ : Rule).pat = pat from rfl, hp] at this; cases this)
        go_wp2
        go_ret2
        exact ⟨⟨_, by rw [HG.out]; rfl⟩, HL3.out.bel⟩
      obtain ⟨b0, b1, b2, b3, b4, b5, b6⟩ := cells7 HW3.out
      go_wp2_with fail
      refine (f57 ⟨A, ss, sep, pat, tgt, val, md⟩ aq ss.length cq _ rfl HT3.out HS.out HFq.out.1 HTab3.out).mono ?_
      rintro e w4 ⟨rfl, hb4⟩
      have HL4 := hid (HL3.out.below hb4)
      have HW4 := hid (kept_at HW3.out hb4)
      clear hb4 HL3 HT3 HTab3 HW3 b0 b1 b2 b3 b4 b5 b6
      cases hg : goodR ⟨A, ss, sep, pat, tgt, val, md⟩
      · have HG := hid (HNo.out hg)
        go_wp2
        go_ret2
        exact ⟨⟨_, by rw [HG.out]; rfl⟩, HL4.out.bel⟩
      have HU2 := hid (HUs.out hg)
      obtain ⟨ha1, ha8⟩ := good_acts hg
      obtain ⟨f, hrun⟩ := look_act HL4.out.map A ha1 ha8
      obtain ⟨b0, b1, b2, b3, b4, b5, b6⟩ := cells7 HW4.out
      have HL5 := hid (HL4.out.below ((Below.refl _ w4).alloc (Nat.le_refl _) (.cells #[.int .i64 A, .slice aq ss.length cq, .string sep, .string pat, .string tgt, .string val, .int .i64 md, .slice Va Vn Vc, .func (.func f) #[] #[]] 88)))
      clear ha1 ha8
      go_wp2_with (at_builtin; refine wpList_append_own _ rfl (.tmp 36) (.tmp 44) 65 rfl w1.heap.size 88 i0 (.agg #[.int .i64 0, .slice none 0 0, .string ByteArray.empty, .string ByteArray.empty, .string ByteArray.empty, .string ByteArray.empty, .int .i64 0, .slice none 0 0, .nilFunc]) 9 136 Tryz.underlying65 hi hz0 hz1 hz2 rfl (by decide) _ _ _ rfl HL5.out.row ⟨w4.heap.size, 0, none⟩ 1 1 [.int .i64 A, .slice aq ss.length cq, .string sep, .string pat, .string tgt, .string val, .int .i64 md, .slice Va Vn Vc, .func (.func f) #[] #[]] rfl rfl ?d1 ?d2 ?d3 ?d4 ?d5 ?_)
      case d1 => exact nine_row _ _ _ _ _ _ _ _ _ _ _
      case d2 => intro x hx; simp at hx; rcases hx with rfl | rfl | rfl | rfl | rfl | rfl | rfl | rfl | rfl <;> rfl
      case d3 => unfold maxLen; omega
      case d4 => omega
      case d5 => exact HL5.out.siz
      intro v1 w6 hown1 hgr1 _
      obtain ⟨a2, c2, rfl⟩ := Pat.own_form hown1
      have HL6 := hid (HL5.out.app hgr1 hown1)
      clear hown1 hgr1 HL5 HL4 b0 b1 b2 b3 b4 b5 b6 hrun
      go_wp2
      go_roundw
      case rel => exact ⟨k + 1, c2, a2, _, by omega, by go_num, rfl, HU2.out, HL6⟩
      case measure => simp [intOf]; omega
    · have HG : Hid (gdQ qs = true) := gdQ_all (by have := HN.out; omega) (fun i hi => HU.out i (by have := HN.out; omega))
      go_wp2
      go_ret2
      exact ⟨⟨_, by rw [HG.out]; rfl⟩, HL.out.bel⟩
end Go.Proofs.YtcknlidbjnmbjaaGreatDoor.Rul
