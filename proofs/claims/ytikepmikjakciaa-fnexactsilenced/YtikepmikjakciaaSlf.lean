/- Which silences hold: the loops of both, both Silenced. -/
import Derived.Test.YtikepmikjakciaaSlb
import Derived.Test.YtikepmikjakciaaSld
import Derived.Test.YtikepmikjakciaaFm
import Derived.Test.YtikepmikjakciaaPs
namespace Go.Proofs.Ytikepmikjakciaa.Sln
open Go.RowKit
open Go.Proofs.Ytikepmikjakciaa.Pat (Mt HasM FitM goodM nameL allM)
open Go.Proofs.Ytikepmikjakciaa.Lab (Lb HasL goodL GoodP OfV)
open Go.Proofs.Ytikepmikjakciaa.Rwc
open Go.Proofs.Ytikepmikjakciaa.Nmt (isT cmpS)
open Go.Proofs.Ytikepmikjakciaa.Inh (some1)

noncomputable def vl (ls : List Lb) (x : ByteArray) : ByteArray := Classical.choose (Lab.has_of ls x)
theorem vl_of (ls : List Lb) (x : ByteArray) : OfV ls x (vl ls x) := Classical.choose_spec (Lab.has_of ls x)
noncomputable def fit (ms : List Mt) (ls : List Lb) : Bool := allM ms (vl ls)

theorem infoS9 : (Try.prog.info? 9).map (fun i => (i.zero, i.size, i.bytes)) = some (some (.string ByteArray.empty), 1, 16) := by kernel_rfl
theorem own_formS {w : World} {base e size n : Nat} {v : Value} {xs : List Value} (h : w.ownsRow base e size v n xs) : ∃ a c, v = .slice a n c := by
  rcases h.2 with ⟨h1, h2⟩ | ⟨g, cap, cur, h1, _⟩
  · exact ⟨none, 0, by rw [h1, h2]⟩
  · exact ⟨_, _, h1⟩
theorem one_cells (w : World) (x : Value) (t : TypeId) : ∀ j u, [x][j]? = some u → (w.alloc (.cells #[x] t)).cell? ((⟨w.heap.size, 0, none⟩ : Addr).add j) = some u := by
  intro j u h
  match j, h with
  | 0, h =>
    simp only [List.getElem?_cons_zero, Option.some.injEq] at h
    subst h
    exact Pat.one_new w x t
/-- A silence holds of labels at a time. -/
noncomputable def takes (q : T) (l : List Lb) (t : Int) : Bool := decide (q.f ≤ t) && decide (t ≤ q.t) && fit q.ls l
noncomputable def out (ts : List T) (l : List Lb) (t : Int) : Nat → List ByteArray
  | 0 => []
  | k + 1 => out ts l t k ++ (if takes (ts.getD k t0) l t = true then [(ts.getD k t0).s] else [])
theorem out_len (ts : List T) (l : List Lb) (t : Int) : ∀ k, (out ts l t k).length ≤ k
  | 0 => Nat.le_refl _
  | k + 1 => by
    have := out_len ts l t k
    unfold out
    rw [List.length_append]
    split <;> simp <;> omega
theorem out_no {ts : List T} {l : List Lb} {t : Int} {k : Nat} (h : takes (ts.getD k t0) l t = false) : out ts l t (k + 1) = out ts l t k := by
  show out ts l t k ++ _ = _
  rw [h]; simp
theorem out_yes {ts : List T} {l : List Lb} {t : Int} {k : Nat} (h : takes (ts.getD k t0) l t = true) : out ts l t (k + 1) = out ts l t k ++ [(ts.getD k t0).s] := by
  show out ts l t k ++ _ = _
  rw [h]; simp
abbrev OwnS (w : World) (X : Nat) (v : Value) (ss : List ByteArray) : Prop := w.ownsRow X 9 1 v ss.length (ss.map Value.string)
theorem okS_m {q : T} (h : okS q = true) : goodM q.ls = true := by
  unfold okS some1 at h
  simp only [Bool.and_eq_true] at h
  exact h.1.1.1.2.2

set_option maxRecDepth 20000 in
set_option maxHeartbeats 8000000 in
theorem f49 (a la : Option Addr) (n c nl lc : Nat) (t : Int) (ts : List T) (l : List Lb) (w : World) (hn : ts.length = n) (hnl : l.length = nl) (gs : goodS ts = true) (gl : goodL l = true) (hr : Has w a ts) (hrl : HasL w la l) :
    Calls Try.prog 49 #[.slice a n c, .slice la nl lc, .int .i64 t] w fun e w' => ∃ v, e = .returned v ∧ OwnS w' w.heap.size v (out ts l t n) ∧ Below w.heap.size w w' := by
  obtain ⟨i0, hi, hz0, hz1, hz2⟩ := info_parts infoS9
  have HN := hid hn
  have HNL := hid hnl
  have GX : Hid (∀ i, i < n → okS (ts.getD i t0) = true) := fun i hi => (of_decide_eq_true gs : GoodSP ts).2.1 i (by omega)
  have GL := hid gl
  have HR := hid hr
  have RL := hid hrl
  have hm : n ≤ 50 := by rw [← hn]; exact (of_decide_eq_true gs : GoodSP ts).1
  clear hn hnl gs gl hr hrl
  go_enter Try.func49, Try.ntmps49
  go_wp2
  go_loopw [7, 12] (fun so i wr => ∃ k : Nat, k ≤ n ∧ i = .int .i64 k ∧ Hid (OwnS wr w.heap.size so (out ts l t k)) ∧ Hid (Below w.heap.size w wr)) (fun _ i _ => n - (intOf i).toNat)
  case atStart => exact ⟨0, Nat.zero_le _, rfl, World.ownsRow_nil w w.heap.size 9 1, Below.refl _ _⟩
  case round =>
    obtain ⟨k, hk, rfl, HO, HB⟩ := hrel
    obtain ⟨ao, co, rfl⟩ := own_formS HO.out
    have hcl := out_len ts l t k
    by_cases hlt : k < n
    rotate_left
    · obtain rfl : k = n := by omega
      have i1 : ¬ (k : Int) < (k : Int) := by omega
      go_wp2
      go_ret
      exact ⟨_, rfl, HO.out, HB.out⟩
    obtain ⟨b, off, rfl, hbl, hc, hl⟩ := (HR.out.below HB.out).at2 k (by rw [HN.out]; exact hlt)
    obtain ⟨d0, d1, d2, d3⟩ := hc.all
    have HL := hid hl
    have G := hid (GX.out k hlt)
    have HNo : Hid (takes (ts.getD k t0) l t = false → out ts l t (k + 1) = out ts l t k) := fun h => out_no h
    have HYe : Hid (takes (ts.getD k t0) l t = true → out ts l t (k + 1) = out ts l t k ++ [(ts.getD k t0).s]) := fun h => out_yes h
    have i1 : (k : Int) < (n : Int) := by omega
    clear hc hl
    generalize ts.getD k t0 = q at *
    have g1 := okS_m G.out
    have HB0 := hid (HB.out.alloc HB.out.size (BX q))
    have HX0 := hid (heap_alloc_new wr (BX q))
    have HL0 := hid (HL.out.below ((Below.refl _ _).alloc (Nat.le_refl _) (BX q)))
    have HO0 := hid (World.ownsRow.alloc HO.out (BX q))
    have H1 := fun x a b => hid (Pat.f78 q.la la q.ls.length q.lc nl lc q.ls l (vl l) x rfl HNL.out g1 GL.out a b (vl_of l))
    have HT : Hid (takes q l t = (decide (q.f ≤ t) && decide (t ≤ q.t) && allM q.ls (vl l))) := rfl
    obtain ⟨W0, hW⟩ : ∃ W, W = wr.alloc (BX q) := ⟨_, rfl⟩
    rw [← hW] at HB0 HX0 HL0 HO0
    have HW := hid hW
    clear hW g1
    go_upto_region 5 with fail
    rw [← HW.out]
    clear HW d0 d1 d2 d3 HL HB HO
    generalize wr.heap.size = B at *
    generalize allM q.ls (vl l) = b1 at *
    obtain ⟨x0, x1, x2, x3⟩ := cellsN HX0.out
    by_cases c1 : q.f ≤ t
    rotate_left
    · have HY : Hid (out ts l t (k + 1) = out ts l t k) := HNo.out (by rw [HT.out, decide_eq_false c1]; simp)
      have c1' : t < q.f := by omega
      clear c1
      go_wp2
      go_roundw
      case rel => exact ⟨k + 1, by omega, by go_num, by rw [HY.out]; exact HO0, HB0⟩
      case measure => simp [intOf]; omega
    by_cases c2 : t ≤ q.t
    rotate_left
    · have HY : Hid (out ts l t (k + 1) = out ts l t k) := HNo.out (by rw [HT.out, decide_eq_false c2]; simp)
      have c2' : q.t < t := by omega
      clear c2
      go_wp2
      go_roundw
      case rel => exact ⟨k + 1, by omega, by go_num, by rw [HY.out]; exact HO0, HB0⟩
      case measure => simp [intOf]; omega
    go_wp2_with fail
    refine (H1 _ HL0.out.l (RL.out.below HB0.out)).out.mono ?_
    rintro e w1 ⟨rfl, hb⟩
    have HB1 := hid (HB0.out.trans (hb.mono HB0.out.size))
    have HX1 := hid (kept HX0.out hb)
    have HO1 := hid (own_below HO0.out hb)
    clear hb HB0 HX0 HL0 HO0 x0 x1 x2 x3 H1
    obtain ⟨x0, x1, x2, x3⟩ := cellsN HX1.out
    cases b1
    · have HY : Hid (out ts l t (k + 1) = out ts l t k) := HNo.out (by rw [HT.out]; simp)
      go_wp2
      go_roundw
      case rel => exact ⟨k + 1, by omega, by go_num, by rw [HY.out]; exact HO1, HB1⟩
      case measure => simp [intOf]; omega
    have HY : Hid (out ts l t (k + 1) = out ts l t k ++ [q.s]) := HYe.out (by rw [HT.out, decide_eq_true c1, decide_eq_true c2]; rfl)
    generalize out ts l t k = K at *
    go_wp2_with (at_builtin; refine wpList_append_own _ rfl (.tmp 32) (.tmp 35) 31 rfl w.heap.size 9 i0 (.string ByteArray.empty) 1 16 Try.underlying31 hi hz0 hz1 hz2 rfl (by decide) _ _ _ rfl (World.ownsRow.alloc HO1.out _) ⟨w1.heap.size, 0, none⟩ 1 1 [.string q.s] rfl rfl ?d1 ?d2 ?d3 ?d4 ?d5 ?_)
    case d1 => exact one_cells w1 (.string q.s) 9
    case d2 => intro u hu; simp at hu; rcases hu with rfl; rfl
    case d3 => unfold maxLen; omega
    case d4 => omega
    case d5 => have := HB1.out.size; simp; omega
    intro v1 w4 hown1 hgr1 _
    have HB4 := hid ((HB1.out.alloc HB1.out.size (.cells #[.string q.s] 9)).grown hgr1 (by have := HB1.out.size; simp; omega) (fun j hj => (World.ownsRow.lt HO1.out j hj).1))
    have HO4 : Hid (OwnS w4 w.heap.size v1 (out ts l t (k + 1))) := by
      unfold Hid; rw [HY.out]; unfold OwnS; rw [List.map_append, List.length_append]; exact hown1
    clear hown1 hgr1
    go_wp2
    go_roundw
    case rel => exact ⟨k + 1, by omega, by go_num, HO4, HB4⟩
    case measure => simp [intOf]; omega

set_option maxRecDepth 20000 in
set_option maxHeartbeats 8000000 in
theorem f46 (a la : Option Addr) (n c nl lc : Nat) (t : Int) (ts : List T) (l : List Lb) (w : World) (hn : ts.length = n) (hnl : l.length = nl) (gs : goodS ts = true) (gl : goodL l = true) (hr : Has w a ts) (hrl : HasL w la l) :
    Calls Try.prog 46 #[.slice a n c, .slice la nl lc, .int .i64 t] w fun e w' => ∃ v, e = .returned v ∧ OwnS w' w.heap.size v (out ts l t n) ∧ Below w.heap.size w w' := by
  obtain ⟨i0, hi, hz0, hz1, hz2⟩ := info_parts infoS9
  have HN := hid hn
  have HNL := hid hnl
  have GX : Hid (∀ i, i < n → okS (ts.getD i t0) = true) := fun i hi => (of_decide_eq_true gs : GoodSP ts).2.1 i (by omega)
  have GL := hid gl
  have HR := hid hr
  have RL := hid hrl
  have hm : n ≤ 50 := by rw [← hn]; exact (of_decide_eq_true gs : GoodSP ts).1
  clear hn hnl gs gl hr hrl
  go_enter Try.func46, Try.ntmps46
  go_wp2
  go_loopw [7, 12] (fun so i wr => ∃ k : Nat, k ≤ n ∧ i = .int .i64 k ∧ Hid (OwnS wr w.heap.size so (out ts l t k)) ∧ Hid (Below w.heap.size w wr)) (fun _ i _ => n - (intOf i).toNat)
  case atStart => exact ⟨0, Nat.zero_le _, rfl, World.ownsRow_nil w w.heap.size 9 1, Below.refl _ _⟩
  case round =>
    obtain ⟨k, hk, rfl, HO, HB⟩ := hrel
    obtain ⟨ao, co, rfl⟩ := own_formS HO.out
    have hcl := out_len ts l t k
    by_cases hlt : k < n
    rotate_left
    · obtain rfl : k = n := by omega
      have i1 : ¬ (k : Int) < (k : Int) := by omega
      go_wp2
      go_ret
      exact ⟨_, rfl, HO.out, HB.out⟩
    obtain ⟨b, off, rfl, hbl, hc, hl⟩ := (HR.out.below HB.out).at2 k (by rw [HN.out]; exact hlt)
    obtain ⟨d0, d1, d2, d3⟩ := hc.all
    have HL := hid hl
    have G := hid (GX.out k hlt)
    have HNo : Hid (takes (ts.getD k t0) l t = false → out ts l t (k + 1) = out ts l t k) := fun h => out_no h
    have HYe : Hid (takes (ts.getD k t0) l t = true → out ts l t (k + 1) = out ts l t k ++ [(ts.getD k t0).s]) := fun h => out_yes h
    have i1 : (k : Int) < (n : Int) := by omega
    clear hc hl
    generalize ts.getD k t0 = q at *
    have g1 := okS_m G.out
    have HB0 := hid (HB.out.alloc HB.out.size (BX q))
    have HX0 := hid (heap_alloc_new wr (BX q))
    have HL0 := hid (HL.out.below ((Below.refl _ _).alloc (Nat.le_refl _) (BX q)))
    have HO0 := hid (World.ownsRow.alloc HO.out (BX q))
    have H1 := fun x a b => hid (Pat.f74 q.la la q.ls.length q.lc nl lc q.ls l (vl l) x rfl HNL.out a b g1 (Lab.good_iff GL.out) (vl_of l))
    have HT : Hid (takes q l t = (decide (q.f ≤ t) && decide (t ≤ q.t) && allM q.ls (vl l))) := rfl
    obtain ⟨W0, hW⟩ : ∃ W, W = wr.alloc (BX q) := ⟨_, rfl⟩
    rw [← hW] at HB0 HX0 HL0 HO0
    have HW := hid hW
    clear hW g1
    go_upto_region 5 with fail
    rw [← HW.out]
    clear HW d0 d1 d2 d3 HL HB HO
    generalize wr.heap.size = B at *
    generalize allM q.ls (vl l) = b1 at *
    obtain ⟨x0, x1, x2, x3⟩ := cellsN HX0.out
    go_wp2_with fail
    refine (H1 _ HL0.out.l (RL.out.below HB0.out)).out.mono ?_
    rintro e w1 ⟨rfl, hb⟩
    have HB1 := hid (HB0.out.trans (hb.mono HB0.out.size))
    have HX1 := hid (kept HX0.out hb)
    have HO1 := hid (own_below HO0.out hb)
    clear hb HB0 HX0 HL0 HO0 x0 x1 x2 x3 H1
    obtain ⟨x0, x1, x2, x3⟩ := cellsN HX1.out
    cases b1
    · have HY : Hid (out ts l t (k + 1) = out ts l t k) := HNo.out (by rw [HT.out]; simp)
      go_wp2
      go_roundw
      case rel => exact ⟨k + 1, by omega, by go_num, by rw [HY.out]; exact HO1, HB1⟩
      case measure => simp [intOf]; omega
    by_cases c1 : q.f ≤ t
    rotate_left
    · have HY : Hid (out ts l t (k + 1) = out ts l t k) := HNo.out (by rw [HT.out, decide_eq_false c1]; simp)
      have c1' : t < q.f := by omega
      clear c1
      go_wp2
      go_roundw
      case rel => exact ⟨k + 1, by omega, by go_num, by rw [HY.out]; exact HO1, HB1⟩
      case measure => simp [intOf]; omega
    by_cases c2 : t ≤ q.t
    rotate_left
    · have HY : Hid (out ts l t (k + 1) = out ts l t k) := HNo.out (by rw [HT.out, decide_eq_false c2]; simp)
      have c2' : q.t < t := by omega
      clear c2
      go_wp2
      go_roundw
      case rel => exact ⟨k + 1, by omega, by go_num, by rw [HY.out]; exact HO1, HB1⟩
      case measure => simp [intOf]; omega
    have HY : Hid (out ts l t (k + 1) = out ts l t k ++ [q.s]) := HYe.out (by rw [HT.out, decide_eq_true c1, decide_eq_true c2]; rfl)
    generalize out ts l t k = K at *
    go_wp2_with (at_builtin; refine wpList_append_own _ rfl (.tmp 32) (.tmp 35) 31 rfl w.heap.size 9 i0 (.string ByteArray.empty) 1 16 Try.underlying31 hi hz0 hz1 hz2 rfl (by decide) _ _ _ rfl (World.ownsRow.alloc HO1.out _) ⟨w1.heap.size, 0, none⟩ 1 1 [.string q.s] rfl rfl ?d1 ?d2 ?d3 ?d4 ?d5 ?_)
    case d1 => exact one_cells w1 (.string q.s) 9
    case d2 => intro u hu; simp at hu; rcases hu with rfl; rfl
    case d3 => unfold maxLen; omega
    case d4 => omega
    case d5 => have := HB1.out.size; simp; omega
    intro v1 w4 hown1 hgr1 _
    have HB4 := hid ((HB1.out.alloc HB1.out.size (.cells #[.string q.s] 9)).grown hgr1 (by have := HB1.out.size; simp; omega) (fun j hj => (World.ownsRow.lt HO1.out j hj).1))
    have HO4 : Hid (OwnS w4 w.heap.size v1 (out ts l t (k + 1))) := by
      unfold Hid; rw [HY.out]; unfold OwnS; rw [List.map_append, List.length_append]; exact hown1
    clear hown1 hgr1
    go_wp2
    go_roundw
    case rel => exact ⟨k + 1, by omega, by go_num, HO4, HB4⟩
    case measure => simp [intOf]; omega

noncomputable def slR (ts : List T) (l : List Lb) (t : Int) : List ByteArray := if (goodS ts && goodL l && isT t) = true then out ts l t ts.length else []

set_option maxHeartbeats 8000000 in
theorem f15 (a la : Option Addr) (n c nl lc : Nat) (t : Int) (ts : List T) (l : List Lb) (w : World) (hn : ts.length = n) (hnl : l.length = nl) (hb : n ≤ 1048576) (hmax : nl ≤ maxLen) (hz : Sml ts) (hf : Fit ts) (hfl : Lab.Fit l) (hr : Has w a ts) (hrl : HasL w la l) :
    Calls Try.prog 15 #[.slice a n c, .slice la nl lc, .int .i64 t] w fun e w' => ∃ v, e = .returned v ∧ OwnS w' w.heap.size v (slR ts l t) ∧ Below w.heap.size w w' := by
  have HR := hid hr
  have RL := hid hrl
  have H1 := fun x p => hid (f10 a n c ts x hn hb p hf hz)
  have H2 := fun x p => hid (Lab.f48 la nl lc l x hnl hmax p hfl)
  have H3 := fun x => hid (Nmt.f40 t x)
  have H4 := fun x p r g1 g2 => hid (f49 a la n c nl lc t ts l x hn hnl g1 g2 p r)
  have HO : Hid (slR ts l t = if (goodS ts && goodL l && isT t) = true then out ts l t n else []) := by unfold Hid; rw [← hn]; rfl
  clear hr hrl hn hnl hb hmax hz hf hfl
  generalize slR ts l t = R at *
  go_enter Try.func15, Try.ntmps15
  go_wp2_with fail
  refine (H1 _ HR.out).out.mono ?_
  rintro e w1 ⟨rfl, hb⟩
  have HB1 := hid hb
  clear hb H1
  cases hx : goodS ts
  · have HY : Hid (R = []) := by unfold Hid; rw [HO.out, hx]; simp
    clear hx
    go_wp2
    go_ret
    exact ⟨_, rfl, by rw [HY.out]; exact World.ownsRow_nil _ _ 9 1, HB1.out⟩
  have K1 := hid hx
  clear hx
  go_wp2_with fail
  refine (H2 _ (RL.out.below HB1.out)).out.mono ?_
  rintro e w2 ⟨rfl, hb⟩
  have HB2 := hid (HB1.out.trans (hb.mono HB1.out.size))
  clear hb H2 HB1
  cases hx : goodL l
  · have HY : Hid (R = []) := by unfold Hid; rw [HO.out, hx]; simp
    clear hx
    go_wp2
    go_ret
    exact ⟨_, rfl, by rw [HY.out]; exact World.ownsRow_nil _ _ 9 1, HB2.out⟩
  have K2 := hid hx
  clear hx
  go_wp2_with fail
  refine (H3 _).out.mono ?_
  rintro e w3 ⟨rfl, hw⟩
  have hb : Below w2.heap.size w2 w3 := by rw [hw]; exact Below.refl _ _
  have HB3 := hid (HB2.out.trans (hb.mono HB2.out.size))
  clear hb hw H3 HB2
  cases hx : isT t
  · have HY : Hid (R = []) := by unfold Hid; rw [HO.out, hx]; simp
    clear hx
    go_wp2
    go_ret
    exact ⟨_, rfl, by rw [HY.out]; exact World.ownsRow_nil _ _ 9 1, HB3.out⟩
  have HY : Hid (R = out ts l t n) := by unfold Hid; rw [HO.out, K1.out, K2.out, hx]; simp
  clear hx
  go_wp2_with fail
  refine (H4 _ (HR.out.below HB3.out) (RL.out.below HB3.out) K1.out K2.out).out.mono ?_
  rintro e w4 ⟨v, rfl, ho, hb⟩
  have HB4 := hid (HB3.out.trans (hb.mono HB3.out.size))
  have HO4 := hid (own_base ho HB3.out.size)
  clear hb ho
  go_wp2
  go_ret
  exact ⟨_, rfl, by rw [HY.out]; exact HO4.out, HB4.out⟩

set_option maxHeartbeats 8000000 in
theorem f13 (a la : Option Addr) (n c nl lc : Nat) (t : Int) (ts : List T) (l : List Lb) (w : World) (hn : ts.length = n) (hnl : l.length = nl) (hb : n ≤ 1048576) (hmax : nl ≤ maxLen) (hz : Sml ts) (hf : Fit ts) (hfl : Lab.Fit l) (hr : Has w a ts) (hrl : HasL w la l) :
    Calls Try.prog 13 #[.slice a n c, .slice la nl lc, .int .i64 t] w fun e w' => ∃ v, e = .returned v ∧ OwnS w' w.heap.size v (slR ts l t) ∧ Below w.heap.size w w' := by
  have HR := hid hr
  have RL := hid hrl
  have H1 := fun x p => hid (f8 a n c ts x hn hb p hf hz)
  have H2 := fun x p => hid (Lab.f45 la nl lc l x hnl hmax p hfl)
  have H3 := fun x => hid (Nmt.f35 t x)
  have H4 := fun x p r g1 g2 => hid (f46 a la n c nl lc t ts l x hn hnl g1 g2 p r)
  have HO : Hid (slR ts l t = if (goodS ts && goodL l && isT t) = true then out ts l t n else []) := by unfold Hid; rw [← hn]; rfl
  clear hr hrl hn hnl hb hmax hz hf hfl
  generalize slR ts l t = R at *
  go_enter Try.func13, Try.ntmps13
  go_wp2_with fail
  refine (H1 _ HR.out).out.mono ?_
  rintro e w1 ⟨rfl, hb⟩
  have HB1 := hid hb
  clear hb H1
  cases hx : goodS ts
  · have HY : Hid (R = []) := by unfold Hid; rw [HO.out, hx]; simp
    clear hx
    go_wp2
    go_ret
    exact ⟨_, rfl, by rw [HY.out]; exact World.ownsRow_nil _ _ 9 1, HB1.out⟩
  have K1 := hid hx
  clear hx
  go_wp2_with fail
  refine (H2 _ (RL.out.below HB1.out)).out.mono ?_
  rintro e w2 ⟨rfl, hb⟩
  have HB2 := hid (HB1.out.trans (hb.mono HB1.out.size))
  clear hb H2 HB1
  cases hx : goodL l
  · have HY : Hid (R = []) := by unfold Hid; rw [HO.out, hx]; simp
    clear hx
    go_wp2
    go_ret
    exact ⟨_, rfl, by rw [HY.out]; exact World.ownsRow_nil _ _ 9 1, HB2.out⟩
  have K2 := hid hx
  clear hx
  go_wp2_with fail
  refine (H3 _).out.mono ?_
  rintro e w3 ⟨rfl, hw⟩
  have hb : Below w2.heap.size w2 w3 := by rw [hw]; exact Below.refl _ _
  have HB3 := hid (HB2.out.trans (hb.mono HB2.out.size))
  clear hb hw H3 HB2
  cases hx : isT t
  · have HY : Hid (R = []) := by unfold Hid; rw [HO.out, hx]; simp
    clear hx
    go_wp2
    go_ret
    exact ⟨_, rfl, by rw [HY.out]; exact World.ownsRow_nil _ _ 9 1, HB3.out⟩
  have HY : Hid (R = out ts l t n) := by unfold Hid; rw [HO.out, K1.out, K2.out, hx]; simp
  clear hx
  go_wp2_with fail
  refine (H4 _ (HR.out.below HB3.out) (RL.out.below HB3.out) K1.out K2.out).out.mono ?_
  rintro e w4 ⟨v, rfl, ho, hb⟩
  have HB4 := hid (HB3.out.trans (hb.mono HB3.out.size))
  have HO4 := hid (own_base ho HB3.out.size)
  clear hb ho
  go_wp2
  go_ret
  exact ⟨_, rfl, by rw [HY.out]; exact HO4.out, HB4.out⟩
end Go.Proofs.Ytikepmikjakciaa.Sln
