/- The model's l13Behind, l13Dedup2, l13Dedup; both DedupSamples. -/
import Derived.Test.YtfmijboakipooaaDdc
namespace Go.Proofs.Ytfmijboakipooaa.Smp
open Go.RowKit

/-- The first one behind a time. -/
def bhT (t : Int) (ls : List Sm) : Sm × Bool := match bh t ls with | [] => (e0, false) | p :: _ => (p, true)
theorem bhT_no {t : Int} {ls : List Sm} (h : (bhT t ls).2 = false) : bh t ls = [] := by
  unfold bhT at h
  cases hb : bh t ls with
  | nil => rfl
  | cons p G => rw [hb] at h; cases h
theorem bhT_yes {t : Int} {ls : List Sm} (h : (bhT t ls).2 = true) : ∃ G, bh t ls = (bhT t ls).1 :: G := by
  unfold bhT at h ⊢
  cases hb : bh t ls with
  | nil => rw [hb] at h; cases h
  | cons p G => exact ⟨G, rfl⟩

set_option maxHeartbeats 4000000 in
theorem f53 (a : Option Addr) (c : Nat) (ls : List Sm) (t : Int) (w : World) (h20 : ls.length ≤ 1048576) (hr : HasS w a ls) :
    Calls Try.prog 53 #[.slice a ls.length c, .int .i64 t] w fun e w' => e = .returned (.tuple #[.agg #[.int .i64 (bhT t ls).1.1, .int .i64 (bhT t ls).1.2], .bool (bhT t ls).2]) ∧ Below w.heap.size w w' := by
  have HB0 := hid ((Below.refl w.heap.size w).alloc (Nat.le_refl _) (.cells #[.int .i64 0, .int .i64 0] 30))
  have HX0 := hid (heap_alloc_new w (.cells #[.int .i64 0, .int .i64 0] 30))
  generalize hn : ls.length = n at *
  have HN := hid hn
  clear hn
  go_enter Try.func53, Try.ntmps53
  go_wp2
  go_loopw [10] (fun si wr => ∃ k : Nat, k ≤ n ∧ si = .int .i64 k ∧ Hid (bh t ls = bh t (ls.drop k)) ∧ Hid (wr.heap[w.heap.size]? = some (.cells #[.int .i64 0, .int .i64 0] 30 (0, 0))) ∧ Hid (Below w.heap.size w wr)) (fun si _ => n - (intOf si).toNat)
  case atStart => exact ⟨0, Nat.zero_le _, rfl, rfl, HX0.out, HB0.out⟩
  case round =>
    obtain ⟨k, hk, rfl, HU, HX, HB⟩ := hrel
    clear HX0 HB0
    by_cases hlt : k < n
    · rcases hr with hr | ⟨ba, oa, rfl, hba, hca⟩
      · exact absurd HN.out (by rw [hr]; simp; omega)
      obtain ⟨c0, c1⟩ := hca k (by rw [HN.out]; exact hlt)
      have HDR := hid (drop_cons (by rw [HN.out]; exact hlt : k < ls.length))
      have d0 := (HB.out.cell (p := ⟨ba, oa + k * 2, none⟩) hba).trans c0
      have d1 := (HB.out.cell (p := ⟨ba, oa + k * 2 + 1, none⟩) hba).trans c1
      have i1 : (k : Int) < (n : Int) := by omega
      clear c0 c1 hca
      generalize ls.getD k e0 = p at *
      obtain ⟨s, v⟩ := p
      simp only at d0 d1
      have HXA := hid (box_alloc HX.out (.cells #[.int .i64 s, .int .i64 v] 30))
      have HBA := hid (HB.out.alloc HB.out.size (.cells #[.int .i64 s, .int .i64 v] 30))
      have HYA := hid (heap_alloc_new wr (.cells #[.int .i64 s, .int .i64 v] 30))
      by_cases h1 : t < s
      · have HE : Hid (bhT t ls = ((s, v), true)) := by
          unfold Hid bhT; rw [HU.out, HDR.out, bh_stop (by show ¬ s ≤ t; omega)]
        go_upto_region 5 with fail
        generalize wr.alloc (.cells #[.int .i64 s, .int .i64 v] 30) = W at *
        have x0 := two0 HXA.out
        have x1 := two1 HXA.out
        have f0 := twof (o := 0) HXA.out rfl
        have f1 := twof (o := 1) HXA.out rfl
        have y0 := two0 HYA.out
        have y1 := two1 HYA.out
        have z0 := two0 (two_set (.int .i64 s) (.int .i64 v) HXA.out)
        have z1 := two1 (two_set (.int .i64 s) (.int .i64 v) HXA.out)
        have Z0 := hid z0
        have Z1 := hid z1
        clear z0 z1
        go_wp2
        refine bodyPost_ret (v := tupS ((s, v), true)) (by simp [results, Try.results53, go_sem, Z0.out, Z1.out, tupS]) rfl ⟨by rw [HE.out]; rfl, below_two _ _ HBA.out⟩
      · have HU2 : Hid (bh t ls = bh t (ls.drop (k + 1))) := by
          unfold Hid; rw [HU.out, HDR.out, bh_go (by show s ≤ t; omega)]
        go_wp2
        go_roundw
        case rel => exact ⟨k + 1, by omega, by go_num, HU2.out, HXA.out, HBA.out⟩
        case measure => simp [intOf]; omega
    · have i1 : ¬ (k : Int) < (n : Int) := by omega
      have HE : Hid (bhT t ls = (e0, false)) := by
        unfold Hid bhT; rw [HU.out, List.drop_eq_nil_of_le (by rw [HN.out]; omega)]; rfl
      have x0 := two0 HX.out
      have x1 := two1 HX.out
      have f0 := twof (o := 0) HX.out rfl
      have f1 := twof (o := 1) HX.out rfl
      have Z0 := hid (two0 (two_set (.int .i64 0) (.int .i64 0) HX.out))
      have Z1 := hid (two1 (two_set (.int .i64 0) (.int .i64 0) HX.out))
      go_wp2
      refine bodyPost_ret (v := tupS (e0, false)) (by simp [results, Try.results53, go_sem, Z0.out, Z1.out, tupS, e0]) rfl ⟨by rw [HE.out]; rfl, below_two _ _ HB.out⟩

theorem f47n (a : Option Addr) (c : Nat) (L : List Sm) (w : World) (h20 : L.length ≤ 1048576) (hr : HasS w a L) (hna : a = none → L = []) :
    Calls Try.prog 47 #[.slice a L.length c] w fun e w' => ∃ v', e = .returned v' ∧ Own w' w.heap.size v' L ∧ Below w.heap.size w w' := by
  obtain ⟨i0, hi, hz0, hz1, hz2⟩ := info_parts infoS
  cases a with
  | none =>
    obtain rfl := hna rfl
    go_enter Try.func47, Try.ntmps47
    go_wp2
    go_ret
    exact ⟨_, rfl, Own.nil _ _, Below.refl _ _⟩
  | some ad =>
    have HN : Hid (∀ j u, (flat L)[j]? = some u → w.cell? (ad.add j) = some u) := by
      intro j u hj
      rcases hr with h | ⟨bb, ob, hbo, hb, hc⟩
      · rw [h] at hj; simp [flat] at hj
      · simp only [Option.some.injEq] at hbo
        subst hbo
        exact flat_cells (.inr ⟨bb, ob, rfl, hb, hc⟩) j u hj
    have H1 := hid (flat_oneCell L)
    clear hr
    go_enter Try.func47, Try.ntmps47
    go_wp2_with (at_builtin; refine wpList_append_own _ rfl (.tmp 4) (.tmp 5) 23 rfl w.heap.size 30 i0 (.agg #[.int .i64 0, .int .i64 0]) 2 16 Try.underlying23 hi hz0 hz1 hz2 rfl (by decide) _ _ _ rfl (World.ownsRow_nil w w.heap.size 30 2) ad L.length c (flat L) rfl (flat_len L) HN.out H1.out ?d3 ?d4 ?d5 ?_)
    case d3 => unfold maxLen; omega
    case d4 => omega
    case d5 => exact Nat.le_refl _
    intro v1 w3 hown1 hgr1 _
    go_wp2
    go_ret
    refine ⟨v1, rfl, ?_, ?_⟩
    · unfold Own; simpa using hown1
    · exact (Below.refl _ w).grown hgr1 (Nat.le_refl _) (by intro k hk; simp [Value.ownBlock] at hk)

theorem own_one (w : World) (s v : Int) : Own (w.alloc (.cells #[.int .i64 s, .int .i64 v] 30)) w.heap.size (.slice (some ⟨w.heap.size, 0, none⟩) 1 1) [(s, v)] := ⟨rfl, .inr ⟨w.heap.size, 1, #[.int .i64 s, .int .i64 v], rfl, Nat.le_refl _, heap_alloc_new w _, Nat.le_refl _, by unfold maxLen; omega, rfl, rfl⟩⟩
/-- The state of l13Dedup2. -/
def Dd2 (w : World) (T : List Sm) (gap : Int) (O : List Sm) (s0 s1 : Value) : Prop := ∃ (A B : List Sm) (a1 a2 : Option Addr) (c1 c2 : Nat), s0 = .slice a1 A.length c1 ∧ s1 = .slice a2 B.length c2 ∧ Tml A ∧ Tml B ∧ HasS w a1 A ∧ HasS w a2 B ∧ T = O ++ D gap (lastS O).1 (bh (lastS O).1 A) (bh (lastS O).1 B)
theorem dd2_stay {gap l : Int} {A B G : List Sm} {p : Sm} (h : bh l A = p :: G) (hs : sw gap l (p :: G) (bh l B) = false) : D gap l (bh l A) (bh l B) = p :: D gap p.1 (bh p.1 A) (bh p.1 B) := by
  have hp := bh_head h
  have h1 := D_stay hs
  rw [← h, bh_bh (by omega), bh_bh (by omega)] at h1
  exact h1
theorem dd2_swap {gap l : Int} {A B G : List Sm} {p : Sm} (h : bh l B = p :: G) (hs : sw gap l (bh l A) (p :: G) = true) : D gap l (bh l A) (bh l B) = p :: D gap p.1 (bh p.1 B) (bh p.1 A) := by
  have hp := bh_head h
  have h1 := D_swap hs
  rw [← h, bh_bh (by omega), bh_bh (by omega)] at h1
  exact h1

set_option maxHeartbeats 8000000 in
set_option maxRecDepth 100000 in
theorem f48 (a b : Option Addr) (c d : Nat) (xs ys : List Sm) (gap : Int) (w : World) (hx : Tml xs) (hy : Tml ys) (hr : HasS w a xs) (hs : HasS w b ys) (hp : 0 < xs.length) (hg0 : 0 ≤ gap) (hg1 : gap ≤ 1000000) (T : List Sm) (hT : T = xs.getD 0 e0 :: D gap (xs.getD 0 e0).1 (bh (xs.getD 0 e0).1 xs) (bh (xs.getD 0 e0).1 ys)) (hTl : T.length ≤ 2097152) :
    Calls Try.prog 48 #[.slice a xs.length c, .slice b ys.length d, .int .i64 gap] w fun e w' => ∃ v, e = .returned v ∧ Own w' w.heap.size v T ∧ Below w.heap.size w w' := by
  obtain ⟨i0, hi, hz0, hz1, hz2⟩ := info_parts infoS
  obtain ⟨ba, oa, rfl, hba, x0, x1⟩ := has_first hr hp
  have HT := hid hT
  have HTL := hid hTl
  have tp : TimeP (xs.getD 0 e0).1 := hx.at hp
  generalize hpp : xs.getD 0 e0 = p at *
  obtain ⟨s, v⟩ := p
  simp only at x0 x1 tp
  have HI : Hid (Dd2 w T gap [(s, v)] (.slice (some ⟨ba, oa, none⟩) xs.length c) (.slice b ys.length d)) := ⟨xs, ys, _, b, c, d, rfl, rfl, hx, hy, hr, hs, by rw [HT.out]; rfl⟩
  have HO0 : Hid (Own (w.alloc (.cells #[.int .i64 s, .int .i64 v] 30)) w.heap.size (.slice (some ⟨w.heap.size, 0, none⟩) 1 1) [(s, v)]) := own_one w s v
  have HB0 := hid ((Below.refl w.heap.size w).alloc (Nat.le_refl _) (.cells #[.int .i64 s, .int .i64 v] 30))
  have hp' : (0 : Int) < (xs.length : Int) := by omega
  generalize xs.length = n at *
  generalize ys.length = m at *
  clear hpp hx hy hr hs hT hTl
  go_enter Try.func48, Try.ntmps48
  go_wp2_with fail
  go_loopw [0, 1, 7] (fun s0 s1 so wr => ∃ O : List Sm, O ≠ [] ∧ TimeP (lastS O).1 ∧ Own wr w.heap.size so O ∧ Hid (Dd2 w T gap O s0 s1) ∧ Hid (Below w.heap.size w wr)) (fun _ _ so _ => T.length - lenOf so)
  case atStart => exact ⟨[(s, v)], by simp, tp, HO0.out, HI.out, HB0.out⟩
  case round =>
    obtain ⟨O, hO, tl, hown, hdi, HX⟩ := hrel
    obtain ⟨A, B, a1, a2, c1, c2, rfl, rfl, hA, hB, hra, hrb, hTe⟩ := hdi.out
    have HO := hid hown
    obtain ⟨ao, co, rfl⟩ := own_form hown
    have hpos : 0 < O.length := by cases O with | nil => exact absurd rfl hO | cons => simp
    obtain ⟨bo, oo, rfl, _, l0, _⟩ := has_last hown.has.2 hpos
    have HOL : Hid (O.length + 1 ≤ 2097153) := by
      have h1 := HTL.out
      have h2 := congrArg List.length hTe
      simp at h2
      unfold Hid; omega
    have HRA := hid hra
    have HRB := hid hrb
    have HTA := hid hA
    have HTB := hid hB
    have HTE := hid hTe
    clear HI HO0 HB0 hdi hown hra hrb hA hB hTe x0 x1
    generalize hl : (lastS O).1 = l at *
    have HL := hid hl
    have hl0 : 0 ≤ l := tl.1
    have hl1 : l ≤ 1000000000000 := tl.2
    have hk : ((O.length : Int) - 1) = ((O.length - 1 : Nat) : Int) := by omega
    have i1 : ((O.length - 1 : Nat) : Int) < (O.length : Int) := by omega
    have hmm : O.length - 1 ≤ 2097152 := by have := HOL.out; omega
    generalize hm : O.length - 1 = mm at *
    clear hl hm hO tl
    go_wp2_with fail
    refine (f53 a1 c1 A l _ HTA.out.1 (HRA.out.below HX.out)).mono ?_
    rintro e w1 ⟨rfl, hb1⟩
    have HX1 := hid (HX.out.trans (hb1.mono HX.out.size))
    have HO1 := hid (HO.out.below hb1)
    have HNX := hid (bhT_no (t := l) (ls := A))
    have HYX := hid (bhT_yes (t := l) (ls := A))
    generalize bhT l A = X at *
    obtain ⟨⟨x, xv⟩, ok⟩ := X
    simp only at HNX HYX
    clear hb1 l0
    have HBX := hid (heap_alloc_new w1 (.cells #[.int .i64 x, .int .i64 xv] 30))
    have HXA := hid (HX1.out.alloc HX1.out.size (.cells #[.int .i64 x, .int .i64 xv] 30))
    have HOA : Hid (Own (w1.alloc (.cells #[.int .i64 x, .int .i64 xv] 30)) w.heap.size (.slice (some ⟨bo, oo, none⟩) O.length co) O) := World.ownsRow.alloc HO1.out _
    go_wp2_with fail
    refine (f53 a2 c2 B l _ HTB.out.1 (HRB.out.below HXA.out)).mono ?_
    rintro e w2 ⟨rfl, hb2⟩
    have HX2 := hid (HXA.out.trans (hb2.mono HXA.out.size))
    have HO2 := hid (HOA.out.below hb2)
    have HBX2 := hid (box_below HBX.out hb2)
    have HNY := hid (bhT_no (t := l) (ls := B))
    have HYY := hid (bhT_yes (t := l) (ls := B))
    generalize bhT l B = Y at *
    obtain ⟨⟨y, yv⟩, there⟩ := Y
    simp only at HNY HYY
    have l12 : w1.heap.size < w2.heap.size := (Array.getElem?_eq_some_iff.1 HBX2.out).1
    have HBY := hid (heap_alloc_new w2 (.cells #[.int .i64 y, .int .i64 yv] 30))
    have HBX3 := hid (box_alloc HBX2.out (.cells #[.int .i64 y, .int .i64 yv] 30))
    have HX3 := hid (HX2.out.alloc HX2.out.size (.cells #[.int .i64 y, .int .i64 yv] 30))
    have HO3 : Hid (Own (w2.alloc (.cells #[.int .i64 y, .int .i64 yv] 30)) w.heap.size (.slice (some ⟨bo, oo, none⟩) O.length co) O) := World.ownsRow.alloc HO2.out _
    have HNE : Hid (bo < w1.heap.size) := (World.ownsRow.lt HO1.out bo rfl).2
    have HW1 := hid HX1.out.size
    clear hb2 HBX HBX2 HXA HOA HX2 HO2 HX HO HX1 HO1
    go_upto_region 5 with fail
    generalize w2.alloc (.cells #[.int .i64 y, .int .i64 yv] 30) = W at *
    have p0 := two0 HBX3.out
    have p1 := two1 HBX3.out
    have f0 := twof (o := 0) HBX3.out rfl
    have f1 := twof (o := 1) HBX3.out rfl
    have q0 := two0 HBY.out
    have q1 := two1 HBY.out
    generalize w1.heap.size = S9 at *
    generalize w2.heap.size = S11 at *
    cases ok with
    | false =>
      cases there with
      | false =>
        have HF : Hid (T = O) := by
          unfold Hid; rw [HTE.out, HNX.out rfl, HNY.out rfl, D_nil, List.append_nil]
        go_wp2
        go_ret
        exact ⟨_, rfl, by rw [HF.out]; exact HO3.out, HX3.out⟩
      | true =>
        obtain ⟨G, hG⟩ := HYY.out rfl
        have HSW : Hid (sw gap l (bh l A) ((y, yv) :: G) = true) := by unfold Hid; rw [HNX.out rfl]; simp [sw]
        have HTM : Hid (TimeP y) := HTB.out.2 (y, yv) (bh_mem (by rw [hG]; exact List.mem_cons_self))
        have HTF : Hid (T = (O ++ [(y, yv)]) ++ D gap y (bh y B) (bh y A)) := by
          unfold Hid; rw [HTE.out, dd2_swap hG HSW.out, List.append_assoc]; rfl
        clear hG
        go_upto_region 9 with fail
        have HGW := hid (grown_setRow (o := 1) (grown_setRow (o := 0) (w := W) (g := S9) ⟨rfl, rfl, rfl, Nat.le_refl _, fun _ _ _ => rfl⟩ (.int .i64 y)) (.int .i64 yv))
        have HBW := hid (two_set (.int .i64 y) (.int .i64 yv) HBX3.out)
        generalize ((W.setCell ⟨S9, 0, none⟩ (.int .i64 y)).setCell ⟨S9, 1, none⟩ (.int .i64 yv)) = V at *
        have HXV : Hid (Below w.heap.size w V) := below_grown HX3.out HGW.out HX3.out.size HW1.out
        have HOV : Hid (Own V w.heap.size (.slice (some ⟨bo, oo, none⟩) O.length co) O) := Own.kept HO3.out HGW.out (fun g hg e => by have h1 := Option.some.inj hg; have h2 := Option.some.inj e; have h3 := HNE.out; simp at h1; omega)
        clear p0 p1 f0 f1 q0 q1 HGW
        have p0 := two0 HBW.out
        have p1 := two1 HBW.out
        go_wp2_with (at_builtin; refine wpList_append_own _ rfl (.tmp 66) (.tmp 68) 23 rfl w.heap.size 30 i0 (.agg #[.int .i64 0, .int .i64 0]) 2 16 Try.underlying23 hi hz0 hz1 hz2 rfl (by decide) _ _ _ rfl (World.ownsRow.alloc HOV.out _) ⟨V.heap.size, 0, none⟩ 1 1 [.int .i64 y, .int .i64 yv] rfl rfl ?d1x ?d2x ?d3x ?d4x ?d5x ?_)
        try (case d1x => exact two_new _ _ _ _)
        case d2x => first | exact ⟨rfl, rfl⟩ | (intro u hu; simp at hu; rcases hu with rfl | rfl <;> rfl)
        case d3x => have := HOL.out; unfold maxLen; omega
        case d4x => have := HOL.out; omega
        case d5x => have := HXV.out.size; simp; omega
        intro v1 w3 hown1 hgr1 _
        have HOF := hid (Own.snoc (p := (y, yv)) hown1)
        have HXF := hid ((HXV.out.alloc HXV.out.size (.cells #[.int .i64 y, .int .i64 yv] 30)).grown hgr1 (by have := HXV.out.size; simp; omega) (fun k hk => (World.ownsRow.lt HOV.out k hk).1))
        obtain ⟨a1', c1', rfl⟩ := own_form hown1
        clear hown1 hgr1
        go_wp2
        go_roundw
        case rel => exact ⟨O ++ [(y, yv)], by simp, by rw [lastS_append]; exact HTM.out, HOF.out, ⟨B, A, a2, a1, c2, c1, rfl, rfl, HTB.out, HTA.out, HRB.out, HRA.out, by rw [lastS_append]; exact HTF.out⟩, HXF.out⟩
        case measure =>
          have h2 := congrArg List.length HTF.out
          simp at h2
          simp [lenOf]
          omega
    | true =>
      by_cases h1 : l + gap < x
      · cases there with
        | false =>
          obtain ⟨G, hG⟩ := HYX.out rfl
          have HSW : Hid (sw gap l ((x, xv) :: G) (bh l B) = false) := by unfold Hid; rw [HNY.out rfl]; simp [sw]
          have HTM : Hid (TimeP x) := HTA.out.2 (x, xv) (bh_mem (by rw [hG]; exact List.mem_cons_self))
          have HTF : Hid (T = (O ++ [(x, xv)]) ++ D gap x (bh x A) (bh x B)) := by
            unfold Hid; rw [HTE.out, dd2_stay hG HSW.out, List.append_assoc]; rfl
          clear hG
          go_wp2_with (at_builtin; refine wpList_append_own _ rfl (.tmp 66) (.tmp 68) 23 rfl w.heap.size 30 i0 (.agg #[.int .i64 0, .int .i64 0]) 2 16 Try.underlying23 hi hz0 hz1 hz2 rfl (by decide) _ _ _ rfl (World.ownsRow.alloc HO3.out _) ⟨W.heap.size, 0, none⟩ 1 1 [.int .i64 x, .int .i64 xv] rfl rfl ?d1y ?d2y ?d3y ?d4y ?d5y ?_)
          try (case d1y => exact two_new _ _ _ _)
          case d2y => first | exact ⟨rfl, rfl⟩ | (intro u hu; simp at hu; rcases hu with rfl | rfl <;> rfl)
          case d3y => have := HOL.out; unfold maxLen; omega
          case d4y => have := HOL.out; omega
          case d5y => have := HX3.out.size; simp; omega
          intro v1 w3 hown1 hgr1 _
          have HOF := hid (Own.snoc (p := (x, xv)) hown1)
          have HXF := hid ((HX3.out.alloc HX3.out.size (.cells #[.int .i64 x, .int .i64 xv] 30)).grown hgr1 (by have := HX3.out.size; simp; omega) (fun k hk => (World.ownsRow.lt HO3.out k hk).1))
          obtain ⟨a1', c1', rfl⟩ := own_form hown1
          clear hown1 hgr1
          go_wp2
          go_roundw
          case rel => exact ⟨O ++ [(x, xv)], by simp, by rw [lastS_append]; exact HTM.out, HOF.out, ⟨A, B, a1, a2, c1, c2, rfl, rfl, HTA.out, HTB.out, HRA.out, HRB.out, by rw [lastS_append]; exact HTF.out⟩, HXF.out⟩
          case measure =>
            have h2 := congrArg List.length HTF.out
            simp at h2
            simp [lenOf]
            omega
        | true =>
          by_cases h2 : y < x
          · obtain ⟨G, hG⟩ := HYY.out rfl
            have HSW : Hid (sw gap l (bh l A) ((y, yv) :: G) = true) := by unfold Hid; obtain ⟨G2, hG2⟩ := HYX.out rfl; rw [hG2]; simp [sw, h2]; omega
            have HTM : Hid (TimeP y) := HTB.out.2 (y, yv) (bh_mem (by rw [hG]; exact List.mem_cons_self))
            have HTF : Hid (T = (O ++ [(y, yv)]) ++ D gap y (bh y B) (bh y A)) := by
              unfold Hid; rw [HTE.out, dd2_swap hG HSW.out, List.append_assoc]; rfl
            clear hG
            go_upto_region 9 with fail
            have HGW := hid (grown_setRow (o := 1) (grown_setRow (o := 0) (w := W) (g := S9) ⟨rfl, rfl, rfl, Nat.le_refl _, fun _ _ _ => rfl⟩ (.int .i64 y)) (.int .i64 yv))
            have HBW := hid (two_set (.int .i64 y) (.int .i64 yv) HBX3.out)
            generalize ((W.setCell ⟨S9, 0, none⟩ (.int .i64 y)).setCell ⟨S9, 1, none⟩ (.int .i64 yv)) = V at *
            have HXV : Hid (Below w.heap.size w V) := below_grown HX3.out HGW.out HX3.out.size HW1.out
            have HOV : Hid (Own V w.heap.size (.slice (some ⟨bo, oo, none⟩) O.length co) O) := Own.kept HO3.out HGW.out (fun g hg e => by have h1 := Option.some.inj hg; have h2 := Option.some.inj e; have h3 := HNE.out; simp at h1; omega)
            clear p0 p1 f0 f1 q0 q1 HGW
            have p0 := two0 HBW.out
            have p1 := two1 HBW.out
            go_wp2_with (at_builtin; refine wpList_append_own _ rfl (.tmp 66) (.tmp 68) 23 rfl w.heap.size 30 i0 (.agg #[.int .i64 0, .int .i64 0]) 2 16 Try.underlying23 hi hz0 hz1 hz2 rfl (by decide) _ _ _ rfl (World.ownsRow.alloc HOV.out _) ⟨V.heap.size, 0, none⟩ 1 1 [.int .i64 y, .int .i64 yv] rfl rfl ?d1z ?d2z ?d3z ?d4z ?d5z ?_)
            try (case d1z => exact two_new _ _ _ _)
            case d2z => first | exact ⟨rfl, rfl⟩ | (intro u hu; simp at hu; rcases hu with rfl | rfl <;> rfl)
            case d3z => have := HOL.out; unfold maxLen; omega
            case d4z => have := HOL.out; omega
            case d5z => have := HXV.out.size; simp; omega
            intro v1 w3 hown1 hgr1 _
            have HOF := hid (Own.snoc (p := (y, yv)) hown1)
            have HXF := hid ((HXV.out.alloc HXV.out.size (.cells #[.int .i64 y, .int .i64 yv] 30)).grown hgr1 (by have := HXV.out.size; simp; omega) (fun k hk => (World.ownsRow.lt HOV.out k hk).1))
            obtain ⟨a1', c1', rfl⟩ := own_form hown1
            clear hown1 hgr1
            go_wp2
            go_roundw
            case rel => exact ⟨O ++ [(y, yv)], by simp, by rw [lastS_append]; exact HTM.out, HOF.out, ⟨B, A, a2, a1, c2, c1, rfl, rfl, HTB.out, HTA.out, HRB.out, HRA.out, by rw [lastS_append]; exact HTF.out⟩, HXF.out⟩
            case measure =>
              have h2 := congrArg List.length HTF.out
              simp at h2
              simp [lenOf]
              omega
          · obtain ⟨G, hG⟩ := HYX.out rfl
            have HSW : Hid (sw gap l ((x, xv) :: G) (bh l B) = false) := by unfold Hid; obtain ⟨G2, hG2⟩ := HYY.out rfl; rw [hG2]; simp [sw]; intro _; omega
            have HTM : Hid (TimeP x) := HTA.out.2 (x, xv) (bh_mem (by rw [hG]; exact List.mem_cons_self))
            have HTF : Hid (T = (O ++ [(x, xv)]) ++ D gap x (bh x A) (bh x B)) := by
              unfold Hid; rw [HTE.out, dd2_stay hG HSW.out, List.append_assoc]; rfl
            clear hG
            go_wp2_with (at_builtin; refine wpList_append_own _ rfl (.tmp 66) (.tmp 68) 23 rfl w.heap.size 30 i0 (.agg #[.int .i64 0, .int .i64 0]) 2 16 Try.underlying23 hi hz0 hz1 hz2 rfl (by decide) _ _ _ rfl (World.ownsRow.alloc HO3.out _) ⟨W.heap.size, 0, none⟩ 1 1 [.int .i64 x, .int .i64 xv] rfl rfl ?d1u ?d2u ?d3u ?d4u ?d5u ?_)
            try (case d1u => exact two_new _ _ _ _)
            case d2u => first | exact ⟨rfl, rfl⟩ | (intro u hu; simp at hu; rcases hu with rfl | rfl <;> rfl)
            case d3u => have := HOL.out; unfold maxLen; omega
            case d4u => have := HOL.out; omega
            case d5u => have := HX3.out.size; simp; omega
            intro v1 w3 hown1 hgr1 _
            have HOF := hid (Own.snoc (p := (x, xv)) hown1)
            have HXF := hid ((HX3.out.alloc HX3.out.size (.cells #[.int .i64 x, .int .i64 xv] 30)).grown hgr1 (by have := HX3.out.size; simp; omega) (fun k hk => (World.ownsRow.lt HO3.out k hk).1))
            obtain ⟨a1', c1', rfl⟩ := own_form hown1
            clear hown1 hgr1
            go_wp2
            go_roundw
            case rel => exact ⟨O ++ [(x, xv)], by simp, by rw [lastS_append]; exact HTM.out, HOF.out, ⟨A, B, a1, a2, c1, c2, rfl, rfl, HTA.out, HTB.out, HRA.out, HRB.out, by rw [lastS_append]; exact HTF.out⟩, HXF.out⟩
            case measure =>
              have h2 := congrArg List.length HTF.out
              simp at h2
              simp [lenOf]
              omega
      · obtain ⟨G, hG⟩ := HYX.out rfl
        have HSW : Hid (sw gap l ((x, xv) :: G) (bh l B) = false) := by unfold Hid; simp [sw]; intro _ h; omega
        have HTM : Hid (TimeP x) := HTA.out.2 (x, xv) (bh_mem (by rw [hG]; exact List.mem_cons_self))
        have HTF : Hid (T = (O ++ [(x, xv)]) ++ D gap x (bh x A) (bh x B)) := by
          unfold Hid; rw [HTE.out, dd2_stay hG HSW.out, List.append_assoc]; rfl
        clear hG
        go_wp2_with (at_builtin; refine wpList_append_own _ rfl (.tmp 66) (.tmp 68) 23 rfl w.heap.size 30 i0 (.agg #[.int .i64 0, .int .i64 0]) 2 16 Try.underlying23 hi hz0 hz1 hz2 rfl (by decide) _ _ _ rfl (World.ownsRow.alloc HO3.out _) ⟨W.heap.size, 0, none⟩ 1 1 [.int .i64 x, .int .i64 xv] rfl rfl ?d1v ?d2v ?d3v ?d4v ?d5v ?_)
        try (case d1v => exact two_new _ _ _ _)
        case d2v => first | exact ⟨rfl, rfl⟩ | (intro u hu; simp at hu; rcases hu with rfl | rfl <;> rfl)
        case d3v => have := HOL.out; unfold maxLen; omega
        case d4v => have := HOL.out; omega
        case d5v => have := HX3.out.size; simp; omega
        intro v1 w3 hown1 hgr1 _
        have HOF := hid (Own.snoc (p := (x, xv)) hown1)
        have HXF := hid ((HX3.out.alloc HX3.out.size (.cells #[.int .i64 x, .int .i64 xv] 30)).grown hgr1 (by have := HX3.out.size; simp; omega) (fun k hk => (World.ownsRow.lt HO3.out k hk).1))
        obtain ⟨a1', c1', rfl⟩ := own_form hown1
        clear hown1 hgr1
        go_wp2
        go_roundw
        case rel => exact ⟨O ++ [(x, xv)], by simp, by rw [lastS_append]; exact HTM.out, HOF.out, ⟨A, B, a1, a2, c1, c2, rfl, rfl, HTA.out, HTB.out, HRA.out, HRB.out, by rw [lastS_append]; exact HTF.out⟩, HXF.out⟩
        case measure =>
          have h2 := congrArg List.length HTF.out
          simp at h2
          simp [lenOf]
          omega
end Go.Proofs.Ytfmijboakipooaa.Smp
