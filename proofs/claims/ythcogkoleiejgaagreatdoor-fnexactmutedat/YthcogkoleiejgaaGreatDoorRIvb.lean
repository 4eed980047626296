/- Intervals: opened; what szInterval, toInterval and eqInterval come to. -/
import Derived.Test.YthcogkoleiejgaaGreatDoorRIva
import Derived.Test.YthcogkoleiejgaaGreatDoorRIno
import Derived.Deep.SlicePairs
import Derived.Deep.Fields
import Derived.OpenShut
import Derived.ChangeOld
import Derived.Below
import Derived.WalkSmall
import Derived.Deep.CutRange
namespace Go.Proofs.YthcogkoleiejgaaGreatDoor.Rng
open Go.ChangeShapes Go.WideShapes Go.ChangeAt Go.RowKit Go.Deep

theorem add_none (b off j : Nat) : (⟨b, off, none⟩ : Addr).add j = ⟨b, off + j, none⟩ := by
  by_cases h : j = 0
  · subst h; simp [Addr.add]
  · simp [Addr.add, h]
theorem in64_zero : In64 0 := ⟨by omega, by omega⟩
theorem fit_nil : Fit [] := fun i => by simpa [e0] using in64_zero

theorem open_ranges {H : Type} {enc : TypeId × Value → H} {W : World} {a0 : Option Addr} {len0 cap0 : Nat} {d : DataW H} {p : List MemPlace} (h : DataW.Trod enc Tryz.prog W 0 (fun _ => true) true 90 (.slice a0 len0 cap0) d p) :
    ∃ ls : List Sm, ls.length = len0 ∧ len0 ≤ maxLen ∧ HasS W a0 ls ∧ Fit ls := by
  obtain ⟨fuel, hf⟩ := h
  rcases Deep.open_slice_pairs Tryz.underlying90 Tryz.underlying173 (by kernel_rfl) rfl rfl (by kernel_rfl) (by kernel_rfl) hf with ⟨hcs, _⟩ | ⟨a, len, cap, m, n, V0, V1, D0, D1, P0, P1, hcs, _, hl, hm, hmm, _, hx⟩
  · simp [Value.cells] at hcs
    obtain ⟨rfl, rfl, rfl⟩ := hcs
    exact ⟨[], rfl, Nat.zero_le _, .inl rfl, fit_nil⟩
  · simp [Value.cells] at hcs
    obtain ⟨rfl, rfl, rfl⟩ := hcs
    simp only [if_true] at hmm
    have key : ∀ i, i < len0 → ∃ q : Sm, W.cell? (a.add (i * 2)) = some (.int .i64 q.1) ∧ W.cell? (a.add (i * 2 + 1)) = some (.int .i64 q.2) ∧ In64 q.1 ∧ In64 q.2 := by
      intro i hi
      obtain ⟨h1, h2, h3, h4⟩ := hx i (by omega)
      obtain ⟨s, hs, _, hs1⟩ := DataW.trod_int Tryz.underlying3 h3
      obtain ⟨t, ht, _, ht1⟩ := DataW.trod_int Tryz.underlying3 h4
      simp only [List.cons.injEq, and_true] at hs ht
      simp only [Lit.wf, Bool.and_eq_true, decide_eq_true_eq] at hs1 ht1
      exact ⟨(s, t), by rw [h1, hs], by rw [h2, ht], hs1, ht1⟩
    obtain ⟨q, hq⟩ := Deep.choose_lt (α := Sm) key
    have hg : ∀ i, i < len0 → ((List.range len0).map q).getD i e0 = q i := fun i hi => by simp [hi]
    refine ⟨(List.range len0).map q, by simp, by omega, ?_, ?_⟩
    · by_cases h0 : len0 = 0
      · subst h0; exact .inl rfl
      · obtain ⟨b, off, spot⟩ := a
        have h1 := (hq 0 (by omega)).1
        have hs : spot = none := by simpa [Addr.add] using World.cell?_spot h1
        subst hs
        refine .inr ⟨b, off, rfl, World.block_lt_of_cell? W _ h1, fun i hi => ?_⟩
        have hi' : i < len0 := by simpa using hi
        obtain ⟨g1, g2, _, _⟩ := hq i hi'
        rw [add_none] at g1 g2
        rw [hg i hi']
        exact ⟨g1, g2⟩
    · intro i
      by_cases hi : i < len0
      · rw [hg i hi]; exact (hq i hi).2.2
      · rw [List.getD_eq_getElem?_getD, List.getElem?_eq_none (by simp; omega)]; simpa [e0] using in64_zero

theorem array7 {α : Type} {cs : Array α} (h : cs.size = 7) : ∃ c0 c1 c2 c3 c4 c5 c6, cs = #[c0, c1, c2, c3, c4, c5, c6] := by
  obtain ⟨l⟩ := cs
  match l, h with
  | [c0, c1, c2, c3, c4, c5, c6], _ => exact ⟨c0, c1, c2, c3, c4, c5, c6, rfl⟩
theorem open_agg7 {H : Type} {enc : TypeId × Value → H} {P : Program} {w : World} {base : Nat} {spare : Nat → Bool} {held : Bool} {r : Reach} {b0 : Nat} {t : TypeId} {lf0 lf1 lf2 lf3 lf4 lf5 lf6 : Field} {v : Value} {d : DataW H} {p : List MemPlace} (hs : P.underlying t = some (.struct #[lf0, lf1, lf2, lf3, lf4, lf5, lf6])) (hone : oneCellFields P #[lf0, lf1, lf2, lf3, lf4, lf5, lf6] = true) (hC : P.cellsOf t = 7)
    (hv : Value.okWide P w r b0 t v) (h : DataW.Trod enc P w base spare held t v d p) :
    ∃ (v0 v1 v2 v3 v4 v5 v6 : Value) (y0 y1 y2 y3 y4 y5 y6 : DataW H × List MemPlace) (n : Nat), v = .agg #[v0, v1, v2, v3, v4, v5, v6] ∧
      DataW.trod enc P w base spare held n lf0.type [v0] = some y0 ∧ DataW.trod enc P w base spare held n lf1.type [v1] = some y1 ∧ DataW.trod enc P w base spare held n lf2.type [v2] = some y2 ∧ DataW.trod enc P w base spare held n lf3.type [v3] = some y3 ∧ DataW.trod enc P w base spare held n lf4.type [v4] = some y4 ∧ DataW.trod enc P w base spare held n lf5.type [v5] = some y5 ∧ DataW.trod enc P w base spare held n lf6.type [v6] = some y6 := by
  obtain ⟨cs, rfl, hsz⟩ := okWide_struct hs hv
  obtain ⟨c0, c1, c2, c3, c4, c5, c6, rfl⟩ := array7 (hsz.trans hC)
  obtain ⟨fuel, hf⟩ := h
  obtain ⟨xs, n, _, _, hl, hlen, hg⟩ := DataW.trod_struct hs hf
  match xs, hlen with
  | [y0, y1, y2, y3, y4, y5, y6], _ =>
    obtain ⟨o0, k0⟩ := hone_of hone 0 lf0 rfl
    obtain ⟨o1, k1⟩ := hone_of hone 1 lf1 rfl
    obtain ⟨o2, k2⟩ := hone_of hone 2 lf2 rfl
    obtain ⟨o3, k3⟩ := hone_of hone 3 lf3 rfl
    obtain ⟨o4, k4⟩ := hone_of hone 4 lf4 rfl
    obtain ⟨o5, k5⟩ := hone_of hone 5 lf5 rfl
    obtain ⟨o6, k6⟩ := hone_of hone 6 lf6 rfl
    exact ⟨c0, c1, c2, c3, c4, c5, c6, y0, y1, y2, y3, y4, y5, y6, n, rfl, by simpa [Value.cells, o0, k0] using hg 0 lf0 rfl, by simpa [Value.cells, o1, k1] using hg 1 lf1 rfl, by simpa [Value.cells, o2, k2] using hg 2 lf2 rfl, by simpa [Value.cells, o3, k3] using hg 3 lf3 rfl, by simpa [Value.cells, o4, k4] using hg 4 lf4 rfl, by simpa [Value.cells, o5, k5] using hg 5 lf5 rfl, by simpa [Value.cells, o6, k6] using hg 6 lf6 rfl⟩


/-- An interval, and where its lists lie. -/
structure Iv where
  z : Int
  l1 : List Sm
  l2 : List Sm
  l3 : List Sm
  l4 : List Sm
  l5 : List Sm
  l6 : List Int
  a1 : Option Addr
  c1 : Nat
  a2 : Option Addr
  c2 : Nat
  a3 : Option Addr
  c3 : Nat
  a4 : Option Addr
  c4 : Nat
  a5 : Option Addr
  c5 : Nat
  a6 : Option Addr
  c6 : Nat
abbrev clI (i : Iv) : Array Value := #[.int .i64 i.z, .slice i.a1 i.l1.length i.c1, .slice i.a2 i.l2.length i.c2, .slice i.a3 i.l3.length i.c3, .slice i.a4 i.l4.length i.c4, .slice i.a5 i.l5.length i.c5, .slice i.a6 i.l6.length i.c6]
abbrev agI (i : Iv) : Value := .agg (clI i)
structure Has (w : World) (i : Iv) : Prop where
  h1 : HasS w i.a1 i.l1
  h2 : HasS w i.a2 i.l2
  h3 : HasS w i.a3 i.l3
  h4 : HasS w i.a4 i.l4
  h5 : HasS w i.a5 i.l5
  h6 : Ino.Has w i.a6 i.l6
theorem Has.below {w w' : World} {i : Iv} (h : Has w i) (hb : Below w.heap.size w w') : Has w' i := ⟨h.h1.below hb, h.h2.below hb, h.h3.below hb, h.h4.below hb, h.h5.below hb, h.h6.below hb⟩
structure Max (i : Iv) : Prop where
  m1 : i.l1.length ≤ maxLen
  m2 : i.l2.length ≤ maxLen
  m3 : i.l3.length ≤ maxLen
  m4 : i.l4.length ≤ maxLen
  m5 : i.l5.length ≤ maxLen
  m6 : i.l6.length ≤ maxLen
structure Sml (i : Iv) : Prop where
  s1 : i.l1.length ≤ 1048576
  s2 : i.l2.length ≤ 1048576
  s3 : i.l3.length ≤ 1048576
  s4 : i.l4.length ≤ 1048576
  s5 : i.l5.length ≤ 1048576
  s6 : i.l6.length ≤ 1048576
/-- The same interval, somewhere else. -/
structure Same (i j : Iv) : Prop where
  z : j.z = i.z
  e1 : j.l1 = i.l1
  e2 : j.l2 = i.l2
  e3 : j.l3 = i.l3
  e4 : j.l4 = i.l4
  e5 : j.l5 = i.l5
  e6 : j.l6 = i.l6
theorem Same.sml {i j : Iv} (h : Same i j) (s : Sml i) : Sml j := ⟨by rw [h.e1]; exact s.s1, by rw [h.e2]; exact s.s2, by rw [h.e3]; exact s.s3, by rw [h.e4]; exact s.s4, by rw [h.e5]; exact s.s5, by rw [h.e6]; exact s.s6⟩

set_option maxRecDepth 100000 in
theorem open_interval {H : Type} {enc : TypeId × Value → H} {W : World} {base : Nat} {v : Value} {d : DataW H} {p : List MemPlace} (hv : Value.okWide Tryz.prog W .any base 92 v) (h : DataW.Trod enc Tryz.prog W 0 (fun _ => true) true 92 v d p) :
    ∃ i : Iv, v = agI i ∧ Has W i ∧ Max i ∧ -9223372036854775808 ≤ i.z ∧ i.z ≤ 9223372036854775807 := by
  obtain ⟨v0, v1, v2, v3, v4, v5, v6, y0, y1, y2, y3, y4, y5, y6, n, rfl, h0, h1, h2, h3, h4, h5, h6⟩ := open_agg7 Tryz.underlying92 (by kernel_rfl) (by kernel_rfl) hv h
  obtain ⟨A, e0, _, ws0⟩ := DataW.trod_int Tryz.underlying3 h0
  simp only [List.cons.injEq, and_true] at e0
  subst e0
  obtain ⟨a1, n1, c1, rfl⟩ : ∃ a len cap, v1 = .slice a len cap := by
    rcases Deep.open_slice_pairs Tryz.underlying90 Tryz.underlying173 (by kernel_rfl) rfl rfl (by kernel_rfl) (by kernel_rfl) h1 with ⟨hcs, _⟩ | ⟨a, len, cap, m, n, V0, V1, D0, D1, P0, P1, hcs, _⟩
    · simp only [List.cons.injEq, and_true] at hcs; exact ⟨_, _, _, hcs⟩
    · simp only [List.cons.injEq, and_true] at hcs; exact ⟨_, _, _, hcs⟩
  obtain ⟨l1, q1, m1, x1, _⟩ := open_ranges (enc := enc) (a0 := a1) (len0 := n1) (cap0 := c1) (W := W) (d := y1.1) (p := y1.2) ⟨n, by simpa [Value.cells] using h1⟩
  subst q1
  obtain ⟨a2, n2, c2, rfl⟩ : ∃ a len cap, v2 = .slice a len cap := by
    rcases Deep.open_slice_pairs Tryz.underlying90 Tryz.underlying173 (by kernel_rfl) rfl rfl (by kernel_rfl) (by kernel_rfl) h2 with ⟨hcs, _⟩ | ⟨a, len, cap, m, n, V0, V1, D0, D1, P0, P1, hcs, _⟩
    · simp only [List.cons.injEq, and_true] at hcs; exact ⟨_, _, _, hcs⟩
    · simp only [List.cons.injEq, and_true] at hcs; exact ⟨_, _, _, hcs⟩
  obtain ⟨l2, q2, m2, x2, _⟩ := open_ranges (enc := enc) (a0 := a2) (len0 := n2) (cap0 := c2) (W := W) (d := y2.1) (p := y2.2) ⟨n, by simpa [Value.cells] using h2⟩
  subst q2
  obtain ⟨a3, n3, c3, rfl⟩ : ∃ a len cap, v3 = .slice a len cap := by
    rcases Deep.open_slice_pairs Tryz.underlying90 Tryz.underlying173 (by kernel_rfl) rfl rfl (by kernel_rfl) (by kernel_rfl) h3 with ⟨hcs, _⟩ | ⟨a, len, cap, m, n, V0, V1, D0, D1, P0, P1, hcs, _⟩
    · simp only [List.cons.injEq, and_true] at hcs; exact ⟨_, _, _, hcs⟩
    · simp only [List.cons.injEq, and_true] at hcs; exact ⟨_, _, _, hcs⟩
  obtain ⟨l3, q3, m3, x3, _⟩ := open_ranges (enc := enc) (a0 := a3) (len0 := n3) (cap0 := c3) (W := W) (d := y3.1) (p := y3.2) ⟨n, by simpa [Value.cells] using h3⟩
  subst q3
  obtain ⟨a4, n4, c4, rfl⟩ : ∃ a len cap, v4 = .slice a len cap := by
    rcases Deep.open_slice_pairs Tryz.underlying90 Tryz.underlying173 (by kernel_rfl) rfl rfl (by kernel_rfl) (by kernel_rfl) h4 with ⟨hcs, _⟩ | ⟨a, len, cap, m, n, V0, V1, D0, D1, P0, P1, hcs, _⟩
    · simp only [List.cons.injEq, and_true] at hcs; exact ⟨_, _, _, hcs⟩
    · simp only [List.cons.injEq, and_true] at hcs; exact ⟨_, _, _, hcs⟩
  obtain ⟨l4, q4, m4, x4, _⟩ := open_ranges (enc := enc) (a0 := a4) (len0 := n4) (cap0 := c4) (W := W) (d := y4.1) (p := y4.2) ⟨n, by simpa [Value.cells] using h4⟩
  subst q4
  obtain ⟨a5, n5, c5, rfl⟩ : ∃ a len cap, v5 = .slice a len cap := by
    rcases Deep.open_slice_pairs Tryz.underlying90 Tryz.underlying173 (by kernel_rfl) rfl rfl (by kernel_rfl) (by kernel_rfl) h5 with ⟨hcs, _⟩ | ⟨a, len, cap, m, n, V0, V1, D0, D1, P0, P1, hcs, _⟩
    · simp only [List.cons.injEq, and_true] at hcs; exact ⟨_, _, _, hcs⟩
    · simp only [List.cons.injEq, and_true] at hcs; exact ⟨_, _, _, hcs⟩
  obtain ⟨l5, q5, m5, x5, _⟩ := open_ranges (enc := enc) (a0 := a5) (len0 := n5) (cap0 := c5) (W := W) (d := y5.1) (p := y5.2) ⟨n, by simpa [Value.cells] using h5⟩
  subst q5
  obtain ⟨a6, n6, c6, rfl⟩ : ∃ a len cap, v6 = .slice a len cap := by
    rcases open_ints Tryz.underlying60 Tryz.underlying3 (by kernel_rfl) h6 with ⟨hcs, _⟩ | ⟨x, l, c, zs, hcs, _⟩
    · simp only [List.cons.injEq, and_true] at hcs; exact ⟨_, _, _, hcs⟩
    · simp only [List.cons.injEq, and_true] at hcs; exact ⟨_, _, _, hcs⟩
  obtain ⟨l6, q6, m6, x6, _⟩ := Ino.open_ints1 (enc := enc) (a0 := a6) (len0 := n6) (cap0 := c6) (W := W) (d := y6.1) (p := y6.2) ⟨n, by simpa [Value.cells] using h6⟩
  subst q6
  simp only [Lit.wf, Bool.and_eq_true, decide_eq_true_eq] at ws0
  exact ⟨⟨A, l1, l2, l3, l4, l5, l6, a1, c1, a2, c2, a3, c3, a4, c4, a5, c5, a6, c6⟩, rfl, ⟨x1, x2, x3, x4, x5, x6⟩, ⟨m1, m2, m3, m4, m5, m6⟩, ws0.1, ws0.2⟩

theorem f84 (a : Option Addr) (n c : Nat) (x : Int) (w : World) (hmax : n ≤ maxLen) (hx0 : 0 ≤ x) (hx1 : x ≤ 1048576) :
    Calls Tryz.prog 84 #[.slice a n c, .int .i64 x] w fun e w' => e = .returned (.int .i64 (if x < n then -1 else x - n)) ∧ w' = w := by
  unfold maxLen at hmax
  by_cases h : x < n
  · go_enter Tryz.func84, Tryz.ntmps84
    go_wp2
    go_ret
    exact ⟨rfl, rfl⟩
  · go_enter Tryz.func84, Tryz.ntmps84
    go_wp2
    go_ret
    exact ⟨rfl, rfl⟩

set_option maxHeartbeats 4000000 in
theorem f49 (i : Iv) (w : World) (hm : Max i) :
    Calls Tryz.prog 49 #[agI i, .int .i64 1048576] w fun e w' => ∃ y : Int, e = .returned (.int .i64 y) ∧ (0 ≤ y → Sml i) ∧ Below w.heap.size w w' := by
  obtain ⟨z, l1, l2, l3, l4, l5, l6, a1, c1, a2, c2, a3, c3, a4, c4, a5, c5, a6, c6⟩ := i
  obtain ⟨m1, m2, m3, m4, m5, m6⟩ := hm
  simp only at m1 m2 m3 m4 m5 m6
  have HB : Hid (Below w.heap.size w (w.alloc (.cells #[.int .i64 z, .slice a1 l1.length c1, .slice a2 l2.length c2, .slice a3 l3.length c3, .slice a4 l4.length c4, .slice a5 l5.length c5, .slice a6 l6.length c6] 92))) := (Below.refl _ _).alloc (Nat.le_refl _) _
  have HX : Hid ((0 : Int) ≤ -1 → Sml ⟨z, l1, l2, l3, l4, l5, l6, a1, c1, a2, c2, a3, c3, a4, c4, a5, c5, a6, c6⟩) := fun h => absurd h (by omega)
  obtain ⟨x0, hx0⟩ : ∃ x : Int, x = 1048576 := ⟨_, rfl⟩
  have HX0 : Hid (x0 ≤ 1048576) := by unfold Hid; omega
  rw [← hx0]
  have b0 : 0 ≤ x0 := by omega
  have d0 : x0 ≤ 1048576 := by omega
  clear hx0
  have H1 := fun x => hid (f85 a1 l1.length c1 x0 x m1 b0 d0)
  by_cases g1 : x0 < (l1.length : Int)
  · simp only [if_pos g1] at H1
    clear m1 m2 m3 m4 m5 m6 g1
    go_enter Tryz.func49, Tryz.ntmps49
    go_wp2_with fail
    refine (H1 _).out.mono ?_
    rintro e w1 ⟨rfl, hw⟩; subst w1
    go_wp2
    go_ret
    exact ⟨-1, rfl, HX.out, HB.out⟩
  simp only [if_neg g1] at H1
  have r1 : l1.length ≤ 1048576 := by omega
  obtain ⟨x1, hx1⟩ : ∃ x : Int, x = x0 - (l1.length : Int) := ⟨_, rfl⟩
  simp only [← hx1] at H1
  have b1 : 0 ≤ x1 := by omega
  have d1 : x1 ≤ 1048576 := by omega
  clear hx1
  have H2 := fun x => hid (f85 a2 l2.length c2 x1 x m2 b1 d1)
  by_cases g2 : x1 < (l2.length : Int)
  · simp only [if_pos g2] at H2
    clear m1 m2 m3 m4 m5 m6 g1 g2
    go_enter Tryz.func49, Tryz.ntmps49
    go_wp2_with fail
    refine (H1 _).out.mono ?_
    rintro e w1 ⟨rfl, hw⟩; subst w1
    go_wp2_with fail
    refine (H2 _).out.mono ?_
    rintro e w1 ⟨rfl, hw⟩; subst w1
    go_wp2
    go_ret
    exact ⟨-1, rfl, HX.out, HB.out⟩
  simp only [if_neg g2] at H2
  have r2 : l2.length ≤ 1048576 := by omega
  obtain ⟨x2, hx2⟩ : ∃ x : Int, x = x1 - (l2.length : Int) := ⟨_, rfl⟩
  simp only [← hx2] at H2
  have b2 : 0 ≤ x2 := by omega
  have d2 : x2 ≤ 1048576 := by omega
  clear hx2
  have H3 := fun x => hid (f85 a3 l3.length c3 x2 x m3 b2 d2)
  by_cases g3 : x2 < (l3.length : Int)
  · simp only [if_pos g3] at H3
    clear m1 m2 m3 m4 m5 m6 g1 g2 g3
    go_enter Tryz.func49, Tryz.ntmps49
    go_wp2_with fail
    refine (H1 _).out.mono ?_
    rintro e w1 ⟨rfl, hw⟩; subst w1
    go_wp2_with fail
    refine (H2 _).out.mono ?_
    rintro e w1 ⟨rfl, hw⟩; subst w1
    go_wp2_with fail
    refine (H3 _).out.mono ?_
    rintro e w1 ⟨rfl, hw⟩; subst w1
    go_wp2
    go_ret
    exact ⟨-1, rfl, HX.out, HB.out⟩
  simp only [if_neg g3] at H3
  have r3 : l3.length ≤ 1048576 := by omega
  obtain ⟨x3, hx3⟩ : ∃ x : Int, x = x2 - (l3.length : Int) := ⟨_, rfl⟩
  simp only [← hx3] at H3
  have b3 : 0 ≤ x3 := by omega
  have d3 : x3 ≤ 1048576 := by omega
  clear hx3
  have H4 := fun x => hid (f85 a4 l4.length c4 x3 x m4 b3 d3)
  by_cases g4 : x3 < (l4.length : Int)
  · simp only [if_pos g4] at H4
    clear m1 m2 m3 m4 m5 m6 g1 g2 g3 g4
    go_enter Tryz.func49, Tryz.ntmps49
    go_wp2_with fail
    refine (H1 _).out.mono ?_
    rintro e w1 ⟨rfl, hw⟩; subst w1
    go_wp2_with fail
    refine (H2 _).out.mono ?_
    rintro e w1 ⟨rfl, hw⟩; subst w1
    go_wp2_with fail
    refine (H3 _).out.mono ?_
    rintro e w1 ⟨rfl, hw⟩; subst w1
    go_wp2_with fail
    refine (H4 _).out.mono ?_
    rintro e w1 ⟨rfl, hw⟩; subst w1
    go_wp2
    go_ret
    exact ⟨-1, rfl, HX.out, HB.out⟩
  simp only [if_neg g4] at H4
  have r4 : l4.length ≤ 1048576 := by omega
  obtain ⟨x4, hx4⟩ : ∃ x : Int, x = x3 - (l4.length : Int) := ⟨_, rfl⟩
  simp only [← hx4] at H4
  have b4 : 0 ≤ x4 := by omega
  have d4 : x4 ≤ 1048576 := by omega
  clear hx4
  have H5 := fun x => hid (f85 a5 l5.length c5 x4 x m5 b4 d4)
  by_cases g5 : x4 < (l5.length : Int)
  · simp only [if_pos g5] at H5
    clear m1 m2 m3 m4 m5 m6 g1 g2 g3 g4 g5
    go_enter Tryz.func49, Tryz.ntmps49
    go_wp2_with fail
    refine (H1 _).out.mono ?_
    rintro e w1 ⟨rfl, hw⟩; subst w1
    go_wp2_with fail
    refine (H2 _).out.mono ?_
    rintro e w1 ⟨rfl, hw⟩; subst w1
    go_wp2_with fail
    refine (H3 _).out.mono ?_
    rintro e w1 ⟨rfl, hw⟩; subst w1
    go_wp2_with fail
    refine (H4 _).out.mono ?_
    rintro e w1 ⟨rfl, hw⟩; subst w1
    go_wp2_with fail
    refine (H5 _).out.mono ?_
    rintro e w1 ⟨rfl, hw⟩; subst w1
    go_wp2
    go_ret
    exact ⟨-1, rfl, HX.out, HB.out⟩
  simp only [if_neg g5] at H5
  have r5 : l5.length ≤ 1048576 := by omega
  obtain ⟨x5, hx5⟩ : ∃ x : Int, x = x4 - (l5.length : Int) := ⟨_, rfl⟩
  simp only [← hx5] at H5
  have b5 : 0 ≤ x5 := by omega
  have d5 : x5 ≤ 1048576 := by omega
  clear hx5
  have H6 := fun x => hid (f84 a6 l6.length c6 x5 x m6 b5 d5)
  by_cases g6 : x5 < (l6.length : Int)
  · simp only [if_pos g6] at H6
    clear m1 m2 m3 m4 m5 m6 g1 g2 g3 g4 g5 g6
    go_enter Tryz.func49, Tryz.ntmps49
    go_wp2_with fail
    refine (H1 _).out.mono ?_
    rintro e w1 ⟨rfl, hw⟩; subst w1
    go_wp2_with fail
    refine (H2 _).out.mono ?_
    rintro e w1 ⟨rfl, hw⟩; subst w1
    go_wp2_with fail
    refine (H3 _).out.mono ?_
    rintro e w1 ⟨rfl, hw⟩; subst w1
    go_wp2_with fail
    refine (H4 _).out.mono ?_
    rintro e w1 ⟨rfl, hw⟩; subst w1
    go_wp2_with fail
    refine (H5 _).out.mono ?_
    rintro e w1 ⟨rfl, hw⟩; subst w1
    go_wp2_with fail
    refine (H6 _).out.mono ?_
    rintro e w1 ⟨rfl, hw⟩; subst w1
    go_wp2
    go_ret
    exact ⟨-1, rfl, HX.out, HB.out⟩
  simp only [if_neg g6] at H6
  have r6 : l6.length ≤ 1048576 := by omega
  obtain ⟨x6, hx6⟩ : ∃ x : Int, x = x5 - (l6.length : Int) := ⟨_, rfl⟩
  simp only [← hx6] at H6
  have b6 : 0 ≤ x6 := by omega
  have d6 : x6 ≤ 1048576 := by omega
  clear hx6
  clear m1 m2 m3 m4 m5 m6 g1 g2 g3 g4 g5 g6
  have HS : Hid (Sml ⟨z, l1, l2, l3, l4, l5, l6, a1, c1, a2, c2, a3, c3, a4, c4, a5, c5, a6, c6⟩) := ⟨r1, r2, r3, r4, r5, r6⟩
  clear r1 r2 r3 r4 r5 r6
  go_enter Tryz.func49, Tryz.ntmps49
  go_wp2_with fail
  refine (H1 _).out.mono ?_
  rintro e w1 ⟨rfl, hw⟩; subst w1
  go_wp2_with fail
  refine (H2 _).out.mono ?_
  rintro e w1 ⟨rfl, hw⟩; subst w1
  go_wp2_with fail
  refine (H3 _).out.mono ?_
  rintro e w1 ⟨rfl, hw⟩; subst w1
  go_wp2_with fail
  refine (H4 _).out.mono ?_
  rintro e w1 ⟨rfl, hw⟩; subst w1
  go_wp2_with fail
  refine (H5 _).out.mono ?_
  rintro e w1 ⟨rfl, hw⟩; subst w1
  go_wp2_with fail
  refine (H6 _).out.mono ?_
  rintro e w1 ⟨rfl, hw⟩; subst w1
  go_wp2
  go_ret
  exact ⟨x6, rfl, fun _ => HS.out, HB.out⟩
end Go.Proofs.YthcogkoleiejgaaGreatDoor.Rng
