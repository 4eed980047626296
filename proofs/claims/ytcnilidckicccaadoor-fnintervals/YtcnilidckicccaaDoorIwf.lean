/- Intervals that are drawn: oddInterval. -/
import Derived.Test.YtcnilidckicccaaDoorIwe
import Derived.Test.YtcnilidckicccaaDoorWak
import Derived.Deep.CutBlock
namespace Go.Proofs.YtcnilidckicccaaDoor.Cur
open Go.RowKit
open Go.Proofs.YtcnilidckicccaaDoor.Cal (hid)
open Go.Proofs.YtcnilidckicccaaDoor.Rng (Sm e0 HasS Fit flat In64)
open Go.Proofs.YtcnilidckicccaaDoor.Wak

theorem box_gr {w w' : World} {b : Nat} {o : Obj} {row : Option Nat} (h : w.heap[b]? = some o) (hg : w.grownBy w' row) (hne : some b ≠ row) : w'.heap[b]? = some o := (hg.block b (Cal.lt_block h) hne).trans h
theorem cell_in {w : World} {B t j : Nat} {cs : Array Value} {v : Value} (h : w.heap[B]? = some (.cells cs t (0, 0))) (hv : cs[j]? = some v) : w.cell? ⟨B, j, none⟩ = some v := (Cal.cell_at h j).trans hv
instance (x : Int) : Decidable (In64 x) := by unfold In64; exact inferInstance
section
variable {P : Program}
theorem wp_append_own_at2 {o : Oper} {a : Act} {w : World} {K : Act → World → Prop} {Q : Exit → Act → World → Prop} (s x : Operand) (t : TypeId)
    (ho : o.op = .call { callee := .builtin .append, args := #[s, x], argTypes := #[t, t] })
    (base : Nat) (e : TypeId) (i : TypeInfo) (z : Value) (size bytes : Nat) (ht : P.underlying t = some (.slice e)) (hi : P.info? e = some i) (hz : i.zero = some z)
    (hsize : i.size = size) (hby : i.bytes = bytes) (hzs : z.cells.size = size) (hsz : 0 < size)
    (v : Value) (n : Nat) (xs : List Value) (hs : a.eval s = v) (hown : w.ownsRow base e size v n xs)
    (ad : Addr) (m c : Nat) (news : List Value) (hx : a.eval x = .slice (some ad) m c) (hl : news.length = m * size) (hnews : ∀ j u, news[j]? = some u → w.cell? (ad.add j) = some u) (h1 : ∀ u ∈ news, u.oneCell' = true)
    (h63 : n + m ≤ maxLen) (hbytes : (n + m) * bytes ≤ 140737488355328) (hbase : base ≤ w.heap.size)
    (h : ∀ v' w', w'.ownsRow base e size v' (n + m) (xs ++ news) → w.grownBy w' v.ownBlock → (v' = .slice none 0 0 ↔ v = .slice none 0 0 ∧ m = 0) → (v'.ownBlock = v.ownBlock ∨ v'.ownBlock = some w.heap.size) → K (a.put o.dst v') w') :
    o.wp P a w K Q := by
  obtain ⟨v', w', hr, h2, h3, h4, h5⟩ := run_append_own_at (P := P) w base t o.type e i z size bytes ht hi hz hsize hby hzs hsz v n xs hown ad m c news hl hnews h1 h63 hbytes hbase
  unfold Oper.wp execOp
  simp only [ho, resolve, invoke, builtin, Sem.run_bind, Sem.run_pure, Result.andThen_ok, List.map_toArray, List.map_cons, List.map_nil, hs, hx, hr]
  exact h v' w' h2 h3 h4 h5
end
set_option maxHeartbeats 4000000 in
theorem f40 (B0 R n c lim : Nat) (a : Option Addr) (x y : Int) (w : World) (h : Cu B0 R a n c lim w) (hl : lim ≤ 4503599627350000) (hn : n ≤ 1048576) (hx : In64 x := by decide) (hy : In64 y := by decide) :
    Calls Tryd.prog 40 #[.pointer (some ⟨R, 0, none⟩), .int .i64 x, .int .i64 y] w fun e w' => ∃ z : Int, e = .returned (.int .i64 z) ∧ In64 z ∧ Cu B0 R a n c (lim + 2) w' ∧ w.grownBy w' (some R) := by
  have HC := hid h
  have HX := hid hx
  have HY := hid hy
  clear h hx hy
  go_enter Tryd.func40, Tryd.ntmps40
  go_wp2_with fail
  refine (f18 B0 R n c lim a 2 _ HC.out (by omega) hn (by omega) (by omega)).mono ?_
  rintro e w1 ⟨b, rfl, hc1, hg1⟩
  have HC1 := hid hc1
  have HG1 := hid hg1
  clear hc1 hg1
  cases b
  · go_wp2
    go_ret
    exact ⟨_, rfl, HY.out, HC1.out, HG1.out⟩
  · go_wp2
    go_ret
    exact ⟨_, rfl, HX.out, HC1.out, HG1.out⟩
abbrev lenAt (w : World) (b : Nat) : Nat := match w.cell? ⟨b, 4, none⟩ with
  | some (.slice _ n _) => n
  | _ => 0
set_option maxRecDepth 100000 in
set_option maxHeartbeats 64000000 in
theorem f19 (B0 R n c lim X D : Nat) (a : Option Addr) (z : Int) (v1 v2 v3 v4 v5 v6 : Value) (w : World) (h : Cu B0 R a n c lim w) (hl : lim ≤ 4503599627100000) (hn : n ≤ 1048576) (hRX : R < X) (hX : X ≤ w.heap.size)
    (hz : In64 z) (h1 : RowR 2 X w v1) (h2 : RowR 2 X w v2) (h3 : RowR 2 X w v3) (h4 : RowR 2 X w v4) (h5 : RowR 2 X w v5) (h6 : RowI 2 X w v6) (hap : [v1, v2, v3, v4, v5, v6].Pairwise Rl) (hDl : D < w.heap.size) (hnd : ∀ v ∈ [v1, v2, v3, v4, v5, v6], v.ownBlock ≠ some D) :
    Calls Tryd.prog 19 #[.pointer (some ⟨R, 0, none⟩), .agg #[.int .i64 z, v1, v2, v3, v4, v5, v6]] w fun e w' => ∃ z' u1 u2 u3 u4 u5 u6, e = .returned (.agg #[.int .i64 z', u1, u2, u3, u4, u5, u6]) ∧ In64 z' ∧ RowR 20 X w' u1 ∧ RowR 20 X w' u2 ∧ RowR 20 X w' u3 ∧ RowR 20 X w' u4 ∧ RowR 20 X w' u5 ∧ RowI 20 X w' u6 ∧ [u1, u2, u3, u4, u5, u6].Pairwise Rl ∧ (∀ u ∈ [u1, u2, u3, u4, u5, u6], u.ownBlock ≠ some D) ∧ Cu B0 R a n c (lim + 5000) w' ∧ Kb X D R w w' := by
  have hR := cuLt h
  obtain ⟨i0, hi', hz0, hz1, hz2⟩ := info_parts infoR
  obtain ⟨i3, hi3, hy0, hy1, hy2⟩ := info_parts info3
  obtain ⟨b1, m1, k1, rfl⟩ := h1.form
  obtain ⟨b2, m2, k2, rfl⟩ := h2.form
  obtain ⟨b3, m3, k3, rfl⟩ := h3.form
  obtain ⟨b4, m4, k4, rfl⟩ := h4.form
  obtain ⟨b5, m5, k5, rfl⟩ := h5.form
  obtain ⟨b6, m6, k6, rfl⟩ := h6.form
  have HRW0 : Hid (∀ g, ∀ u ∈ [.slice b1 m1 k1, .slice b2 m2 k2, .slice b3 m3 k3, .slice b4 m4 k4, .slice b5 m5 k5, .slice b6 m6 k6], Value.ownBlock u = some g → g < w.heap.size) := by
    intro g u hu e
    simp only [List.mem_cons, List.not_mem_nil, or_false] at hu
    rcases hu with rfl | rfl | rfl | rfl | rfl | rfl
    · exact (h1.lt g e).2
    · exact (h2.lt g e).2
    · exact (h3.lt g e).2
    · exact (h4.lt g e).2
    · exact (h5.lt g e).2
    · exact (h6.lt g e).2
  obtain ⟨W0, hW0⟩ : ∃ W, W = (w.alloc (.cells #[.int .i64 z, .slice b1 m1 k1, .slice b2 m2 k2, .slice b3 m3 k3, .slice b4 m4 k4, .slice b5 m5 k5, .slice b6 m6 k6] 26)).alloc ZI := ⟨_, rfl⟩
  have HO0 : Hid (Od 2 B0 R n c lim a w X D w.heap.size z (.slice b1 m1 k1) (.slice b2 m2 k2) (.slice b3 m3 k3) (.slice b4 m4 k4) (.slice b5 m5 k5) (.slice b6 m6 k6) W0) := by
    have hgn : w.grownBy W0 none := by rw [hW0]; exact grown_alloc (grown_alloc (World.grownBy.refl _ _) _) _
    have hno : ∀ (v : Value) g, v.ownBlock = some g → (none : Option Nat) ≠ some g := fun v g _ e => by cases e
    have hn1 : (w.alloc (.cells #[.int .i64 z, .slice b1 m1 k1, .slice b2 m2 k2, .slice b3 m3 k3, .slice b4 m4 k4, .slice b5 m5 k5, .slice b6 m6 k6] 26)).heap.size = w.heap.size + 1 := by simp
    refine ⟨⟨?_, hz, h1.of hgn (hno _), h2.of hgn (hno _), h3.of hgn (hno _), h4.of hgn (hno _), h5.of hgn (hno _), h6.of hgn (hno _), hap, fun u hu e => ?_⟩, fun u hu e => ?_, cuKept h hgn (fun g e => by cases e), (Kb.refl X D R w).step ⟨hX, hDl⟩ hgn (fun g e => by cases e), ?_, ⟨hRX, ⟨hX, hDl⟩, Nat.le_refl _⟩, hnd⟩
    · rw [hW0]; exact (Below.heap_alloc _ _ _ (by rw [hn1]; omega)).trans (heap_alloc_new w _)
    · have := HRW0.out _ u hu e; omega
    · have := HRW0.out _ u hu e; omega
    · rw [hW0, ← hn1]; exact heap_alloc_new _ _
  have HW0 := hid hW0
  clear hW0 h h1 h2 h3 h4 h5 h6 hap hz hnd
  go_enter Tryd.func19, Tryd.ntmps19
  go_upto_region 1 with fail
  rw [← HW0.out]
  clear HW0
  have HSZ : Hid (X ≤ w.heap.size ∧ D < w.heap.size) := hid ⟨hX, hDl⟩
  clear hX hDl
  obtain ⟨B, hB⟩ : ∃ B, B = w.heap.size := ⟨_, rfl⟩
  rw [← hB] at HO0 HRW0 hR ⊢
  clear hB
  go_wp2_with fail
  refine (f38 B0 R n c lim a 20 W0 HO0.out.cu (by omega) hn (by omega) (by omega)).mono ?_
  rintro e w1 ⟨x, rfl, x0, x1, hc1, hg1⟩
  have HO := hid ((HO0.out.call hg1 hc1).mono (lim' := lim + 5) (by omega))
  have HRW := HRW0
  clear hc1 hg1 HO0 HRW0
  go_upto_block 0 with fail
  go_cut [] from 7 to 74 (fun wx => ∃ z' u1 u2 u3 u4 u5 u6, Hid (Od 20 B0 R n c (lim + 1000) a w X D B z' u1 u2 u3 u4 u5 u6 wx))
  case first =>
    by_cases e0q : x = 0
    · subst e0q
      go_wp2_with fail
      refine (f38 B0 R n c _ a 4 _ (HO.out.new _).cu (by omega) hn (by omega) (by omega)).mono ?_
      rintro e w2 ⟨jj, rfl, jl, jh, hc, hg⟩
      obtain ⟨j0, rfl⟩ : ∃ j : Nat, jj = j := ⟨jj.toNat, by omega⟩
      have hO2 := (HO.out.new _).call hg hc
      have hbx := box_gr (heap_alloc_new w1 _) hg (fun e => by have := Option.some.inj e; have := cuLt HO.out.cu; omega)
      obtain ⟨g0, kk0, hg0⟩ : ∃ g : Int, (#[.int .i64 (-1440), .int .i64 1440, .int .i64 (-1441), .int .i64 1441] : Array Value)[j0]? = some (.int .i64 g) ∧ In64 g := by
        rcases (show j0 = 0 ∨ j0 = 1 ∨ j0 = 2 ∨ j0 = 3 by omega) with rfl | rfl | rfl | rfl
        · exact ⟨_, rfl, by decide⟩
        · exact ⟨_, rfl, by decide⟩
        · exact ⟨_, rfl, by decide⟩
        · exact ⟨_, rfl, by decide⟩
      have s0 := cell_in hbx kk0
      have e0 := hO2.bx.frz 0
      have d0 := hO2.bx.cells.1
      have HN := hid (hO2.put0 g0 hg0)
      clear hO2 hc hg hbx HO
      go_wp2
      go_meet
      exact ⟨_, _, _, _, _, _, _, hid (((HN.out _ rfl).up (by omega)).mono (by omega))⟩
    by_cases e1q : x = 1
    · subst e1q
      go_wp2_with fail
      refine wpU_region 11 (fun x => x.cell? ⟨B, 1, none⟩ = some (.slice b1 m1 k1)) rfl ?_
      have hO0 := HO.out.drew.mono (lim' := lim + 10) (by omega)
      have hrows : ∀ g, Value.ownBlock (.slice b1 m1 k1) = some g → g < B := fun g e => HRW.out g _ (by simp) e
      clear HO
      generalize w1.drew = w0 at *
      have hHq : (fun x => x.cell? ⟨B, 1, none⟩ = some (.slice b1 m1 k1)) w0 := hO0.bx.cells.2.1
      refine wpU_take (i := 0) (oi := { dst := some 17, op := _, type := _, pos := _, after := _, guard := _ }) (v := .pointer (some ⟨B, 1, none⟩)) rfl (by kernel_rfl) (by kernel_rfl) (by kernel_rfl) (by kernel_rfl) (fun _ _ _ h => h) (Or.inl ⟨by rfl, fun w hSw => by (try dsimp only at hSw); (try go_split_ands); go_simp⟩) (by first | trivial | assumption) ?_
      try simp only [Act.put, List.setIfInBounds_toArray, List.set_cons_zero, List.set_cons_succ]
      refine wpU_take (i := 1) (oi := { dst := some 18, op := _, type := _, pos := _, after := _, guard := _ }) (v := .slice b1 m1 k1) rfl (by kernel_rfl) (by kernel_rfl) (by kernel_rfl) (by kernel_rfl) (fun _ _ _ h => h) (Or.inl ⟨by rfl, fun w hSw => by (try dsimp only at hSw); (try go_split_ands); go_simp⟩) (by first | trivial | assumption) ?_
      try simp only [Act.put, List.setIfInBounds_toArray, List.set_cons_zero, List.set_cons_succ]
      refine wpU_take (i := 3) (oi := { dst := some 20, op := _, type := _, pos := _, after := _, guard := _ }) (v := .pointer (some ⟨R, 0, none⟩)) rfl (by kernel_rfl) (by kernel_rfl) (by kernel_rfl) (by kernel_rfl) (fun _ _ _ h => h) (Or.inl ⟨by rfl, fun w hSw => by (try dsimp only at hSw); (try go_split_ands); go_simp⟩) (by first | trivial | assumption) ?_
      try simp only [Act.put, List.setIfInBounds_toArray, List.set_cons_zero, List.set_cons_succ]
      refine wpU_ready (rs := [2, 4]) (by kernel_rfl) (by simp) (AllU.cons (o := { dst := some 19, op := _, type := _, pos := _, after := _, guard := _ }) rfl ?_ (AllU.cons (o := { dst := some 21, op := _, type := _, pos := _, after := _, guard := _ }) rfl ?_ AllU.nil))
      · intro K hK
        go_simp
        have hO1 := (hO0.new (.cells #[.int .i64 (4), .int .i64 (1439), .int .i64 (1440)] 3)).mono (lim' := lim + 20) (by omega)
        have x0_1 := heap_alloc_new w0 (.cells #[.int .i64 (4), .int .i64 (1439), .int .i64 (1440)] 3)
        obtain ⟨w1, hw1⟩ : ∃ vv, vv = w0.alloc (.cells #[.int .i64 (4), .int .i64 (1439), .int .i64 (1440)] 3) := ⟨_, rfl⟩
        rw [← hw1] at hO1 x0_1
        rw [← hw1]
        have hsz := hO0.ord
        have hBl := Cal.lt_block hO0.res
        obtain ⟨Q0, hQ0⟩ : ∃ x, x = w0.heap.size := ⟨_, rfl⟩
        rw [← hQ0] at x0_1 hBl
        rw [← hQ0]
        have hQB0 : B + 1 < Q0 := hBl
        have hQR0 : R < Q0 := by omega
        clear hBl hsz hQ0
        clear hw1
        refine hK.out _ _ (fun _ => hO1.bx.cells.2.1) ?_
        clear hK K
        try simp only [Act.put, List.setIfInBounds_toArray, List.set_cons_zero, List.set_cons_succ]
        refine wpU_ready (rs := [4]) (by kernel_rfl) (by simp) (AllU.cons (o := { dst := some 21, op := _, type := _, pos := _, after := _, guard := _ }) rfl ?_ AllU.nil)
        intro K hK
        go_simp
        go_wp2_with (go_at_call 38; refine (f38 B0 R n c _ a 3 _ hO1.cu (by omega) hn (by omega) (by omega)).mono ?_; rintro e w2 ⟨jj, rfl, jl0, jh0, hc, hg⟩)
        obtain ⟨j0, rfl⟩ : ∃ j : Nat, jj = j := ⟨jj.toNat, by omega⟩
        have jb0 : (j0 : Int) < 3 := by omega
        clear jh0
        have hO2 := (hO1.call hg hc).mono (lim' := lim + 30) (by omega)
        have x0_2 := box_gr (row := (some R)) x0_1 hg (fun e => by have := Option.some.inj e; omega)
        clear hc hg
        refine hK.out _ _ (fun _ => hO2.bx.cells.2.1) ?_
        clear hK K
        try simp only [Act.put, List.setIfInBounds_toArray, List.set_cons_zero, List.set_cons_succ]
        obtain ⟨g0, kk0, hg0⟩ : ∃ g : Int, (#[.int .i64 (4), .int .i64 (1439), .int .i64 (1440)] : Array Value)[j0]? = some (.int .i64 g) ∧ In64 g := by
          rcases (show j0 = 0 ∨ j0 = 1 ∨ j0 = 2 by omega) with rfl | rfl | rfl
          · exact ⟨_, rfl, by decide⟩
          · exact ⟨_, rfl, by decide⟩
          · exact ⟨_, rfl, by decide⟩
        have s0_2 := cell_in x0_2 kk0
        refine wpU_mono (S := fun x => x.cell? ⟨B, 1, none⟩ = some (.slice b1 m1 k1) ∧ x.cell? ⟨Q0, j0, none⟩ = some (.int .i64 g0)) (fun x h => h.1) _ _ _ _ ?_
        have hHq : (fun x => x.cell? ⟨B, 1, none⟩ = some (.slice b1 m1 k1) ∧ x.cell? ⟨Q0, j0, none⟩ = some (.int .i64 g0)) w2 := ⟨hO2.bx.cells.2.1, s0_2⟩
        refine wpU_take (i := 5) (oi := { dst := some 22, op := _, type := _, pos := _, after := _, guard := _ }) (v := .pointer (some ⟨Q0, j0, none⟩)) rfl (by kernel_rfl) (by kernel_rfl) (by kernel_rfl) (by kernel_rfl) (fun _ _ _ h => h) (Or.inl ⟨by rfl, fun w hSw => by (try dsimp only at hSw); (try go_split_ands); go_simp⟩) (by first | trivial | assumption) ?_
        try simp only [Act.put, List.setIfInBounds_toArray, List.set_cons_zero, List.set_cons_succ]
        refine wpU_take (i := 6) (oi := { dst := some 23, op := _, type := _, pos := _, after := _, guard := _ }) (v := .int .i64 g0) rfl (by kernel_rfl) (by kernel_rfl) (by kernel_rfl) (by kernel_rfl) (fun _ _ _ h => h) (Or.inl ⟨by rfl, fun w hSw => by (try dsimp only at hSw); (try go_split_ands); go_simp⟩) (by first | trivial | assumption) ?_
        try simp only [Act.put, List.setIfInBounds_toArray, List.set_cons_zero, List.set_cons_succ]
        refine wpU_take (i := 7) (oi := { dst := some 24, op := _, type := _, pos := _, after := _, guard := _ }) (v := .agg #[.int .i64 (5), .int .i64 (g0)]) rfl (by kernel_rfl) (by kernel_rfl) (by kernel_rfl) (by kernel_rfl) (fun _ _ _ h => h) (Or.inl ⟨by rfl, fun w hSw => by (try dsimp only at hSw); (try go_split_ands); go_simp⟩) (by first | trivial | assumption) ?_
        try simp only [Act.put, List.setIfInBounds_toArray, List.set_cons_zero, List.set_cons_succ]
        refine wpU_ready (rs := [8]) (by kernel_rfl) (by simp) (AllU.cons (o := { dst := some 25, op := _, type := _, pos := _, after := _, guard := _ }) rfl ?_ AllU.nil)
        intro K hK
        go_simp
        have hO3 := (hO2.new (.cells #[.int .i64 (5), .int .i64 (g0)] 55)).mono (lim' := lim + 40) (by omega)
        have x0_3 := box_gr (row := none) x0_2 (grown_alloc (World.grownBy.refl _ _) (.cells #[.int .i64 (5), .int .i64 (g0)] 55)) (fun e => by cases e)
        have s0_3 := cell_in (v := .int .i64 g0) x0_3 kk0
        obtain ⟨w3, hw3⟩ : ∃ vv, vv = w2.alloc (.cells #[.int .i64 (5), .int .i64 (g0)] 55) := ⟨_, rfl⟩
        have hN := hw3
        rw [← hw3] at hO3 x0_3 s0_3
        rw [← hw3]
        clear hw3
        obtain ⟨_, _, _, l0, he0, hn0, hl0, hown0, hin0⟩ := hO3.bx.r1
        cases he0
        refine hK.out _ _ (fun _ => ⟨hO3.bx.cells.2.1, s0_3⟩) ?_
        clear hK K
        try simp only [Act.put, List.setIfInBounds_toArray, List.set_cons_zero, List.set_cons_succ]
        refine wpU_ready (rs := [9]) (by kernel_rfl) (by simp) (AllU.cons (o := { dst := some 26, op := _, type := _, pos := _, after := _, guard := _ }) rfl ?_ AllU.nil)
        intro K hK
        rw [if_pos (by rfl)]
        refine wp_append_own_at2 (.tmp 18) (.tmp 25) 23 rfl X 55 i0 (.agg #[.int .i64 0, .int .i64 0]) 2 16 Tryd.underlying23 hi' hz0 hz1 hz2 rfl (by decide) (.slice b1 m1 k1) m1 _ rfl hown0 ⟨w2.heap.size, 0, none⟩ 1 1 [.int .i64 (5), .int .i64 (g0)] rfl rfl ?d1 ?d2 ?d3 ?d4 ?d5 ?_
        case d1 => rw [hN]; exact two_new _ _ _ _
        case d2 => intro u hu; simp at hu; rcases hu with rfl | rfl <;> rfl
        case d3 => unfold maxLen; omega
        case d4 => omega
        case d5 => have := hO3.kb.size; have := hO3.ord; omega
        intro v3 w4 hown3 hgr3 _ hwho
        obtain ⟨a3, c3, rfl⟩ := own_form hown3
        have hrow : RowR 20 X w4 (.slice a3 (m1 + 1) c3) := ⟨_, _, _, l0 ++ [(5, g0)], rfl, by omega, by simp [hl0], by rw [flat_snoc]; exact hown3, fun p hp => by
          rcases List.mem_append.1 hp with h | h
          · exact hin0 p h
          · simp at h; subst h; exact ⟨(show In64 (5 : Int) by decide), hg0⟩⟩
        have hF := hO3.app1 (K' := 20) (by omega) hgr3 hrow hwho
        have hbx := (hgr3.block B (Cal.lt_block hO3.bx.box) (fun e => hO3.bx.nb _ (by simp) e.symm)).trans hO3.bx.box
        have hcl : w4.cell? ⟨B, 1, none⟩ = some (.slice b1 m1 k1) := Cal.cell_at hbx 1
        have hfz : w4.frozen? ⟨B, 1, none⟩ = false := by simp [World.frozen?, hbx]
        have hnq0 : Value.ownBlock (.slice b1 m1 k1) ≠ some Q0 := fun e => by have := hrows Q0 (by exact e); omega
        have s0_4 := cell_in (v := .int .i64 g0) (box_gr x0_3 hgr3 (fun e => hnq0 e.symm)) kk0
        refine hK.out _ _ (fun _ => ⟨hcl, s0_4⟩) ?_
        clear hK K
        try simp only [Act.put, List.setIfInBounds_toArray, List.set_cons_zero, List.set_cons_succ]
        refine wpU_take (i := 10) (oi := { dst := some 27, op := _, type := _, pos := _, after := _, guard := _ }) (v := .pointer (some ⟨B, 1, none⟩)) rfl (by kernel_rfl) (by kernel_rfl) (by kernel_rfl) (by kernel_rfl) (fun _ _ _ h => h) (Or.inl ⟨by rfl, fun w hSw => by (try dsimp only at hSw); (try go_split_ands); go_simp⟩) (by first | trivial | assumption) ?_
        try simp only [Act.put, List.setIfInBounds_toArray, List.set_cons_zero, List.set_cons_succ]
        refine wpU_ready (rs := [11]) (by kernel_rfl) (by simp) (AllU.cons (o := { dst := none, op := _, type := _, pos := _, after := _, guard := _ }) rfl ?_ AllU.nil)
        intro K hK
        go_simp
        refine hK.out _ _ (fun h => absurd rfl h) ?_
        clear hK K
        try simp only [Act.put, List.setIfInBounds_toArray, List.set_cons_zero, List.set_cons_succ]
        refine wpU_done (by kernel_rfl) ?_ _
        go_wp2
        go_meet
        exact ⟨_, _, _, _, _, _, _, hid ((hF _ rfl).mono (by omega))⟩
      · intro K hK
        go_simp
        go_wp2_with (go_at_call 38; refine (f38 B0 R n c _ a 3 _ hO0.cu (by omega) hn (by omega) (by omega)).mono ?_; rintro e w1 ⟨jj, rfl, jl0, jh0, hc, hg⟩)
        obtain ⟨j0, rfl⟩ : ∃ j : Nat, jj = j := ⟨jj.toNat, by omega⟩
        have jb0 : (j0 : Int) < 3 := by omega
        clear jh0
        have hO1 := (hO0.call hg hc).mono (lim' := lim + 20) (by omega)
        clear hc hg
        refine hK.out _ _ (fun _ => hO1.bx.cells.2.1) ?_
        clear hK K
        try simp only [Act.put, List.setIfInBounds_toArray, List.set_cons_zero, List.set_cons_succ]
        refine wpU_ready (rs := [2]) (by kernel_rfl) (by simp) (AllU.cons (o := { dst := some 19, op := _, type := _, pos := _, after := _, guard := _ }) rfl ?_ AllU.nil)
        intro K hK
        go_simp
        have hO2 := (hO1.new (.cells #[.int .i64 (4), .int .i64 (1439), .int .i64 (1440)] 3)).mono (lim' := lim + 30) (by omega)
        have x0_2 := heap_alloc_new w1 (.cells #[.int .i64 (4), .int .i64 (1439), .int .i64 (1440)] 3)
        obtain ⟨w2, hw2⟩ : ∃ vv, vv = w1.alloc (.cells #[.int .i64 (4), .int .i64 (1439), .int .i64 (1440)] 3) := ⟨_, rfl⟩
        rw [← hw2] at hO2 x0_2
        rw [← hw2]
        have hsz := hO1.ord
        have hBl := Cal.lt_block hO1.res
        obtain ⟨Q0, hQ0⟩ : ∃ x, x = w1.heap.size := ⟨_, rfl⟩
        rw [← hQ0] at x0_2 hBl
        rw [← hQ0]
        have hQB0 : B + 1 < Q0 := hBl
        have hQR0 : R < Q0 := by omega
        clear hBl hsz hQ0
        clear hw2
        refine hK.out _ _ (fun _ => hO2.bx.cells.2.1) ?_
        clear hK K
        try simp only [Act.put, List.setIfInBounds_toArray, List.set_cons_zero, List.set_cons_succ]
        obtain ⟨g0, kk0, hg0⟩ : ∃ g : Int, (#[.int .i64 (4), .int .i64 (1439), .int .i64 (1440)] : Array Value)[j0]? = some (.int .i64 g) ∧ In64 g := by
          rcases (show j0 = 0 ∨ j0 = 1 ∨ j0 = 2 by omega) with rfl | rfl | rfl
          · exact ⟨_, rfl, by decide⟩
          · exact ⟨_, rfl, by decide⟩
          · exact ⟨_, rfl, by decide⟩
        have s0_2 := cell_in x0_2 kk0
        refine wpU_mono (S := fun x => x.cell? ⟨B, 1, none⟩ = some (.slice b1 m1 k1) ∧ x.cell? ⟨Q0, j0, none⟩ = some (.int .i64 g0)) (fun x h => h.1) _ _ _ _ ?_
        have hHq : (fun x => x.cell? ⟨B, 1, none⟩ = some (.slice b1 m1 k1) ∧ x.cell? ⟨Q0, j0, none⟩ = some (.int .i64 g0)) w2 := ⟨hO2.bx.cells.2.1, s0_2⟩
        refine wpU_take (i := 5) (oi := { dst := some 22, op := _, type := _, pos := _, after := _, guard := _ }) (v := .pointer (some ⟨Q0, j0, none⟩)) rfl (by kernel_rfl) (by kernel_rfl) (by kernel_rfl) (by kernel_rfl) (fun _ _ _ h => h) (Or.inl ⟨by rfl, fun w hSw => by (try dsimp only at hSw); (try go_split_ands); go_simp⟩) (by first | trivial | assumption) ?_
        try simp only [Act.put, List.setIfInBounds_toArray, List.set_cons_zero, List.set_cons_succ]
        refine wpU_take (i := 6) (oi := { dst := some 23, op := _, type := _, pos := _, after := _, guard := _ }) (v := .int .i64 g0) rfl (by kernel_rfl) (by kernel_rfl) (by kernel_rfl) (by kernel_rfl) (fun _ _ _ h => h) (Or.inl ⟨by rfl, fun w hSw => by (try dsimp only at hSw); (try go_split_ands); go_simp⟩) (by first | trivial | assumption) ?_
        try simp only [Act.put, List.setIfInBounds_toArray, List.set_cons_zero, List.set_cons_succ]
        refine wpU_take (i := 7) (oi := { dst := some 24, op := _, type := _, pos := _, after := _, guard := _ }) (v := .agg #[.int .i64 (5), .int .i64 (g0)]) rfl (by kernel_rfl) (by kernel_rfl) (by kernel_rfl) (by kernel_rfl) (fun _ _ _ h => h) (Or.inl ⟨by rfl, fun w hSw => by (try dsimp only at hSw); (try go_split_ands); go_simp⟩) (by first | trivial | assumption) ?_
        try simp only [Act.put, List.setIfInBounds_toArray, List.set_cons_zero, List.set_cons_succ]
        refine wpU_ready (rs := [8]) (by kernel_rfl) (by simp) (AllU.cons (o := { dst := some 25, op := _, type := _, pos := _, after := _, guard := _ }) rfl ?_ AllU.nil)
        intro K hK
        go_simp
        have hO3 := (hO2.new (.cells #[.int .i64 (5), .int .i64 (g0)] 55)).mono (lim' := lim + 40) (by omega)
        have x0_3 := box_gr (row := none) x0_2 (grown_alloc (World.grownBy.refl _ _) (.cells #[.int .i64 (5), .int .i64 (g0)] 55)) (fun e => by cases e)
        have s0_3 := cell_in (v := .int .i64 g0) x0_3 kk0
        obtain ⟨w3, hw3⟩ : ∃ vv, vv = w2.alloc (.cells #[.int .i64 (5), .int .i64 (g0)] 55) := ⟨_, rfl⟩
        have hN := hw3
        rw [← hw3] at hO3 x0_3 s0_3
        rw [← hw3]
        clear hw3
        obtain ⟨_, _, _, l0, he0, hn0, hl0, hown0, hin0⟩ := hO3.bx.r1
        cases he0
        refine hK.out _ _ (fun _ => ⟨hO3.bx.cells.2.1, s0_3⟩) ?_
        clear hK K
        try simp only [Act.put, List.setIfInBounds_toArray, List.set_cons_zero, List.set_cons_succ]
        refine wpU_ready (rs := [9]) (by kernel_rfl) (by simp) (AllU.cons (o := { dst := some 26, op := _, type := _, pos := _, after := _, guard := _ }) rfl ?_ AllU.nil)
        intro K hK
        rw [if_pos (by rfl)]
        refine wp_append_own_at2 (.tmp 18) (.tmp 25) 23 rfl X 55 i0 (.agg #[.int .i64 0, .int .i64 0]) 2 16 Tryd.underlying23 hi' hz0 hz1 hz2 rfl (by decide) (.slice b1 m1 k1) m1 _ rfl hown0 ⟨w2.heap.size, 0, none⟩ 1 1 [.int .i64 (5), .int .i64 (g0)] rfl rfl ?d1 ?d2 ?d3 ?d4 ?d5 ?_
        case d1 => rw [hN]; exact two_new _ _ _ _
        case d2 => intro u hu; simp at hu; rcases hu with rfl | rfl <;> rfl
        case d3 => unfold maxLen; omega
        case d4 => omega
        case d5 => have := hO3.kb.size; have := hO3.ord; omega
        intro v3 w4 hown3 hgr3 _ hwho
        obtain ⟨a3, c3, rfl⟩ := own_form hown3
        have hrow : RowR 20 X w4 (.slice a3 (m1 + 1) c3) := ⟨_, _, _, l0 ++ [(5, g0)], rfl, by omega, by simp [hl0], by rw [flat_snoc]; exact hown3, fun p hp => by
          rcases List.mem_append.1 hp with h | h
          · exact hin0 p h
          · simp at h; subst h; exact ⟨(show In64 (5 : Int) by decide), hg0⟩⟩
        have hF := hO3.app1 (K' := 20) (by omega) hgr3 hrow hwho
        have hbx := (hgr3.block B (Cal.lt_block hO3.bx.box) (fun e => hO3.bx.nb _ (by simp) e.symm)).trans hO3.bx.box
        have hcl : w4.cell? ⟨B, 1, none⟩ = some (.slice b1 m1 k1) := Cal.cell_at hbx 1
        have hfz : w4.frozen? ⟨B, 1, none⟩ = false := by simp [World.frozen?, hbx]
        have hnq0 : Value.ownBlock (.slice b1 m1 k1) ≠ some Q0 := fun e => by have := hrows Q0 (by exact e); omega
        have s0_4 := cell_in (v := .int .i64 g0) (box_gr x0_3 hgr3 (fun e => hnq0 e.symm)) kk0
        refine hK.out _ _ (fun _ => ⟨hcl, s0_4⟩) ?_
        clear hK K
        try simp only [Act.put, List.setIfInBounds_toArray, List.set_cons_zero, List.set_cons_succ]
        refine wpU_take (i := 10) (oi := { dst := some 27, op := _, type := _, pos := _, after := _, guard := _ }) (v := .pointer (some ⟨B, 1, none⟩)) rfl (by kernel_rfl) (by kernel_rfl) (by kernel_rfl) (by kernel_rfl) (fun _ _ _ h => h) (Or.inl ⟨by rfl, fun w hSw => by (try dsimp only at hSw); (try go_split_ands); go_simp⟩) (by first | trivial | assumption) ?_
        try simp only [Act.put, List.setIfInBounds_toArray, List.set_cons_zero, List.set_cons_succ]
        refine wpU_ready (rs := [11]) (by kernel_rfl) (by simp) (AllU.cons (o := { dst := none, op := _, type := _, pos := _, after := _, guard := _ }) rfl ?_ AllU.nil)
        intro K hK
        go_simp
        refine hK.out _ _ (fun h => absurd rfl h) ?_
        clear hK K
        try simp only [Act.put, List.setIfInBounds_toArray, List.set_cons_zero, List.set_cons_succ]
        refine wpU_done (by kernel_rfl) ?_ _
        go_wp2
        go_meet
        exact ⟨_, _, _, _, _, _, _, hid ((hF _ rfl).mono (by omega))⟩
    by_cases e2q : x = 2
    · subst e2q
      go_wp2_with fail
      refine wpU_region 16 (fun x => x.cell? ⟨B, 3, none⟩ = some (.slice b3 m3 k3)) rfl ?_
      have hO0 := HO.out.drew.mono (lim' := lim + 10) (by omega)
      have hrows : ∀ g, Value.ownBlock (.slice b3 m3 k3) = some g → g < B := fun g e => HRW.out g _ (by simp) e
      clear HO
      generalize w1.drew = w0 at *
      have hHq : (fun x => x.cell? ⟨B, 3, none⟩ = some (.slice b3 m3 k3)) w0 := hO0.bx.cells.2.2.2.1
      refine wpU_take (i := 0) (oi := { dst := some 30, op := _, type := _, pos := _, after := _, guard := _ }) (v := .pointer (some ⟨B, 3, none⟩)) rfl (by kernel_rfl) (by kernel_rfl) (by kernel_rfl) (by kernel_rfl) (fun _ _ _ h => h) (Or.inl ⟨by rfl, fun w hSw => by (try dsimp only at hSw); (try go_split_ands); go_simp⟩) (by first | trivial | assumption) ?_
      try simp only [Act.put, List.setIfInBounds_toArray, List.set_cons_zero, List.set_cons_succ]
      refine wpU_take (i := 1) (oi := { dst := some 31, op := _, type := _, pos := _, after := _, guard := _ }) (v := .slice b3 m3 k3) rfl (by kernel_rfl) (by kernel_rfl) (by kernel_rfl) (by kernel_rfl) (fun _ _ _ h => h) (Or.inl ⟨by rfl, fun w hSw => by (try dsimp only at hSw); (try go_split_ands); go_simp⟩) (by first | trivial | assumption) ?_
      try simp only [Act.put, List.setIfInBounds_toArray, List.set_cons_zero, List.set_cons_succ]
      refine wpU_take (i := 3) (oi := { dst := some 33, op := _, type := _, pos := _, after := _, guard := _ }) (v := .pointer (some ⟨R, 0, none⟩)) rfl (by kernel_rfl) (by kernel_rfl) (by kernel_rfl) (by kernel_rfl) (fun _ _ _ h => h) (Or.inl ⟨by rfl, fun w hSw => by (try dsimp only at hSw); (try go_split_ands); go_simp⟩) (by first | trivial | assumption) ?_
      try simp only [Act.put, List.setIfInBounds_toArray, List.set_cons_zero, List.set_cons_succ]
      refine wpU_take (i := 8) (oi := { dst := some 38, op := _, type := _, pos := _, after := _, guard := _ }) (v := .pointer (some ⟨R, 0, none⟩)) rfl (by kernel_rfl) (by kernel_rfl) (by kernel_rfl) (by kernel_rfl) (fun _ _ _ h => h) (Or.inl ⟨by rfl, fun w hSw => by (try dsimp only at hSw); (try go_split_ands); go_simp⟩) (by first | trivial | assumption) ?_
      try simp only [Act.put, List.setIfInBounds_toArray, List.set_cons_zero, List.set_cons_succ]
      refine wpU_ready (rs := [2, 4, 7]) (by kernel_rfl) (by simp) (AllU.cons (o := { dst := some 32, op := _, type := _, pos := _, after := _, guard := _ }) rfl ?_ (AllU.cons (o := { dst := some 34, op := _, type := _, pos := _, after := _, guard := _ }) rfl ?_ (AllU.cons (o := { dst := some 37, op := _, type := _, pos := _, after := _, guard := _ }) rfl ?_ AllU.nil)))
      · intro K hK
        go_simp
        have hO1 := (hO0.new (.cells #[.int .i64 (-1), .int .i64 (0), .int .i64 (1)] 3)).mono (lim' := lim + 20) (by omega)
        have x0_1 := heap_alloc_new w0 (.cells #[.int .i64 (-1), .int .i64 (0), .int .i64 (1)] 3)
        obtain ⟨w1, hw1⟩ : ∃ vv, vv = w0.alloc (.cells #[.int .i64 (-1), .int .i64 (0), .int .i64 (1)] 3) := ⟨_, rfl⟩
        rw [← hw1] at hO1 x0_1
        rw [← hw1]
        have hsz := hO0.ord
        have hBl := Cal.lt_block hO0.res
        obtain ⟨Q0, hQ0⟩ : ∃ x, x = w0.heap.size := ⟨_, rfl⟩
        rw [← hQ0] at x0_1 hBl
        rw [← hQ0]
        have hQB0 : B + 1 < Q0 := hBl
        have hQR0 : R < Q0 := by omega
        clear hBl hsz hQ0
        clear hw1
        refine hK.out _ _ (fun _ => hO1.bx.cells.2.2.2.1) ?_
        clear hK K
        try simp only [Act.put, List.setIfInBounds_toArray, List.set_cons_zero, List.set_cons_succ]
        refine wpU_ready (rs := [4, 7]) (by kernel_rfl) (by simp) (AllU.cons (o := { dst := some 34, op := _, type := _, pos := _, after := _, guard := _ }) rfl ?_ (AllU.cons (o := { dst := some 37, op := _, type := _, pos := _, after := _, guard := _ }) rfl ?_ AllU.nil))
        · intro K hK
          go_simp
          go_wp2_with (go_at_call 38; refine (f38 B0 R n c _ a 3 _ hO1.cu (by omega) hn (by omega) (by omega)).mono ?_; rintro e w2 ⟨jj, rfl, jl0, jh0, hc, hg⟩)
          obtain ⟨j0, rfl⟩ : ∃ j : Nat, jj = j := ⟨jj.toNat, by omega⟩
          have jb0 : (j0 : Int) < 3 := by omega
          clear jh0
          have hO2 := (hO1.call hg hc).mono (lim' := lim + 30) (by omega)
          have x0_2 := box_gr (row := (some R)) x0_1 hg (fun e => by have := Option.some.inj e; omega)
          clear hc hg
          refine hK.out _ _ (fun _ => hO2.bx.cells.2.2.2.1) ?_
          clear hK K
          try simp only [Act.put, List.setIfInBounds_toArray, List.set_cons_zero, List.set_cons_succ]
          obtain ⟨g0, kk0, hg0⟩ : ∃ g : Int, (#[.int .i64 (-1), .int .i64 (0), .int .i64 (1)] : Array Value)[j0]? = some (.int .i64 g) ∧ In64 g := by
            rcases (show j0 = 0 ∨ j0 = 1 ∨ j0 = 2 by omega) with rfl | rfl | rfl
            · exact ⟨_, rfl, by decide⟩
            · exact ⟨_, rfl, by decide⟩
            · exact ⟨_, rfl, by decide⟩
          have s0_2 := cell_in x0_2 kk0
          refine wpU_mono (S := fun x => x.cell? ⟨B, 3, none⟩ = some (.slice b3 m3 k3) ∧ x.cell? ⟨Q0, j0, none⟩ = some (.int .i64 g0)) (fun x h => h.1) _ _ _ _ ?_
          have hHq : (fun x => x.cell? ⟨B, 3, none⟩ = some (.slice b3 m3 k3) ∧ x.cell? ⟨Q0, j0, none⟩ = some (.int .i64 g0)) w2 := ⟨hO2.bx.cells.2.2.2.1, s0_2⟩
          refine wpU_take (i := 5) (oi := { dst := some 35, op := _, type := _, pos := _, after := _, guard := _ }) (v := .pointer (some ⟨Q0, j0, none⟩)) rfl (by kernel_rfl) (by kernel_rfl) (by kernel_rfl) (by kernel_rfl) (fun _ _ _ h => h) (Or.inl ⟨by rfl, fun w hSw => by (try dsimp only at hSw); (try go_split_ands); go_simp⟩) (by first | trivial | assumption) ?_
          try simp only [Act.put, List.setIfInBounds_toArray, List.set_cons_zero, List.set_cons_succ]
          refine wpU_take (i := 6) (oi := { dst := some 36, op := _, type := _, pos := _, after := _, guard := _ }) (v := .int .i64 g0) rfl (by kernel_rfl) (by kernel_rfl) (by kernel_rfl) (by kernel_rfl) (fun _ _ _ h => h) (Or.inl ⟨by rfl, fun w hSw => by (try dsimp only at hSw); (try go_split_ands); go_simp⟩) (by first | trivial | assumption) ?_
          try simp only [Act.put, List.setIfInBounds_toArray, List.set_cons_zero, List.set_cons_succ]
          refine wpU_ready (rs := [7, 9]) (by kernel_rfl) (by simp) (AllU.cons (o := { dst := some 37, op := _, type := _, pos := _, after := _, guard := _ }) rfl ?_ (AllU.cons (o := { dst := some 39, op := _, type := _, pos := _, after := _, guard := _ }) rfl ?_ AllU.nil))
          · intro K hK
            go_simp
            have hO3 := (hO2.new (.cells #[.int .i64 (1), .int .i64 (0), .int .i64 (31), .int .i64 (32)] 3)).mono (lim' := lim + 40) (by omega)
            have x0_3 := box_gr (row := none) x0_2 (grown_alloc (World.grownBy.refl _ _) (.cells #[.int .i64 (1), .int .i64 (0), .int .i64 (31), .int .i64 (32)] 3)) (fun e => by cases e)
            have s0_3 := cell_in (v := .int .i64 g0) x0_3 kk0
            have x1_3 := heap_alloc_new w2 (.cells #[.int .i64 (1), .int .i64 (0), .int .i64 (31), .int .i64 (32)] 3)
            obtain ⟨w3, hw3⟩ : ∃ vv, vv = w2.alloc (.cells #[.int .i64 (1), .int .i64 (0), .int .i64 (31), .int .i64 (32)] 3) := ⟨_, rfl⟩
            rw [← hw3] at hO3 x0_3 s0_3 x1_3
            rw [← hw3]
            have hsz := hO2.ord
            have hBl := Cal.lt_block hO2.res
            obtain ⟨Q1, hQ1⟩ : ∃ x, x = w2.heap.size := ⟨_, rfl⟩
            rw [← hQ1] at x1_3 hBl
            rw [← hQ1]
            have hQB1 : B + 1 < Q1 := hBl
            have hQR1 : R < Q1 := by omega
            clear hBl hsz hQ1
            clear hw3
            refine hK.out _ _ (fun _ => ⟨hO3.bx.cells.2.2.2.1, s0_3⟩) ?_
            clear hK K
            try simp only [Act.put, List.setIfInBounds_toArray, List.set_cons_zero, List.set_cons_succ]
            refine wpU_ready (rs := [9]) (by kernel_rfl) (by simp) (AllU.cons (o := { dst := some 39, op := _, type := _, pos := _, after := _, guard := _ }) rfl ?_ AllU.nil)
            intro K hK
            go_simp
            go_wp2_with (go_at_call 38; refine (f38 B0 R n c _ a 4 _ hO3.cu (by omega) hn (by omega) (by omega)).mono ?_; rintro e w4 ⟨jj, rfl, jl1, jh1, hc, hg⟩)
            obtain ⟨j1, rfl⟩ : ∃ j : Nat, jj = j := ⟨jj.toNat, by omega⟩
            have jb1 : (j1 : Int) < 4 := by omega
            clear jh1
            have hO4 := (hO3.call hg hc).mono (lim' := lim + 50) (by omega)
            have x0_4 := box_gr (row := (some R)) x0_3 hg (fun e => by have := Option.some.inj e; omega)
            have s0_4 := cell_in (v := .int .i64 g0) x0_4 kk0
            have x1_4 := box_gr (row := (some R)) x1_3 hg (fun e => by have := Option.some.inj e; omega)
            clear hc hg
            refine hK.out _ _ (fun _ => ⟨hO4.bx.cells.2.2.2.1, s0_4⟩) ?_
            clear hK K
            try simp only [Act.put, List.setIfInBounds_toArray, List.set_cons_zero, List.set_cons_succ]
            obtain ⟨g1, kk1, hg1⟩ : ∃ g : Int, (#[.int .i64 (1), .int .i64 (0), .int .i64 (31), .int .i64 (32)] : Array Value)[j1]? = some (.int .i64 g) ∧ In64 g := by
              rcases (show j1 = 0 ∨ j1 = 1 ∨ j1 = 2 ∨ j1 = 3 by omega) with rfl | rfl | rfl | rfl
              · exact ⟨_, rfl, by decide⟩
              · exact ⟨_, rfl, by decide⟩
              · exact ⟨_, rfl, by decide⟩
              · exact ⟨_, rfl, by decide⟩
            have s1_4 := cell_in x1_4 kk1
            refine wpU_mono (S := fun x => x.cell? ⟨B, 3, none⟩ = some (.slice b3 m3 k3) ∧ x.cell? ⟨Q0, j0, none⟩ = some (.int .i64 g0) ∧ x.cell? ⟨Q1, j1, none⟩ = some (.int .i64 g1)) (fun x h => ⟨h.1, h.2.1⟩) _ _ _ _ ?_
            have hHq : (fun x => x.cell? ⟨B, 3, none⟩ = some (.slice b3 m3 k3) ∧ x.cell? ⟨Q0, j0, none⟩ = some (.int .i64 g0) ∧ x.cell? ⟨Q1, j1, none⟩ = some (.int .i64 g1)) w4 := ⟨hO4.bx.cells.2.2.2.1, s0_4, s1_4⟩
            refine wpU_take (i := 10) (oi := { dst := some 40, op := _, type := _, pos := _, after := _, guard := _ }) (v := .pointer (some ⟨Q1, j1, none⟩)) rfl (by kernel_rfl) (by kernel_rfl) (by kernel_rfl) (by kernel_rfl) (fun _ _ _ h => h) (Or.inl ⟨by rfl, fun w hSw => by (try dsimp only at hSw); (try go_split_ands); go_simp⟩) (by first | trivial | assumption) ?_
            try simp only [Act.put, List.setIfInBounds_toArray, List.set_cons_zero, List.set_cons_succ]
            refine wpU_take (i := 11) (oi := { dst := some 41, op := _, type := _, pos := _, after := _, guard := _ }) (v := .int .i64 g1) rfl (by kernel_rfl) (by kernel_rfl) (by kernel_rfl) (by kernel_rfl) (fun _ _ _ h => h) (Or.inl ⟨by rfl, fun w hSw => by (try dsimp only at hSw); (try go_split_ands); go_simp⟩) (by first | trivial | assumption) ?_
            try simp only [Act.put, List.setIfInBounds_toArray, List.set_cons_zero, List.set_cons_succ]
            refine wpU_take (i := 12) (oi := { dst := some 42, op := _, type := _, pos := _, after := _, guard := _ }) (v := .agg #[.int .i64 (g0), .int .i64 (g1)]) rfl (by kernel_rfl) (by kernel_rfl) (by kernel_rfl) (by kernel_rfl) (fun _ _ _ h => h) (Or.inl ⟨by rfl, fun w hSw => by (try dsimp only at hSw); (try go_split_ands); go_simp⟩) (by first | trivial | assumption) ?_
            try simp only [Act.put, List.setIfInBounds_toArray, List.set_cons_zero, List.set_cons_succ]
            refine wpU_ready (rs := [13]) (by kernel_rfl) (by simp) (AllU.cons (o := { dst := some 43, op := _, type := _, pos := _, after := _, guard := _ }) rfl ?_ AllU.nil)
            intro K hK
            go_simp
            have hO5 := (hO4.new (.cells #[.int .i64 (g0), .int .i64 (g1)] 55)).mono (lim' := lim + 60) (by omega)
            have x0_5 := box_gr (row := none) x0_4 (grown_alloc (World.grownBy.refl _ _) (.cells #[.int .i64 (g0), .int .i64 (g1)] 55)) (fun e => by cases e)
            have s0_5 := cell_in (v := .int .i64 g0) x0_5 kk0
            have x1_5 := box_gr (row := none) x1_4 (grown_alloc (World.grownBy.refl _ _) (.cells #[.int .i64 (g0), .int .i64 (g1)] 55)) (fun e => by cases e)
            have s1_5 := cell_in (v := .int .i64 g1) x1_5 kk1
            obtain ⟨w5, hw5⟩ : ∃ vv, vv = w4.alloc (.cells #[.int .i64 (g0), .int .i64 (g1)] 55) := ⟨_, rfl⟩
            have hN := hw5
            rw [← hw5] at hO5 x0_5 x1_5 s0_5 s1_5
            rw [← hw5]
            clear hw5
            obtain ⟨_, _, _, l0, he0, hn0, hl0, hown0, hin0⟩ := hO5.bx.r3
            cases he0
            refine hK.out _ _ (fun _ => ⟨hO5.bx.cells.2.2.2.1, s0_5, s1_5⟩) ?_
            clear hK K
            try simp only [Act.put, List.setIfInBounds_toArray, List.set_cons_zero, List.set_cons_succ]
            refine wpU_ready (rs := [14]) (by kernel_rfl) (by simp) (AllU.cons (o := { dst := some 44, op := _, type := _, pos := _, after := _, guard := _ }) rfl ?_ AllU.nil)
            intro K hK
            rw [if_pos (by rfl)]
            refine wp_append_own_at2 (.tmp 31) (.tmp 43) 23 rfl X 55 i0 (.agg #[.int .i64 0, .int .i64 0]) 2 16 Tryd.underlying23 hi' hz0 hz1 hz2 rfl (by decide) (.slice b3 m3 k3) m3 _ rfl hown0 ⟨w4.heap.size, 0, none⟩ 1 1 [.int .i64 (g0), .int .i64 (g1)] rfl rfl ?d1 ?d2 ?d3 ?d4 ?d5 ?_
            case d1 => rw [hN]; exact two_new _ _ _ _
            case d2 => intro u hu; simp at hu; rcases hu with rfl | rfl <;> rfl
            case d3 => unfold maxLen; omega
            case d4 => omega
            case d5 => have := hO5.kb.size; have := hO5.ord; omega
            intro v3 w6 hown3 hgr3 _ hwho
            obtain ⟨a3, c3, rfl⟩ := own_form hown3
            have hrow : RowR 20 X w6 (.slice a3 (m3 + 1) c3) := ⟨_, _, _, l0 ++ [(g0, g1)], rfl, by omega, by simp [hl0], by rw [flat_snoc]; exact hown3, fun p hp => by
              rcases List.mem_append.1 hp with h | h
              · exact hin0 p h
              · simp at h; subst h; exact ⟨hg0, hg1⟩⟩
            have hF := hO5.app3 (K' := 20) (by omega) hgr3 hrow hwho
            have hbx := (hgr3.block B (Cal.lt_block hO5.bx.box) (fun e => hO5.bx.nb _ (by simp) e.symm)).trans hO5.bx.box
            have hcl : w6.cell? ⟨B, 3, none⟩ = some (.slice b3 m3 k3) := Cal.cell_at hbx 3
            have hfz : w6.frozen? ⟨B, 3, none⟩ = false := by simp [World.frozen?, hbx]
            have hnq0 : Value.ownBlock (.slice b3 m3 k3) ≠ some Q0 := fun e => by have := hrows Q0 (by exact e); omega
            have hnq1 : Value.ownBlock (.slice b3 m3 k3) ≠ some Q1 := fun e => by have := hrows Q1 (by exact e); omega
            have s0_6 := cell_in (v := .int .i64 g0) (box_gr x0_5 hgr3 (fun e => hnq0 e.symm)) kk0
            have s1_6 := cell_in (v := .int .i64 g1) (box_gr x1_5 hgr3 (fun e => hnq1 e.symm)) kk1
            refine hK.out _ _ (fun _ => ⟨hcl, s0_6, s1_6⟩) ?_
            clear hK K
            try simp only [Act.put, List.setIfInBounds_toArray, List.set_cons_zero, List.set_cons_succ]
            refine wpU_take (i := 15) (oi := { dst := some 45, op := _, type := _, pos := _, after := _, guard := _ }) (v := .pointer (some ⟨B, 3, none⟩)) rfl (by kernel_rfl) (by kernel_rfl) (by kernel_rfl) (by kernel_rfl) (fun _ _ _ h => h) (Or.inl ⟨by rfl, fun w hSw => by (try dsimp only at hSw); (try go_split_ands); go_simp⟩) (by first | trivial | assumption) ?_
            try simp only [Act.put, List.setIfInBounds_toArray, List.set_cons_zero, List.set_cons_succ]
            refine wpU_ready (rs := [16]) (by kernel_rfl) (by simp) (AllU.cons (o := { dst := none, op := _, type := _, pos := _, after := _, guard := _ }) rfl ?_ AllU.nil)
            intro K hK
            go_simp
            refine hK.out _ _ (fun h => absurd rfl h) ?_
            clear hK K
            try simp only [Act.put, List.setIfInBounds_toArray, List.set_cons_zero, List.set_cons_succ]
            refine wpU_done (by kernel_rfl) ?_ _
            go_wp2
            go_meet
            exact ⟨_, _, _, _, _, _, _, hid ((hF _ rfl).mono (by omega))⟩
          · intro K hK
            go_simp
            go_wp2_with (go_at_call 38; refine (f38 B0 R n c _ a 4 _ hO2.cu (by omega) hn (by omega) (by omega)).mono ?_; rintro e w3 ⟨jj, rfl, jl1, jh1, hc, hg⟩)
            obtain ⟨j1, rfl⟩ : ∃ j : Nat, jj = j := ⟨jj.toNat, by omega⟩
            have jb1 : (j1 : Int) < 4 := by omega
            clear jh1
            have hO3 := (hO2.call hg hc).mono (lim' := lim + 40) (by omega)
            have x0_3 := box_gr (row := (some R)) x0_2 hg (fun e => by have := Option.some.inj e; omega)
            have s0_3 := cell_in (v := .int .i64 g0) x0_3 kk0
            clear hc hg
            refine hK.out _ _ (fun _ => ⟨hO3.bx.cells.2.2.2.1, s0_3⟩) ?_
            clear hK K
            try simp only [Act.put, List.setIfInBounds_toArray, List.set_cons_zero, List.set_cons_succ]
            refine wpU_ready (rs := [7]) (by kernel_rfl) (by simp) (AllU.cons (o := { dst := some 37, op := _, type := _, pos := _, after := _, guard := _ }) rfl ?_ AllU.nil)
            intro K hK
            go_simp
            have hO4 := (hO3.new (.cells #[.int .i64 (1), .int .i64 (0), .int .i64 (31), .int .i64 (32)] 3)).mono (lim' := lim + 50) (by omega)
            have x0_4 := box_gr (row := none) x0_3 (grown_alloc (World.grownBy.refl _ _) (.cells #[.int .i64 (1), .int .i64 (0), .int .i64 (31), .int .i64 (32)] 3)) (fun e => by cases e)
            have s0_4 := cell_in (v := .int .i64 g0) x0_4 kk0
            have x1_4 := heap_alloc_new w3 (.cells #[.int .i64 (1), .int .i64 (0), .int .i64 (31), .int .i64 (32)] 3)
            obtain ⟨w4, hw4⟩ : ∃ vv, vv = w3.alloc (.cells #[.int .i64 (1), .int .i64 (0), .int .i64 (31), .int .i64 (32)] 3) := ⟨_, rfl⟩
            rw [← hw4] at hO4 x0_4 s0_4 x1_4
            rw [← hw4]
            have hsz := hO3.ord
            have hBl := Cal.lt_block hO3.res
            obtain ⟨Q1, hQ1⟩ : ∃ x, x = w3.heap.size := ⟨_, rfl⟩
            rw [← hQ1] at x1_4 hBl
            rw [← hQ1]
            have hQB1 : B + 1 < Q1 := hBl
            have hQR1 : R < Q1 := by omega
            clear hBl hsz hQ1
            clear hw4
            refine hK.out _ _ (fun _ => ⟨hO4.bx.cells.2.2.2.1, s0_4⟩) ?_
            clear hK K
            try simp only [Act.put, List.setIfInBounds_toArray, List.set_cons_zero, List.set_cons_succ]
            obtain ⟨g1, kk1, hg1⟩ : ∃ g : Int, (#[.int .i64 (1), .int .i64 (0), .int .i64 (31), .int .i64 (32)] : Array Value)[j1]? = some (.int .i64 g) ∧ In64 g := by
              rcases (show j1 = 0 ∨ j1 = 1 ∨ j1 = 2 ∨ j1 = 3 by omega) with rfl | rfl | rfl | rfl
              · exact ⟨_, rfl, by decide⟩
              · exact ⟨_, rfl, by decide⟩
              · exact ⟨_, rfl, by decide⟩
              · exact ⟨_, rfl, by decide⟩
            have s1_4 := cell_in x1_4 kk1
            refine wpU_mono (S := fun x => x.cell? ⟨B, 3, none⟩ = some (.slice b3 m3 k3) ∧ x.cell? ⟨Q0, j0, none⟩ = some (.int .i64 g0) ∧ x.cell? ⟨Q1, j1, none⟩ = some (.int .i64 g1)) (fun x h => ⟨h.1, h.2.1⟩) _ _ _ _ ?_
            have hHq : (fun x => x.cell? ⟨B, 3, none⟩ = some (.slice b3 m3 k3) ∧ x.cell? ⟨Q0, j0, none⟩ = some (.int .i64 g0) ∧ x.cell? ⟨Q1, j1, none⟩ = some (.int .i64 g1)) w4 := ⟨hO4.bx.cells.2.2.2.1, s0_4, s1_4⟩
            refine wpU_take (i := 10) (oi := { dst := some 40, op := _, type := _, pos := _, after := _, guard := _ }) (v := .pointer (some ⟨Q1, j1, none⟩)) rfl (by kernel_rfl) (by kernel_rfl) (by kernel_rfl) (by kernel_rfl) (fun _ _ _ h => h) (Or.inl ⟨by rfl, fun w hSw => by (try dsimp only at hSw); (try go_split_ands); go_simp⟩) (by first | trivial | assumption) ?_
            try simp only [Act.put, List.setIfInBounds_toArray, List.set_cons_zero, List.set_cons_succ]
            refine wpU_take (i := 11) (oi := { dst := some 41, op := _, type := _, pos := _, after := _, guard := _ }) (v := .int .i64 g1) rfl (by kernel_rfl) (by kernel_rfl) (by kernel_rfl) (by kernel_rfl) (fun _ _ _ h => h) (Or.inl ⟨by rfl, fun w hSw => by (try dsimp only at hSw); (try go_split_ands); go_simp⟩) (by first | trivial | assumption) ?_
            try simp only [Act.put, List.setIfInBounds_toArray, List.set_cons_zero, List.set_cons_succ]
            refine wpU_take (i := 12) (oi := { dst := some 42, op := _, type := _, pos := _, after := _, guard := _ }) (v := .agg #[.int .i64 (g0), .int .i64 (g1)]) rfl (by kernel_rfl) (by kernel_rfl) (by kernel_rfl) (by kernel_rfl) (fun _ _ _ h => h) (Or.inl ⟨by rfl, fun w hSw => by (try dsimp only at hSw); (try go_split_ands); go_simp⟩) (by first | trivial | assumption) ?_
            try simp only [Act.put, List.setIfInBounds_toArray, List.set_cons_zero, List.set_cons_succ]
            refine wpU_ready (rs := [13]) (by kernel_rfl) (by simp) (AllU.cons (o := { dst := some 43, op := _, type := _, pos := _, after := _, guard := _ }) rfl ?_ AllU.nil)
            intro K hK
            go_simp
            have hO5 := (hO4.new (.cells #[.int .i64 (g0), .int .i64 (g1)] 55)).mono (lim' := lim + 60) (by omega)
            have x0_5 := box_gr (row := none) x0_4 (grown_alloc (World.grownBy.refl _ _) (.cells #[.int .i64 (g0), .int .i64 (g1)] 55)) (fun e => by cases e)
            have s0_5 := cell_in (v := .int .i64 g0) x0_5 kk0
            have x1_5 := box_gr (row := none) x1_4 (grown_alloc (World.grownBy.refl _ _) (.cells #[.int .i64 (g0), .int .i64 (g1)] 55)) (fun e => by cases e)
            have s1_5 := cell_in (v := .int .i64 g1) x1_5 kk1
            obtain ⟨w5, hw5⟩ : ∃ vv, vv = w4.alloc (.cells #[.int .i64 (g0), .int .i64 (g1)] 55) := ⟨_, rfl⟩
            have hN := hw5
            rw [← hw5] at hO5 x0_5 x1_5 s0_5 s1_5
            rw [← hw5]
            clear hw5
            obtain ⟨_, _, _, l0, he0, hn0, hl0, hown0, hin0⟩ := hO5.bx.r3
            cases he0
            refine hK.out _ _ (fun _ => ⟨hO5.bx.cells.2.2.2.1, s0_5, s1_5⟩) ?_
            clear hK K
            try simp only [Act.put, List.setIfInBounds_toArray, List.set_cons_zero, List.set_cons_succ]
            refine wpU_ready (rs := [14]) (by kernel_rfl) (by simp) (AllU.cons (o := { dst := some 44, op := _, type := _, pos := _, after := _, guard := _ }) rfl ?_ AllU.nil)
            intro K hK
            rw [if_pos (by rfl)]
            refine wp_append_own_at2 (.tmp 31) (.tmp 43) 23 rfl X 55 i0 (.agg #[.int .i64 0, .int .i64 0]) 2 16 Tryd.underlying23 hi' hz0 hz1 hz2 rfl (by decide) (.slice b3 m3 k3) m3 _ rfl hown0 ⟨w4.heap.size, 0, none⟩ 1 1 [.int .i64 (g0), .int .i64 (g1)] rfl rfl ?d1 ?d2 ?d3 ?d4 ?d5 ?_
            case d1 => rw [hN]; exact two_new _ _ _ _
            case d2 => intro u hu; simp at hu; rcases hu with rfl | rfl <;> rfl
            case d3 => unfold maxLen; omega
            case d4 => omega
            case d5 => have := hO5.kb.size; have := hO5.ord; omega
            intro v3 w6 hown3 hgr3 _ hwho
            obtain ⟨a3, c3, rfl⟩ := own_form hown3
            have hrow : RowR 20 X w6 (.slice a3 (m3 + 1) c3) := ⟨_, _, _, l0 ++ [(g0, g1)], rfl, by omega, by simp [hl0], by rw [flat_snoc]; exact hown3, fun p hp => by
              rcases List.mem_append.1 hp with h | h
              · exact hin0 p h
              · simp at h; subst h; exact ⟨hg0, hg1⟩⟩
            have hF := hO5.app3 (K' := 20) (by omega) hgr3 hrow hwho
            have hbx := (hgr3.block B (Cal.lt_block hO5.bx.box) (fun e => hO5.bx.nb _ (by simp) e.symm)).trans hO5.bx.box
            have hcl : w6.cell? ⟨B, 3, none⟩ = some (.slice b3 m3 k3) := Cal.cell_at hbx 3
            have hfz : w6.frozen? ⟨B, 3, none⟩ = false := by simp [World.frozen?, hbx]
            have hnq0 : Value.ownBlock (.slice b3 m3 k3) ≠ some Q0 := fun e => by have := hrows Q0 (by exact e); omega
            have hnq1 : Value.ownBlock (.slice b3 m3 k3) ≠ some Q1 := fun e => by have := hrows Q1 (by exact e); omega
            have s0_6 := cell_in (v := .int .i64 g0) (box_gr x0_5 hgr3 (fun e => hnq0 e.symm)) kk0
            have s1_6 := cell_in (v := .int .i64 g1) (box_gr x1_5 hgr3 (fun e => hnq1 e.symm)) kk1
            refine hK.out _ _ (fun _ => ⟨hcl, s0_6, s1_6⟩) ?_
            clear hK K
            try simp only [Act.put, List.setIfInBounds_toArray, List.set_cons_zero, List.set_cons_succ]
            refine wpU_take (i := 15) (oi := { dst := some 45, op := _, type := _, pos := _, after := _, guard := _ }) (v := .pointer (some ⟨B, 3, none⟩)) rfl (by kernel_rfl) (by kernel_rfl) (by kernel_rfl) (by kernel_rfl) (fun _ _ _ h => h) (Or.inl ⟨by rfl, fun w hSw => by (try dsimp only at hSw); (try go_split_ands); go_simp⟩) (by first | trivial | assumption) ?_
            try simp only [Act.put, List.setIfInBounds_toArray, List.set_cons_zero, List.set_cons_succ]
            refine wpU_ready (rs := [16]) (by kernel_rfl) (by simp) (AllU.cons (o := { dst := none, op := _, type := _, pos := _, after := _, guard := _ }) rfl ?_ AllU.nil)
            intro K hK
            go_simp
            refine hK.out _ _ (fun h => absurd rfl h) ?_
            clear hK K
            try simp only [Act.put, List.setIfInBounds_toArray, List.set_cons_zero, List.set_cons_succ]
            refine wpU_done (by kernel_rfl) ?_ _
            go_wp2
            go_meet
            exact ⟨_, _, _, _, _, _, _, hid ((hF _ rfl).mono (by omega))⟩
        · intro K hK
          go_simp
          have hO2 := (hO1.new (.cells #[.int .i64 (1), .int .i64 (0), .int .i64 (31), .int .i64 (32)] 3)).mono (lim' := lim + 30) (by omega)
          have x0_2 := box_gr (row := none) x0_1 (grown_alloc (World.grownBy.refl _ _) (.cells #[.int .i64 (1), .int .i64 (0), .int .i64 (31), .int .i64 (32)] 3)) (fun e => by cases e)
          have x1_2 := heap_alloc_new w1 (.cells #[.int .i64 (1), .int .i64 (0), .int .i64 (31), .int .i64 (32)] 3)
          obtain ⟨w2, hw2⟩ : ∃ vv, vv = w1.alloc (.cells #[.int .i64 (1), .int .i64 (0), .int .i64 (31), .int .i64 (32)] 3) := ⟨_, rfl⟩
          rw [← hw2] at hO2 x0_2 x1_2
          rw [← hw2]
          have hsz := hO1.ord
          have hBl := Cal.lt_block hO1.res
          obtain ⟨Q1, hQ1⟩ : ∃ x, x = w1.heap.size := ⟨_, rfl⟩
          rw [← hQ1] at x1_2 hBl
          rw [← hQ1]
          have hQB1 : B + 1 < Q1 := hBl
          have hQR1 : R < Q1 := by omega
          clear hBl hsz hQ1
          clear hw2
          refine hK.out _ _ (fun _ => hO2.bx.cells.2.2.2.1) ?_
          clear hK K
          try simp only [Act.put, List.setIfInBounds_toArray, List.set_cons_zero, List.set_cons_succ]
          refine wpU_ready (rs := [4]) (by kernel_rfl) (by simp) (AllU.cons (o := { dst := some 34, op := _, type := _, pos := _, after := _, guard := _ }) rfl ?_ AllU.nil)
          intro K hK
          go_simp
          go_wp2_with (go_at_call 38; refine (f38 B0 R n c _ a 3 _ hO2.cu (by omega) hn (by omega) (by omega)).mono ?_; rintro e w3 ⟨jj, rfl, jl0, jh0, hc, hg⟩)
          obtain ⟨j0, rfl⟩ : ∃ j : Nat, jj = j := ⟨jj.toNat, by omega⟩
          have jb0 : (j0 : Int) < 3 := by omega
          clear jh0
          have hO3 := (hO2.call hg hc).mono (lim' := lim + 40) (by omega)
          have x0_3 := box_gr (row := (some R)) x0_2 hg (fun e => by have := Option.some.inj e; omega)
          have x1_3 := box_gr (row := (some R)) x1_2 hg (fun e => by have := Option.some.inj e; omega)
          clear hc hg
          refine hK.out _ _ (fun _ => hO3.bx.cells.2.2.2.1) ?_
          clear hK K
          try simp only [Act.put, List.setIfInBounds_toArray, List.set_cons_zero, List.set_cons_succ]
          obtain ⟨g0, kk0, hg0⟩ : ∃ g : Int, (#[.int .i64 (-1), .int .i64 (0), .int .i64 (1)] : Array Value)[j0]? = some (.int .i64 g) ∧ In64 g := by
            rcases (show j0 = 0 ∨ j0 = 1 ∨ j0 = 2 by omega) with rfl | rfl | rfl
            · exact ⟨_, rfl, by decide⟩
            · exact ⟨_, rfl, by decide⟩
            · exact ⟨_, rfl, by decide⟩
          have s0_3 := cell_in x0_3 kk0
          refine wpU_mono (S := fun x => x.cell? ⟨B, 3, none⟩ = some (.slice b3 m3 k3) ∧ x.cell? ⟨Q0, j0, none⟩ = some (.int .i64 g0)) (fun x h => h.1) _ _ _ _ ?_
          have hHq : (fun x => x.cell? ⟨B, 3, none⟩ = some (.slice b3 m3 k3) ∧ x.cell? ⟨Q0, j0, none⟩ = some (.int .i64 g0)) w3 := ⟨hO3.bx.cells.2.2.2.1, s0_3⟩
          refine wpU_take (i := 5) (oi := { dst := some 35, op := _, type := _, pos := _, after := _, guard := _ }) (v := .pointer (some ⟨Q0, j0, none⟩)) rfl (by kernel_rfl) (by kernel_rfl) (by kernel_rfl) (by kernel_rfl) (fun _ _ _ h => h) (Or.inl ⟨by rfl, fun w hSw => by (try dsimp only at hSw); (try go_split_ands); go_simp⟩) (by first | trivial | assumption) ?_
          try simp only [Act.put, List.setIfInBounds_toArray, List.set_cons_zero, List.set_cons_succ]
          refine wpU_take (i := 6) (oi := { dst := some 36, op := _, type := _, pos := _, after := _, guard := _ }) (v := .int .i64 g0) rfl (by kernel_rfl) (by kernel_rfl) (by kernel_rfl) (by kernel_rfl) (fun _ _ _ h => h) (Or.inl ⟨by rfl, fun w hSw => by (try dsimp only at hSw); (try go_split_ands); go_simp⟩) (by first | trivial | assumption) ?_
          try simp only [Act.put, List.setIfInBounds_toArray, List.set_cons_zero, List.set_cons_succ]
          refine wpU_ready (rs := [9]) (by kernel_rfl) (by simp) (AllU.cons (o := { dst := some 39, op := _, type := _, pos := _, after := _, guard := _ }) rfl ?_ AllU.nil)
          intro K hK
          go_simp
          go_wp2_with (go_at_call 38; refine (f38 B0 R n c _ a 4 _ hO3.cu (by omega) hn (by omega) (by omega)).mono ?_; rintro e w4 ⟨jj, rfl, jl1, jh1, hc, hg⟩)
          obtain ⟨j1, rfl⟩ : ∃ j : Nat, jj = j := ⟨jj.toNat, by omega⟩
          have jb1 : (j1 : Int) < 4 := by omega
          clear jh1
          have hO4 := (hO3.call hg hc).mono (lim' := lim + 50) (by omega)
          have x0_4 := box_gr (row := (some R)) x0_3 hg (fun e => by have := Option.some.inj e; omega)
          have s0_4 := cell_in (v := .int .i64 g0) x0_4 kk0
          have x1_4 := box_gr (row := (some R)) x1_3 hg (fun e => by have := Option.some.inj e; omega)
          clear hc hg
          refine hK.out _ _ (fun _ => ⟨hO4.bx.cells.2.2.2.1, s0_4⟩) ?_
          clear hK K
          try simp only [Act.put, List.setIfInBounds_toArray, List.set_cons_zero, List.set_cons_succ]
          obtain ⟨g1, kk1, hg1⟩ : ∃ g : Int, (#[.int .i64 (1), .int .i64 (0), .int .i64 (31), .int .i64 (32)] : Array Value)[j1]? = some (.int .i64 g) ∧ In64 g := by
            rcases (show j1 = 0 ∨ j1 = 1 ∨ j1 = 2 ∨ j1 = 3 by omega) with rfl | rfl | rfl | rfl
            · exact ⟨_, rfl, by decide⟩
            · exact ⟨_, rfl, by decide⟩
            · exact ⟨_, rfl, by decide⟩
            · exact ⟨_, rfl, by decide⟩
          have s1_4 := cell_in x1_4 kk1
          refine wpU_mono (S := fun x => x.cell? ⟨B, 3, none⟩ = some (.slice b3 m3 k3) ∧ x.cell? ⟨Q0, j0, none⟩ = some (.int .i64 g0) ∧ x.cell? ⟨Q1, j1, none⟩ = some (.int .i64 g1)) (fun x h => ⟨h.1, h.2.1⟩) _ _ _ _ ?_
          have hHq : (fun x => x.cell? ⟨B, 3, none⟩ = some (.slice b3 m3 k3) ∧ x.cell? ⟨Q0, j0, none⟩ = some (.int .i64 g0) ∧ x.cell? ⟨Q1, j1, none⟩ = some (.int .i64 g1)) w4 := ⟨hO4.bx.cells.2.2.2.1, s0_4, s1_4⟩
          refine wpU_take (i := 10) (oi := { dst := some 40, op := _, type := _, pos := _, after := _, guard := _ }) (v := .pointer (some ⟨Q1, j1, none⟩)) rfl (by kernel_rfl) (by kernel_rfl) (by kernel_rfl) (by kernel_rfl) (fun _ _ _ h => h) (Or.inl ⟨by rfl, fun w hSw => by (try dsimp only at hSw); (try go_split_ands); go_simp⟩) (by first | trivial | assumption) ?_
          try simp only [Act.put, List.setIfInBounds_toArray, List.set_cons_zero, List.set_cons_succ]
          refine wpU_take (i := 11) (oi := { dst := some 41, op := _, type := _, pos := _, after := _, guard := _ }) (v := .int .i64 g1) rfl (by kernel_rfl) (by kernel_rfl) (by kernel_rfl) (by kernel_rfl) (fun _ _ _ h => h) (Or.inl ⟨by rfl, fun w hSw => by (try dsimp only at hSw); (try go_split_ands); go_simp⟩) (by first | trivial | assumption) ?_
          try simp only [Act.put, List.setIfInBounds_toArray, List.set_cons_zero, List.set_cons_succ]
          refine wpU_take (i := 12) (oi := { dst := some 42, op := _, type := _, pos := _, after := _, guard := _ }) (v := .agg #[.int .i64 (g0), .int .i64 (g1)]) rfl (by kernel_rfl) (by kernel_rfl) (by kernel_rfl) (by kernel_rfl) (fun _ _ _ h => h) (Or.inl ⟨by rfl, fun w hSw => by (try dsimp only at hSw); (try go_split_ands); go_simp⟩) (by first | trivial | assumption) ?_
          try simp only [Act.put, List.setIfInBounds_toArray, List.set_cons_zero, List.set_cons_succ]
          refine wpU_ready (rs := [13]) (by kernel_rfl) (by simp) (AllU.cons (o := { dst := some 43, op := _, type := _, pos := _, after := _, guard := _ }) rfl ?_ AllU.nil)
          intro K hK
          go_simp
          have hO5 := (hO4.new (.cells #[.int .i64 (g0), .int .i64 (g1)] 55)).mono (lim' := lim + 60) (by omega)
          have x0_5 := box_gr (row := none) x0_4 (grown_alloc (World.grownBy.refl _ _) (.cells #[.int .i64 (g0), .int .i64 (g1)] 55)) (fun e => by cases e)
          have s0_5 := cell_in (v := .int .i64 g0) x0_5 kk0
          have x1_5 := box_gr (row := none) x1_4 (grown_alloc (World.grownBy.refl _ _) (.cells #[.int .i64 (g0), .int .i64 (g1)] 55)) (fun e => by cases e)
          have s1_5 := cell_in (v := .int .i64 g1) x1_5 kk1
          obtain ⟨w5, hw5⟩ : ∃ vv, vv = w4.alloc (.cells #[.int .i64 (g0), .int .i64 (g1)] 55) := ⟨_, rfl⟩
          have hN := hw5
          rw [← hw5] at hO5 x0_5 x1_5 s0_5 s1_5
          rw [← hw5]
          clear hw5
          obtain ⟨_, _, _, l0, he0, hn0, hl0, hown0, hin0⟩ := hO5.bx.r3
          cases he0
          refine hK.out _ _ (fun _ => ⟨hO5.bx.cells.2.2.2.1, s0_5, s1_5⟩) ?_
          clear hK K
          try simp only [Act.put, List.setIfInBounds_toArray, List.set_cons_zero, List.set_cons_succ]
          refine wpU_ready (rs := [14]) (by kernel_rfl) (by simp) (AllU.cons (o := { dst := some 44, op := _, type := _, pos := _, after := _, guard := _ }) rfl ?_ AllU.nil)
          intro K hK
          rw [if_pos (by rfl)]
          refine wp_append_own_at2 (.tmp 31) (.tmp 43) 23 rfl X 55 i0 (.agg #[.int .i64 0, .int .i64 0]) 2 16 Tryd.underlying23 hi' hz0 hz1 hz2 rfl (by decide) (.slice b3 m3 k3) m3 _ rfl hown0 ⟨w4.heap.size, 0, none⟩ 1 1 [.int .i64 (g0), .int .i64 (g1)] rfl rfl ?d1 ?d2 ?d3 ?d4 ?d5 ?_
          case d1 => rw [hN]; exact two_new _ _ _ _
          case d2 => intro u hu; simp at hu; rcases hu with rfl | rfl <;> rfl
          case d3 => unfold maxLen; omega
          case d4 => omega
          case d5 => have := hO5.kb.size; have := hO5.ord; omega
          intro v3 w6 hown3 hgr3 _ hwho
          obtain ⟨a3, c3, rfl⟩ := own_form hown3
          have hrow : RowR 20 X w6 (.slice a3 (m3 + 1) c3) := ⟨_, _, _, l0 ++ [(g0, g1)], rfl, by omega, by simp [hl0], by rw [flat_snoc]; exact hown3, fun p hp => by
            rcases List.mem_append.1 hp with h | h
            · exact hin0 p h
            · simp at h; subst h; exact ⟨hg0, hg1⟩⟩
          have hF := hO5.app3 (K' := 20) (by omega) hgr3 hrow hwho
          have hbx := (hgr3.block B (Cal.lt_block hO5.bx.box) (fun e => hO5.bx.nb _ (by simp) e.symm)).trans hO5.bx.box
          have hcl : w6.cell? ⟨B, 3, none⟩ = some (.slice b3 m3 k3) := Cal.cell_at hbx 3
          have hfz : w6.frozen? ⟨B, 3, none⟩ = false := by simp [World.frozen?, hbx]
          have hnq0 : Value.ownBlock (.slice b3 m3 k3) ≠ some Q0 := fun e => by have := hrows Q0 (by exact e); omega
          have hnq1 : Value.ownBlock (.slice b3 m3 k3) ≠ some Q1 := fun e => by have := hrows Q1 (by exact e); omega
          have s0_6 := cell_in (v := .int .i64 g0) (box_gr x0_5 hgr3 (fun e => hnq0 e.symm)) kk0
          have s1_6 := cell_in (v := .int .i64 g1) (box_gr x1_5 hgr3 (fun e => hnq1 e.symm)) kk1
          refine hK.out _ _ (fun _ => ⟨hcl, s0_6, s1_6⟩) ?_
          clear hK K
          try simp only [Act.put, List.setIfInBounds_toArray, List.set_cons_zero, List.set_cons_succ]
          refine wpU_take (i := 15) (oi := { dst := some 45, op := _, type := _, pos := _, after := _, guard := _ }) (v := .pointer (some ⟨B, 3, none⟩)) rfl (by kernel_rfl) (by kernel_rfl) (by kernel_rfl) (by kernel_rfl) (fun _ _ _ h => h) (Or.inl ⟨by rfl, fun w hSw => by (try dsimp only at hSw); (try go_split_ands); go_simp⟩) (by first | trivial | assumption) ?_
          try simp only [Act.put, List.setIfInBounds_toArray, List.set_cons_zero, List.set_cons_succ]
          refine wpU_ready (rs := [16]) (by kernel_rfl) (by simp) (AllU.cons (o := { dst := none, op := _, type := _, pos := _, after := _, guard := _ }) rfl ?_ AllU.nil)
          intro K hK
          go_simp
          refine hK.out _ _ (fun h => absurd rfl h) ?_
          clear hK K
          try simp only [Act.put, List.setIfInBounds_toArray, List.set_cons_zero, List.set_cons_succ]
          refine wpU_done (by kernel_rfl) ?_ _
          go_wp2
          go_meet
          exact ⟨_, _, _, _, _, _, _, hid ((hF _ rfl).mono (by omega))⟩
      · intro K hK
        go_simp
        go_wp2_with (go_at_call 38; refine (f38 B0 R n c _ a 3 _ hO0.cu (by omega) hn (by omega) (by omega)).mono ?_; rintro e w1 ⟨jj, rfl, jl0, jh0, hc, hg⟩)
        obtain ⟨j0, rfl⟩ : ∃ j : Nat, jj = j := ⟨jj.toNat, by omega⟩
        have jb0 : (j0 : Int) < 3 := by omega
        clear jh0
        have hO1 := (hO0.call hg hc).mono (lim' := lim + 20) (by omega)
        clear hc hg
        refine hK.out _ _ (fun _ => hO1.bx.cells.2.2.2.1) ?_
        clear hK K
        try simp only [Act.put, List.setIfInBounds_toArray, List.set_cons_zero, List.set_cons_succ]
        refine wpU_ready (rs := [2, 7, 9]) (by kernel_rfl) (by simp) (AllU.cons (o := { dst := some 32, op := _, type := _, pos := _, after := _, guard := _ }) rfl ?_ (AllU.cons (o := { dst := some 37, op := _, type := _, pos := _, after := _, guard := _ }) rfl ?_ (AllU.cons (o := { dst := some 39, op := _, type := _, pos := _, after := _, guard := _ }) rfl ?_ AllU.nil)))
        · intro K hK
          go_simp
          have hO2 := (hO1.new (.cells #[.int .i64 (-1), .int .i64 (0), .int .i64 (1)] 3)).mono (lim' := lim + 30) (by omega)
          have x0_2 := heap_alloc_new w1 (.cells #[.int .i64 (-1), .int .i64 (0), .int .i64 (1)] 3)
          obtain ⟨w2, hw2⟩ : ∃ vv, vv = w1.alloc (.cells #[.int .i64 (-1), .int .i64 (0), .int .i64 (1)] 3) := ⟨_, rfl⟩
          rw [← hw2] at hO2 x0_2
          rw [← hw2]
          have hsz := hO1.ord
          have hBl := Cal.lt_block hO1.res
          obtain ⟨Q0, hQ0⟩ : ∃ x, x = w1.heap.size := ⟨_, rfl⟩
          rw [← hQ0] at x0_2 hBl
          rw [← hQ0]
          have hQB0 : B + 1 < Q0 := hBl
          have hQR0 : R < Q0 := by omega
          clear hBl hsz hQ0
          clear hw2
          refine hK.out _ _ (fun _ => hO2.bx.cells.2.2.2.1) ?_
          clear hK K
          try simp only [Act.put, List.setIfInBounds_toArray, List.set_cons_zero, List.set_cons_succ]
          obtain ⟨g0, kk0, hg0⟩ : ∃ g : Int, (#[.int .i64 (-1), .int .i64 (0), .int .i64 (1)] : Array Value)[j0]? = some (.int .i64 g) ∧ In64 g := by
            rcases (show j0 = 0 ∨ j0 = 1 ∨ j0 = 2 by omega) with rfl | rfl | rfl
            · exact ⟨_, rfl, by decide⟩
            · exact ⟨_, rfl, by decide⟩
            · exact ⟨_, rfl, by decide⟩
          have s0_2 := cell_in x0_2 kk0
          refine wpU_mono (S := fun x => x.cell? ⟨B, 3, none⟩ = some (.slice b3 m3 k3) ∧ x.cell? ⟨Q0, j0, none⟩ = some (.int .i64 g0)) (fun x h => h.1) _ _ _ _ ?_
          have hHq : (fun x => x.cell? ⟨B, 3, none⟩ = some (.slice b3 m3 k3) ∧ x.cell? ⟨Q0, j0, none⟩ = some (.int .i64 g0)) w2 := ⟨hO2.bx.cells.2.2.2.1, s0_2⟩
          refine wpU_take (i := 5) (oi := { dst := some 35, op := _, type := _, pos := _, after := _, guard := _ }) (v := .pointer (some ⟨Q0, j0, none⟩)) rfl (by kernel_rfl) (by kernel_rfl) (by kernel_rfl) (by kernel_rfl) (fun _ _ _ h => h) (Or.inl ⟨by rfl, fun w hSw => by (try dsimp only at hSw); (try go_split_ands); go_simp⟩) (by first | trivial | assumption) ?_
          try simp only [Act.put, List.setIfInBounds_toArray, List.set_cons_zero, List.set_cons_succ]
          refine wpU_take (i := 6) (oi := { dst := some 36, op := _, type := _, pos := _, after := _, guard := _ }) (v := .int .i64 g0) rfl (by kernel_rfl) (by kernel_rfl) (by kernel_rfl) (by kernel_rfl) (fun _ _ _ h => h) (Or.inl ⟨by rfl, fun w hSw => by (try dsimp only at hSw); (try go_split_ands); go_simp⟩) (by first | trivial | assumption) ?_
          try simp only [Act.put, List.setIfInBounds_toArray, List.set_cons_zero, List.set_cons_succ]
          refine wpU_ready (rs := [7, 9]) (by kernel_rfl) (by simp) (AllU.cons (o := { dst := some 37, op := _, type := _, pos := _, after := _, guard := _ }) rfl ?_ (AllU.cons (o := { dst := some 39, op := _, type := _, pos := _, after := _, guard := _ }) rfl ?_ AllU.nil))
          · intro K hK
            go_simp
            have hO3 := (hO2.new (.cells #[.int .i64 (1), .int .i64 (0), .int .i64 (31), .int .i64 (32)] 3)).mono (lim' := lim + 40) (by omega)
            have x0_3 := box_gr (row := none) x0_2 (grown_alloc (World.grownBy.refl _ _) (.cells #[.int .i64 (1), .int .i64 (0), .int .i64 (31), .int .i64 (32)] 3)) (fun e => by cases e)
            have s0_3 := cell_in (v := .int .i64 g0) x0_3 kk0
            have x1_3 := heap_alloc_new w2 (.cells #[.int .i64 (1), .int .i64 (0), .int .i64 (31), .int .i64 (32)] 3)
            obtain ⟨w3, hw3⟩ : ∃ vv, vv = w2.alloc (.cells #[.int .i64 (1), .int .i64 (0), .int .i64 (31), .int .i64 (32)] 3) := ⟨_, rfl⟩
            rw [← hw3] at hO3 x0_3 s0_3 x1_3
            rw [← hw3]
            have hsz := hO2.ord
            have hBl := Cal.lt_block hO2.res
            obtain ⟨Q1, hQ1⟩ : ∃ x, x = w2.heap.size := ⟨_, rfl⟩
            rw [← hQ1] at x1_3 hBl
            rw [← hQ1]
            have hQB1 : B + 1 < Q1 := hBl
            have hQR1 : R < Q1 := by omega
            clear hBl hsz hQ1
            clear hw3
            refine hK.out _ _ (fun _ => ⟨hO3.bx.cells.2.2.2.1, s0_3⟩) ?_
            clear hK K
            try simp only [Act.put, List.setIfInBounds_toArray, List.set_cons_zero, List.set_cons_succ]
            refine wpU_ready (rs := [9]) (by kernel_rfl) (by simp) (AllU.cons (o := { dst := some 39, op := _, type := _, pos := _, after := _, guard := _ }) rfl ?_ AllU.nil)
            intro K hK
            go_simp
            go_wp2_with (go_at_call 38; refine (f38 B0 R n c _ a 4 _ hO3.cu (by omega) hn (by omega) (by omega)).mono ?_; rintro e w4 ⟨jj, rfl, jl1, jh1, hc, hg⟩)
            obtain ⟨j1, rfl⟩ : ∃ j : Nat, jj = j := ⟨jj.toNat, by omega⟩
            have jb1 : (j1 : Int) < 4 := by omega
            clear jh1
            have hO4 := (hO3.call hg hc).mono (lim' := lim + 50) (by omega)
            have x0_4 := box_gr (row := (some R)) x0_3 hg (fun e => by have := Option.some.inj e; omega)
            have s0_4 := cell_in (v := .int .i64 g0) x0_4 kk0
            have x1_4 := box_gr (row := (some R)) x1_3 hg (fun e => by have := Option.some.inj e; omega)
            clear hc hg
            refine hK.out _ _ (fun _ => ⟨hO4.bx.cells.2.2.2.1, s0_4⟩) ?_
            clear hK K
            try simp only [Act.put, List.setIfInBounds_toArray, List.set_cons_zero, List.set_cons_succ]
            obtain ⟨g1, kk1, hg1⟩ : ∃ g : Int, (#[.int .i64 (1), .int .i64 (0), .int .i64 (31), .int .i64 (32)] : Array Value)[j1]? = some (.int .i64 g) ∧ In64 g := by
              rcases (show j1 = 0 ∨ j1 = 1 ∨ j1 = 2 ∨ j1 = 3 by omega) with rfl | rfl | rfl | rfl
              · exact ⟨_, rfl, by decide⟩
              · exact ⟨_, rfl, by decide⟩
              · exact ⟨_, rfl, by decide⟩
              · exact ⟨_, rfl, by decide⟩
            have s1_4 := cell_in x1_4 kk1
            refine wpU_mono (S := fun x => x.cell? ⟨B, 3, none⟩ = some (.slice b3 m3 k3) ∧ x.cell? ⟨Q0, j0, none⟩ = some (.int .i64 g0) ∧ x.cell? ⟨Q1, j1, none⟩ = some (.int .i64 g1)) (fun x h => ⟨h.1, h.2.1⟩) _ _ _ _ ?_
            have hHq : (fun x => x.cell? ⟨B, 3, none⟩ = some (.slice b3 m3 k3) ∧ x.cell? ⟨Q0, j0, none⟩ = some (.int .i64 g0) ∧ x.cell? ⟨Q1, j1, none⟩ = some (.int .i64 g1)) w4 := ⟨hO4.bx.cells.2.2.2.1, s0_4, s1_4⟩
            refine wpU_take (i := 10) (oi := { dst := some 40, op := _, type := _, pos := _, after := _, guard := _ }) (v := .pointer (some ⟨Q1, j1, none⟩)) rfl (by kernel_rfl) (by kernel_rfl) (by kernel_rfl) (by kernel_rfl) (fun _ _ _ h => h) (Or.inl ⟨by rfl, fun w hSw => by (try dsimp only at hSw); (try go_split_ands); go_simp⟩) (by first | trivial | assumption) ?_
            try simp only [Act.put, List.setIfInBounds_toArray, List.set_cons_zero, List.set_cons_succ]
            refine wpU_take (i := 11) (oi := { dst := some 41, op := _, type := _, pos := _, after := _, guard := _ }) (v := .int .i64 g1) rfl (by kernel_rfl) (by kernel_rfl) (by kernel_rfl) (by kernel_rfl) (fun _ _ _ h => h) (Or.inl ⟨by rfl, fun w hSw => by (try dsimp only at hSw); (try go_split_ands); go_simp⟩) (by first | trivial | assumption) ?_
            try simp only [Act.put, List.setIfInBounds_toArray, List.set_cons_zero, List.set_cons_succ]
            refine wpU_take (i := 12) (oi := { dst := some 42, op := _, type := _, pos := _, after := _, guard := _ }) (v := .agg #[.int .i64 (g0), .int .i64 (g1)]) rfl (by kernel_rfl) (by kernel_rfl) (by kernel_rfl) (by kernel_rfl) (fun _ _ _ h => h) (Or.inl ⟨by rfl, fun w hSw => by (try dsimp only at hSw); (try go_split_ands); go_simp⟩) (by first | trivial | assumption) ?_
            try simp only [Act.put, List.setIfInBounds_toArray, List.set_cons_zero, List.set_cons_succ]
            refine wpU_ready (rs := [13]) (by kernel_rfl) (by simp) (AllU.cons (o := { dst := some 43, op := _, type := _, pos := _, after := _, guard := _ }) rfl ?_ AllU.nil)
            intro K hK
            go_simp
            have hO5 := (hO4.new (.cells #[.int .i64 (g0), .int .i64 (g1)] 55)).mono (lim' := lim + 60) (by omega)
            have x0_5 := box_gr (row := none) x0_4 (grown_alloc (World.grownBy.refl _ _) (.cells #[.int .i64 (g0), .int .i64 (g1)] 55)) (fun e => by cases e)
            have s0_5 := cell_in (v := .int .i64 g0) x0_5 kk0
            have x1_5 := box_gr (row := none) x1_4 (grown_alloc (World.grownBy.refl _ _) (.cells #[.int .i64 (g0), .int .i64 (g1)] 55)) (fun e => by cases e)
            have s1_5 := cell_in (v := .int .i64 g1) x1_5 kk1
            obtain ⟨w5, hw5⟩ : ∃ vv, vv = w4.alloc (.cells #[.int .i64 (g0), .int .i64 (g1)] 55) := ⟨_, rfl⟩
            have hN := hw5
            rw [← hw5] at hO5 x0_5 x1_5 s0_5 s1_5
            rw [← hw5]
            clear hw5
            obtain ⟨_, _, _, l0, he0, hn0, hl0, hown0, hin0⟩ := hO5.bx.r3
            cases he0
            refine hK.out _ _ (fun _ => ⟨hO5.bx.cells.2.2.2.1, s0_5, s1_5⟩) ?_
            clear hK K
            try simp only [Act.put, List.setIfInBounds_toArray, List.set_cons_zero, List.set_cons_succ]
            refine wpU_ready (rs := [14]) (by kernel_rfl) (by simp) (AllU.cons (o := { dst := some 44, op := _, type := _, pos := _, after := _, guard := _ }) rfl ?_ AllU.nil)
            intro K hK
            rw [if_pos (by rfl)]
            refine wp_append_own_at2 (.tmp 31) (.tmp 43) 23 rfl X 55 i0 (.agg #[.int .i64 0, .int .i64 0]) 2 16 Tryd.underlying23 hi' hz0 hz1 hz2 rfl (by decide) (.slice b3 m3 k3) m3 _ rfl hown0 ⟨w4.heap.size, 0, none⟩ 1 1 [.int .i64 (g0), .int .i64 (g1)] rfl rfl ?d1 ?d2 ?d3 ?d4 ?d5 ?_
            case d1 => rw [hN]; exact two_new _ _ _ _
            case d2 => intro u hu; simp at hu; rcases hu with rfl | rfl <;> rfl
            case d3 => unfold maxLen; omega
            case d4 => omega
            case d5 => have := hO5.kb.size; have := hO5.ord; omega
            intro v3 w6 hown3 hgr3 _ hwho
            obtain ⟨a3, c3, rfl⟩ := own_form hown3
            have hrow : RowR 20 X w6 (.slice a3 (m3 + 1) c3) := ⟨_, _, _, l0 ++ [(g0, g1)], rfl, by omega, by simp [hl0], by rw [flat_snoc]; exact hown3, fun p hp => by
              rcases List.mem_append.1 hp with h | h
              · exact hin0 p h
              · simp at h; subst h; exact ⟨hg0, hg1⟩⟩
            have hF := hO5.app3 (K' := 20) (by omega) hgr3 hrow hwho
            have hbx := (hgr3.block B (Cal.lt_block hO5.bx.box) (fun e => hO5.bx.nb _ (by simp) e.symm)).trans hO5.bx.box
            have hcl : w6.cell? ⟨B, 3, none⟩ = some (.slice b3 m3 k3) := Cal.cell_at hbx 3
            have hfz : w6.frozen? ⟨B, 3, none⟩ = false := by simp [World.frozen?, hbx]
            have hnq0 : Value.ownBlock (.slice b3 m3 k3) ≠ some Q0 := fun e => by have := hrows Q0 (by exact e); omega
            have hnq1 : Value.ownBlock (.slice b3 m3 k3) ≠ some Q1 := fun e => by have := hrows Q1 (by exact e); omega
            have s0_6 := cell_in (v := .int .i64 g0) (box_gr x0_5 hgr3 (fun e => hnq0 e.symm)) kk0
            have s1_6 := cell_in (v := .int .i64 g1) (box_gr x1_5 hgr3 (fun e => hnq1 e.symm)) kk1
            refine hK.out _ _ (fun _ => ⟨hcl, s0_6, s1_6⟩) ?_
            clear hK K
            try simp only [Act.put, List.setIfInBounds_toArray, List.set_cons_zero, List.set_cons_succ]
            refine wpU_take (i := 15) (oi := { dst := some 45, op := _, type := _, pos := _, after := _, guard := _ }) (v := .pointer (some ⟨B, 3, none⟩)) rfl (by kernel_rfl) (by kernel_rfl) (by kernel_rfl) (by kernel_rfl) (fun _ _ _ h => h) (Or.inl ⟨by rfl, fun w hSw => by (try dsimp only at hSw); (try go_split_ands); go_simp⟩) (by first | trivial | assumption) ?_
            try simp only [Act.put, List.setIfInBounds_toArray, List.set_cons_zero, List.set_cons_succ]
            refine wpU_ready (rs := [16]) (by kernel_rfl) (by simp) (AllU.cons (o := { dst := none, op := _, type := _, pos := _, after := _, guard := _ }) rfl ?_ AllU.nil)
            intro K hK
            go_simp
            refine hK.out _ _ (fun h => absurd rfl h) ?_
            clear hK K
            try simp only [Act.put, List.setIfInBounds_toArray, List.set_cons_zero, List.set_cons_succ]
            refine wpU_done (by kernel_rfl) ?_ _
            go_wp2
            go_meet
            exact ⟨_, _, _, _, _, _, _, hid ((hF _ rfl).mono (by omega))⟩
          · intro K hK
            go_simp
            go_wp2_with (go_at_call 38; refine (f38 B0 R n c _ a 4 _ hO2.cu (by omega) hn (by omega) (by omega)).mono ?_; rintro e w3 ⟨jj, rfl, jl1, jh1, hc, hg⟩)
            obtain ⟨j1, rfl⟩ : ∃ j : Nat, jj = j := ⟨jj.toNat, by omega⟩
            have jb1 : (j1 : Int) < 4 := by omega
            clear jh1
            have hO3 := (hO2.call hg hc).mono (lim' := lim + 40) (by omega)
            have x0_3 := box_gr (row := (some R)) x0_2 hg (fun e => by have := Option.some.inj e; omega)
            have s0_3 := cell_in (v := .int .i64 g0) x0_3 kk0
            clear hc hg
            refine hK.out _ _ (fun _ => ⟨hO3.bx.cells.2.2.2.1, s0_3⟩) ?_
            clear hK K
            try simp only [Act.put, List.setIfInBounds_toArray, List.set_cons_zero, List.set_cons_succ]
            refine wpU_ready (rs := [7]) (by kernel_rfl) (by simp) (AllU.cons (o := { dst := some 37, op := _, type := _, pos := _, after := _, guard := _ }) rfl ?_ AllU.nil)
            intro K hK
            go_simp
            have hO4 := (hO3.new (.cells #[.int .i64 (1), .int .i64 (0), .int .i64 (31), .int .i64 (32)] 3)).mono (lim' := lim + 50) (by omega)
            have x0_4 := box_gr (row := none) x0_3 (grown_alloc (World.grownBy.refl _ _) (.cells #[.int .i64 (1), .int .i64 (0), .int .i64 (31), .int .i64 (32)] 3)) (fun e => by cases e)
            have s0_4 := cell_in (v := .int .i64 g0) x0_4 kk0
            have x1_4 := heap_alloc_new w3 (.cells #[.int .i64 (1), .int .i64 (0), .int .i64 (31), .int .i64 (32)] 3)
            obtain ⟨w4, hw4⟩ : ∃ vv, vv = w3.alloc (.cells #[.int .i64 (1), .int .i64 (0), .int .i64 (31), .int .i64 (32)] 3) := ⟨_, rfl⟩
            rw [← hw4] at hO4 x0_4 s0_4 x1_4
            rw [← hw4]
            have hsz := hO3.ord
            have hBl := Cal.lt_block hO3.res
            obtain ⟨Q1, hQ1⟩ : ∃ x, x = w3.heap.size := ⟨_, rfl⟩
            rw [← hQ1] at x1_4 hBl
            rw [← hQ1]
            have hQB1 : B + 1 < Q1 := hBl
            have hQR1 : R < Q1 := by omega
            clear hBl hsz hQ1
            clear hw4
            refine hK.out _ _ (fun _ => ⟨hO4.bx.cells.2.2.2.1, s0_4⟩) ?_
            clear hK K
            try simp only [Act.put, List.setIfInBounds_toArray, List.set_cons_zero, List.set_cons_succ]
            obtain ⟨g1, kk1, hg1⟩ : ∃ g : Int, (#[.int .i64 (1), .int .i64 (0), .int .i64 (31), .int .i64 (32)] : Array Value)[j1]? = some (.int .i64 g) ∧ In64 g := by
              rcases (show j1 = 0 ∨ j1 = 1 ∨ j1 = 2 ∨ j1 = 3 by omega) with rfl | rfl | rfl | rfl
              · exact ⟨_, rfl, by decide⟩
              · exact ⟨_, rfl, by decide⟩
              · exact ⟨_, rfl, by decide⟩
              · exact ⟨_, rfl, by decide⟩
            have s1_4 := cell_in x1_4 kk1
            refine wpU_mono (S := fun x => x.cell? ⟨B, 3, none⟩ = some (.slice b3 m3 k3) ∧ x.cell? ⟨Q0, j0, none⟩ = some (.int .i64 g0) ∧ x.cell? ⟨Q1, j1, none⟩ = some (.int .i64 g1)) (fun x h => ⟨h.1, h.2.1⟩) _ _ _ _ ?_
            have hHq : (fun x => x.cell? ⟨B, 3, none⟩ = some (.slice b3 m3 k3) ∧ x.cell? ⟨Q0, j0, none⟩ = some (.int .i64 g0) ∧ x.cell? ⟨Q1, j1, none⟩ = some (.int .i64 g1)) w4 := ⟨hO4.bx.cells.2.2.2.1, s0_4, s1_4⟩
            refine wpU_take (i := 10) (oi := { dst := some 40, op := _, type := _, pos := _, after := _, guard := _ }) (v := .pointer (some ⟨Q1, j1, none⟩)) rfl (by kernel_rfl) (by kernel_rfl) (by kernel_rfl) (by kernel_rfl) (fun _ _ _ h => h) (Or.inl ⟨by rfl, fun w hSw => by (try dsimp only at hSw); (try go_split_ands); go_simp⟩) (by first | trivial | assumption) ?_
            try simp only [Act.put, List.setIfInBounds_toArray, List.set_cons_zero, List.set_cons_succ]
            refine wpU_take (i := 11) (oi := { dst := some 41, op := _, type := _, pos := _, after := _, guard := _ }) (v := .int .i64 g1) rfl (by kernel_rfl) (by kernel_rfl) (by kernel_rfl) (by kernel_rfl) (fun _ _ _ h => h) (Or.inl ⟨by rfl, fun w hSw => by (try dsimp only at hSw); (try go_split_ands); go_simp⟩) (by first | trivial | assumption) ?_
            try simp only [Act.put, List.setIfInBounds_toArray, List.set_cons_zero, List.set_cons_succ]
            refine wpU_take (i := 12) (oi := { dst := some 42, op := _, type := _, pos := _, after := _, guard := _ }) (v := .agg #[.int .i64 (g0), .int .i64 (g1)]) rfl (by kernel_rfl) (by kernel_rfl) (by kernel_rfl) (by kernel_rfl) (fun _ _ _ h => h) (Or.inl ⟨by rfl, fun w hSw => by (try dsimp only at hSw); (try go_split_ands); go_simp⟩) (by first | trivial | assumption) ?_
            try simp only [Act.put, List.setIfInBounds_toArray, List.set_cons_zero, List.set_cons_succ]
            refine wpU_ready (rs := [13]) (by kernel_rfl) (by simp) (AllU.cons (o := { dst := some 43, op := _, type := _, pos := _, after := _, guard := _ }) rfl ?_ AllU.nil)
            intro K hK
            go_simp
            have hO5 := (hO4.new (.cells #[.int .i64 (g0), .int .i64 (g1)] 55)).mono (lim' := lim + 60) (by omega)
            have x0_5 := box_gr (row := none) x0_4 (grown_alloc (World.grownBy.refl _ _) (.cells #[.int .i64 (g0), .int .i64 (g1)] 55)) (fun e => by cases e)
            have s0_5 := cell_in (v := .int .i64 g0) x0_5 kk0
            have x1_5 := box_gr (row := none) x1_4 (grown_alloc (World.grownBy.refl _ _) (.cells #[.int .i64 (g0), .int .i64 (g1)] 55)) (fun e => by cases e)
            have s1_5 := cell_in (v := .int .i64 g1) x1_5 kk1
            obtain ⟨w5, hw5⟩ : ∃ vv, vv = w4.alloc (.cells #[.int .i64 (g0), .int .i64 (g1)] 55) := ⟨_, rfl⟩
            have hN := hw5
            rw [← hw5] at hO5 x0_5 x1_5 s0_5 s1_5
            rw [← hw5]
            clear hw5
            obtain ⟨_, _, _, l0, he0, hn0, hl0, hown0, hin0⟩ := hO5.bx.r3
            cases he0
            refine hK.out _ _ (fun _ => ⟨hO5.bx.cells.2.2.2.1, s0_5, s1_5⟩) ?_
            clear hK K
            try simp only [Act.put, List.setIfInBounds_toArray, List.set_cons_zero, List.set_cons_succ]
            refine wpU_ready (rs := [14]) (by kernel_rfl) (by simp) (AllU.cons (o := { dst := some 44, op := _, type := _, pos := _, after := _, guard := _ }) rfl ?_ AllU.nil)
            intro K hK
            rw [if_pos (by rfl)]
            refine wp_append_own_at2 (.tmp 31) (.tmp 43) 23 rfl X 55 i0 (.agg #[.int .i64 0, .int .i64 0]) 2 16 Tryd.underlying23 hi' hz0 hz1 hz2 rfl (by decide) (.slice b3 m3 k3) m3 _ rfl hown0 ⟨w4.heap.size, 0, none⟩ 1 1 [.int .i64 (g0), .int .i64 (g1)] rfl rfl ?d1 ?d2 ?d3 ?d4 ?d5 ?_
            case d1 => rw [hN]; exact two_new _ _ _ _
            case d2 => intro u hu; simp at hu; rcases hu with rfl | rfl <;> rfl
            case d3 => unfold maxLen; omega
            case d4 => omega
            case d5 => have := hO5.kb.size; have := hO5.ord; omega
            intro v3 w6 hown3 hgr3 _ hwho
            obtain ⟨a3, c3, rfl⟩ := own_form hown3
            have hrow : RowR 20 X w6 (.slice a3 (m3 + 1) c3) := ⟨_, _, _, l0 ++ [(g0, g1)], rfl, by omega, by simp [hl0], by rw [flat_snoc]; exact hown3, fun p hp => by
              rcases List.mem_append.1 hp with h | h
              · exact hin0 p h
              · simp at h; subst h; exact ⟨hg0, hg1⟩⟩
            have hF := hO5.app3 (K' := 20) (by omega) hgr3 hrow hwho
            have hbx := (hgr3.block B (Cal.lt_block hO5.bx.box) (fun e => hO5.bx.nb _ (by simp) e.symm)).trans hO5.bx.box
            have hcl : w6.cell? ⟨B, 3, none⟩ = some (.slice b3 m3 k3) := Cal.cell_at hbx 3
            have hfz : w6.frozen? ⟨B, 3, none⟩ = false := by simp [World.frozen?, hbx]
            have hnq0 : Value.ownBlock (.slice b3 m3 k3) ≠ some Q0 := fun e => by have := hrows Q0 (by exact e); omega
            have hnq1 : Value.ownBlock (.slice b3 m3 k3) ≠ some Q1 := fun e => by have := hrows Q1 (by exact e); omega
            have s0_6 := cell_in (v := .int .i64 g0) (box_gr x0_5 hgr3 (fun e => hnq0 e.symm)) kk0
            have s1_6 := cell_in (v := .int .i64 g1) (box_gr x1_5 hgr3 (fun e => hnq1 e.symm)) kk1
            refine hK.out _ _ (fun _ => ⟨hcl, s0_6, s1_6⟩) ?_
            clear hK K
            try simp only [Act.put, List.setIfInBounds_toArray, List.set_cons_zero, List.set_cons_succ]
            refine wpU_take (i := 15) (oi := { dst := some 45, op := _, type := _, pos := _, after := _, guard := _ }) (v := .pointer (some ⟨B, 3, none⟩)) rfl (by kernel_rfl) (by kernel_rfl) (by kernel_rfl) (by kernel_rfl) (fun _ _ _ h => h) (Or.inl ⟨by rfl, fun w hSw => by (try dsimp only at hSw); (try go_split_ands); go_simp⟩) (by first | trivial | assumption) ?_
            try simp only [Act.put, List.setIfInBounds_toArray, List.set_cons_zero, List.set_cons_succ]
            refine wpU_ready (rs := [16]) (by kernel_rfl) (by simp) (AllU.cons (o := { dst := none, op := _, type := _, pos := _, after := _, guard := _ }) rfl ?_ AllU.nil)
            intro K hK
            go_simp
            refine hK.out _ _ (fun h => absurd rfl h) ?_
            clear hK K
            try simp only [Act.put, List.setIfInBounds_toArray, List.set_cons_zero, List.set_cons_succ]
            refine wpU_done (by kernel_rfl) ?_ _
            go_wp2
            go_meet
            exact ⟨_, _, _, _, _, _, _, hid ((hF _ rfl).mono (by omega))⟩
        · intro K hK
          go_simp
          have hO2 := (hO1.new (.cells #[.int .i64 (1), .int .i64 (0), .int .i64 (31), .int .i64 (32)] 3)).mono (lim' := lim + 30) (by omega)
          have x1_2 := heap_alloc_new w1 (.cells #[.int .i64 (1), .int .i64 (0), .int .i64 (31), .int .i64 (32)] 3)
          obtain ⟨w2, hw2⟩ : ∃ vv, vv = w1.alloc (.cells #[.int .i64 (1), .int .i64 (0), .int .i64 (31), .int .i64 (32)] 3) := ⟨_, rfl⟩
          rw [← hw2] at hO2 x1_2
          rw [← hw2]
          have hsz := hO1.ord
          have hBl := Cal.lt_block hO1.res
          obtain ⟨Q1, hQ1⟩ : ∃ x, x = w1.heap.size := ⟨_, rfl⟩
          rw [← hQ1] at x1_2 hBl
          rw [← hQ1]
          have hQB1 : B + 1 < Q1 := hBl
          have hQR1 : R < Q1 := by omega
          clear hBl hsz hQ1
          clear hw2
          refine hK.out _ _ (fun _ => hO2.bx.cells.2.2.2.1) ?_
          clear hK K
          try simp only [Act.put, List.setIfInBounds_toArray, List.set_cons_zero, List.set_cons_succ]
          refine wpU_ready (rs := [2, 9]) (by kernel_rfl) (by simp) (AllU.cons (o := { dst := some 32, op := _, type := _, pos := _, after := _, guard := _ }) rfl ?_ (AllU.cons (o := { dst := some 39, op := _, type := _, pos := _, after := _, guard := _ }) rfl ?_ AllU.nil))
          · intro K hK
            go_simp
            have hO3 := (hO2.new (.cells #[.int .i64 (-1), .int .i64 (0), .int .i64 (1)] 3)).mono (lim' := lim + 40) (by omega)
            have x1_3 := box_gr (row := none) x1_2 (grown_alloc (World.grownBy.refl _ _) (.cells #[.int .i64 (-1), .int .i64 (0), .int .i64 (1)] 3)) (fun e => by cases e)
            have x0_3 := heap_alloc_new w2 (.cells #[.int .i64 (-1), .int .i64 (0), .int .i64 (1)] 3)
            obtain ⟨w3, hw3⟩ : ∃ vv, vv = w2.alloc (.cells #[.int .i64 (-1), .int .i64 (0), .int .i64 (1)] 3) := ⟨_, rfl⟩
            rw [← hw3] at hO3 x1_3 x0_3
            rw [← hw3]
            have hsz := hO2.ord
            have hBl := Cal.lt_block hO2.res
            obtain ⟨Q0, hQ0⟩ : ∃ x, x = w2.heap.size := ⟨_, rfl⟩
            rw [← hQ0] at x0_3 hBl
            rw [← hQ0]
            have hQB0 : B + 1 < Q0 := hBl
            have hQR0 : R < Q0 := by omega
            clear hBl hsz hQ0
            clear hw3
            refine hK.out _ _ (fun _ => hO3.bx.cells.2.2.2.1) ?_
            clear hK K
            try simp only [Act.put, List.setIfInBounds_toArray, List.set_cons_zero, List.set_cons_succ]
            obtain ⟨g0, kk0, hg0⟩ : ∃ g : Int, (#[.int .i64 (-1), .int .i64 (0), .int .i64 (1)] : Array Value)[j0]? = some (.int .i64 g) ∧ In64 g := by
              rcases (show j0 = 0 ∨ j0 = 1 ∨ j0 = 2 by omega) with rfl | rfl | rfl
              · exact ⟨_, rfl, by decide⟩
              · exact ⟨_, rfl, by decide⟩
              · exact ⟨_, rfl, by decide⟩
            have s0_3 := cell_in x0_3 kk0
            refine wpU_mono (S := fun x => x.cell? ⟨B, 3, none⟩ = some (.slice b3 m3 k3) ∧ x.cell? ⟨Q0, j0, none⟩ = some (.int .i64 g0)) (fun x h => h.1) _ _ _ _ ?_
            have hHq : (fun x => x.cell? ⟨B, 3, none⟩ = some (.slice b3 m3 k3) ∧ x.cell? ⟨Q0, j0, none⟩ = some (.int .i64 g0)) w3 := ⟨hO3.bx.cells.2.2.2.1, s0_3⟩
            refine wpU_take (i := 5) (oi := { dst := some 35, op := _, type := _, pos := _, after := _, guard := _ }) (v := .pointer (some ⟨Q0, j0, none⟩)) rfl (by kernel_rfl) (by kernel_rfl) (by kernel_rfl) (by kernel_rfl) (fun _ _ _ h => h) (Or.inl ⟨by rfl, fun w hSw => by (try dsimp only at hSw); (try go_split_ands); go_simp⟩) (by first | trivial | assumption) ?_
            try simp only [Act.put, List.setIfInBounds_toArray, List.set_cons_zero, List.set_cons_succ]
            refine wpU_take (i := 6) (oi := { dst := some 36, op := _, type := _, pos := _, after := _, guard := _ }) (v := .int .i64 g0) rfl (by kernel_rfl) (by kernel_rfl) (by kernel_rfl) (by kernel_rfl) (fun _ _ _ h => h) (Or.inl ⟨by rfl, fun w hSw => by (try dsimp only at hSw); (try go_split_ands); go_simp⟩) (by first | trivial | assumption) ?_
            try simp only [Act.put, List.setIfInBounds_toArray, List.set_cons_zero, List.set_cons_succ]
            refine wpU_ready (rs := [9]) (by kernel_rfl) (by simp) (AllU.cons (o := { dst := some 39, op := _, type := _, pos := _, after := _, guard := _ }) rfl ?_ AllU.nil)
            intro K hK
            go_simp
            go_wp2_with (go_at_call 38; refine (f38 B0 R n c _ a 4 _ hO3.cu (by omega) hn (by omega) (by omega)).mono ?_; rintro e w4 ⟨jj, rfl, jl1, jh1, hc, hg⟩)
            obtain ⟨j1, rfl⟩ : ∃ j : Nat, jj = j := ⟨jj.toNat, by omega⟩
            have jb1 : (j1 : Int) < 4 := by omega
            clear jh1
            have hO4 := (hO3.call hg hc).mono (lim' := lim + 50) (by omega)
            have x0_4 := box_gr (row := (some R)) x0_3 hg (fun e => by have := Option.some.inj e; omega)
            have s0_4 := cell_in (v := .int .i64 g0) x0_4 kk0
            have x1_4 := box_gr (row := (some R)) x1_3 hg (fun e => by have := Option.some.inj e; omega)
            clear hc hg
            refine hK.out _ _ (fun _ => ⟨hO4.bx.cells.2.2.2.1, s0_4⟩) ?_
            clear hK K
            try simp only [Act.put, List.setIfInBounds_toArray, List.set_cons_zero, List.set_cons_succ]
            obtain ⟨g1, kk1, hg1⟩ : ∃ g : Int, (#[.int .i64 (1), .int .i64 (0), .int .i64 (31), .int .i64 (32)] : Array Value)[j1]? = some (.int .i64 g) ∧ In64 g := by
              rcases (show j1 = 0 ∨ j1 = 1 ∨ j1 = 2 ∨ j1 = 3 by omega) with rfl | rfl | rfl | rfl
              · exact ⟨_, rfl, by decide⟩
              · exact ⟨_, rfl, by decide⟩
              · exact ⟨_, rfl, by decide⟩
              · exact ⟨_, rfl, by decide⟩
            have s1_4 := cell_in x1_4 kk1
            refine wpU_mono (S := fun x => x.cell? ⟨B, 3, none⟩ = some (.slice b3 m3 k3) ∧ x.cell? ⟨Q0, j0, none⟩ = some (.int .i64 g0) ∧ x.cell? ⟨Q1, j1, none⟩ = some (.int .i64 g1)) (fun x h => ⟨h.1, h.2.1⟩) _ _ _ _ ?_
            have hHq : (fun x => x.cell? ⟨B, 3, none⟩ = some (.slice b3 m3 k3) ∧ x.cell? ⟨Q0, j0, none⟩ = some (.int .i64 g0) ∧ x.cell? ⟨Q1, j1, none⟩ = some (.int .i64 g1)) w4 := ⟨hO4.bx.cells.2.2.2.1, s0_4, s1_4⟩
            refine wpU_take (i := 10) (oi := { dst := some 40, op := _, type := _, pos := _, after := _, guard := _ }) (v := .pointer (some ⟨Q1, j1, none⟩)) rfl (by kernel_rfl) (by kernel_rfl) (by kernel_rfl) (by kernel_rfl) (fun _ _ _ h => h) (Or.inl ⟨by rfl, fun w hSw => by (try dsimp only at hSw); (try go_split_ands); go_simp⟩) (by first | trivial | assumption) ?_
            try simp only [Act.put, List.setIfInBounds_toArray, List.set_cons_zero, List.set_cons_succ]
            refine wpU_take (i := 11) (oi := { dst := some 41, op := _, type := _, pos := _, after := _, guard := _ }) (v := .int .i64 g1) rfl (by kernel_rfl) (by kernel_rfl) (by kernel_rfl) (by kernel_rfl) (fun _ _ _ h => h) (Or.inl ⟨by rfl, fun w hSw => by (try dsimp only at hSw); (try go_split_ands); go_simp⟩) (by first | trivial | assumption) ?_
            try simp only [Act.put, List.setIfInBounds_toArray, List.set_cons_zero, List.set_cons_succ]
            refine wpU_take (i := 12) (oi := { dst := some 42, op := _, type := _, pos := _, after := _, guard := _ }) (v := .agg #[.int .i64 (g0), .int .i64 (g1)]) rfl (by kernel_rfl) (by kernel_rfl) (by kernel_rfl) (by kernel_rfl) (fun _ _ _ h => h) (Or.inl ⟨by rfl, fun w hSw => by (try dsimp only at hSw); (try go_split_ands); go_simp⟩) (by first | trivial | assumption) ?_
            try simp only [Act.put, List.setIfInBounds_toArray, List.set_cons_zero, List.set_cons_succ]
            refine wpU_ready (rs := [13]) (by kernel_rfl) (by simp) (AllU.cons (o := { dst := some 43, op := _, type := _, pos := _, after := _, guard := _ }) rfl ?_ AllU.nil)
            intro K hK
            go_simp
            have hO5 := (hO4.new (.cells #[.int .i64 (g0), .int .i64 (g1)] 55)).mono (lim' := lim + 60) (by omega)
            have x0_5 := box_gr (row := none) x0_4 (grown_alloc (World.grownBy.refl _ _) (.cells #[.int .i64 (g0), .int .i64 (g1)] 55)) (fun e => by cases e)
            have s0_5 := cell_in (v := .int .i64 g0) x0_5 kk0
            have x1_5 := box_gr (row := none) x1_4 (grown_alloc (World.grownBy.refl _ _) (.cells #[.int .i64 (g0), .int .i64 (g1)] 55)) (fun e => by cases e)
            have s1_5 := cell_in (v := .int .i64 g1) x1_5 kk1
            obtain ⟨w5, hw5⟩ : ∃ vv, vv = w4.alloc (.cells #[.int .i64 (g0), .int .i64 (g1)] 55) := ⟨_, rfl⟩
            have hN := hw5
            rw [← hw5] at hO5 x0_5 x1_5 s0_5 s1_5
            rw [← hw5]
            clear hw5
            obtain ⟨_, _, _, l0, he0, hn0, hl0, hown0, hin0⟩ := hO5.bx.r3
            cases he0
            refine hK.out _ _ (fun _ => ⟨hO5.bx.cells.2.2.2.1, s0_5, s1_5⟩) ?_
            clear hK K
            try simp only [Act.put, List.setIfInBounds_toArray, List.set_cons_zero, List.set_cons_succ]
            refine wpU_ready (rs := [14]) (by kernel_rfl) (by simp) (AllU.cons (o := { dst := some 44, op := _, type := _, pos := _, after := _, guard := _ }) rfl ?_ AllU.nil)
            intro K hK
            rw [if_pos (by rfl)]
            refine wp_append_own_at2 (.tmp 31) (.tmp 43) 23 rfl X 55 i0 (.agg #[.int .i64 0, .int .i64 0]) 2 16 Tryd.underlying23 hi' hz0 hz1 hz2 rfl (by decide) (.slice b3 m3 k3) m3 _ rfl hown0 ⟨w4.heap.size, 0, none⟩ 1 1 [.int .i64 (g0), .int .i64 (g1)] rfl rfl ?d1 ?d2 ?d3 ?d4 ?d5 ?_
            case d1 => rw [hN]; exact two_new _ _ _ _
            case d2 => intro u hu; simp at hu; rcases hu with rfl | rfl <;> rfl
            case d3 => unfold maxLen; omega
            case d4 => omega
            case d5 => have := hO5.kb.size; have := hO5.ord; omega
            intro v3 w6 hown3 hgr3 _ hwho
            obtain ⟨a3, c3, rfl⟩ := own_form hown3
            have hrow : RowR 20 X w6 (.slice a3 (m3 + 1) c3) := ⟨_, _, _, l0 ++ [(g0, g1)], rfl, by omega, by simp [hl0], by rw [flat_snoc]; exact hown3, fun p hp => by
              rcases List.mem_append.1 hp with h | h
              · exact hin0 p h
              · simp at h; subst h; exact ⟨hg0, hg1⟩⟩
            have hF := hO5.app3 (K' := 20) (by omega) hgr3 hrow hwho
            have hbx := (hgr3.block B (Cal.lt_block hO5.bx.box) (fun e => hO5.bx.nb _ (by simp) e.symm)).trans hO5.bx.box
            have hcl : w6.cell? ⟨B, 3, none⟩ = some (.slice b3 m3 k3) := Cal.cell_at hbx 3
            have hfz : w6.frozen? ⟨B, 3, none⟩ = false := by simp [World.frozen?, hbx]
            have hnq0 : Value.ownBlock (.slice b3 m3 k3) ≠ some Q0 := fun e => by have := hrows Q0 (by exact e); omega
            have hnq1 : Value.ownBlock (.slice b3 m3 k3) ≠ some Q1 := fun e => by have := hrows Q1 (by exact e); omega
            have s0_6 := cell_in (v := .int .i64 g0) (box_gr x0_5 hgr3 (fun e => hnq0 e.symm)) kk0
            have s1_6 := cell_in (v := .int .i64 g1) (box_gr x1_5 hgr3 (fun e => hnq1 e.symm)) kk1
            refine hK.out _ _ (fun _ => ⟨hcl, s0_6, s1_6⟩) ?_
            clear hK K
            try simp only [Act.put, List.setIfInBounds_toArray, List.set_cons_zero, List.set_cons_succ]
            refine wpU_take (i := 15) (oi := { dst := some 45, op := _, type := _, pos := _, after := _, guard := _ }) (v := .pointer (some ⟨B, 3, none⟩)) rfl (by kernel_rfl) (by kernel_rfl) (by kernel_rfl) (by kernel_rfl) (fun _ _ _ h => h) (Or.inl ⟨by rfl, fun w hSw => by (try dsimp only at hSw); (try go_split_ands); go_simp⟩) (by first | trivial | assumption) ?_
            try simp only [Act.put, List.setIfInBounds_toArray, List.set_cons_zero, List.set_cons_succ]
            refine wpU_ready (rs := [16]) (by kernel_rfl) (by simp) (AllU.cons (o := { dst := none, op := _, type := _, pos := _, after := _, guard := _ }) rfl ?_ AllU.nil)
            intro K hK
            go_simp
            refine hK.out _ _ (fun h => absurd rfl h) ?_
            clear hK K
            try simp only [Act.put, List.setIfInBounds_toArray, List.set_cons_zero, List.set_cons_succ]
            refine wpU_done (by kernel_rfl) ?_ _
            go_wp2
            go_meet
            exact ⟨_, _, _, _, _, _, _, hid ((hF _ rfl).mono (by omega))⟩
          · intro K hK
            go_simp
            go_wp2_with (go_at_call 38; refine (f38 B0 R n c _ a 4 _ hO2.cu (by omega) hn (by omega) (by omega)).mono ?_; rintro e w3 ⟨jj, rfl, jl1, jh1, hc, hg⟩)
            obtain ⟨j1, rfl⟩ : ∃ j : Nat, jj = j := ⟨jj.toNat, by omega⟩
            have jb1 : (j1 : Int) < 4 := by omega
            clear jh1
            have hO3 := (hO2.call hg hc).mono (lim' := lim + 40) (by omega)
            have x1_3 := box_gr (row := (some R)) x1_2 hg (fun e => by have := Option.some.inj e; omega)
            clear hc hg
            refine hK.out _ _ (fun _ => hO3.bx.cells.2.2.2.1) ?_
            clear hK K
            try simp only [Act.put, List.setIfInBounds_toArray, List.set_cons_zero, List.set_cons_succ]
            obtain ⟨g1, kk1, hg1⟩ : ∃ g : Int, (#[.int .i64 (1), .int .i64 (0), .int .i64 (31), .int .i64 (32)] : Array Value)[j1]? = some (.int .i64 g) ∧ In64 g := by
              rcases (show j1 = 0 ∨ j1 = 1 ∨ j1 = 2 ∨ j1 = 3 by omega) with rfl | rfl | rfl | rfl
              · exact ⟨_, rfl, by decide⟩
              · exact ⟨_, rfl, by decide⟩
              · exact ⟨_, rfl, by decide⟩
              · exact ⟨_, rfl, by decide⟩
            have s1_3 := cell_in x1_3 kk1
            refine wpU_mono (S := fun x => x.cell? ⟨B, 3, none⟩ = some (.slice b3 m3 k3) ∧ x.cell? ⟨Q1, j1, none⟩ = some (.int .i64 g1)) (fun x h => h.1) _ _ _ _ ?_
            have hHq : (fun x => x.cell? ⟨B, 3, none⟩ = some (.slice b3 m3 k3) ∧ x.cell? ⟨Q1, j1, none⟩ = some (.int .i64 g1)) w3 := ⟨hO3.bx.cells.2.2.2.1, s1_3⟩
            refine wpU_take (i := 10) (oi := { dst := some 40, op := _, type := _, pos := _, after := _, guard := _ }) (v := .pointer (some ⟨Q1, j1, none⟩)) rfl (by kernel_rfl) (by kernel_rfl) (by kernel_rfl) (by kernel_rfl) (fun _ _ _ h => h) (Or.inl ⟨by rfl, fun w hSw => by (try dsimp only at hSw); (try go_split_ands); go_simp⟩) (by first | trivial | assumption) ?_
            try simp only [Act.put, List.setIfInBounds_toArray, List.set_cons_zero, List.set_cons_succ]
            refine wpU_take (i := 11) (oi := { dst := some 41, op := _, type := _, pos := _, after := _, guard := _ }) (v := .int .i64 g1) rfl (by kernel_rfl) (by kernel_rfl) (by kernel_rfl) (by kernel_rfl) (fun _ _ _ h => h) (Or.inl ⟨by rfl, fun w hSw => by (try dsimp only at hSw); (try go_split_ands); go_simp⟩) (by first | trivial | assumption) ?_
            try simp only [Act.put, List.setIfInBounds_toArray, List.set_cons_zero, List.set_cons_succ]
            refine wpU_ready (rs := [2]) (by kernel_rfl) (by simp) (AllU.cons (o := { dst := some 32, op := _, type := _, pos := _, after := _, guard := _ }) rfl ?_ AllU.nil)
            intro K hK
            go_simp
            have hO4 := (hO3.new (.cells #[.int .i64 (-1), .int .i64 (0), .int .i64 (1)] 3)).mono (lim' := lim + 50) (by omega)
            have x1_4 := box_gr (row := none) x1_3 (grown_alloc (World.grownBy.refl _ _) (.cells #[.int .i64 (-1), .int .i64 (0), .int .i64 (1)] 3)) (fun e => by cases e)
            have s1_4 := cell_in (v := .int .i64 g1) x1_4 kk1
            have x0_4 := heap_alloc_new w3 (.cells #[.int .i64 (-1), .int .i64 (0), .int .i64 (1)] 3)
            obtain ⟨w4, hw4⟩ : ∃ vv, vv = w3.alloc (.cells #[.int .i64 (-1), .int .i64 (0), .int .i64 (1)] 3) := ⟨_, rfl⟩
            rw [← hw4] at hO4 x1_4 s1_4 x0_4
            rw [← hw4]
            have hsz := hO3.ord
            have hBl := Cal.lt_block hO3.res
            obtain ⟨Q0, hQ0⟩ : ∃ x, x = w3.heap.size := ⟨_, rfl⟩
            rw [← hQ0] at x0_4 hBl
            rw [← hQ0]
            have hQB0 : B + 1 < Q0 := hBl
            have hQR0 : R < Q0 := by omega
            clear hBl hsz hQ0
            clear hw4
            refine hK.out _ _ (fun _ => ⟨hO4.bx.cells.2.2.2.1, s1_4⟩) ?_
            clear hK K
            try simp only [Act.put, List.setIfInBounds_toArray, List.set_cons_zero, List.set_cons_succ]
            obtain ⟨g0, kk0, hg0⟩ : ∃ g : Int, (#[.int .i64 (-1), .int .i64 (0), .int .i64 (1)] : Array Value)[j0]? = some (.int .i64 g) ∧ In64 g := by
              rcases (show j0 = 0 ∨ j0 = 1 ∨ j0 = 2 by omega) with rfl | rfl | rfl
              · exact ⟨_, rfl, by decide⟩
              · exact ⟨_, rfl, by decide⟩
              · exact ⟨_, rfl, by decide⟩
            have s0_4 := cell_in x0_4 kk0
            refine wpU_mono (S := fun x => x.cell? ⟨B, 3, none⟩ = some (.slice b3 m3 k3) ∧ x.cell? ⟨Q0, j0, none⟩ = some (.int .i64 g0) ∧ x.cell? ⟨Q1, j1, none⟩ = some (.int .i64 g1)) (fun x h => ⟨h.1, h.2.2⟩) _ _ _ _ ?_
            have hHq : (fun x => x.cell? ⟨B, 3, none⟩ = some (.slice b3 m3 k3) ∧ x.cell? ⟨Q0, j0, none⟩ = some (.int .i64 g0) ∧ x.cell? ⟨Q1, j1, none⟩ = some (.int .i64 g1)) w4 := ⟨hO4.bx.cells.2.2.2.1, s0_4, s1_4⟩
            refine wpU_take (i := 5) (oi := { dst := some 35, op := _, type := _, pos := _, after := _, guard := _ }) (v := .pointer (some ⟨Q0, j0, none⟩)) rfl (by kernel_rfl) (by kernel_rfl) (by kernel_rfl) (by kernel_rfl) (fun _ _ _ h => h) (Or.inl ⟨by rfl, fun w hSw => by (try dsimp only at hSw); (try go_split_ands); go_simp⟩) (by first | trivial | assumption) ?_
            try simp only [Act.put, List.setIfInBounds_toArray, List.set_cons_zero, List.set_cons_succ]
            refine wpU_take (i := 6) (oi := { dst := some 36, op := _, type := _, pos := _, after := _, guard := _ }) (v := .int .i64 g0) rfl (by kernel_rfl) (by kernel_rfl) (by kernel_rfl) (by kernel_rfl) (fun _ _ _ h => h) (Or.inl ⟨by rfl, fun w hSw => by (try dsimp only at hSw); (try go_split_ands); go_simp⟩) (by first | trivial | assumption) ?_
            try simp only [Act.put, List.setIfInBounds_toArray, List.set_cons_zero, List.set_cons_succ]
            refine wpU_take (i := 12) (oi := { dst := some 42, op := _, type := _, pos := _, after := _, guard := _ }) (v := .agg #[.int .i64 (g0), .int .i64 (g1)]) rfl (by kernel_rfl) (by kernel_rfl) (by kernel_rfl) (by kernel_rfl) (fun _ _ _ h => h) (Or.inl ⟨by rfl, fun w hSw => by (try dsimp only at hSw); (try go_split_ands); go_simp⟩) (by first | trivial | assumption) ?_
            try simp only [Act.put, List.setIfInBounds_toArray, List.set_cons_zero, List.set_cons_succ]
            refine wpU_ready (rs := [13]) (by kernel_rfl) (by simp) (AllU.cons (o := { dst := some 43, op := _, type := _, pos := _, after := _, guard := _ }) rfl ?_ AllU.nil)
            intro K hK
            go_simp
            have hO5 := (hO4.new (.cells #[.int .i64 (g0), .int .i64 (g1)] 55)).mono (lim' := lim + 60) (by omega)
            have x0_5 := box_gr (row := none) x0_4 (grown_alloc (World.grownBy.refl _ _) (.cells #[.int .i64 (g0), .int .i64 (g1)] 55)) (fun e => by cases e)
            have s0_5 := cell_in (v := .int .i64 g0) x0_5 kk0
            have x1_5 := box_gr (row := none) x1_4 (grown_alloc (World.grownBy.refl _ _) (.cells #[.int .i64 (g0), .int .i64 (g1)] 55)) (fun e => by cases e)
            have s1_5 := cell_in (v := .int .i64 g1) x1_5 kk1
            obtain ⟨w5, hw5⟩ : ∃ vv, vv = w4.alloc (.cells #[.int .i64 (g0), .int .i64 (g1)] 55) := ⟨_, rfl⟩
            have hN := hw5
            rw [← hw5] at hO5 x0_5 x1_5 s0_5 s1_5
            rw [← hw5]
            clear hw5
            obtain ⟨_, _, _, l0, he0, hn0, hl0, hown0, hin0⟩ := hO5.bx.r3
            cases he0
            refine hK.out _ _ (fun _ => ⟨hO5.bx.cells.2.2.2.1, s0_5, s1_5⟩) ?_
            clear hK K
            try simp only [Act.put, List.setIfInBounds_toArray, List.set_cons_zero, List.set_cons_succ]
            refine wpU_ready (rs := [14]) (by kernel_rfl) (by simp) (AllU.cons (o := { dst := some 44, op := _, type := _, pos := _, after := _, guard := _ }) rfl ?_ AllU.nil)
            intro K hK
            rw [if_pos (by rfl)]
            refine wp_append_own_at2 (.tmp 31) (.tmp 43) 23 rfl X 55 i0 (.agg #[.int .i64 0, .int .i64 0]) 2 16 Tryd.underlying23 hi' hz0 hz1 hz2 rfl (by decide) (.slice b3 m3 k3) m3 _ rfl hown0 ⟨w4.heap.size, 0, none⟩ 1 1 [.int .i64 (g0), .int .i64 (g1)] rfl rfl ?d1 ?d2 ?d3 ?d4 ?d5 ?_
            case d1 => rw [hN]; exact two_new _ _ _ _
            case d2 => intro u hu; simp at hu; rcases hu with rfl | rfl <;> rfl
            case d3 => unfold maxLen; omega
            case d4 => omega
            case d5 => have := hO5.kb.size; have := hO5.ord; omega
            intro v3 w6 hown3 hgr3 _ hwho
            obtain ⟨a3, c3, rfl⟩ := own_form hown3
            have hrow : RowR 20 X w6 (.slice a3 (m3 + 1) c3) := ⟨_, _, _, l0 ++ [(g0, g1)], rfl, by omega, by simp [hl0], by rw [flat_snoc]; exact hown3, fun p hp => by
              rcases List.mem_append.1 hp with h | h
              · exact hin0 p h
              · simp at h; subst h; exact ⟨hg0, hg1⟩⟩
            have hF := hO5.app3 (K' := 20) (by omega) hgr3 hrow hwho
            have hbx := (hgr3.block B (Cal.lt_block hO5.bx.box) (fun e => hO5.bx.nb _ (by simp) e.symm)).trans hO5.bx.box
            have hcl : w6.cell? ⟨B, 3, none⟩ = some (.slice b3 m3 k3) := Cal.cell_at hbx 3
            have hfz : w6.frozen? ⟨B, 3, none⟩ = false := by simp [World.frozen?, hbx]
            have hnq0 : Value.ownBlock (.slice b3 m3 k3) ≠ some Q0 := fun e => by have := hrows Q0 (by exact e); omega
            have hnq1 : Value.ownBlock (.slice b3 m3 k3) ≠ some Q1 := fun e => by have := hrows Q1 (by exact e); omega
            have s0_6 := cell_in (v := .int .i64 g0) (box_gr x0_5 hgr3 (fun e => hnq0 e.symm)) kk0
            have s1_6 := cell_in (v := .int .i64 g1) (box_gr x1_5 hgr3 (fun e => hnq1 e.symm)) kk1
            refine hK.out _ _ (fun _ => ⟨hcl, s0_6, s1_6⟩) ?_
            clear hK K
            try simp only [Act.put, List.setIfInBounds_toArray, List.set_cons_zero, List.set_cons_succ]
            refine wpU_take (i := 15) (oi := { dst := some 45, op := _, type := _, pos := _, after := _, guard := _ }) (v := .pointer (some ⟨B, 3, none⟩)) rfl (by kernel_rfl) (by kernel_rfl) (by kernel_rfl) (by kernel_rfl) (fun _ _ _ h => h) (Or.inl ⟨by rfl, fun w hSw => by (try dsimp only at hSw); (try go_split_ands); go_simp⟩) (by first | trivial | assumption) ?_
            try simp only [Act.put, List.setIfInBounds_toArray, List.set_cons_zero, List.set_cons_succ]
            refine wpU_ready (rs := [16]) (by kernel_rfl) (by simp) (AllU.cons (o := { dst := none, op := _, type := _, pos := _, after := _, guard := _ }) rfl ?_ AllU.nil)
            intro K hK
            go_simp
            refine hK.out _ _ (fun h => absurd rfl h) ?_
            clear hK K
            try simp only [Act.put, List.setIfInBounds_toArray, List.set_cons_zero, List.set_cons_succ]
            refine wpU_done (by kernel_rfl) ?_ _
            go_wp2
            go_meet
            exact ⟨_, _, _, _, _, _, _, hid ((hF _ rfl).mono (by omega))⟩
        · intro K hK
          go_simp
          go_wp2_with (go_at_call 38; refine (f38 B0 R n c _ a 4 _ hO1.cu (by omega) hn (by omega) (by omega)).mono ?_; rintro e w2 ⟨jj, rfl, jl1, jh1, hc, hg⟩)
          obtain ⟨j1, rfl⟩ : ∃ j : Nat, jj = j := ⟨jj.toNat, by omega⟩
          have jb1 : (j1 : Int) < 4 := by omega
          clear jh1
          have hO2 := (hO1.call hg hc).mono (lim' := lim + 30) (by omega)
          clear hc hg
          refine hK.out _ _ (fun _ => hO2.bx.cells.2.2.2.1) ?_
          clear hK K
          try simp only [Act.put, List.setIfInBounds_toArray, List.set_cons_zero, List.set_cons_succ]
          refine wpU_ready (rs := [2, 7]) (by kernel_rfl) (by simp) (AllU.cons (o := { dst := some 32, op := _, type := _, pos := _, after := _, guard := _ }) rfl ?_ (AllU.cons (o := { dst := some 37, op := _, type := _, pos := _, after := _, guard := _ }) rfl ?_ AllU.nil))
          · intro K hK
            go_simp
            have hO3 := (hO2.new (.cells #[.int .i64 (-1), .int .i64 (0), .int .i64 (1)] 3)).mono (lim' := lim + 40) (by omega)
            have x0_3 := heap_alloc_new w2 (.cells #[.int .i64 (-1), .int .i64 (0), .int .i64 (1)] 3)
            obtain ⟨w3, hw3⟩ : ∃ vv, vv = w2.alloc (.cells #[.int .i64 (-1), .int .i64 (0), .int .i64 (1)] 3) := ⟨_, rfl⟩
            rw [← hw3] at hO3 x0_3
            rw [← hw3]
            have hsz := hO2.ord
            have hBl := Cal.lt_block hO2.res
            obtain ⟨Q0, hQ0⟩ : ∃ x, x = w2.heap.size := ⟨_, rfl⟩
            rw [← hQ0] at x0_3 hBl
            rw [← hQ0]
            have hQB0 : B + 1 < Q0 := hBl
            have hQR0 : R < Q0 := by omega
            clear hBl hsz hQ0
            clear hw3
            refine hK.out _ _ (fun _ => hO3.bx.cells.2.2.2.1) ?_
            clear hK K
            try simp only [Act.put, List.setIfInBounds_toArray, List.set_cons_zero, List.set_cons_succ]
            obtain ⟨g0, kk0, hg0⟩ : ∃ g : Int, (#[.int .i64 (-1), .int .i64 (0), .int .i64 (1)] : Array Value)[j0]? = some (.int .i64 g) ∧ In64 g := by
              rcases (show j0 = 0 ∨ j0 = 1 ∨ j0 = 2 by omega) with rfl | rfl | rfl
              · exact ⟨_, rfl, by decide⟩
              · exact ⟨_, rfl, by decide⟩
              · exact ⟨_, rfl, by decide⟩
            have s0_3 := cell_in x0_3 kk0
            refine wpU_mono (S := fun x => x.cell? ⟨B, 3, none⟩ = some (.slice b3 m3 k3) ∧ x.cell? ⟨Q0, j0, none⟩ = some (.int .i64 g0)) (fun x h => h.1) _ _ _ _ ?_
            have hHq : (fun x => x.cell? ⟨B, 3, none⟩ = some (.slice b3 m3 k3) ∧ x.cell? ⟨Q0, j0, none⟩ = some (.int .i64 g0)) w3 := ⟨hO3.bx.cells.2.2.2.1, s0_3⟩
            refine wpU_take (i := 5) (oi := { dst := some 35, op := _, type := _, pos := _, after := _, guard := _ }) (v := .pointer (some ⟨Q0, j0, none⟩)) rfl (by kernel_rfl) (by kernel_rfl) (by kernel_rfl) (by kernel_rfl) (fun _ _ _ h => h) (Or.inl ⟨by rfl, fun w hSw => by (try dsimp only at hSw); (try go_split_ands); go_simp⟩) (by first | trivial | assumption) ?_
            try simp only [Act.put, List.setIfInBounds_toArray, List.set_cons_zero, List.set_cons_succ]
            refine wpU_take (i := 6) (oi := { dst := some 36, op := _, type := _, pos := _, after := _, guard := _ }) (v := .int .i64 g0) rfl (by kernel_rfl) (by kernel_rfl) (by kernel_rfl) (by kernel_rfl) (fun _ _ _ h => h) (Or.inl ⟨by rfl, fun w hSw => by (try dsimp only at hSw); (try go_split_ands); go_simp⟩) (by first | trivial | assumption) ?_
            try simp only [Act.put, List.setIfInBounds_toArray, List.set_cons_zero, List.set_cons_succ]
            refine wpU_ready (rs := [7]) (by kernel_rfl) (by simp) (AllU.cons (o := { dst := some 37, op := _, type := _, pos := _, after := _, guard := _ }) rfl ?_ AllU.nil)
            intro K hK
            go_simp
            have hO4 := (hO3.new (.cells #[.int .i64 (1), .int .i64 (0), .int .i64 (31), .int .i64 (32)] 3)).mono (lim' := lim + 50) (by omega)
            have x0_4 := box_gr (row := none) x0_3 (grown_alloc (World.grownBy.refl _ _) (.cells #[.int .i64 (1), .int .i64 (0), .int .i64 (31), .int .i64 (32)] 3)) (fun e => by cases e)
            have s0_4 := cell_in (v := .int .i64 g0) x0_4 kk0
            have x1_4 := heap_alloc_new w3 (.cells #[.int .i64 (1), .int .i64 (0), .int .i64 (31), .int .i64 (32)] 3)
            obtain ⟨w4, hw4⟩ : ∃ vv, vv = w3.alloc (.cells #[.int .i64 (1), .int .i64 (0), .int .i64 (31), .int .i64 (32)] 3) := ⟨_, rfl⟩
            rw [← hw4] at hO4 x0_4 s0_4 x1_4
            rw [← hw4]
            have hsz := hO3.ord
            have hBl := Cal.lt_block hO3.res
            obtain ⟨Q1, hQ1⟩ : ∃ x, x = w3.heap.size := ⟨_, rfl⟩
            rw [← hQ1] at x1_4 hBl
            rw [← hQ1]
            have hQB1 : B + 1 < Q1 := hBl
            have hQR1 : R < Q1 := by omega
            clear hBl hsz hQ1
            clear hw4
            refine hK.out _ _ (fun _ => ⟨hO4.bx.cells.2.2.2.1, s0_4⟩) ?_
            clear hK K
            try simp only [Act.put, List.setIfInBounds_toArray, List.set_cons_zero, List.set_cons_succ]
            obtain ⟨g1, kk1, hg1⟩ : ∃ g : Int, (#[.int .i64 (1), .int .i64 (0), .int .i64 (31), .int .i64 (32)] : Array Value)[j1]? = some (.int .i64 g) ∧ In64 g := by
              rcases (show j1 = 0 ∨ j1 = 1 ∨ j1 = 2 ∨ j1 = 3 by omega) with rfl | rfl | rfl | rfl
              · exact ⟨_, rfl, by decide⟩
              · exact ⟨_, rfl, by decide⟩
              · exact ⟨_, rfl, by decide⟩
              · exact ⟨_, rfl, by decide⟩
            have s1_4 := cell_in x1_4 kk1
            refine wpU_mono (S := fun x => x.cell? ⟨B, 3, none⟩ = some (.slice b3 m3 k3) ∧ x.cell? ⟨Q0, j0, none⟩ = some (.int .i64 g0) ∧ x.cell? ⟨Q1, j1, none⟩ = some (.int .i64 g1)) (fun x h => ⟨h.1, h.2.1⟩) _ _ _ _ ?_
            have hHq : (fun x => x.cell? ⟨B, 3, none⟩ = some (.slice b3 m3 k3) ∧ x.cell? ⟨Q0, j0, none⟩ = some (.int .i64 g0) ∧ x.cell? ⟨Q1, j1, none⟩ = some (.int .i64 g1)) w4 := ⟨hO4.bx.cells.2.2.2.1, s0_4, s1_4⟩
            refine wpU_take (i := 10) (oi := { dst := some 40, op := _, type := _, pos := _, after := _, guard := _ }) (v := .pointer (some ⟨Q1, j1, none⟩)) rfl (by kernel_rfl) (by kernel_rfl) (by kernel_rfl) (by kernel_rfl) (fun _ _ _ h => h) (Or.inl ⟨by rfl, fun w hSw => by (try dsimp only at hSw); (try go_split_ands); go_simp⟩) (by first | trivial | assumption) ?_
            try simp only [Act.put, List.setIfInBounds_toArray, List.set_cons_zero, List.set_cons_succ]
            refine wpU_take (i := 11) (oi := { dst := some 41, op := _, type := _, pos := _, after := _, guard := _ }) (v := .int .i64 g1) rfl (by kernel_rfl) (by kernel_rfl) (by kernel_rfl) (by kernel_rfl) (fun _ _ _ h => h) (Or.inl ⟨by rfl, fun w hSw => by (try dsimp only at hSw); (try go_split_ands); go_simp⟩) (by first | trivial | assumption) ?_
            try simp only [Act.put, List.setIfInBounds_toArray, List.set_cons_zero, List.set_cons_succ]
            refine wpU_take (i := 12) (oi := { dst := some 42, op := _, type := _, pos := _, after := _, guard := _ }) (v := .agg #[.int .i64 (g0), .int .i64 (g1)]) rfl (by kernel_rfl) (by kernel_rfl) (by kernel_rfl) (by kernel_rfl) (fun _ _ _ h => h) (Or.inl ⟨by rfl, fun w hSw => by (try dsimp only at hSw); (try go_split_ands); go_simp⟩) (by first | trivial | assumption) ?_
            try simp only [Act.put, List.setIfInBounds_toArray, List.set_cons_zero, List.set_cons_succ]
            refine wpU_ready (rs := [13]) (by kernel_rfl) (by simp) (AllU.cons (o := { dst := some 43, op := _, type := _, pos := _, after := _, guard := _ }) rfl ?_ AllU.nil)
            intro K hK
            go_simp
            have hO5 := (hO4.new (.cells #[.int .i64 (g0), .int .i64 (g1)] 55)).mono (lim' := lim + 60) (by omega)
            have x0_5 := box_gr (row := none) x0_4 (grown_alloc (World.grownBy.refl _ _) (.cells #[.int .i64 (g0), .int .i64 (g1)] 55)) (fun e => by cases e)
            have s0_5 := cell_in (v := .int .i64 g0) x0_5 kk0
            have x1_5 := box_gr (row := none) x1_4 (grown_alloc (World.grownBy.refl _ _) (.cells #[.int .i64 (g0), .int .i64 (g1)] 55)) (fun e => by cases e)
            have s1_5 := cell_in (v := .int .i64 g1) x1_5 kk1
            obtain ⟨w5, hw5⟩ : ∃ vv, vv = w4.alloc (.cells #[.int .i64 (g0), .int .i64 (g1)] 55) := ⟨_, rfl⟩
            have hN := hw5
            rw [← hw5] at hO5 x0_5 x1_5 s0_5 s1_5
            rw [← hw5]
            clear hw5
            obtain ⟨_, _, _, l0, he0, hn0, hl0, hown0, hin0⟩ := hO5.bx.r3
            cases he0
            refine hK.out _ _ (fun _ => ⟨hO5.bx.cells.2.2.2.1, s0_5, s1_5⟩) ?_
            clear hK K
            try simp only [Act.put, List.setIfInBounds_toArray, List.set_cons_zero, List.set_cons_succ]
            refine wpU_ready (rs := [14]) (by kernel_rfl) (by simp) (AllU.cons (o := { dst := some 44, op := _, type := _, pos := _, after := _, guard := _ }) rfl ?_ AllU.nil)
            intro K hK
            rw [if_pos (by rfl)]
            refine wp_append_own_at2 (.tmp 31) (.tmp 43) 23 rfl X 55 i0 (.agg #[.int .i64 0, .int .i64 0]) 2 16 Tryd.underlying23 hi' hz0 hz1 hz2 rfl (by decide) (.slice b3 m3 k3) m3 _ rfl hown0 ⟨w4.heap.size, 0, none⟩ 1 1 [.int .i64 (g0), .int .i64 (g1)] rfl rfl ?d1 ?d2 ?d3 ?d4 ?d5 ?_
            case d1 => rw [hN]; exact two_new _ _ _ _
            case d2 => intro u hu; simp at hu; rcases hu with rfl | rfl <;> rfl
            case d3 => unfold maxLen; omega
            case d4 => omega
            case d5 => have := hO5.kb.size; have := hO5.ord; omega
            intro v3 w6 hown3 hgr3 _ hwho
            obtain ⟨a3, c3, rfl⟩ := own_form hown3
            have hrow : RowR 20 X w6 (.slice a3 (m3 + 1) c3) := ⟨_, _, _, l0 ++ [(g0, g1)], rfl, by omega, by simp [hl0], by rw [flat_snoc]; exact hown3, fun p hp => by
              rcases List.mem_append.1 hp with h | h
              · exact hin0 p h
              · simp at h; subst h; exact ⟨hg0, hg1⟩⟩
            have hF := hO5.app3 (K' := 20) (by omega) hgr3 hrow hwho
            have hbx := (hgr3.block B (Cal.lt_block hO5.bx.box) (fun e => hO5.bx.nb _ (by simp) e.symm)).trans hO5.bx.box
            have hcl : w6.cell? ⟨B, 3, none⟩ = some (.slice b3 m3 k3) := Cal.cell_at hbx 3
            have hfz : w6.frozen? ⟨B, 3, none⟩ = false := by simp [World.frozen?, hbx]
            have hnq0 : Value.ownBlock (.slice b3 m3 k3) ≠ some Q0 := fun e => by have := hrows Q0 (by exact e); omega
            have hnq1 : Value.ownBlock (.slice b3 m3 k3) ≠ some Q1 := fun e => by have := hrows Q1 (by exact e); omega
            have s0_6 := cell_in (v := .int .i64 g0) (box_gr x0_5 hgr3 (fun e => hnq0 e.symm)) kk0
            have s1_6 := cell_in (v := .int .i64 g1) (box_gr x1_5 hgr3 (fun e => hnq1 e.symm)) kk1
            refine hK.out _ _ (fun _ => ⟨hcl, s0_6, s1_6⟩) ?_
            clear hK K
            try simp only [Act.put, List.setIfInBounds_toArray, List.set_cons_zero, List.set_cons_succ]
            refine wpU_take (i := 15) (oi := { dst := some 45, op := _, type := _, pos := _, after := _, guard := _ }) (v := .pointer (some ⟨B, 3, none⟩)) rfl (by kernel_rfl) (by kernel_rfl) (by kernel_rfl) (by kernel_rfl) (fun _ _ _ h => h) (Or.inl ⟨by rfl, fun w hSw => by (try dsimp only at hSw); (try go_split_ands); go_simp⟩) (by first | trivial | assumption) ?_
            try simp only [Act.put, List.setIfInBounds_toArray, List.set_cons_zero, List.set_cons_succ]
            refine wpU_ready (rs := [16]) (by kernel_rfl) (by simp) (AllU.cons (o := { dst := none, op := _, type := _, pos := _, after := _, guard := _ }) rfl ?_ AllU.nil)
            intro K hK
            go_simp
            refine hK.out _ _ (fun h => absurd rfl h) ?_
            clear hK K
            try simp only [Act.put, List.setIfInBounds_toArray, List.set_cons_zero, List.set_cons_succ]
            refine wpU_done (by kernel_rfl) ?_ _
            go_wp2
            go_meet
            exact ⟨_, _, _, _, _, _, _, hid ((hF _ rfl).mono (by omega))⟩
          · intro K hK
            go_simp
            have hO3 := (hO2.new (.cells #[.int .i64 (1), .int .i64 (0), .int .i64 (31), .int .i64 (32)] 3)).mono (lim' := lim + 40) (by omega)
            have x1_3 := heap_alloc_new w2 (.cells #[.int .i64 (1), .int .i64 (0), .int .i64 (31), .int .i64 (32)] 3)
            obtain ⟨w3, hw3⟩ : ∃ vv, vv = w2.alloc (.cells #[.int .i64 (1), .int .i64 (0), .int .i64 (31), .int .i64 (32)] 3) := ⟨_, rfl⟩
            rw [← hw3] at hO3 x1_3
            rw [← hw3]
            have hsz := hO2.ord
            have hBl := Cal.lt_block hO2.res
            obtain ⟨Q1, hQ1⟩ : ∃ x, x = w2.heap.size := ⟨_, rfl⟩
            rw [← hQ1] at x1_3 hBl
            rw [← hQ1]
            have hQB1 : B + 1 < Q1 := hBl
            have hQR1 : R < Q1 := by omega
            clear hBl hsz hQ1
            clear hw3
            refine hK.out _ _ (fun _ => hO3.bx.cells.2.2.2.1) ?_
            clear hK K
            try simp only [Act.put, List.setIfInBounds_toArray, List.set_cons_zero, List.set_cons_succ]
            obtain ⟨g1, kk1, hg1⟩ : ∃ g : Int, (#[.int .i64 (1), .int .i64 (0), .int .i64 (31), .int .i64 (32)] : Array Value)[j1]? = some (.int .i64 g) ∧ In64 g := by
              rcases (show j1 = 0 ∨ j1 = 1 ∨ j1 = 2 ∨ j1 = 3 by omega) with rfl | rfl | rfl | rfl
              · exact ⟨_, rfl, by decide⟩
              · exact ⟨_, rfl, by decide⟩
              · exact ⟨_, rfl, by decide⟩
              · exact ⟨_, rfl, by decide⟩
            have s1_3 := cell_in x1_3 kk1
            refine wpU_mono (S := fun x => x.cell? ⟨B, 3, none⟩ = some (.slice b3 m3 k3) ∧ x.cell? ⟨Q1, j1, none⟩ = some (.int .i64 g1)) (fun x h => h.1) _ _ _ _ ?_
            have hHq : (fun x => x.cell? ⟨B, 3, none⟩ = some (.slice b3 m3 k3) ∧ x.cell? ⟨Q1, j1, none⟩ = some (.int .i64 g1)) w3 := ⟨hO3.bx.cells.2.2.2.1, s1_3⟩
            refine wpU_take (i := 10) (oi := { dst := some 40, op := _, type := _, pos := _, after := _, guard := _ }) (v := .pointer (some ⟨Q1, j1, none⟩)) rfl (by kernel_rfl) (by kernel_rfl) (by kernel_rfl) (by kernel_rfl) (fun _ _ _ h => h) (Or.inl ⟨by rfl, fun w hSw => by (try dsimp only at hSw); (try go_split_ands); go_simp⟩) (by first | trivial | assumption) ?_
            try simp only [Act.put, List.setIfInBounds_toArray, List.set_cons_zero, List.set_cons_succ]
            refine wpU_take (i := 11) (oi := { dst := some 41, op := _, type := _, pos := _, after := _, guard := _ }) (v := .int .i64 g1) rfl (by kernel_rfl) (by kernel_rfl) (by kernel_rfl) (by kernel_rfl) (fun _ _ _ h => h) (Or.inl ⟨by rfl, fun w hSw => by (try dsimp only at hSw); (try go_split_ands); go_simp⟩) (by first | trivial | assumption) ?_
            try simp only [Act.put, List.setIfInBounds_toArray, List.set_cons_zero, List.set_cons_succ]
            refine wpU_ready (rs := [2]) (by kernel_rfl) (by simp) (AllU.cons (o := { dst := some 32, op := _, type := _, pos := _, after := _, guard := _ }) rfl ?_ AllU.nil)
            intro K hK
            go_simp
            have hO4 := (hO3.new (.cells #[.int .i64 (-1), .int .i64 (0), .int .i64 (1)] 3)).mono (lim' := lim + 50) (by omega)
            have x1_4 := box_gr (row := none) x1_3 (grown_alloc (World.grownBy.refl _ _) (.cells #[.int .i64 (-1), .int .i64 (0), .int .i64 (1)] 3)) (fun e => by cases e)
            have s1_4 := cell_in (v := .int .i64 g1) x1_4 kk1
            have x0_4 := heap_alloc_new w3 (.cells #[.int .i64 (-1), .int .i64 (0), .int .i64 (1)] 3)
            obtain ⟨w4, hw4⟩ : ∃ vv, vv = w3.alloc (.cells #[.int .i64 (-1), .int .i64 (0), .int .i64 (1)] 3) := ⟨_, rfl⟩
            rw [← hw4] at hO4 x1_4 s1_4 x0_4
            rw [← hw4]
            have hsz := hO3.ord
            have hBl := Cal.lt_block hO3.res
            obtain ⟨Q0, hQ0⟩ : ∃ x, x = w3.heap.size := ⟨_, rfl⟩
            rw [← hQ0] at x0_4 hBl
            rw [← hQ0]
            have hQB0 : B + 1 < Q0 := hBl
            have hQR0 : R < Q0 := by omega
            clear hBl hsz hQ0
            clear hw4
            refine hK.out _ _ (fun _ => ⟨hO4.bx.cells.2.2.2.1, s1_4⟩) ?_
            clear hK K
            try simp only [Act.put, List.setIfInBounds_toArray, List.set_cons_zero, List.set_cons_succ]
            obtain ⟨g0, kk0, hg0⟩ : ∃ g : Int, (#[.int .i64 (-1), .int .i64 (0), .int .i64 (1)] : Array Value)[j0]? = some (.int .i64 g) ∧ In64 g := by
              rcases (show j0 = 0 ∨ j0 = 1 ∨ j0 = 2 by omega) with rfl | rfl | rfl
              · exact ⟨_, rfl, by decide⟩
              · exact ⟨_, rfl, by decide⟩
              · exact ⟨_, rfl, by decide⟩
            have s0_4 := cell_in x0_4 kk0
            refine wpU_mono (S := fun x => x.cell? ⟨B, 3, none⟩ = some (.slice b3 m3 k3) ∧ x.cell? ⟨Q0, j0, none⟩ = some (.int .i64 g0) ∧ x.cell? ⟨Q1, j1, none⟩ = some (.int .i64 g1)) (fun x h => ⟨h.1, h.2.2⟩) _ _ _ _ ?_
            have hHq : (fun x => x.cell? ⟨B, 3, none⟩ = some (.slice b3 m3 k3) ∧ x.cell? ⟨Q0, j0, none⟩ = some (.int .i64 g0) ∧ x.cell? ⟨Q1, j1, none⟩ = some (.int .i64 g1)) w4 := ⟨hO4.bx.cells.2.2.2.1, s0_4, s1_4⟩
            refine wpU_take (i := 5) (oi := { dst := some 35, op := _, type := _, pos := _, after := _, guard := _ }) (v := .pointer (some ⟨Q0, j0, none⟩)) rfl (by kernel_rfl) (by kernel_rfl) (by kernel_rfl) (by kernel_rfl) (fun _ _ _ h => h) (Or.inl ⟨by rfl, fun w hSw => by (try dsimp only at hSw); (try go_split_ands); go_simp⟩) (by first | trivial | assumption) ?_
            try simp only [Act.put, List.setIfInBounds_toArray, List.set_cons_zero, List.set_cons_succ]
            refine wpU_take (i := 6) (oi := { dst := some 36, op := _, type := _, pos := _, after := _, guard := _ }) (v := .int .i64 g0) rfl (by kernel_rfl) (by kernel_rfl) (by kernel_rfl) (by kernel_rfl) (fun _ _ _ h => h) (Or.inl ⟨by rfl, fun w hSw => by (try dsimp only at hSw); (try go_split_ands); go_simp⟩) (by first | trivial | assumption) ?_
            try simp only [Act.put, List.setIfInBounds_toArray, List.set_cons_zero, List.set_cons_succ]
            refine wpU_take (i := 12) (oi := { dst := some 42, op := _, type := _, pos := _, after := _, guard := _ }) (v := .agg #[.int .i64 (g0), .int .i64 (g1)]) rfl (by kernel_rfl) (by kernel_rfl) (by kernel_rfl) (by kernel_rfl) (fun _ _ _ h => h) (Or.inl ⟨by rfl, fun w hSw => by (try dsimp only at hSw); (try go_split_ands); go_simp⟩) (by first | trivial | assumption) ?_
            try simp only [Act.put, List.setIfInBounds_toArray, List.set_cons_zero, List.set_cons_succ]
            refine wpU_ready (rs := [13]) (by kernel_rfl) (by simp) (AllU.cons (o := { dst := some 43, op := _, type := _, pos := _, after := _, guard := _ }) rfl ?_ AllU.nil)
            intro K hK
            go_simp
            have hO5 := (hO4.new (.cells #[.int .i64 (g0), .int .i64 (g1)] 55)).mono (lim' := lim + 60) (by omega)
            have x0_5 := box_gr (row := none) x0_4 (grown_alloc (World.grownBy.refl _ _) (.cells #[.int .i64 (g0), .int .i64 (g1)] 55)) (fun e => by cases e)
            have s0_5 := cell_in (v := .int .i64 g0) x0_5 kk0
            have x1_5 := box_gr (row := none) x1_4 (grown_alloc (World.grownBy.refl _ _) (.cells #[.int .i64 (g0), .int .i64 (g1)] 55)) (fun e => by cases e)
            have s1_5 := cell_in (v := .int .i64 g1) x1_5 kk1
            obtain ⟨w5, hw5⟩ : ∃ vv, vv = w4.alloc (.cells #[.int .i64 (g0), .int .i64 (g1)] 55) := ⟨_, rfl⟩
            have hN := hw5
            rw [← hw5] at hO5 x0_5 x1_5 s0_5 s1_5
            rw [← hw5]
            clear hw5
            obtain ⟨_, _, _, l0, he0, hn0, hl0, hown0, hin0⟩ := hO5.bx.r3
            cases he0
            refine hK.out _ _ (fun _ => ⟨hO5.bx.cells.2.2.2.1, s0_5, s1_5⟩) ?_
            clear hK K
            try simp only [Act.put, List.setIfInBounds_toArray, List.set_cons_zero, List.set_cons_succ]
            refine wpU_ready (rs := [14]) (by kernel_rfl) (by simp) (AllU.cons (o := { dst := some 44, op := _, type := _, pos := _, after := _, guard := _ }) rfl ?_ AllU.nil)
            intro K hK
            rw [if_pos (by rfl)]
            refine wp_append_own_at2 (.tmp 31) (.tmp 43) 23 rfl X 55 i0 (.agg #[.int .i64 0, .int .i64 0]) 2 16 Tryd.underlying23 hi' hz0 hz1 hz2 rfl (by decide) (.slice b3 m3 k3) m3 _ rfl hown0 ⟨w4.heap.size, 0, none⟩ 1 1 [.int .i64 (g0), .int .i64 (g1)] rfl rfl ?d1 ?d2 ?d3 ?d4 ?d5 ?_
            case d1 => rw [hN]; exact two_new _ _ _ _
            case d2 => intro u hu; simp at hu; rcases hu with rfl | rfl <;> rfl
            case d3 => unfold maxLen; omega
            case d4 => omega
            case d5 => have := hO5.kb.size; have := hO5.ord; omega
            intro v3 w6 hown3 hgr3 _ hwho
            obtain ⟨a3, c3, rfl⟩ := own_form hown3
            have hrow : RowR 20 X w6 (.slice a3 (m3 + 1) c3) := ⟨_, _, _, l0 ++ [(g0, g1)], rfl, by omega, by simp [hl0], by rw [flat_snoc]; exact hown3, fun p hp => by
              rcases List.mem_append.1 hp with h | h
              · exact hin0 p h
              · simp at h; subst h; exact ⟨hg0, hg1⟩⟩
            have hF := hO5.app3 (K' := 20) (by omega) hgr3 hrow hwho
            have hbx := (hgr3.block B (Cal.lt_block hO5.bx.box) (fun e => hO5.bx.nb _ (by simp) e.symm)).trans hO5.bx.box
            have hcl : w6.cell? ⟨B, 3, none⟩ = some (.slice b3 m3 k3) := Cal.cell_at hbx 3
            have hfz : w6.frozen? ⟨B, 3, none⟩ = false := by simp [World.frozen?, hbx]
            have hnq0 : Value.ownBlock (.slice b3 m3 k3) ≠ some Q0 := fun e => by have := hrows Q0 (by exact e); omega
            have hnq1 : Value.ownBlock (.slice b3 m3 k3) ≠ some Q1 := fun e => by have := hrows Q1 (by exact e); omega
            have s0_6 := cell_in (v := .int .i64 g0) (box_gr x0_5 hgr3 (fun e => hnq0 e.symm)) kk0
            have s1_6 := cell_in (v := .int .i64 g1) (box_gr x1_5 hgr3 (fun e => hnq1 e.symm)) kk1
            refine hK.out _ _ (fun _ => ⟨hcl, s0_6, s1_6⟩) ?_
            clear hK K
            try simp only [Act.put, List.setIfInBounds_toArray, List.set_cons_zero, List.set_cons_succ]
            refine wpU_take (i := 15) (oi := { dst := some 45, op := _, type := _, pos := _, after := _, guard := _ }) (v := .pointer (some ⟨B, 3, none⟩)) rfl (by kernel_rfl) (by kernel_rfl) (by kernel_rfl) (by kernel_rfl) (fun _ _ _ h => h) (Or.inl ⟨by rfl, fun w hSw => by (try dsimp only at hSw); (try go_split_ands); go_simp⟩) (by first | trivial | assumption) ?_
            try simp only [Act.put, List.setIfInBounds_toArray, List.set_cons_zero, List.set_cons_succ]
            refine wpU_ready (rs := [16]) (by kernel_rfl) (by simp) (AllU.cons (o := { dst := none, op := _, type := _, pos := _, after := _, guard := _ }) rfl ?_ AllU.nil)
            intro K hK
            go_simp
            refine hK.out _ _ (fun h => absurd rfl h) ?_
            clear hK K
            try simp only [Act.put, List.setIfInBounds_toArray, List.set_cons_zero, List.set_cons_succ]
            refine wpU_done (by kernel_rfl) ?_ _
            go_wp2
            go_meet
            exact ⟨_, _, _, _, _, _, _, hid ((hF _ rfl).mono (by omega))⟩
      · intro K hK
        go_simp
        have hO1 := (hO0.new (.cells #[.int .i64 (1), .int .i64 (0), .int .i64 (31), .int .i64 (32)] 3)).mono (lim' := lim + 20) (by omega)
        have x1_1 := heap_alloc_new w0 (.cells #[.int .i64 (1), .int .i64 (0), .int .i64 (31), .int .i64 (32)] 3)
        obtain ⟨w1, hw1⟩ : ∃ vv, vv = w0.alloc (.cells #[.int .i64 (1), .int .i64 (0), .int .i64 (31), .int .i64 (32)] 3) := ⟨_, rfl⟩
        rw [← hw1] at hO1 x1_1
        rw [← hw1]
        have hsz := hO0.ord
        have hBl := Cal.lt_block hO0.res
        obtain ⟨Q1, hQ1⟩ : ∃ x, x = w0.heap.size := ⟨_, rfl⟩
        rw [← hQ1] at x1_1 hBl
        rw [← hQ1]
        have hQB1 : B + 1 < Q1 := hBl
        have hQR1 : R < Q1 := by omega
        clear hBl hsz hQ1
        clear hw1
        refine hK.out _ _ (fun _ => hO1.bx.cells.2.2.2.1) ?_
        clear hK K
        try simp only [Act.put, List.setIfInBounds_toArray, List.set_cons_zero, List.set_cons_succ]
        refine wpU_ready (rs := [2, 4]) (by kernel_rfl) (by simp) (AllU.cons (o := { dst := some 32, op := _, type := _, pos := _, after := _, guard := _ }) rfl ?_ (AllU.cons (o := { dst := some 34, op := _, type := _, pos := _, after := _, guard := _ }) rfl ?_ AllU.nil))
        · intro K hK
          go_simp
          have hO2 := (hO1.new (.cells #[.int .i64 (-1), .int .i64 (0), .int .i64 (1)] 3)).mono (lim' := lim + 30) (by omega)
          have x1_2 := box_gr (row := none) x1_1 (grown_alloc (World.grownBy.refl _ _) (.cells #[.int .i64 (-1), .int .i64 (0), .int .i64 (1)] 3)) (fun e => by cases e)
          have x0_2 := heap_alloc_new w1 (.cells #[.int .i64 (-1), .int .i64 (0), .int .i64 (1)] 3)
          obtain ⟨w2, hw2⟩ : ∃ vv, vv = w1.alloc (.cells #[.int .i64 (-1), .int .i64 (0), .int .i64 (1)] 3) := ⟨_, rfl⟩
          rw [← hw2] at hO2 x1_2 x0_2
          rw [← hw2]
          have hsz := hO1.ord
          have hBl := Cal.lt_block hO1.res
          obtain ⟨Q0, hQ0⟩ : ∃ x, x = w1.heap.size := ⟨_, rfl⟩
          rw [← hQ0] at x0_2 hBl
          rw [← hQ0]
          have hQB0 : B + 1 < Q0 := hBl
          have hQR0 : R < Q0 := by omega
          clear hBl hsz hQ0
          clear hw2
          refine hK.out _ _ (fun _ => hO2.bx.cells.2.2.2.1) ?_
          clear hK K
          try simp only [Act.put, List.setIfInBounds_toArray, List.set_cons_zero, List.set_cons_succ]
          refine wpU_ready (rs := [4]) (by kernel_rfl) (by simp) (AllU.cons (o := { dst := some 34, op := _, type := _, pos := _, after := _, guard := _ }) rfl ?_ AllU.nil)
          intro K hK
          go_simp
          go_wp2_with (go_at_call 38; refine (f38 B0 R n c _ a 3 _ hO2.cu (by omega) hn (by omega) (by omega)).mono ?_; rintro e w3 ⟨jj, rfl, jl0, jh0, hc, hg⟩)
          obtain ⟨j0, rfl⟩ : ∃ j : Nat, jj = j := ⟨jj.toNat, by omega⟩
          have jb0 : (j0 : Int) < 3 := by omega
          clear jh0
          have hO3 := (hO2.call hg hc).mono (lim' := lim + 40) (by omega)
          have x0_3 := box_gr (row := (some R)) x0_2 hg (fun e => by have := Option.some.inj e; omega)
          have x1_3 := box_gr (row := (some R)) x1_2 hg (fun e => by have := Option.some.inj e; omega)
          clear hc hg
          refine hK.out _ _ (fun _ => hO3.bx.cells.2.2.2.1) ?_
          clear hK K
          try simp only [Act.put, List.setIfInBounds_toArray, List.set_cons_zero, List.set_cons_succ]
          obtain ⟨g0, kk0, hg0⟩ : ∃ g : Int, (#[.int .i64 (-1), .int .i64 (0), .int .i64 (1)] : Array Value)[j0]? = some (.int .i64 g) ∧ In64 g := by
            rcases (show j0 = 0 ∨ j0 = 1 ∨ j0 = 2 by omega) with rfl | rfl | rfl
            · exact ⟨_, rfl, by decide⟩
            · exact ⟨_, rfl, by decide⟩
            · exact ⟨_, rfl, by decide⟩
          have s0_3 := cell_in x0_3 kk0
          refine wpU_mono (S := fun x => x.cell? ⟨B, 3, none⟩ = some (.slice b3 m3 k3) ∧ x.cell? ⟨Q0, j0, none⟩ = some (.int .i64 g0)) (fun x h => h.1) _ _ _ _ ?_
          have hHq : (fun x => x.cell? ⟨B, 3, none⟩ = some (.slice b3 m3 k3) ∧ x.cell? ⟨Q0, j0, none⟩ = some (.int .i64 g0)) w3 := ⟨hO3.bx.cells.2.2.2.1, s0_3⟩
          refine wpU_take (i := 5) (oi := { dst := some 35, op := _, type := _, pos := _, after := _, guard := _ }) (v := .pointer (some ⟨Q0, j0, none⟩)) rfl (by kernel_rfl) (by kernel_rfl) (by kernel_rfl) (by kernel_rfl) (fun _ _ _ h => h) (Or.inl ⟨by rfl, fun w hSw => by (try dsimp only at hSw); (try go_split_ands); go_simp⟩) (by first | trivial | assumption) ?_
          try simp only [Act.put, List.setIfInBounds_toArray, List.set_cons_zero, List.set_cons_succ]
          refine wpU_take (i := 6) (oi := { dst := some 36, op := _, type := _, pos := _, after := _, guard := _ }) (v := .int .i64 g0) rfl (by kernel_rfl) (by kernel_rfl) (by kernel_rfl) (by kernel_rfl) (fun _ _ _ h => h) (Or.inl ⟨by rfl, fun w hSw => by (try dsimp only at hSw); (try go_split_ands); go_simp⟩) (by first | trivial | assumption) ?_
          try simp only [Act.put, List.setIfInBounds_toArray, List.set_cons_zero, List.set_cons_succ]
          refine wpU_ready (rs := [9]) (by kernel_rfl) (by simp) (AllU.cons (o := { dst := some 39, op := _, type := _, pos := _, after := _, guard := _ }) rfl ?_ AllU.nil)
          intro K hK
          go_simp
          go_wp2_with (go_at_call 38; refine (f38 B0 R n c _ a 4 _ hO3.cu (by omega) hn (by omega) (by omega)).mono ?_; rintro e w4 ⟨jj, rfl, jl1, jh1, hc, hg⟩)
          obtain ⟨j1, rfl⟩ : ∃ j : Nat, jj = j := ⟨jj.toNat, by omega⟩
          have jb1 : (j1 : Int) < 4 := by omega
          clear jh1
          have hO4 := (hO3.call hg hc).mono (lim' := lim + 50) (by omega)
          have x0_4 := box_gr (row := (some R)) x0_3 hg (fun e => by have := Option.some.inj e; omega)
          have s0_4 := cell_in (v := .int .i64 g0) x0_4 kk0
          have x1_4 := box_gr (row := (some R)) x1_3 hg (fun e => by have := Option.some.inj e; omega)
          clear hc hg
          refine hK.out _ _ (fun _ => ⟨hO4.bx.cells.2.2.2.1, s0_4⟩) ?_
          clear hK K
          try simp only [Act.put, List.setIfInBounds_toArray, List.set_cons_zero, List.set_cons_succ]
          obtain ⟨g1, kk1, hg1⟩ : ∃ g : Int, (#[.int .i64 (1), .int .i64 (0), .int .i64 (31), .int .i64 (32)] : Array Value)[j1]? = some (.int .i64 g) ∧ In64 g := by
            rcases (show j1 = 0 ∨ j1 = 1 ∨ j1 = 2 ∨ j1 = 3 by omega) with rfl | rfl | rfl | rfl
            · exact ⟨_, rfl, by decide⟩
            · exact ⟨_, rfl, by decide⟩
            · exact ⟨_, rfl, by decide⟩
            · exact ⟨_, rfl, by decide⟩
          have s1_4 := cell_in x1_4 kk1
          refine wpU_mono (S := fun x => x.cell? ⟨B, 3, none⟩ = some (.slice b3 m3 k3) ∧ x.cell? ⟨Q0, j0, none⟩ = some (.int .i64 g0) ∧ x.cell? ⟨Q1, j1, none⟩ = some (.int .i64 g1)) (fun x h => ⟨h.1, h.2.1⟩) _ _ _ _ ?_
          have hHq : (fun x => x.cell? ⟨B, 3, none⟩ = some (.slice b3 m3 k3) ∧ x.cell? ⟨Q0, j0, none⟩ = some (.int .i64 g0) ∧ x.cell? ⟨Q1, j1, none⟩ = some (.int .i64 g1)) w4 := ⟨hO4.bx.cells.2.2.2.1, s0_4, s1_4⟩
          refine wpU_take (i := 10) (oi := { dst := some 40, op := _, type := _, pos := _, after := _, guard := _ }) (v := .pointer (some ⟨Q1, j1, none⟩)) rfl (by kernel_rfl) (by kernel_rfl) (by kernel_rfl) (by kernel_rfl) (fun _ _ _ h => h) (Or.inl ⟨by rfl, fun w hSw => by (try dsimp only at hSw); (try go_split_ands); go_simp⟩) (by first | trivial | assumption) ?_
          try simp only [Act.put, List.setIfInBounds_toArray, List.set_cons_zero, List.set_cons_succ]
          refine wpU_take (i := 11) (oi := { dst := some 41, op := _, type := _, pos := _, after := _, guard := _ }) (v := .int .i64 g1) rfl (by kernel_rfl) (by kernel_rfl) (by kernel_rfl) (by kernel_rfl) (fun _ _ _ h => h) (Or.inl ⟨by rfl, fun w hSw => by (try dsimp only at hSw); (try go_split_ands); go_simp⟩) (by first | trivial | assumption) ?_
          try simp only [Act.put, List.setIfInBounds_toArray, List.set_cons_zero, List.set_cons_succ]
          refine wpU_take (i := 12) (oi := { dst := some 42, op := _, type := _, pos := _, after := _, guard := _ }) (v := .agg #[.int .i64 (g0), .int .i64 (g1)]) rfl (by kernel_rfl) (by kernel_rfl) (by kernel_rfl) (by kernel_rfl) (fun _ _ _ h => h) (Or.inl ⟨by rfl, fun w hSw => by (try dsimp only at hSw); (try go_split_ands); go_simp⟩) (by first | trivial | assumption) ?_
          try simp only [Act.put, List.setIfInBounds_toArray, List.set_cons_zero, List.set_cons_succ]
          refine wpU_ready (rs := [13]) (by kernel_rfl) (by simp) (AllU.cons (o := { dst := some 43, op := _, type := _, pos := _, after := _, guard := _ }) rfl ?_ AllU.nil)
          intro K hK
          go_simp
          have hO5 := (hO4.new (.cells #[.int .i64 (g0), .int .i64 (g1)] 55)).mono (lim' := lim + 60) (by omega)
          have x0_5 := box_gr (row := none) x0_4 (grown_alloc (World.grownBy.refl _ _) (.cells #[.int .i64 (g0), .int .i64 (g1)] 55)) (fun e => by cases e)
          have s0_5 := cell_in (v := .int .i64 g0) x0_5 kk0
          have x1_5 := box_gr (row := none) x1_4 (grown_alloc (World.grownBy.refl _ _) (.cells #[.int .i64 (g0), .int .i64 (g1)] 55)) (fun e => by cases e)
          have s1_5 := cell_in (v := .int .i64 g1) x1_5 kk1
          obtain ⟨w5, hw5⟩ : ∃ vv, vv = w4.alloc (.cells #[.int .i64 (g0), .int .i64 (g1)] 55) := ⟨_, rfl⟩
          have hN := hw5
          rw [← hw5] at hO5 x0_5 x1_5 s0_5 s1_5
          rw [← hw5]
          clear hw5
          obtain ⟨_, _, _, l0, he0, hn0, hl0, hown0, hin0⟩ := hO5.bx.r3
          cases he0
          refine hK.out _ _ (fun _ => ⟨hO5.bx.cells.2.2.2.1, s0_5, s1_5⟩) ?_
          clear hK K
          try simp only [Act.put, List.setIfInBounds_toArray, List.set_cons_zero, List.set_cons_succ]
          refine wpU_ready (rs := [14]) (by kernel_rfl) (by simp) (AllU.cons (o := { dst := some 44, op := _, type := _, pos := _, after := _, guard := _ }) rfl ?_ AllU.nil)
          intro K hK
          rw [if_pos (by rfl)]
          refine wp_append_own_at2 (.tmp 31) (.tmp 43) 23 rfl X 55 i0 (.agg #[.int .i64 0, .int .i64 0]) 2 16 Tryd.underlying23 hi' hz0 hz1 hz2 rfl (by decide) (.slice b3 m3 k3) m3 _ rfl hown0 ⟨w4.heap.size, 0, none⟩ 1 1 [.int .i64 (g0), .int .i64 (g1)] rfl rfl ?d1 ?d2 ?d3 ?d4 ?d5 ?_
          case d1 => rw [hN]; exact two_new _ _ _ _
          case d2 => intro u hu; simp at hu; rcases hu with rfl | rfl <;> rfl
          case d3 => unfold maxLen; omega
          case d4 => omega
          case d5 => have := hO5.kb.size; have := hO5.ord; omega
          intro v3 w6 hown3 hgr3 _ hwho
          obtain ⟨a3, c3, rfl⟩ := own_form hown3
          have hrow : RowR 20 X w6 (.slice a3 (m3 + 1) c3) := ⟨_, _, _, l0 ++ [(g0, g1)], rfl, by omega, by simp [hl0], by rw [flat_snoc]; exact hown3, fun p hp => by
            rcases List.mem_append.1 hp with h | h
            · exact hin0 p h
            · simp at h; subst h; exact ⟨hg0, hg1⟩⟩
          have hF := hO5.app3 (K' := 20) (by omega) hgr3 hrow hwho
          have hbx := (hgr3.block B (Cal.lt_block hO5.bx.box) (fun e => hO5.bx.nb _ (by simp) e.symm)).trans hO5.bx.box
          have hcl : w6.cell? ⟨B, 3, none⟩ = some (.slice b3 m3 k3) := Cal.cell_at hbx 3
          have hfz : w6.frozen? ⟨B, 3, none⟩ = false := by simp [World.frozen?, hbx]
          have hnq0 : Value.ownBlock (.slice b3 m3 k3) ≠ some Q0 := fun e => by have := hrows Q0 (by exact e); omega
          have hnq1 : Value.ownBlock (.slice b3 m3 k3) ≠ some Q1 := fun e => by have := hrows Q1 (by exact e); omega
          have s0_6 := cell_in (v := .int .i64 g0) (box_gr x0_5 hgr3 (fun e => hnq0 e.symm)) kk0
          have s1_6 := cell_in (v := .int .i64 g1) (box_gr x1_5 hgr3 (fun e => hnq1 e.symm)) kk1
          refine hK.out _ _ (fun _ => ⟨hcl, s0_6, s1_6⟩) ?_
          clear hK K
          try simp only [Act.put, List.setIfInBounds_toArray, List.set_cons_zero, List.set_cons_succ]
          refine wpU_take (i := 15) (oi := { dst := some 45, op := _, type := _, pos := _, after := _, guard := _ }) (v := .pointer (some ⟨B, 3, none⟩)) rfl (by kernel_rfl) (by kernel_rfl) (by kernel_rfl) (by kernel_rfl) (fun _ _ _ h => h) (Or.inl ⟨by rfl, fun w hSw => by (try dsimp only at hSw); (try go_split_ands); go_simp⟩) (by first | trivial | assumption) ?_
          try simp only [Act.put, List.setIfInBounds_toArray, List.set_cons_zero, List.set_cons_succ]
          refine wpU_ready (rs := [16]) (by kernel_rfl) (by simp) (AllU.cons (o := { dst := none, op := _, type := _, pos := _, after := _, guard := _ }) rfl ?_ AllU.nil)
          intro K hK
          go_simp
          refine hK.out _ _ (fun h => absurd rfl h) ?_
          clear hK K
          try simp only [Act.put, List.setIfInBounds_toArray, List.set_cons_zero, List.set_cons_succ]
          refine wpU_done (by kernel_rfl) ?_ _
          go_wp2
          go_meet
          exact ⟨_, _, _, _, _, _, _, hid ((hF _ rfl).mono (by omega))⟩
        · intro K hK
          go_simp
          go_wp2_with (go_at_call 38; refine (f38 B0 R n c _ a 3 _ hO1.cu (by omega) hn (by omega) (by omega)).mono ?_; rintro e w2 ⟨jj, rfl, jl0, jh0, hc, hg⟩)
          obtain ⟨j0, rfl⟩ : ∃ j : Nat, jj = j := ⟨jj.toNat, by omega⟩
          have jb0 : (j0 : Int) < 3 := by omega
          clear jh0
          have hO2 := (hO1.call hg hc).mono (lim' := lim + 30) (by omega)
          have x1_2 := box_gr (row := (some R)) x1_1 hg (fun e => by have := Option.some.inj e; omega)
          clear hc hg
          refine hK.out _ _ (fun _ => hO2.bx.cells.2.2.2.1) ?_
          clear hK K
          try simp only [Act.put, List.setIfInBounds_toArray, List.set_cons_zero, List.set_cons_succ]
          refine wpU_ready (rs := [2, 9]) (by kernel_rfl) (by simp) (AllU.cons (o := { dst := some 32, op := _, type := _, pos := _, after := _, guard := _ }) rfl ?_ (AllU.cons (o := { dst := some 39, op := _, type := _, pos := _, after := _, guard := _ }) rfl ?_ AllU.nil))
          · intro K hK
            go_simp
            have hO3 := (hO2.new (.cells #[.int .i64 (-1), .int .i64 (0), .int .i64 (1)] 3)).mono (lim' := lim + 40) (by omega)
            have x1_3 := box_gr (row := none) x1_2 (grown_alloc (World.grownBy.refl _ _) (.cells #[.int .i64 (-1), .int .i64 (0), .int .i64 (1)] 3)) (fun e => by cases e)
            have x0_3 := heap_alloc_new w2 (.cells #[.int .i64 (-1), .int .i64 (0), .int .i64 (1)] 3)
            obtain ⟨w3, hw3⟩ : ∃ vv, vv = w2.alloc (.cells #[.int .i64 (-1), .int .i64 (0), .int .i64 (1)] 3) := ⟨_, rfl⟩
            rw [← hw3] at hO3 x1_3 x0_3
            rw [← hw3]
            have hsz := hO2.ord
            have hBl := Cal.lt_block hO2.res
            obtain ⟨Q0, hQ0⟩ : ∃ x, x = w2.heap.size := ⟨_, rfl⟩
            rw [← hQ0] at x0_3 hBl
            rw [← hQ0]
            have hQB0 : B + 1 < Q0 := hBl
            have hQR0 : R < Q0 := by omega
            clear hBl hsz hQ0
            clear hw3
            refine hK.out _ _ (fun _ => hO3.bx.cells.2.2.2.1) ?_
            clear hK K
            try simp only [Act.put, List.setIfInBounds_toArray, List.set_cons_zero, List.set_cons_succ]
            obtain ⟨g0, kk0, hg0⟩ : ∃ g : Int, (#[.int .i64 (-1), .int .i64 (0), .int .i64 (1)] : Array Value)[j0]? = some (.int .i64 g) ∧ In64 g := by
              rcases (show j0 = 0 ∨ j0 = 1 ∨ j0 = 2 by omega) with rfl | rfl | rfl
              · exact ⟨_, rfl, by decide⟩
              · exact ⟨_, rfl, by decide⟩
              · exact ⟨_, rfl, by decide⟩
            have s0_3 := cell_in x0_3 kk0
            refine wpU_mono (S := fun x => x.cell? ⟨B, 3, none⟩ = some (.slice b3 m3 k3) ∧ x.cell? ⟨Q0, j0, none⟩ = some (.int .i64 g0)) (fun x h => h.1) _ _ _ _ ?_
            have hHq : (fun x => x.cell? ⟨B, 3, none⟩ = some (.slice b3 m3 k3) ∧ x.cell? ⟨Q0, j0, none⟩ = some (.int .i64 g0)) w3 := ⟨hO3.bx.cells.2.2.2.1, s0_3⟩
            refine wpU_take (i := 5) (oi := { dst := some 35, op := _, type := _, pos := _, after := _, guard := _ }) (v := .pointer (some ⟨Q0, j0, none⟩)) rfl (by kernel_rfl) (by kernel_rfl) (by kernel_rfl) (by kernel_rfl) (fun _ _ _ h => h) (Or.inl ⟨by rfl, fun w hSw => by (try dsimp only at hSw); (try go_split_ands); go_simp⟩) (by first | trivial | assumption) ?_
            try simp only [Act.put, List.setIfInBounds_toArray, List.set_cons_zero, List.set_cons_succ]
            refine wpU_take (i := 6) (oi := { dst := some 36, op := _, type := _, pos := _, after := _, guard := _ }) (v := .int .i64 g0) rfl (by kernel_rfl) (by kernel_rfl) (by kernel_rfl) (by kernel_rfl) (fun _ _ _ h => h) (Or.inl ⟨by rfl, fun w hSw => by (try dsimp only at hSw); (try go_split_ands); go_simp⟩) (by first | trivial | assumption) ?_
            try simp only [Act.put, List.setIfInBounds_toArray, List.set_cons_zero, List.set_cons_succ]
            refine wpU_ready (rs := [9]) (by kernel_rfl) (by simp) (AllU.cons (o := { dst := some 39, op := _, type := _, pos := _, after := _, guard := _ }) rfl ?_ AllU.nil)
            intro K hK
            go_simp
            go_wp2_with (go_at_call 38; refine (f38 B0 R n c _ a 4 _ hO3.cu (by omega) hn (by omega) (by omega)).mono ?_; rintro e w4 ⟨jj, rfl, jl1, jh1, hc, hg⟩)
            obtain ⟨j1, rfl⟩ : ∃ j : Nat, jj = j := ⟨jj.toNat, by omega⟩
            have jb1 : (j1 : Int) < 4 := by omega
            clear jh1
            have hO4 := (hO3.call hg hc).mono (lim' := lim + 50) (by omega)
            have x0_4 := box_gr (row := (some R)) x0_3 hg (fun e => by have := Option.some.inj e; omega)
            have s0_4 := cell_in (v := .int .i64 g0) x0_4 kk0
            have x1_4 := box_gr (row := (some R)) x1_3 hg (fun e => by have := Option.some.inj e; omega)
            clear hc hg
            refine hK.out _ _ (fun _ => ⟨hO4.bx.cells.2.2.2.1, s0_4⟩) ?_
            clear hK K
            try simp only [Act.put, List.setIfInBounds_toArray, List.set_cons_zero, List.set_cons_succ]
            obtain ⟨g1, kk1, hg1⟩ : ∃ g : Int, (#[.int .i64 (1), .int .i64 (0), .int .i64 (31), .int .i64 (32)] : Array Value)[j1]? = some (.int .i64 g) ∧ In64 g := by
              rcases (show j1 = 0 ∨ j1 = 1 ∨ j1 = 2 ∨ j1 = 3 by omega) with rfl | rfl | rfl | rfl
              · exact ⟨_, rfl, by decide⟩
              · exact ⟨_, rfl, by decide⟩
              · exact ⟨_, rfl, by decide⟩
              · exact ⟨_, rfl, by decide⟩
            have s1_4 := cell_in x1_4 kk1
            refine wpU_mono (S := fun x => x.cell? ⟨B, 3, none⟩ = some (.slice b3 m3 k3) ∧ x.cell? ⟨Q0, j0, none⟩ = some (.int .i64 g0) ∧ x.cell? ⟨Q1, j1, none⟩ = some (.int .i64 g1)) (fun x h => ⟨h.1, h.2.1⟩) _ _ _ _ ?_
            have hHq : (fun x => x.cell? ⟨B, 3, none⟩ = some (.slice b3 m3 k3) ∧ x.cell? ⟨Q0, j0, none⟩ = some (.int .i64 g0) ∧ x.cell? ⟨Q1, j1, none⟩ = some (.int .i64 g1)) w4 := ⟨hO4.bx.cells.2.2.2.1, s0_4, s1_4⟩
            refine wpU_take (i := 10) (oi := { dst := some 40, op := _, type := _, pos := _, after := _, guard := _ }) (v := .pointer (some ⟨Q1, j1, none⟩)) rfl (by kernel_rfl) (by kernel_rfl) (by kernel_rfl) (by kernel_rfl) (fun _ _ _ h => h) (Or.inl ⟨by rfl, fun w hSw => by (try dsimp only at hSw); (try go_split_ands); go_simp⟩) (by first | trivial | assumption) ?_
            try simp only [Act.put, List.setIfInBounds_toArray, List.set_cons_zero, List.set_cons_succ]
            refine wpU_take (i := 11) (oi := { dst := some 41, op := _, type := _, pos := _, after := _, guard := _ }) (v := .int .i64 g1) rfl (by kernel_rfl) (by kernel_rfl) (by kernel_rfl) (by kernel_rfl) (fun _ _ _ h => h) (Or.inl ⟨by rfl, fun w hSw => by (try dsimp only at hSw); (try go_split_ands); go_simp⟩) (by first | trivial | assumption) ?_
            try simp only [Act.put, List.setIfInBounds_toArray, List.set_cons_zero, List.set_cons_succ]
            refine wpU_take (i := 12) (oi := { dst := some 42, op := _, type := _, pos := _, after := _, guard := _ }) (v := .agg #[.int .i64 (g0), .int .i64 (g1)]) rfl (by kernel_rfl) (by kernel_rfl) (by kernel_rfl) (by kernel_rfl) (fun _ _ _ h => h) (Or.inl ⟨by rfl, fun w hSw => by (try dsimp only at hSw); (try go_split_ands); go_simp⟩) (by first | trivial | assumption) ?_
            try simp only [Act.put, List.setIfInBounds_toArray, List.set_cons_zero, List.set_cons_succ]
            refine wpU_ready (rs := [13]) (by kernel_rfl) (by simp) (AllU.cons (o := { dst := some 43, op := _, type := _, pos := _, after := _, guard := _ }) rfl ?_ AllU.nil)
            intro K hK
            go_simp
            have hO5 := (hO4.new (.cells #[.int .i64 (g0), .int .i64 (g1)] 55)).mono (lim' := lim + 60) (by omega)
            have x0_5 := box_gr (row := none) x0_4 (grown_alloc (World.grownBy.refl _ _) (.cells #[.int .i64 (g0), .int .i64 (g1)] 55)) (fun e => by cases e)
            have s0_5 := cell_in (v := .int .i64 g0) x0_5 kk0
            have x1_5 := box_gr (row := none) x1_4 (grown_alloc (World.grownBy.refl _ _) (.cells #[.int .i64 (g0), .int .i64 (g1)] 55)) (fun e => by cases e)
            have s1_5 := cell_in (v := .int .i64 g1) x1_5 kk1
            obtain ⟨w5, hw5⟩ : ∃ vv, vv = w4.alloc (.cells #[.int .i64 (g0), .int .i64 (g1)] 55) := ⟨_, rfl⟩
            have hN := hw5
            rw [← hw5] at hO5 x0_5 x1_5 s0_5 s1_5
            rw [← hw5]
            clear hw5
            obtain ⟨_, _, _, l0, he0, hn0, hl0, hown0, hin0⟩ := hO5.bx.r3
            cases he0
            refine hK.out _ _ (fun _ => ⟨hO5.bx.cells.2.2.2.1, s0_5, s1_5⟩) ?_
            clear hK K
            try simp only [Act.put, List.setIfInBounds_toArray, List.set_cons_zero, List.set_cons_succ]
            refine wpU_ready (rs := [14]) (by kernel_rfl) (by simp) (AllU.cons (o := { dst := some 44, op := _, type := _, pos := _, after := _, guard := _ }) rfl ?_ AllU.nil)
            intro K hK
            rw [if_pos (by rfl)]
            refine wp_append_own_at2 (.tmp 31) (.tmp 43) 23 rfl X 55 i0 (.agg #[.int .i64 0, .int .i64 0]) 2 16 Tryd.underlying23 hi' hz0 hz1 hz2 rfl (by decide) (.slice b3 m3 k3) m3 _ rfl hown0 ⟨w4.heap.size, 0, none⟩ 1 1 [.int .i64 (g0), .int .i64 (g1)] rfl rfl ?d1 ?d2 ?d3 ?d4 ?d5 ?_
            case d1 => rw [hN]; exact two_new _ _ _ _
            case d2 => intro u hu; simp at hu; rcases hu with rfl | rfl <;> rfl
            case d3 => unfold maxLen; omega
            case d4 => omega
            case d5 => have := hO5.kb.size; have := hO5.ord; omega
            intro v3 w6 hown3 hgr3 _ hwho
            obtain ⟨a3, c3, rfl⟩ := own_form hown3
            have hrow : RowR 20 X w6 (.slice a3 (m3 + 1) c3) := ⟨_, _, _, l0 ++ [(g0, g1)], rfl, by omega, by simp [hl0], by rw [flat_snoc]; exact hown3, fun p hp => by
              rcases List.mem_append.1 hp with h | h
              · exact hin0 p h
              · simp at h; subst h; exact ⟨hg0, hg1⟩⟩
            have hF := hO5.app3 (K' := 20) (by omega) hgr3 hrow hwho
            have hbx := (hgr3.block B (Cal.lt_block hO5.bx.box) (fun e => hO5.bx.nb _ (by simp) e.symm)).trans hO5.bx.box
            have hcl : w6.cell? ⟨B, 3, none⟩ = some (.slice b3 m3 k3) := Cal.cell_at hbx 3
            have hfz : w6.frozen? ⟨B, 3, none⟩ = false := by simp [World.frozen?, hbx]
            have hnq0 : Value.ownBlock (.slice b3 m3 k3) ≠ some Q0 := fun e => by have := hrows Q0 (by exact e); omega
            have hnq1 : Value.ownBlock (.slice b3 m3 k3) ≠ some Q1 := fun e => by have := hrows Q1 (by exact e); omega
            have s0_6 := cell_in (v := .int .i64 g0) (box_gr x0_5 hgr3 (fun e => hnq0 e.symm)) kk0
            have s1_6 := cell_in (v := .int .i64 g1) (box_gr x1_5 hgr3 (fun e => hnq1 e.symm)) kk1
            refine hK.out _ _ (fun _ => ⟨hcl, s0_6, s1_6⟩) ?_
            clear hK K
            try simp only [Act.put, List.setIfInBounds_toArray, List.set_cons_zero, List.set_cons_succ]
            refine wpU_take (i := 15) (oi := { dst := some 45, op := _, type := _, pos := _, after := _, guard := _ }) (v := .pointer (some ⟨B, 3, none⟩)) rfl (by kernel_rfl) (by kernel_rfl) (by kernel_rfl) (by kernel_rfl) (fun _ _ _ h => h) (Or.inl ⟨by rfl, fun w hSw => by (try dsimp only at hSw); (try go_split_ands); go_simp⟩) (by first | trivial | assumption) ?_
            try simp only [Act.put, List.setIfInBounds_toArray, List.set_cons_zero, List.set_cons_succ]
            refine wpU_ready (rs := [16]) (by kernel_rfl) (by simp) (AllU.cons (o := { dst := none, op := _, type := _, pos := _, after := _, guard := _ }) rfl ?_ AllU.nil)
            intro K hK
            go_simp
            refine hK.out _ _ (fun h => absurd rfl h) ?_
            clear hK K
            try simp only [Act.put, List.setIfInBounds_toArray, List.set_cons_zero, List.set_cons_succ]
            refine wpU_done (by kernel_rfl) ?_ _
            go_wp2
            go_meet
            exact ⟨_, _, _, _, _, _, _, hid ((hF _ rfl).mono (by omega))⟩
          · intro K hK
            go_simp
            go_wp2_with (go_at_call 38; refine (f38 B0 R n c _ a 4 _ hO2.cu (by omega) hn (by omega) (by omega)).mono ?_; rintro e w3 ⟨jj, rfl, jl1, jh1, hc, hg⟩)
            obtain ⟨j1, rfl⟩ : ∃ j : Nat, jj = j := ⟨jj.toNat, by omega⟩
            have jb1 : (j1 : Int) < 4 := by omega
            clear jh1
            have hO3 := (hO2.call hg hc).mono (lim' := lim + 40) (by omega)
            have x1_3 := box_gr (row := (some R)) x1_2 hg (fun e => by have := Option.some.inj e; omega)
            clear hc hg
            refine hK.out _ _ (fun _ => hO3.bx.cells.2.2.2.1) ?_
            clear hK K
            try simp only [Act.put, List.setIfInBounds_toArray, List.set_cons_zero, List.set_cons_succ]
            obtain ⟨g1, kk1, hg1⟩ : ∃ g : Int, (#[.int .i64 (1), .int .i64 (0), .int .i64 (31), .int .i64 (32)] : Array Value)[j1]? = some (.int .i64 g) ∧ In64 g := by
              rcases (show j1 = 0 ∨ j1 = 1 ∨ j1 = 2 ∨ j1 = 3 by omega) with rfl | rfl | rfl | rfl
              · exact ⟨_, rfl, by decide⟩
              · exact ⟨_, rfl, by decide⟩
              · exact ⟨_, rfl, by decide⟩
              · exact ⟨_, rfl, by decide⟩
            have s1_3 := cell_in x1_3 kk1
            refine wpU_mono (S := fun x => x.cell? ⟨B, 3, none⟩ = some (.slice b3 m3 k3) ∧ x.cell? ⟨Q1, j1, none⟩ = some (.int .i64 g1)) (fun x h => h.1) _ _ _ _ ?_
            have hHq : (fun x => x.cell? ⟨B, 3, none⟩ = some (.slice b3 m3 k3) ∧ x.cell? ⟨Q1, j1, none⟩ = some (.int .i64 g1)) w3 := ⟨hO3.bx.cells.2.2.2.1, s1_3⟩
            refine wpU_take (i := 10) (oi := { dst := some 40, op := _, type := _, pos := _, after := _, guard := _ }) (v := .pointer (some ⟨Q1, j1, none⟩)) rfl (by kernel_rfl) (by kernel_rfl) (by kernel_rfl) (by kernel_rfl) (fun _ _ _ h => h) (Or.inl ⟨by rfl, fun w hSw => by (try dsimp only at hSw); (try go_split_ands); go_simp⟩) (by first | trivial | assumption) ?_
            try simp only [Act.put, List.setIfInBounds_toArray, List.set_cons_zero, List.set_cons_succ]
            refine wpU_take (i := 11) (oi := { dst := some 41, op := _, type := _, pos := _, after := _, guard := _ }) (v := .int .i64 g1) rfl (by kernel_rfl) (by kernel_rfl) (by kernel_rfl) (by kernel_rfl) (fun _ _ _ h => h) (Or.inl ⟨by rfl, fun w hSw => by (try dsimp only at hSw); (try go_split_ands); go_simp⟩) (by first | trivial | assumption) ?_
            try simp only [Act.put, List.setIfInBounds_toArray, List.set_cons_zero, List.set_cons_succ]
            refine wpU_ready (rs := [2]) (by kernel_rfl) (by simp) (AllU.cons (o := { dst := some 32, op := _, type := _, pos := _, after := _, guard := _ }) rfl ?_ AllU.nil)
            intro K hK
            go_simp
            have hO4 := (hO3.new (.cells #[.int .i64 (-1), .int .i64 (0), .int .i64 (1)] 3)).mono (lim' := lim + 50) (by omega)
            have x1_4 := box_gr (row := none) x1_3 (grown_alloc (World.grownBy.refl _ _) (.cells #[.int .i64 (-1), .int .i64 (0), .int .i64 (1)] 3)) (fun e => by cases e)
            have s1_4 := cell_in (v := .int .i64 g1) x1_4 kk1
            have x0_4 := heap_alloc_new w3 (.cells #[.int .i64 (-1), .int .i64 (0), .int .i64 (1)] 3)
            obtain ⟨w4, hw4⟩ : ∃ vv, vv = w3.alloc (.cells #[.int .i64 (-1), .int .i64 (0), .int .i64 (1)] 3) := ⟨_, rfl⟩
            rw [← hw4] at hO4 x1_4 s1_4 x0_4
            rw [← hw4]
            have hsz := hO3.ord
            have hBl := Cal.lt_block hO3.res
            obtain ⟨Q0, hQ0⟩ : ∃ x, x = w3.heap.size := ⟨_, rfl⟩
            rw [← hQ0] at x0_4 hBl
            rw [← hQ0]
            have hQB0 : B + 1 < Q0 := hBl
            have hQR0 : R < Q0 := by omega
            clear hBl hsz hQ0
            clear hw4
            refine hK.out _ _ (fun _ => ⟨hO4.bx.cells.2.2.2.1, s1_4⟩) ?_
            clear hK K
            try simp only [Act.put, List.setIfInBounds_toArray, List.set_cons_zero, List.set_cons_succ]
            obtain ⟨g0, kk0, hg0⟩ : ∃ g : Int, (#[.int .i64 (-1), .int .i64 (0), .int .i64 (1)] : Array Value)[j0]? = some (.int .i64 g) ∧ In64 g := by
              rcases (show j0 = 0 ∨ j0 = 1 ∨ j0 = 2 by omega) with rfl | rfl | rfl
              · exact ⟨_, rfl, by decide⟩
              · exact ⟨_, rfl, by decide⟩
              · exact ⟨_, rfl, by decide⟩
            have s0_4 := cell_in x0_4 kk0
            refine wpU_mono (S := fun x => x.cell? ⟨B, 3, none⟩ = some (.slice b3 m3 k3) ∧ x.cell? ⟨Q0, j0, none⟩ = some (.int .i64 g0) ∧ x.cell? ⟨Q1, j1, none⟩ = some (.int .i64 g1)) (fun x h => ⟨h.1, h.2.2⟩) _ _ _ _ ?_
            have hHq : (fun x => x.cell? ⟨B, 3, none⟩ = some (.slice b3 m3 k3) ∧ x.cell? ⟨Q0, j0, none⟩ = some (.int .i64 g0) ∧ x.cell? ⟨Q1, j1, none⟩ = some (.int .i64 g1)) w4 := ⟨hO4.bx.cells.2.2.2.1, s0_4, s1_4⟩
            refine wpU_take (i := 5) (oi := { dst := some 35, op := _, type := _, pos := _, after := _, guard := _ }) (v := .pointer (some ⟨Q0, j0, none⟩)) rfl (by kernel_rfl) (by kernel_rfl) (by kernel_rfl) (by kernel_rfl) (fun _ _ _ h => h) (Or.inl ⟨by rfl, fun w hSw => by (try dsimp only at hSw); (try go_split_ands); go_simp⟩) (by first | trivial | assumption) ?_
            try simp only [Act.put, List.setIfInBounds_toArray, List.set_cons_zero, List.set_cons_succ]
            refine wpU_take (i := 6) (oi := { dst := some 36, op := _, type := _, pos := _, after := _, guard := _ }) (v := .int .i64 g0) rfl (by kernel_rfl) (by kernel_rfl) (by kernel_rfl) (by kernel_rfl) (fun _ _ _ h => h) (Or.inl ⟨by rfl, fun w hSw => by (try dsimp only at hSw); (try go_split_ands); go_simp⟩) (by first | trivial | assumption) ?_
            try simp only [Act.put, List.setIfInBounds_toArray, List.set_cons_zero, List.set_cons_succ]
            refine wpU_take (i := 12) (oi := { dst := some 42, op := _, type := _, pos := _, after := _, guard := _ }) (v := .agg #[.int .i64 (g0), .int .i64 (g1)]) rfl (by kernel_rfl) (by kernel_rfl) (by kernel_rfl) (by kernel_rfl) (fun _ _ _ h => h) (Or.inl ⟨by rfl, fun w hSw => by (try dsimp only at hSw); (try go_split_ands); go_simp⟩) (by first | trivial | assumption) ?_
            try simp only [Act.put, List.setIfInBounds_toArray, List.set_cons_zero, List.set_cons_succ]
            refine wpU_ready (rs := [13]) (by kernel_rfl) (by simp) (AllU.cons (o := { dst := some 43, op := _, type := _, pos := _, after := _, guard := _ }) rfl ?_ AllU.nil)
            intro K hK
            go_simp
            have hO5 := (hO4.new (.cells #[.int .i64 (g0), .int .i64 (g1)] 55)).mono (lim' := lim + 60) (by omega)
            have x0_5 := box_gr (row := none) x0_4 (grown_alloc (World.grownBy.refl _ _) (.cells #[.int .i64 (g0), .int .i64 (g1)] 55)) (fun e => by cases e)
            have s0_5 := cell_in (v := .int .i64 g0) x0_5 kk0
            have x1_5 := box_gr (row := none) x1_4 (grown_alloc (World.grownBy.refl _ _) (.cells #[.int .i64 (g0), .int .i64 (g1)] 55)) (fun e => by cases e)
            have s1_5 := cell_in (v := .int .i64 g1) x1_5 kk1
            obtain ⟨w5, hw5⟩ : ∃ vv, vv = w4.alloc (.cells #[.int .i64 (g0), .int .i64 (g1)] 55) := ⟨_, rfl⟩
            have hN := hw5
            rw [← hw5] at hO5 x0_5 x1_5 s0_5 s1_5
            rw [← hw5]
            clear hw5
            obtain ⟨_, _, _, l0, he0, hn0, hl0, hown0, hin0⟩ := hO5.bx.r3
            cases he0
            refine hK.out _ _ (fun _ => ⟨hO5.bx.cells.2.2.2.1, s0_5, s1_5⟩) ?_
            clear hK K
            try simp only [Act.put, List.setIfInBounds_toArray, List.set_cons_zero, List.set_cons_succ]
            refine wpU_ready (rs := [14]) (by kernel_rfl) (by simp) (AllU.cons (o := { dst := some 44, op := _, type := _, pos := _, after := _, guard := _ }) rfl ?_ AllU.nil)
            intro K hK
            rw [if_pos (by rfl)]
            refine wp_append_own_at2 (.tmp 31) (.tmp 43) 23 rfl X 55 i0 (.agg #[.int .i64 0, .int .i64 0]) 2 16 Tryd.underlying23 hi' hz0 hz1 hz2 rfl (by decide) (.slice b3 m3 k3) m3 _ rfl hown0 ⟨w4.heap.size, 0, none⟩ 1 1 [.int .i64 (g0), .int .i64 (g1)] rfl rfl ?d1 ?d2 ?d3 ?d4 ?d5 ?_
            case d1 => rw [hN]; exact two_new _ _ _ _
            case d2 => intro u hu; simp at hu; rcases hu with rfl | rfl <;> rfl
            case d3 => unfold maxLen; omega
            case d4 => omega
            case d5 => have := hO5.kb.size; have := hO5.ord; omega
            intro v3 w6 hown3 hgr3 _ hwho
            obtain ⟨a3, c3, rfl⟩ := own_form hown3
            have hrow : RowR 20 X w6 (.slice a3 (m3 + 1) c3) := ⟨_, _, _, l0 ++ [(g0, g1)], rfl, by omega, by simp [hl0], by rw [flat_snoc]; exact hown3, fun p hp => by
              rcases List.mem_append.1 hp with h | h
              · exact hin0 p h
              · simp at h; subst h; exact ⟨hg0, hg1⟩⟩
            have hF := hO5.app3 (K' := 20) (by omega) hgr3 hrow hwho
            have hbx := (hgr3.block B (Cal.lt_block hO5.bx.box) (fun e => hO5.bx.nb _ (by simp) e.symm)).trans hO5.bx.box
            have hcl : w6.cell? ⟨B, 3, none⟩ = some (.slice b3 m3 k3) := Cal.cell_at hbx 3
            have hfz : w6.frozen? ⟨B, 3, none⟩ = false := by simp [World.frozen?, hbx]
            have hnq0 : Value.ownBlock (.slice b3 m3 k3) ≠ some Q0 := fun e => by have := hrows Q0 (by exact e); omega
            have hnq1 : Value.ownBlock (.slice b3 m3 k3) ≠ some Q1 := fun e => by have := hrows Q1 (by exact e); omega
            have s0_6 := cell_in (v := .int .i64 g0) (box_gr x0_5 hgr3 (fun e => hnq0 e.symm)) kk0
            have s1_6 := cell_in (v := .int .i64 g1) (box_gr x1_5 hgr3 (fun e => hnq1 e.symm)) kk1
            refine hK.out _ _ (fun _ => ⟨hcl, s0_6, s1_6⟩) ?_
            clear hK K
            try simp only [Act.put, List.setIfInBounds_toArray, List.set_cons_zero, List.set_cons_succ]
            refine wpU_take (i := 15) (oi := { dst := some 45, op := _, type := _, pos := _, after := _, guard := _ }) (v := .pointer (some ⟨B, 3, none⟩)) rfl (by kernel_rfl) (by kernel_rfl) (by kernel_rfl) (by kernel_rfl) (fun _ _ _ h => h) (Or.inl ⟨by rfl, fun w hSw => by (try dsimp only at hSw); (try go_split_ands); go_simp⟩) (by first | trivial | assumption) ?_
            try simp only [Act.put, List.setIfInBounds_toArray, List.set_cons_zero, List.set_cons_succ]
            refine wpU_ready (rs := [16]) (by kernel_rfl) (by simp) (AllU.cons (o := { dst := none, op := _, type := _, pos := _, after := _, guard := _ }) rfl ?_ AllU.nil)
            intro K hK
            go_simp
            refine hK.out _ _ (fun h => absurd rfl h) ?_
            clear hK K
            try simp only [Act.put, List.setIfInBounds_toArray, List.set_cons_zero, List.set_cons_succ]
            refine wpU_done (by kernel_rfl) ?_ _
            go_wp2
            go_meet
            exact ⟨_, _, _, _, _, _, _, hid ((hF _ rfl).mono (by omega))⟩
    by_cases e3q : x = 3
    · subst e3q
      go_wp2_with fail
      refine wpU_region 7 (fun x => x.cell? ⟨B, 6, none⟩ = some (.slice b6 m6 k6)) rfl ?_
      have hO0 := HO.out.drew.mono (lim' := lim + 10) (by omega)
      have hrows : ∀ g, Value.ownBlock (.slice b6 m6 k6) = some g → g < B := fun g e => HRW.out g _ (by simp) e
      clear HO
      generalize w1.drew = w0 at *
      have hHq : (fun x => x.cell? ⟨B, 6, none⟩ = some (.slice b6 m6 k6)) w0 := hO0.bx.cells.2.2.2.2.2.2
      refine wpU_take (i := 0) (oi := { dst := some 48, op := _, type := _, pos := _, after := _, guard := _ }) (v := .pointer (some ⟨B, 6, none⟩)) rfl (by kernel_rfl) (by kernel_rfl) (by kernel_rfl) (by kernel_rfl) (fun _ _ _ h => h) (Or.inl ⟨by rfl, fun w hSw => by (try dsimp only at hSw); (try go_split_ands); go_simp⟩) (by first | trivial | assumption) ?_
      try simp only [Act.put, List.setIfInBounds_toArray, List.set_cons_zero, List.set_cons_succ]
      refine wpU_take (i := 1) (oi := { dst := some 49, op := _, type := _, pos := _, after := _, guard := _ }) (v := .slice b6 m6 k6) rfl (by kernel_rfl) (by kernel_rfl) (by kernel_rfl) (by kernel_rfl) (fun _ _ _ h => h) (Or.inl ⟨by rfl, fun w hSw => by (try dsimp only at hSw); (try go_split_ands); go_simp⟩) (by first | trivial | assumption) ?_
      try simp only [Act.put, List.setIfInBounds_toArray, List.set_cons_zero, List.set_cons_succ]
      refine wpU_take (i := 2) (oi := { dst := some 50, op := _, type := _, pos := _, after := _, guard := _ }) (v := .pointer (some ⟨R, 0, none⟩)) rfl (by kernel_rfl) (by kernel_rfl) (by kernel_rfl) (by kernel_rfl) (fun _ _ _ h => h) (Or.inl ⟨by rfl, fun w hSw => by (try dsimp only at hSw); (try go_split_ands); go_simp⟩) (by first | trivial | assumption) ?_
      try simp only [Act.put, List.setIfInBounds_toArray, List.set_cons_zero, List.set_cons_succ]
      refine wpU_ready (rs := [3]) (by kernel_rfl) (by simp) (AllU.cons (o := { dst := some 51, op := _, type := _, pos := _, after := _, guard := _ }) rfl ?_ AllU.nil)
      intro K hK
      go_simp
      go_wp2_with (go_at_call 40; refine (f40 B0 R n c _ a (-1) 20000001 _ hO0.cu (by omega) hn).mono ?_; rintro e w1 ⟨g0, rfl, hg0, hc, hg⟩)
      have hO1 := (hO0.call hg hc).mono (lim' := lim + 20) (by omega)
      clear hc hg
      refine hK.out _ _ (fun _ => hO1.bx.cells.2.2.2.2.2.2) ?_
      clear hK K
      try simp only [Act.put, List.setIfInBounds_toArray, List.set_cons_zero, List.set_cons_succ]
      refine wpU_ready (rs := [4]) (by kernel_rfl) (by simp) (AllU.cons (o := { dst := some 52, op := _, type := _, pos := _, after := _, guard := _ }) rfl ?_ AllU.nil)
      intro K hK
      go_simp
      have hO2 := (hO1.new (.cells #[.int .i64 g0] 3)).mono (lim' := lim + 30) (by omega)
      obtain ⟨w2, hw2⟩ : ∃ vv, vv = w1.alloc (.cells #[.int .i64 g0] 3) := ⟨_, rfl⟩
      have hN := hw2
      rw [← hw2] at hO2
      rw [← hw2]
      clear hw2
      obtain ⟨_, _, _, l0, he0, hn0, hl0, hown0, hin0⟩ := hO2.bx.r6
      cases he0
      refine hK.out _ _ (fun _ => hO2.bx.cells.2.2.2.2.2.2) ?_
      clear hK K
      try simp only [Act.put, List.setIfInBounds_toArray, List.set_cons_zero, List.set_cons_succ]
      refine wpU_ready (rs := [5]) (by kernel_rfl) (by simp) (AllU.cons (o := { dst := some 53, op := _, type := _, pos := _, after := _, guard := _ }) rfl ?_ AllU.nil)
      intro K hK
      rw [if_pos (by rfl)]
      refine wp_append_own_at2 (.tmp 49) (.tmp 52) 24 rfl X 3 i3 (.int .i64 0) 1 8 Tryd.underlying24 hi3 hy0 hy1 hy2 rfl (by decide) (.slice b6 m6 k6) m6 _ rfl hown0 ⟨w1.heap.size, 0, none⟩ 1 1 [.int .i64 g0] rfl rfl ?d1 ?d2 ?d3 ?d4 ?d5 ?_
      case d1 => rw [hN]; exact cell_one_new _ _ _
      case d2 => intro u hu; simp at hu; rcases hu with rfl; rfl
      case d3 => unfold maxLen; omega
      case d4 => omega
      case d5 => have := hO2.kb.size; have := hO2.ord; omega
      intro v3 w3 hown3 hgr3 _ hwho
      obtain ⟨a3, c3, rfl⟩ := own_form hown3
      have hrow : RowI 20 X w3 (.slice a3 (m6 + 1) c3) := ⟨_, _, _, l0 ++ [g0], rfl, by omega, by simp [hl0], by rw [List.map_append]; exact hown3, fun p hp => by
        rcases List.mem_append.1 hp with h | h
        · exact hin0 p h
        · simp at h; subst h; exact hg0⟩
      have hF := hO2.app6 (K' := 20) (by omega) hgr3 hrow hwho
      have hbx := (hgr3.block B (Cal.lt_block hO2.bx.box) (fun e => hO2.bx.nb _ (by simp) e.symm)).trans hO2.bx.box
      have hcl : w3.cell? ⟨B, 6, none⟩ = some (.slice b6 m6 k6) := Cal.cell_at hbx 6
      have hfz : w3.frozen? ⟨B, 6, none⟩ = false := by simp [World.frozen?, hbx]
      refine hK.out _ _ (fun _ => hcl) ?_
      clear hK K
      try simp only [Act.put, List.setIfInBounds_toArray, List.set_cons_zero, List.set_cons_succ]
      refine wpU_take (i := 6) (oi := { dst := some 54, op := _, type := _, pos := _, after := _, guard := _ }) (v := .pointer (some ⟨B, 6, none⟩)) rfl (by kernel_rfl) (by kernel_rfl) (by kernel_rfl) (by kernel_rfl) (fun _ _ _ h => h) (Or.inl ⟨by rfl, fun w hSw => by (try dsimp only at hSw); (try go_split_ands); go_simp⟩) (by first | trivial | assumption) ?_
      try simp only [Act.put, List.setIfInBounds_toArray, List.set_cons_zero, List.set_cons_succ]
      refine wpU_ready (rs := [7]) (by kernel_rfl) (by simp) (AllU.cons (o := { dst := none, op := _, type := _, pos := _, after := _, guard := _ }) rfl ?_ AllU.nil)
      intro K hK
      go_simp
      refine hK.out _ _ (fun h => absurd rfl h) ?_
      clear hK K
      try simp only [Act.put, List.setIfInBounds_toArray, List.set_cons_zero, List.set_cons_succ]
      refine wpU_done (by kernel_rfl) ?_ _
      go_wp2
      go_meet
      exact ⟨_, _, _, _, _, _, _, hid ((hF _ rfl).mono (by omega))⟩
    by_cases e4q : x = 4
    · subst e4q
      have d5 := (HO.out.bx.new (.cells #[.int .i64 1969, .int .i64 40000] 55)).cells.2.2.2.2.2.1
      have e5 := (HO.out.bx.new (.cells #[.int .i64 1969, .int .i64 40000] 55)).frz 5
      have HN := hid (HO.out.put5 (by omega) 1969 40000 (by decide) (by decide))
      clear HO
      go_wp2
      go_meet
      exact ⟨_, _, _, _, _, _, _, hid (((HN.out _ rfl).up (by omega)).mono (by omega))⟩
    by_cases e5q : x = 5
    · subst e5q
      go_wp2_with fail
      have hm4 : m4 ≤ 2 := by obtain ⟨_, _, _, _, he, hm, _⟩ := HO.out.bx.r4; cases he; exact hm
      have HOS := hid (HO.out.up (K' := 20) (by omega))
      clear HO
      go_loopw [] (fun wr => ∃ (m kk lm : Nat) (bb : Option Addr), m ≤ 11 ∧ lm + 20 * (11 - m) ≤ lim + 900 ∧ Hid (Od 20 B0 R n c lm a w X D B z (.slice b1 m1 k1) (.slice b2 m2 k2) (.slice b3 m3 k3) (.slice bb m kk) (.slice b5 m5 k5) (.slice b6 m6 k6) wr)) (fun wr => 11 - lenAt wr B)
      case atStart => exact ⟨m4, k4, _, b4, by omega, by omega, HOS⟩
      case round =>
        clear HOS
        obtain ⟨m, kk, lm, bb, hm, hlm, HL⟩ := hrel
        have hle : lenAt wr B = m := by simp only [lenAt, HL.out.bx.cells.2.2.2.2.1]
        go_wp2_with fail
        have hO0 := HL.out.drew
        clear HL
        refine wp_region_held_drew (S := fun x => x.cell? ⟨B, 4, none⟩ = some (.slice bb m kk)) rfl hO0.bx.cells.2.2.2.2.1 (fun hHeld => ?_)
        generalize wr.drew = w0 at *
        refine wpAnyH_take (i := 0) (oi := { dst := some 62, op := _, type := _, pos := _, after := _, guard := _ }) (v := .pointer (some ⟨B, 4, none⟩)) rfl (by kernel_rfl) (by kernel_rfl) (by kernel_rfl) (fun _ _ _ h => h) (Or.inl ⟨by rfl, fun w hSw => by (try dsimp only at hSw); (try go_split_ands); go_simp⟩) (by first | trivial | assumption) ?_
        try simp only [Act.put, List.setIfInBounds_toArray, List.set_cons_zero, List.set_cons_succ]
        refine wpAnyH_take (i := 1) (oi := { dst := some 63, op := _, type := _, pos := _, after := _, guard := _ }) (v := .slice bb m kk) rfl (by kernel_rfl) (by kernel_rfl) (by kernel_rfl) (fun _ _ _ h => h) (Or.inl ⟨by rfl, fun w hSw => by (try dsimp only at hSw); (try go_split_ands); go_simp⟩) (by first | trivial | assumption) ?_
        try simp only [Act.put, List.setIfInBounds_toArray, List.set_cons_zero, List.set_cons_succ]
        refine wpAnyH_take (i := 2) (oi := { dst := some 64, op := _, type := _, pos := _, after := _, guard := _ }) (v := .int .i64 (m : Int)) rfl (by kernel_rfl) (by kernel_rfl) (by kernel_rfl) (fun _ _ _ h => h) (Or.inl ⟨by rfl, fun w hSw => by (try dsimp only at hSw); (try go_split_ands); go_simp⟩) (by first | trivial | assumption) ?_
        try simp only [Act.put, List.setIfInBounds_toArray, List.set_cons_zero, List.set_cons_succ]
        refine wpAnyH_take (i := 3) (oi := { dst := some 65, op := _, type := _, pos := _, after := _, guard := _ }) (v := .pointer (some ⟨R, 0, none⟩)) rfl (by kernel_rfl) (by kernel_rfl) (by kernel_rfl) (fun _ _ _ h => h) (Or.inl ⟨by rfl, fun w hSw => by (try dsimp only at hSw); (try go_split_ands); go_simp⟩) (by first | trivial | assumption) ?_
        try simp only [Act.put, List.setIfInBounds_toArray, List.set_cons_zero, List.set_cons_succ]
        refine wpAnyH_ready (rs := [4]) (by kernel_rfl) (by simp) (AllReadyH.cons (o := { dst := some 66, op := _, type := _, pos := _, after := _, guard := _ }) rfl ?_ AllReadyH.nil)
        intro K hK
        go_simp
        go_wp2_with (go_at_call 38; refine (f38 B0 R n c _ a 3 _ hO0.cu (by omega) hn (by omega) (by omega)).mono ?_; rintro e w1a ⟨y, rfl, yl, yh, hc, hg⟩)
        have hO1 := hO0.call hg hc
        have yb : y < 3 := by omega
        clear yh hc hg hHeld
        have hyw : IntKind.i64.wrap (9 + y) = 9 + y := by rw [IntKind.wrap_i64]; omega
        have hHq := hO1.bx.cells.2.2.2.2.1
        refine hK.out _ _ hHq (fun _ => ?_)
        clear hK K
        try simp only [Act.put, List.setIfInBounds_toArray, List.set_cons_zero, List.set_cons_succ]
        refine wpAnyH_take (i := 5) (oi := { dst := some 67, op := _, type := _, pos := _, after := _, guard := _ }) (v := .int .i64 (9 + y)) rfl (by kernel_rfl) (by kernel_rfl) (by kernel_rfl) (fun _ _ _ h => h) (Or.inl ⟨by rfl, fun w hSw => by (try dsimp only at hSw); (try go_split_ands); go_simp⟩) (by first | trivial | assumption) ?_
        try simp only [Act.put, List.setIfInBounds_toArray, List.set_cons_zero, List.set_cons_succ]
        refine wpAnyH_take (i := 6) (oi := { dst := some 68, op := _, type := _, pos := _, after := _, guard := _ }) (v := .bool (decide ((m : Int) < 9 + y))) rfl (by kernel_rfl) (by kernel_rfl) (by kernel_rfl) (fun _ _ _ h => h) (Or.inl ⟨by rfl, fun w hSw => by (try dsimp only at hSw); (try go_split_ands); go_simp⟩) (by first | trivial | assumption) ?_
        try simp only [Act.put, List.setIfInBounds_toArray, List.set_cons_zero, List.set_cons_succ]
        refine wpAnyH_done (by kernel_rfl) ?_ _
        clear hHq
        by_cases hmy : (m : Int) < 9 + y
        rotate_left
        · go_wp2
          go_meet
          exact ⟨_, _, _, _, _, _, _, hid (hO1.mono (by omega))⟩
        obtain ⟨_, _, _, l0, he0, hn0, hl0, hown0, hin0⟩ := hO1.bx.r4
        cases he0
        have d4 := hO1.bx.cells.2.2.2.2.1
        have hO2 := hO1.new (.cells #[.int .i64 1, .int .i64 12] 55)
        have hown1 := hown0.alloc (.cells #[.int .i64 1, .int .i64 12] 55)
        have HO1 := hid hO1
        have HO2 := hid hO2
        have HW1 := hid hown1
        clear hO1 hO2 hown0 hown1 hO0
        go_wp2_with (at_builtin; refine wpList_append_own_at _ rfl (.tmp 70) (.tmp 72) 23 rfl X 55 i0 (.agg #[.int .i64 0, .int .i64 0]) 2 16 Tryd.underlying23 hi' hz0 hz1 hz2 rfl (by decide) (.slice bb m kk) m _ rfl HW1.out ⟨w1a.heap.size, 0, none⟩ 1 1 [.int .i64 1, .int .i64 12] rfl rfl ?d1 ?d2 ?d3 ?d4 ?d5 ?_)
        case d1 => exact two_new _ _ _ _
        case d2 => intro u hu; simp at hu; rcases hu with rfl | rfl <;> rfl
        case d3 => unfold maxLen; omega
        case d4 => omega
        case d5 => have := HO2.out.kb.size; have := HO2.out.ord; omega
        intro v3 w3 hown3 hgr3 _ hwho
        obtain ⟨a3, c3, rfl⟩ := own_form hown3
        have hrow : RowR 20 X w3 (.slice a3 (m + 1) c3) := ⟨_, _, _, l0 ++ [(1, 12)], rfl, by omega, by simp [hl0], by rw [flat_snoc]; exact hown3, fun p hp => by
          rcases List.mem_append.1 hp with h | h
          · exact hin0 p h
          · simp at h; subst h; exact ⟨(show In64 (1 : Int) by decide), (show In64 (12 : Int) by decide)⟩⟩
        have hF := HO2.out.app4 (K' := 20) (by omega) hgr3 hrow (hwho.imp id (fun e => e.trans (by simp)))
        have hbx := (hgr3.block B (Cal.lt_block HO2.out.bx.box) (fun e => HO2.out.bx.nb _ (by simp) e.symm)).trans HO2.out.bx.box
        have hcl := Cal.cell_at hbx 4
        have hfz : w3.frozen? ⟨B, 4, none⟩ = false := by simp [World.frozen?, hbx]
        have HF := hid hF
        clear hF hbx hown3 hgr3 hrow HO1 HO2 HW1 hwho d4
        go_wp2
        go_roundw
        case rel => exact ⟨m + 1, c3, _, a3, by omega, by omega, hid (HF.out _ rfl)⟩
        case measure =>
          have h9 := (HF.out _ rfl).bx.cells.2.2.2.2.1
          show 11 - lenAt _ B < 11 - lenAt wr B
          rw [hle]
          have h8 : lenAt (w3.setCell ⟨B, 4, none⟩ (.slice a3 (m + 1) c3)) B = m + 1 := by simp only [lenAt, h9]
          rw [h8]; omega
    go_wp2
    go_meet
    exact ⟨_, _, _, _, _, _, _, hid ((HO.out.up (by omega)).mono (by omega))⟩
  case rest =>
  obtain ⟨z', u1, u2, u3, u4, u5, u6, HIb⟩ := hcut
  have hba := HIb.out.bx
  obtain ⟨b1, m1, k1, rfl⟩ := hba.r1.form
  obtain ⟨b2, m2, k2, rfl⟩ := hba.r2.form
  obtain ⟨b3, m3, k3, rfl⟩ := hba.r3.form
  obtain ⟨b4, m4, k4, rfl⟩ := hba.r4.form
  obtain ⟨b5, m5, k5, rfl⟩ := hba.r5.form
  obtain ⟨b6, m6, k6, rfl⟩ := hba.r6.form
  obtain ⟨d0, d1, d2, d3, d4, d5, d6⟩ := hba.cells
  have hres := HIb.out.res
  have f0 := (Cal.cell_at hres 0)
  have g0 : wc.frozen? ⟨B + 1, 0, none⟩ = false := by simp [World.frozen?, hres]
  have f1 := (Cal.cell_at hres 1)
  have g1 : wc.frozen? ⟨B + 1, 1, none⟩ = false := by simp [World.frozen?, hres]
  have f2 := (Cal.cell_at hres 2)
  have g2 : wc.frozen? ⟨B + 1, 2, none⟩ = false := by simp [World.frozen?, hres]
  have f3 := (Cal.cell_at hres 3)
  have g3 : wc.frozen? ⟨B + 1, 3, none⟩ = false := by simp [World.frozen?, hres]
  have f4 := (Cal.cell_at hres 4)
  have g4 : wc.frozen? ⟨B + 1, 4, none⟩ = false := by simp [World.frozen?, hres]
  have f5 := (Cal.cell_at hres 5)
  have g5 : wc.frozen? ⟨B + 1, 5, none⟩ = false := by simp [World.frozen?, hres]
  have f6 := (Cal.cell_at hres 6)
  have g6 : wc.frozen? ⟨B + 1, 6, none⟩ = false := by simp [World.frozen?, hres]
  clear hres
  go_wp2
  obtain ⟨V, hV⟩ : ∃ V, V = sev wc (B + 1) (.int .i64 z') (.slice b1 m1 k1) (.slice b2 m2 k2) (.slice b3 m3 k3) (.slice b4 m4 k4) (.slice b5 m5 k5) (.slice b6 m6 k6) := ⟨_, rfl⟩
  simp only [sev] at hV
  rw [← hV]
  have hbox : V.heap[B + 1]? = some (.cells #[.int .i64 z', .slice b1 m1 k1, .slice b2 m2 k2, .slice b3 m3 k3, .slice b4 m4 k4, .slice b5 m5 k5, .slice b6 m6 k6] 26) := by rw [hV]; exact sev_box HIb.out.res _ _ _ _ _ _ _
  have hg : wc.grownBy V (some (B + 1)) := by rw [hV]; exact sev_grown wc (B + 1) _ _ _ _ _ _ _
  clear hV f0 f1 f2 f3 f4 f5 f6 g0 g1 g2 g3 g4 g5 g6 d0 d1 d2 d3 d4 d5 d6
  refine bodyPost_ret (results_cell_row rfl _ V (B + 1) 26 _ (0, 0) _ rfl hbox rfl rfl (by kernel_rfl)) rfl ?_
  have ho := HIb.out.ord
  have hny := HIb.out.ny
  have hn' : ∀ u ∈ [.slice b1 m1 k1, .slice b2 m2 k2, .slice b3 m3 k3, .slice b4 m4 k4, .slice b5 m5 k5, .slice b6 m6 k6], ∀ g, Value.ownBlock u = some g → some (B + 1) ≠ some g := fun u hu g e e2 => hny u hu (e.trans e2.symm)
  exact ⟨z', _, _, _, _, _, _, rfl, hba.z, hba.r1.of hg (hn' _ (by simp)), hba.r2.of hg (hn' _ (by simp)), hba.r3.of hg (hn' _ (by simp)), hba.r4.of hg (hn' _ (by simp)), hba.r5.of hg (hn' _ (by simp)), hba.r6.of hg (hn' _ (by simp)), hba.ap, HIb.out.nd, (cuKept HIb.out.cu hg (by intro g e; cases e; omega)).mono (by omega), HIb.out.kb.step ho.2.1 hg (fun g e => by cases e; omega)⟩
end Go.Proofs.YtcnilidckicccaaDoor.Cur
