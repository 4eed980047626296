/- Values and a share that are drawn to be asked for a quantile. -/
import Derived.Test.YtilfelkbmmaabaaEvc
import Derived.Test.YtilfelkbmmaabaaEvg
import Derived.Test.YtilfelkbmmaabaaUfq
import Derived.Deep.CutRange
namespace Go.Proofs.Ytilfelkbmmaabaa.Quo
open Go.RowKit
open Go.Proofs.Ytilfelkbmmaabaa.Cur
open Go.Proofs.Ytilfelkbmmaabaa.Ino (Has)

theorem row_cur {w w' : World} {base R m c : Nat} {a : Option Addr} {D : List Int} (h : Row w base a m c D) (hg : w.grownBy w' (some R)) (hR : R < base) : Row w' base a m c D :=
  h.kept hg (.inr fun e => by have := (h.lt R e).1; omega)
theorem drew_grown (W : World) : W.grownBy W.drew none := ⟨rfl, rfl, rfl, Nat.le_refl _, fun _ _ _ => rfl⟩
/-- The cursor is where it was. -/
theorem cu_kept {B0 R n c lim : Nat} {a : Option Addr} {w w' : World} {row : Option Nat} (h : Cu B0 R a n c lim w) (hg : w.grownBy w' row) (hr : ∀ g, row = some g → R < g) : Cu B0 R a n c lim w' := by
  have hle := h.le
  refine ⟨?_, ?_, h.le⟩
  · obtain ⟨t, seed, h1, h2, h3, h4⟩ := h.box
    exact ⟨t, seed, h1, h2, h3, (hg.block R (Array.getElem?_eq_some_iff.1 h4).1 (fun e => by have := hr R e.symm; omega)).trans h4⟩
  · rcases h.data with h0 | ⟨b, off, h1, h2, h3, h4⟩
    · exact .inl h0
    · refine .inr ⟨b, off, h1, h2, Nat.lt_of_lt_of_le h3 hg.size, fun i hi => ?_⟩
      obtain ⟨z, z0, z1, hz⟩ := h4 i hi
      exact ⟨z, z0, z1, hg.cell hz (fun e => by have := hr b (by simpa using e.symm); omega)⟩
theorem four_at {w w' : World} {R : Nat} {p : Int} {x : Int} (hg : (w.alloc (.cells #[.int .i64 p, .int .i64 (-5), .int .i64 1001, .int .i64 500] 3)).grownBy w' (some R)) (hR : R < w.heap.size) (h0 : 0 ≤ x) (h1 : x < 4) (hp0 : 0 ≤ p) (hp1 : p ≤ 1000) :
    ∃ y : Int, w'.cell? ⟨w.heap.size, x.toNat, none⟩ = some (.int .i64 y) ∧ -5 ≤ y ∧ y ≤ 1001 := by
  have hb : w'.heap[w.heap.size]? = some (.cells #[.int .i64 p, .int .i64 (-5), .int .i64 1001, .int .i64 500] 3) :=
    (hg.block w.heap.size (by simp) (fun e => by have := Option.some.inj e; omega)).trans (heap_alloc_new w _)
  obtain ⟨k, rfl⟩ : ∃ k : Nat, x = (k : Int) := ⟨x.toNat, by omega⟩
  have hk : k = 0 ∨ k = 1 ∨ k = 2 ∨ k = 3 := by omega
  simp only [Int.toNat_natCast]
  rcases hk with rfl | rfl | rfl | rfl
  · exact ⟨p, by simp [World.cell?, hb], by omega, by omega⟩
  · exact ⟨-5, by simp [World.cell?, hb], by omega, by omega⟩
  · exact ⟨1001, by simp [World.cell?, hb], by omega, by omega⟩
  · exact ⟨500, by simp [World.cell?, hb], by omega, by omega⟩

set_option maxRecDepth 100000 in
set_option maxHeartbeats 4000000 in
theorem f6 (a : Option Addr) (n c : Nat) (w : World) (h : Bya w a n) (hn : n ≤ 1048576) :
    Calls Try.prog 6 #[.slice a n c] w fun e w' => ∃ a' c' zs, ∃ q : Int, e = .returned (.tuple #[.slice a' zs.length c', .int .i64 q]) ∧ zs.length ≤ 2001 ∧ -5 ≤ q ∧ q ≤ 1001 ∧ Row w' w.heap.size a' zs.length c' zs ∧ Below w.heap.size w w' := by
  obtain ⟨i0, hi, hz0, hz1, hz2⟩ := info_parts Ino.info3
  obtain ⟨R, hR⟩ : ∃ R, R = w.heap.size := ⟨_, rfl⟩
  have HR := hid hR
  obtain ⟨v, hv⟩ : ∃ v, v = w.alloc (.cells #[.slice a n c, .int .i64 0, .int .u64 0] 38) := ⟨_, rfl⟩
  have HV := hid hv
  have HC0 := hid (cuNew (c := c) h)
  have hb0 := (Below.refl w.heap.size w).alloc (Nat.le_refl _) (.cells #[.slice a n c, .int .i64 0, .int .u64 0] 38)
  rw [← hv, ← hR] at HC0
  rw [← hv, ← hR] at hb0
  have HB0 := hid hb0
  have hvs : v.heap.size = R + 1 := by rw [hv, hR]; simp
  have HVS := hid hvs
  clear h hv hR hb0 hvs
  go_enter Try.func6, Try.ntmps6
  go_wp2_with fail
  simp only [← HR.out, ← HV.out]
  refine (f14 R R n c 0 a 12 _ HC0.out (by omega) hn (by omega) (by omega)).mono ?_
  rintro e w1 ⟨x, rfl, x0, x1, hc1, hg1⟩
  have HC1 := hid hc1
  have HB1 := hid (below_cur HB0.out hg1 (by rw [HR.out]; exact HB0.out.size) (Nat.le_refl _))
  have HS1 := hid (show R + 1 ≤ w1.heap.size by rw [← HVS.out]; exact hg1.size)
  have x2 : x ≤ 11 := by omega
  clear hc1 hg1 x1 HB0 HC0
  go_wp2
  go_loopw [5, 6] (fun o i wr => ∃ (k : Nat) (lim : Nat) (a' : Option Addr) (c' : Nat) (D : List Int), o = .slice a' D.length c' ∧ i = .int .i64 k ∧ lim + 20 * k ≤ 1000 ∧ D.length + k ≤ 11 ∧ Hid (Row wr (R + 1) a' D.length c' D) ∧ Hid (Cu R R a n c lim wr) ∧ Hid (Below R w wr) ∧ Hid (R + 1 ≤ wr.heap.size)) (fun _ i _ => (intOf i).toNat)
  case atStart =>
    obtain ⟨k, rfl⟩ : ∃ k : Nat, x = (k : Int) := ⟨x.toNat, by omega⟩
    exact ⟨k, _, none, 0, [], rfl, rfl, by omega, by simp; omega, World.ownsRow_nil _ _ _ _, HC1, HB1, HS1⟩
  case round =>
    clear HC1 HB1 HS1
    obtain ⟨k, lim, a1, c1, D, rfl, rfl, hlim, hDk, HO, HC, HB, HS⟩ := hrel
    by_cases hk : k = 0
    rotate_left
    · have i1 : (k : Int) > 0 := by omega
      generalize hDl : D.length = m at *
      have HDl := hid hDl
      clear hDl
      go_wp2_with fail
      refine (f15 R R n c lim a _ HC.out (by omega) hn).mono ?_
      rintro e w2 ⟨y, rfl, y0, y1, hc2, hg2⟩
      have HC2 := hid hc2
      have HB2 := hid (below_cur HB.out hg2 (by rw [HR.out]; exact HB.out.size) (Nat.le_refl _))
      have HO2 := hid (row_cur HO.out hg2 (by omega))
      have HS2 := hid (Nat.le_trans HS.out hg2.size)
      clear hc2 hg2 HC HB HO HS
      go_wp2_with (at_builtin; refine wpList_append_own _ rfl (.tmp 16) (.tmp 19) 23 rfl (R + 1) 3 i0 (.int .i64 0) 1 8 Try.underlying23 hi hz0 hz1 hz2 rfl (by decide) _ _ _ rfl (HO2.out.alloc _) ⟨w2.heap.size, 0, none⟩ 1 1 [.int .i64 y] rfl rfl (one_new w2 _ _) ?d2 ?d3 ?d4 ?d5 ?_)
      case d2 => first | (intro u hu; simp at hu; subst hu; rfl) | rfl
      case d3 => unfold maxLen; omega
      case d4 => omega
      case d5 => have := HS2.out; simp; omega
      intro v3 w3 hown3 hgr3 _
      obtain ⟨a3, c3, rfl⟩ := own_form hown3
      have HB3 := hid ((HB2.out.alloc (by have := HS2.out; have := HB2.out.size; omega) (.cells #[.int .i64 y] 3)).grown hgr3 (by have := HS2.out; simp; omega) (fun j hj => by have := (HO2.out.lt j hj).1; omega))
      have HC3 : Hid (Cu R R a n c (lim + 20) w3) := cu_kept (cu_kept HC2.out (World.grownBy_alloc w2 (.cells #[.int .i64 y] 3) none) (fun g e => by cases e)) hgr3 (fun g e => (HO2.out.lt g e).1)
      have HO3 : Hid (Row w3 (R + 1) a3 (m + 1) c3 (D ++ [y])) := by
        unfold Hid
        show w3.ownsRow _ _ _ _ _ ((D ++ [y]).map _)
        rw [List.map_append]; exact hown3
      have HS3 := hid (show R + 1 ≤ w3.heap.size by have := hgr3.size; have := HS2.out; simp at *; omega)
      clear hown3 hgr3
      go_wp2
      go_roundw
      case rel => exact ⟨k - 1, lim + 20, _, _, D ++ [y], by rw [List.length_append, HDl.out]; rfl, by go_num, by omega, by rw [List.length_append, HDl.out]; simp; omega, by unfold Hid; rw [List.length_append, HDl.out]; exact HO3.out, HC3, HB3, HS3⟩
      case measure => simp [intOf]; omega
    · subst hk
      have i1 : ¬ ((0 : Nat) : Int) > 0 := by omega
      go_wp2_with fail
      refine (f16 R R n c lim a 30 _ HC.out (by omega) hn (by omega) (by omega)).mono ?_
      rintro e w2 ⟨b, rfl, hc2, hg2⟩
      have HC2 := hid hc2
      have HB2 := hid (below_cur HB.out hg2 (by rw [HR.out]; exact HB.out.size) (Nat.le_refl _))
      have HO2 := hid (row_cur HO.out hg2 (by omega))
      have HS2 := hid (Nat.le_trans HS.out hg2.size)
      clear hc2 hg2 HC HB HO HS
      cases b
      · obtain ⟨a2, c2, D2, hD, hE, HO, HC, HB, HS⟩ : ∃ (a2 : Option Addr) (c2 : Nat) (D2 : List Int), D2.length ≤ 2001 ∧ (a1 = a2 ∧ c1 = c2 ∧ D = D2) ∧ Hid (Row w2 (R + 1) a2 D2.length c2 D2) ∧ Hid (Cu R R a n c 1100 w2) ∧ Hid (Below R w w2) ∧ Hid (R + 1 ≤ w2.heap.size) := ⟨a1, c1, D, by omega, ⟨rfl, rfl, rfl⟩, HO2, HC2.out.mono (by omega), HB2, HS2⟩
        obtain ⟨rfl, rfl, rfl⟩ := hE
        clear HO2 HC2 HB2 HS2
        go_wp2_with fail
        have HCd := hid (cu_kept HC.out (drew_grown w2) (fun g e => by cases e))
        have HOd := hid (own_drew HO.out)
        have HBd : Hid (Below R w w2.drew) := ⟨HB.out.os, HB.out.tape, HB.out.output, HB.out.size, HB.out.block⟩
        have HSd : Hid (R + 1 ≤ w2.drew.heap.size) := HS.out
        refine wp_region_held_drew (S := fun _ => True) rfl trivial (fun hHeld => ?_)
        refine wpAnyH_take (i := 0) (oi := { dst := some 27, op := _, type := _, pos := _, after := _, guard := _ }) (v := .slice a1 D.length c1) rfl (by kernel_rfl) (by kernel_rfl) (by kernel_rfl) (fun _ _ _ h => h) (Or.inl ⟨by rfl, fun w hSw => by go_simp⟩) (by trivial) ?_
        try simp only [Act.put, List.setIfInBounds_toArray, List.set_cons_zero, List.set_cons_succ]
        refine wpAnyH_take (i := 1) (oi := { dst := some 28, op := _, type := _, pos := _, after := _, guard := _ }) (v := .pointer (some ⟨R, 0, none⟩)) rfl (by kernel_rfl) (by kernel_rfl) (by kernel_rfl) (fun _ _ _ h => h) (Or.inl ⟨by rfl, fun w hSw => by go_simp⟩) (by trivial) ?_
        try simp only [Act.put, List.setIfInBounds_toArray, List.set_cons_zero, List.set_cons_succ]
        refine wpAnyH_take (i := 4) (oi := { dst := some 31, op := _, type := _, pos := _, after := _, guard := _ }) (v := .pointer (some ⟨R, 0, none⟩)) rfl (by kernel_rfl) (by kernel_rfl) (by kernel_rfl) (fun _ _ _ h => h) (Or.inl ⟨by rfl, fun w hSw => by go_simp⟩) (by trivial) ?_
        try simp only [Act.put, List.setIfInBounds_toArray, List.set_cons_zero, List.set_cons_succ]
        refine wpAnyH_ready (rs := [2]) (by kernel_rfl) (by simp) (AllReadyH.cons (o := { dst := some 29, op := _, type := _, pos := _, after := _, guard := _ }) rfl ?_ AllReadyH.nil)
        intro K1 hK1
        go_simp
        go_wp2_with (go_at_call 14; refine (f14 R R n c _ a 1001 w2.drew HCd.out (by omega) hn (by omega) (by omega)).mono ?_; rintro e w7 ⟨y, rfl, y0, y1, hc7, hg7⟩)
        refine hK1.out _ _ trivial (fun _ => ?_)
        clear hK1 K1
        have y2 : y ≤ 1000 := by omega
        have HC7 := hid hc7
        have HB7 := hid (below_cur HBd.out hg7 (by rw [HR.out]; exact HBd.out.size) (Nat.le_refl _))
        have HO7 := hid (row_cur HOd.out hg7 (by omega))
        have HS7 := hid (Nat.le_trans HSd.out hg7.size)
        clear hc7 hg7 HC HB HO HS HCd HBd HOd HSd y1
        try simp only [Act.put, List.setIfInBounds_toArray, List.set_cons_zero, List.set_cons_succ]
        refine wpAnyH_ready (rs := [3, 5]) (by kernel_rfl) (by simp) (AllReadyH.cons (o := { dst := some 30, op := _, type := _, pos := _, after := _, guard := _ }) rfl ?_ (AllReadyH.cons (o := { dst := some 32, op := _, type := _, pos := _, after := _, guard := _ }) rfl ?_ AllReadyH.nil))
        · intro K4 hK4
          go_simp
          refine hK4.out _ _ trivial (fun _ => ?_)
          clear hK4 K4
          have HC8 := hid (cu_kept HC7.out (World.grownBy_alloc w7 (.cells #[.int .i64 y, .int .i64 (-5), .int .i64 1001, .int .i64 500] 3) none) (fun g e => by cases e))
          have HO8 := hid (HO7.out.alloc (.cells #[.int .i64 y, .int .i64 (-5), .int .i64 1001, .int .i64 500] 3))
          have HB8 := hid (HB7.out.alloc (by have := HS7.out; omega) (.cells #[.int .i64 y, .int .i64 (-5), .int .i64 1001, .int .i64 500] 3))
          have HF := fun (w9 : World) (x : Int) (hg : (w7.alloc (.cells #[.int .i64 y, .int .i64 (-5), .int .i64 1001, .int .i64 500] 3)).grownBy w9 (some R)) (h0 : 0 ≤ x) (h1 : x < 4) => four_at hg (by have := HS7.out; omega) h0 h1 y0 y2
          have hs8 : R + 1 ≤ (w7.alloc (.cells #[.int .i64 y, .int .i64 (-5), .int .i64 1001, .int .i64 500] 3)).heap.size := by have := HS7.out; simp; omega
          generalize w7.alloc (.cells #[.int .i64 y, .int .i64 (-5), .int .i64 1001, .int .i64 500] 3) = w8 at *
          generalize w7.heap.size = B0 at *
          clear HC7 HO7 HB7 HS7
          try simp only [Act.put, List.setIfInBounds_toArray, List.set_cons_zero, List.set_cons_succ]
          refine wpAnyH_ready (rs := [5]) (by kernel_rfl) (by simp) (AllReadyH.cons (o := { dst := some 32, op := _, type := _, pos := _, after := _, guard := _ }) rfl ?_ AllReadyH.nil)
          intro K5 hK5
          go_simp
          go_wp2_with (go_at_call 17; refine (f17 R R n c _ a 4 w8 HC8.out (by omega) hn (by omega) (by omega)).mono ?_; rintro e w9 ⟨x9, rfl, x90, x91, hc9, hg9⟩)
          refine hK5.out _ _ trivial (fun _ => ?_)
          clear hK5 K5
          obtain ⟨u, hu, u0, u1⟩ := HF w9 x9 hg9 x90 x91
          have HO9 := hid (row_cur HO8.out hg9 (by omega))
          have HB9 := hid (below_cur HB8.out hg9 (by omega) (Nat.le_refl _))
          clear hc9 hg9 HC8 HO8 HB8 HF hs8
          try simp only [Act.put, List.setIfInBounds_toArray, List.set_cons_zero, List.set_cons_succ]
          refine wpAnyH_take (i := 8) (oi := { dst := some 2, op := _, type := _, pos := _, after := _, guard := _ }) (v := .slice a1 D.length c1) rfl (by kernel_rfl) (by kernel_rfl) (by kernel_rfl) (fun _ _ _ h => h) (Or.inl ⟨by rfl, fun w hSw => by go_simp⟩) (by trivial) ?_
          try simp only [Act.put, List.setIfInBounds_toArray, List.set_cons_zero, List.set_cons_succ]
          obtain ⟨j, rfl⟩ : ∃ j : Nat, x9 = (j : Int) := ⟨x9.toNat, by omega⟩
          simp only [Int.toNat_natCast] at hu
          have j1 : (j : Int) < 4 := x91
          refine wpAnyH_take (i := 6) (oi := { dst := some 33, op := _, type := _, pos := _, after := _, guard := _ }) (v := .pointer (some ⟨B0, j, none⟩)) rfl (by kernel_rfl) (by kernel_rfl) (by kernel_rfl) (fun _ _ _ h => h) (Or.inl ⟨by rfl, fun w hSw => by go_simp⟩) (by trivial) ?_
          try simp only [Act.put, List.setIfInBounds_toArray, List.set_cons_zero, List.set_cons_succ]
          refine wpAnyH_ready (rs := [7]) (by kernel_rfl) (by simp) (AllReadyH.cons (o := { dst := some 34, op := _, type := _, pos := _, after := _, guard := _ }) rfl ?_ AllReadyH.nil)
          intro K6 hK6
          go_simp
          refine hK6.out _ _ trivial (fun _ => ?_)
          clear hK6 K6
          try simp only [Act.put, List.setIfInBounds_toArray, List.set_cons_zero, List.set_cons_succ]
          refine wpAnyH_take (i := 9) (oi := { dst := some 3, op := _, type := _, pos := _, after := _, guard := _ }) (v := .int .i64 u) rfl (by kernel_rfl) (by kernel_rfl) (by kernel_rfl) (fun _ _ _ h => h) (Or.inl ⟨by rfl, fun w hSw => by go_simp⟩) (by trivial) ?_
          try simp only [Act.put, List.setIfInBounds_toArray, List.set_cons_zero, List.set_cons_succ]
          refine wpAnyH_done (by kernel_rfl) ?_ _
          go_wp2
          refine bodyPost_ret (v := .tuple #[.slice a1 D.length c1, .int .i64 u]) ?_ rfl ⟨_, _, D, u, rfl, hD, u0, u1, by rw [← HR.out]; have h := HO9.out.mono (show R ≤ R + 1 by omega); exact h, by rw [← HR.out]; exact HB9.out⟩
          simp [results, Try.results6, go_sem]
        · intro K4 hK4
          go_simp
          go_wp2_with (go_at_call 17; refine (f17 R R n c _ a 4 w7 HC7.out (by omega) hn (by omega) (by omega)).mono ?_; rintro e w8 ⟨x9, rfl, x90, x91, hc9, hg9⟩)
          refine hK4.out _ _ trivial (fun _ => ?_)
          clear hK4 K4
          have HO8 := hid (row_cur HO7.out hg9 (by omega))
          have HB8 := hid (below_cur HB7.out hg9 (by have := HS7.out; omega) (Nat.le_refl _))
          have HS8 := hid (Nat.le_trans HS7.out hg9.size)
          clear hc9 hg9 HC7 HO7 HB7 HS7
          try simp only [Act.put, List.setIfInBounds_toArray, List.set_cons_zero, List.set_cons_succ]
          refine wpAnyH_take (i := 8) (oi := { dst := some 2, op := _, type := _, pos := _, after := _, guard := _ }) (v := .slice a1 D.length c1) rfl (by kernel_rfl) (by kernel_rfl) (by kernel_rfl) (fun _ _ _ h => h) (Or.inl ⟨by rfl, fun w hSw => by go_simp⟩) (by trivial) ?_
          try simp only [Act.put, List.setIfInBounds_toArray, List.set_cons_zero, List.set_cons_succ]
          refine wpAnyH_ready (rs := [3]) (by kernel_rfl) (by simp) (AllReadyH.cons (o := { dst := some 30, op := _, type := _, pos := _, after := _, guard := _ }) rfl ?_ AllReadyH.nil)
          intro K5 hK5
          go_simp
          refine hK5.out _ _ trivial (fun _ => ?_)
          clear hK5 K5
          obtain ⟨u, hu, u0, u1⟩ := four_at (R := R) (w := w8) (w' := w8.alloc (.cells #[.int .i64 y, .int .i64 (-5), .int .i64 1001, .int .i64 500] 3)) ⟨rfl, rfl, rfl, Nat.le_refl _, fun _ _ _ => rfl⟩ (by have := HS8.out; omega) x90 x91 y0 y2
          have HO9 := hid (HO8.out.alloc (.cells #[.int .i64 y, .int .i64 (-5), .int .i64 1001, .int .i64 500] 3))
          have HB9 := hid (HB8.out.alloc (by have := HS8.out; omega) (.cells #[.int .i64 y, .int .i64 (-5), .int .i64 1001, .int .i64 500] 3))
          generalize w8.alloc (.cells #[.int .i64 y, .int .i64 (-5), .int .i64 1001, .int .i64 500] 3) = w9 at *
          generalize w8.heap.size = B0 at *
          clear HO8 HB8 HS8
          try simp only [Act.put, List.setIfInBounds_toArray, List.set_cons_zero, List.set_cons_succ]
          obtain ⟨j, rfl⟩ : ∃ j : Nat, x9 = (j : Int) := ⟨x9.toNat, by omega⟩
          simp only [Int.toNat_natCast] at hu
          have j1 : (j : Int) < 4 := x91
          refine wpAnyH_take (i := 6) (oi := { dst := some 33, op := _, type := _, pos := _, after := _, guard := _ }) (v := .pointer (some ⟨B0, j, none⟩)) rfl (by kernel_rfl) (by kernel_rfl) (by kernel_rfl) (fun _ _ _ h => h) (Or.inl ⟨by rfl, fun w hSw => by go_simp⟩) (by trivial) ?_
          try simp only [Act.put, List.setIfInBounds_toArray, List.set_cons_zero, List.set_cons_succ]
          refine wpAnyH_ready (rs := [7]) (by kernel_rfl) (by simp) (AllReadyH.cons (o := { dst := some 34, op := _, type := _, pos := _, after := _, guard := _ }) rfl ?_ AllReadyH.nil)
          intro K6 hK6
          go_simp
          refine hK6.out _ _ trivial (fun _ => ?_)
          clear hK6 K6
          try simp only [Act.put, List.setIfInBounds_toArray, List.set_cons_zero, List.set_cons_succ]
          refine wpAnyH_take (i := 9) (oi := { dst := some 3, op := _, type := _, pos := _, after := _, guard := _ }) (v := .int .i64 u) rfl (by kernel_rfl) (by kernel_rfl) (by kernel_rfl) (fun _ _ _ h => h) (Or.inl ⟨by rfl, fun w hSw => by go_simp⟩) (by trivial) ?_
          try simp only [Act.put, List.setIfInBounds_toArray, List.set_cons_zero, List.set_cons_succ]
          refine wpAnyH_done (by kernel_rfl) ?_ _
          go_wp2
          refine bodyPost_ret (v := .tuple #[.slice a1 D.length c1, .int .i64 u]) ?_ rfl ⟨_, _, D, u, rfl, hD, u0, u1, by rw [← HR.out]; have h := HO9.out.mono (show R ≤ R + 1 by omega); exact h, by rw [← HR.out]; exact HB9.out⟩
          simp [results, Try.results6, go_sem]
      · go_wp2_with fail
        refine (f14 R R n c _ a 3 _ HC2.out (by omega) hn (by omega) (by omega)).mono ?_
        rintro e w3 ⟨y, rfl, y0, y1, hc3, hg3⟩
        have HC3 := hid hc3
        have HB3 := hid (below_cur HB2.out hg3 (by rw [HR.out]; exact HB2.out.size) (Nat.le_refl _))
        have HS3 := hid (Nat.le_trans HS2.out hg3.size)
        clear hc3 hg3 HC2 HB2 HO2 HS2
        obtain ⟨k, rfl⟩ : ∃ k : Nat, y = (k : Int) := ⟨y.toNat, by omega⟩
        have k2 : k ≤ 2 := by omega
        clear y0 y1
        go_wp2_with (at_make; refine wpList_make_full _ rfl _ _ 23 rfl (R + 1) 3 i0 (.int .i64 0) 1 Try.underlying23 hi hz0 hz1 _ _ _ _ (1999 + k) rfl rfl ?c1 ?c2 ?b2 ?b3 ?b4 ?_)
        case c1 => go_num
        case c2 => go_num
        case b2 => rw [hz2]; omega
        case b3 => unfold maxLen; omega
        case b4 => exact HS3.out
        intro w4 hown4 hgrow4
        have HO4 : Hid (Row w4 (R + 1) (some ⟨w3.heap.size, 0, none⟩) (1999 + k) (1999 + k) (List.replicate (1999 + k) 0)) := by
          unfold Hid; show w4.ownsRow _ _ _ _ _ ((List.replicate (1999 + k) 0).map (Value.int .i64)); rw [List.map_replicate]; simpa [toList_madeCells_one, Value.cells] using hown4
        have HC4 := hid (cu_kept HC3.out hgrow4 (fun g e => by cases e))
        have HB4 := hid (HB3.out.grown hgrow4 (by have := HS3.out; omega) (fun g e => by cases e))
        have HS4 := hid (Nat.le_trans HS3.out hgrow4.size)
        clear hown4 hgrow4
        have HC := hid (HC4.out.mono (lim' := 1100) (by omega))
        have HO := HO4
        have HB := HB4
        have HS := HS4
        clear HO4 HC4 HB4 HS4 HC3 HB3 HS3
        go_wp2_with fail
        have HCd := hid (cu_kept HC.out (drew_grown w4) (fun g e => by cases e))
        have HOd := hid (own_drew HO.out)
        have HBd : Hid (Below R w w4.drew) := ⟨HB.out.os, HB.out.tape, HB.out.output, HB.out.size, HB.out.block⟩
        have HSd : Hid (R + 1 ≤ w4.drew.heap.size) := HS.out
        refine wp_region_held_drew (S := fun _ => True) rfl trivial (fun hHeld => ?_)
        refine wpAnyH_take (i := 0) (oi := { dst := some 27, op := _, type := _, pos := _, after := _, guard := _ }) (v := .slice (some ⟨w3.heap.size, 0, none⟩) (1999 + k) (1999 + k)) rfl (by kernel_rfl) (by kernel_rfl) (by kernel_rfl) (fun _ _ _ h => h) (Or.inl ⟨by rfl, fun w hSw => by go_simp⟩) (by trivial) ?_
        try simp only [Act.put, List.setIfInBounds_toArray, List.set_cons_zero, List.set_cons_succ]
        refine wpAnyH_take (i := 1) (oi := { dst := some 28, op := _, type := _, pos := _, after := _, guard := _ }) (v := .pointer (some ⟨R, 0, none⟩)) rfl (by kernel_rfl) (by kernel_rfl) (by kernel_rfl) (fun _ _ _ h => h) (Or.inl ⟨by rfl, fun w hSw => by go_simp⟩) (by trivial) ?_
        try simp only [Act.put, List.setIfInBounds_toArray, List.set_cons_zero, List.set_cons_succ]
        refine wpAnyH_take (i := 4) (oi := { dst := some 31, op := _, type := _, pos := _, after := _, guard := _ }) (v := .pointer (some ⟨R, 0, none⟩)) rfl (by kernel_rfl) (by kernel_rfl) (by kernel_rfl) (fun _ _ _ h => h) (Or.inl ⟨by rfl, fun w hSw => by go_simp⟩) (by trivial) ?_
        try simp only [Act.put, List.setIfInBounds_toArray, List.set_cons_zero, List.set_cons_succ]
        refine wpAnyH_ready (rs := [2]) (by kernel_rfl) (by simp) (AllReadyH.cons (o := { dst := some 29, op := _, type := _, pos := _, after := _, guard := _ }) rfl ?_ AllReadyH.nil)
        intro K1 hK1
        go_simp
        go_wp2_with (go_at_call 14; refine (f14 R R n c _ a 1001 w4.drew HCd.out (by omega) hn (by omega) (by omega)).mono ?_; rintro e w7 ⟨y, rfl, y0, y1, hc7, hg7⟩)
        refine hK1.out _ _ trivial (fun _ => ?_)
        clear hK1 K1
        have y2 : y ≤ 1000 := by omega
        have HC7 := hid hc7
        have HB7 := hid (below_cur HBd.out hg7 (by rw [HR.out]; exact HBd.out.size) (Nat.le_refl _))
        have HO7 := hid (row_cur HOd.out hg7 (by omega))
        have HS7 := hid (Nat.le_trans HSd.out hg7.size)
        clear hc7 hg7 HC HB HO HS HCd HBd HOd HSd y1
        try simp only [Act.put, List.setIfInBounds_toArray, List.set_cons_zero, List.set_cons_succ]
        refine wpAnyH_ready (rs := [3, 5]) (by kernel_rfl) (by simp) (AllReadyH.cons (o := { dst := some 30, op := _, type := _, pos := _, after := _, guard := _ }) rfl ?_ (AllReadyH.cons (o := { dst := some 32, op := _, type := _, pos := _, after := _, guard := _ }) rfl ?_ AllReadyH.nil))
        · intro K4 hK4
          go_simp
          refine hK4.out _ _ trivial (fun _ => ?_)
          clear hK4 K4
          have HC8 := hid (cu_kept HC7.out (World.grownBy_alloc w7 (.cells #[.int .i64 y, .int .i64 (-5), .int .i64 1001, .int .i64 500] 3) none) (fun g e => by cases e))
          have HO8 := hid (HO7.out.alloc (.cells #[.int .i64 y, .int .i64 (-5), .int .i64 1001, .int .i64 500] 3))
          have HB8 := hid (HB7.out.alloc (by have := HS7.out; omega) (.cells #[.int .i64 y, .int .i64 (-5), .int .i64 1001, .int .i64 500] 3))
          have HF := fun (w9 : World) (x : Int) (hg : (w7.alloc (.cells #[.int .i64 y, .int .i64 (-5), .int .i64 1001, .int .i64 500] 3)).grownBy w9 (some R)) (h0 : 0 ≤ x) (h1 : x < 4) => four_at hg (by have := HS7.out; omega) h0 h1 y0 y2
          have hs8 : R + 1 ≤ (w7.alloc (.cells #[.int .i64 y, .int .i64 (-5), .int .i64 1001, .int .i64 500] 3)).heap.size := by have := HS7.out; simp; omega
          generalize w7.alloc (.cells #[.int .i64 y, .int .i64 (-5), .int .i64 1001, .int .i64 500] 3) = w8 at *
          generalize w7.heap.size = B0 at *
          clear HC7 HO7 HB7 HS7
          try simp only [Act.put, List.setIfInBounds_toArray, List.set_cons_zero, List.set_cons_succ]
          refine wpAnyH_ready (rs := [5]) (by kernel_rfl) (by simp) (AllReadyH.cons (o := { dst := some 32, op := _, type := _, pos := _, after := _, guard := _ }) rfl ?_ AllReadyH.nil)
          intro K5 hK5
          go_simp
          go_wp2_with (go_at_call 17; refine (f17 R R n c _ a 4 w8 HC8.out (by omega) hn (by omega) (by omega)).mono ?_; rintro e w9 ⟨x9, rfl, x90, x91, hc9, hg9⟩)
          refine hK5.out _ _ trivial (fun _ => ?_)
          clear hK5 K5
          obtain ⟨u, hu, u0, u1⟩ := HF w9 x9 hg9 x90 x91
          have HO9 := hid (row_cur HO8.out hg9 (by omega))
          have HB9 := hid (below_cur HB8.out hg9 (by omega) (Nat.le_refl _))
          clear hc9 hg9 HC8 HO8 HB8 HF hs8
          try simp only [Act.put, List.setIfInBounds_toArray, List.set_cons_zero, List.set_cons_succ]
          refine wpAnyH_take (i := 8) (oi := { dst := some 2, op := _, type := _, pos := _, after := _, guard := _ }) (v := .slice (some ⟨w3.heap.size, 0, none⟩) (1999 + k) (1999 + k)) rfl (by kernel_rfl) (by kernel_rfl) (by kernel_rfl) (fun _ _ _ h => h) (Or.inl ⟨by rfl, fun w hSw => by go_simp⟩) (by trivial) ?_
          try simp only [Act.put, List.setIfInBounds_toArray, List.set_cons_zero, List.set_cons_succ]
          obtain ⟨j, rfl⟩ : ∃ j : Nat, x9 = (j : Int) := ⟨x9.toNat, by omega⟩
          simp only [Int.toNat_natCast] at hu
          have j1 : (j : Int) < 4 := x91
          refine wpAnyH_take (i := 6) (oi := { dst := some 33, op := _, type := _, pos := _, after := _, guard := _ }) (v := .pointer (some ⟨B0, j, none⟩)) rfl (by kernel_rfl) (by kernel_rfl) (by kernel_rfl) (fun _ _ _ h => h) (Or.inl ⟨by rfl, fun w hSw => by go_simp⟩) (by trivial) ?_
          try simp only [Act.put, List.setIfInBounds_toArray, List.set_cons_zero, List.set_cons_succ]
          refine wpAnyH_ready (rs := [7]) (by kernel_rfl) (by simp) (AllReadyH.cons (o := { dst := some 34, op := _, type := _, pos := _, after := _, guard := _ }) rfl ?_ AllReadyH.nil)
          intro K6 hK6
          go_simp
          refine hK6.out _ _ trivial (fun _ => ?_)
          clear hK6 K6
          try simp only [Act.put, List.setIfInBounds_toArray, List.set_cons_zero, List.set_cons_succ]
          refine wpAnyH_take (i := 9) (oi := { dst := some 3, op := _, type := _, pos := _, after := _, guard := _ }) (v := .int .i64 u) rfl (by kernel_rfl) (by kernel_rfl) (by kernel_rfl) (fun _ _ _ h => h) (Or.inl ⟨by rfl, fun w hSw => by go_simp⟩) (by trivial) ?_
          try simp only [Act.put, List.setIfInBounds_toArray, List.set_cons_zero, List.set_cons_succ]
          refine wpAnyH_done (by kernel_rfl) ?_ _
          go_wp2
          refine bodyPost_ret (v := .tuple #[.slice (some ⟨w3.heap.size, 0, none⟩) (1999 + k) (1999 + k), .int .i64 u]) ?_ rfl ⟨some ⟨w3.heap.size, 0, none⟩, 1999 + k, List.replicate (1999 + k) 0, u, by rw [List.length_replicate], by rw [List.length_replicate]; omega, u0, u1, by rw [← HR.out]; have h := HO9.out.mono (show R ≤ R + 1 by omega); rw [List.length_replicate]; exact h, by rw [← HR.out]; exact HB9.out⟩
          simp [results, Try.results6, go_sem]
        · intro K4 hK4
          go_simp
          go_wp2_with (go_at_call 17; refine (f17 R R n c _ a 4 w7 HC7.out (by omega) hn (by omega) (by omega)).mono ?_; rintro e w8 ⟨x9, rfl, x90, x91, hc9, hg9⟩)
          refine hK4.out _ _ trivial (fun _ => ?_)
          clear hK4 K4
          have HO8 := hid (row_cur HO7.out hg9 (by omega))
          have HB8 := hid (below_cur HB7.out hg9 (by have := HS7.out; omega) (Nat.le_refl _))
          have HS8 := hid (Nat.le_trans HS7.out hg9.size)
          clear hc9 hg9 HC7 HO7 HB7 HS7
          try simp only [Act.put, List.setIfInBounds_toArray, List.set_cons_zero, List.set_cons_succ]
          refine wpAnyH_take (i := 8) (oi := { dst := some 2, op := _, type := _, pos := _, after := _, guard := _ }) (v := .slice (some ⟨w3.heap.size, 0, none⟩) (1999 + k) (1999 + k)) rfl (by kernel_rfl) (by kernel_rfl) (by kernel_rfl) (fun _ _ _ h => h) (Or.inl ⟨by rfl, fun w hSw => by go_simp⟩) (by trivial) ?_
          try simp only [Act.put, List.setIfInBounds_toArray, List.set_cons_zero, List.set_cons_succ]
          refine wpAnyH_ready (rs := [3]) (by kernel_rfl) (by simp) (AllReadyH.cons (o := { dst := some 30, op := _, type := _, pos := _, after := _, guard := _ }) rfl ?_ AllReadyH.nil)
          intro K5 hK5
          go_simp
          refine hK5.out _ _ trivial (fun _ => ?_)
          clear hK5 K5
          obtain ⟨u, hu, u0, u1⟩ := four_at (R := R) (w := w8) (w' := w8.alloc (.cells #[.int .i64 y, .int .i64 (-5), .int .i64 1001, .int .i64 500] 3)) ⟨rfl, rfl, rfl, Nat.le_refl _, fun _ _ _ => rfl⟩ (by have := HS8.out; omega) x90 x91 y0 y2
          have HO9 := hid (HO8.out.alloc (.cells #[.int .i64 y, .int .i64 (-5), .int .i64 1001, .int .i64 500] 3))
          have HB9 := hid (HB8.out.alloc (by have := HS8.out; omega) (.cells #[.int .i64 y, .int .i64 (-5), .int .i64 1001, .int .i64 500] 3))
          generalize w8.alloc (.cells #[.int .i64 y, .int .i64 (-5), .int .i64 1001, .int .i64 500] 3) = w9 at *
          generalize w8.heap.size = B0 at *
          clear HO8 HB8 HS8
          try simp only [Act.put, List.setIfInBounds_toArray, List.set_cons_zero, List.set_cons_succ]
          obtain ⟨j, rfl⟩ : ∃ j : Nat, x9 = (j : Int) := ⟨x9.toNat, by omega⟩
          simp only [Int.toNat_natCast] at hu
          have j1 : (j : Int) < 4 := x91
          refine wpAnyH_take (i := 6) (oi := { dst := some 33, op := _, type := _, pos := _, after := _, guard := _ }) (v := .pointer (some ⟨B0, j, none⟩)) rfl (by kernel_rfl) (by kernel_rfl) (by kernel_rfl) (fun _ _ _ h => h) (Or.inl ⟨by rfl, fun w hSw => by go_simp⟩) (by trivial) ?_
          try simp only [Act.put, List.setIfInBounds_toArray, List.set_cons_zero, List.set_cons_succ]
          refine wpAnyH_ready (rs := [7]) (by kernel_rfl) (by simp) (AllReadyH.cons (o := { dst := some 34, op := _, type := _, pos := _, after := _, guard := _ }) rfl ?_ AllReadyH.nil)
          intro K6 hK6
          go_simp
          refine hK6.out _ _ trivial (fun _ => ?_)
          clear hK6 K6
          try simp only [Act.put, List.setIfInBounds_toArray, List.set_cons_zero, List.set_cons_succ]
          refine wpAnyH_take (i := 9) (oi := { dst := some 3, op := _, type := _, pos := _, after := _, guard := _ }) (v := .int .i64 u) rfl (by kernel_rfl) (by kernel_rfl) (by kernel_rfl) (fun _ _ _ h => h) (Or.inl ⟨by rfl, fun w hSw => by go_simp⟩) (by trivial) ?_
          try simp only [Act.put, List.setIfInBounds_toArray, List.set_cons_zero, List.set_cons_succ]
          refine wpAnyH_done (by kernel_rfl) ?_ _
          go_wp2
          refine bodyPost_ret (v := .tuple #[.slice (some ⟨w3.heap.size, 0, none⟩) (1999 + k) (1999 + k), .int .i64 u]) ?_ rfl ⟨some ⟨w3.heap.size, 0, none⟩, 1999 + k, List.replicate (1999 + k) 0, u, by rw [List.length_replicate], by rw [List.length_replicate]; omega, u0, u1, by rw [← HR.out]; have h := HO9.out.mono (show R ≤ R + 1 by omega); rw [List.length_replicate]; exact h, by rw [← HR.out]; exact HB9.out⟩
          simp [results, Try.results6, go_sem]
end Go.Proofs.Ytilfelkbmmaabaa.Quo
