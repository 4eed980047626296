/- Times and zones that are drawn: DrawDateOf. -/
import Derived.Test.YtlmcpicmbmbkgaaDoorUfc
import Derived.Deep.RegionLaw
import Derived.Deep.RegionHeld3
namespace Go.Proofs.YtlmcpicmbmbkgaaDoor.Cur
open Go.RowKit
open Go.Proofs.YtlmcpicmbmbkgaaDoor.Cal (hid)

theorem cu_drw {B0 R n c lim : Nat} {a : Option Addr} {w : World} (h : Cu B0 R a n c lim w) : Cu B0 R a n c lim w.drew := cuKept h (row := none) ⟨rfl, rfl, rfl, Nat.le_refl _, fun _ _ _ => rfl⟩ (by intro g hg; cases hg)
theorem cu_alloc {B0 R n c lim : Nat} {a : Option Addr} {w : World} (h : Cu B0 R a n c lim w) (o : Obj) : Cu B0 R a n c lim (w.alloc o) := cuKept h (row := none) (grown_alloc (World.grownBy.refl _ _) o) (by intro g hg; cases hg)
theorem box_cur {w w' : World} {R B : Nat} {o : Obj} (h : w.heap[B]? = some o) (hg : w.grownBy w' (some R)) (hne : R < B) : w'.heap[B]? = some o := (hg.block B (Cal.lt_block h) (by intro e; have := Option.some.inj e; omega)).trans h
theorem box_alloc {w : World} {B : Nat} {o p : Obj} (h : w.heap[B]? = some o) : (w.alloc p).heap[B]? = some o := Cal.box_below h ((Below.refl _ _).alloc (Nat.le_refl _) _)
theorem some_at {w : World} {B t : Nat} {cs : Array Value} (h : w.heap[B]? = some (.cells cs t (0, 0))) (j : Nat) (hj : j < cs.size) (hi : ∀ v ∈ cs, ∃ z : Int, v = .int .i64 z) : ∃ gv : Int, w.cell? ⟨B, j, none⟩ = some (.int .i64 gv) := by
  have e := Cal.cell_at h j
  rw [Array.getElem?_eq_getElem hj] at e
  obtain ⟨z, hz⟩ := hi _ (Array.getElem_mem hj)
  exact ⟨z, by rw [e, hz]⟩
theorem cell_of {w : World} {B t j : Nat} {cs : Array Value} {v : Value} (h : w.heap[B]? = some (.cells cs t (0, 0))) (hv : cs[j]? = some v) : w.cell? ⟨B, j, none⟩ = some v := (Cal.cell_at h j).trans hv
theorem wpAnyH_mono {P : Program} {md : Region.Mode} {ops : Array Oper} {Q : Exit → Act → World → Prop} {S T : World → Prop} (h : ∀ w, S w → T w) : ∀ (fuel : Nat) (listed : Array Bool) (a : Act) (w : World), wpAnyH P md ops Q S fuel listed a w → wpAnyH P md ops Q T fuel listed a w
  | 0, _, _, _, hh => hh
  | fuel + 1, _, _, _, hh => ⟨hh.1, fun i hi => wpOp_mono (fun a' w' h' => ⟨h w' h'.1, wpAnyH_mono h fuel _ a' w' h'.2⟩) (hh.2 i hi)⟩

set_option maxRecDepth 100000 in
set_option maxHeartbeats 16000000 in
theorem f6 (n c : Nat) (a : Option Addr) (w : World) (hn : n ≤ 1048576) (hd : Bya w a n) :
    Calls Tryd.prog 6 #[.slice a n c] w fun e w' => ∃ t z : Int, e = .returned (.tuple #[.int .i64 t, .int .i64 z]) ∧ Below w.heap.size w w' := by
  have HC := hid (cuNew (c := c) hd)
  have HB := hid ((Below.refl w.heap.size w).alloc (Nat.le_refl _) (.cells #[.slice a n c, .int .i64 0, .int .u64 0] 36))
  obtain ⟨v, hv⟩ : ∃ v, v = w.alloc (.cells #[.slice a n c, .int .i64 0, .int .u64 0] 36) := ⟨_, rfl⟩
  rw [← hv] at HC HB
  have HV := hid hv
  clear hv hd
  go_enter Tryd.func6, Tryd.ntmps6
  go_upto_region 2 with fail
  rw [← HV.out]
  clear HV
  obtain ⟨R, hR⟩ : ∃ R, R = w.heap.size := ⟨_, rfl⟩
  rw [← hR] at HC HB ⊢
  have hc0 := (cu_drw HC.out).mono (lim' := 100) (by omega)
  have hb0 : Below R w v.drew := HB.out.drew
  have HRw := hid hR
  clear HC HB hR
  go_wp2_with fail
  refine wp_region_held_drew (S := fun _ => True) rfl trivial (fun hHeld => ?_)
  generalize v.drew = w0 at *
  refine wpAnyH_take (i := 0) (oi := { dst := some 8, op := _, type := _, pos := _, after := _, guard := _ }) (v := .pointer (some ⟨R, 0, none⟩)) rfl (by kernel_rfl) (by kernel_rfl) (by kernel_rfl) (fun _ _ _ h => h) (Or.inl ⟨by rfl, fun w hSw => by (try dsimp only at hSw); (try go_split_ands); go_simp⟩) (by first | trivial | assumption) ?_
  try simp only [Act.put, List.setIfInBounds_toArray, List.set_cons_zero, List.set_cons_succ]
  refine wpAnyH_take (i := 3) (oi := { dst := some 11, op := _, type := _, pos := _, after := _, guard := _ }) (v := .pointer (some ⟨R, 0, none⟩)) rfl (by kernel_rfl) (by kernel_rfl) (by kernel_rfl) (fun _ _ _ h => h) (Or.inl ⟨by rfl, fun w hSw => by (try dsimp only at hSw); (try go_split_ands); go_simp⟩) (by first | trivial | assumption) ?_
  try simp only [Act.put, List.setIfInBounds_toArray, List.set_cons_zero, List.set_cons_succ]
  refine wpAnyH_take (i := 7) (oi := { dst := some 15, op := _, type := _, pos := _, after := _, guard := _ }) (v := .pointer (some ⟨R, 0, none⟩)) rfl (by kernel_rfl) (by kernel_rfl) (by kernel_rfl) (fun _ _ _ h => h) (Or.inl ⟨by rfl, fun w hSw => by (try dsimp only at hSw); (try go_split_ands); go_simp⟩) (by first | trivial | assumption) ?_
  try simp only [Act.put, List.setIfInBounds_toArray, List.set_cons_zero, List.set_cons_succ]
  refine wpAnyH_take (i := 11) (oi := { dst := some 19, op := _, type := _, pos := _, after := _, guard := _ }) (v := .pointer (some ⟨R, 0, none⟩)) rfl (by kernel_rfl) (by kernel_rfl) (by kernel_rfl) (fun _ _ _ h => h) (Or.inl ⟨by rfl, fun w hSw => by (try dsimp only at hSw); (try go_split_ands); go_simp⟩) (by first | trivial | assumption) ?_
  try simp only [Act.put, List.setIfInBounds_toArray, List.set_cons_zero, List.set_cons_succ]
  refine wpAnyH_ready (rs := [1]) (by kernel_rfl) (by simp) (AllReadyH.cons (o := { dst := some 9, op := _, type := _, pos := _, after := _, guard := _ }) rfl ?_ AllReadyH.nil)
  intro K hK
  go_simp
  go_wp2_with (go_at_call 12; refine (f12 R R n c _ a _ hc0 (by omega) hn).mono ?_; rintro e w1 ⟨x, rfl, hc, hg⟩)
  have hc1 := hc.mono (lim' := 130) (by omega)
  have hb1 : Below R w w1 := below_cur hb0 hg (Nat.le_of_lt (cuLt hc0)) (Nat.le_refl _)
  clear hc hg
  refine hK.out _ _ trivial (fun _ => ?_)
  clear hK K
  try simp only [Act.put, List.setIfInBounds_toArray, List.set_cons_zero, List.set_cons_succ]
  refine wpAnyH_ready (rs := [2, 4]) (by kernel_rfl) (by simp) (AllReadyH.cons (o := { dst := some 10, op := _, type := _, pos := _, after := _, guard := _ }) rfl ?_ (AllReadyH.cons (o := { dst := some 12, op := _, type := _, pos := _, after := _, guard := _ }) rfl ?_ AllReadyH.nil))
  · intro K hK
    go_simp
    have hlt := cuLt hc1
    have hc2 := (cu_alloc hc1 (.cells #[.int .i64 x, .int .i64 (-1), .int .i64 1000000000000, .int .i64 1000000000001] 3)).mono (lim' := 160) (by omega)
    have hb2 : Below R w _ := hb1.alloc (Nat.le_of_lt hlt) (.cells #[.int .i64 x, .int .i64 (-1), .int .i64 1000000000000, .int .i64 1000000000001] 3)
    have x2 := heap_alloc_new w1 (.cells #[.int .i64 x, .int .i64 (-1), .int .i64 1000000000000, .int .i64 1000000000001] 3)
    obtain ⟨w2, hw2⟩ : ∃ vv, vv = w1.alloc (.cells #[.int .i64 x, .int .i64 (-1), .int .i64 1000000000000, .int .i64 1000000000001] 3) := ⟨_, rfl⟩
    rw [← hw2] at hc2 hb2 x2
    rw [← hw2]
    clear hw2
    obtain ⟨B1, hB1⟩ : ∃ x, x = w1.heap.size := ⟨_, rfl⟩
    rw [← hB1] at hlt x2
    rw [← hB1]
    have hRB1 : R < B1 := hlt
    clear hlt hB1
    refine hK.out _ _ trivial (fun _ => ?_)
    clear hK K
    try simp only [Act.put, List.setIfInBounds_toArray, List.set_cons_zero, List.set_cons_succ]
    refine wpAnyH_ready (rs := [4]) (by kernel_rfl) (by simp) (AllReadyH.cons (o := { dst := some 12, op := _, type := _, pos := _, after := _, guard := _ }) rfl ?_ AllReadyH.nil)
    intro K hK
    go_simp
    go_wp2_with (go_at_call 13; refine (f13 R R n c _ a 4 _ hc2 (by omega) hn (by omega) (by omega)).mono ?_; rintro e w3 ⟨jj1, rfl, jl1, jh1, hc, hg⟩)
    obtain ⟨j1, rfl⟩ : ∃ j : Nat, jj1 = j := ⟨jj1.toNat, by omega⟩
    have hc3 := hc.mono (lim' := 190) (by omega)
    have hb3 : Below R w w3 := below_cur hb2 hg (Nat.le_of_lt (cuLt hc2)) (Nat.le_refl _)
    have x3 := box_cur x2 hg hRB1
    clear hc hg
    refine hK.out _ _ trivial (fun _ => ?_)
    clear hK K
    try simp only [Act.put, List.setIfInBounds_toArray, List.set_cons_zero, List.set_cons_succ]
    obtain ⟨g1, k1⟩ : ∃ g : Int, (#[Value.int .i64 x, .int .i64 (-1), .int .i64 1000000000000, .int .i64 1000000000001] : Array Value)[j1]? = some (.int .i64 g) := by
      rcases (show j1 = 0 ∨ j1 = 1 ∨ j1 = 2 ∨ j1 = 3 by omega) with rfl | rfl | rfl | rfl
      · exact ⟨_, rfl⟩
      · exact ⟨_, rfl⟩
      · exact ⟨_, rfl⟩
      · exact ⟨_, rfl⟩
    have s3 := cell_of x3 k1
    refine wpAnyH_mono (S := fun x => x.cell? ⟨B1, j1, none⟩ = some (.int .i64 g1)) (fun x h => trivial) _ _ _ _ ?_
    have hHq : (fun x => x.cell? ⟨B1, j1, none⟩ = some (.int .i64 g1)) w3 := s3
    refine wpAnyH_take (i := 5) (oi := { dst := some 13, op := _, type := _, pos := _, after := _, guard := _ }) (v := .pointer (some ⟨B1, j1, none⟩)) rfl (by kernel_rfl) (by kernel_rfl) (by kernel_rfl) (fun _ _ _ h => h) (Or.inl ⟨by rfl, fun w hSw => by (try dsimp only at hSw); (try go_split_ands); go_simp⟩) (by first | trivial | assumption) ?_
    try simp only [Act.put, List.setIfInBounds_toArray, List.set_cons_zero, List.set_cons_succ]
    refine wpAnyH_take (i := 6) (oi := { dst := some 14, op := _, type := _, pos := _, after := _, guard := _ }) (v := .int .i64 g1) rfl (by kernel_rfl) (by kernel_rfl) (by kernel_rfl) (fun _ _ _ h => h) (Or.inl ⟨by rfl, fun w hSw => by (try dsimp only at hSw); (try go_split_ands); go_simp⟩) (by first | trivial | assumption) ?_
    try simp only [Act.put, List.setIfInBounds_toArray, List.set_cons_zero, List.set_cons_succ]
    refine wpAnyH_ready (rs := [8]) (by kernel_rfl) (by simp) (AllReadyH.cons (o := { dst := some 16, op := _, type := _, pos := _, after := _, guard := _ }) rfl ?_ AllReadyH.nil)
    intro K hK
    go_simp
    go_wp2_with (go_at_call 14; refine (f14 R R n c _ a 2881 _ hc3 (by omega) hn (by omega) (by omega)).mono ?_; rintro e w4 ⟨p, rfl, pl, ph, hc, hg⟩)
    have pm : p ≤ 2881 := by omega
    have hpw : IntKind.i64.wrap (p - 1440) = p - 1440 := by rw [IntKind.wrap_i64]; omega
    clear ph
    have hc4 := hc.mono (lim' := 220) (by omega)
    have hb4 : Below R w w4 := below_cur hb3 hg (Nat.le_of_lt (cuLt hc3)) (Nat.le_refl _)
    have x4 := box_cur x3 hg hRB1
    have s4 := cell_of (v := .int .i64 g1) x4 k1
    clear hc hg
    refine hK.out _ _ s4 (fun _ => ?_)
    clear hK K
    try simp only [Act.put, List.setIfInBounds_toArray, List.set_cons_zero, List.set_cons_succ]
    refine wpAnyH_take (i := 9) (oi := { dst := some 17, op := _, type := _, pos := _, after := _, guard := _ }) (v := .int .i64 (p - 1440)) rfl (by kernel_rfl) (by kernel_rfl) (by kernel_rfl) (fun _ _ _ h => h) (Or.inl ⟨by rfl, fun w hSw => by (try dsimp only at hSw); (try go_split_ands); go_simp⟩) (by first | trivial | assumption) ?_
    try simp only [Act.put, List.setIfInBounds_toArray, List.set_cons_zero, List.set_cons_succ]
    refine wpAnyH_ready (rs := [10, 12]) (by kernel_rfl) (by simp) (AllReadyH.cons (o := { dst := some 18, op := _, type := _, pos := _, after := _, guard := _ }) rfl ?_ (AllReadyH.cons (o := { dst := some 20, op := _, type := _, pos := _, after := _, guard := _ }) rfl ?_ AllReadyH.nil))
    · intro K hK
      go_simp
      have hlt := cuLt hc4
      have hc5 := (cu_alloc hc4 (.cells #[.int .i64 (p - 1440), .int .i64 (-1441), .int .i64 1441] 3)).mono (lim' := 250) (by omega)
      have hb5 : Below R w _ := hb4.alloc (Nat.le_of_lt hlt) (.cells #[.int .i64 (p - 1440), .int .i64 (-1441), .int .i64 1441] 3)
      have y5 := heap_alloc_new w4 (.cells #[.int .i64 (p - 1440), .int .i64 (-1441), .int .i64 1441] 3)
      have x5 := box_alloc (p := .cells #[.int .i64 (p - 1440), .int .i64 (-1441), .int .i64 1441] 3) x4
      have s5 := cell_of (v := .int .i64 g1) x5 k1
      obtain ⟨w5, hw5⟩ : ∃ vv, vv = w4.alloc (.cells #[.int .i64 (p - 1440), .int .i64 (-1441), .int .i64 1441] 3) := ⟨_, rfl⟩
      rw [← hw5] at hc5 hb5 y5 x5 s5
      rw [← hw5]
      clear hw5
      obtain ⟨B2, hB2⟩ : ∃ x, x = w4.heap.size := ⟨_, rfl⟩
      rw [← hB2] at hlt y5
      rw [← hB2]
      have hRB2 : R < B2 := hlt
      clear hlt hB2
      refine hK.out _ _ s5 (fun _ => ?_)
      clear hK K
      try simp only [Act.put, List.setIfInBounds_toArray, List.set_cons_zero, List.set_cons_succ]
      refine wpAnyH_ready (rs := [12]) (by kernel_rfl) (by simp) (AllReadyH.cons (o := { dst := some 20, op := _, type := _, pos := _, after := _, guard := _ }) rfl ?_ AllReadyH.nil)
      intro K hK
      go_simp
      go_wp2_with (go_at_call 13; refine (f13 R R n c _ a 3 _ hc5 (by omega) hn (by omega) (by omega)).mono ?_; rintro e w6 ⟨jj2, rfl, jl2, jh2, hc, hg⟩)
      obtain ⟨j2, rfl⟩ : ∃ j : Nat, jj2 = j := ⟨jj2.toNat, by omega⟩
      have hc6 := hc.mono (lim' := 280) (by omega)
      have hb6 : Below R w w6 := below_cur hb5 hg (Nat.le_of_lt (cuLt hc5)) (Nat.le_refl _)
      have x6 := box_cur x5 hg hRB1
      have y6 := box_cur y5 hg hRB2
      have s6 := cell_of (v := .int .i64 g1) x6 k1
      clear hc hg
      refine hK.out _ _ s6 (fun _ => ?_)
      clear hK K
      try simp only [Act.put, List.setIfInBounds_toArray, List.set_cons_zero, List.set_cons_succ]
      obtain ⟨g2, k2⟩ : ∃ g : Int, (#[Value.int .i64 (p - 1440), .int .i64 (-1441), .int .i64 1441] : Array Value)[j2]? = some (.int .i64 g) := by
        rcases (show j2 = 0 ∨ j2 = 1 ∨ j2 = 2 by omega) with rfl | rfl | rfl
        · exact ⟨_, rfl⟩
        · exact ⟨_, rfl⟩
        · exact ⟨_, rfl⟩
      have u6 := cell_of y6 k2
      refine wpAnyH_mono (S := fun x => x.cell? ⟨B1, j1, none⟩ = some (.int .i64 g1) ∧ x.cell? ⟨B2, j2, none⟩ = some (.int .i64 g2)) (fun x h => h.1) _ _ _ _ ?_
      have hHq : (fun x => x.cell? ⟨B1, j1, none⟩ = some (.int .i64 g1) ∧ x.cell? ⟨B2, j2, none⟩ = some (.int .i64 g2)) w6 := ⟨s6, u6⟩
      refine wpAnyH_take (i := 13) (oi := { dst := some 21, op := _, type := _, pos := _, after := _, guard := _ }) (v := .pointer (some ⟨B2, j2, none⟩)) rfl (by kernel_rfl) (by kernel_rfl) (by kernel_rfl) (fun _ _ _ h => h) (Or.inl ⟨by rfl, fun w hSw => by (try dsimp only at hSw); (try go_split_ands); go_simp⟩) (by first | trivial | assumption) ?_
      try simp only [Act.put, List.setIfInBounds_toArray, List.set_cons_zero, List.set_cons_succ]
      refine wpAnyH_take (i := 14) (oi := { dst := some 22, op := _, type := _, pos := _, after := _, guard := _ }) (v := .int .i64 g2) rfl (by kernel_rfl) (by kernel_rfl) (by kernel_rfl) (fun _ _ _ h => h) (Or.inl ⟨by rfl, fun w hSw => by (try dsimp only at hSw); (try go_split_ands); go_simp⟩) (by first | trivial | assumption) ?_
      try simp only [Act.put, List.setIfInBounds_toArray, List.set_cons_zero, List.set_cons_succ]
      refine wpAnyH_take (i := 15) (oi := { dst := some 2, op := _, type := _, pos := _, after := _, guard := _ }) (v := .int .i64 g1) rfl (by kernel_rfl) (by kernel_rfl) (by kernel_rfl) (fun _ _ _ h => h) (Or.inl ⟨by rfl, fun w hSw => by (try dsimp only at hSw); (try go_split_ands); go_simp⟩) (by first | trivial | assumption) ?_
      try simp only [Act.put, List.setIfInBounds_toArray, List.set_cons_zero, List.set_cons_succ]
      refine wpAnyH_take (i := 16) (oi := { dst := some 3, op := _, type := _, pos := _, after := _, guard := _ }) (v := .int .i64 g2) rfl (by kernel_rfl) (by kernel_rfl) (by kernel_rfl) (fun _ _ _ h => h) (Or.inl ⟨by rfl, fun w hSw => by (try dsimp only at hSw); (try go_split_ands); go_simp⟩) (by first | trivial | assumption) ?_
      try simp only [Act.put, List.setIfInBounds_toArray, List.set_cons_zero, List.set_cons_succ]
      refine wpAnyH_done (by kernel_rfl) ?_ _
      have HBF := hid hb6
      go_wp2
      (try simp only [Exit.inBlock, Exit.then])
      go_returns
      exact ⟨⟨g1, g2, rfl⟩, by rw [← HRw.out]; exact HBF.out⟩
    · intro K hK
      go_simp
      go_wp2_with (go_at_call 13; refine (f13 R R n c _ a 3 _ hc4 (by omega) hn (by omega) (by omega)).mono ?_; rintro e w5 ⟨jj2, rfl, jl2, jh2, hc, hg⟩)
      obtain ⟨j2, rfl⟩ : ∃ j : Nat, jj2 = j := ⟨jj2.toNat, by omega⟩
      have hc5 := hc.mono (lim' := 250) (by omega)
      have hb5 : Below R w w5 := below_cur hb4 hg (Nat.le_of_lt (cuLt hc4)) (Nat.le_refl _)
      have x5 := box_cur x4 hg hRB1
      have s5 := cell_of (v := .int .i64 g1) x5 k1
      clear hc hg
      refine hK.out _ _ s5 (fun _ => ?_)
      clear hK K
      try simp only [Act.put, List.setIfInBounds_toArray, List.set_cons_zero, List.set_cons_succ]
      refine wpAnyH_take (i := 15) (oi := { dst := some 2, op := _, type := _, pos := _, after := _, guard := _ }) (v := .int .i64 g1) rfl (by kernel_rfl) (by kernel_rfl) (by kernel_rfl) (fun _ _ _ h => h) (Or.inl ⟨by rfl, fun w hSw => by (try dsimp only at hSw); (try go_split_ands); go_simp⟩) (by first | trivial | assumption) ?_
      try simp only [Act.put, List.setIfInBounds_toArray, List.set_cons_zero, List.set_cons_succ]
      refine wpAnyH_ready (rs := [10]) (by kernel_rfl) (by simp) (AllReadyH.cons (o := { dst := some 18, op := _, type := _, pos := _, after := _, guard := _ }) rfl ?_ AllReadyH.nil)
      intro K hK
      go_simp
      have hlt := cuLt hc5
      have hc6 := (cu_alloc hc5 (.cells #[.int .i64 (p - 1440), .int .i64 (-1441), .int .i64 1441] 3)).mono (lim' := 280) (by omega)
      have hb6 : Below R w _ := hb5.alloc (Nat.le_of_lt hlt) (.cells #[.int .i64 (p - 1440), .int .i64 (-1441), .int .i64 1441] 3)
      have y6 := heap_alloc_new w5 (.cells #[.int .i64 (p - 1440), .int .i64 (-1441), .int .i64 1441] 3)
      have x6 := box_alloc (p := .cells #[.int .i64 (p - 1440), .int .i64 (-1441), .int .i64 1441] 3) x5
      have s6 := cell_of (v := .int .i64 g1) x6 k1
      obtain ⟨w6, hw6⟩ : ∃ vv, vv = w5.alloc (.cells #[.int .i64 (p - 1440), .int .i64 (-1441), .int .i64 1441] 3) := ⟨_, rfl⟩
      rw [← hw6] at hc6 hb6 y6 x6 s6
      rw [← hw6]
      clear hw6
      obtain ⟨B2, hB2⟩ : ∃ x, x = w5.heap.size := ⟨_, rfl⟩
      rw [← hB2] at hlt y6
      rw [← hB2]
      have hRB2 : R < B2 := hlt
      clear hlt hB2
      refine hK.out _ _ s6 (fun _ => ?_)
      clear hK K
      try simp only [Act.put, List.setIfInBounds_toArray, List.set_cons_zero, List.set_cons_succ]
      obtain ⟨g2, k2⟩ : ∃ g : Int, (#[Value.int .i64 (p - 1440), .int .i64 (-1441), .int .i64 1441] : Array Value)[j2]? = some (.int .i64 g) := by
        rcases (show j2 = 0 ∨ j2 = 1 ∨ j2 = 2 by omega) with rfl | rfl | rfl
        · exact ⟨_, rfl⟩
        · exact ⟨_, rfl⟩
        · exact ⟨_, rfl⟩
      have u6 := cell_of y6 k2
      refine wpAnyH_mono (S := fun x => x.cell? ⟨B1, j1, none⟩ = some (.int .i64 g1) ∧ x.cell? ⟨B2, j2, none⟩ = some (.int .i64 g2)) (fun x h => h.1) _ _ _ _ ?_
      have hHq : (fun x => x.cell? ⟨B1, j1, none⟩ = some (.int .i64 g1) ∧ x.cell? ⟨B2, j2, none⟩ = some (.int .i64 g2)) w6 := ⟨s6, u6⟩
      refine wpAnyH_take (i := 13) (oi := { dst := some 21, op := _, type := _, pos := _, after := _, guard := _ }) (v := .pointer (some ⟨B2, j2, none⟩)) rfl (by kernel_rfl) (by kernel_rfl) (by kernel_rfl) (fun _ _ _ h => h) (Or.inl ⟨by rfl, fun w hSw => by (try dsimp only at hSw); (try go_split_ands); go_simp⟩) (by first | trivial | assumption) ?_
      try simp only [Act.put, List.setIfInBounds_toArray, List.set_cons_zero, List.set_cons_succ]
      refine wpAnyH_take (i := 14) (oi := { dst := some 22, op := _, type := _, pos := _, after := _, guard := _ }) (v := .int .i64 g2) rfl (by kernel_rfl) (by kernel_rfl) (by kernel_rfl) (fun _ _ _ h => h) (Or.inl ⟨by rfl, fun w hSw => by (try dsimp only at hSw); (try go_split_ands); go_simp⟩) (by first | trivial | assumption) ?_
      try simp only [Act.put, List.setIfInBounds_toArray, List.set_cons_zero, List.set_cons_succ]
      refine wpAnyH_take (i := 16) (oi := { dst := some 3, op := _, type := _, pos := _, after := _, guard := _ }) (v := .int .i64 g2) rfl (by kernel_rfl) (by kernel_rfl) (by kernel_rfl) (fun _ _ _ h => h) (Or.inl ⟨by rfl, fun w hSw => by (try dsimp only at hSw); (try go_split_ands); go_simp⟩) (by first | trivial | assumption) ?_
      try simp only [Act.put, List.setIfInBounds_toArray, List.set_cons_zero, List.set_cons_succ]
      refine wpAnyH_done (by kernel_rfl) ?_ _
      have HBF := hid hb6
      go_wp2
      (try simp only [Exit.inBlock, Exit.then])
      go_returns
      exact ⟨⟨g1, g2, rfl⟩, by rw [← HRw.out]; exact HBF.out⟩
  · intro K hK
    go_simp
    go_wp2_with (go_at_call 13; refine (f13 R R n c _ a 4 _ hc1 (by omega) hn (by omega) (by omega)).mono ?_; rintro e w2 ⟨jj1, rfl, jl1, jh1, hc, hg⟩)
    obtain ⟨j1, rfl⟩ : ∃ j : Nat, jj1 = j := ⟨jj1.toNat, by omega⟩
    have hc2 := hc.mono (lim' := 160) (by omega)
    have hb2 : Below R w w2 := below_cur hb1 hg (Nat.le_of_lt (cuLt hc1)) (Nat.le_refl _)
    clear hc hg
    refine hK.out _ _ trivial (fun _ => ?_)
    clear hK K
    try simp only [Act.put, List.setIfInBounds_toArray, List.set_cons_zero, List.set_cons_succ]
    refine wpAnyH_ready (rs := [2, 8]) (by kernel_rfl) (by simp) (AllReadyH.cons (o := { dst := some 10, op := _, type := _, pos := _, after := _, guard := _ }) rfl ?_ (AllReadyH.cons (o := { dst := some 16, op := _, type := _, pos := _, after := _, guard := _ }) rfl ?_ AllReadyH.nil))
    · intro K hK
      go_simp
      have hlt := cuLt hc2
      have hc3 := (cu_alloc hc2 (.cells #[.int .i64 x, .int .i64 (-1), .int .i64 1000000000000, .int .i64 1000000000001] 3)).mono (lim' := 190) (by omega)
      have hb3 : Below R w _ := hb2.alloc (Nat.le_of_lt hlt) (.cells #[.int .i64 x, .int .i64 (-1), .int .i64 1000000000000, .int .i64 1000000000001] 3)
      have x3 := heap_alloc_new w2 (.cells #[.int .i64 x, .int .i64 (-1), .int .i64 1000000000000, .int .i64 1000000000001] 3)
      obtain ⟨w3, hw3⟩ : ∃ vv, vv = w2.alloc (.cells #[.int .i64 x, .int .i64 (-1), .int .i64 1000000000000, .int .i64 1000000000001] 3) := ⟨_, rfl⟩
      rw [← hw3] at hc3 hb3 x3
      rw [← hw3]
      clear hw3
      obtain ⟨B1, hB1⟩ : ∃ x, x = w2.heap.size := ⟨_, rfl⟩
      rw [← hB1] at hlt x3
      rw [← hB1]
      have hRB1 : R < B1 := hlt
      clear hlt hB1
      refine hK.out _ _ trivial (fun _ => ?_)
      clear hK K
      try simp only [Act.put, List.setIfInBounds_toArray, List.set_cons_zero, List.set_cons_succ]
      obtain ⟨g1, k1⟩ : ∃ g : Int, (#[Value.int .i64 x, .int .i64 (-1), .int .i64 1000000000000, .int .i64 1000000000001] : Array Value)[j1]? = some (.int .i64 g) := by
        rcases (show j1 = 0 ∨ j1 = 1 ∨ j1 = 2 ∨ j1 = 3 by omega) with rfl | rfl | rfl | rfl
        · exact ⟨_, rfl⟩
        · exact ⟨_, rfl⟩
        · exact ⟨_, rfl⟩
        · exact ⟨_, rfl⟩
      have s3 := cell_of x3 k1
      refine wpAnyH_mono (S := fun x => x.cell? ⟨B1, j1, none⟩ = some (.int .i64 g1)) (fun x h => trivial) _ _ _ _ ?_
      have hHq : (fun x => x.cell? ⟨B1, j1, none⟩ = some (.int .i64 g1)) w3 := s3
      refine wpAnyH_take (i := 5) (oi := { dst := some 13, op := _, type := _, pos := _, after := _, guard := _ }) (v := .pointer (some ⟨B1, j1, none⟩)) rfl (by kernel_rfl) (by kernel_rfl) (by kernel_rfl) (fun _ _ _ h => h) (Or.inl ⟨by rfl, fun w hSw => by (try dsimp only at hSw); (try go_split_ands); go_simp⟩) (by first | trivial | assumption) ?_
      try simp only [Act.put, List.setIfInBounds_toArray, List.set_cons_zero, List.set_cons_succ]
      refine wpAnyH_take (i := 6) (oi := { dst := some 14, op := _, type := _, pos := _, after := _, guard := _ }) (v := .int .i64 g1) rfl (by kernel_rfl) (by kernel_rfl) (by kernel_rfl) (fun _ _ _ h => h) (Or.inl ⟨by rfl, fun w hSw => by (try dsimp only at hSw); (try go_split_ands); go_simp⟩) (by first | trivial | assumption) ?_
      try simp only [Act.put, List.setIfInBounds_toArray, List.set_cons_zero, List.set_cons_succ]
      refine wpAnyH_ready (rs := [8]) (by kernel_rfl) (by simp) (AllReadyH.cons (o := { dst := some 16, op := _, type := _, pos := _, after := _, guard := _ }) rfl ?_ AllReadyH.nil)
      intro K hK
      go_simp
      go_wp2_with (go_at_call 14; refine (f14 R R n c _ a 2881 _ hc3 (by omega) hn (by omega) (by omega)).mono ?_; rintro e w4 ⟨p, rfl, pl, ph, hc, hg⟩)
      have pm : p ≤ 2881 := by omega
      have hpw : IntKind.i64.wrap (p - 1440) = p - 1440 := by rw [IntKind.wrap_i64]; omega
      clear ph
      have hc4 := hc.mono (lim' := 220) (by omega)
      have hb4 : Below R w w4 := below_cur hb3 hg (Nat.le_of_lt (cuLt hc3)) (Nat.le_refl _)
      have x4 := box_cur x3 hg hRB1
      have s4 := cell_of (v := .int .i64 g1) x4 k1
      clear hc hg
      refine hK.out _ _ s4 (fun _ => ?_)
      clear hK K
      try simp only [Act.put, List.setIfInBounds_toArray, List.set_cons_zero, List.set_cons_succ]
      refine wpAnyH_take (i := 9) (oi := { dst := some 17, op := _, type := _, pos := _, after := _, guard := _ }) (v := .int .i64 (p - 1440)) rfl (by kernel_rfl) (by kernel_rfl) (by kernel_rfl) (fun _ _ _ h => h) (Or.inl ⟨by rfl, fun w hSw => by (try dsimp only at hSw); (try go_split_ands); go_simp⟩) (by first | trivial | assumption) ?_
      try simp only [Act.put, List.setIfInBounds_toArray, List.set_cons_zero, List.set_cons_succ]
      refine wpAnyH_ready (rs := [10, 12]) (by kernel_rfl) (by simp) (AllReadyH.cons (o := { dst := some 18, op := _, type := _, pos := _, after := _, guard := _ }) rfl ?_ (AllReadyH.cons (o := { dst := some 20, op := _, type := _, pos := _, after := _, guard := _ }) rfl ?_ AllReadyH.nil))
      · intro K hK
        go_simp
        have hlt := cuLt hc4
        have hc5 := (cu_alloc hc4 (.cells #[.int .i64 (p - 1440), .int .i64 (-1441), .int .i64 1441] 3)).mono (lim' := 250) (by omega)
        have hb5 : Below R w _ := hb4.alloc (Nat.le_of_lt hlt) (.cells #[.int .i64 (p - 1440), .int .i64 (-1441), .int .i64 1441] 3)
        have y5 := heap_alloc_new w4 (.cells #[.int .i64 (p - 1440), .int .i64 (-1441), .int .i64 1441] 3)
        have x5 := box_alloc (p := .cells #[.int .i64 (p - 1440), .int .i64 (-1441), .int .i64 1441] 3) x4
        have s5 := cell_of (v := .int .i64 g1) x5 k1
        obtain ⟨w5, hw5⟩ : ∃ vv, vv = w4.alloc (.cells #[.int .i64 (p - 1440), .int .i64 (-1441), .int .i64 1441] 3) := ⟨_, rfl⟩
        rw [← hw5] at hc5 hb5 y5 x5 s5
        rw [← hw5]
        clear hw5
        obtain ⟨B2, hB2⟩ : ∃ x, x = w4.heap.size := ⟨_, rfl⟩
        rw [← hB2] at hlt y5
        rw [← hB2]
        have hRB2 : R < B2 := hlt
        clear hlt hB2
        refine hK.out _ _ s5 (fun _ => ?_)
        clear hK K
        try simp only [Act.put, List.setIfInBounds_toArray, List.set_cons_zero, List.set_cons_succ]
        refine wpAnyH_ready (rs := [12]) (by kernel_rfl) (by simp) (AllReadyH.cons (o := { dst := some 20, op := _, type := _, pos := _, after := _, guard := _ }) rfl ?_ AllReadyH.nil)
        intro K hK
        go_simp
        go_wp2_with (go_at_call 13; refine (f13 R R n c _ a 3 _ hc5 (by omega) hn (by omega) (by omega)).mono ?_; rintro e w6 ⟨jj2, rfl, jl2, jh2, hc, hg⟩)
        obtain ⟨j2, rfl⟩ : ∃ j : Nat, jj2 = j := ⟨jj2.toNat, by omega⟩
        have hc6 := hc.mono (lim' := 280) (by omega)
        have hb6 : Below R w w6 := below_cur hb5 hg (Nat.le_of_lt (cuLt hc5)) (Nat.le_refl _)
        have x6 := box_cur x5 hg hRB1
        have y6 := box_cur y5 hg hRB2
        have s6 := cell_of (v := .int .i64 g1) x6 k1
        clear hc hg
        refine hK.out _ _ s6 (fun _ => ?_)
        clear hK K
        try simp only [Act.put, List.setIfInBounds_toArray, List.set_cons_zero, List.set_cons_succ]
        obtain ⟨g2, k2⟩ : ∃ g : Int, (#[Value.int .i64 (p - 1440), .int .i64 (-1441), .int .i64 1441] : Array Value)[j2]? = some (.int .i64 g) := by
          rcases (show j2 = 0 ∨ j2 = 1 ∨ j2 = 2 by omega) with rfl | rfl | rfl
          · exact ⟨_, rfl⟩
          · exact ⟨_, rfl⟩
          · exact ⟨_, rfl⟩
        have u6 := cell_of y6 k2
        refine wpAnyH_mono (S := fun x => x.cell? ⟨B1, j1, none⟩ = some (.int .i64 g1) ∧ x.cell? ⟨B2, j2, none⟩ = some (.int .i64 g2)) (fun x h => h.1) _ _ _ _ ?_
        have hHq : (fun x => x.cell? ⟨B1, j1, none⟩ = some (.int .i64 g1) ∧ x.cell? ⟨B2, j2, none⟩ = some (.int .i64 g2)) w6 := ⟨s6, u6⟩
        refine wpAnyH_take (i := 13) (oi := { dst := some 21, op := _, type := _, pos := _, after := _, guard := _ }) (v := .pointer (some ⟨B2, j2, none⟩)) rfl (by kernel_rfl) (by kernel_rfl) (by kernel_rfl) (fun _ _ _ h => h) (Or.inl ⟨by rfl, fun w hSw => by (try dsimp only at hSw); (try go_split_ands); go_simp⟩) (by first | trivial | assumption) ?_
        try simp only [Act.put, List.setIfInBounds_toArray, List.set_cons_zero, List.set_cons_succ]
        refine wpAnyH_take (i := 14) (oi := { dst := some 22, op := _, type := _, pos := _, after := _, guard := _ }) (v := .int .i64 g2) rfl (by kernel_rfl) (by kernel_rfl) (by kernel_rfl) (fun _ _ _ h => h) (Or.inl ⟨by rfl, fun w hSw => by (try dsimp only at hSw); (try go_split_ands); go_simp⟩) (by first | trivial | assumption) ?_
        try simp only [Act.put, List.setIfInBounds_toArray, List.set_cons_zero, List.set_cons_succ]
        refine wpAnyH_take (i := 15) (oi := { dst := some 2, op := _, type := _, pos := _, after := _, guard := _ }) (v := .int .i64 g1) rfl (by kernel_rfl) (by kernel_rfl) (by kernel_rfl) (fun _ _ _ h => h) (Or.inl ⟨by rfl, fun w hSw => by (try dsimp only at hSw); (try go_split_ands); go_simp⟩) (by first | trivial | assumption) ?_
        try simp only [Act.put, List.setIfInBounds_toArray, List.set_cons_zero, List.set_cons_succ]
        refine wpAnyH_take (i := 16) (oi := { dst := some 3, op := _, type := _, pos := _, after := _, guard := _ }) (v := .int .i64 g2) rfl (by kernel_rfl) (by kernel_rfl) (by kernel_rfl) (fun _ _ _ h => h) (Or.inl ⟨by rfl, fun w hSw => by (try dsimp only at hSw); (try go_split_ands); go_simp⟩) (by first | trivial | assumption) ?_
        try simp only [Act.put, List.setIfInBounds_toArray, List.set_cons_zero, List.set_cons_succ]
        refine wpAnyH_done (by kernel_rfl) ?_ _
        have HBF := hid hb6
        go_wp2
        (try simp only [Exit.inBlock, Exit.then])
        go_returns
        exact ⟨⟨g1, g2, rfl⟩, by rw [← HRw.out]; exact HBF.out⟩
      · intro K hK
        go_simp
        go_wp2_with (go_at_call 13; refine (f13 R R n c _ a 3 _ hc4 (by omega) hn (by omega) (by omega)).mono ?_; rintro e w5 ⟨jj2, rfl, jl2, jh2, hc, hg⟩)
        obtain ⟨j2, rfl⟩ : ∃ j : Nat, jj2 = j := ⟨jj2.toNat, by omega⟩
        have hc5 := hc.mono (lim' := 250) (by omega)
        have hb5 : Below R w w5 := below_cur hb4 hg (Nat.le_of_lt (cuLt hc4)) (Nat.le_refl _)
        have x5 := box_cur x4 hg hRB1
        have s5 := cell_of (v := .int .i64 g1) x5 k1
        clear hc hg
        refine hK.out _ _ s5 (fun _ => ?_)
        clear hK K
        try simp only [Act.put, List.setIfInBounds_toArray, List.set_cons_zero, List.set_cons_succ]
        refine wpAnyH_take (i := 15) (oi := { dst := some 2, op := _, type := _, pos := _, after := _, guard := _ }) (v := .int .i64 g1) rfl (by kernel_rfl) (by kernel_rfl) (by kernel_rfl) (fun _ _ _ h => h) (Or.inl ⟨by rfl, fun w hSw => by (try dsimp only at hSw); (try go_split_ands); go_simp⟩) (by first | trivial | assumption) ?_
        try simp only [Act.put, List.setIfInBounds_toArray, List.set_cons_zero, List.set_cons_succ]
        refine wpAnyH_ready (rs := [10]) (by kernel_rfl) (by simp) (AllReadyH.cons (o := { dst := some 18, op := _, type := _, pos := _, after := _, guard := _ }) rfl ?_ AllReadyH.nil)
        intro K hK
        go_simp
        have hlt := cuLt hc5
        have hc6 := (cu_alloc hc5 (.cells #[.int .i64 (p - 1440), .int .i64 (-1441), .int .i64 1441] 3)).mono (lim' := 280) (by omega)
        have hb6 : Below R w _ := hb5.alloc (Nat.le_of_lt hlt) (.cells #[.int .i64 (p - 1440), .int .i64 (-1441), .int .i64 1441] 3)
        have y6 := heap_alloc_new w5 (.cells #[.int .i64 (p - 1440), .int .i64 (-1441), .int .i64 1441] 3)
        have x6 := box_alloc (p := .cells #[.int .i64 (p - 1440), .int .i64 (-1441), .int .i64 1441] 3) x5
        have s6 := cell_of (v := .int .i64 g1) x6 k1
        obtain ⟨w6, hw6⟩ : ∃ vv, vv = w5.alloc (.cells #[.int .i64 (p - 1440), .int .i64 (-1441), .int .i64 1441] 3) := ⟨_, rfl⟩
        rw [← hw6] at hc6 hb6 y6 x6 s6
        rw [← hw6]
        clear hw6
        obtain ⟨B2, hB2⟩ : ∃ x, x = w5.heap.size := ⟨_, rfl⟩
        rw [← hB2] at hlt y6
        rw [← hB2]
        have hRB2 : R < B2 := hlt
        clear hlt hB2
        refine hK.out _ _ s6 (fun _ => ?_)
        clear hK K
        try simp only [Act.put, List.setIfInBounds_toArray, List.set_cons_zero, List.set_cons_succ]
        obtain ⟨g2, k2⟩ : ∃ g : Int, (#[Value.int .i64 (p - 1440), .int .i64 (-1441), .int .i64 1441] : Array Value)[j2]? = some (.int .i64 g) := by
          rcases (show j2 = 0 ∨ j2 = 1 ∨ j2 = 2 by omega) with rfl | rfl | rfl
          · exact ⟨_, rfl⟩
          · exact ⟨_, rfl⟩
          · exact ⟨_, rfl⟩
        have u6 := cell_of y6 k2
        refine wpAnyH_mono (S := fun x => x.cell? ⟨B1, j1, none⟩ = some (.int .i64 g1) ∧ x.cell? ⟨B2, j2, none⟩ = some (.int .i64 g2)) (fun x h => h.1) _ _ _ _ ?_
        have hHq : (fun x => x.cell? ⟨B1, j1, none⟩ = some (.int .i64 g1) ∧ x.cell? ⟨B2, j2, none⟩ = some (.int .i64 g2)) w6 := ⟨s6, u6⟩
        refine wpAnyH_take (i := 13) (oi := { dst := some 21, op := _, type := _, pos := _, after := _, guard := _ }) (v := .pointer (some ⟨B2, j2, none⟩)) rfl (by kernel_rfl) (by kernel_rfl) (by kernel_rfl) (fun _ _ _ h => h) (Or.inl ⟨by rfl, fun w hSw => by (try dsimp only at hSw); (try go_split_ands); go_simp⟩) (by first | trivial | assumption) ?_
        try simp only [Act.put, List.setIfInBounds_toArray, List.set_cons_zero, List.set_cons_succ]
        refine wpAnyH_take (i := 14) (oi := { dst := some 22, op := _, type := _, pos := _, after := _, guard := _ }) (v := .int .i64 g2) rfl (by kernel_rfl) (by kernel_rfl) (by kernel_rfl) (fun _ _ _ h => h) (Or.inl ⟨by rfl, fun w hSw => by (try dsimp only at hSw); (try go_split_ands); go_simp⟩) (by first | trivial | assumption) ?_
        try simp only [Act.put, List.setIfInBounds_toArray, List.set_cons_zero, List.set_cons_succ]
        refine wpAnyH_take (i := 16) (oi := { dst := some 3, op := _, type := _, pos := _, after := _, guard := _ }) (v := .int .i64 g2) rfl (by kernel_rfl) (by kernel_rfl) (by kernel_rfl) (fun _ _ _ h => h) (Or.inl ⟨by rfl, fun w hSw => by (try dsimp only at hSw); (try go_split_ands); go_simp⟩) (by first | trivial | assumption) ?_
        try simp only [Act.put, List.setIfInBounds_toArray, List.set_cons_zero, List.set_cons_succ]
        refine wpAnyH_done (by kernel_rfl) ?_ _
        have HBF := hid hb6
        go_wp2
        (try simp only [Exit.inBlock, Exit.then])
        go_returns
        exact ⟨⟨g1, g2, rfl⟩, by rw [← HRw.out]; exact HBF.out⟩
    · intro K hK
      go_simp
      go_wp2_with (go_at_call 14; refine (f14 R R n c _ a 2881 _ hc2 (by omega) hn (by omega) (by omega)).mono ?_; rintro e w3 ⟨p, rfl, pl, ph, hc, hg⟩)
      have pm : p ≤ 2881 := by omega
      have hpw : IntKind.i64.wrap (p - 1440) = p - 1440 := by rw [IntKind.wrap_i64]; omega
      clear ph
      have hc3 := hc.mono (lim' := 190) (by omega)
      have hb3 : Below R w w3 := below_cur hb2 hg (Nat.le_of_lt (cuLt hc2)) (Nat.le_refl _)
      clear hc hg
      refine hK.out _ _ trivial (fun _ => ?_)
      clear hK K
      try simp only [Act.put, List.setIfInBounds_toArray, List.set_cons_zero, List.set_cons_succ]
      refine wpAnyH_take (i := 9) (oi := { dst := some 17, op := _, type := _, pos := _, after := _, guard := _ }) (v := .int .i64 (p - 1440)) rfl (by kernel_rfl) (by kernel_rfl) (by kernel_rfl) (fun _ _ _ h => h) (Or.inl ⟨by rfl, fun w hSw => by (try dsimp only at hSw); (try go_split_ands); go_simp⟩) (by first | trivial | assumption) ?_
      try simp only [Act.put, List.setIfInBounds_toArray, List.set_cons_zero, List.set_cons_succ]
      refine wpAnyH_ready (rs := [2, 10, 12]) (by kernel_rfl) (by simp) (AllReadyH.cons (o := { dst := some 10, op := _, type := _, pos := _, after := _, guard := _ }) rfl ?_ (AllReadyH.cons (o := { dst := some 18, op := _, type := _, pos := _, after := _, guard := _ }) rfl ?_ (AllReadyH.cons (o := { dst := some 20, op := _, type := _, pos := _, after := _, guard := _ }) rfl ?_ AllReadyH.nil)))
      · intro K hK
        go_simp
        have hlt := cuLt hc3
        have hc4 := (cu_alloc hc3 (.cells #[.int .i64 x, .int .i64 (-1), .int .i64 1000000000000, .int .i64 1000000000001] 3)).mono (lim' := 220) (by omega)
        have hb4 : Below R w _ := hb3.alloc (Nat.le_of_lt hlt) (.cells #[.int .i64 x, .int .i64 (-1), .int .i64 1000000000000, .int .i64 1000000000001] 3)
        have x4 := heap_alloc_new w3 (.cells #[.int .i64 x, .int .i64 (-1), .int .i64 1000000000000, .int .i64 1000000000001] 3)
        obtain ⟨w4, hw4⟩ : ∃ vv, vv = w3.alloc (.cells #[.int .i64 x, .int .i64 (-1), .int .i64 1000000000000, .int .i64 1000000000001] 3) := ⟨_, rfl⟩
        rw [← hw4] at hc4 hb4 x4
        rw [← hw4]
        clear hw4
        obtain ⟨B1, hB1⟩ : ∃ x, x = w3.heap.size := ⟨_, rfl⟩
        rw [← hB1] at hlt x4
        rw [← hB1]
        have hRB1 : R < B1 := hlt
        clear hlt hB1
        refine hK.out _ _ trivial (fun _ => ?_)
        clear hK K
        try simp only [Act.put, List.setIfInBounds_toArray, List.set_cons_zero, List.set_cons_succ]
        obtain ⟨g1, k1⟩ : ∃ g : Int, (#[Value.int .i64 x, .int .i64 (-1), .int .i64 1000000000000, .int .i64 1000000000001] : Array Value)[j1]? = some (.int .i64 g) := by
          rcases (show j1 = 0 ∨ j1 = 1 ∨ j1 = 2 ∨ j1 = 3 by omega) with rfl | rfl | rfl | rfl
          · exact ⟨_, rfl⟩
          · exact ⟨_, rfl⟩
          · exact ⟨_, rfl⟩
          · exact ⟨_, rfl⟩
        have s4 := cell_of x4 k1
        refine wpAnyH_mono (S := fun x => x.cell? ⟨B1, j1, none⟩ = some (.int .i64 g1)) (fun x h => trivial) _ _ _ _ ?_
        have hHq : (fun x => x.cell? ⟨B1, j1, none⟩ = some (.int .i64 g1)) w4 := s4
        refine wpAnyH_take (i := 5) (oi := { dst := some 13, op := _, type := _, pos := _, after := _, guard := _ }) (v := .pointer (some ⟨B1, j1, none⟩)) rfl (by kernel_rfl) (by kernel_rfl) (by kernel_rfl) (fun _ _ _ h => h) (Or.inl ⟨by rfl, fun w hSw => by (try dsimp only at hSw); (try go_split_ands); go_simp⟩) (by first | trivial | assumption) ?_
        try simp only [Act.put, List.setIfInBounds_toArray, List.set_cons_zero, List.set_cons_succ]
        refine wpAnyH_take (i := 6) (oi := { dst := some 14, op := _, type := _, pos := _, after := _, guard := _ }) (v := .int .i64 g1) rfl (by kernel_rfl) (by kernel_rfl) (by kernel_rfl) (fun _ _ _ h => h) (Or.inl ⟨by rfl, fun w hSw => by (try dsimp only at hSw); (try go_split_ands); go_simp⟩) (by first | trivial | assumption) ?_
        try simp only [Act.put, List.setIfInBounds_toArray, List.set_cons_zero, List.set_cons_succ]
        refine wpAnyH_ready (rs := [10, 12]) (by kernel_rfl) (by simp) (AllReadyH.cons (o := { dst := some 18, op := _, type := _, pos := _, after := _, guard := _ }) rfl ?_ (AllReadyH.cons (o := { dst := some 20, op := _, type := _, pos := _, after := _, guard := _ }) rfl ?_ AllReadyH.nil))
        · intro K hK
          go_simp
          have hlt := cuLt hc4
          have hc5 := (cu_alloc hc4 (.cells #[.int .i64 (p - 1440), .int .i64 (-1441), .int .i64 1441] 3)).mono (lim' := 250) (by omega)
          have hb5 : Below R w _ := hb4.alloc (Nat.le_of_lt hlt) (.cells #[.int .i64 (p - 1440), .int .i64 (-1441), .int .i64 1441] 3)
          have y5 := heap_alloc_new w4 (.cells #[.int .i64 (p - 1440), .int .i64 (-1441), .int .i64 1441] 3)
          have x5 := box_alloc (p := .cells #[.int .i64 (p - 1440), .int .i64 (-1441), .int .i64 1441] 3) x4
          have s5 := cell_of (v := .int .i64 g1) x5 k1
          obtain ⟨w5, hw5⟩ : ∃ vv, vv = w4.alloc (.cells #[.int .i64 (p - 1440), .int .i64 (-1441), .int .i64 1441] 3) := ⟨_, rfl⟩
          rw [← hw5] at hc5 hb5 y5 x5 s5
          rw [← hw5]
          clear hw5
          obtain ⟨B2, hB2⟩ : ∃ x, x = w4.heap.size := ⟨_, rfl⟩
          rw [← hB2] at hlt y5
          rw [← hB2]
          have hRB2 : R < B2 := hlt
          clear hlt hB2
          refine hK.out _ _ s5 (fun _ => ?_)
          clear hK K
          try simp only [Act.put, List.setIfInBounds_toArray, List.set_cons_zero, List.set_cons_succ]
          refine wpAnyH_ready (rs := [12]) (by kernel_rfl) (by simp) (AllReadyH.cons (o := { dst := some 20, op := _, type := _, pos := _, after := _, guard := _ }) rfl ?_ AllReadyH.nil)
          intro K hK
          go_simp
          go_wp2_with (go_at_call 13; refine (f13 R R n c _ a 3 _ hc5 (by omega) hn (by omega) (by omega)).mono ?_; rintro e w6 ⟨jj2, rfl, jl2, jh2, hc, hg⟩)
          obtain ⟨j2, rfl⟩ : ∃ j : Nat, jj2 = j := ⟨jj2.toNat, by omega⟩
          have hc6 := hc.mono (lim' := 280) (by omega)
          have hb6 : Below R w w6 := below_cur hb5 hg (Nat.le_of_lt (cuLt hc5)) (Nat.le_refl _)
          have x6 := box_cur x5 hg hRB1
          have y6 := box_cur y5 hg hRB2
          have s6 := cell_of (v := .int .i64 g1) x6 k1
          clear hc hg
          refine hK.out _ _ s6 (fun _ => ?_)
          clear hK K
          try simp only [Act.put, List.setIfInBounds_toArray, List.set_cons_zero, List.set_cons_succ]
          obtain ⟨g2, k2⟩ : ∃ g : Int, (#[Value.int .i64 (p - 1440), .int .i64 (-1441), .int .i64 1441] : Array Value)[j2]? = some (.int .i64 g) := by
            rcases (show j2 = 0 ∨ j2 = 1 ∨ j2 = 2 by omega) with rfl | rfl | rfl
            · exact ⟨_, rfl⟩
            · exact ⟨_, rfl⟩
            · exact ⟨_, rfl⟩
          have u6 := cell_of y6 k2
          refine wpAnyH_mono (S := fun x => x.cell? ⟨B1, j1, none⟩ = some (.int .i64 g1) ∧ x.cell? ⟨B2, j2, none⟩ = some (.int .i64 g2)) (fun x h => h.1) _ _ _ _ ?_
          have hHq : (fun x => x.cell? ⟨B1, j1, none⟩ = some (.int .i64 g1) ∧ x.cell? ⟨B2, j2, none⟩ = some (.int .i64 g2)) w6 := ⟨s6, u6⟩
          refine wpAnyH_take (i := 13) (oi := { dst := some 21, op := _, type := _, pos := _, after := _, guard := _ }) (v := .pointer (some ⟨B2, j2, none⟩)) rfl (by kernel_rfl) (by kernel_rfl) (by kernel_rfl) (fun _ _ _ h => h) (Or.inl ⟨by rfl, fun w hSw => by (try dsimp only at hSw); (try go_split_ands); go_simp⟩) (by first | trivial | assumption) ?_
          try simp only [Act.put, List.setIfInBounds_toArray, List.set_cons_zero, List.set_cons_succ]
          refine wpAnyH_take (i := 14) (oi := { dst := some 22, op := _, type := _, pos := _, after := _, guard := _ }) (v := .int .i64 g2) rfl (by kernel_rfl) (by kernel_rfl) (by kernel_rfl) (fun _ _ _ h => h) (Or.inl ⟨by rfl, fun w hSw => by (try dsimp only at hSw); (try go_split_ands); go_simp⟩) (by first | trivial | assumption) ?_
          try simp only [Act.put, List.setIfInBounds_toArray, List.set_cons_zero, List.set_cons_succ]
          refine wpAnyH_take (i := 15) (oi := { dst := some 2, op := _, type := _, pos := _, after := _, guard := _ }) (v := .int .i64 g1) rfl (by kernel_rfl) (by kernel_rfl) (by kernel_rfl) (fun _ _ _ h => h) (Or.inl ⟨by rfl, fun w hSw => by (try dsimp only at hSw); (try go_split_ands); go_simp⟩) (by first | trivial | assumption) ?_
          try simp only [Act.put, List.setIfInBounds_toArray, List.set_cons_zero, List.set_cons_succ]
          refine wpAnyH_take (i := 16) (oi := { dst := some 3, op := _, type := _, pos := _, after := _, guard := _ }) (v := .int .i64 g2) rfl (by kernel_rfl) (by kernel_rfl) (by kernel_rfl) (fun _ _ _ h => h) (Or.inl ⟨by rfl, fun w hSw => by (try dsimp only at hSw); (try go_split_ands); go_simp⟩) (by first | trivial | assumption) ?_
          try simp only [Act.put, List.setIfInBounds_toArray, List.set_cons_zero, List.set_cons_succ]
          refine wpAnyH_done (by kernel_rfl) ?_ _
          have HBF := hid hb6
          go_wp2
          (try simp only [Exit.inBlock, Exit.then])
          go_returns
          exact ⟨⟨g1, g2, rfl⟩, by rw [← HRw.out]; exact HBF.out⟩
        · intro K hK
          go_simp
          go_wp2_with (go_at_call 13; refine (f13 R R n c _ a 3 _ hc4 (by omega) hn (by omega) (by omega)).mono ?_; rintro e w5 ⟨jj2, rfl, jl2, jh2, hc, hg⟩)
          obtain ⟨j2, rfl⟩ : ∃ j : Nat, jj2 = j := ⟨jj2.toNat, by omega⟩
          have hc5 := hc.mono (lim' := 250) (by omega)
          have hb5 : Below R w w5 := below_cur hb4 hg (Nat.le_of_lt (cuLt hc4)) (Nat.le_refl _)
          have x5 := box_cur x4 hg hRB1
          have s5 := cell_of (v := .int .i64 g1) x5 k1
          clear hc hg
          refine hK.out _ _ s5 (fun _ => ?_)
          clear hK K
          try simp only [Act.put, List.setIfInBounds_toArray, List.set_cons_zero, List.set_cons_succ]
          refine wpAnyH_take (i := 15) (oi := { dst := some 2, op := _, type := _, pos := _, after := _, guard := _ }) (v := .int .i64 g1) rfl (by kernel_rfl) (by kernel_rfl) (by kernel_rfl) (fun _ _ _ h => h) (Or.inl ⟨by rfl, fun w hSw => by (try dsimp only at hSw); (try go_split_ands); go_simp⟩) (by first | trivial | assumption) ?_
          try simp only [Act.put, List.setIfInBounds_toArray, List.set_cons_zero, List.set_cons_succ]
          refine wpAnyH_ready (rs := [10]) (by kernel_rfl) (by simp) (AllReadyH.cons (o := { dst := some 18, op := _, type := _, pos := _, after := _, guard := _ }) rfl ?_ AllReadyH.nil)
          intro K hK
          go_simp
          have hlt := cuLt hc5
          have hc6 := (cu_alloc hc5 (.cells #[.int .i64 (p - 1440), .int .i64 (-1441), .int .i64 1441] 3)).mono (lim' := 280) (by omega)
          have hb6 : Below R w _ := hb5.alloc (Nat.le_of_lt hlt) (.cells #[.int .i64 (p - 1440), .int .i64 (-1441), .int .i64 1441] 3)
          have y6 := heap_alloc_new w5 (.cells #[.int .i64 (p - 1440), .int .i64 (-1441), .int .i64 1441] 3)
          have x6 := box_alloc (p := .cells #[.int .i64 (p - 1440), .int .i64 (-1441), .int .i64 1441] 3) x5
          have s6 := cell_of (v := .int .i64 g1) x6 k1
          obtain ⟨w6, hw6⟩ : ∃ vv, vv = w5.alloc (.cells #[.int .i64 (p - 1440), .int .i64 (-1441), .int .i64 1441] 3) := ⟨_, rfl⟩
          rw [← hw6] at hc6 hb6 y6 x6 s6
          rw [← hw6]
          clear hw6
          obtain ⟨B2, hB2⟩ : ∃ x, x = w5.heap.size := ⟨_, rfl⟩
          rw [← hB2] at hlt y6
          rw [← hB2]
          have hRB2 : R < B2 := hlt
          clear hlt hB2
          refine hK.out _ _ s6 (fun _ => ?_)
          clear hK K
          try simp only [Act.put, List.setIfInBounds_toArray, List.set_cons_zero, List.set_cons_succ]
          obtain ⟨g2, k2⟩ : ∃ g : Int, (#[Value.int .i64 (p - 1440), .int .i64 (-1441), .int .i64 1441] : Array Value)[j2]? = some (.int .i64 g) := by
            rcases (show j2 = 0 ∨ j2 = 1 ∨ j2 = 2 by omega) with rfl | rfl | rfl
            · exact ⟨_, rfl⟩
            · exact ⟨_, rfl⟩
            · exact ⟨_, rfl⟩
          have u6 := cell_of y6 k2
          refine wpAnyH_mono (S := fun x => x.cell? ⟨B1, j1, none⟩ = some (.int .i64 g1) ∧ x.cell? ⟨B2, j2, none⟩ = some (.int .i64 g2)) (fun x h => h.1) _ _ _ _ ?_
          have hHq : (fun x => x.cell? ⟨B1, j1, none⟩ = some (.int .i64 g1) ∧ x.cell? ⟨B2, j2, none⟩ = some (.int .i64 g2)) w6 := ⟨s6, u6⟩
          refine wpAnyH_take (i := 13) (oi := { dst := some 21, op := _, type := _, pos := _, after := _, guard := _ }) (v := .pointer (some ⟨B2, j2, none⟩)) rfl (by kernel_rfl) (by kernel_rfl) (by kernel_rfl) (fun _ _ _ h => h) (Or.inl ⟨by rfl, fun w hSw => by (try dsimp only at hSw); (try go_split_ands); go_simp⟩) (by first | trivial | assumption) ?_
          try simp only [Act.put, List.setIfInBounds_toArray, List.set_cons_zero, List.set_cons_succ]
          refine wpAnyH_take (i := 14) (oi := { dst := some 22, op := _, type := _, pos := _, after := _, guard := _ }) (v := .int .i64 g2) rfl (by kernel_rfl) (by kernel_rfl) (by kernel_rfl) (fun _ _ _ h => h) (Or.inl ⟨by rfl, fun w hSw => by (try dsimp only at hSw); (try go_split_ands); go_simp⟩) (by first | trivial | assumption) ?_
          try simp only [Act.put, List.setIfInBounds_toArray, List.set_cons_zero, List.set_cons_succ]
          refine wpAnyH_take (i := 16) (oi := { dst := some 3, op := _, type := _, pos := _, after := _, guard := _ }) (v := .int .i64 g2) rfl (by kernel_rfl) (by kernel_rfl) (by kernel_rfl) (fun _ _ _ h => h) (Or.inl ⟨by rfl, fun w hSw => by (try dsimp only at hSw); (try go_split_ands); go_simp⟩) (by first | trivial | assumption) ?_
          try simp only [Act.put, List.setIfInBounds_toArray, List.set_cons_zero, List.set_cons_succ]
          refine wpAnyH_done (by kernel_rfl) ?_ _
          have HBF := hid hb6
          go_wp2
          (try simp only [Exit.inBlock, Exit.then])
          go_returns
          exact ⟨⟨g1, g2, rfl⟩, by rw [← HRw.out]; exact HBF.out⟩
      · intro K hK
        go_simp
        have hlt := cuLt hc3
        have hc4 := (cu_alloc hc3 (.cells #[.int .i64 (p - 1440), .int .i64 (-1441), .int .i64 1441] 3)).mono (lim' := 220) (by omega)
        have hb4 : Below R w _ := hb3.alloc (Nat.le_of_lt hlt) (.cells #[.int .i64 (p - 1440), .int .i64 (-1441), .int .i64 1441] 3)
        have y4 := heap_alloc_new w3 (.cells #[.int .i64 (p - 1440), .int .i64 (-1441), .int .i64 1441] 3)
        obtain ⟨w4, hw4⟩ : ∃ vv, vv = w3.alloc (.cells #[.int .i64 (p - 1440), .int .i64 (-1441), .int .i64 1441] 3) := ⟨_, rfl⟩
        rw [← hw4] at hc4 hb4 y4
        rw [← hw4]
        clear hw4
        obtain ⟨B2, hB2⟩ : ∃ x, x = w3.heap.size := ⟨_, rfl⟩
        rw [← hB2] at hlt y4
        rw [← hB2]
        have hRB2 : R < B2 := hlt
        clear hlt hB2
        refine hK.out _ _ trivial (fun _ => ?_)
        clear hK K
        try simp only [Act.put, List.setIfInBounds_toArray, List.set_cons_zero, List.set_cons_succ]
        refine wpAnyH_ready (rs := [2, 12]) (by kernel_rfl) (by simp) (AllReadyH.cons (o := { dst := some 10, op := _, type := _, pos := _, after := _, guard := _ }) rfl ?_ (AllReadyH.cons (o := { dst := some 20, op := _, type := _, pos := _, after := _, guard := _ }) rfl ?_ AllReadyH.nil))
        · intro K hK
          go_simp
          have hlt := cuLt hc4
          have hc5 := (cu_alloc hc4 (.cells #[.int .i64 x, .int .i64 (-1), .int .i64 1000000000000, .int .i64 1000000000001] 3)).mono (lim' := 250) (by omega)
          have hb5 : Below R w _ := hb4.alloc (Nat.le_of_lt hlt) (.cells #[.int .i64 x, .int .i64 (-1), .int .i64 1000000000000, .int .i64 1000000000001] 3)
          have x5 := heap_alloc_new w4 (.cells #[.int .i64 x, .int .i64 (-1), .int .i64 1000000000000, .int .i64 1000000000001] 3)
          have y5 := box_alloc (p := .cells #[.int .i64 x, .int .i64 (-1), .int .i64 1000000000000, .int .i64 1000000000001] 3) y4
          obtain ⟨w5, hw5⟩ : ∃ vv, vv = w4.alloc (.cells #[.int .i64 x, .int .i64 (-1), .int .i64 1000000000000, .int .i64 1000000000001] 3) := ⟨_, rfl⟩
          rw [← hw5] at hc5 hb5 x5 y5
          rw [← hw5]
          clear hw5
          obtain ⟨B1, hB1⟩ : ∃ x, x = w4.heap.size := ⟨_, rfl⟩
          rw [← hB1] at hlt x5
          rw [← hB1]
          have hRB1 : R < B1 := hlt
          clear hlt hB1
          refine hK.out _ _ trivial (fun _ => ?_)
          clear hK K
          try simp only [Act.put, List.setIfInBounds_toArray, List.set_cons_zero, List.set_cons_succ]
          obtain ⟨g1, k1⟩ : ∃ g : Int, (#[Value.int .i64 x, .int .i64 (-1), .int .i64 1000000000000, .int .i64 1000000000001] : Array Value)[j1]? = some (.int .i64 g) := by
            rcases (show j1 = 0 ∨ j1 = 1 ∨ j1 = 2 ∨ j1 = 3 by omega) with rfl | rfl | rfl | rfl
            · exact ⟨_, rfl⟩
            · exact ⟨_, rfl⟩
            · exact ⟨_, rfl⟩
            · exact ⟨_, rfl⟩
          have s5 := cell_of x5 k1
          refine wpAnyH_mono (S := fun x => x.cell? ⟨B1, j1, none⟩ = some (.int .i64 g1)) (fun x h => trivial) _ _ _ _ ?_
          have hHq : (fun x => x.cell? ⟨B1, j1, none⟩ = some (.int .i64 g1)) w5 := s5
          refine wpAnyH_take (i := 5) (oi := { dst := some 13, op := _, type := _, pos := _, after := _, guard := _ }) (v := .pointer (some ⟨B1, j1, none⟩)) rfl (by kernel_rfl) (by kernel_rfl) (by kernel_rfl) (fun _ _ _ h => h) (Or.inl ⟨by rfl, fun w hSw => by (try dsimp only at hSw); (try go_split_ands); go_simp⟩) (by first | trivial | assumption) ?_
          try simp only [Act.put, List.setIfInBounds_toArray, List.set_cons_zero, List.set_cons_succ]
          refine wpAnyH_take (i := 6) (oi := { dst := some 14, op := _, type := _, pos := _, after := _, guard := _ }) (v := .int .i64 g1) rfl (by kernel_rfl) (by kernel_rfl) (by kernel_rfl) (fun _ _ _ h => h) (Or.inl ⟨by rfl, fun w hSw => by (try dsimp only at hSw); (try go_split_ands); go_simp⟩) (by first | trivial | assumption) ?_
          try simp only [Act.put, List.setIfInBounds_toArray, List.set_cons_zero, List.set_cons_succ]
          refine wpAnyH_ready (rs := [12]) (by kernel_rfl) (by simp) (AllReadyH.cons (o := { dst := some 20, op := _, type := _, pos := _, after := _, guard := _ }) rfl ?_ AllReadyH.nil)
          intro K hK
          go_simp
          go_wp2_with (go_at_call 13; refine (f13 R R n c _ a 3 _ hc5 (by omega) hn (by omega) (by omega)).mono ?_; rintro e w6 ⟨jj2, rfl, jl2, jh2, hc, hg⟩)
          obtain ⟨j2, rfl⟩ : ∃ j : Nat, jj2 = j := ⟨jj2.toNat, by omega⟩
          have hc6 := hc.mono (lim' := 280) (by omega)
          have hb6 : Below R w w6 := below_cur hb5 hg (Nat.le_of_lt (cuLt hc5)) (Nat.le_refl _)
          have x6 := box_cur x5 hg hRB1
          have y6 := box_cur y5 hg hRB2
          have s6 := cell_of (v := .int .i64 g1) x6 k1
          clear hc hg
          refine hK.out _ _ s6 (fun _ => ?_)
          clear hK K
          try simp only [Act.put, List.setIfInBounds_toArray, List.set_cons_zero, List.set_cons_succ]
          obtain ⟨g2, k2⟩ : ∃ g : Int, (#[Value.int .i64 (p - 1440), .int .i64 (-1441), .int .i64 1441] : Array Value)[j2]? = some (.int .i64 g) := by
            rcases (show j2 = 0 ∨ j2 = 1 ∨ j2 = 2 by omega) with rfl | rfl | rfl
            · exact ⟨_, rfl⟩
            · exact ⟨_, rfl⟩
            · exact ⟨_, rfl⟩
          have u6 := cell_of y6 k2
          refine wpAnyH_mono (S := fun x => x.cell? ⟨B1, j1, none⟩ = some (.int .i64 g1) ∧ x.cell? ⟨B2, j2, none⟩ = some (.int .i64 g2)) (fun x h => h.1) _ _ _ _ ?_
          have hHq : (fun x => x.cell? ⟨B1, j1, none⟩ = some (.int .i64 g1) ∧ x.cell? ⟨B2, j2, none⟩ = some (.int .i64 g2)) w6 := ⟨s6, u6⟩
          refine wpAnyH_take (i := 13) (oi := { dst := some 21, op := _, type := _, pos := _, after := _, guard := _ }) (v := .pointer (some ⟨B2, j2, none⟩)) rfl (by kernel_rfl) (by kernel_rfl) (by kernel_rfl) (fun _ _ _ h => h) (Or.inl ⟨by rfl, fun w hSw => by (try dsimp only at hSw); (try go_split_ands); go_simp⟩) (by first | trivial | assumption) ?_
          try simp only [Act.put, List.setIfInBounds_toArray, List.set_cons_zero, List.set_cons_succ]
          refine wpAnyH_take (i := 14) (oi := { dst := some 22, op := _, type := _, pos := _, after := _, guard := _ }) (v := .int .i64 g2) rfl (by kernel_rfl) (by kernel_rfl) (by kernel_rfl) (fun _ _ _ h => h) (Or.inl ⟨by rfl, fun w hSw => by (try dsimp only at hSw); (try go_split_ands); go_simp⟩) (by first | trivial | assumption) ?_
          try simp only [Act.put, List.setIfInBounds_toArray, List.set_cons_zero, List.set_cons_succ]
          refine wpAnyH_take (i := 15) (oi := { dst := some 2, op := _, type := _, pos := _, after := _, guard := _ }) (v := .int .i64 g1) rfl (by kernel_rfl) (by kernel_rfl) (by kernel_rfl) (fun _ _ _ h => h) (Or.inl ⟨by rfl, fun w hSw => by (try dsimp only at hSw); (try go_split_ands); go_simp⟩) (by first | trivial | assumption) ?_
          try simp only [Act.put, List.setIfInBounds_toArray, List.set_cons_zero, List.set_cons_succ]
          refine wpAnyH_take (i := 16) (oi := { dst := some 3, op := _, type := _, pos := _, after := _, guard := _ }) (v := .int .i64 g2) rfl (by kernel_rfl) (by kernel_rfl) (by kernel_rfl) (fun _ _ _ h => h) (Or.inl ⟨by rfl, fun w hSw => by (try dsimp only at hSw); (try go_split_ands); go_simp⟩) (by first | trivial | assumption) ?_
          try simp only [Act.put, List.setIfInBounds_toArray, List.set_cons_zero, List.set_cons_succ]
          refine wpAnyH_done (by kernel_rfl) ?_ _
          have HBF := hid hb6
          go_wp2
          (try simp only [Exit.inBlock, Exit.then])
          go_returns
          exact ⟨⟨g1, g2, rfl⟩, by rw [← HRw.out]; exact HBF.out⟩
        · intro K hK
          go_simp
          go_wp2_with (go_at_call 13; refine (f13 R R n c _ a 3 _ hc4 (by omega) hn (by omega) (by omega)).mono ?_; rintro e w5 ⟨jj2, rfl, jl2, jh2, hc, hg⟩)
          obtain ⟨j2, rfl⟩ : ∃ j : Nat, jj2 = j := ⟨jj2.toNat, by omega⟩
          have hc5 := hc.mono (lim' := 250) (by omega)
          have hb5 : Below R w w5 := below_cur hb4 hg (Nat.le_of_lt (cuLt hc4)) (Nat.le_refl _)
          have y5 := box_cur y4 hg hRB2
          clear hc hg
          refine hK.out _ _ trivial (fun _ => ?_)
          clear hK K
          try simp only [Act.put, List.setIfInBounds_toArray, List.set_cons_zero, List.set_cons_succ]
          obtain ⟨g2, k2⟩ : ∃ g : Int, (#[Value.int .i64 (p - 1440), .int .i64 (-1441), .int .i64 1441] : Array Value)[j2]? = some (.int .i64 g) := by
            rcases (show j2 = 0 ∨ j2 = 1 ∨ j2 = 2 by omega) with rfl | rfl | rfl
            · exact ⟨_, rfl⟩
            · exact ⟨_, rfl⟩
            · exact ⟨_, rfl⟩
          have u5 := cell_of y5 k2
          refine wpAnyH_mono (S := fun x => x.cell? ⟨B2, j2, none⟩ = some (.int .i64 g2)) (fun x h => trivial) _ _ _ _ ?_
          have hHq : (fun x => x.cell? ⟨B2, j2, none⟩ = some (.int .i64 g2)) w5 := u5
          refine wpAnyH_take (i := 13) (oi := { dst := some 21, op := _, type := _, pos := _, after := _, guard := _ }) (v := .pointer (some ⟨B2, j2, none⟩)) rfl (by kernel_rfl) (by kernel_rfl) (by kernel_rfl) (fun _ _ _ h => h) (Or.inl ⟨by rfl, fun w hSw => by (try dsimp only at hSw); (try go_split_ands); go_simp⟩) (by first | trivial | assumption) ?_
          try simp only [Act.put, List.setIfInBounds_toArray, List.set_cons_zero, List.set_cons_succ]
          refine wpAnyH_take (i := 14) (oi := { dst := some 22, op := _, type := _, pos := _, after := _, guard := _ }) (v := .int .i64 g2) rfl (by kernel_rfl) (by kernel_rfl) (by kernel_rfl) (fun _ _ _ h => h) (Or.inl ⟨by rfl, fun w hSw => by (try dsimp only at hSw); (try go_split_ands); go_simp⟩) (by first | trivial | assumption) ?_
          try simp only [Act.put, List.setIfInBounds_toArray, List.set_cons_zero, List.set_cons_succ]
          refine wpAnyH_ready (rs := [2]) (by kernel_rfl) (by simp) (AllReadyH.cons (o := { dst := some 10, op := _, type := _, pos := _, after := _, guard := _ }) rfl ?_ AllReadyH.nil)
          intro K hK
          go_simp
          have hlt := cuLt hc5
          have hc6 := (cu_alloc hc5 (.cells #[.int .i64 x, .int .i64 (-1), .int .i64 1000000000000, .int .i64 1000000000001] 3)).mono (lim' := 280) (by omega)
          have hb6 : Below R w _ := hb5.alloc (Nat.le_of_lt hlt) (.cells #[.int .i64 x, .int .i64 (-1), .int .i64 1000000000000, .int .i64 1000000000001] 3)
          have x6 := heap_alloc_new w5 (.cells #[.int .i64 x, .int .i64 (-1), .int .i64 1000000000000, .int .i64 1000000000001] 3)
          have y6 := box_alloc (p := .cells #[.int .i64 x, .int .i64 (-1), .int .i64 1000000000000, .int .i64 1000000000001] 3) y5
          have u6 := cell_of (v := .int .i64 g2) y6 k2
          obtain ⟨w6, hw6⟩ : ∃ vv, vv = w5.alloc (.cells #[.int .i64 x, .int .i64 (-1), .int .i64 1000000000000, .int .i64 1000000000001] 3) := ⟨_, rfl⟩
          rw [← hw6] at hc6 hb6 x6 y6 u6
          rw [← hw6]
          clear hw6
          obtain ⟨B1, hB1⟩ : ∃ x, x = w5.heap.size := ⟨_, rfl⟩
          rw [← hB1] at hlt x6
          rw [← hB1]
          have hRB1 : R < B1 := hlt
          clear hlt hB1
          refine hK.out _ _ u6 (fun _ => ?_)
          clear hK K
          try simp only [Act.put, List.setIfInBounds_toArray, List.set_cons_zero, List.set_cons_succ]
          obtain ⟨g1, k1⟩ : ∃ g : Int, (#[Value.int .i64 x, .int .i64 (-1), .int .i64 1000000000000, .int .i64 1000000000001] : Array Value)[j1]? = some (.int .i64 g) := by
            rcases (show j1 = 0 ∨ j1 = 1 ∨ j1 = 2 ∨ j1 = 3 by omega) with rfl | rfl | rfl | rfl
            · exact ⟨_, rfl⟩
            · exact ⟨_, rfl⟩
            · exact ⟨_, rfl⟩
            · exact ⟨_, rfl⟩
          have s6 := cell_of x6 k1
          refine wpAnyH_mono (S := fun x => x.cell? ⟨B1, j1, none⟩ = some (.int .i64 g1) ∧ x.cell? ⟨B2, j2, none⟩ = some (.int .i64 g2)) (fun x h => h.2) _ _ _ _ ?_
          have hHq : (fun x => x.cell? ⟨B1, j1, none⟩ = some (.int .i64 g1) ∧ x.cell? ⟨B2, j2, none⟩ = some (.int .i64 g2)) w6 := ⟨s6, u6⟩
          refine wpAnyH_take (i := 5) (oi := { dst := some 13, op := _, type := _, pos := _, after := _, guard := _ }) (v := .pointer (some ⟨B1, j1, none⟩)) rfl (by kernel_rfl) (by kernel_rfl) (by kernel_rfl) (fun _ _ _ h => h) (Or.inl ⟨by rfl, fun w hSw => by (try dsimp only at hSw); (try go_split_ands); go_simp⟩) (by first | trivial | assumption) ?_
          try simp only [Act.put, List.setIfInBounds_toArray, List.set_cons_zero, List.set_cons_succ]
          refine wpAnyH_take (i := 6) (oi := { dst := some 14, op := _, type := _, pos := _, after := _, guard := _ }) (v := .int .i64 g1) rfl (by kernel_rfl) (by kernel_rfl) (by kernel_rfl) (fun _ _ _ h => h) (Or.inl ⟨by rfl, fun w hSw => by (try dsimp only at hSw); (try go_split_ands); go_simp⟩) (by first | trivial | assumption) ?_
          try simp only [Act.put, List.setIfInBounds_toArray, List.set_cons_zero, List.set_cons_succ]
          refine wpAnyH_take (i := 15) (oi := { dst := some 2, op := _, type := _, pos := _, after := _, guard := _ }) (v := .int .i64 g1) rfl (by kernel_rfl) (by kernel_rfl) (by kernel_rfl) (fun _ _ _ h => h) (Or.inl ⟨by rfl, fun w hSw => by (try dsimp only at hSw); (try go_split_ands); go_simp⟩) (by first | trivial | assumption) ?_
          try simp only [Act.put, List.setIfInBounds_toArray, List.set_cons_zero, List.set_cons_succ]
          refine wpAnyH_take (i := 16) (oi := { dst := some 3, op := _, type := _, pos := _, after := _, guard := _ }) (v := .int .i64 g2) rfl (by kernel_rfl) (by kernel_rfl) (by kernel_rfl) (fun _ _ _ h => h) (Or.inl ⟨by rfl, fun w hSw => by (try dsimp only at hSw); (try go_split_ands); go_simp⟩) (by first | trivial | assumption) ?_
          try simp only [Act.put, List.setIfInBounds_toArray, List.set_cons_zero, List.set_cons_succ]
          refine wpAnyH_done (by kernel_rfl) ?_ _
          have HBF := hid hb6
          go_wp2
          (try simp only [Exit.inBlock, Exit.then])
          go_returns
          exact ⟨⟨g1, g2, rfl⟩, by rw [← HRw.out]; exact HBF.out⟩
      · intro K hK
        go_simp
        go_wp2_with (go_at_call 13; refine (f13 R R n c _ a 3 _ hc3 (by omega) hn (by omega) (by omega)).mono ?_; rintro e w4 ⟨jj2, rfl, jl2, jh2, hc, hg⟩)
        obtain ⟨j2, rfl⟩ : ∃ j : Nat, jj2 = j := ⟨jj2.toNat, by omega⟩
        have hc4 := hc.mono (lim' := 220) (by omega)
        have hb4 : Below R w w4 := below_cur hb3 hg (Nat.le_of_lt (cuLt hc3)) (Nat.le_refl _)
        clear hc hg
        refine hK.out _ _ trivial (fun _ => ?_)
        clear hK K
        try simp only [Act.put, List.setIfInBounds_toArray, List.set_cons_zero, List.set_cons_succ]
        refine wpAnyH_ready (rs := [2, 10]) (by kernel_rfl) (by simp) (AllReadyH.cons (o := { dst := some 10, op := _, type := _, pos := _, after := _, guard := _ }) rfl ?_ (AllReadyH.cons (o := { dst := some 18, op := _, type := _, pos := _, after := _, guard := _ }) rfl ?_ AllReadyH.nil))
        · intro K hK
          go_simp
          have hlt := cuLt hc4
          have hc5 := (cu_alloc hc4 (.cells #[.int .i64 x, .int .i64 (-1), .int .i64 1000000000000, .int .i64 1000000000001] 3)).mono (lim' := 250) (by omega)
          have hb5 : Below R w _ := hb4.alloc (Nat.le_of_lt hlt) (.cells #[.int .i64 x, .int .i64 (-1), .int .i64 1000000000000, .int .i64 1000000000001] 3)
          have x5 := heap_alloc_new w4 (.cells #[.int .i64 x, .int .i64 (-1), .int .i64 1000000000000, .int .i64 1000000000001] 3)
          obtain ⟨w5, hw5⟩ : ∃ vv, vv = w4.alloc (.cells #[.int .i64 x, .int .i64 (-1), .int .i64 1000000000000, .int .i64 1000000000001] 3) := ⟨_, rfl⟩
          rw [← hw5] at hc5 hb5 x5
          rw [← hw5]
          clear hw5
          obtain ⟨B1, hB1⟩ : ∃ x, x = w4.heap.size := ⟨_, rfl⟩
          rw [← hB1] at hlt x5
          rw [← hB1]
          have hRB1 : R < B1 := hlt
          clear hlt hB1
          refine hK.out _ _ trivial (fun _ => ?_)
          clear hK K
          try simp only [Act.put, List.setIfInBounds_toArray, List.set_cons_zero, List.set_cons_succ]
          obtain ⟨g1, k1⟩ : ∃ g : Int, (#[Value.int .i64 x, .int .i64 (-1), .int .i64 1000000000000, .int .i64 1000000000001] : Array Value)[j1]? = some (.int .i64 g) := by
            rcases (show j1 = 0 ∨ j1 = 1 ∨ j1 = 2 ∨ j1 = 3 by omega) with rfl | rfl | rfl | rfl
            · exact ⟨_, rfl⟩
            · exact ⟨_, rfl⟩
            · exact ⟨_, rfl⟩
            · exact ⟨_, rfl⟩
          have s5 := cell_of x5 k1
          refine wpAnyH_mono (S := fun x => x.cell? ⟨B1, j1, none⟩ = some (.int .i64 g1)) (fun x h => trivial) _ _ _ _ ?_
          have hHq : (fun x => x.cell? ⟨B1, j1, none⟩ = some (.int .i64 g1)) w5 := s5
          refine wpAnyH_take (i := 5) (oi := { dst := some 13, op := _, type := _, pos := _, after := _, guard := _ }) (v := .pointer (some ⟨B1, j1, none⟩)) rfl (by kernel_rfl) (by kernel_rfl) (by kernel_rfl) (fun _ _ _ h => h) (Or.inl ⟨by rfl, fun w hSw => by (try dsimp only at hSw); (try go_split_ands); go_simp⟩) (by first | trivial | assumption) ?_
          try simp only [Act.put, List.setIfInBounds_toArray, List.set_cons_zero, List.set_cons_succ]
          refine wpAnyH_take (i := 6) (oi := { dst := some 14, op := _, type := _, pos := _, after := _, guard := _ }) (v := .int .i64 g1) rfl (by kernel_rfl) (by kernel_rfl) (by kernel_rfl) (fun _ _ _ h => h) (Or.inl ⟨by rfl, fun w hSw => by (try dsimp only at hSw); (try go_split_ands); go_simp⟩) (by first | trivial | assumption) ?_
          try simp only [Act.put, List.setIfInBounds_toArray, List.set_cons_zero, List.set_cons_succ]
          refine wpAnyH_take (i := 15) (oi := { dst := some 2, op := _, type := _, pos := _, after := _, guard := _ }) (v := .int .i64 g1) rfl (by kernel_rfl) (by kernel_rfl) (by kernel_rfl) (fun _ _ _ h => h) (Or.inl ⟨by rfl, fun w hSw => by (try dsimp only at hSw); (try go_split_ands); go_simp⟩) (by first | trivial | assumption) ?_
          try simp only [Act.put, List.setIfInBounds_toArray, List.set_cons_zero, List.set_cons_succ]
          refine wpAnyH_ready (rs := [10]) (by kernel_rfl) (by simp) (AllReadyH.cons (o := { dst := some 18, op := _, type := _, pos := _, after := _, guard := _ }) rfl ?_ AllReadyH.nil)
          intro K hK
          go_simp
          have hlt := cuLt hc5
          have hc6 := (cu_alloc hc5 (.cells #[.int .i64 (p - 1440), .int .i64 (-1441), .int .i64 1441] 3)).mono (lim' := 280) (by omega)
          have hb6 : Below R w _ := hb5.alloc (Nat.le_of_lt hlt) (.cells #[.int .i64 (p - 1440), .int .i64 (-1441), .int .i64 1441] 3)
          have y6 := heap_alloc_new w5 (.cells #[.int .i64 (p - 1440), .int .i64 (-1441), .int .i64 1441] 3)
          have x6 := box_alloc (p := .cells #[.int .i64 (p - 1440), .int .i64 (-1441), .int .i64 1441] 3) x5
          have s6 := cell_of (v := .int .i64 g1) x6 k1
          obtain ⟨w6, hw6⟩ : ∃ vv, vv = w5.alloc (.cells #[.int .i64 (p - 1440), .int .i64 (-1441), .int .i64 1441] 3) := ⟨_, rfl⟩
          rw [← hw6] at hc6 hb6 y6 x6 s6
          rw [← hw6]
          clear hw6
          obtain ⟨B2, hB2⟩ : ∃ x, x = w5.heap.size := ⟨_, rfl⟩
          rw [← hB2] at hlt y6
          rw [← hB2]
          have hRB2 : R < B2 := hlt
          clear hlt hB2
          refine hK.out _ _ s6 (fun _ => ?_)
          clear hK K
          try simp only [Act.put, List.setIfInBounds_toArray, List.set_cons_zero, List.set_cons_succ]
          obtain ⟨g2, k2⟩ : ∃ g : Int, (#[Value.int .i64 (p - 1440), .int .i64 (-1441), .int .i64 1441] : Array Value)[j2]? = some (.int .i64 g) := by
            rcases (show j2 = 0 ∨ j2 = 1 ∨ j2 = 2 by omega) with rfl | rfl | rfl
            · exact ⟨_, rfl⟩
            · exact ⟨_, rfl⟩
            · exact ⟨_, rfl⟩
          have u6 := cell_of y6 k2
          refine wpAnyH_mono (S := fun x => x.cell? ⟨B1, j1, none⟩ = some (.int .i64 g1) ∧ x.cell? ⟨B2, j2, none⟩ = some (.int .i64 g2)) (fun x h => h.1) _ _ _ _ ?_
          have hHq : (fun x => x.cell? ⟨B1, j1, none⟩ = some (.int .i64 g1) ∧ x.cell? ⟨B2, j2, none⟩ = some (.int .i64 g2)) w6 := ⟨s6, u6⟩
          refine wpAnyH_take (i := 13) (oi := { dst := some 21, op := _, type := _, pos := _, after := _, guard := _ }) (v := .pointer (some ⟨B2, j2, none⟩)) rfl (by kernel_rfl) (by kernel_rfl) (by kernel_rfl) (fun _ _ _ h => h) (Or.inl ⟨by rfl, fun w hSw => by (try dsimp only at hSw); (try go_split_ands); go_simp⟩) (by first | trivial | assumption) ?_
          try simp only [Act.put, List.setIfInBounds_toArray, List.set_cons_zero, List.set_cons_succ]
          refine wpAnyH_take (i := 14) (oi := { dst := some 22, op := _, type := _, pos := _, after := _, guard := _ }) (v := .int .i64 g2) rfl (by kernel_rfl) (by kernel_rfl) (by kernel_rfl) (fun _ _ _ h => h) (Or.inl ⟨by rfl, fun w hSw => by (try dsimp only at hSw); (try go_split_ands); go_simp⟩) (by first | trivial | assumption) ?_
          try simp only [Act.put, List.setIfInBounds_toArray, List.set_cons_zero, List.set_cons_succ]
          refine wpAnyH_take (i := 16) (oi := { dst := some 3, op := _, type := _, pos := _, after := _, guard := _ }) (v := .int .i64 g2) rfl (by kernel_rfl) (by kernel_rfl) (by kernel_rfl) (fun _ _ _ h => h) (Or.inl ⟨by rfl, fun w hSw => by (try dsimp only at hSw); (try go_split_ands); go_simp⟩) (by first | trivial | assumption) ?_
          try simp only [Act.put, List.setIfInBounds_toArray, List.set_cons_zero, List.set_cons_succ]
          refine wpAnyH_done (by kernel_rfl) ?_ _
          have HBF := hid hb6
          go_wp2
          (try simp only [Exit.inBlock, Exit.then])
          go_returns
          exact ⟨⟨g1, g2, rfl⟩, by rw [← HRw.out]; exact HBF.out⟩
        · intro K hK
          go_simp
          have hlt := cuLt hc4
          have hc5 := (cu_alloc hc4 (.cells #[.int .i64 (p - 1440), .int .i64 (-1441), .int .i64 1441] 3)).mono (lim' := 250) (by omega)
          have hb5 : Below R w _ := hb4.alloc (Nat.le_of_lt hlt) (.cells #[.int .i64 (p - 1440), .int .i64 (-1441), .int .i64 1441] 3)
          have y5 := heap_alloc_new w4 (.cells #[.int .i64 (p - 1440), .int .i64 (-1441), .int .i64 1441] 3)
          obtain ⟨w5, hw5⟩ : ∃ vv, vv = w4.alloc (.cells #[.int .i64 (p - 1440), .int .i64 (-1441), .int .i64 1441] 3) := ⟨_, rfl⟩
          rw [← hw5] at hc5 hb5 y5
          rw [← hw5]
          clear hw5
          obtain ⟨B2, hB2⟩ : ∃ x, x = w4.heap.size := ⟨_, rfl⟩
          rw [← hB2] at hlt y5
          rw [← hB2]
          have hRB2 : R < B2 := hlt
          clear hlt hB2
          refine hK.out _ _ trivial (fun _ => ?_)
          clear hK K
          try simp only [Act.put, List.setIfInBounds_toArray, List.set_cons_zero, List.set_cons_succ]
          obtain ⟨g2, k2⟩ : ∃ g : Int, (#[Value.int .i64 (p - 1440), .int .i64 (-1441), .int .i64 1441] : Array Value)[j2]? = some (.int .i64 g) := by
            rcases (show j2 = 0 ∨ j2 = 1 ∨ j2 = 2 by omega) with rfl | rfl | rfl
            · exact ⟨_, rfl⟩
            · exact ⟨_, rfl⟩
            · exact ⟨_, rfl⟩
          have u5 := cell_of y5 k2
          refine wpAnyH_mono (S := fun x => x.cell? ⟨B2, j2, none⟩ = some (.int .i64 g2)) (fun x h => trivial) _ _ _ _ ?_
          have hHq : (fun x => x.cell? ⟨B2, j2, none⟩ = some (.int .i64 g2)) w5 := u5
          refine wpAnyH_take (i := 13) (oi := { dst := some 21, op := _, type := _, pos := _, after := _, guard := _ }) (v := .pointer (some ⟨B2, j2, none⟩)) rfl (by kernel_rfl) (by kernel_rfl) (by kernel_rfl) (fun _ _ _ h => h) (Or.inl ⟨by rfl, fun w hSw => by (try dsimp only at hSw); (try go_split_ands); go_simp⟩) (by first | trivial | assumption) ?_
          try simp only [Act.put, List.setIfInBounds_toArray, List.set_cons_zero, List.set_cons_succ]
          refine wpAnyH_take (i := 14) (oi := { dst := some 22, op := _, type := _, pos := _, after := _, guard := _ }) (v := .int .i64 g2) rfl (by kernel_rfl) (by kernel_rfl) (by kernel_rfl) (fun _ _ _ h => h) (Or.inl ⟨by rfl, fun w hSw => by (try dsimp only at hSw); (try go_split_ands); go_simp⟩) (by first | trivial | assumption) ?_
          try simp only [Act.put, List.setIfInBounds_toArray, List.set_cons_zero, List.set_cons_succ]
          refine wpAnyH_ready (rs := [2]) (by kernel_rfl) (by simp) (AllReadyH.cons (o := { dst := some 10, op := _, type := _, pos := _, after := _, guard := _ }) rfl ?_ AllReadyH.nil)
          intro K hK
          go_simp
          have hlt := cuLt hc5
          have hc6 := (cu_alloc hc5 (.cells #[.int .i64 x, .int .i64 (-1), .int .i64 1000000000000, .int .i64 1000000000001] 3)).mono (lim' := 280) (by omega)
          have hb6 : Below R w _ := hb5.alloc (Nat.le_of_lt hlt) (.cells #[.int .i64 x, .int .i64 (-1), .int .i64 1000000000000, .int .i64 1000000000001] 3)
          have x6 := heap_alloc_new w5 (.cells #[.int .i64 x, .int .i64 (-1), .int .i64 1000000000000, .int .i64 1000000000001] 3)
          have y6 := box_alloc (p := .cells #[.int .i64 x, .int .i64 (-1), .int .i64 1000000000000, .int .i64 1000000000001] 3) y5
          have u6 := cell_of (v := .int .i64 g2) y6 k2
          obtain ⟨w6, hw6⟩ : ∃ vv, vv = w5.alloc (.cells #[.int .i64 x, .int .i64 (-1), .int .i64 1000000000000, .int .i64 1000000000001] 3) := ⟨_, rfl⟩
          rw [← hw6] at hc6 hb6 x6 y6 u6
          rw [← hw6]
          clear hw6
          obtain ⟨B1, hB1⟩ : ∃ x, x = w5.heap.size := ⟨_, rfl⟩
          rw [← hB1] at hlt x6
          rw [← hB1]
          have hRB1 : R < B1 := hlt
          clear hlt hB1
          refine hK.out _ _ u6 (fun _ => ?_)
          clear hK K
          try simp only [Act.put, List.setIfInBounds_toArray, List.set_cons_zero, List.set_cons_succ]
          obtain ⟨g1, k1⟩ : ∃ g : Int, (#[Value.int .i64 x, .int .i64 (-1), .int .i64 1000000000000, .int .i64 1000000000001] : Array Value)[j1]? = some (.int .i64 g) := by
            rcases (show j1 = 0 ∨ j1 = 1 ∨ j1 = 2 ∨ j1 = 3 by omega) with rfl | rfl | rfl | rfl
            · exact ⟨_, rfl⟩
            · exact ⟨_, rfl⟩
            · exact ⟨_, rfl⟩
            · exact ⟨_, rfl⟩
          have s6 := cell_of x6 k1
          refine wpAnyH_mono (S := fun x => x.cell? ⟨B1, j1, none⟩ = some (.int .i64 g1) ∧ x.cell? ⟨B2, j2, none⟩ = some (.int .i64 g2)) (fun x h => h.2) _ _ _ _ ?_
          have hHq : (fun x => x.cell? ⟨B1, j1, none⟩ = some (.int .i64 g1) ∧ x.cell? ⟨B2, j2, none⟩ = some (.int .i64 g2)) w6 := ⟨s6, u6⟩
          refine wpAnyH_take (i := 5) (oi := { dst := some 13, op := _, type := _, pos := _, after := _, guard := _ }) (v := .pointer (some ⟨B1, j1, none⟩)) rfl (by kernel_rfl) (by kernel_rfl) (by kernel_rfl) (fun _ _ _ h => h) (Or.inl ⟨by rfl, fun w hSw => by (try dsimp only at hSw); (try go_split_ands); go_simp⟩) (by first | trivial | assumption) ?_
          try simp only [Act.put, List.setIfInBounds_toArray, List.set_cons_zero, List.set_cons_succ]
          refine wpAnyH_take (i := 6) (oi := { dst := some 14, op := _, type := _, pos := _, after := _, guard := _ }) (v := .int .i64 g1) rfl (by kernel_rfl) (by kernel_rfl) (by kernel_rfl) (fun _ _ _ h => h) (Or.inl ⟨by rfl, fun w hSw => by (try dsimp only at hSw); (try go_split_ands); go_simp⟩) (by first | trivial | assumption) ?_
          try simp only [Act.put, List.setIfInBounds_toArray, List.set_cons_zero, List.set_cons_succ]
          refine wpAnyH_take (i := 15) (oi := { dst := some 2, op := _, type := _, pos := _, after := _, guard := _ }) (v := .int .i64 g1) rfl (by kernel_rfl) (by kernel_rfl) (by kernel_rfl) (fun _ _ _ h => h) (Or.inl ⟨by rfl, fun w hSw => by (try dsimp only at hSw); (try go_split_ands); go_simp⟩) (by first | trivial | assumption) ?_
          try simp only [Act.put, List.setIfInBounds_toArray, List.set_cons_zero, List.set_cons_succ]
          refine wpAnyH_take (i := 16) (oi := { dst := some 3, op := _, type := _, pos := _, after := _, guard := _ }) (v := .int .i64 g2) rfl (by kernel_rfl) (by kernel_rfl) (by kernel_rfl) (fun _ _ _ h => h) (Or.inl ⟨by rfl, fun w hSw => by (try dsimp only at hSw); (try go_split_ands); go_simp⟩) (by first | trivial | assumption) ?_
          try simp only [Act.put, List.setIfInBounds_toArray, List.set_cons_zero, List.set_cons_succ]
          refine wpAnyH_done (by kernel_rfl) ?_ _
          have HBF := hid hb6
          go_wp2
          (try simp only [Exit.inBlock, Exit.then])
          go_returns
          exact ⟨⟨g1, g2, rfl⟩, by rw [← HRw.out]; exact HBF.out⟩
end Go.Proofs.YtlmcpicmbmbkgaaDoor.Cur
