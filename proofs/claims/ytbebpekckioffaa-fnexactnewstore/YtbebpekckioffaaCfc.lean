/- New stores: both NewStores; stores without anything in them compared, marked, held; the walk of FnExactNewStore. -/
import Derived.Test.YtbebpekckioffaaCfb
namespace Go.Proofs.Ytbebpekckioffaa.Cfs
open Go.RowKit Go.Proofs.Ytbebpekckioffaa.Smp Go.Proofs.Ytbebpekckioffaa.Hdn

/-- A store whose head has these numbers and no series, without a log and blocks. -/
abbrev st (W L N : Int) : Value := .agg #[.int .i64 W, .int .i64 L, .int .i64 N, .slice none 0 0, .slice none 0 0, .slice none 0 0]
/-- What NewStore tells. -/
def ns (A B C D : Int) : Int × Int × Int := if OkC A B C D then (A, B, -1) else (0, 0, 0)
theorem ns_yes {A B C D : Int} (h : OkC A B C D) : nh A B = ns A B C D := by
  rw [ns, if_pos h, nh, if_pos h.1]
theorem ns_no {A B C D : Int} (h : ¬ OkC A B C D) : ns A B C D = (0, 0, 0) := if_neg h
theorem set_cell {w : World} {b o : Nat} {t : TypeId} {cs : Array Value} {q : Nat × Nat} {x : Value} (h : w.heap[b]? = some (.cells cs t q)) : (w.setCell ⟨b, o, none⟩ x).heap[b]? = some (.cells (cs.setIfInBounds o x) t q) := by
  have hlt : b < w.heap.size := (Array.getElem?_eq_some_iff.1 h).1
  have h' : w.heap[b] = .cells cs t q := by simpa [Array.getElem?_eq_getElem hlt] using h
  show (w.heap.modify b _)[b]? = _
  rw [Array.getElem?_eq_getElem (by simpa using hlt), Array.getElem_modify_self, h']
  rfl
theorem cell_at {w : World} {b : Nat} {t : TypeId} {cs : Array Value} {q : Nat × Nat} (h : w.heap[b]? = some (.cells cs t q)) (o : Nat) : w.cell? ⟨b, o, none⟩ = cs[o]? := by
  unfold World.cell?; simp only [h]; rfl
theorem froz_at {w : World} {b : Nat} {t : TypeId} {cs : Array Value} (h : w.heap[b]? = some (.cells cs t (0, 0))) (o : Nat) : w.frozen? ⟨b, o, none⟩ = false := by simp [World.frozen?, h]
theorem six {x : World} {b : Nat} {v0 v1 v2 v3 v4 v5 : Value} {t : TypeId} (h : x.heap[b]? = some (.cells #[v0, v1, v2, v3, v4, v5] t)) : x.cell? ⟨b, 0, none⟩ = some v0 ∧ x.cell? ⟨b, 1, none⟩ = some v1 ∧ x.cell? ⟨b, 2, none⟩ = some v2 ∧ x.cell? ⟨b, 3, none⟩ = some v3 ∧ x.cell? ⟨b, 4, none⟩ = some v4 ∧ x.cell? ⟨b, 5, none⟩ = some v5 :=
  ⟨cell_at h 0, cell_at h 1, cell_at h 2, cell_at h 3, cell_at h 4, cell_at h 5⟩
theorem six_free {x : World} {b : Nat} {v0 v1 v2 v3 v4 v5 : Value} {t : TypeId} (h : x.heap[b]? = some (.cells #[v0, v1, v2, v3, v4, v5] t)) : x.frozen? ⟨b, 0, none⟩ = false ∧ x.frozen? ⟨b, 1, none⟩ = false ∧ x.frozen? ⟨b, 2, none⟩ = false ∧ x.frozen? ⟨b, 3, none⟩ = false ∧ x.frozen? ⟨b, 4, none⟩ = false ∧ x.frozen? ⟨b, 5, none⟩ = false := ⟨froz_at h 0, froz_at h 1, froz_at h 2, froz_at h 3, froz_at h 4, froz_at h 5⟩
/-- Six cells of a box, written one behind the other. -/
def put6 (w : World) (b : Nat) (X Y Z : Int) : World := (((((w.setCell ⟨b, 0, none⟩ (.int .i64 X)).setCell ⟨b, 1, none⟩ (.int .i64 Y)).setCell ⟨b, 2, none⟩ (.int .i64 Z)).setCell ⟨b, 3, none⟩ (.slice none 0 0)).setCell ⟨b, 4, none⟩ (.slice none 0 0)).setCell ⟨b, 5, none⟩ (.slice none 0 0)
theorem put6_at {w1 w : World} {b : Nat} {X Y Z : Int} (h : w.heap[b]? = some (.cells #[.int .i64 0, .int .i64 0, .int .i64 0, .slice none 0 0, .slice none 0 0, .slice none 0 0] 34)) (hl : w1.heap.size ≤ b) (hb : Below w1.heap.size w1 w) : (put6 w b X Y Z).heap[b]? = some (.cells #[.int .i64 X, .int .i64 Y, .int .i64 Z, .slice none 0 0, .slice none 0 0, .slice none 0 0] 34) ∧ Below w1.heap.size w1 (put6 w b X Y Z) :=
  ⟨by have := (set_cell (o := 5) (x := .slice none 0 0) (set_cell (o := 4) (x := .slice none 0 0) (set_cell (o := 3) (x := .slice none 0 0) (set_cell (o := 2) (x := .int .i64 Z) (set_cell (o := 1) (x := .int .i64 Y) (set_cell (o := 0) (x := .int .i64 X) h)))))); simpa [put6] using this, ((((((hb.setCell (p := ⟨b, 0, none⟩) hl _).setCell (p := ⟨b, 1, none⟩) hl _).setCell (p := ⟨b, 2, none⟩) hl _).setCell (p := ⟨b, 3, none⟩) hl _).setCell (p := ⟨b, 4, none⟩) hl _).setCell (p := ⟨b, 5, none⟩) hl _)⟩
/-- A configuration's box and a store's. -/
structure Tw (w : World) (A B C D : Int) (x : World) : Prop where
  one : x.heap[w.heap.size]? = some (.cells #[.int .i64 A, .int .i64 B, .int .i64 C, .int .i64 D] 25)
  two : x.heap[w.heap.size + 1]? = some (.cells #[.int .i64 0, .int .i64 0, .int .i64 0, .slice none 0 0, .slice none 0 0, .slice none 0 0] 34)
  bel : Below w.heap.size w x
theorem Tw.below {w : World} {A B C D : Int} {x y : World} (h : Tw w A B C D x) (hb : Below x.heap.size x y) : Tw w A B C D y := ⟨kept h.one hb, kept h.two hb, h.bel.trans (hb.mono h.bel.size)⟩
theorem two_new (A B C D : Int) (w : World) : Tw w A B C D ((w.alloc (.cells #[.int .i64 A, .int .i64 B, .int .i64 C, .int .i64 D] 25)).alloc (.cells #[.int .i64 0, .int .i64 0, .int .i64 0, .slice none 0 0, .slice none 0 0, .slice none 0 0] 34)) := by
  have h1 : Below w.heap.size w (w.alloc (.cells #[.int .i64 A, .int .i64 B, .int .i64 C, .int .i64 D] 25)) := (Below.refl w.heap.size w).alloc (Nat.le_refl _) _
  refine ⟨kept (heap_alloc_new w _) ((Below.refl _ _).alloc (Nat.le_refl _) _), ?_, h1.alloc h1.size _⟩
  have := heap_alloc_new (w.alloc (.cells #[.int .i64 A, .int .i64 B, .int .i64 C, .int .i64 D] 25)) (.cells #[.int .i64 0, .int .i64 0, .int .i64 0, .slice none 0 0, .slice none 0 0, .slice none 0 0] 34)
  simpa using this
set_option maxHeartbeats 1000000 in
theorem f9 (A B C D : Int) (w : World) : Calls Try.prog 9 #[cf A B C D] w fun e w' => e = .returned (st (ns A B C D).1 (ns A B C D).2.1 (ns A B C D).2.2) ∧ Below w.heap.size w w' := by
  have HX := hid (two_new A B C D w)
  go_enter Try.func9, Try.ntmps9
  go_wp2_with fail
  obtain ⟨x2, hx2⟩ : ∃ x, x = (w.alloc (.cells #[.int .i64 A, .int .i64 B, .int .i64 C, .int .i64 D] 25)).alloc (.cells #[.int .i64 0, .int .i64 0, .int .i64 0, .slice none 0 0, .slice none 0 0, .slice none 0 0] 34) := ⟨_, rfl⟩
  rw [← hx2] at HX ⊢
  clear hx2
  refine (f7 A B C D _).mono ?_
  rintro e x3 ⟨rfl, hb⟩
  have HX3 := hid (HX.out.below hb)
  clear hb HX
  obtain ⟨c0, c1, c2, c3⟩ := four HX3.out.one
  obtain ⟨d0, d1, d2, d3, d4, d5⟩ := six HX3.out.two
  obtain ⟨g0, g1, g2, g3, g4, g5⟩ := six_free HX3.out.two
  by_cases h : OkC A B C D
  · have HE := hid (ns_yes h)
    rw [decide_eq_true h]
    clear h
    go_wp2_with fail
    refine (f18 A B _).mono ?_
    rw [HE.out]
    rintro e x4 ⟨rfl, hb⟩
    have HX4 := hid (HX3.out.below hb)
    clear hb HX3 HE c0 c1 c2 c3 d0 d1 d2 d3 d4 d5 g0 g1 g2 g3 g4 g5
    obtain ⟨X, hX⟩ : ∃ X, X = (ns A B C D).1 := ⟨_, rfl⟩
    obtain ⟨Y, hY⟩ : ∃ X, X = (ns A B C D).2.1 := ⟨_, rfl⟩
    obtain ⟨Z, hZ⟩ : ∃ X, X = (ns A B C D).2.2 := ⟨_, rfl⟩
    have EQ := hid (And.intro hX (And.intro hY hZ))
    rw [← hX, ← hY, ← hZ]
    clear hX hY hZ
    obtain ⟨d0, d1, d2, d3, d4, d5⟩ := six HX4.out.two
    obtain ⟨g0, g1, g2, g3, g4, g5⟩ := six_free HX4.out.two
    have HP := hid (put6_at (X := X) (Y := Y) (Z := Z) HX4.out.two (Nat.le_succ _) HX4.out.bel)
    go_wp2
    rw [put6] at HP
    generalize hwf : World.setCell _ _ _ = wf
    rw [hwf] at HP
    clear hwf
    refine bodyPost_ret (v := st X Y Z) ?_ rfl ⟨by rw [← EQ.out.1, ← EQ.out.2.1, ← EQ.out.2.2], HP.out.2⟩
    obtain ⟨d0, d1, d2, d3, d4, d5⟩ := six HP.out.1
    simp [results, Try.results9, go_sem, d0, d1, d2, d3, d4, d5]
  · have HE := hid (ns_no h)
    rw [decide_eq_false h]
    clear h
    have HP := hid (put6_at (X := 0) (Y := 0) (Z := 0) HX3.out.two (Nat.le_succ _) HX3.out.bel)
    go_wp2
    rw [HE.out]
    rw [put6] at HP
    generalize hwf : World.setCell _ _ _ = wf
    rw [hwf] at HP
    clear hwf
    refine bodyPost_ret (v := st 0 0 0) ?_ rfl ⟨rfl, HP.out.2⟩
    obtain ⟨d0, d1, d2, d3, d4, d5⟩ := six HP.out.1
    simp [results, Try.results9, go_sem, d0, d1, d2, d3, d4, d5]
set_option maxHeartbeats 1000000 in
theorem f8 (A B C D : Int) (w : World) : Calls Try.prog 8 #[cf A B C D] w fun e w' => e = .returned (st (ns A B C D).1 (ns A B C D).2.1 (ns A B C D).2.2) ∧ Below w.heap.size w w' := by
  have HX := hid (two_new A B C D w)
  go_enter Try.func8, Try.ntmps8
  go_wp2_with fail
  obtain ⟨x2, hx2⟩ : ∃ x, x = (w.alloc (.cells #[.int .i64 A, .int .i64 B, .int .i64 C, .int .i64 D] 25)).alloc (.cells #[.int .i64 0, .int .i64 0, .int .i64 0, .slice none 0 0, .slice none 0 0, .slice none 0 0] 34) := ⟨_, rfl⟩
  rw [← hx2] at HX ⊢
  clear hx2
  refine (f5 A B C D _).mono ?_
  rintro e x3 ⟨rfl, hb⟩
  have HX3 := hid (HX.out.below hb)
  clear hb HX
  obtain ⟨c0, c1, c2, c3⟩ := four HX3.out.one
  obtain ⟨d0, d1, d2, d3, d4, d5⟩ := six HX3.out.two
  obtain ⟨g0, g1, g2, g3, g4, g5⟩ := six_free HX3.out.two
  by_cases h : OkC A B C D
  · have HE := hid (ns_yes h)
    rw [decide_eq_true h]
    clear h
    go_wp2_with fail
    refine (f17 A B _).mono ?_
    rw [HE.out]
    rintro e x4 ⟨rfl, hb⟩
    have HX4 := hid (HX3.out.below hb)
    clear hb HX3 HE c0 c1 c2 c3 d0 d1 d2 d3 d4 d5 g0 g1 g2 g3 g4 g5
    obtain ⟨X, hX⟩ : ∃ X, X = (ns A B C D).1 := ⟨_, rfl⟩
    obtain ⟨Y, hY⟩ : ∃ X, X = (ns A B C D).2.1 := ⟨_, rfl⟩
    obtain ⟨Z, hZ⟩ : ∃ X, X = (ns A B C D).2.2 := ⟨_, rfl⟩
    have EQ := hid (And.intro hX (And.intro hY hZ))
    rw [← hX, ← hY, ← hZ]
    clear hX hY hZ
    obtain ⟨d0, d1, d2, d3, d4, d5⟩ := six HX4.out.two
    obtain ⟨g0, g1, g2, g3, g4, g5⟩ := six_free HX4.out.two
    have HP := hid (put6_at (X := X) (Y := Y) (Z := Z) HX4.out.two (Nat.le_succ _) HX4.out.bel)
    go_wp2
    rw [put6] at HP
    generalize hwf : World.setCell _ _ _ = wf
    rw [hwf] at HP
    clear hwf
    refine bodyPost_ret (v := st X Y Z) ?_ rfl ⟨by rw [← EQ.out.1, ← EQ.out.2.1, ← EQ.out.2.2], HP.out.2⟩
    obtain ⟨d0, d1, d2, d3, d4, d5⟩ := six HP.out.1
    simp [results, Try.results8, go_sem, d0, d1, d2, d3, d4, d5]
  · have HE := hid (ns_no h)
    rw [decide_eq_false h]
    clear h
    have HP := hid (put6_at (X := 0) (Y := 0) (Z := 0) HX3.out.two (Nat.le_succ _) HX3.out.bel)
    go_wp2
    rw [HE.out]
    rw [put6] at HP
    generalize hwf : World.setCell _ _ _ = wf
    rw [hwf] at HP
    clear hwf
    refine bodyPost_ret (v := st 0 0 0) ?_ rfl ⟨rfl, HP.out.2⟩
    obtain ⟨d0, d1, d2, d3, d4, d5⟩ := six HP.out.1
    simp [results, Try.results8, go_sem, d0, d1, d2, d3, d4, d5]
theorem f20n (w : World) : Calls Try.prog 20 #[.slice none 0 0, .slice none 0 0] w fun e w' => e = .returned (.bool true) ∧ w' = w := by
  go_enter Try.func20, Try.ntmps20
  go_wp2
  go_loopw [5] (fun i wr => i = .int .i64 0 ∧ wr = w) (fun _ _ => 0)
  case atStart => exact ⟨rfl, rfl⟩
  case round =>
    obtain ⟨rfl, rfl⟩ := hrel
    go_wp2
    go_ret
    exact ⟨rfl, rfl⟩
theorem f23n (k : Nat) (w : World) : Calls Try.prog 23 #[.slice none 0 0, .int .i64 k] w fun e w' => e = .returned (.int .i64 k) ∧ w' = w := by
  go_enter Try.func23, Try.ntmps23
  go_wp2
  go_loopw [1, 5] (fun s i wr => s = .int .i64 k ∧ i = .int .i64 0 ∧ wr = w) (fun _ _ _ => 0)
  case atStart => exact ⟨rfl, rfl, rfl⟩
  case round =>
    obtain ⟨rfl, rfl, rfl⟩ := hrel
    go_wp2
    go_ret
    exact ⟨rfl, rfl⟩
theorem f26n (k : Nat) (w : World) : Calls Try.prog 26 #[.slice none 0 0, .int .i64 k] w fun e w' => e = .returned (.int .i64 k) ∧ w' = w := by
  go_enter Try.func26, Try.ntmps26
  go_wp2
  go_loopw [1, 5] (fun s i wr => s = .int .i64 k ∧ i = .int .i64 0 ∧ wr = w) (fun _ _ _ => 0)
  case atStart => exact ⟨rfl, rfl, rfl⟩
  case round =>
    obtain ⟨rfl, rfl, rfl⟩ := hrel
    go_wp2
    go_ret
    exact ⟨rfl, rfl⟩
theorem f21n (w : World) : Calls Try.prog 21 #[.slice none 0 0, .slice none 0 0] w fun e w' => e = .returned (.bool true) ∧ w' = w := by
  go_enter Try.func21, Try.ntmps21
  go_wp2
  go_loopw [5] (fun i wr => i = .int .i64 0 ∧ wr = w) (fun _ _ => 0)
  case atStart => exact ⟨rfl, rfl⟩
  case round =>
    obtain ⟨rfl, rfl⟩ := hrel
    go_wp2
    go_ret
    exact ⟨rfl, rfl⟩
theorem f24n (k : Nat) (w : World) : Calls Try.prog 24 #[.slice none 0 0, .int .i64 k] w fun e w' => e = .returned (.int .i64 k) ∧ w' = w := by
  go_enter Try.func24, Try.ntmps24
  go_wp2
  go_loopw [1, 5] (fun s i wr => s = .int .i64 k ∧ i = .int .i64 0 ∧ wr = w) (fun _ _ _ => 0)
  case atStart => exact ⟨rfl, rfl, rfl⟩
  case round =>
    obtain ⟨rfl, rfl, rfl⟩ := hrel
    go_wp2
    go_ret
    exact ⟨rfl, rfl⟩
theorem f27n (k : Nat) (w : World) : Calls Try.prog 27 #[.slice none 0 0, .int .i64 k] w fun e w' => e = .returned (.int .i64 k) ∧ w' = w := by
  go_enter Try.func27, Try.ntmps27
  go_wp2
  go_loopw [1, 5] (fun s i wr => s = .int .i64 k ∧ i = .int .i64 0 ∧ wr = w) (fun _ _ _ => 0)
  case atStart => exact ⟨rfl, rfl, rfl⟩
  case round =>
    obtain ⟨rfl, rfl, rfl⟩ := hrel
    go_wp2
    go_ret
    exact ⟨rfl, rfl⟩
theorem box6 (w : World) (X Y Z : Int) : (w.alloc (.cells #[.int .i64 X, .int .i64 Y, .int .i64 Z, .slice none 0 0, .slice none 0 0, .slice none 0 0] 34)).heap[w.heap.size]? = some (.cells #[.int .i64 X, .int .i64 Y, .int .i64 Z, .slice none 0 0, .slice none 0 0, .slice none 0 0] 34) ∧ Below w.heap.size w (w.alloc (.cells #[.int .i64 X, .int .i64 Y, .int .i64 Z, .slice none 0 0, .slice none 0 0, .slice none 0 0] 34)) := ⟨heap_alloc_new w _, (Below.refl _ _).alloc (Nat.le_refl _) _⟩
theorem two6 (w : World) (X Y Z : Int) : ((w.alloc (.cells #[.int .i64 X, .int .i64 Y, .int .i64 Z, .slice none 0 0, .slice none 0 0, .slice none 0 0] 34)).alloc (.cells #[.int .i64 X, .int .i64 Y, .int .i64 Z, .slice none 0 0, .slice none 0 0, .slice none 0 0] 34)).heap[w.heap.size]? = some (.cells #[.int .i64 X, .int .i64 Y, .int .i64 Z, .slice none 0 0, .slice none 0 0, .slice none 0 0] 34) ∧ ((w.alloc (.cells #[.int .i64 X, .int .i64 Y, .int .i64 Z, .slice none 0 0, .slice none 0 0, .slice none 0 0] 34)).alloc (.cells #[.int .i64 X, .int .i64 Y, .int .i64 Z, .slice none 0 0, .slice none 0 0, .slice none 0 0] 34)).heap[w.heap.size + 1]? = some (.cells #[.int .i64 X, .int .i64 Y, .int .i64 Z, .slice none 0 0, .slice none 0 0, .slice none 0 0] 34) ∧ Below w.heap.size w ((w.alloc (.cells #[.int .i64 X, .int .i64 Y, .int .i64 Z, .slice none 0 0, .slice none 0 0, .slice none 0 0] 34)).alloc (.cells #[.int .i64 X, .int .i64 Y, .int .i64 Z, .slice none 0 0, .slice none 0 0, .slice none 0 0] 34)) := by
  have h1 : Below w.heap.size w (w.alloc (.cells #[.int .i64 X, .int .i64 Y, .int .i64 Z, .slice none 0 0, .slice none 0 0, .slice none 0 0] 34)) := (Below.refl w.heap.size w).alloc (Nat.le_refl _) _
  refine ⟨kept (heap_alloc_new w _) ((Below.refl _ _).alloc (Nat.le_refl _) _), ?_, h1.alloc h1.size _⟩
  have := heap_alloc_new (w.alloc (.cells #[.int .i64 X, .int .i64 Y, .int .i64 Z, .slice none 0 0, .slice none 0 0, .slice none 0 0] 34)) (.cells #[.int .i64 X, .int .i64 Y, .int .i64 Z, .slice none 0 0, .slice none 0 0, .slice none 0 0] 34)
  simpa using this
set_option maxHeartbeats 1000000 in
theorem f10n (X Y Z : Int) (w : World) : Calls Try.prog 10 #[st X Y Z, st X Y Z] w fun e w' => e = .returned (.bool true) ∧ Below w.heap.size w w' := by
  have HX := hid (two6 w X Y Z)
  go_enter Try.func10, Try.ntmps10
  go_wp2_with fail
  obtain ⟨x2, hx2⟩ : ∃ x, x = (w.alloc (.cells #[.int .i64 X, .int .i64 Y, .int .i64 Z, .slice none 0 0, .slice none 0 0, .slice none 0 0] 34)).alloc (.cells #[.int .i64 X, .int .i64 Y, .int .i64 Z, .slice none 0 0, .slice none 0 0, .slice none 0 0] 34) := ⟨_, rfl⟩
  rw [← hx2] at HX ⊢
  clear hx2
  refine (f19n X Y Z _).mono ?_
  rintro e x3 ⟨rfl, hb⟩
  have HX3 : Hid (x3.heap[w.heap.size]? = some (.cells #[.int .i64 X, .int .i64 Y, .int .i64 Z, .slice none 0 0, .slice none 0 0, .slice none 0 0] 34) ∧ x3.heap[w.heap.size + 1]? = some (.cells #[.int .i64 X, .int .i64 Y, .int .i64 Z, .slice none 0 0, .slice none 0 0, .slice none 0 0] 34) ∧ Below w.heap.size w x3) := ⟨kept HX.out.1 hb, kept HX.out.2.1 hb, HX.out.2.2.trans (hb.mono HX.out.2.2.size)⟩
  clear hb HX
  obtain ⟨d0, d1, d2, d3, d4, d5⟩ := six HX3.out.1
  obtain ⟨c0, c1, c2, c3, c4, c5⟩ := six HX3.out.2.1
  go_wp2_with fail
  refine (f20n _).mono ?_
  rintro e x4 ⟨rfl, hw⟩; subst x4
  go_wp2_with fail
  refine (f21n _).mono ?_
  rintro e x4 ⟨rfl, hw⟩; subst x4
  go_wp2
  go_ret
  exact ⟨rfl, HX3.out.2.2⟩
set_option maxHeartbeats 1000000 in
theorem f11n (X Y Z : Int) (k : Nat) (w : World) : Calls Try.prog 11 #[st X Y Z, .int .i64 k] w fun e w' => e = .returned (.int .i64 k) ∧ Below w.heap.size w w' := by
  have HX := hid (box6 w X Y Z)
  go_enter Try.func11, Try.ntmps11
  go_wp2_with fail
  obtain ⟨x2, hx2⟩ : ∃ x, x = w.alloc (.cells #[.int .i64 X, .int .i64 Y, .int .i64 Z, .slice none 0 0, .slice none 0 0, .slice none 0 0] 34) := ⟨_, rfl⟩
  rw [← hx2] at HX ⊢
  clear hx2
  refine (f22n X Y Z k _).mono ?_
  rintro e x3 ⟨rfl, hb⟩
  have HX3 : Hid (x3.heap[w.heap.size]? = some (.cells #[.int .i64 X, .int .i64 Y, .int .i64 Z, .slice none 0 0, .slice none 0 0, .slice none 0 0] 34) ∧ Below w.heap.size w x3) := ⟨kept HX.out.1 hb, HX.out.2.trans (hb.mono HX.out.2.size)⟩
  clear hb HX
  obtain ⟨d0, d1, d2, d3, d4, d5⟩ := six HX3.out.1
  go_wp2_with fail
  refine (f23n k _).mono ?_
  rintro e x4 ⟨rfl, hw⟩; subst x4
  go_wp2_with fail
  refine (f24n k _).mono ?_
  rintro e x4 ⟨rfl, hw⟩; subst x4
  go_wp2
  go_ret
  exact ⟨rfl, HX3.out.2⟩
set_option maxHeartbeats 1000000 in
theorem f12n (X Y Z : Int) (k : Nat) (w : World) : Calls Try.prog 12 #[st X Y Z, .int .i64 k] w fun e w' => e = .returned (.int .i64 k) ∧ Below w.heap.size w w' := by
  have HX := hid (box6 w X Y Z)
  go_enter Try.func12, Try.ntmps12
  go_wp2_with fail
  obtain ⟨x2, hx2⟩ : ∃ x, x = w.alloc (.cells #[.int .i64 X, .int .i64 Y, .int .i64 Z, .slice none 0 0, .slice none 0 0, .slice none 0 0] 34) := ⟨_, rfl⟩
  rw [← hx2] at HX ⊢
  clear hx2
  refine (f25n X Y Z k _).mono ?_
  rintro e x3 ⟨rfl, hb⟩
  have HX3 : Hid (x3.heap[w.heap.size]? = some (.cells #[.int .i64 X, .int .i64 Y, .int .i64 Z, .slice none 0 0, .slice none 0 0, .slice none 0 0] 34) ∧ Below w.heap.size w x3) := ⟨kept HX.out.1 hb, HX.out.2.trans (hb.mono HX.out.2.size)⟩
  clear hb HX
  obtain ⟨d0, d1, d2, d3, d4, d5⟩ := six HX3.out.1
  go_wp2_with fail
  refine (f26n k _).mono ?_
  rintro e x4 ⟨rfl, hw⟩; subst x4
  go_wp2_with fail
  refine (f27n k _).mono ?_
  rintro e x4 ⟨rfl, hw⟩; subst x4
  go_wp2
  go_ret
  exact ⟨rfl, HX3.out.2⟩
/-- The law's configuration, the model's store, the program's store, each in its box. -/
structure Bs3 (w : World) (A B C D X Y Z : Int) (b1 b2 : Nat) (x : World) : Prop where
  cf : x.heap[w.heap.size]? = some (.cells #[.int .i64 A, .int .i64 B, .int .i64 C, .int .i64 D] 23)
  one : x.heap[b1]? = some (.cells #[.int .i64 X, .int .i64 Y, .int .i64 Z, .slice none 0 0, .slice none 0 0, .slice none 0 0] 34)
  two : x.heap[b2]? = some (.cells #[.int .i64 X, .int .i64 Y, .int .i64 Z, .slice none 0 0, .slice none 0 0, .slice none 0 0] 34)
  bel : Below w.heap.size w x
theorem Bs3.below {w : World} {A B C D X Y Z : Int} {b1 b2 : Nat} {x y : World} (h : Bs3 w A B C D X Y Z b1 b2 x) (hb : Below x.heap.size x y) : Bs3 w A B C D X Y Z b1 b2 y := ⟨kept h.cf hb, kept h.one hb, kept h.two hb, h.bel.trans (hb.mono h.bel.size)⟩
structure Bs1 (w : World) (A B C D : Int) (x : World) : Prop where
  cf : x.heap[w.heap.size]? = some (.cells #[.int .i64 A, .int .i64 B, .int .i64 C, .int .i64 D] 23)
  bel : Below w.heap.size w x
theorem Bs1.below {w : World} {A B C D : Int} {x y : World} (h : Bs1 w A B C D x) (hb : Below x.heap.size x y) : Bs1 w A B C D y := ⟨kept h.cf hb, h.bel.trans (hb.mono h.bel.size)⟩
theorem Bs1.new (w : World) (A B C D : Int) : Bs1 w A B C D (w.alloc (.cells #[.int .i64 A, .int .i64 B, .int .i64 C, .int .i64 D] 23)) := ⟨heap_alloc_new w _, (Below.refl _ _).alloc (Nat.le_refl _) _⟩
structure Bs2 (w : World) (A B C D X Y Z : Int) (b1 : Nat) (x : World) : Prop where
  cf : x.heap[w.heap.size]? = some (.cells #[.int .i64 A, .int .i64 B, .int .i64 C, .int .i64 D] 23)
  one : x.heap[b1]? = some (.cells #[.int .i64 X, .int .i64 Y, .int .i64 Z, .slice none 0 0, .slice none 0 0, .slice none 0 0] 34)
  bel : Below w.heap.size w x
theorem Bs2.below {w : World} {A B C D X Y Z : Int} {b1 : Nat} {x y : World} (h : Bs2 w A B C D X Y Z b1 x) (hb : Below x.heap.size x y) : Bs2 w A B C D X Y Z b1 y := ⟨kept h.cf hb, kept h.one hb, h.bel.trans (hb.mono h.bel.size)⟩
set_option maxHeartbeats 2000000 in
theorem walkNew (A B C D : Int) (w : World) : Calls Try.prog 4 #[cf A B C D] w fun e w' => e = .returned (.bool true) ∧ Below w.heap.size w w' := by
  have HS := fun x => hid (f8 A B C D x)
  have HI := fun x => hid (f9 A B C D x)
  generalize (ns A B C D).1 = X at *
  generalize (ns A B C D).2.1 = Y at *
  generalize (ns A B C D).2.2 = Z at *
  have HX := hid (Bs1.new w A B C D)
  go_enter Try.func4, Try.ntmps4
  go_wp2_with fail
  generalize w.alloc _ = x1 at HX ⊢
  refine (f6 A B C D _).mono ?_
  rintro e x2 ⟨rfl, hb⟩
  have HX2 := hid (HX.out.below hb)
  clear hb HX
  go_wp2_with fail
  refine (HS _).out.mono ?_
  rintro e x3 ⟨rfl, hb⟩
  have HX3 := hid (HX2.out.below hb)
  clear hb HX2
  have HX4 : Hid (Bs2 w A B C D X Y Z x3.heap.size (x3.alloc (.cells #[.int .i64 X, .int .i64 Y, .int .i64 Z, .slice none 0 0, .slice none 0 0, .slice none 0 0] 34))) := ⟨kept HX3.out.cf (box6 x3 X Y Z).2, (box6 x3 X Y Z).1, (HX3.out.below (box6 x3 X Y Z).2).bel⟩
  clear HX3
  obtain ⟨c0, c1, c2, c3⟩ := four HX4.out.cf
  go_wp2_with fail
  generalize x3.heap.size = b1 at *
  generalize x3.alloc _ = x4 at *
  refine (f6 A B C D _).mono ?_
  rintro e x5 ⟨rfl, hb⟩
  have HX5 := hid (HX4.out.below hb)
  clear hb HX4 c0 c1 c2 c3
  go_wp2_with fail
  refine (HI _).out.mono ?_
  rintro e x6 ⟨rfl, hb⟩
  have HX6 := hid (HX5.out.below hb)
  clear hb HX5
  have HX7 : Hid (Bs3 w A B C D X Y Z b1 x6.heap.size (x6.alloc (.cells #[.int .i64 X, .int .i64 Y, .int .i64 Z, .slice none 0 0, .slice none 0 0, .slice none 0 0] 34))) := ⟨kept HX6.out.cf (box6 x6 X Y Z).2, kept HX6.out.one (box6 x6 X Y Z).2, (box6 x6 X Y Z).1, (HX6.out.below (box6 x6 X Y Z).2).bel⟩
  clear HX6
  obtain ⟨d0, d1, d2, d3, d4, d5⟩ := six HX7.out.one
  go_wp2_with fail
  generalize x6.heap.size = b2 at *
  generalize x6.alloc _ = x7 at *
  refine (f10n X Y Z _).mono ?_
  rintro e x8 ⟨rfl, hb⟩
  have HX8 := hid (HX7.out.below hb)
  clear hb HX7 d0 d1 d2 d3 d4 d5
  obtain ⟨e0, e1, e2, e3, e4, e5⟩ := six HX8.out.two
  go_wp2_with fail
  refine (f11n X Y Z 1 _).mono ?_
  rintro e x9 ⟨rfl, hb⟩
  have HX9 := hid (HX8.out.below hb)
  clear hb HX8 e0 e1 e2 e3 e4 e5
  obtain ⟨e0, e1, e2, e3, e4, e5⟩ := six HX9.out.two
  go_wp2_with fail
  refine (f12n X Y Z 1 _).mono ?_
  rintro e x10 ⟨rfl, hb⟩
  have HX10 := hid (HX9.out.below hb)
  clear hb HX9 e0 e1 e2 e3 e4 e5
  obtain ⟨c0, c1, c2, c3⟩ := four HX10.out.cf
  go_wp2_with fail
  refine (f6 A B C D _).mono ?_
  rintro e x11 ⟨rfl, hb⟩
  have HX11 := hid (HX10.out.below hb)
  clear hb HX10 c0 c1 c2 c3
  go_wp2_with fail
  refine (HI _).out.mono ?_
  rintro e x12 ⟨rfl, hb⟩
  have HX12 := hid (HX11.out.below hb)
  clear hb HX11
  have HX13 : Hid (Bs3 w A B C D X Y Z b1 b2 (x12.alloc (.cells #[.int .i64 X, .int .i64 Y, .int .i64 Z, .slice none 0 0, .slice none 0 0, .slice none 0 0] 34))) := HX12.out.below (box6 x12 X Y Z).2
  clear HX12
  obtain ⟨d0, d1, d2, d3, d4, d5⟩ := six HX13.out.one
  go_wp2_with fail
  generalize x12.alloc _ = x13 at *
  refine (f10n X Y Z _).mono ?_
  rintro e x14 ⟨rfl, hb⟩
  have HX14 := hid (HX13.out.below hb)
  clear hb HX13 d0 d1 d2 d3 d4 d5
  obtain ⟨e0, e1, e2, e3, e4, e5⟩ := six HX14.out.two
  go_wp2_with fail
  refine (f12n X Y Z 1 _).mono ?_
  rintro e x15 ⟨rfl, hb⟩
  have HX15 := hid (HX14.out.below hb)
  clear hb HX14 e0 e1 e2 e3 e4 e5
  go_wp2
  go_ret
  exact ⟨rfl, HX15.out.bel⟩
end Go.Proofs.Ytbebpekckioffaa.Cfs
