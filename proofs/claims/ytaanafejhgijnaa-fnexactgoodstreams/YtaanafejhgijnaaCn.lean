/- What compareLabel, compareLists and both CompareLabels come to. -/
import Derived.Test.YtaanafejhgijnaaCm
import Derived.Deep.RegionHeld3
namespace Go.Proofs.Ytaanafejhgijnaa.Lab
open Go.RowKit Go.Proofs.Ytaanafejhgijnaa.Str

theorem two0 {w : World} {b : Nat} {u v : Value} {t : TypeId} (h : w.heap[b]? = some (.cells #[u, v] t (0, 0))) : w.cell? ⟨b, 0, none⟩ = some u := by simp [World.cell?, h]
theorem two1 {w : World} {b : Nat} {u v : Value} {t : TypeId} (h : w.heap[b]? = some (.cells #[u, v] t (0, 0))) : w.cell? ⟨b, 1, none⟩ = some v := by simp [World.cell?, h]
theorem lt_block {w : World} {k : Nat} {o : Obj} (h : w.heap[k]? = some o) : k < w.heap.size := (Array.getElem?_eq_some_iff.1 h).1
theorem box_below {w w' : World} {k : Nat} {o : Obj} (h : w.heap[k]? = some o) (hb : Below w.heap.size w w') : w'.heap[k]? = some o := (hb.block k (lt_block h)).trans h
theorem box_alloc {w : World} {k : Nat} {o : Obj} (h : w.heap[k]? = some o) (u : Obj) : (w.alloc u).heap[k]? = some o := (Below.heap_alloc w u k (lt_block h)).trans h

/-- Two labels in their boxes. -/
abbrev SS (w : World) (p q : Lb) (w' : World) : Prop :=
  w'.cell? ⟨w.heap.size, 0, none⟩ = some (.string p.1) ∧ w'.cell? ⟨w.heap.size, 1, none⟩ = some (.string p.2) ∧ w'.cell? ⟨w.heap.size + 1, 0, none⟩ = some (.string q.1) ∧ w'.cell? ⟨w.heap.size + 1, 1, none⟩ = some (.string q.2) ∧ Below w.heap.size w w'
theorem SS.below {w W W' : World} {p q : Lb} (h : SS w p q W) (hb : Below W.heap.size W W') : SS w p q W' := by
  obtain ⟨h1, h2, h3, h4, h5⟩ := h
  have l := World.block_lt_of_cell? W _ h4
  have l0 : w.heap.size < W.heap.size := by simp at l; omega
  exact ⟨(hb.cell (p := ⟨w.heap.size, 0, none⟩) l0).trans h1, (hb.cell (p := ⟨w.heap.size, 1, none⟩) l0).trans h2, (hb.cell (p := ⟨w.heap.size + 1, 0, none⟩) l).trans h3, (hb.cell (p := ⟨w.heap.size + 1, 1, none⟩) l).trans h4, h5.trans (hb.mono h5.size)⟩
theorem SS.alloc {w W : World} {p q : Lb} (h : SS w p q W) (o : Obj) : SS w p q (W.alloc o) := h.below ((Below.refl _ _).alloc (Nat.le_refl _) o)
theorem SS.drew {w W : World} {p q : Lb} (h : SS w p q W) : SS w p q W.drew := ⟨h.1, h.2.1, h.2.2.1, h.2.2.2.1, h.2.2.2.2.drew⟩
theorem SS.new (w : World) (p q : Lb) : SS w p q ((w.alloc (.cells #[.string p.1, .string p.2] 52)).alloc (.cells #[.string q.1, .string q.2] 52)) := by
  have A1 := box_alloc (heap_alloc_new w (.cells #[.string p.1, .string p.2] 52)) (.cells #[.string q.1, .string q.2] 52)
  have B1 := heap_alloc_new (w.alloc (.cells #[.string p.1, .string p.2] 52)) (.cells #[.string q.1, .string q.2] 52)
  simp only [World.size_alloc] at B1
  exact ⟨two0 A1, two1 A1, two0 B1, two1 B1, ((Below.refl w.heap.size w).alloc (Nat.le_refl _) _).alloc (by simp) _⟩

set_option maxHeartbeats 2000000 in
theorem f49 (p q : Lb) (w : World) : Calls Try.prog 49 #[.agg #[.string p.1, .string p.2], .agg #[.string q.1, .string q.2]] w fun e w' => e = .returned (.int .i64 (cmpL p q)) ∧ Below w.heap.size w w' := by
  have HS := hid (SS.new w p q)
  go_enter Try.func49, Try.ntmps49
  go_wp2_with fail
  go_region_held3 (fun w' => SS w p q w') (first | exact HS.out.drew | assumption | exact SS.alloc (by assumption) _) (first | (go_at_call 32; refine (f32 p q _).mono ?_; rintro e w2 ⟨rfl, hb2⟩; have hs2 := SS.below (by assumption) hb2; clear hb2) | (go_at_call 47; refine (f47 _ _ _).mono ?_; rintro e w' ⟨rfl, rfl⟩) | (go_at_call 55; refine (f55 _ (cmpN p q) (cmpV p q) _ ?_ ?_).mono ?_; (exact two0 (heap_alloc_new _ _)); (exact two1 (heap_alloc_new _ _)); rintro e w' ⟨rfl, rfl⟩))
  go_wp2
  go_ret
  exact ⟨rfl, (SS.alloc hs2 _).2.2.2.2⟩

set_option maxHeartbeats 2000000 in
theorem f48 (a a' : Option Addr) (n n' c c' : Nat) (la lb : List Lb) (w : World) (hn : la.length = n) (hn' : lb.length = n') (hb : n ≤ 1048576) (hb' : n' ≤ 1048576) (hr : HasL w a la) (hr' : HasL w a' lb) :
    Calls Try.prog 48 #[.slice a n c, .slice a' n' c', .func (.func 49) #[] #[]] w fun e w' => e = .returned (.int .i64 (cmpList la lb)) ∧ Below w.heap.size w w' := by
  have HN := hid hn
  have HN' := hid hn'
  clear hn hn'
  by_cases hnn : n ≤ n'
  · go_enter Try.func48, Try.ntmps48
    go_wp2
    go_loopw [14] (fun i wr => ∃ (k : Nat), k ≤ n ∧ i = .int .i64 k ∧ Hid (∀ i, i < k → cmpL (la.getD i e0) (lb.getD i e0) = 0) ∧ Below w.heap.size w wr) (fun i _ => n - (intOf i).toNat)
    case atStart => exact ⟨0, Nat.zero_le _, rfl, fun i hi => by omega, Below.refl _ _⟩
    case round =>
      obtain ⟨k, hk, rfl, hu, hnx⟩ := hrel
      have HX := hid hnx
      by_cases h1 : k < n
      · rcases hr with hr | ⟨b, off, rfl, hbl, hc⟩
        · exact absurd HN.out (by rw [hr]; simp; omega)
        rcases hr' with hr | ⟨b', off', rfl, hbl', hc'⟩
        · exact absurd HN'.out (by rw [hr]; simp; omega)
        obtain ⟨c0, c1⟩ := hc k (by rw [HN.out]; omega)
        obtain ⟨c0', c1'⟩ := hc' k (by rw [HN'.out]; omega)
        have i1 : (k : Int) < (n : Int) := by omega
        have i2 : (k : Int) < (n' : Int) := by omega
        have HAt := hid (lst_at k la lb (by rw [HN.out]; omega) (by rw [HN'.out]; omega) hu.out)
        have HUs : Hid (cmpL (la.getD k e0) (lb.getD k e0) = 0 → ∀ i, i < k + 1 → cmpL (la.getD i e0) (lb.getD i e0) = 0) := by
          intro h i hi
          by_cases e : i = k
          · subst e; exact h
          · exact hu.out i (by omega)
        have d0 := (hnx.cell (p := ⟨b, off + k * 2, none⟩) hbl).trans c0
        have d1 := (hnx.cell (p := ⟨b, off + k * 2 + 1, none⟩) hbl).trans c1
        have d0' := (hnx.cell (p := ⟨b', off' + k * 2, none⟩) hbl').trans c0'
        have d1' := (hnx.cell (p := ⟨b', off' + k * 2 + 1, none⟩) hbl').trans c1'
        clear hc hc' c0 c1 c0' c1' hnx
        generalize la.getD k e0 = p at *
        generalize lb.getD k e0 = r at *
        by_cases z1 : cmpL p r = 0
        · have HZ := hid z1
          have y1 : (cmpL p r != 0) = false := by simpa using z1
          clear z1
          go_wp2_with fail
          go_region_with (go_at_call 49; refine (f49 p r _).mono ?_; rintro e w2 ⟨rfl, hb2⟩)
          all_goals
            have HX2 := hid (HX.out.trans ((below_undrew hb2).mono HX.out.size))
            clear hb2
            go_wp2
            go_roundw
            case rel => exact ⟨k + 1, by omega, by go_num, HUs.out HZ.out, HX2.out⟩
            case measure => simp [intOf]; omega
        · have HZ := hid z1
          have y1 : (cmpL p r != 0) = true := by simpa using z1
          clear z1
          go_wp2_with fail
          go_region_with (go_at_call 49; refine (f49 p r _).mono ?_; rintro e w2 ⟨rfl, hb2⟩)
          all_goals
            have HX2 := hid (HX.out.trans ((below_undrew hb2).mono HX.out.size))
            clear hb2
            go_wp2
            go_ret
            exact ⟨ret_int (HAt.out HZ.out).symm, HX2.out⟩
      · have HE : Hid (cmpList la lb = numC n n') := by
          have := lst_end k la lb hu.out (by rw [HN.out]; omega) (by rw [HN'.out]; omega) (by rw [HN.out, HN'.out]; omega)
          rw [HN.out, HN'.out] at this; exact this
        go_wp2_with (go_at_call 54; refine (f54 _ _ _).mono ?_; rintro e w' ⟨rfl, rfl⟩)
        go_ret
        exact ⟨ret_int HE.out.symm, HX.out⟩
  · go_enter Try.func48, Try.ntmps48
    go_wp2
    go_loopw [14] (fun i wr => ∃ (k : Nat), k ≤ n' ∧ i = .int .i64 k ∧ Hid (∀ i, i < k → cmpL (la.getD i e0) (lb.getD i e0) = 0) ∧ Below w.heap.size w wr) (fun i _ => n' - (intOf i).toNat)
    case atStart => exact ⟨0, Nat.zero_le _, rfl, fun i hi => by omega, Below.refl _ _⟩
    case round =>
      obtain ⟨k, hk, rfl, hu, hnx⟩ := hrel
      have HX := hid hnx
      by_cases h1 : k < n'
      · rcases hr with hr | ⟨b, off, rfl, hbl, hc⟩
        · exact absurd HN.out (by rw [hr]; simp; omega)
        rcases hr' with hr | ⟨b', off', rfl, hbl', hc'⟩
        · exact absurd HN'.out (by rw [hr]; simp; omega)
        obtain ⟨c0, c1⟩ := hc k (by rw [HN.out]; omega)
        obtain ⟨c0', c1'⟩ := hc' k (by rw [HN'.out]; omega)
        have i1 : (k : Int) < (n : Int) := by omega
        have i2 : (k : Int) < (n' : Int) := by omega
        have HAt := hid (lst_at k la lb (by rw [HN.out]; omega) (by rw [HN'.out]; omega) hu.out)
        have HUs : Hid (cmpL (la.getD k e0) (lb.getD k e0) = 0 → ∀ i, i < k + 1 → cmpL (la.getD i e0) (lb.getD i e0) = 0) := by
          intro h i hi
          by_cases e : i = k
          · subst e; exact h
          · exact hu.out i (by omega)
        have d0 := (hnx.cell (p := ⟨b, off + k * 2, none⟩) hbl).trans c0
        have d1 := (hnx.cell (p := ⟨b, off + k * 2 + 1, none⟩) hbl).trans c1
        have d0' := (hnx.cell (p := ⟨b', off' + k * 2, none⟩) hbl').trans c0'
        have d1' := (hnx.cell (p := ⟨b', off' + k * 2 + 1, none⟩) hbl').trans c1'
        clear hc hc' c0 c1 c0' c1' hnx
        generalize la.getD k e0 = p at *
        generalize lb.getD k e0 = r at *
        by_cases z1 : cmpL p r = 0
        · have HZ := hid z1
          have y1 : (cmpL p r != 0) = false := by simpa using z1
          clear z1
          go_wp2_with fail
          go_region_with (go_at_call 49; refine (f49 p r _).mono ?_; rintro e w2 ⟨rfl, hb2⟩)
          all_goals
            have HX2 := hid (HX.out.trans ((below_undrew hb2).mono HX.out.size))
            clear hb2
            go_wp2
            go_roundw
            case rel => exact ⟨k + 1, by omega, by go_num, HUs.out HZ.out, HX2.out⟩
            case measure => simp [intOf]; omega
        · have HZ := hid z1
          have y1 : (cmpL p r != 0) = true := by simpa using z1
          clear z1
          go_wp2_with fail
          go_region_with (go_at_call 49; refine (f49 p r _).mono ?_; rintro e w2 ⟨rfl, hb2⟩)
          all_goals
            have HX2 := hid (HX.out.trans ((below_undrew hb2).mono HX.out.size))
            clear hb2
            go_wp2
            go_ret
            exact ⟨ret_int (HAt.out HZ.out).symm, HX2.out⟩
      · have HE : Hid (cmpList la lb = numC n n') := by
          have := lst_end k la lb hu.out (by rw [HN.out]; omega) (by rw [HN'.out]; omega) (by rw [HN.out, HN'.out]; omega)
          rw [HN.out, HN'.out] at this; exact this
        go_wp2_with (go_at_call 54; refine (f54 _ _ _).mono ?_; rintro e w' ⟨rfl, rfl⟩)
        go_ret
        exact ⟨ret_int HE.out.symm, HX.out⟩

noncomputable def cmpR (la lb : List Lb) : Int := if goodL la = true ∧ goodL lb = true then cmpList la lb else -2
theorem cmpR_good {la lb : List Lb} (h1 : goodL la = true) (h2 : goodL lb = true) : cmpR la lb = cmpList la lb := by unfold cmpR; rw [if_pos ⟨h1, h2⟩]
theorem cmpR_no1 {la lb : List Lb} (h1 : goodL la = false) : cmpR la lb = -2 := by unfold cmpR; rw [if_neg (by simp [h1])]
theorem cmpR_no2 {la lb : List Lb} (h1 : goodL lb = false) : cmpR la lb = -2 := by unfold cmpR; rw [if_neg (by simp [h1])]

theorem f35 (a a' : Option Addr) (n n' c c' : Nat) (la lb : List Lb) (w : World) (hn : la.length = n) (hn' : lb.length = n') (hb : n ≤ 1048576) (hb' : n' ≤ 1048576) (hr : HasL w a la) (hr' : HasL w a' lb) :
    Calls Try.prog 35 #[.slice a n c, .slice a' n' c'] w fun e w' => e = .returned (.int .i64 (cmpList la lb)) ∧ Below w.heap.size w w' := by
  have HN := hid hn
  have HN' := hid hn'
  clear hn hn'
  go_enter Try.func35, Try.ntmps35
  go_wp2_with fail
  refine (f48 a a' n n' c c' la lb _ HN.out HN'.out hb hb' hr hr').mono ?_
  rintro e w3 ⟨rfl, hb3⟩
  have HB3 := hid hb3
  go_wp2
  go_ret
  exact ⟨rfl, HB3.out⟩
end Go.Proofs.Ytaanafejhgijnaa.Lab
