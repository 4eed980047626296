/- Lists of labels compared, in the model and in the program. -/
import Derived.Test.YtaekngadfajcaaaGreatRGL
import Derived.Deep.RegionHeld3
namespace Go.Proofs.YtaekngadfajcaaaGreat.Lab
open Go.RowKit Go.Proofs.YtaekngadfajcaaaGreat.Str

def orC (x y : Int) : Int := if x = 0 then y else x
def cmpV (p q : Lb) : Int := Lib.compareBytes p.2.data.toList q.2.data.toList
def cmpL (p q : Lb) : Int := orC (cmpN p q) (cmpV p q)
def cmpList : List Lb → List Lb → Int
  | [], [] => 0
  | [], _ :: _ => -1
  | _ :: _, [] => 1
  | p :: a, q :: b => orC (cmpL p q) (cmpList a b)

theorem lst_at : ∀ (k : Nat) (a b : List Lb), k < a.length → k < b.length → (∀ i, i < k → cmpL (a.getD i e0) (b.getD i e0) = 0) → cmpL (a.getD k e0) (b.getD k e0) ≠ 0 → cmpList a b = cmpL (a.getD k e0) (b.getD k e0) := by
  intro k
  induction k with
  | zero =>
    intro a b ha hb _ hne
    match a, b, ha, hb with
    | x :: a, y :: b, _, _ =>
      simp only [List.getD_cons_zero] at hne ⊢
      unfold cmpList; conv => lhs; unfold orC
      rw [if_neg hne]
  | succ k ih =>
    intro a b ha hb he hne
    match a, b, ha, hb with
    | x :: a, y :: b, ha, hb =>
      have h0 := he 0 (by omega)
      simp only [List.getD_cons_zero] at h0
      simp only [List.getD_cons_succ] at hne ⊢
      rw [← ih a b (by simpa using ha) (by simpa using hb) (fun i hi => by have := he (i + 1) (by omega); simpa using this) hne]
      conv => lhs; unfold cmpList; unfold orC
      rw [if_pos h0]
theorem lst_end : ∀ (k : Nat) (a b : List Lb), (∀ i, i < k → cmpL (a.getD i e0) (b.getD i e0) = 0) → k ≤ a.length → k ≤ b.length → (a.length ≤ k ∨ b.length ≤ k) → cmpList a b = numC a.length b.length := by
  intro k
  induction k with
  | zero =>
    intro a b _ _ _ h
    cases a with
    | nil =>
      cases b with
      | nil => rfl
      | cons y b => unfold cmpList numC; rw [if_pos (by simp)]
    | cons x a =>
      cases b with
      | nil => unfold cmpList numC; rw [if_neg (by simp; omega), if_pos (by simp)]
      | cons y b => simp at h
  | succ k ih =>
    intro a b he ha hb h
    match a, b, ha, hb with
    | x :: a, y :: b, ha, hb =>
      have h0 := he 0 (by omega)
      simp only [List.getD_cons_zero] at h0
      have e := ih a b (fun i hi => by have := he (i + 1) (by omega); simpa using this) (by simpa using ha) (by simpa using hb) (by simpa using h)
      have e2 : numC ((x :: a).length : Nat) ((y :: b).length : Nat) = numC a.length b.length := by
        unfold numC; simp
      rw [e2, ← e]
      conv => lhs; unfold cmpList; unfold orC
      rw [if_pos h0]

theorem f107 (x : Int) (w : World) : Calls Tryz.prog 107 #[.int .i64 x] w fun e w' => e = .returned (.bool false) ∧ w' = w := by
  go_enter Tryz.func107, Tryz.ntmps107
  go_wp2
  go_ret
  exact ⟨rfl, rfl⟩
theorem f101 (x y : Int) (w : World) : Calls Tryz.prog 101 #[.int .i64 x, .int .i64 y] w fun e w' => e = .returned (.int .i64 (numC x y)) ∧ w' = w := by
  by_cases h1 : x < y
  · go_enter Tryz.func101, Tryz.ntmps101
    go_wp2_with (go_at_call 107; refine (f107 _ _).mono ?_; rintro e w' ⟨rfl, rfl⟩)
    go_ret
    exact ⟨ret_int (by unfold numC; rw [if_pos h1]), rfl⟩
  · by_cases h2 : y < x
    · go_enter Tryz.func101, Tryz.ntmps101
      go_wp2_with (go_at_call 107; refine (f107 _ _).mono ?_; rintro e w' ⟨rfl, rfl⟩)
      go_ret
      exact ⟨ret_int (by unfold numC; rw [if_neg (by omega), if_pos h2]), rfl⟩
    · go_enter Tryz.func101, Tryz.ntmps101
      go_wp2_with (go_at_call 107; refine (f107 _ _).mono ?_; rintro e w' ⟨rfl, rfl⟩)
      go_ret
      exact ⟨ret_int (by unfold numC; rw [if_neg (by omega), if_neg (by omega)]), rfl⟩

theorem f102 (g : Nat) (x y : Int) (w : World) (c0 : w.cell? ⟨g, 0, none⟩ = some (.int .i64 x)) (c1 : w.cell? ⟨g, 1, none⟩ = some (.int .i64 y)) :
    Calls Tryz.prog 102 #[.slice (some ⟨g, 0, none⟩) 2 2] w fun e w' => e = .returned (.int .i64 (orC x y)) ∧ w' = w := by
  go_enter Tryz.func102, Tryz.ntmps102
  go_wp2
  go_loop [8] (fun i => ∃ k : Nat, k ≤ 2 ∧ i = .int .i64 k ∧ Hid (0 < k → x = 0) ∧ Hid (1 < k → y = 0)) (fun i => 2 - (intOf i).toNat)
  case atStart => exact ⟨0, by omega, rfl, fun h => by omega, fun h => by omega⟩
  case round =>
    obtain ⟨k, hk, rfl, h1, h2⟩ := hrel
    by_cases hk0 : k = 0
    · subst hk0
      by_cases hx : x = 0
      · have HX := hid hx
        have hx' : (x != 0) = false := by simp [hx]
        clear hx
        go_wp2
        go_round
        case rel => exact ⟨1, by omega, by go_num, fun _ => HX.out, fun h => by omega⟩
        case measure => simp [intOf]
      · have HX := hid hx
        have hx' : (x != 0) = true := by simp [hx]
        clear hx
        go_wp2
        go_ret
        exact ⟨ret_int (by unfold orC; rw [if_neg HX.out]), rfl⟩
    · by_cases hk1 : k = 1
      · subst hk1
        by_cases hy : y = 0
        · have HY := hid hy
          have hy' : (y != 0) = false := by simp [hy]
          clear hy
          go_wp2
          go_round
          case rel => exact ⟨2, by omega, by go_num, fun _ => h1.out (by omega), fun _ => HY.out⟩
          case measure => simp [intOf]
        · have HY := hid hy
          have hy' : (y != 0) = true := by simp [hy]
          clear hy
          go_wp2
          go_ret
          exact ⟨ret_int (by unfold orC; rw [if_pos (h1.out (by omega))]), rfl⟩
      · obtain rfl : k = 2 := by omega
        go_wp2
        go_ret
        exact ⟨ret_int (by unfold orC; rw [if_pos (h1.out (by omega)), h2.out (by omega)]), rfl⟩
end Go.Proofs.YtaekngadfajcaaaGreat.Lab
/- What l2Cmp, compareLabel, compareLists and both CompareLabels come to. -/
namespace Go.Proofs.YtaekngadfajcaaaGreat.Lab
open Go.RowKit Go.Proofs.YtaekngadfajcaaaGreat.Str

theorem HasL.drewN {w : World} {a : Option Addr} {ls : List Lb} (h : HasL w a ls) (q : Nat) : HasL (w.drewN q) a ls := h

set_option maxHeartbeats 2000000 in
theorem f39 (a a' : Option Addr) (n n' c c' : Nat) (la lb : List Lb) (w : World) (hn : la.length = n) (hn' : lb.length = n') (hb : n ≤ 1048576) (_hb' : n' ≤ 1048576) (hr : HasL w a la) (hr' : HasL w a' lb) (hf : Fit la) :
    Calls Tryz.prog 39 #[.slice a n c, .slice a' n' c'] w fun e w' => e = .returned (.int .i64 (cmpList la lb)) ∧ ∃ q, w' = w.drewN q := by
  have HN := hid hn
  have HN' := hid hn'
  clear hn hn'
  go_enter Tryz.func39, Tryz.ntmps39
  go_wp2
  go_loopw [5] (fun i wr => ∃ (k q : Nat), k ≤ n ∧ k ≤ n' ∧ i = .int .i64 k ∧ Hid (∀ i, i < k → cmpL (la.getD i e0) (lb.getD i e0) = 0) ∧ Hid (wr = w.drewN q)) (fun i _ => n - (intOf i).toNat)
  case atStart => exact ⟨0, 0, Nat.zero_le _, Nat.zero_le _, rfl, fun i hi => by omega, rfl⟩
  case round =>
    obtain ⟨k, q, hk, hk', rfl, hu, hw⟩ := hrel
    by_cases h1 : k < n
    · by_cases h2 : k < n'
      · rcases hr with hr | ⟨b, off, rfl, hbl, hc⟩
        · exact absurd HN.out (by rw [hr]; simp; omega)
        rcases hr' with hr | ⟨b', off', rfl, hbl', hc'⟩
        · exact absurd HN'.out (by rw [hr]; simp; omega)
        obtain ⟨c0, c1⟩ := hc k (by rw [HN.out]; exact h1)
        obtain ⟨c0', c1'⟩ := hc' k (by rw [HN'.out]; exact h2)
        obtain ⟨g0, g1⟩ := hf k
        have i1 : (k : Int) < (n : Int) := by omega
        have i2 : (k : Int) < (n' : Int) := by omega
        have HAt := hid (lst_at k la lb (by rw [HN.out]; exact h1) (by rw [HN'.out]; exact h2) hu.out)
        have HUs : Hid (cmpL (la.getD k e0) (lb.getD k e0) = 0 → ∀ i, i < k + 1 → cmpL (la.getD i e0) (lb.getD i e0) = 0) := by
          intro h i hi
          by_cases e : i = k
          · subst e; exact h
          · exact hu.out i (by omega)
        have d0 : wr.cell? ⟨b, off + k * 2, none⟩ = some (.string (la.getD k e0).1) := by rw [hw.out]; exact c0
        have d1 : wr.cell? ⟨b, off + k * 2 + 1, none⟩ = some (.string (la.getD k e0).2) := by rw [hw.out]; exact c1
        have d0' : wr.cell? ⟨b', off' + k * 2, none⟩ = some (.string (lb.getD k e0).1) := by rw [hw.out]; exact c0'
        have d1' : wr.cell? ⟨b', off' + k * 2 + 1, none⟩ = some (.string (lb.getD k e0).2) := by rw [hw.out]; exact c1'
        clear hc hc' c0 c1 c0' c1'
        generalize la.getD k e0 = p at *
        generalize lb.getD k e0 = r at *
        by_cases z1 : cmpN p r = 0
        · by_cases z2 : cmpV p r = 0
          · have HZ : Hid (cmpL p r = 0) := by unfold Hid cmpL orC; rw [if_pos z1]; exact z2
            have y1 : (Lib.compareBytes p.1.data.toList r.1.data.toList != 0) = false := by simpa [cmpN] using z1
            have y2 : (Lib.compareBytes p.2.data.toList r.2.data.toList != 0) = false := by simpa [cmpV] using z2
            clear z1 z2
            go_wp2
            go_quiet ((go_at_call 66; exact Calls.quiet_of (f66 p.1 r.1 _ g0)))
            go_wp2
            obtain ⟨w2, hw2⟩ : ∃ w2, w2 = wr.drewN nq := ⟨_, rfl⟩
            rw [← hw2]
            have d2 : w2.cell? ⟨b, off + k * 2 + 1, none⟩ = some (.string p.2) := by rw [hw2]; exact d1
            have d2' : w2.cell? ⟨b', off' + k * 2 + 1, none⟩ = some (.string r.2) := by rw [hw2]; exact d1'
            have HW2 : Hid (∃ q, w2 = w.drewN q) := ⟨_, by rw [hw2, hw.out, World.drewN_drewN]⟩
            clear hw2
            go_quiet ((go_at_call 66; exact Calls.quiet_of (f66 p.2 r.2 _ g1)))
            go_wp2
            go_roundw
            case rel =>
              obtain ⟨q2, hq2⟩ := HW2.out
              exact ⟨k + 1, _, by omega, by omega, by go_num, HUs.out HZ.out, by unfold Hid; rw [hq2, World.drewN_drewN]⟩
            case measure => simp [intOf]; omega
          · have HZ : Hid (cmpL p r = cmpV p r) := by unfold Hid cmpL orC; rw [if_pos z1]
            have HZ2 := hid z2
            have y1 : (Lib.compareBytes p.1.data.toList r.1.data.toList != 0) = false := by simpa [cmpN] using z1
            have y2 : (Lib.compareBytes p.2.data.toList r.2.data.toList != 0) = true := by simpa [cmpV] using z2
            clear z1 z2
            go_wp2
            go_quiet ((go_at_call 66; exact Calls.quiet_of (f66 p.1 r.1 _ g0)))
            go_wp2
            obtain ⟨w2, hw2⟩ : ∃ w2, w2 = wr.drewN nq := ⟨_, rfl⟩
            rw [← hw2]
            have d2 : w2.cell? ⟨b, off + k * 2 + 1, none⟩ = some (.string p.2) := by rw [hw2]; exact d1
            have d2' : w2.cell? ⟨b', off' + k * 2 + 1, none⟩ = some (.string r.2) := by rw [hw2]; exact d1'
            have HW2 : Hid (∃ q, w2 = w.drewN q) := ⟨_, by rw [hw2, hw.out, World.drewN_drewN]⟩
            clear hw2
            go_quiet ((go_at_call 66; exact Calls.quiet_of (f66 p.2 r.2 _ g1)))
            go_wp2
            go_ret
            obtain ⟨q2, hq2⟩ := HW2.out
            exact ⟨ret_int (by rw [HAt.out (by rw [HZ.out]; exact HZ2.out), HZ.out]; rfl), _, by rw [hq2, World.drewN_drewN]⟩
        · have HZ : Hid (cmpL p r = cmpN p r) := by unfold Hid cmpL orC; rw [if_neg z1]
          have HZ2 := hid z1
          have y1 : (Lib.compareBytes p.1.data.toList r.1.data.toList != 0) = true := by simpa [cmpN] using z1
          clear z1
          go_wp2
          go_quiet ((go_at_call 66; exact Calls.quiet_of (f66 p.1 r.1 _ g0)))
          go_wp2
          go_ret
          exact ⟨ret_int (by rw [HAt.out (by rw [HZ.out]; exact HZ2.out), HZ.out]; rfl), _, by rw [hw.out, World.drewN_drewN]⟩
      · have HE : Hid (cmpList la lb = numC n n') := by
          have := lst_end k la lb hu.out (by rw [HN.out]; exact hk) (by rw [HN'.out]; exact hk') (.inr (by rw [HN'.out]; omega))
          rw [HN.out, HN'.out] at this; exact this
        go_wp2_with (go_at_call 67; refine (f67 _ _ _).mono ?_; rintro e w' ⟨rfl, rfl⟩)
        go_ret
        exact ⟨ret_int HE.out.symm, _, hw.out⟩
    · have HE : Hid (cmpList la lb = numC n n') := by
        have := lst_end k la lb hu.out (by rw [HN.out]; exact hk) (by rw [HN'.out]; exact hk') (.inl (by rw [HN.out]; omega))
        rw [HN.out, HN'.out] at this; exact this
      go_wp2_with (go_at_call 67; refine (f67 _ _ _).mono ?_; rintro e w' ⟨rfl, rfl⟩)
      go_ret
      exact ⟨ret_int HE.out.symm, _, hw.out⟩
end Go.Proofs.YtaekngadfajcaaaGreat.Lab
/- What compareLabel, compareLists and both CompareLabels come to. -/
namespace Go.Proofs.YtaekngadfajcaaaGreat.Lab
open Go.RowKit Go.Proofs.YtaekngadfajcaaaGreat.Str

theorem two0 {w : World} {b : Nat} {u v : Value} {t : TypeId} (h : w.heap[b]? = some (.cells #[u, v] t (0, 0))) : w.cell? ⟨b, 0, none⟩ = some u := by simp [World.cell?, h]
theorem two1 {w : World} {b : Nat} {u v : Value} {t : TypeId} (h : w.heap[b]? = some (.cells #[u, v] t (0, 0))) : w.cell? ⟨b, 1, none⟩ = some v := by simp [World.cell?, h]
theorem lt_block {w : World} {k : Nat} {o : Obj} (h : w.heap[k]? = some o) : k < w.heap.size := (Array.getElem?_eq_some_iff.1 h).1
theorem box_below {w w' : World} {k : Nat} {o : Obj} (h : w.heap[k]? = some o) (hb : Below w.heap.size w w') : w'.heap[k]? = some o := (hb.block k (lt_block h)).trans h
theorem box_alloc {w : World} {k : Nat} {o : Obj} (h : w.heap[k]? = some o) (u : Obj) : (w.alloc u).heap[k]? = some o := (Below.heap_alloc w u k (lt_block h)).trans h

/-- Two labels in their boxes. -/
abbrev SS (w : World) (p q : Lb) (w' : World) : Prop :=
  w'.cell? ⟨w.heap.size, 0, none⟩ = some (.string p.1) ∧ w'.cell? ⟨w.heap.size, 1, none⟩ = some (.string p.2) ∧ w'.cell? ⟨w.heap.size + 1, 0, none⟩ = some (.string q.1) ∧ w'.cell? ⟨w.heap.size + 1, 1, none⟩ = some (.string q.2) ∧ Below w.heap.size w w'
theorem SS.below {w W W' : World} {p q : Lb} (h : SS w p q W) (hb : Below W.heap.size W W') : SS w p q W' := by
  obtain ⟨h1, h2, h3, h4, h5⟩ := h
  have l := World.block_lt_of_cell? W _ h4
  have l0 : w.heap.size < W.heap.size := by simp at l; omega
  exact ⟨(hb.cell (p := ⟨w.heap.size, 0, none⟩) l0).trans h1, (hb.cell (p := ⟨w.heap.size, 1, none⟩) l0).trans h2, (hb.cell (p := ⟨w.heap.size + 1, 0, none⟩) l).trans h3, (hb.cell (p := ⟨w.heap.size + 1, 1, none⟩) l).trans h4, h5.trans (hb.mono h5.size)⟩
theorem SS.alloc {w W : World} {p q : Lb} (h : SS w p q W) (o : Obj) : SS w p q (W.alloc o) := h.below ((Below.refl _ _).alloc (Nat.le_refl _) o)
theorem SS.drew {w W : World} {p q : Lb} (h : SS w p q W) : SS w p q W.drew := ⟨h.1, h.2.1, h.2.2.1, h.2.2.2.1, h.2.2.2.2.drew⟩
theorem SS.new (w : World) (p q : Lb) : SS w p q ((w.alloc (.cells #[.string p.1, .string p.2] 62)).alloc (.cells #[.string q.1, .string q.2] 62)) := by
  have A1 := box_alloc (heap_alloc_new w (.cells #[.string p.1, .string p.2] 62)) (.cells #[.string q.1, .string q.2] 62)
  have B1 := heap_alloc_new (w.alloc (.cells #[.string p.1, .string p.2] 62)) (.cells #[.string q.1, .string q.2] 62)
  simp only [World.size_alloc] at B1
  exact ⟨two0 A1, two1 A1, two0 B1, two1 B1, ((Below.refl w.heap.size w).alloc (Nat.le_refl _) _).alloc (by simp) _⟩

set_option maxHeartbeats 2000000 in
theorem f92 (p q : Lb) (w : World) : Calls Tryz.prog 92 #[.agg #[.string p.1, .string p.2], .agg #[.string q.1, .string q.2]] w fun e w' => e = .returned (.int .i64 (cmpL p q)) ∧ Below w.heap.size w w' := by
  have HS := hid (SS.new w p q)
  go_enter Tryz.func92, Tryz.ntmps92
  go_wp2_with fail
  go_region_held3 (fun w' => SS w p q w') (first | exact HS.out.drew | assumption | exact SS.alloc (by assumption) _) (first | (go_at_call 89; refine (f89 p q _).mono ?_; rintro e w2 ⟨rfl, hb2⟩; have hs2 := SS.below (by assumption) hb2; clear hb2) | (go_at_call 99; refine (f99 _ _ _).mono ?_; rintro e w' ⟨rfl, rfl⟩) | (go_at_call 102; refine (f102 _ (cmpN p q) (cmpV p q) _ ?_ ?_).mono ?_; (exact two0 (heap_alloc_new _ _)); (exact two1 (heap_alloc_new _ _)); rintro e w' ⟨rfl, rfl⟩))
  go_wp2
  go_ret
  exact ⟨rfl, (SS.alloc hs2 _).2.2.2.2⟩

set_option maxHeartbeats 2000000 in
theorem f91 (a a' : Option Addr) (n n' c c' : Nat) (la lb : List Lb) (w : World) (hn : la.length = n) (hn' : lb.length = n') (hb : n ≤ 1048576) (hb' : n' ≤ 1048576) (hr : HasL w a la) (hr' : HasL w a' lb) :
    Calls Tryz.prog 91 #[.slice a n c, .slice a' n' c', .func (.func 92) #[] #[]] w fun e w' => e = .returned (.int .i64 (cmpList la lb)) ∧ Below w.heap.size w w' := by
  have HN := hid hn
  have HN' := hid hn'
  clear hn hn'
  by_cases hnn : n ≤ n'
  · go_enter Tryz.func91, Tryz.ntmps91
    go_wp2
    go_loopw [14] (fun i wr => ∃ (k : Nat), k ≤ n ∧ i = .int .i64 k ∧ Hid (∀ i, i < k → cmpL (la.getD i e0) (lb.getD i e0) = 0) ∧ Below w.heap.size w wr) (fun i _ => n - (intOf i).toNat)
    case atStart => exact ⟨0, Nat.zero_le _, rfl, fun i hi => by omega, Below.refl _ _⟩
    case round =>
      obtain ⟨k, hk, rfl, hu, hnx⟩ := hrel
      have HX := hid hnx
      by_cases h1 : k < n
      · rcases hr with hr | ⟨b, off, rfl, hbl, hc⟩
        · exact absurd HN.out (by rw [hr]; simp; omega)
        rcases hr' with hr | ⟨b', off', rfl, hbl', hc'⟩
        · exact absurd HN'.out (by rw [hr]; simp; omega)
        obtain ⟨c0, c1⟩ := hc k (by rw [HN.out]; omega)
        obtain ⟨c0', c1'⟩ := hc' k (by rw [HN'.out]; omega)
        have i1 : (k : Int) < (n : Int) := by omega
        have i2 : (k : Int) < (n' : Int) := by omega
        have HAt := hid (lst_at k la lb (by rw [HN.out]; omega) (by rw [HN'.out]; omega) hu.out)
        have HUs : Hid (cmpL (la.getD k e0) (lb.getD k e0) = 0 → ∀ i, i < k + 1 → cmpL (la.getD i e0) (lb.getD i e0) = 0) := by
          intro h i hi
          by_cases e : i = k
          · subst e; exact h
          · exact hu.out i (by omega)
        have d0 := (hnx.cell (p := ⟨b, off + k * 2, none⟩) hbl).trans c0
        have d1 := (hnx.cell (p := ⟨b, off + k * 2 + 1, none⟩) hbl).trans c1
        have d0' := (hnx.cell (p := ⟨b', off' + k * 2, none⟩) hbl').trans c0'
        have d1' := (hnx.cell (p := ⟨b', off' + k * 2 + 1, none⟩) hbl').trans c1'
        clear hc hc' c0 c1 c0' c1' hnx
        generalize la.getD k e0 = p at *
        generalize lb.getD k e0 = r at *
        by_cases z1 : cmpL p r = 0
        · have HZ := hid z1
          have y1 : (cmpL p r != 0) = false := by simpa using z1
          clear z1
          go_wp2_with fail
          go_region_with (go_at_call 92; refine (f92 p r _).mono ?_; rintro e w2 ⟨rfl, hb2⟩)
          all_goals
            have HX2 := hid (HX.out.trans ((below_undrew hb2).mono HX.out.size))
            clear hb2
            go_wp2
            go_roundw
            case rel => exact ⟨k + 1, by omega, by go_num, HUs.out HZ.out, HX2.out⟩
            case measure => simp [intOf]; omega
        · have HZ := hid z1
          have y1 : (cmpL p r != 0) = true := by simpa using z1
          clear z1
          go_wp2_with fail
          go_region_with (go_at_call 92; refine (f92 p r _).mono ?_; rintro e w2 ⟨rfl, hb2⟩)
          all_goals
            have HX2 := hid (HX.out.trans ((below_undrew hb2).mono HX.out.size))
            clear hb2
            go_wp2
            go_ret
            exact ⟨ret_int (HAt.out HZ.out).symm, HX2.out⟩
      · have HE : Hid (cmpList la lb = numC n n') := by
          have := lst_end k la lb hu.out (by rw [HN.out]; omega) (by rw [HN'.out]; omega) (by rw [HN.out, HN'.out]; omega)
          rw [HN.out, HN'.out] at this; exact this
        go_wp2_with (go_at_call 101; refine (f101 _ _ _).mono ?_; rintro e w' ⟨rfl, rfl⟩)
        go_ret
        exact ⟨ret_int HE.out.symm, HX.out⟩
  · go_enter Tryz.func91, Tryz.ntmps91
    go_wp2
    go_loopw [14] (fun i wr => ∃ (k : Nat), k ≤ n' ∧ i = .int .i64 k ∧ Hid (∀ i, i < k → cmpL (la.getD i e0) (lb.getD i e0) = 0) ∧ Below w.heap.size w wr) (fun i _ => n' - (intOf i).toNat)
    case atStart => exact ⟨0, Nat.zero_le _, rfl, fun i hi => by omega, Below.refl _ _⟩
    case round =>
      obtain ⟨k, hk, rfl, hu, hnx⟩ := hrel
      have HX := hid hnx
      by_cases h1 : k < n'
      · rcases hr with hr | ⟨b, off, rfl, hbl, hc⟩
        · exact absurd HN.out (by rw [hr]; simp; omega)
        rcases hr' with hr | ⟨b', off', rfl, hbl', hc'⟩
        · exact absurd HN'.out (by rw [hr]; simp; omega)
        obtain ⟨c0, c1⟩ := hc k (by rw [HN.out]; omega)
        obtain ⟨c0', c1'⟩ := hc' k (by rw [HN'.out]; omega)
        have i1 : (k : Int) < (n : Int) := by omega
        have i2 : (k : Int) < (n' : Int) := by omega
        have HAt := hid (lst_at k la lb (by rw [HN.out]; omega) (by rw [HN'.out]; omega) hu.out)
        have HUs : Hid (cmpL (la.getD k e0) (lb.getD k e0) = 0 → ∀ i, i < k + 1 → cmpL (la.getD i e0) (lb.getD i e0) = 0) := by
          intro h i hi
          by_cases e : i = k
          · subst e; exact h
          · exact hu.out i (by omega)
        have d0 := (hnx.cell (p := ⟨b, off + k * 2, none⟩) hbl).trans c0
        have d1 := (hnx.cell (p := ⟨b, off + k * 2 + 1, none⟩) hbl).trans c1
        have d0' := (hnx.cell (p := ⟨b', off' + k * 2, none⟩) hbl').trans c0'
        have d1' := (hnx.cell (p := ⟨b', off' + k * 2 + 1, none⟩) hbl').trans c1'
        clear hc hc' c0 c1 c0' c1' hnx
        generalize la.getD k e0 = p at *
        generalize lb.getD k e0 = r at *
        by_cases z1 : cmpL p r = 0
        · have HZ := hid z1
          have y1 : (cmpL p r != 0) = false := by simpa using z1
          clear z1
          go_wp2_with fail
          go_region_with (go_at_call 92; refine (f92 p r _).mono ?_; rintro e w2 ⟨rfl, hb2⟩)
          all_goals
            have HX2 := hid (HX.out.trans ((below_undrew hb2).mono HX.out.size))
            clear hb2
            go_wp2
            go_roundw
            case rel => exact ⟨k + 1, by omega, by go_num, HUs.out HZ.out, HX2.out⟩
            case measure => simp [intOf]; omega
        · have HZ := hid z1
          have y1 : (cmpL p r != 0) = true := by simpa using z1
          clear z1
          go_wp2_with fail
          go_region_with (go_at_call 92; refine (f92 p r _).mono ?_; rintro e w2 ⟨rfl, hb2⟩)
          all_goals
            have HX2 := hid (HX.out.trans ((below_undrew hb2).mono HX.out.size))
            clear hb2
            go_wp2
            go_ret
            exact ⟨ret_int (HAt.out HZ.out).symm, HX2.out⟩
      · have HE : Hid (cmpList la lb = numC n n') := by
          have := lst_end k la lb hu.out (by rw [HN.out]; omega) (by rw [HN'.out]; omega) (by rw [HN.out, HN'.out]; omega)
          rw [HN.out, HN'.out] at this; exact this
        go_wp2_with (go_at_call 101; refine (f101 _ _ _).mono ?_; rintro e w' ⟨rfl, rfl⟩)
        go_ret
        exact ⟨ret_int HE.out.symm, HX.out⟩

noncomputable def cmpR (la lb : List Lb) : Int := if goodL la = true ∧ goodL lb = true then cmpList la lb else -2
theorem cmpR_good {la lb : List Lb} (h1 : goodL la = true) (h2 : goodL lb = true) : cmpR la lb = cmpList la lb := by unfold cmpR; rw [if_pos ⟨h1, h2⟩]
theorem cmpR_no1 {la lb : List Lb} (h1 : goodL la = false) : cmpR la lb = -2 := by unfold cmpR; rw [if_neg (by simp [h1])]
theorem cmpR_no2 {la lb : List Lb} (h1 : goodL lb = false) : cmpR la lb = -2 := by unfold cmpR; rw [if_neg (by simp [h1])]

theorem f77 (a a' : Option Addr) (n n' c c' : Nat) (la lb : List Lb) (w : World) (hn : la.length = n) (hn' : lb.length = n') (hb : n ≤ 1048576) (hb' : n' ≤ 1048576) (hr : HasL w a la) (hr' : HasL w a' lb) :
    Calls Tryz.prog 77 #[.slice a n c, .slice a' n' c'] w fun e w' => e = .returned (.int .i64 (cmpList la lb)) ∧ Below w.heap.size w w' := by
  have HN := hid hn
  have HN' := hid hn'
  clear hn hn'
  go_enter Tryz.func77, Tryz.ntmps77
  go_wp2_with fail
  refine (f91 a a' n n' c c' la lb _ HN.out HN'.out hb hb' hr hr').mono ?_
  rintro e w3 ⟨rfl, hb3⟩
  have HB3 := hid hb3
  go_wp2
  go_ret
  exact ⟨rfl, HB3.out⟩
end Go.Proofs.YtaekngadfajcaaaGreat.Lab
