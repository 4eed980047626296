/- Which ranges have a date: the program's rangesHave, the library's Contains, the model's l19In. -/
import Derived.Test.YthcogkoleiejgaaGreatDoorRIvf
import Derived.Test.YthcogkoleiejgaaGreatDoorRCF
namespace Go.Proofs.YthcogkoleiejgaaGreatDoor.Rng
open Go.RowKit
open Go.Proofs.YthcogkoleiejgaaGreatDoor.Cal (dv)

def m1 (n : Int) (p : Sm) : Bool := decide (p.1 ≤ n) && decide (n ≤ p.2)
/-- None, or one of them has the number. -/
def li (l : List Sm) (n : Int) : Bool := l.isEmpty || l.any (m1 n)
/-- A day by its month's beginning or by its end. -/
def t1 (d L : Int) (p : Sm) : Bool := if p.2 < 0 then m1 (d - (L + 1)) p else m1 d p
def ld (l : List Sm) (d L : Int) : Bool := l.isEmpty || l.any (t1 d L)
theorem any_next (f : Sm → Bool) (l : List Sm) {j : Nat} (h : j < l.length) : (l.take (j + 1)).any f = ((l.take j).any f || f (l.getD j e0)) := by
  rw [List.take_succ_eq_append_getElem h, List.any_append]
  simp [h]
theorem any_hit (f : Sm → Bool) {l : List Sm} {j : Nat} (h : j < l.length) (hf : f (l.getD j e0) = true) : l.any f = true := by
  rw [List.any_eq_true]
  exact ⟨l[j], List.getElem_mem h, by simpa [h] using hf⟩
theorem m1_true {n : Int} {s t : Int} (h : s ≤ n ∧ n ≤ t) : m1 n (s, t) = true := by unfold m1; simp; exact h
theorem m1_false {n : Int} {s t : Int} (h : ¬ (s ≤ n ∧ n ≤ t)) : m1 n (s, t) = false := by
  unfold m1
  by_cases a : s ≤ n
  · have b : ¬ n ≤ t := fun q => h ⟨a, q⟩
    simp [b]
  · simp [a]
/-- Good days: by the one end or by the other. -/
theorem ld_li {l : List Sm} {d L : Int} (hg : dks l) (h0 : 1 ≤ d) (h1 : d ≤ L) : ld l d L = (li l d || li l (d - L - 1)) := by
  unfold ld li
  cases he : l.isEmpty
  · simp only [Bool.false_or]
    have key : ∀ p ∈ l, t1 d L p = (m1 d p || m1 (d - L - 1) p) := by
      intro p hp
      obtain ⟨i, hi, rfl⟩ := List.getElem_of_mem hp
      have := hg i hi
      rw [show l.getD i e0 = l[i] by simp [hi]] at this
      generalize l[i] = p at *
      obtain ⟨s, t⟩ := p
      obtain ⟨g0, g1, g2⟩ := this
      unfold t1
      simp only at *
      by_cases q : t < 0
      · rw [if_pos q, m1_false (n := d) (by omega), show d - (L + 1) = d - L - 1 by omega, Bool.false_or]
      · rw [if_neg q, m1_false (n := d - L - 1) (by omega), Bool.or_false]
    rw [Bool.eq_iff_iff]
    simp only [Bool.or_eq_true, List.any_eq_true]
    constructor
    · rintro ⟨p, hp, h⟩
      rw [key p hp, Bool.or_eq_true] at h
      rcases h with h | h
      · exact .inl ⟨p, hp, h⟩
      · exact .inr ⟨p, hp, h⟩
    · rintro (⟨p, hp, h⟩ | ⟨p, hp, h⟩)
      · exact ⟨p, hp, by rw [key p hp, h]; rfl⟩
      · exact ⟨p, hp, by rw [key p hp, h, Bool.or_true]⟩
  · rfl
theorem empty_len (l : List Sm) : l.isEmpty = decide (l.length = 0) := by cases l <;> simp

/-- The boxes of the date and of what it says. -/
structure Bd (w : World) (y m d L wd mi : Int) (x : World) : Prop where
  one : x.heap[w.heap.size]? = some (.cells #[.int .i64 y, .int .i64 m, .int .i64 d, .int .i64 L, .int .i64 wd, .int .i64 mi] 158)
  two : x.heap[w.heap.size + 1]? = some (.cells #[.int .i64 mi, .int .i64 wd, .int .i64 d, .int .i64 m, .int .i64 y] 184)
  bel : Below w.heap.size w x
theorem Bd.mv {w x x' : World} {y m d L wd mi : Int} (h : Bd w y m d L wd mi x) (hb : Below x.heap.size x x') : Bd w y m d L wd mi x' := ⟨kept h.one hb, kept h.two hb, h.bel.trans (hb.mono h.bel.size)⟩
theorem Bd.first (w : World) (y m d L wd mi : Int) : Bd w y m d L wd mi ((w.alloc (.cells #[.int .i64 y, .int .i64 m, .int .i64 d, .int .i64 L, .int .i64 wd, .int .i64 mi] 158)).alloc (.cells #[.int .i64 mi, .int .i64 wd, .int .i64 d, .int .i64 m, .int .i64 y] 184)) := by
  refine ⟨kept (heap_alloc_new w _) ((Below.refl _ _).alloc (Nat.le_refl _) _), ?_, ((Below.refl _ _).alloc (Nat.le_refl _) _).alloc (by simp) _⟩
  have := heap_alloc_new (w.alloc (.cells #[.int .i64 y, .int .i64 m, .int .i64 d, .int .i64 L, .int .i64 wd, .int .i64 mi] 158)) (.cells #[.int .i64 mi, .int .i64 wd, .int .i64 d, .int .i64 m, .int .i64 y] 184)
  simpa using this
theorem Bd.cells {w x : World} {y m d L wd mi : Int} (h : Bd w y m d L wd mi x) : x.cell? ⟨w.heap.size, 3, none⟩ = some (.int .i64 L) ∧ x.cell? ⟨w.heap.size + 1, 0, none⟩ = some (.int .i64 mi) ∧ x.cell? ⟨w.heap.size + 1, 1, none⟩ = some (.int .i64 wd) ∧ x.cell? ⟨w.heap.size + 1, 2, none⟩ = some (.int .i64 d) ∧ x.cell? ⟨w.heap.size + 1, 3, none⟩ = some (.int .i64 m) ∧ x.cell? ⟨w.heap.size + 1, 4, none⟩ = some (.int .i64 y) :=
  ⟨cell_at h.one 3, cell_at h.two 0, cell_at h.two 1, cell_at h.two 2, cell_at h.two 3, cell_at h.two 4⟩

set_option maxHeartbeats 4000000 in
theorem have0 (a : Option Addr) (c : Nat) (l : List Sm) (y m d L wd mi : Int) (w : World) (hl : l.length ≤ 1048576) (hr : HasS w a l) :
    Calls Tryz.prog 119 #[.slice a l.length c, .int .i64 0, dv y m d L wd mi] w fun e w' => e = .returned (.bool (li l mi)) ∧ Below w.heap.size w w' := by
  have HH := hid hr
  have HD := hid (Bd.first w y m d L wd mi)
  generalize hn : l.length = n at *
  have HN := hid hn
  clear hn hr
  obtain ⟨W, hW⟩ : ∃ W, W = (w.alloc (.cells #[.int .i64 y, .int .i64 m, .int .i64 d, .int .i64 L, .int .i64 wd, .int .i64 mi] 158)).alloc (.cells #[.int .i64 mi, .int .i64 wd, .int .i64 d, .int .i64 m, .int .i64 y] 184) := ⟨_, rfl⟩
  rw [← hW] at HD
  have HW := hid hW
  clear hW
  go_enter Tryz.func119, Tryz.ntmps119
  go_upto_region 2 with fail
  rw [← HW.out]
  clear HW
  go_wp2
  go_loopw [24] (fun s wr => ∃ j : Nat, j ≤ n ∧ s = .int .i64 j ∧ Hid ((l.take j).any (m1 mi) = false) ∧ Hid (Bd w y m d L wd mi wr)) (fun s _ => n - (intOf s).toNat)
  case atStart => exact ⟨0, Nat.zero_le _, rfl, by simp [Hid], HD⟩
  case round =>
    clear HD
    obtain ⟨j, hj, rfl, HA, HD⟩ := hrel
    by_cases hlt : j < n
    · rcases HH.out.below HD.out.bel with hr | ⟨b, off, rfl, hbl, hc⟩
      · exact absurd HN.out (by rw [hr]; simp; omega)
      obtain ⟨d0, d1⟩ := hc j (by rw [HN.out]; exact hlt)
      have i1 : (j : Int) < (n : Int) := by omega
      have HNx := hid (any_next (m1 mi) l (j := j) (by rw [HN.out]; exact hlt))
      have HHit : Hid ((m1 mi) (l.getD j e0) = true → li l mi = true) := fun h => by
        unfold li
        rw [any_hit (m1 mi) (by rw [HN.out]; exact hlt) h, Bool.or_true]
      clear hc
      generalize l.getD j e0 = p at *
      obtain ⟨s, t⟩ := p
      have HD1 := hid (HD.out.mv ((Below.refl _ _).alloc (Nat.le_refl _) (.cells #[.int .i64 s, .int .i64 t] 109)))
      obtain ⟨X, hX⟩ : ∃ X, X = wr.alloc (.cells #[.int .i64 s, .int .i64 t] 109) := ⟨_, rfl⟩
      have HR0 : Hid (X.heap[wr.heap.size]? = some (.cells #[.int .i64 s, .int .i64 t] 109)) := by rw [hX]; exact heap_alloc_new wr _
      rw [← hX] at HD1
      have HX := hid hX
      clear hX
      go_upto_region 5 with fail
      rw [← HX.out]
      clear HX
      obtain ⟨x0, x1, x2, x3, x4, x5⟩ := HD1.out.cells
      have r0 := cell_at HR0.out 0
      have r1 := cell_at HR0.out 1
      generalize wr.heap.size = Z at *
      simp only [List.getElem?_toArray, List.getElem?_cons_zero, List.getElem?_cons_succ] at r0 r1
      have HC := fun x => hid (Cal.f140 s t (mi) x)
      by_cases hg : s ≤ mi ∧ mi ≤ t
      · simp only [decide_eq_true hg] at HC
        have HY := hid (HHit.out (by exact m1_true hg))
        clear hg
        go_wp2_with fail
        refine (HC _).out.mono ?_
        rintro e w2 ⟨rfl, hb⟩
        have HD2 := hid (HD1.out.mv hb.out)
        clear hb
        go_wp2
        go_ret
        exact ⟨by rw [HY.out]; rfl, HD2.out.bel⟩
      · simp only [decide_eq_false hg] at HC
        have HY : Hid ((l.take (j + 1)).any (m1 mi) = false) := by unfold Hid; rw [HNx.out, HA.out, Bool.false_or]; exact m1_false hg
        clear hg
        go_wp2_with fail
        refine (HC _).out.mono ?_
        rintro e w2 ⟨rfl, hb⟩
        have HD2 := hid (HD1.out.mv hb.out)
        clear hb
        go_wp2
        go_roundw
        case rel => exact ⟨j + 1, by omega, by go_num, HY, HD2⟩
        case measure => simp [intOf]; omega
    · have HF : Hid (li l mi = l.isEmpty) := by
        have h := HA.out
        rw [List.take_of_length_le (by have := HN.out; omega)] at h
        unfold Hid li
        rw [h, Bool.or_false]
      have i1 : ¬ (j : Int) < (n : Int) := by omega
      by_cases g : n = 0
      · have e0' : ((n : Int) == 0) = true := by simp [g]
        have HY : Hid (l.isEmpty = true) := by have := HN.out; rw [Hid, empty_len]; exact decide_eq_true (by omega)
        clear g
        go_wp2
        go_ret
        exact ⟨by rw [HF.out, HY.out]; rfl, HD.out.bel⟩
      · have e0' : ((n : Int) == 0) = false := by simp [g]
        have HY : Hid (l.isEmpty = false) := by have := HN.out; rw [Hid, empty_len]; exact decide_eq_false (by omega)
        clear g
        go_wp2
        go_ret
        exact ⟨by rw [HF.out, HY.out]; rfl, HD.out.bel⟩

set_option maxHeartbeats 4000000 in
theorem have1 (a : Option Addr) (c : Nat) (l : List Sm) (y m d L wd mi : Int) (w : World) (hl : l.length ≤ 1048576) (hr : HasS w a l) :
    Calls Tryz.prog 119 #[.slice a l.length c, .int .i64 1, dv y m d L wd mi] w fun e w' => e = .returned (.bool (li l wd)) ∧ Below w.heap.size w w' := by
  have HH := hid hr
  have HD := hid (Bd.first w y m d L wd mi)
  generalize hn : l.length = n at *
  have HN := hid hn
  clear hn hr
  obtain ⟨W, hW⟩ : ∃ W, W = (w.alloc (.cells #[.int .i64 y, .int .i64 m, .int .i64 d, .int .i64 L, .int .i64 wd, .int .i64 mi] 158)).alloc (.cells #[.int .i64 mi, .int .i64 wd, .int .i64 d, .int .i64 m, .int .i64 y] 184) := ⟨_, rfl⟩
  rw [← hW] at HD
  have HW := hid hW
  clear hW
  go_enter Tryz.func119, Tryz.ntmps119
  go_upto_region 2 with fail
  rw [← HW.out]
  clear HW
  go_wp2
  go_loopw [24] (fun s wr => ∃ j : Nat, j ≤ n ∧ s = .int .i64 j ∧ Hid ((l.take j).any (m1 wd) = false) ∧ Hid (Bd w y m d L wd mi wr)) (fun s _ => n - (intOf s).toNat)
  case atStart => exact ⟨0, Nat.zero_le _, rfl, by simp [Hid], HD⟩
  case round =>
    clear HD
    obtain ⟨j, hj, rfl, HA, HD⟩ := hrel
    by_cases hlt : j < n
    · rcases HH.out.below HD.out.bel with hr | ⟨b, off, rfl, hbl, hc⟩
      · exact absurd HN.out (by rw [hr]; simp; omega)
      obtain ⟨d0, d1⟩ := hc j (by rw [HN.out]; exact hlt)
      have i1 : (j : Int) < (n : Int) := by omega
      have HNx := hid (any_next (m1 wd) l (j := j) (by rw [HN.out]; exact hlt))
      have HHit : Hid ((m1 wd) (l.getD j e0) = true → li l wd = true) := fun h => by
        unfold li
        rw [any_hit (m1 wd) (by rw [HN.out]; exact hlt) h, Bool.or_true]
      clear hc
      generalize l.getD j e0 = p at *
      obtain ⟨s, t⟩ := p
      have HD1 := hid (HD.out.mv ((Below.refl _ _).alloc (Nat.le_refl _) (.cells #[.int .i64 s, .int .i64 t] 109)))
      obtain ⟨X, hX⟩ : ∃ X, X = wr.alloc (.cells #[.int .i64 s, .int .i64 t] 109) := ⟨_, rfl⟩
      have HR0 : Hid (X.heap[wr.heap.size]? = some (.cells #[.int .i64 s, .int .i64 t] 109)) := by rw [hX]; exact heap_alloc_new wr _
      rw [← hX] at HD1
      have HX := hid hX
      clear hX
      go_upto_region 5 with fail
      rw [← HX.out]
      clear HX
      obtain ⟨x0, x1, x2, x3, x4, x5⟩ := HD1.out.cells
      have r0 := cell_at HR0.out 0
      have r1 := cell_at HR0.out 1
      generalize wr.heap.size = Z at *
      simp only [List.getElem?_toArray, List.getElem?_cons_zero, List.getElem?_cons_succ] at r0 r1
      have HC := fun x => hid (Cal.f140 s t (wd) x)
      by_cases hg : s ≤ wd ∧ wd ≤ t
      · simp only [decide_eq_true hg] at HC
        have HY := hid (HHit.out (by exact m1_true hg))
        clear hg
        go_wp2_with fail
        refine (HC _).out.mono ?_
        rintro e w2 ⟨rfl, hb⟩
        have HD2 := hid (HD1.out.mv hb.out)
        clear hb
        go_wp2
        go_ret
        exact ⟨by rw [HY.out]; rfl, HD2.out.bel⟩
      · simp only [decide_eq_false hg] at HC
        have HY : Hid ((l.take (j + 1)).any (m1 wd) = false) := by unfold Hid; rw [HNx.out, HA.out, Bool.false_or]; exact m1_false hg
        clear hg
        go_wp2_with fail
        refine (HC _).out.mono ?_
        rintro e w2 ⟨rfl, hb⟩
        have HD2 := hid (HD1.out.mv hb.out)
        clear hb
        go_wp2
        go_roundw
        case rel => exact ⟨j + 1, by omega, by go_num, HY, HD2⟩
        case measure => simp [intOf]; omega
    · have HF : Hid (li l wd = l.isEmpty) := by
        have h := HA.out
        rw [List.take_of_length_le (by have := HN.out; omega)] at h
        unfold Hid li
        rw [h, Bool.or_false]
      have i1 : ¬ (j : Int) < (n : Int) := by omega
      by_cases g : n = 0
      · have e0' : ((n : Int) == 0) = true := by simp [g]
        have HY : Hid (l.isEmpty = true) := by have := HN.out; rw [Hid, empty_len]; exact decide_eq_true (by omega)
        clear g
        go_wp2
        go_ret
        exact ⟨by rw [HF.out, HY.out]; rfl, HD.out.bel⟩
      · have e0' : ((n : Int) == 0) = false := by simp [g]
        have HY : Hid (l.isEmpty = false) := by have := HN.out; rw [Hid, empty_len]; exact decide_eq_false (by omega)
        clear g
        go_wp2
        go_ret
        exact ⟨by rw [HF.out, HY.out]; rfl, HD.out.bel⟩

set_option maxHeartbeats 4000000 in
theorem have2 (a : Option Addr) (c : Nat) (l : List Sm) (y m d L wd mi : Int) (w : World) (hl : l.length ≤ 1048576) (hr : HasS w a l) (hd0 : 1 ≤ d) (hd1 : d ≤ 31) (hL0 : 28 ≤ L) (hL1 : L ≤ 31) :
    Calls Tryz.prog 119 #[.slice a l.length c, .int .i64 2, dv y m d L wd mi] w fun e w' => e = .returned (.bool (ld l d L)) ∧ Below w.heap.size w w' := by
  have HH := hid hr
  have HD := hid (Bd.first w y m d L wd mi)
  generalize hn : l.length = n at *
  have HN := hid hn
  clear hn hr
  obtain ⟨W, hW⟩ : ∃ W, W = (w.alloc (.cells #[.int .i64 y, .int .i64 m, .int .i64 d, .int .i64 L, .int .i64 wd, .int .i64 mi] 158)).alloc (.cells #[.int .i64 mi, .int .i64 wd, .int .i64 d, .int .i64 m, .int .i64 y] 184) := ⟨_, rfl⟩
  rw [← hW] at HD
  have HW := hid hW
  clear hW
  go_enter Tryz.func119, Tryz.ntmps119
  go_upto_region 2 with fail
  rw [← HW.out]
  clear HW
  go_wp2
  go_loopw [24] (fun s wr => ∃ j : Nat, j ≤ n ∧ s = .int .i64 j ∧ Hid ((l.take j).any (t1 d L) = false) ∧ Hid (Bd w y m d L wd mi wr)) (fun s _ => n - (intOf s).toNat)
  case atStart => exact ⟨0, Nat.zero_le _, rfl, by simp [Hid], HD⟩
  case round =>
    clear HD
    obtain ⟨j, hj, rfl, HA, HD⟩ := hrel
    by_cases hlt : j < n
    · rcases HH.out.below HD.out.bel with hr | ⟨b, off, rfl, hbl, hc⟩
      · exact absurd HN.out (by rw [hr]; simp; omega)
      obtain ⟨d0, d1⟩ := hc j (by rw [HN.out]; exact hlt)
      have i1 : (j : Int) < (n : Int) := by omega
      have HNx := hid (any_next (t1 d L) l (j := j) (by rw [HN.out]; exact hlt))
      have HHit : Hid ((t1 d L) (l.getD j e0) = true → ld l d L = true) := fun h => by
        unfold ld
        rw [any_hit (t1 d L) (by rw [HN.out]; exact hlt) h, Bool.or_true]
      clear hc
      generalize l.getD j e0 = p at *
      obtain ⟨s, t⟩ := p
      have HD1 := hid (HD.out.mv ((Below.refl _ _).alloc (Nat.le_refl _) (.cells #[.int .i64 s, .int .i64 t] 109)))
      obtain ⟨X, hX⟩ : ∃ X, X = wr.alloc (.cells #[.int .i64 s, .int .i64 t] 109) := ⟨_, rfl⟩
      have HR0 : Hid (X.heap[wr.heap.size]? = some (.cells #[.int .i64 s, .int .i64 t] 109)) := by rw [hX]; exact heap_alloc_new wr _
      rw [← hX] at HD1
      have HX := hid hX
      clear hX
      go_upto_region 5 with fail
      rw [← HX.out]
      clear HX
      obtain ⟨x0, x1, x2, x3, x4, x5⟩ := HD1.out.cells
      have r0 := cell_at HR0.out 0
      have r1 := cell_at HR0.out 1
      generalize wr.heap.size = Z at *
      simp only [List.getElem?_toArray, List.getElem?_cons_zero, List.getElem?_cons_succ] at r0 r1
      by_cases hneg : t < 0
      · skip
        have HC := fun x => hid (Cal.f140 s t (d - (L + 1)) x)
        by_cases hg : s ≤ d - (L + 1) ∧ d - (L + 1) ≤ t
        · simp only [decide_eq_true hg] at HC
          have HY := hid (HHit.out (by unfold t1; rw [if_pos hneg]; exact m1_true hg))
          clear hg
          go_wp2_with fail
          refine (HC _).out.mono ?_
          rintro e w2 ⟨rfl, hb⟩
          have HD2 := hid (HD1.out.mv hb.out)
          clear hb
          go_wp2
          go_ret
          exact ⟨by rw [HY.out]; rfl, HD2.out.bel⟩
        · simp only [decide_eq_false hg] at HC
          have HY : Hid ((l.take (j + 1)).any (t1 d L) = false) := by unfold Hid; rw [HNx.out, HA.out, Bool.false_or]; unfold t1; rw [if_pos hneg]; exact m1_false hg
          clear hg
          go_wp2_with fail
          refine (HC _).out.mono ?_
          rintro e w2 ⟨rfl, hb⟩
          have HD2 := hid (HD1.out.mv hb.out)
          clear hb
          go_wp2
          go_roundw
          case rel => exact ⟨j + 1, by omega, by go_num, HY, HD2⟩
          case measure => simp [intOf]; omega
      · skip
        have HC := fun x => hid (Cal.f140 s t (d) x)
        by_cases hg : s ≤ d ∧ d ≤ t
        · simp only [decide_eq_true hg] at HC
          have HY := hid (HHit.out (by unfold t1; rw [if_neg hneg]; exact m1_true hg))
          clear hg
          go_wp2_with fail
          refine (HC _).out.mono ?_
          rintro e w2 ⟨rfl, hb⟩
          have HD2 := hid (HD1.out.mv hb.out)
          clear hb
          go_wp2
          go_ret
          exact ⟨by rw [HY.out]; rfl, HD2.out.bel⟩
        · simp only [decide_eq_false hg] at HC
          have HY : Hid ((l.take (j + 1)).any (t1 d L) = false) := by unfold Hid; rw [HNx.out, HA.out, Bool.false_or]; unfold t1; rw [if_neg hneg]; exact m1_false hg
          clear hg
          go_wp2_with fail
          refine (HC _).out.mono ?_
          rintro e w2 ⟨rfl, hb⟩
          have HD2 := hid (HD1.out.mv hb.out)
          clear hb
          go_wp2
          go_roundw
          case rel => exact ⟨j + 1, by omega, by go_num, HY, HD2⟩
          case measure => simp [intOf]; omega
    · have HF : Hid (ld l d L = l.isEmpty) := by
        have h := HA.out
        rw [List.take_of_length_le (by have := HN.out; omega)] at h
        unfold Hid ld
        rw [h, Bool.or_false]
      have i1 : ¬ (j : Int) < (n : Int) := by omega
      by_cases g : n = 0
      · have e0' : ((n : Int) == 0) = true := by simp [g]
        have HY : Hid (l.isEmpty = true) := by have := HN.out; rw [Hid, empty_len]; exact decide_eq_true (by omega)
        clear g
        go_wp2
        go_ret
        exact ⟨by rw [HF.out, HY.out]; rfl, HD.out.bel⟩
      · have e0' : ((n : Int) == 0) = false := by simp [g]
        have HY : Hid (l.isEmpty = false) := by have := HN.out; rw [Hid, empty_len]; exact decide_eq_false (by omega)
        clear g
        go_wp2
        go_ret
        exact ⟨by rw [HF.out, HY.out]; rfl, HD.out.bel⟩

set_option maxHeartbeats 4000000 in
theorem have3 (a : Option Addr) (c : Nat) (l : List Sm) (y m d L wd mi : Int) (w : World) (hl : l.length ≤ 1048576) (hr : HasS w a l) :
    Calls Tryz.prog 119 #[.slice a l.length c, .int .i64 3, dv y m d L wd mi] w fun e w' => e = .returned (.bool (li l m)) ∧ Below w.heap.size w w' := by
  have HH := hid hr
  have HD := hid (Bd.first w y m d L wd mi)
  generalize hn : l.length = n at *
  have HN := hid hn
  clear hn hr
  obtain ⟨W, hW⟩ : ∃ W, W = (w.alloc (.cells #[.int .i64 y, .int .i64 m, .int .i64 d, .int .i64 L, .int .i64 wd, .int .i64 mi] 158)).alloc (.cells #[.int .i64 mi, .int .i64 wd, .int .i64 d, .int .i64 m, .int .i64 y] 184) := ⟨_, rfl⟩
  rw [← hW] at HD
  have HW := hid hW
  clear hW
  go_enter Tryz.func119, Tryz.ntmps119
  go_upto_region 2 with fail
  rw [← HW.out]
  clear HW
  go_wp2
  go_loopw [24] (fun s wr => ∃ j : Nat, j ≤ n ∧ s = .int .i64 j ∧ Hid ((l.take j).any (m1 m) = false) ∧ Hid (Bd w y m d L wd mi wr)) (fun s _ => n - (intOf s).toNat)
  case atStart => exact ⟨0, Nat.zero_le _, rfl, by simp [Hid], HD⟩
  case round =>
    clear HD
    obtain ⟨j, hj, rfl, HA, HD⟩ := hrel
    by_cases hlt : j < n
    · rcases HH.out.below HD.out.bel with hr | ⟨b, off, rfl, hbl, hc⟩
      · exact absurd HN.out (by rw [hr]; simp; omega)
      obtain ⟨d0, d1⟩ := hc j (by rw [HN.out]; exact hlt)
      have i1 : (j : Int) < (n : Int) := by omega
      have HNx := hid (any_next (m1 m) l (j := j) (by rw [HN.out]; exact hlt))
      have HHit : Hid ((m1 m) (l.getD j e0) = true → li l m = true) := fun h => by
        unfold li
        rw [any_hit (m1 m) (by rw [HN.out]; exact hlt) h, Bool.or_true]
      clear hc
      generalize l.getD j e0 = p at *
      obtain ⟨s, t⟩ := p
      have HD1 := hid (HD.out.mv ((Below.refl _ _).alloc (Nat.le_refl _) (.cells #[.int .i64 s, .int .i64 t] 109)))
      obtain ⟨X, hX⟩ : ∃ X, X = wr.alloc (.cells #[.int .i64 s, .int .i64 t] 109) := ⟨_, rfl⟩
      have HR0 : Hid (X.heap[wr.heap.size]? = some (.cells #[.int .i64 s, .int .i64 t] 109)) := by rw [hX]; exact heap_alloc_new wr _
      rw [← hX] at HD1
      have HX := hid hX
      clear hX
      go_upto_region 5 with fail
      rw [← HX.out]
      clear HX
      obtain ⟨x0, x1, x2, x3, x4, x5⟩ := HD1.out.cells
      have r0 := cell_at HR0.out 0
      have r1 := cell_at HR0.out 1
      generalize wr.heap.size = Z at *
      simp only [List.getElem?_toArray, List.getElem?_cons_zero, List.getElem?_cons_succ] at r0 r1
      have HC := fun x => hid (Cal.f140 s t (m) x)
      by_cases hg : s ≤ m ∧ m ≤ t
      · simp only [decide_eq_true hg] at HC
        have HY := hid (HHit.out (by exact m1_true hg))
        clear hg
        go_wp2_with fail
        refine (HC _).out.mono ?_
        rintro e w2 ⟨rfl, hb⟩
        have HD2 := hid (HD1.out.mv hb.out)
        clear hb
        go_wp2
        go_ret
        exact ⟨by rw [HY.out]; rfl, HD2.out.bel⟩
      · simp only [decide_eq_false hg] at HC
        have HY : Hid ((l.take (j + 1)).any (m1 m) = false) := by unfold Hid; rw [HNx.out, HA.out, Bool.false_or]; exact m1_false hg
        clear hg
        go_wp2_with fail
        refine (HC _).out.mono ?_
        rintro e w2 ⟨rfl, hb⟩
        have HD2 := hid (HD1.out.mv hb.out)
        clear hb
        go_wp2
        go_roundw
        case rel => exact ⟨j + 1, by omega, by go_num, HY, HD2⟩
        case measure => simp [intOf]; omega
    · have HF : Hid (li l m = l.isEmpty) := by
        have h := HA.out
        rw [List.take_of_length_le (by have := HN.out; omega)] at h
        unfold Hid li
        rw [h, Bool.or_false]
      have i1 : ¬ (j : Int) < (n : Int) := by omega
      by_cases g : n = 0
      · have e0' : ((n : Int) == 0) = true := by simp [g]
        have HY : Hid (l.isEmpty = true) := by have := HN.out; rw [Hid, empty_len]; exact decide_eq_true (by omega)
        clear g
        go_wp2
        go_ret
        exact ⟨by rw [HF.out, HY.out]; rfl, HD.out.bel⟩
      · have e0' : ((n : Int) == 0) = false := by simp [g]
        have HY : Hid (l.isEmpty = false) := by have := HN.out; rw [Hid, empty_len]; exact decide_eq_false (by omega)
        clear g
        go_wp2
        go_ret
        exact ⟨by rw [HF.out, HY.out]; rfl, HD.out.bel⟩

set_option maxHeartbeats 4000000 in
theorem have4 (a : Option Addr) (c : Nat) (l : List Sm) (y m d L wd mi : Int) (w : World) (hl : l.length ≤ 1048576) (hr : HasS w a l) :
    Calls Tryz.prog 119 #[.slice a l.length c, .int .i64 4, dv y m d L wd mi] w fun e w' => e = .returned (.bool (li l y)) ∧ Below w.heap.size w w' := by
  have HH := hid hr
  have HD := hid (Bd.first w y m d L wd mi)
  generalize hn : l.length = n at *
  have HN := hid hn
  clear hn hr
  obtain ⟨W, hW⟩ : ∃ W, W = (w.alloc (.cells #[.int .i64 y, .int .i64 m, .int .i64 d, .int .i64 L, .int .i64 wd, .int .i64 mi] 158)).alloc (.cells #[.int .i64 mi, .int .i64 wd, .int .i64 d, .int .i64 m, .int .i64 y] 184) := ⟨_, rfl⟩
  rw [← hW] at HD
  have HW := hid hW
  clear hW
  go_enter Tryz.func119, Tryz.ntmps119
  go_upto_region 2 with fail
  rw [← HW.out]
  clear HW
  go_wp2
  go_loopw [24] (fun s wr => ∃ j : Nat, j ≤ n ∧ s = .int .i64 j ∧ Hid ((l.take j).any (m1 y) = false) ∧ Hid (Bd w y m d L wd mi wr)) (fun s _ => n - (intOf s).toNat)
  case atStart => exact ⟨0, Nat.zero_le _, rfl, by simp [Hid], HD⟩
  case round =>
    clear HD
    obtain ⟨j, hj, rfl, HA, HD⟩ := hrel
    by_cases hlt : j < n
    · rcases HH.out.below HD.out.bel with hr | ⟨b, off, rfl, hbl, hc⟩
      · exact absurd HN.out (by rw [hr]; simp; omega)
      obtain ⟨d0, d1⟩ := hc j (by rw [HN.out]; exact hlt)
      have i1 : (j : Int) < (n : Int) := by omega
      have HNx := hid (any_next (m1 y) l (j := j) (by rw [HN.out]; exact hlt))
      have HHit : Hid ((m1 y) (l.getD j e0) = true → li l y = true) := fun h => by
        unfold li
        rw [any_hit (m1 y) (by rw [HN.out]; exact hlt) h, Bool.or_true]
      clear hc
      generalize l.getD j e0 = p at *
      obtain ⟨s, t⟩ := p
      have HD1 := hid (HD.out.mv ((Below.refl _ _).alloc (Nat.le_refl _) (.cells #[.int .i64 s, .int .i64 t] 109)))
      obtain ⟨X, hX⟩ : ∃ X, X = wr.alloc (.cells #[.int .i64 s, .int .i64 t] 109) := ⟨_, rfl⟩
      have HR0 : Hid (X.heap[wr.heap.size]? = some (.cells #[.int .i64 s, .int .i64 t] 109)) := by rw [hX]; exact heap_alloc_new wr _
      rw [← hX] at HD1
      have HX := hid hX
      clear hX
      go_upto_region 5 with fail
      rw [← HX.out]
      clear HX
      obtain ⟨x0, x1, x2, x3, x4, x5⟩ := HD1.out.cells
      have r0 := cell_at HR0.out 0
      have r1 := cell_at HR0.out 1
      generalize wr.heap.size = Z at *
      simp only [List.getElem?_toArray, List.getElem?_cons_zero, List.getElem?_cons_succ] at r0 r1
      have HC := fun x => hid (Cal.f140 s t (y) x)
      by_cases hg : s ≤ y ∧ y ≤ t
      · simp only [decide_eq_true hg] at HC
        have HY := hid (HHit.out (by exact m1_true hg))
        clear hg
        go_wp2_with fail
        refine (HC _).out.mono ?_
        rintro e w2 ⟨rfl, hb⟩
        have HD2 := hid (HD1.out.mv hb.out)
        clear hb
        go_wp2
        go_ret
        exact ⟨by rw [HY.out]; rfl, HD2.out.bel⟩
      · simp only [decide_eq_false hg] at HC
        have HY : Hid ((l.take (j + 1)).any (m1 y) = false) := by unfold Hid; rw [HNx.out, HA.out, Bool.false_or]; exact m1_false hg
        clear hg
        go_wp2_with fail
        refine (HC _).out.mono ?_
        rintro e w2 ⟨rfl, hb⟩
        have HD2 := hid (HD1.out.mv hb.out)
        clear hb
        go_wp2
        go_roundw
        case rel => exact ⟨j + 1, by omega, by go_num, HY, HD2⟩
        case measure => simp [intOf]; omega
    · have HF : Hid (li l y = l.isEmpty) := by
        have h := HA.out
        rw [List.take_of_length_le (by have := HN.out; omega)] at h
        unfold Hid li
        rw [h, Bool.or_false]
      have i1 : ¬ (j : Int) < (n : Int) := by omega
      by_cases g : n = 0
      · have e0' : ((n : Int) == 0) = true := by simp [g]
        have HY : Hid (l.isEmpty = true) := by have := HN.out; rw [Hid, empty_len]; exact decide_eq_true (by omega)
        clear g
        go_wp2
        go_ret
        exact ⟨by rw [HF.out, HY.out]; rfl, HD.out.bel⟩
      · have e0' : ((n : Int) == 0) = false := by simp [g]
        have HY : Hid (l.isEmpty = false) := by have := HN.out; rw [Hid, empty_len]; exact decide_eq_false (by omega)
        clear g
        go_wp2
        go_ret
        exact ⟨by rw [HF.out, HY.out]; rfl, HD.out.bel⟩

set_option maxHeartbeats 2000000 in
theorem f114 (a : Option Addr) (c : Nat) (l : List Sm) (x : Int) (w : World) (hl : l.length ≤ 1048576) (hr : HasS w a l) :
    Calls Tryz.prog 114 #[.slice a l.length c, .int .i64 x] w fun e w' => e = .returned (.bool (li l x)) ∧ Below w.heap.size w w' := by
  have HH := hid hr
  generalize hn : l.length = n at *
  have HN := hid hn
  clear hn hr
  have HE : Hid (l.isEmpty = ((n : Int) == 0)) := by
    have := HN.out
    rw [Hid, empty_len]
    by_cases g : n = 0
    · simp [g, this]
    · rw [decide_eq_false (by omega)]; symm; simpa using g
  go_enter Tryz.func114, Tryz.ntmps114
  go_wp2
  go_loopw [5, 13] (fun s5 s wr => ∃ (j : Nat) (b : Bool), j ≤ n ∧ s = .int .i64 j ∧ s5 = .bool b ∧ Hid (b = (l.isEmpty || (l.take j).any (m1 x))) ∧ Hid (Below w.heap.size w wr)) (fun _ s _ => n - (intOf s).toNat)
  case atStart => exact ⟨0, ((n : Int) == 0), Nat.zero_le _, rfl, rfl, by simp [Hid, HE.out], Below.refl _ _⟩
  case round =>
    obtain ⟨j, b5, hj, rfl, rfl, HA, HB⟩ := hrel
    by_cases hlt : j < n
    · rcases HH.out.below HB.out with hr | ⟨b, off, rfl, hbl, hc⟩
      · exact absurd HN.out (by rw [hr]; simp; omega)
      obtain ⟨d0, d1⟩ := hc j (by rw [HN.out]; exact hlt)
      have i1 : (j : Int) < (n : Int) := by omega
      have HNx := hid (any_next (m1 x) l (j := j) (by rw [HN.out]; exact hlt))
      clear hc
      generalize l.getD j e0 = p at *
      obtain ⟨s, t⟩ := p
      have HB1 := hid (HB.out.alloc HB.out.size (.cells #[.int .i64 s, .int .i64 t] 109))
      cases b5
      · have HA0 : Hid ((l.isEmpty || (l.take (j + 1)).any (m1 x)) = m1 x (s, t)) := by
          have h := HA.out
          unfold Hid
          rw [HNx.out, ← Bool.or_assoc, ← h, Bool.false_or]
        by_cases q1 : x ≥ s
        · by_cases q2 : x ≤ t
          · have HY : Hid (true = (l.isEmpty || (l.take (j + 1)).any (m1 x))) := by rw [Hid, HA0.out]; exact (m1_true ⟨q1, q2⟩).symm
            go_wp2
            go_roundw
            case rel => exact ⟨j + 1, true, by omega, by go_num, by first | rfl | simp [q1, q2], HY, HB1⟩
            case measure => simp [intOf]; omega
          · have HY : Hid (false = (l.isEmpty || (l.take (j + 1)).any (m1 x))) := by rw [Hid, HA0.out]; exact (m1_false (fun h => q2 h.2)).symm
            go_wp2
            go_roundw
            case rel => exact ⟨j + 1, false, by omega, by go_num, by first | rfl | simp [q2], HY, HB1⟩
            case measure => simp [intOf]; omega
        · have HY : Hid (false = (l.isEmpty || (l.take (j + 1)).any (m1 x))) := by rw [Hid, HA0.out]; exact (m1_false (fun h => q1 h.1)).symm
          go_wp2
          go_roundw
          case rel => exact ⟨j + 1, false, by omega, by go_num, by first | rfl | simp [q1], HY, HB1⟩
          case measure => simp [intOf]; omega
      · have HY : Hid (true = (l.isEmpty || (l.take (j + 1)).any (m1 x))) := by
          have h := HA.out
          unfold Hid
          rw [HNx.out, ← Bool.or_assoc, ← h, Bool.true_or]
        go_wp2
        go_roundw
        case rel => exact ⟨j + 1, true, by omega, by go_num, rfl, HY, HB1⟩
        case measure => simp [intOf]; omega
    · have HF : Hid (b5 = li l x) := by
        have h := HA.out
        rw [List.take_of_length_le (by have := HN.out; omega)] at h
        exact h
      have i1 : ¬ (j : Int) < (n : Int) := by omega
      go_wp2
      go_ret
      exact ⟨by rw [← HF.out]; rfl, HB.out⟩

set_option maxHeartbeats 2000000 in
theorem f141 (a : Option Addr) (c : Nat) (l : List Int) (x : Int) (w : World) (hl : l.length ≤ 1048576) (hr : Ino.Has w a l) :
    Calls Tryz.prog 141 #[.slice a l.length c, .int .i64 x] w fun e w' => ∃ r : Int, e = .returned (.int .i64 r) ∧ Hid (0 ≤ r ↔ x ∈ l) ∧ w' = w := by
  have HH := hid hr
  generalize hn : l.length = n at *
  have HN := hid hn
  clear hn hr
  go_enter Tryz.func141, Tryz.ntmps141
  go_wp2
  go_loopw [8] (fun s wr => ∃ j : Nat, j ≤ n ∧ s = .int .i64 j ∧ Hid (x ∉ l.take j) ∧ Hid (wr = w)) (fun s _ => n - (intOf s).toNat)
  case atStart => exact ⟨0, Nat.zero_le _, rfl, by simp [Hid], rfl⟩
  case round =>
    obtain ⟨j, hj, rfl, HA, HW⟩ := hrel
    obtain rfl := HW.out.symm
    by_cases hlt : j < n
    · rcases HH.out with hr | ⟨b, off, rfl, hbl, hc⟩
      · exact absurd HN.out (by rw [hr]; simp; omega)
      have d0 := hc j (by rw [HN.out]; exact hlt)
      have i1 : (j : Int) < (n : Int) := by omega
      have hjl : j < l.length := by rw [HN.out]; exact hlt
      have e1 : Hid (l.take (j + 1) = l.take j ++ [l.getD j 0]) := by unfold Hid; rw [List.take_succ_eq_append_getElem hjl]; simp [hjl]
      have e2 : Hid (l.getD j 0 ∈ l) := by unfold Hid; simp [hjl]
      clear hc hjl
      generalize l.getD j 0 = p at *
      by_cases h3 : x = p
      · subst h3
        have h4 : (x == x) = true := by simp
        go_wp2
        go_ret
        exact ⟨j, rfl, ⟨fun _ => e2.out, fun _ => by omega⟩, rfl⟩
      · have h4 : (x == p) = false := by rw [beq_eq_false_iff_ne]; exact h3
        have h5 := hid h3
        clear h3
        go_wp2
        go_roundw
        case rel => exact ⟨j + 1, by omega, by go_num, by unfold Hid; rw [e1.out]; intro hm; rcases List.mem_append.1 hm with hm | hm; exact HA.out hm; exact h5.out (List.mem_singleton.1 hm), trivial⟩
        case measure => simp [intOf]; omega
    · have e5 : Hid (x ∉ l) := by have h1 := HA.out; have h2 := HN.out; rw [List.take_of_length_le (by omega)] at h1; exact h1
      have i1 : ¬ (j : Int) < (n : Int) := by omega
      go_wp2
      go_ret
      exact ⟨-1, rfl, ⟨fun h => absurd h (by omega), fun h => absurd h e5.out⟩, rfl⟩
theorem f120 (a : Option Addr) (c : Nat) (l : List Int) (x : Int) (w : World) (hl : l.length ≤ 1048576) (hr : Ino.Has w a l) :
    Calls Tryz.prog 120 #[.slice a l.length c, .int .i64 x] w fun e w' => e = .returned (.bool (decide (x ∈ l))) ∧ w' = w := by
  have HC := hid (f141 a c l x w hl hr)
  go_enter Tryz.func120, Tryz.ntmps120
  go_wp2_with fail
  refine HC.out.mono ?_
  rintro e w1 ⟨r, rfl, HI, hw⟩; subst w1
  have HE : Hid (decide (x ∈ l) = decide (0 ≤ r)) := decide_eq_decide.2 HI.out.symm
  go_wp2
  go_ret
  exact ⟨by rw [HE.out]; rfl, rfl⟩
end Go.Proofs.YthcogkoleiejgaaGreatDoor.Rng
