/- Good members: faults, both GoodMembers. -/
import Derived.Test.YthcogkoleiejgaaGreatDoorRNcb
import Derived.Test.YthcogkoleiejgaaGreatDoorRMcr
import Derived.Test.YthcogkoleiejgaaGreatDoorRNmt
namespace Go.Proofs.YthcogkoleiejgaaGreatDoor.Ntf
open Go.RowKit
open Go.Proofs.YthcogkoleiejgaaGreatDoor.Rwc
open Go.Proofs.YthcogkoleiejgaaGreatDoor.Nmt (isT)
open Go.Proofs.YthcogkoleiejgaaGreatDoor.Ctl (Ag HasA AtA a0)

/-- A fault between members up to A, and up to B. -/
def fltP (A B : Int) (q : Ag) : Prop := isT q.f = true ∧ isT q.t = true ∧ 0 ≤ q.a ∧ q.a ≤ A ∧ 0 ≤ q.b ∧ q.b ≤ B
instance (A B : Int) (q : Ag) : Decidable (fltP A B q) := by unfold fltP; infer_instance
def FltP (A B : Int) (l : List Ag) (k : Nat) : Prop := ∀ i, i < k → fltP A B (l.getD i a0)
instance (A B : Int) (l : List Ag) (k : Nat) : Decidable (FltP A B l k) := by unfold FltP; infer_instance
def flt (A B : Int) (l : List Ag) : Bool := decide (l.length ≤ 20 ∧ FltP A B l l.length)
theorem flt_long {A B : Int} {l : List Ag} (h : 20 < l.length) : flt A B l = false := decide_eq_false fun g => by have := g.1; omega
theorem flt_no {A B : Int} {l : List Ag} {k : Nat} (hk : k < l.length) (h : ¬ fltP A B (l.getD k a0)) : flt A B l = false := decide_eq_false fun g => h (g.2 k hk)
theorem flt_yes {A B : Int} {l : List Ag} {k : Nat} (hk : l.length ≤ k) (h : FltP A B l k) (hl : l.length ≤ 20) : flt A B l = true := decide_eq_true ⟨hl, fun i hi => h i (by omega)⟩
theorem FltP.succ {A B : Int} {l : List Ag} {k : Nat} (h : FltP A B l k) (g : fltP A B (l.getD k a0)) : FltP A B l (k + 1) := by
  intro i hi
  by_cases e : i = k
  · subst e; exact g
  · exact h i (by omega)
theorem at_cut {w : World} {a : Option Addr} {l : List Ag} (h : HasA w a l) {k : Nat} (hk : k < l.length) : ∃ b off, a = some ⟨b, off, none⟩ ∧ AtA w b (off + k * 4) (l.getD k a0) := by
  rcases h with h | ⟨b, off, h1, h2, h3⟩
  · rw [h] at hk; simp at hk
  · exact ⟨b, off, h1, h3 k hk⟩
abbrev BXQ (q : Ag) : Obj := .cells #[.int .i64 q.a, .int .i64 q.b, .int .i64 q.f, .int .i64 q.t] 128

set_option maxHeartbeats 4000000 in
theorem f44 (a : Option Addr) (n c : Nat) (A B : Int) (l : List Ag) (w : World) (hn : l.length = n) (hb : n ≤ 1048576) (hr : HasA w a l) :
    Calls Tryz.prog 44 #[.slice a n c, .int .i64 A, .int .i64 B] w fun e w' => e = .returned (.bool (flt A B l)) ∧ Below w.heap.size w w' := by
  have HN := hid hn
  have HR := hid hr
  clear hn hr
  by_cases g : (n : Int) > 20
  · have HX := hid (flt_long (A := A) (B := B) (l := l) (by have := HN.out; omega))
    go_enter Tryz.func44, Tryz.ntmps44
    go_wp2
    go_ret
    exact ⟨by rw [HX.out]; rfl, Below.refl _ _⟩
  go_enter Tryz.func44, Tryz.ntmps44
  go_wp2
  go_loopw [14] (fun i wr => ∃ k : Nat, k ≤ n ∧ i = .int .i64 k ∧ Hid (FltP A B l k) ∧ Hid (Below w.heap.size w wr)) (fun i _ => n - (intOf i).toNat)
  case atStart => exact ⟨0, Nat.zero_le _, rfl, fun i hi => absurd hi (by omega), Below.refl _ _⟩
  case round =>
    obtain ⟨k, hk, rfl, HA, HB⟩ := hrel
    by_cases hlt : k < n
    rotate_left
    · have HY := hid (flt_yes (A := A) (B := B) (l := l) (k := k) (by have := HN.out; omega) HA.out (by have := HN.out; omega))
      have i1 : ¬ (k : Int) < (n : Int) := by omega
      go_wp2
      go_ret
      exact ⟨by rw [HY.out]; rfl, HB.out⟩
    obtain ⟨b, off, rfl, hc⟩ := at_cut (HR.out.below HB.out) (k := k) (by rw [HN.out]; exact hlt)
    obtain ⟨d0, d1, d2, d3⟩ := hc
    have HNo : Hid (¬ fltP A B (l.getD k a0) → flt A B l = false) := fun h => flt_no (by rw [HN.out]; exact hlt) h
    have HNx : Hid (fltP A B (l.getD k a0) → FltP A B l (k + 1)) := fun h => HA.out.succ h
    have i1 : (k : Int) < (n : Int) := by omega
    generalize l.getD k a0 = q at *
    obtain ⟨qa, qb, qf, qt⟩ := q
    simp only at d0 d1 d2 d3
    have HB0 := hid (HB.out.alloc HB.out.size (BXQ ⟨qa, qb, qf, qt⟩))
    have HQ0 := hid (heap_alloc_new wr (BXQ ⟨qa, qb, qf, qt⟩))
    have H1 := fun x => hid (Nmt.f43 qf x)
    have H2 := fun x => hid (Nmt.f43 qt x)
    have HD : Hid (fltP A B ⟨qa, qb, qf, qt⟩ ↔ isT qf = true ∧ isT qt = true ∧ 0 ≤ qa ∧ qa ≤ A ∧ 0 ≤ qb ∧ qb ≤ B) := Iff.rfl
    generalize fltP A B ⟨qa, qb, qf, qt⟩ = FP at *
    generalize isT qf = b1 at *
    generalize isT qt = b2 at *
    obtain ⟨W0, hW⟩ : ∃ W, W = wr.alloc (BXQ ⟨qa, qb, qf, qt⟩) := ⟨_, rfl⟩
    rw [← hW] at HB0 HQ0
    have HW := hid hW
    clear hW
    go_upto_region 6 with fail
    rw [← HW.out]
    clear HW d0 d1 d2 d3 HB
    obtain ⟨x0, x1, x2, x3⟩ := cells4 HQ0.out
    cases b1
    · have HY := hid (HNo.out (fun h => by have := (HD.out.1 h).1; cases this))
      go_wp2_with fail
      refine (H1 _).out.mono ?_
      rintro e w1 ⟨rfl, hw⟩
      subst w1
      go_wp2
      go_ret
      exact ⟨by rw [HY.out]; rfl, HB0.out⟩
    go_wp2_with fail
    refine (H1 _).out.mono ?_
    rintro e w1 ⟨rfl, hw⟩
    subst w1
    cases b2
    · have HY := hid (HNo.out (fun h => by have := (HD.out.1 h).2.1; cases this))
      go_wp2_with fail
      refine (H2 _).out.mono ?_
      rintro e w2 ⟨rfl, hw⟩
      subst w2
      go_wp2
      go_ret
      exact ⟨by rw [HY.out]; rfl, HB0.out⟩
    by_cases g1 : qa < 0
    · have HY := hid (HNo.out (fun h => by have := HD.out.1 h; omega))
      go_wp2_with fail
      refine (H2 _).out.mono ?_
      rintro e w2 ⟨rfl, hw⟩
      subst w2
      go_wp2
      go_ret
      exact ⟨by rw [HY.out]; rfl, HB0.out⟩
    by_cases g2 : qa > A
    · have HY := hid (HNo.out (fun h => by have := HD.out.1 h; omega))
      go_wp2_with fail
      refine (H2 _).out.mono ?_
      rintro e w2 ⟨rfl, hw⟩
      subst w2
      go_wp2
      go_ret
      exact ⟨by rw [HY.out]; rfl, HB0.out⟩
    by_cases g3 : qb < 0
    · have HY := hid (HNo.out (fun h => by have := HD.out.1 h; omega))
      go_wp2_with fail
      refine (H2 _).out.mono ?_
      rintro e w2 ⟨rfl, hw⟩
      subst w2
      go_wp2
      go_ret
      exact ⟨by rw [HY.out]; rfl, HB0.out⟩
    by_cases g4 : qb > B
    · have HY := hid (HNo.out (fun h => by have := HD.out.1 h; omega))
      go_wp2_with fail
      refine (H2 _).out.mono ?_
      rintro e w2 ⟨rfl, hw⟩
      subst w2
      go_wp2
      go_ret
      exact ⟨by rw [HY.out]; rfl, HB0.out⟩
    have HY := hid (HNx.out (HD.out.2 ⟨by first | rfl | trivial, by first | rfl | trivial, by omega, by omega, by omega, by omega⟩))
    go_wp2_with fail
    refine (H2 _).out.mono ?_
    rintro e w2 ⟨rfl, hw⟩
    subst w2
    go_wp2
    go_roundw
    case rel => exact ⟨k + 1, by omega, by go_num, HY, HB0⟩
    case measure => simp [intOf]; omega

set_option maxHeartbeats 8000000 in
theorem f41 (a : Option Addr) (n c : Nat) (m : Int) (dn : Bool) (l : List Ag) (w : World) (hm : 1 ≤ m) (hn : l.length = n) (hb : n ≤ 1048576) (hr : HasA w a l) :
    Calls Tryz.prog 41 #[.slice a n c, .int .i64 m, .bool dn] w fun e w' => e = .returned (.bool (flt (m - 1) (if dn then 0 else m - 1) l)) ∧ Below w.heap.size w w' := by
  have HN := hid hn
  have HR := hid hr
  clear hn hr
  generalize hBB : (if dn = true then (0 : Int) else m - 1) = B at *
  have HBB := hid hBB
  clear hBB
  go_enter Tryz.func41, Tryz.ntmps41
  go_wp2
  go_loopw [11] (fun i wr => ∃ k : Nat, k ≤ n ∧ i = .int .i64 k ∧ Hid (FltP (m - 1) B l k) ∧ Hid (Below w.heap.size w wr)) (fun i _ => n - (intOf i).toNat)
  case atStart => exact ⟨0, Nat.zero_le _, rfl, fun i hi => absurd hi (by omega), Below.refl _ _⟩
  case round =>
    obtain ⟨k, hk, rfl, HA, HB⟩ := hrel
    by_cases hlt : k < n
    rotate_left
    · have i1 : ¬ (k : Int) < (n : Int) := by omega
      by_cases g20 : (n : Int) ≤ 20
      · have HY := hid (flt_yes (A := m - 1) (B := B) (l := l) (k := k) (by have := HN.out; omega) HA.out (by have := HN.out; omega))
        go_wp2
        go_ret
        exact ⟨by rw [HY.out]; rfl, HB.out⟩
      · have HY := hid (flt_long (A := m - 1) (B := B) (l := l) (by have := HN.out; omega))
        go_wp2
        go_ret
        exact ⟨by rw [HY.out]; rfl, HB.out⟩
    obtain ⟨b, off, rfl, hc⟩ := at_cut (HR.out.below HB.out) (k := k) (by rw [HN.out]; exact hlt)
    obtain ⟨d0, d1, d2, d3⟩ := hc
    have HNo : Hid (¬ fltP (m - 1) B (l.getD k a0) → flt (m - 1) B l = false) := fun h => flt_no (by rw [HN.out]; exact hlt) h
    have HNx : Hid (fltP (m - 1) B (l.getD k a0) → FltP (m - 1) B l (k + 1)) := fun h => HA.out.succ h
    have i1 : (k : Int) < (n : Int) := by omega
    generalize l.getD k a0 = q at *
    obtain ⟨qa, qb, qf, qt⟩ := q
    simp only at d0 d1 d2 d3
    have HB0 := hid (HB.out.alloc HB.out.size (BXQ ⟨qa, qb, qf, qt⟩))
    have HQ0 := hid (heap_alloc_new wr (BXQ ⟨qa, qb, qf, qt⟩))
    have H1 := fun x => hid (Nmt.f40 qf x)
    have H2 := fun x => hid (Nmt.f40 qt x)
    have HD : Hid (fltP (m - 1) B ⟨qa, qb, qf, qt⟩ ↔ isT qf = true ∧ isT qt = true ∧ 0 ≤ qa ∧ qa ≤ m - 1 ∧ 0 ≤ qb ∧ qb ≤ B) := Iff.rfl
    generalize fltP (m - 1) B ⟨qa, qb, qf, qt⟩ = FP at *
    generalize isT qf = b1 at *
    generalize isT qt = b2 at *
    obtain ⟨W0, hW⟩ : ∃ W, W = wr.alloc (BXQ ⟨qa, qb, qf, qt⟩) := ⟨_, rfl⟩
    rw [← hW] at HB0 HQ0
    have HW := hid hW
    clear hW
    go_upto_region 4 with fail
    rw [← HW.out]
    clear HW d0 d1 d2 d3 HB
    obtain ⟨x0, x1, x2, x3⟩ := cells4 HQ0.out
    have HBm : Hid (B ≤ m - 1) := by have := HBB.out; unfold Hid; split at this <;> omega
    by_cases g1 : qa < 0
    · have HY := hid (HNo.out (fun h => by have := HD.out.1 h; have := HBm.out; omega))
      go_wp2
      go_ret
      exact ⟨by rw [HY.out]; rfl, HB0.out⟩
    by_cases g2 : qa ≥ m
    · have HY := hid (HNo.out (fun h => by have := HD.out.1 h; have := HBm.out; omega))
      go_wp2
      go_ret
      exact ⟨by rw [HY.out]; rfl, HB0.out⟩
    by_cases g3 : qb < 0
    · have HY := hid (HNo.out (fun h => by have := HD.out.1 h; have := HBm.out; omega))
      go_wp2
      go_ret
      exact ⟨by rw [HY.out]; rfl, HB0.out⟩
    by_cases g4 : qb ≥ m
    · have HY := hid (HNo.out (fun h => by have := HD.out.1 h; have := HBm.out; omega))
      go_wp2
      go_ret
      exact ⟨by rw [HY.out]; rfl, HB0.out⟩
    cases b1
    · have HY := hid (HNo.out (fun h => by have := (HD.out.1 h).1; cases this))
      go_wp2_with fail
      refine (H1 _).out.mono ?_
      rintro e w1 ⟨rfl, hw⟩
      subst w1
      go_wp2
      go_ret
      exact ⟨by rw [HY.out]; rfl, HB0.out⟩
    go_wp2_with fail
    refine (H1 _).out.mono ?_
    rintro e w1 ⟨rfl, hw⟩
    subst w1
    cases b2
    · have HY := hid (HNo.out (fun h => by have := (HD.out.1 h).2.1; cases this))
      go_wp2_with fail
      refine (H2 _).out.mono ?_
      rintro e w2 ⟨rfl, hw⟩
      subst w2
      go_wp2
      go_ret
      exact ⟨by rw [HY.out]; rfl, HB0.out⟩
    cases dn
    · have hB : B = m - 1 := HBB.out.symm
      have HY := hid (HNx.out (HD.out.2 ⟨by first | rfl | trivial, by first | rfl | trivial, by omega, by omega, by omega, by omega⟩))
      clear hB
      go_wp2_with fail
      refine (H2 _).out.mono ?_
      rintro e w2 ⟨rfl, hw⟩
      subst w2
      go_wp2
      go_roundw
      case rel => exact ⟨k + 1, by omega, by go_num, HY, HB0⟩
      case measure => simp [intOf]; omega
    · have hB : B = 0 := HBB.out.symm
      by_cases g5 : qb = 0
      · have HY := hid (HNx.out (HD.out.2 ⟨by first | rfl | trivial, by first | rfl | trivial, by omega, by omega, by omega, by omega⟩))
        have g6 : (qb != 0) = false := by simp [g5]
        clear hB g5
        go_wp2_with fail
        refine (H2 _).out.mono ?_
        rintro e w2 ⟨rfl, hw⟩
        subst w2
        go_wp2
        go_roundw
        case rel => exact ⟨k + 1, by omega, by go_num, HY, HB0⟩
        case measure => simp [intOf]; omega
      · have HY := hid (HNo.out (fun h => by have := HD.out.1 h; omega))
        have g6 : (qb != 0) = true := by simp [g5]
        clear hB
        go_wp2_with fail
        refine (H2 _).out.mono ?_
        rintro e w2 ⟨rfl, hw⟩
        subst w2
        go_wp2
        go_ret
        exact ⟨by rw [HY.out]; rfl, HB0.out⟩

theorem Mcf_cells {x : World} {b : Nat} {v0 v1 v2 v3 : Value} {t : TypeId} (h : x.heap[b]? = some (.cells #[v0, v1, v2, v3] t)) : x.cell? ⟨b, 0, none⟩ = some v0 ∧ x.cell? ⟨b, 1, none⟩ = some v1 ∧ x.cell? ⟨b, 2, none⟩ = some v2 ∧ x.cell? ⟨b, 3, none⟩ = some v3 := cells4 h
/-- The last member does its flush ahead of the first one's next. -/
def EvP (c : C) (z : Int) (k : Nat) : Prop := ∀ i, i < k → z < (c.r.getD i Rou.t0).ev
instance (c : C) (z : Int) (k : Nat) : Decidable (EvP c z k) := by unfold EvP; infer_instance
theorem EvP.succ {c : C} {z : Int} {k : Nat} (h : EvP c z k) (g : z < (c.r.getD k Rou.t0).ev) : EvP c z (k + 1) := by
  intro i hi
  by_cases e : i = k
  · subst e; exact g
  · exact h i (by omega)
/-- What is asked of members. -/
noncomputable def gM (c : C) (m : Mcf.T) : Bool := gN c && decide (1 ≤ m.n ∧ m.n ≤ 5) && isT m.p && decide (EvP c ((m.n - 1) * m.p) c.r.length) && flt (m.n - 1) (m.n - 1) m.cs && flt (m.n - 1) 0 m.ds
theorem ev_pl {q q' : Rou.T} (h : Rou.pl q' = Rou.pl q) : q'.ev = q.ev := congrArg Rou.Pl.ev h
theorem gM_same {c d : C} {m m' : Mcf.T} (h : Same c d) (g : Mcf.pl m' = Mcf.pl m) : gM d m' = gM c m := by
  have e1 : m'.n = m.n := congrArg Mcf.Pl.n g
  have e2 : m'.p = m.p := congrArg Mcf.Pl.p g
  have e3 : m'.cs = m.cs := congrArg Mcf.Pl.cs g
  have e4 : m'.ds = m.ds := congrArg Mcf.Pl.ds g
  unfold gM
  rw [gN_same h, e1, e2, e3, e4, h.r.1]
  have : decide (EvP d ((m.n - 1) * m.p) c.r.length) = decide (EvP c ((m.n - 1) * m.p) c.r.length) :=
    decide_eq_decide.2 ⟨fun x i hi => by have := x i hi; rw [ev_pl (h.r.2 i hi)] at this; exact this, fun x i hi => by rw [ev_pl (h.r.2 i hi)]; exact x i hi⟩
  rw [this]
theorem isT_iff {z : Int} : isT z = true ↔ 0 ≤ z ∧ z ≤ 1000000000000 := by unfold isT; simp
theorem mul_fit {n p : Int} (h1 : 1 ≤ n) (h2 : n ≤ 5) (h3 : 0 ≤ p) (h4 : p ≤ 1000000000000) : 0 ≤ (n - 1) * p ∧ (n - 1) * p ≤ 4000000000000 := by
  rcases (show n = 1 ∨ n = 2 ∨ n = 3 ∨ n = 4 ∨ n = 5 by omega) with rfl | rfl | rfl | rfl | rfl <;> omega
abbrev BXM (m : Mcf.T) : Obj := .cells (Mcf.arT m) 46
/-- The call's own two boxes. -/
structure Gb (w : World) (c : C) (m : Mcf.T) (x : World) : Prop where
  c : x.heap[w.heap.size]? = some (BXC c)
  m : x.heap[w.heap.size + 1]? = some (BXM m)
  bel : Below w.heap.size w x
theorem Gb.mv {w : World} {c : C} {m : Mcf.T} {x y : World} (h : Gb w c m x) (hb : Below x.heap.size x y) : Gb w c m y := ⟨kept h.c hb, kept h.m hb, h.bel.trans (hb.mono h.bel.size)⟩
theorem Gb.first (w : World) (c : C) (m : Mcf.T) : Gb w c m ((w.alloc (BXC c)).alloc (BXM m)) := by
  have b1 := (Below.refl (w.alloc (BXC c)).heap.size (w.alloc (BXC c))).alloc (Nat.le_refl _) (BXM m)
  refine ⟨kept (heap_alloc_new w _) b1, ?_, ((Below.refl _ _).alloc (Nat.le_refl _) _).alloc (by simp) _⟩
  have := heap_alloc_new (w.alloc (BXC c)) (BXM m)
  simpa using this

set_option maxHeartbeats 8000000 in
theorem f14 (c : C) (m : Mcf.T) (w : World) (hr : Has w c) (hf : Fit c) (hz : Sml c) (hm : Mcf.Lst w m) (hs : Mcf.wt m ≤ 1048576) (hR : Cal.Rgl w) :
    Calls Tryz.prog 14 #[agC c, Mcf.agT m] w fun e w' => e = .returned (.bool (gM c m)) ∧ Below w.heap.size w w' := by
  have HG0 := hid (Gb.first w c m)
  have HR := hid hr
  have HM := hid hm
  have hsc : m.cs.length ≤ 1048576 := by unfold Mcf.wt at hs; omega
  have hsd : m.ds.length ≤ 1048576 := by unfold Mcf.wt at hs; omega
  have H1 := fun x a b => hid (f9 c x a hf hz b)
  have HO : Hid (gM c m = (gN c && decide (1 ≤ m.n ∧ m.n ≤ 5) && isT m.p && decide (EvP c ((m.n - 1) * m.p) c.r.length) && flt (m.n - 1) (m.n - 1) m.cs && flt (m.n - 1) 0 m.ds)) := rfl
  have H2 := fun x => hid (Nmt.f43 m.p x)
  have hT := isT_iff (z := m.p)
  obtain ⟨b1, hb1⟩ : ∃ b, b = gN c := ⟨_, rfl⟩
  obtain ⟨b2, hb2⟩ : ∃ b, b = isT m.p := ⟨_, rfl⟩
  rw [← hb1, ← hb2] at HO
  rw [← hb1] at H1
  rw [← hb2] at H2 hT
  have HT := hid hT
  have Hn : Hid (c.r.length ≤ 1048576) := hz.r.1
  have HRG := hid hR
  clear hb1 hb2 hT hr hf hz hm hs hR
  obtain ⟨W0, hW⟩ : ∃ W, W = (w.alloc (BXC c)).alloc (BXM m) := ⟨_, rfl⟩
  rw [← hW] at HG0
  have HW := hid hW
  clear hW
  simp only [agC, Mcf.agT]
  go_enter Tryz.func14, Tryz.ntmps14
  go_upto_region 1 with fail
  rw [← HW.out]
  clear HW
  obtain ⟨x0, x1, x2, x3⟩ := cells4 HG0.out.c
  cases b1
  · have HY : Hid (gM c m = false) := by unfold Hid; rw [HO.out]; simp
    go_wp2_with fail
    refine (H1 _ (HR.out.below HG0.out.bel) (HRG.out.below HG0.out.bel)).out.mono ?_
    rintro e w1 ⟨rfl, hb⟩
    have HB1 := hid (HG0.out.bel.trans (hb.mono HG0.out.bel.size))
    clear hb
    go_wp2
    go_ret
    exact ⟨by rw [HY.out]; rfl, HB1.out⟩
  go_wp2_with fail
  refine (H1 _ (HR.out.below HG0.out.bel) (HRG.out.below HG0.out.bel)).out.mono ?_
  rintro e w1 ⟨rfl, hb⟩
  have HG1 := hid (HG0.out.mv hb)
  clear hb HG0 x0 x1 x2 x3 H1
  obtain ⟨y0, y1, y2, y3⟩ := cells4 HG1.out.m
  by_cases g1 : m.n < 1
  · have HY : Hid (gM c m = false) := by unfold Hid; rw [HO.out, decide_eq_false (show ¬ (1 ≤ m.n ∧ m.n ≤ 5) by omega)]; simp
    go_wp2
    go_ret
    exact ⟨by rw [HY.out]; rfl, HG1.out.bel⟩
  by_cases g2 : m.n > 5
  · have HY : Hid (gM c m = false) := by unfold Hid; rw [HO.out, decide_eq_false (show ¬ (1 ≤ m.n ∧ m.n ≤ 5) by omega)]; simp
    go_wp2
    go_ret
    exact ⟨by rw [HY.out]; rfl, HG1.out.bel⟩
  cases b2
  · have HY : Hid (gM c m = false) := by unfold Hid; rw [HO.out]; simp
    go_wp2_with fail
    refine (H2 _).out.mono ?_
    rintro e w2 ⟨rfl, hw⟩
    subst w2
    go_wp2
    go_ret
    exact ⟨by rw [HY.out]; rfl, HG1.out.bel⟩
  have hp := HT.out.1 rfl
  have HO2 : Hid (gM c m = (decide (EvP c ((m.n - 1) * m.p) c.r.length) && flt (m.n - 1) (m.n - 1) m.cs && flt (m.n - 1) 0 m.ds)) := by unfold Hid; rw [HO.out, decide_eq_true (show 1 ≤ m.n ∧ m.n ≤ 5 by omega)]; rfl
  obtain ⟨hz1, hz2⟩ := mul_fit (n := m.n) (p := m.p) (by omega) (by omega) hp.1 hp.2
  have hwr : IntKind.i64.wrap ((m.n - 1) * m.p) = (m.n - 1) * m.p := by rw [IntKind.wrap_i64]; omega
  clear HO HT
  go_wp2_with fail
  refine (H2 _).out.mono ?_
  rintro e w2 ⟨rfl, hw⟩
  subst w2
  generalize hn : c.r.length = n at *
  have HN := hid hn
  have hin := Hn.out
  obtain ⟨x0, x1, x2, x3⟩ := cells4 HG1.out.c
  rw [HN.out] at x0
  clear hn
  go_wp2
  go_loopw [33] (fun i wr => ∃ k : Nat, k ≤ n ∧ i = .int .i64 k ∧ Hid (EvP c ((m.n - 1) * m.p) k) ∧ Hid (Gb w c m wr)) (fun i _ => n - (intOf i).toNat)
  case atStart => exact ⟨0, Nat.zero_le _, rfl, fun i hi => absurd hi (by omega), HG1⟩
  case round =>
    clear HG1 x0 x1 x2 x3 y0 y1 y2 y3
    obtain ⟨k, hk, rfl, HA, HG⟩ := hrel
    by_cases hlt : k < n
    rotate_left
    · obtain rfl : k = n := by omega
      have i1 : ¬ (k : Int) < (k : Int) := by omega
      obtain ⟨y0, y1, y2, y3⟩ := cells4 HG.out.m
      have HO3 : Hid (gM c m = (flt (m.n - 1) (m.n - 1) m.cs && flt (m.n - 1) 0 m.ds)) := by unfold Hid; rw [HO2.out, decide_eq_true HA.out]; rfl
      have H3 := fun x a => hid (f44 m.ca m.cs.length m.cc (m.n - 1) (m.n - 1) m.cs x rfl hsc a)
      have H4 := fun x a => hid (f44 m.da m.ds.length m.dc (m.n - 1) 0 m.ds x rfl hsd a)
      generalize flt (m.n - 1) (m.n - 1) m.cs = b3 at *
      generalize flt (m.n - 1) 0 m.ds = b4 at *
      cases b3
      · have HY : Hid (gM c m = false) := by unfold Hid; rw [HO3.out]; rfl
        go_wp2_with fail
        refine (H3 _ (HM.out.c.below HG.out.bel)).out.mono ?_
        rintro e w3 ⟨rfl, hb⟩
        have HB3 := hid (HG.out.bel.trans (hb.mono HG.out.bel.size))
        clear hb
        go_wp2
        go_ret
        exact ⟨by rw [HY.out]; rfl, HB3.out⟩
      have HY : Hid (gM c m = b4) := by unfold Hid; rw [HO3.out]; simp
      go_wp2_with fail
      refine (H3 _ (HM.out.c.below HG.out.bel)).out.mono ?_
      rintro e w3 ⟨rfl, hb⟩
      have HG3 := hid (HG.out.mv hb)
      clear hb HG y0 y1 y2 y3
      obtain ⟨y0, y1, y2, y3⟩ := cells4 HG3.out.m
      go_wp2_with fail
      refine (H4 _ (HM.out.d.below HG3.out.bel)).out.mono ?_
      rintro e w4 ⟨rfl, hb⟩
      have HB4 := hid (HG3.out.bel.trans (hb.mono HG3.out.bel.size))
      clear hb
      go_wp2
      go_ret
      exact ⟨by rw [HY.out]; first | rfl | (cases b4 <;> rfl), HB4.out⟩
    obtain ⟨b, off, ha, hbl, hc, hl⟩ := (HR.out.r.below HG.out.bel).at2 k (by rw [HN.out]; exact hlt)
    rw [ha]
    obtain ⟨d0, d1, d2, d3, d4, d5, d6, d7, d8⟩ := hc.all
    have HNo : Hid ((m.n - 1) * m.p < (c.r.getD k Rou.t0).ev → EvP c ((m.n - 1) * m.p) (k + 1)) := fun h => HA.out.succ h
    have HYe : Hid (¬ (m.n - 1) * m.p < (c.r.getD k Rou.t0).ev → gM c m = false) := fun h => by rw [HO2.out, decide_eq_false (fun g : EvP c ((m.n - 1) * m.p) n => h (g k hlt))]; rfl
    have i1 : (k : Int) < (n : Int) := by omega
    clear hc ha hl
    generalize c.r.getD k Rou.t0 = q at *
    have hal := (Below.refl wr.heap.size wr).alloc (Nat.le_refl _) (BXR q)
    have HG0 := hid (HG.out.mv hal)
    have HQ0 := hid (heap_alloc_new wr (BXR q))
    obtain ⟨W0, hW⟩ : ∃ W, W = wr.alloc (BXR q) := ⟨_, rfl⟩
    rw [← hW] at HG0 HQ0
    have HW := hid hW
    clear hW hal hbl
    go_upto_region 7 with fail
    rw [← HW.out]
    clear HW d0 d1 d2 d3 d4 d5 d6 d7 d8 HG
    obtain ⟨z0, z1, z2, z3, z4, z5, z6, z7, z8⟩ := Rou.cellsN HQ0.out
    obtain ⟨y0, y1, y2, y3⟩ := cells4 HG0.out.m
    by_cases hx : (m.n - 1) * m.p ≥ q.ev
    · have HY := hid (HYe.out (by omega))
      go_wp2
      go_ret
      exact ⟨by rw [HY.out]; rfl, HG0.out.bel⟩
    · have HY := hid (HNo.out (by omega))
      go_wp2
      go_roundw
      case rel => exact ⟨k + 1, by omega, by go_num, HY, HG0⟩
      case measure => simp [intOf]; omega

set_option maxHeartbeats 8000000 in
theorem f12 (c : C) (m : Mcf.T) (w : World) (hr : Has w c) (hf : Fit c) (hz : Sml c) (hm : Mcf.Lst w m) (hs : Mcf.wt m ≤ 1048576) :
    Calls Tryz.prog 12 #[agC c, Mcf.agT m] w fun e w' => e = .returned (.bool (gM c m)) ∧ Below w.heap.size w w' := by
  have HG0 := hid (Gb.first w c m)
  have HR := hid hr
  have HM := hid hm
  have hsc : m.cs.length ≤ 1048576 := by unfold Mcf.wt at hs; omega
  have hsd : m.ds.length ≤ 1048576 := by unfold Mcf.wt at hs; omega
  have H1 := fun x a => hid (f7 c x a hf hz)
  have HO : Hid (gM c m = (gN c && decide (1 ≤ m.n ∧ m.n ≤ 5) && isT m.p && decide (EvP c ((m.n - 1) * m.p) c.r.length) && flt (m.n - 1) (m.n - 1) m.cs && flt (m.n - 1) 0 m.ds)) := rfl
  have H2 := fun x => hid (Nmt.f40 m.p x)
  have hT := isT_iff (z := m.p)
  obtain ⟨b1, hb1⟩ : ∃ b, b = gN c := ⟨_, rfl⟩
  obtain ⟨b2, hb2⟩ : ∃ b, b = isT m.p := ⟨_, rfl⟩
  rw [← hb1, ← hb2] at HO
  rw [← hb1] at H1
  rw [← hb2] at H2 hT
  have HT := hid hT
  have Hn : Hid (c.r.length ≤ 1048576) := hz.r.1
  clear hb1 hb2 hT hr hf hz hm hs
  obtain ⟨W0, hW⟩ : ∃ W, W = (w.alloc (BXC c)).alloc (BXM m) := ⟨_, rfl⟩
  rw [← hW] at HG0
  have HW := hid hW
  clear hW
  simp only [agC, Mcf.agT]
  go_enter Tryz.func12, Tryz.ntmps12
  go_upto_region 1 with fail
  rw [← HW.out]
  clear HW
  obtain ⟨x0, x1, x2, x3⟩ := cells4 HG0.out.c
  cases b1
  · have HY : Hid (gM c m = false) := by unfold Hid; rw [HO.out]; simp
    go_wp2_with fail
    refine (H1 _ (HR.out.below HG0.out.bel)).out.mono ?_
    rintro e w1 ⟨rfl, hb⟩
    have HB1 := hid (HG0.out.bel.trans (hb.mono HG0.out.bel.size))
    clear hb
    go_wp2
    go_ret
    exact ⟨by rw [HY.out]; rfl, HB1.out⟩
  go_wp2_with fail
  refine (H1 _ (HR.out.below HG0.out.bel)).out.mono ?_
  rintro e w1 ⟨rfl, hb⟩
  have HG1 := hid (HG0.out.mv hb)
  clear hb HG0 x0 x1 x2 x3 H1
  obtain ⟨y0, y1, y2, y3⟩ := cells4 HG1.out.m
  by_cases g1 : m.n < 1
  · have HY : Hid (gM c m = false) := by unfold Hid; rw [HO.out, decide_eq_false (show ¬ (1 ≤ m.n ∧ m.n ≤ 5) by omega)]; simp
    go_wp2
    go_ret
    exact ⟨by rw [HY.out]; rfl, HG1.out.bel⟩
  by_cases g2 : m.n > 5
  · have HY : Hid (gM c m = false) := by unfold Hid; rw [HO.out, decide_eq_false (show ¬ (1 ≤ m.n ∧ m.n ≤ 5) by omega)]; simp
    go_wp2
    go_ret
    exact ⟨by rw [HY.out]; rfl, HG1.out.bel⟩
  cases b2
  · have HY : Hid (gM c m = false) := by unfold Hid; rw [HO.out]; simp
    go_wp2_with fail
    refine (H2 _).out.mono ?_
    rintro e w2 ⟨rfl, hw⟩
    subst w2
    go_wp2
    go_ret
    exact ⟨by rw [HY.out]; rfl, HG1.out.bel⟩
  have hp := HT.out.1 rfl
  have HO2 : Hid (gM c m = (decide (EvP c ((m.n - 1) * m.p) c.r.length) && flt (m.n - 1) (m.n - 1) m.cs && flt (m.n - 1) 0 m.ds)) := by unfold Hid; rw [HO.out, decide_eq_true (show 1 ≤ m.n ∧ m.n ≤ 5 by omega)]; rfl
  obtain ⟨hz1, hz2⟩ := mul_fit (n := m.n) (p := m.p) (by omega) (by omega) hp.1 hp.2
  have hwr : IntKind.i64.wrap ((m.n - 1) * m.p) = (m.n - 1) * m.p := by rw [IntKind.wrap_i64]; omega
  clear HO HT
  go_wp2_with fail
  refine (H2 _).out.mono ?_
  rintro e w2 ⟨rfl, hw⟩
  subst w2
  have H3 := fun x a => hid (f41 m.ca m.cs.length m.cc m.n false m.cs x (by omega) rfl hsc a)
  have H4 := fun x a => hid (f41 m.da m.ds.length m.dc m.n true m.ds x (by omega) rfl hsd a)
  simp only [Bool.false_eq_true, if_false, if_true] at H3 H4
  generalize flt (m.n - 1) (m.n - 1) m.cs = b3 at *
  generalize flt (m.n - 1) 0 m.ds = b4 at *
  cases b3
  · have HY : Hid (gM c m = false) := by unfold Hid; rw [HO2.out]; simp
    go_wp2_with fail
    refine (H3 _ (HM.out.c.below HG1.out.bel)).out.mono ?_
    rintro e w3 ⟨rfl, hb⟩
    have HB3 := hid (HG1.out.bel.trans (hb.mono HG1.out.bel.size))
    clear hb
    go_wp2
    go_ret
    exact ⟨by rw [HY.out]; rfl, HB3.out⟩
  go_wp2_with fail
  refine (H3 _ (HM.out.c.below HG1.out.bel)).out.mono ?_
  rintro e w3 ⟨rfl, hb⟩
  have HG3 := hid (HG1.out.mv hb)
  clear hb HG1 y0 y1 y2 y3
  obtain ⟨y0, y1, y2, y3⟩ := cells4 HG3.out.m
  cases b4
  · have HY : Hid (gM c m = false) := by unfold Hid; rw [HO2.out]; simp
    go_wp2_with fail
    refine (H4 _ (HM.out.d.below HG3.out.bel)).out.mono ?_
    rintro e w4 ⟨rfl, hb⟩
    have HB4 := hid (HG3.out.bel.trans (hb.mono HG3.out.bel.size))
    clear hb
    go_wp2
    go_ret
    exact ⟨by rw [HY.out]; rfl, HB4.out⟩
  go_wp2_with fail
  refine (H4 _ (HM.out.d.below HG3.out.bel)).out.mono ?_
  rintro e w4 ⟨rfl, hb⟩
  have HG1 := hid (HG3.out.mv hb)
  clear hb HG3 y0 y1 y2 y3 H3 H4
  obtain ⟨y0, y1, y2, y3⟩ := cells4 HG1.out.m
  generalize hn : c.r.length = n at *
  have HN := hid hn
  have hin := Hn.out
  obtain ⟨x0, x1, x2, x3⟩ := cells4 HG1.out.c
  rw [HN.out] at x0
  clear hn
  go_wp2
  go_loopw [45] (fun i wr => ∃ k : Nat, k ≤ n ∧ i = .int .i64 k ∧ Hid (EvP c ((m.n - 1) * m.p) k) ∧ Hid (Gb w c m wr)) (fun i _ => n - (intOf i).toNat)
  case atStart => exact ⟨0, Nat.zero_le _, rfl, fun i hi => absurd hi (by omega), HG1⟩
  case round =>
    clear HG1 x0 x1 x2 x3 y0 y1 y2 y3
    obtain ⟨k, hk, rfl, HA, HG⟩ := hrel
    by_cases hlt : k < n
    rotate_left
    · obtain rfl : k = n := by omega
      have i1 : ¬ (k : Int) < (k : Int) := by omega
      have HY : Hid (gM c m = true) := by unfold Hid; rw [HO2.out, decide_eq_true HA.out]; rfl
      go_wp2
      go_ret
      exact ⟨by rw [HY.out]; rfl, HG.out.bel⟩
    obtain ⟨b, off, ha, hbl, hc, hl⟩ := (HR.out.r.below HG.out.bel).at2 k (by rw [HN.out]; exact hlt)
    rw [ha]
    obtain ⟨d0, d1, d2, d3, d4, d5, d6, d7, d8⟩ := hc.all
    have HNo : Hid ((m.n - 1) * m.p < (c.r.getD k Rou.t0).ev → EvP c ((m.n - 1) * m.p) (k + 1)) := fun h => HA.out.succ h
    have HYe : Hid (¬ (m.n - 1) * m.p < (c.r.getD k Rou.t0).ev → gM c m = false) := fun h => by rw [HO2.out, decide_eq_false (fun g : EvP c ((m.n - 1) * m.p) n => h (g k hlt))]; rfl
    have i1 : (k : Int) < (n : Int) := by omega
    clear hc ha hl
    generalize c.r.getD k Rou.t0 = q at *
    have hal := (Below.refl wr.heap.size wr).alloc (Nat.le_refl _) (BXR q)
    have HG0 := hid (HG.out.mv hal)
    have HQ0 := hid (heap_alloc_new wr (BXR q))
    obtain ⟨W0, hW⟩ : ∃ W, W = wr.alloc (BXR q) := ⟨_, rfl⟩
    rw [← hW] at HG0 HQ0
    have HW := hid hW
    clear hW hal hbl
    go_upto_region 6 with fail
    rw [← HW.out]
    clear HW d0 d1 d2 d3 d4 d5 d6 d7 d8 HG
    obtain ⟨z0, z1, z2, z3, z4, z5, z6, z7, z8⟩ := Rou.cellsN HQ0.out
    obtain ⟨y0, y1, y2, y3⟩ := cells4 HG0.out.m
    by_cases hx : (m.n - 1) * m.p ≥ q.ev
    · have HY := hid (HYe.out (by omega))
      go_wp2
      go_ret
      exact ⟨by rw [HY.out]; rfl, HG0.out.bel⟩
    · have HY := hid (HNo.out (by omega))
      go_wp2
      go_roundw
      case rel => exact ⟨k + 1, by omega, by go_num, HY, HG0⟩
      case measure => simp [intOf]; omega

end Go.Proofs.YthcogkoleiejgaaGreatDoor.Ntf
