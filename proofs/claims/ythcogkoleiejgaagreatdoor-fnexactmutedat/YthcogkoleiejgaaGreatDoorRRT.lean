/- Routes as a tree: rows, one tree for each list of rows. -/
import Derived.Test.YthcogkoleiejgaaGreatDoorRRoa
import Derived.Test.YthcogkoleiejgaaGreatDoorRRoo
import Derived.Test.YthcogkoleiejgaaGreatDoorRMgd
import Derived.Test.YthcogkoleiejgaaGreatDoorRNrn
import Derived.Test.YthcogkoleiejgaaGreatDoorRNcq
import Derived.Test.YthcogkoleiejgaaGreatDoorRFrn
import Derived.Maps.AppendAt
import Derived.OwnWalk
namespace Go.Proofs.YthcogkoleiejgaaGreatDoor.Rou
open Go.RowKit

inductive Tr where
  | nd (r : Pl) (ks : List Tr)
def Tr.r : Tr → Pl
  | .nd r _ => r
def Tr.ks : Tr → List Tr
  | .nd _ ks => ks
mutual
/-- The rows of a tree, each ahead of its kids. -/
def rows : Tr → List Pl
  | .nd r ks => r :: rowsL ks
def rowsL : List Tr → List Pl
  | [] => []
  | t :: ts => rows t ++ rowsL ts
end
theorem rowsL_append (a b : List Tr) : rowsL (a ++ b) = rowsL a ++ rowsL b := by
  induction a with
  | nil => simp [rowsL]
  | cons t a ih => simp [rowsL, ih]
/-- What is asked of each node, at its depth; each has as many kids as it says. -/
abbrev Nd := Nat → Pl → List Tr → Prop
mutual
def Gt (N : Nd) : Nat → Tr → Prop
  | d, .nd r ks => r.kd = ks.length ∧ N d r ks ∧ GtL N (d + 1) ks
def GtL (N : Nd) : Nat → List Tr → Prop
  | _, [] => True
  | d, t :: ts => Gt N d t ∧ GtL N d ts
end
theorem GtL_append {N : Nd} {d : Nat} {a b : List Tr} : GtL N d (a ++ b) ↔ GtL N d a ∧ GtL N d b := by
  induction a with
  | nil => simp [GtL]
  | cons t a ih => simp [GtL, ih, and_assoc]
theorem GtL_mem {N : Nd} {d : Nat} {a : List Tr} : GtL N d a ↔ ∀ t ∈ a, Gt N d t := by
  induction a with
  | nil => simp [GtL]
  | cons t a ih => simp [GtL, ih]
mutual
/-- Of two trees whose rows begin a list they are one. -/
theorem rows_one (N M : Nd) : ∀ (t t' : Tr) (d d' : Nat) (x x' : List Pl), Gt N d t → Gt M d' t' → rows t ++ x = rows t' ++ x' → t = t' ∧ x = x'
  | .nd r ks, .nd r' ks', d, d', x, x', h, h', e => by
    simp only [rows, List.cons_append, List.cons.injEq] at e
    obtain ⟨rfl, e⟩ := e
    have hl : ks.length = ks'.length := by have := h.1; have := h'.1; omega
    obtain ⟨rfl, rfl⟩ := rowsL_one N M ks ks' (d + 1) (d' + 1) x x' hl h.2.2 h'.2.2 e
    exact ⟨rfl, rfl⟩
theorem rowsL_one (N M : Nd) : ∀ (ks ks' : List Tr) (d d' : Nat) (x x' : List Pl), ks.length = ks'.length → GtL N d ks → GtL M d' ks' → rowsL ks ++ x = rowsL ks' ++ x' → ks = ks' ∧ x = x'
  | [], [], _, _, _, _, _, _, _, e => ⟨rfl, by simpa [rowsL] using e⟩
  | [], _ :: _, _, _, _, _, hl, _, _, _ => by simp at hl
  | _ :: _, [], _, _, _, _, hl, _, _, _ => by simp at hl
  | t :: ts, t' :: ts', d, d', x, x', hl, h, h', e => by
    simp only [rowsL, List.append_assoc] at e
    obtain ⟨rfl, e2⟩ := rows_one N M t t' d d' _ _ h.1 h'.1 e
    obtain ⟨rfl, e3⟩ := rowsL_one N M ts ts' d d' x x' (by simpa using hl) h.2 h'.2 e2
    exact ⟨rfl, e3⟩
end
/-- There is no tree where the next kid is none. -/
theorem no_more {N : Nd} {d : Nat} {r : Pl} {ts : List Tr} {rest : List Pl} (hts : GtL N (d + 1) ts) (hl : (ts.length : Int) < r.kd) (hbad : ∀ t x, rest = rows t ++ x → Gt N (d + 1) t → ∀ ks, ts ++ [t] <+: ks → N d r ks → False) :
    ∀ t x, r :: (rowsL ts ++ rest) = rows t ++ x → ¬ Gt N d t := by
  rintro ⟨r', ks⟩ x e ⟨h1, h2, h3⟩
  simp only [rows, List.cons_append, List.cons.injEq] at e
  obtain ⟨rfl, e⟩ := e
  have hlt : ts.length < ks.length := by omega
  have hsp : ks = ks.take ts.length ++ ks[ts.length] :: ks.drop (ts.length + 1) := by
    rw [← List.drop_eq_getElem_cons hlt, List.take_append_drop]
  have e' : rowsL ts ++ rest = rowsL (ks.take ts.length) ++ (rowsL (ks[ts.length] :: ks.drop (ts.length + 1)) ++ x) := by
    rw [e, ← List.append_assoc, ← rowsL_append, ← hsp]
  have h3' : GtL N (d + 1) (ks.take ts.length) ∧ GtL N (d + 1) (ks[ts.length] :: ks.drop (ts.length + 1)) := by
    rw [← GtL_append, ← hsp]; exact h3
  obtain ⟨e1, e2⟩ := rowsL_one N N ts (ks.take ts.length) _ _ _ _ (by simp; omega) hts h3'.1 e'
  simp only [rowsL, List.append_assoc] at e2
  refine hbad _ _ e2 h3'.2.1 ks ⟨ks.drop (ts.length + 1), ?_⟩ h2
  have h := hsp.symm
  rw [← e1] at h
  simpa using h
theorem no_here {N : Nd} {d : Nat} {r : Pl} {rest : List Pl} (h : ∀ ks : List Tr, r.kd = ks.length → ¬ N d r ks) : ∀ t x, r :: rest = rows t ++ x → ¬ Gt N d t := by
  rintro ⟨r', ks⟩ x e ⟨h1, h2, _⟩
  simp only [rows, List.cons_append, List.cons.injEq] at e
  obtain ⟨rfl, _⟩ := e
  exact h ks h1 h2
theorem no_rows {N : Nd} {d : Nat} : ∀ t x, ([] : List Pl) = rows t ++ x → ¬ Gt N d t := by
  rintro ⟨r', ks⟩ x e
  simp [rows] at e
end Go.Proofs.YthcogkoleiejgaaGreatDoor.Rou
/- What is asked of a route by itself: isGoodRoute, l20Route. -/
namespace Go.Proofs.YthcogkoleiejgaaGreatDoor.Rou
open Go.RowKit
open Go.Proofs.YthcogkoleiejgaaGreatDoor.Pat (Mt HasM FitM goodM nameL)
open Go.Proofs.YthcogkoleiejgaaGreatDoor.Fil (HasT)
open Go.Proofs.YthcogkoleiejgaaGreatDoor.Rwc
open Go.Proofs.YthcogkoleiejgaaGreatDoor.Nmt (namesL isT two)
open Go.Proofs.YthcogkoleiejgaaGreatDoor.Ino (riseI num)

/-- A time above 0. -/
def isP (z : Int) : Bool := isT z && !(z == 0)
theorem isP_low {z : Int} (h : z < 1) : isP z = false := by unfold isP isT; rw [Bool.eq_iff_iff]; simp; omega
theorem isP_high {z : Int} (h : z > 1000000000000) : isP z = false := by unfold isP isT; rw [Bool.eq_iff_iff]; simp; omega
theorem isP_mid {z : Int} (h : ¬ z < 1) (h' : ¬ z > 1000000000000) : isP z = true := by unfold isP isT; simp; omega
/-- What is asked of a route by itself. -/
def okP (q : Pl) : Bool := nameL q.rv.data.toList && goodM q.ms && namesL q.ds && isT q.wa && isP q.ev && isP q.ag && decide (Ino.frb 20 19 q.us)
abbrev okR (q : T) : Bool := okP (pl q)
abbrev BX (q : T) : Obj := .cells (arT q) 67
theorem wt_lists {q : T} (h : wt q ≤ 1048576) : q.ms.length ≤ 1048576 ∧ q.ds.length ≤ 1048576 ∧ q.us.length ≤ 1048576 := by unfold wt at h; omega
set_option maxHeartbeats 8000000 in
theorem f97 (q : T) (w : World) (hl : Lst w q) (hf : Ft q) (hs : wt q ≤ 1048576) :
    Calls Tryz.prog 97 #[agT q] w fun e w' => e = .returned (.bool (okR q && decide (0 ≤ q.kd))) ∧ Below w.heap.size w w' := by
  obtain ⟨s1, s2, s3⟩ := wt_lists hs
  have HL := hid hl
  have HF := hid hf
  clear hl hf
  have HB0 := hid ((Below.refl w.heap.size w).alloc (Nat.le_refl _) (BX q))
  have HX0 := hid (heap_alloc_new w (BX q))
  have H1 := fun x => hid (Pat.f64 q.rv x HF.out.rv)
  have H2 := fun x a => hid (Pat.f102 q.ma q.ms.length q.mc q.ms x rfl HF.out.m.2 a HF.out.m.1)
  have H3 := fun x a => hid (Nmt.f104 q.da q.dc q.ds x s2 HF.out.d.1 a)
  have H4 := fun x => hid (Nmt.f43 q.wa x)
  have H5 := fun x => hid (Nmt.f43 q.ev x)
  have H6 := fun x => hid (Nmt.f43 q.ag x)
  have H7 := fun x a => hid (Ino.f34 q.ua q.uc q.us 20 19 x s3 a)
  have HO : Hid ((okR q && decide (0 ≤ q.kd)) = (nameL q.rv.data.toList && goodM q.ms && namesL q.ds && isT q.wa && (isT q.ev && !(q.ev == 0)) && (isT q.ag && !(q.ag == 0)) && decide (Ino.frb 20 19 q.us) && decide (0 ≤ q.kd))) := rfl
  obtain ⟨W0, hW⟩ : ∃ W, W = w.alloc (BX q) := ⟨_, rfl⟩
  rw [← hW] at HB0 HX0
  have HW := hid hW
  clear hW s1 s2 s3 hs
  generalize (okR q && decide (0 ≤ q.kd)) = R at *
  generalize nameL q.rv.data.toList = b1 at *
  generalize goodM q.ms = b2 at *
  generalize namesL q.ds = b3 at *
  generalize isT q.wa = b4 at *
  generalize isT q.ev = b5 at *
  generalize isT q.ag = b6 at *
  generalize decide (Ino.frb 20 19 q.us) = b7 at *
  simp only [agT]
  go_enter Tryz.func97, Tryz.ntmps97
  go_upto_region 1 with fail
  rw [← HW.out]
  clear HW
  obtain ⟨x0, x1, x2, x3, x4, x5, x6, x7, x8⟩ := cellsN HX0.out
  cases b1
  · have HY : Hid (R = false) := by unfold Hid; rw [HO.out]; simp
    go_wp2_with fail
    refine (H1 _).out.mono ?_
    rintro e w1 ⟨rfl, hw⟩
    have hb : Below W0.heap.size W0 w1 := by rw [hw]; exact Below.refl _ _
    clear hw
    have HB1 := hid (HB0.out.trans (hb.mono HB0.out.size))
    clear hb
    go_wp2
    go_ret
    exact ⟨by rw [HY.out]; first | rfl | simp, HB1.out⟩
  go_wp2_with fail
  refine (H1 _).out.mono ?_
  rintro e w1 ⟨rfl, hw⟩
  have hb : Below W0.heap.size W0 w1 := by rw [hw]; exact Below.refl _ _
  clear hw
  have HB1 := hid (HB0.out.trans (hb.mono HB0.out.size))
  have HX1 := hid (kept HX0.out hb)
  clear hb HB0 HX0 x0 x1 x2 x3 x4 x5 x6 x7 x8 H1
  obtain ⟨x0, x1, x2, x3, x4, x5, x6, x7, x8⟩ := cellsN HX1.out
  cases b2
  · have HY : Hid (R = false) := by unfold Hid; rw [HO.out]; simp
    go_wp2_with fail
    refine (H2 _ (HL.out.m.below HB1.out)).out.mono ?_
    rintro e w2 ⟨rfl, hb⟩
    have HB2 := hid (HB1.out.trans (hb.mono HB1.out.size))
    clear hb
    go_wp2
    go_ret
    exact ⟨by rw [HY.out]; first | rfl | simp, HB2.out⟩
  go_wp2_with fail
  refine (H2 _ (HL.out.m.below HB1.out)).out.mono ?_
  rintro e w2 ⟨rfl, hb⟩
  have HB2 := hid (HB1.out.trans (hb.mono HB1.out.size))
  have HX2 := hid (kept HX1.out hb)
  clear hb HB1 HX1 x0 x1 x2 x3 x4 x5 x6 x7 x8 H2
  obtain ⟨x0, x1, x2, x3, x4, x5, x6, x7, x8⟩ := cellsN HX2.out
  cases b3
  · have HY : Hid (R = false) := by unfold Hid; rw [HO.out]; simp
    go_wp2_with fail
    refine (H3 _ (HL.out.d.below HB2.out)).out.mono ?_
    rintro e w3 ⟨rfl, hb⟩
    have HB3 := hid (HB2.out.trans (hb.mono HB2.out.size))
    clear hb
    go_wp2
    go_ret
    exact ⟨by rw [HY.out]; first | rfl | simp, HB3.out⟩
  go_wp2_with fail
  refine (H3 _ (HL.out.d.below HB2.out)).out.mono ?_
  rintro e w3 ⟨rfl, hb⟩
  have HB3 := hid (HB2.out.trans (hb.mono HB2.out.size))
  have HX3 := hid (kept HX2.out hb)
  clear hb HB2 HX2 x0 x1 x2 x3 x4 x5 x6 x7 x8 H3
  obtain ⟨x0, x1, x2, x3, x4, x5, x6, x7, x8⟩ := cellsN HX3.out
  by_cases g : q.kd < 0
  · have HY : Hid (R = false) := by unfold Hid; rw [HO.out, decide_eq_false (show ¬ 0 ≤ q.kd by omega)]; simp
    go_wp2_with fail
    go_ret
    exact ⟨by rw [HY.out]; first | rfl | simp, HB3.out⟩
  have HG := hid (decide_eq_true (show 0 ≤ q.kd by omega))
  rw [HG.out, Bool.and_true] at HO
  clear x0 x1 x2 x3 x4 x5 x6 x7 x8
  obtain ⟨x0, x1, x2, x3, x4, x5, x6, x7, x8⟩ := cellsN HX3.out
  cases b4
  · have HY : Hid (R = false) := by unfold Hid; rw [HO.out]; simp
    go_wp2_with fail
    refine (H4 _).out.mono ?_
    rintro e w4 ⟨rfl, hw⟩
    have hb : Below w3.heap.size w3 w4 := by rw [hw]; exact Below.refl _ _
    clear hw
    have HB4 := hid (HB3.out.trans (hb.mono HB3.out.size))
    clear hb
    go_wp2
    go_ret
    exact ⟨by rw [HY.out]; first | rfl | simp, HB4.out⟩
  go_wp2_with fail
  refine (H4 _).out.mono ?_
  rintro e w4 ⟨rfl, hw⟩
  have hb : Below w3.heap.size w3 w4 := by rw [hw]; exact Below.refl _ _
  clear hw
  have HB4 := hid (HB3.out.trans (hb.mono HB3.out.size))
  have HX4 := hid (kept HX3.out hb)
  clear hb HB3 HX3 x0 x1 x2 x3 x4 x5 x6 x7 x8 H4
  obtain ⟨x0, x1, x2, x3, x4, x5, x6, x7, x8⟩ := cellsN HX4.out
  cases b5
  · have HY : Hid (R = false) := by unfold Hid; rw [HO.out]; simp
    go_wp2_with fail
    refine (H5 _).out.mono ?_
    rintro e w5 ⟨rfl, hw⟩
    have hb : Below w4.heap.size w4 w5 := by rw [hw]; exact Below.refl _ _
    clear hw
    have HB5 := hid (HB4.out.trans (hb.mono HB4.out.size))
    clear hb
    go_wp2
    go_ret
    exact ⟨by rw [HY.out]; first | rfl | simp, HB5.out⟩
  go_wp2_with fail
  refine (H5 _).out.mono ?_
  rintro e w5 ⟨rfl, hw⟩
  have hb : Below w4.heap.size w4 w5 := by rw [hw]; exact Below.refl _ _
  clear hw
  have HB5 := hid (HB4.out.trans (hb.mono HB4.out.size))
  have HX5 := hid (kept HX4.out hb)
  clear hb HB4 HX4 x0 x1 x2 x3 x4 x5 x6 x7 x8 H5
  obtain ⟨x0, x1, x2, x3, x4, x5, x6, x7, x8⟩ := cellsN HX5.out
  cases b6
  · have HY : Hid (R = false) := by unfold Hid; rw [HO.out]; simp
    go_wp2_with fail
    refine (H6 _).out.mono ?_
    rintro e w6 ⟨rfl, hw⟩
    have hb : Below w5.heap.size w5 w6 := by rw [hw]; exact Below.refl _ _
    clear hw
    have HB6 := hid (HB5.out.trans (hb.mono HB5.out.size))
    clear hb
    go_wp2
    go_ret
    exact ⟨by rw [HY.out]; first | rfl | simp, HB6.out⟩
  go_wp2_with fail
  refine (H6 _).out.mono ?_
  rintro e w6 ⟨rfl, hw⟩
  have hb : Below w5.heap.size w5 w6 := by rw [hw]; exact Below.refl _ _
  clear hw
  have HB6 := hid (HB5.out.trans (hb.mono HB5.out.size))
  have HX6 := hid (kept HX5.out hb)
  clear hb HB5 HX5 x0 x1 x2 x3 x4 x5 x6 x7 x8 H6
  obtain ⟨x0, x1, x2, x3, x4, x5, x6, x7, x8⟩ := cellsN HX6.out
  cases g1 : (q.ev == 0)
  rotate_left
  · have HY : Hid (R = false) := by unfold Hid; rw [HO.out, g1]; simp
    go_wp2_with fail
    go_ret
    exact ⟨by rw [HY.out]; first | rfl | simp, HB6.out⟩
  rw [g1] at HO
  have g1h : (q.ev == 0) = false := g1
  clear x0 x1 x2 x3 x4 x5 x6 x7 x8
  obtain ⟨x0, x1, x2, x3, x4, x5, x6, x7, x8⟩ := cellsN HX6.out
  cases g2 : (q.ag == 0)
  rotate_left
  · have HY : Hid (R = false) := by unfold Hid; rw [HO.out, g2]; simp
    go_wp2_with fail
    go_ret
    exact ⟨by rw [HY.out]; first | rfl | simp, HB6.out⟩
  rw [g2] at HO
  have g2h : (q.ag == 0) = false := g2
  clear x0 x1 x2 x3 x4 x5 x6 x7 x8
  obtain ⟨x0, x1, x2, x3, x4, x5, x6, x7, x8⟩ := cellsN HX6.out
  have HY : Hid (R = b7) := by unfold Hid; rw [HO.out]; simp
  go_wp2_with fail
  refine (H7 _ (HL.out.u.below HB6.out)).out.mono ?_
  rintro e w7 ⟨rfl, hb⟩
  have HB7 := hid (HB6.out.trans (hb.mono HB6.out.size))
  clear hb
  go_wp2
  go_ret
  exact ⟨by rw [HY.out]; first | rfl | simp, HB7.out⟩
set_option maxHeartbeats 8000000 in
theorem f86 (q : T) (w : World) (hl : Lst w q) (hf : Ft q) (hs : wt q ≤ 1048576) :
    Calls Tryz.prog 86 #[agT q] w fun e w' => e = .returned (.bool (okR q)) ∧ Below w.heap.size w w' := by
  obtain ⟨s1, s2, s3⟩ := wt_lists hs
  have HL := hid hl
  have HF := hid hf
  clear hl hf
  have HB0 := hid ((Below.refl w.heap.size w).alloc (Nat.le_refl _) (BX q))
  have HX0 := hid (heap_alloc_new w (BX q))
  have H1 := fun x => hid (Pat.f53 q.rv x HF.out.rv)
  have H2 := fun x a => hid (Pat.f54 q.ma q.ms.length q.mc q.ms x rfl HF.out.m.2 a HF.out.m.1)
  have H3 := fun x a => hid (Nmt.f56 q.da q.ds.length q.dc q.ds x rfl s2 HF.out.d.1 a)
  have H4 := fun x => hid (Nmt.f40 q.wa x)
  have H7 := fun x a => hid (Ino.f57 q.ua q.us.length q.uc q.us x rfl s3 a)
  have HO : Hid (okR q = (nameL q.rv.data.toList && goodM q.ms && namesL q.ds && isT q.wa && isP q.ev && isP q.ag && decide (Ino.frb 20 19 q.us))) := rfl
  obtain ⟨W0, hW⟩ : ∃ W, W = w.alloc (BX q) := ⟨_, rfl⟩
  rw [← hW] at HB0 HX0
  have HW := hid hW
  clear hW s1 s2 s3 hs
  generalize okR q = R at *
  generalize nameL q.rv.data.toList = b1 at *
  generalize goodM q.ms = b2 at *
  generalize namesL q.ds = b3 at *
  generalize isT q.wa = b4 at *
  simp only [agT]
  go_enter Tryz.func86, Tryz.ntmps86
  go_upto_region 1 with fail
  rw [← HW.out]
  clear HW
  obtain ⟨x0, x1, x2, x3, x4, x5, x6, x7, x8⟩ := cellsN HX0.out
  cases b1
  · have HY : Hid (R = false) := by unfold Hid; rw [HO.out]; simp
    go_wp2_with fail
    refine (H1 _).out.mono ?_
    rintro e w1 ⟨rfl, hw⟩
    have hb : Below W0.heap.size W0 w1 := by rw [hw]; exact Below.refl _ _
    clear hw
    have HB1 := hid (HB0.out.trans (hb.mono HB0.out.size))
    clear hb
    go_wp2
    go_ret
    exact ⟨by rw [HY.out]; first | rfl | simp, HB1.out⟩
  go_wp2_with fail
  refine (H1 _).out.mono ?_
  rintro e w1 ⟨rfl, hw⟩
  have hb : Below W0.heap.size W0 w1 := by rw [hw]; exact Below.refl _ _
  clear hw
  have HB1 := hid (HB0.out.trans (hb.mono HB0.out.size))
  have HX1 := hid (kept HX0.out hb)
  clear hb HB0 HX0 x0 x1 x2 x3 x4 x5 x6 x7 x8 H1
  obtain ⟨x0, x1, x2, x3, x4, x5, x6, x7, x8⟩ := cellsN HX1.out
  cases b2
  · have HY : Hid (R = false) := by unfold Hid; rw [HO.out]; simp
    go_wp2_with fail
    refine (H2 _ (HL.out.m.below HB1.out)).out.mono ?_
    rintro e w2 ⟨rfl, hb⟩
    have HB2 := hid (HB1.out.trans (hb.mono HB1.out.size))
    clear hb
    go_wp2
    go_ret
    exact ⟨by rw [HY.out]; first | rfl | simp, HB2.out⟩
  go_wp2_with fail
  refine (H2 _ (HL.out.m.below HB1.out)).out.mono ?_
  rintro e w2 ⟨rfl, hb⟩
  have HB2 := hid (HB1.out.trans (hb.mono HB1.out.size))
  have HX2 := hid (kept HX1.out hb)
  clear hb HB1 HX1 x0 x1 x2 x3 x4 x5 x6 x7 x8 H2
  obtain ⟨x0, x1, x2, x3, x4, x5, x6, x7, x8⟩ := cellsN HX2.out
  cases b3
  · have HY : Hid (R = false) := by unfold Hid; rw [HO.out]; simp
    go_wp2_with fail
    refine (H3 _ (HL.out.d.below HB2.out)).out.mono ?_
    rintro e w3 ⟨rfl, hb⟩
    have HB3 := hid (HB2.out.trans (hb.mono HB2.out.size))
    clear hb
    go_wp2
    go_ret
    exact ⟨by rw [HY.out]; first | rfl | simp, HB3.out⟩
  go_wp2_with fail
  refine (H3 _ (HL.out.d.below HB2.out)).out.mono ?_
  rintro e w3 ⟨rfl, hb⟩
  have HB3 := hid (HB2.out.trans (hb.mono HB2.out.size))
  have HX3 := hid (kept HX2.out hb)
  clear hb HB2 HX2 x0 x1 x2 x3 x4 x5 x6 x7 x8 H3
  obtain ⟨x0, x1, x2, x3, x4, x5, x6, x7, x8⟩ := cellsN HX3.out
  cases b4
  · have HY : Hid (R = false) := by unfold Hid; rw [HO.out]; simp
    go_wp2_with fail
    refine (H4 _).out.mono ?_
    rintro e w4 ⟨rfl, hw⟩
    have hb : Below w3.heap.size w3 w4 := by rw [hw]; exact Below.refl _ _
    clear hw
    have HB4 := hid (HB3.out.trans (hb.mono HB3.out.size))
    clear hb
    go_wp2
    go_ret
    exact ⟨by rw [HY.out]; first | rfl | simp, HB4.out⟩
  go_wp2_with fail
  refine (H4 _).out.mono ?_
  rintro e w4 ⟨rfl, hw⟩
  have hb : Below w3.heap.size w3 w4 := by rw [hw]; exact Below.refl _ _
  clear hw
  have HB4 := hid (HB3.out.trans (hb.mono HB3.out.size))
  have HX4 := hid (kept HX3.out hb)
  clear hb HB3 HX3 x0 x1 x2 x3 x4 x5 x6 x7 x8 H4
  obtain ⟨x0, x1, x2, x3, x4, x5, x6, x7, x8⟩ := cellsN HX4.out
  by_cases g1 : q.ev < 1
  · have HY : Hid (R = false) := by unfold Hid; rw [HO.out, isP_low g1]; simp
    go_wp2_with fail
    go_ret
    exact ⟨by rw [HY.out]; first | rfl | simp, HB4.out⟩
  clear x0 x1 x2 x3 x4 x5 x6 x7 x8
  obtain ⟨x0, x1, x2, x3, x4, x5, x6, x7, x8⟩ := cellsN HX4.out
  by_cases g2 : q.ev > 1000000000000
  · have HY : Hid (R = false) := by unfold Hid; rw [HO.out, isP_high g2]; simp
    go_wp2_with fail
    go_ret
    exact ⟨by rw [HY.out]; first | rfl | simp, HB4.out⟩
  clear x0 x1 x2 x3 x4 x5 x6 x7 x8
  obtain ⟨x0, x1, x2, x3, x4, x5, x6, x7, x8⟩ := cellsN HX4.out
  by_cases g3 : q.ag < 1
  · have HY : Hid (R = false) := by unfold Hid; rw [HO.out, isP_low g3]; simp
    go_wp2_with fail
    go_ret
    exact ⟨by rw [HY.out]; first | rfl | simp, HB4.out⟩
  clear x0 x1 x2 x3 x4 x5 x6 x7 x8
  obtain ⟨x0, x1, x2, x3, x4, x5, x6, x7, x8⟩ := cellsN HX4.out
  by_cases g4 : q.ag > 1000000000000
  · have HY : Hid (R = false) := by unfold Hid; rw [HO.out, isP_high g4]; simp
    go_wp2_with fail
    go_ret
    exact ⟨by rw [HY.out]; first | rfl | simp, HB4.out⟩
  clear x0 x1 x2 x3 x4 x5 x6 x7 x8
  have HP : Hid (R = (true && true && true && true && true && true && decide (Ino.frb 20 19 q.us))) := by unfold Hid; rw [HO.out, isP_mid g1 g2, isP_mid g3 g4]
  obtain ⟨x0, x1, x2, x3, x4, x5, x6, x7, x8⟩ := cellsN HX4.out
  by_cases g5 : (q.us.length : Int) > 20
  · have HY : Hid (R = false) := by unfold Hid; rw [HP.out, decide_eq_false (show ¬ Ino.frb 20 19 q.us from fun h => by have := h.1; omega)]; simp
    go_wp2_with fail
    go_ret
    exact ⟨by rw [HY.out]; first | rfl | simp, HB4.out⟩
  have g6 : q.us.length ≤ 20 := by omega
  have HN := hid (Ino.num_short (l := q.us) (by omega))
  cases g7 : num q.us
  · have HY : Hid (R = false) := by unfold Hid; rw [HP.out, decide_eq_false (show ¬ Ino.frb 20 19 q.us from fun h => by have := h.2.1; rw [← HN.out, g7] at this; cases this)]; simp
    rw [g7] at H7
    go_wp2_with fail
    refine (H7 _ (HL.out.u.below HB4.out)).out.mono ?_
    rintro e w5 ⟨rfl, hb⟩
    have HB5 := hid (HB4.out.trans (hb.mono HB4.out.size))
    clear hb
    go_wp2
    go_ret
    exact ⟨by rw [HY.out]; first | rfl | simp, HB5.out⟩
  rw [g7] at H7
  have HRI : Hid (riseI q.us = true) := HN.out.symm.trans g7
  clear g7 HN
  go_wp2_with fail
  refine (H7 _ (HL.out.u.below HB4.out)).out.mono ?_
  rintro e w5 ⟨rfl, hb⟩
  have HB5 := hid (HB4.out.trans (hb.mono HB4.out.size))
  have HX5 := hid (kept HX4.out hb)
  clear hb HB4 HX4 x0 x1 x2 x3 x4 x5 x6 x7 x8
  obtain ⟨x0, x1, x2, x3, x4, x5, x6, x7, x8⟩ := cellsN HX5.out
  have HU := hid (HL.out.u.below HB5.out)
  go_wp2
  go_loopw [62] (fun i wr => ∃ k : Nat, k ≤ q.us.length ∧ i = .int .i64 k ∧ Hid (∀ i, i < k → 0 ≤ q.us.getD i 0 ∧ q.us.getD i 0 ≤ 19) ∧ wr = w5) (fun i _ => q.us.length - (intOf i).toNat)
  case atStart => exact ⟨0, Nat.zero_le _, rfl, fun i hi => absurd hi (by omega), rfl⟩
  case round =>
    obtain ⟨k, hk, rfl, HA, rfl⟩ := hrel
    by_cases hlt : k < q.us.length
    · rcases HU.out with hr | ⟨b, off, hr, hbl, hc⟩
      · exact absurd hlt (by rw [hr]; simp)
      have c0 := hc k hlt
      have HAk : Hid (0 ≤ q.us.getD k 0 ∧ q.us.getD k 0 ≤ 19 → ∀ i, i < k + 1 → 0 ≤ q.us.getD i 0 ∧ q.us.getD i 0 ≤ 19) := by
        intro h i hi
        by_cases e : i = k
        · subst e; exact h
        · exact HA.out i (by omega)
      have HNo : Hid (¬ (0 ≤ q.us.getD k 0 ∧ q.us.getD k 0 ≤ 19) → R = false) := by
        intro h; rw [HP.out, decide_eq_false (show ¬ Ino.frb 20 19 q.us from fun g => h (g.2.2 k hlt))]; simp
      clear hc
      have HRA := hid hr
      generalize q.us.getD k 0 = z at *
      rw [hr] at x6
      by_cases ga : z < 0
      · have HY := hid (HNo.out (by omega))
        rw [HRA.out]
        go_wp2
        go_ret
        exact ⟨by rw [HY.out]; first | rfl | simp, HB5.out⟩
      by_cases gb : z ≥ 20
      · have HY := hid (HNo.out (by omega))
        rw [HRA.out]
        go_wp2
        go_ret
        exact ⟨by rw [HY.out]; first | rfl | simp, HB5.out⟩
      have HZ := hid (HAk.out (by omega))
      rw [HRA.out]
      go_wp2
      go_round
      case rel => exact ⟨k + 1, by omega, by go_num, HZ, trivial⟩
      case measure => simp [intOf]; omega
    · have HY : Hid (R = true) := by unfold Hid; rw [HP.out, decide_eq_true (show Ino.frb 20 19 q.us from ⟨g6, HRI.out, fun i hi => HA.out i (by omega)⟩)]; simp
      go_wp2
      go_ret
      exact ⟨by rw [HY.out]; first | rfl | simp, HB5.out⟩
end Go.Proofs.YthcogkoleiejgaaGreatDoor.Rou
/- Trees of routes: how deep they are, what all rows are; good lists of routes. -/
namespace Go.Proofs.YthcogkoleiejgaaGreatDoor.Rou
open Go.RowKit

mutual
/-- How many are within each other. -/
def dp : Tr → Nat
  | .nd _ ks => dpL ks + 1
def dpL : List Tr → Nat
  | [] => 0
  | t :: ts => max (dp t) (dpL ts)
end
theorem dpL_append (a b : List Tr) : dpL (a ++ b) = max (dpL a) (dpL b) := by
  induction a with
  | nil => simp [dpL]
  | cons t a ih => simp [dpL, ih, Nat.max_assoc]
/-- Any tree. -/
def N0 : Nd := fun _ _ _ => True
/-- A tree of good routes. -/
def NR : Nd := fun d r _ => okP r = true ∧ d ≤ 8
mutual
theorem gt0_any : ∀ (t : Tr) (d d' : Nat), Gt N0 d t → Gt N0 d' t
  | .nd r ks, d, d', h => by
    simp only [Gt] at h ⊢
    exact ⟨h.1, trivial, gtL0_any ks _ _ h.2.2⟩
theorem gtL0_any : ∀ (ts : List Tr) (d d' : Nat), GtL N0 d ts → GtL N0 d' ts
  | [], _, _, _ => by simp [GtL]
  | t :: ts, d, d', h => by
    simp only [GtL] at h ⊢
    exact ⟨gt0_any t d d' h.1, gtL0_any ts d d' h.2⟩
end
mutual
theorem gt_make : ∀ (t : Tr) (d : Nat), Gt N0 d t → (∀ r ∈ rows t, okP r = true) → d + dp t ≤ 9 → Gt NR d t
  | .nd r ks, d, h, ho, hd => by
    simp only [Gt] at h ⊢
    simp only [dp] at hd
    exact ⟨h.1, ⟨ho r (by simp [rows]), by omega⟩, gtL_make ks (d + 1) h.2.2 (fun x hx => ho x (by simp [rows, hx])) (by omega)⟩
theorem gtL_make : ∀ (ts : List Tr) (d : Nat), GtL N0 d ts → (∀ r ∈ rowsL ts, okP r = true) → d + dpL ts ≤ 9 → GtL NR d ts
  | [], _, _, _, _ => by simp [GtL]
  | t :: ts, d, h, ho, hd => by
    simp only [GtL] at h ⊢
    simp only [dpL] at hd
    exact ⟨gt_make t d h.1 (fun x hx => ho x (by simp [rowsL, hx])) (by omega), gtL_make ts d h.2 (fun x hx => ho x (by simp [rowsL, hx])) (by omega)⟩
end
mutual
theorem gt_take : ∀ (t : Tr) (d : Nat), Gt NR d t → Gt N0 d t ∧ (∀ r ∈ rows t, okP r = true) ∧ d + dp t ≤ 9
  | .nd r ks, d, h => by
    simp only [Gt] at h ⊢
    obtain ⟨h1, h2, h3⟩ := h
    obtain ⟨a, b, c⟩ := gtL_take ks (d + 1) h3
    refine ⟨⟨h1, trivial, a⟩, fun x hx => ?_, ?_⟩
    · simp only [rows, List.mem_cons] at hx
      rcases hx with rfl | hx
      · exact h2.1
      · exact b x hx
    · simp only [dp]
      cases ks with
      | nil => simp only [dpL]; have := h2.2; omega
      | cons t ts => have := c (by simp); omega
theorem gtL_take : ∀ (ts : List Tr) (d : Nat), GtL NR d ts → GtL N0 d ts ∧ (∀ r ∈ rowsL ts, okP r = true) ∧ (ts ≠ [] → d + dpL ts ≤ 9)
  | [], _, _ => ⟨by simp [GtL], by simp [rowsL], by simp⟩
  | t :: ts, d, h => by
    simp only [GtL] at h ⊢
    obtain ⟨a, b, c⟩ := gt_take t d h.1
    obtain ⟨a', b', c'⟩ := gtL_take ts d h.2
    refine ⟨⟨a, a'⟩, fun x hx => ?_, fun _ => ?_⟩
    · simp only [rowsL, List.mem_append] at hx
      rcases hx with hx | hx
      · exact b x hx
      · exact b' x hx
    · simp only [dpL]
      cases ts with
      | nil => simp only [dpL]; omega
      | cons u us => have := c' (by simp); omega
end
mutual
theorem gt_kd {N : Nd} : ∀ (t : Tr) (d : Nat), Gt N d t → ∀ r ∈ rows t, 0 ≤ r.kd
  | .nd r ks, d, h, x, hx => by
    simp only [Gt] at h
    simp only [rows, List.mem_cons] at hx
    rcases hx with rfl | hx
    · have := h.1; omega
    · exact gtL_kd ks _ h.2.2 x hx
theorem gtL_kd {N : Nd} : ∀ (ts : List Tr) (d : Nat), GtL N d ts → ∀ r ∈ rowsL ts, 0 ≤ r.kd
  | [], _, _, x, hx => by simp [rowsL] at hx
  | t :: ts, d, h, x, hx => by
    simp only [GtL] at h
    simp only [rowsL, List.mem_append] at hx
    rcases hx with hx | hx
    · exact gt_kd t d h.1 x hx
    · exact gtL_kd ts d h.2 x hx
end
theorem rows_ne (t : Tr) : rows t ≠ [] := by obtain ⟨r, ks⟩ := t; simp [rows]
theorem rows_pos (t : Tr) : 0 < (rows t).length := List.length_pos_iff.2 (rows_ne t)
theorem rowsL_len (ts : List Tr) : ts.length ≤ (rowsL ts).length := by
  induction ts with
  | nil => simp
  | cons t ts ih => have := rows_pos t; simp [rowsL]; omega
mutual
theorem dp_rows : ∀ t : Tr, dp t ≤ (rows t).length
  | .nd r ks => by have := dpL_rows ks; simp only [dp, rows, List.length_cons]; omega
theorem dpL_rows : ∀ ts : List Tr, dpL ts ≤ (rowsL ts).length
  | [] => by simp [dpL]
  | t :: ts => by have := dp_rows t; have := dpL_rows ts; simp only [dpL, rowsL, List.length_append]; omega
end
theorem dp_le (t : Tr) (h : (rows t).length ≤ 40) : dp t ≤ 1000 := by have := dp_rows t; omega
/-- The tree that a list of good routes is. -/
structure Is (ps : List Pl) (t : Tr) : Prop where
  rows : ps = rows t
  gt : Gt NR 1 t
  ms : t.r.ms = []
  on : t.r.on = false
/-- Good routes. -/
def GoodRt (ps : List Pl) : Prop := ps.length ≤ 40 ∧ ∃ t, Is ps t
open Classical in
noncomputable def goodP (ps : List Pl) : Bool := decide (GoodRt ps)
theorem goodP_true {ps : List Pl} (h : GoodRt ps) : goodP ps = true := by simp [goodP, h]
theorem goodP_false {ps : List Pl} (h : ¬ GoodRt ps) : goodP ps = false := by simp [goodP, h]
noncomputable abbrev goodR (ts : List T) : Bool := goodP (ts.map pl)
theorem map_getD (ts : List T) (i : Nat) (hi : i < ts.length) : (ts.map pl).getD i (pl t0) = pl (ts.getD i t0) := by simp [List.getD_eq_getElem?_getD, hi]
theorem same_map {n : Nat} {ts ts' : List T} (h : Same n ts ts') (hn : ts.length = n) (hn' : ts'.length = n) : ts'.map pl = ts.map pl := by
  apply List.ext_getElem (by simp; omega)
  intro i h1 h2
  have h1' : i < ts'.length := by simpa using h1
  have h2' : i < ts.length := by simpa using h2
  have := h i (by omega)
  simpa [List.getD_eq_getElem?_getD, h1', h2'] using this
theorem goodR_same {n : Nat} {ts ts' : List T} (h : Same n ts ts') (hn : ts.length = n) (hn' : ts'.length = n) : goodR ts' = goodR ts := by
  unfold goodR; rw [same_map h hn hn']
/-- How the program finds it: the rows by themselves, the tree, how deep it is. -/
theorem good_iff {ps : List Pl} : GoodRt ps ↔ ps.length ≤ 40 ∧ (∀ r ∈ ps, okP r = true ∧ 0 ≤ r.kd) ∧ ∃ t, ps = rows t ∧ Gt N0 1 t ∧ dp t ≤ 8 ∧ t.r.ms = [] ∧ t.r.on = false := by
  constructor
  · rintro ⟨h, t, ⟨rfl, h2, h3, h4⟩⟩
    obtain ⟨a, b, c⟩ := gt_take t 1 h2
    exact ⟨h, fun r hr => ⟨b r hr, gt_kd t 1 h2 r hr⟩, t, rfl, a, by omega, h3, h4⟩
  · rintro ⟨h, h1, t, rfl, h2, h3, h4, h5⟩
    exact ⟨h, t, ⟨rfl, gt_make t 1 h2 (fun r hr => (h1 r hr).1) (by omega), h4, h5⟩⟩
/-- Of one list there is one tree. -/
theorem one_tree {N M : Nd} {d d' : Nat} {t t' : Tr} (h : Gt N d t) (h' : Gt M d' t') (e : rows t = rows t') : t = t' := (rows_one N M t t' d d' [] [] h h' (by simpa using e)).1
/-- There is no tree of this row where its kids are these and there are to be others. -/
theorem kids_all {N : Nd} {d : Nat} {r : Pl} {ks : List Tr} (hk : r.kd = ks.length) (hn : N d r ks) (hks : GtL N (d + 1) ks) : Gt N d (.nd r ks) := by
  simp only [Gt]; exact ⟨hk, hn, hks⟩
end Go.Proofs.YthcogkoleiejgaaGreatDoor.Rou
/- The program's tree of routes, as it lies in memory. -/
namespace Go.Proofs.YthcogkoleiejgaaGreatDoor.Rou
open Go.RowKit
open Go.Proofs.YthcogkoleiejgaaGreatDoor.Rwc

/-- Values in a row, a cell each, in a block of S. -/
def HasV (S : Nat → Prop) (w : World) (a : Option Addr) (vs : List Value) : Prop :=
  vs = [] ∨ ∃ b off, a = some ⟨b, off, none⟩ ∧ S b ∧ b < w.heap.size ∧ ∀ i, i < vs.length → w.cell? ⟨b, off + i, none⟩ = vs[i]?
/-- What is told of a route that lies in the first world. -/
structure Rw (w0 : World) (q : T) : Prop where
  lst : Lst w0 q
  ft : Ft q
  sm : wt q ≤ 1048576
/-- A pointer to a block. -/
abbrev ptr (b : Nat) : Value := .pointer (some ⟨b, 0, none⟩)
def vals (bs : List Nat) : List Value := bs.map ptr
theorem vals_len (bs : List Nat) : (vals bs).length = bs.length := by simp [vals]
theorem vals_get {bs : List Nat} {i b : Nat} (h : bs[i]? = some b) : (vals bs)[i]? = some (ptr b) := by simp [vals, h]
/-- The cells of a node. -/
abbrev nodeA (q : T) (i : Int) (ak : Option Addr) (n ck : Nat) : Array Value := #[.string q.rv, .slice q.ma q.ms.length q.mc, .slice q.da q.ds.length q.dc, .int .i64 q.wa, .int .i64 q.ev, .int .i64 q.ag, .slice q.ua q.us.length q.uc, .bool q.on, .int .i64 q.kd, .int .i64 i, .slice ak n ck]
theorem cellsE {x : World} {b : Nat} {v0 v1 v2 v3 v4 v5 v6 v7 v8 v9 v10 : Value} {t : TypeId} (h : x.heap[b]? = some (.cells #[v0, v1, v2, v3, v4, v5, v6, v7, v8, v9, v10] t)) : x.cell? ⟨b, 0, none⟩ = some v0 ∧ x.cell? ⟨b, 1, none⟩ = some v1 ∧ x.cell? ⟨b, 2, none⟩ = some v2 ∧ x.cell? ⟨b, 3, none⟩ = some v3 ∧ x.cell? ⟨b, 4, none⟩ = some v4 ∧ x.cell? ⟨b, 5, none⟩ = some v5 ∧ x.cell? ⟨b, 6, none⟩ = some v6 ∧ x.cell? ⟨b, 7, none⟩ = some v7 ∧ x.cell? ⟨b, 8, none⟩ = some v8 ∧ x.cell? ⟨b, 9, none⟩ = some v9 ∧ x.cell? ⟨b, 10, none⟩ = some v10 :=
  ⟨cell_at h 0, cell_at h 1, cell_at h 2, cell_at h 3, cell_at h 4, cell_at h 5, cell_at h 6, cell_at h 7, cell_at h 8, cell_at h 9, cell_at h 10⟩
theorem frozE {x : World} {b : Nat} {v0 v1 v2 v3 v4 v5 v6 v7 v8 v9 v10 : Value} {t : TypeId} (h : x.heap[b]? = some (.cells #[v0, v1, v2, v3, v4, v5, v6, v7, v8, v9, v10] t)) : x.frozen? ⟨b, 0, none⟩ = false ∧ x.frozen? ⟨b, 1, none⟩ = false ∧ x.frozen? ⟨b, 2, none⟩ = false ∧ x.frozen? ⟨b, 3, none⟩ = false ∧ x.frozen? ⟨b, 4, none⟩ = false ∧ x.frozen? ⟨b, 5, none⟩ = false ∧ x.frozen? ⟨b, 6, none⟩ = false ∧ x.frozen? ⟨b, 7, none⟩ = false ∧ x.frozen? ⟨b, 8, none⟩ = false ∧ x.frozen? ⟨b, 9, none⟩ = false ∧ x.frozen? ⟨b, 10, none⟩ = false :=
  ⟨froz_at h 0, froz_at h 1, froz_at h 2, froz_at h 3, froz_at h 4, froz_at h 5, froz_at h 6, froz_at h 7, froz_at h 8, froz_at h 9, froz_at h 10⟩
mutual
/-- A tree at a block, in the world w; its routes' lists lie in the world w0; the routes have the numbers from i on. -/
def Nv (w0 : World) (S : Nat → Prop) (w : World) : Nat → Tr → Nat → Prop
  | i, .nd r ks, b => S b ∧ b < w.heap.size ∧ ∃ (q : T) (bs : List Nat) (ak : Option Addr) (ck : Nat), pl q = r ∧ Rw w0 q ∧ w.heap[b]? = some (.cells (nodeA q i ak bs.length ck) 149) ∧ HasV S w ak (vals bs) ∧ NvL w0 S w (i + 1) ks bs
def NvL (w0 : World) (S : Nat → Prop) (w : World) : Nat → List Tr → List Nat → Prop
  | _, [], bs => bs = []
  | i, t :: ts, bs => ∃ b bs', bs = b :: bs' ∧ Nv w0 S w i t b ∧ NvL w0 S w (i + (rows t).length) ts bs'
end
theorem cell_of {w w' : World} {p : Addr} (h : w'.heap[p.block]? = w.heap[p.block]?) : w'.cell? p = w.cell? p := by
  unfold World.cell?
  rw [h]
/-- The blocks of S stay, and are in S'. -/
structure Agr (S S' : Nat → Prop) (w w' : World) : Prop where
  size : w.heap.size ≤ w'.heap.size
  blk : ∀ b, S b → b < w.heap.size → w'.heap[b]? = w.heap[b]?
  sub : ∀ b, S b → S' b
theorem HasV.agr {S S' : Nat → Prop} {w w' : World} {a : Option Addr} {vs : List Value} (h : HasV S w a vs) (ha : Agr S S' w w') : HasV S' w' a vs := by
  rcases h with h | ⟨b, off, h1, h2, h3, h4⟩
  · exact .inl h
  · exact .inr ⟨b, off, h1, ha.sub b h2, Nat.lt_of_lt_of_le h3 ha.size, fun i hi => (cell_of (p := ⟨b, off + i, none⟩) (ha.blk b h2 h3)).trans (h4 i hi)⟩
mutual
theorem Nv.agr {w0 : World} {S S' : Nat → Prop} {w w' : World} (ha : Agr S S' w w') : ∀ (t : Tr) (i : Nat) (b : Nat), Nv w0 S w i t b → Nv w0 S' w' i t b
  | .nd r ks, i, b, h => by
    simp only [Nv] at h ⊢
    obtain ⟨h1, h2, q, bs, ak, ck, h3, h4, h5, h6, h7⟩ := h
    exact ⟨ha.sub b h1, Nat.lt_of_lt_of_le h2 ha.size, q, bs, ak, ck, h3, h4, (ha.blk b h1 h2).trans h5, h6.agr ha, NvL.agr ha ks (i + 1) bs h7⟩
theorem NvL.agr {w0 : World} {S S' : Nat → Prop} {w w' : World} (ha : Agr S S' w w') : ∀ (ts : List Tr) (i : Nat) (bs : List Nat), NvL w0 S w i ts bs → NvL w0 S' w' i ts bs
  | [], i, bs, h => by simp only [NvL] at h ⊢; exact h
  | t :: ts, i, bs, h => by
    simp only [NvL] at h ⊢
    obtain ⟨b, bs', h1, h2, h3⟩ := h
    exact ⟨b, bs', h1, Nv.agr ha t i b h2, NvL.agr ha ts _ bs' h3⟩
end
theorem NvL.snoc {w0 : World} {S : Nat → Prop} {w : World} {t : Tr} {b : Nat} : ∀ (ts : List Tr) (i : Nat) (bs : List Nat), NvL w0 S w i ts bs → Nv w0 S w (i + (rowsL ts).length) t b → NvL w0 S w i (ts ++ [t]) (bs ++ [b])
  | [], i, bs, h, h2 => by
    simp only [NvL] at h
    subst h
    simp only [List.nil_append, NvL]
    exact ⟨b, [], rfl, by simpa [rowsL] using h2, rfl⟩
  | u :: ts, i, bs, h, h2 => by
    simp only [NvL] at h
    obtain ⟨x, bs', rfl, h3, h4⟩ := h
    simp only [List.cons_append, NvL]
    refine ⟨x, _, rfl, h3, NvL.snoc ts _ bs' h4 ?_⟩
    simpa [rowsL, Nat.add_assoc] using h2
theorem NvL.len {w0 : World} {S : Nat → Prop} {w : World} : ∀ (ts : List Tr) (i : Nat) (bs : List Nat), NvL w0 S w i ts bs → bs.length = ts.length
  | [], i, bs, h => by simp only [NvL] at h; rw [h]; rfl
  | u :: ts, i, bs, h => by
    simp only [NvL] at h
    obtain ⟨x, bs', rfl, h3, h4⟩ := h
    simp [NvL.len ts _ bs' h4]
/-- The k-th kid, those ahead of it and those behind it. -/
theorem NvL.cut {w0 : World} {S : Nat → Prop} {w : World} : ∀ (ts : List Tr) (i : Nat) (bs : List Nat), NvL w0 S w i ts bs → ∀ k, k < ts.length → ∃ pre t post b, ts = pre ++ t :: post ∧ pre.length = k ∧ bs[k]? = some b ∧ Nv w0 S w (i + (rowsL pre).length) t b
  | [], i, bs, h, k, hk => by simp at hk
  | u :: ts, i, bs, h, k, hk => by
    simp only [NvL] at h
    obtain ⟨x, bs', rfl, h3, h4⟩ := h
    cases k with
    | zero => exact ⟨[], u, ts, x, rfl, rfl, rfl, by simpa [rowsL] using h3⟩
    | succ k =>
      obtain ⟨pre, t, post, b, e1, e2, e3, e4⟩ := NvL.cut ts _ bs' h4 k (by simpa using hk)
      exact ⟨u :: pre, t, post, b, by rw [e1]; rfl, by simp [e2], by simpa using e3, by simpa [rowsL, Nat.add_assoc] using e4⟩
theorem Rw.at_ {w0 w : World} {q : T} (h : Rw w0 q) (hb : Below w0.heap.size w0 w) : Lst w q := h.lst.below hb
theorem Agr.below {S : Nat → Prop} {w w' : World} (h : Below w.heap.size w w') : Agr S S w w' := ⟨h.size, fun b _ hb => h.block b hb, fun _ h => h⟩
/-- The kids that have grown, in the world wr; the node is at B. -/
structure Gs (w0 : World) (B i : Nat) (ks : List Tr) (bs : List Nat) (ak : Option Addr) (ck : Nat) (wr : World) : Prop where
  row : wr.ownsRow (B + 1) 116 1 (.slice ak bs.length ck) bs.length (vals bs)
  nv : NvL w0 (fun b => B < b ∧ b < wr.heap.size ∧ (Value.slice ak bs.length ck).ownBlock ≠ some b) wr i ks bs
end Go.Proofs.YthcogkoleiejgaaGreatDoor.Rou
