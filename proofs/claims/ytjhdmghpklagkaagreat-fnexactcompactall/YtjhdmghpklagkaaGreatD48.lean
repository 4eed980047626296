/- Blocks that lie in a stretch of memory; the model's l9CopyBlock. -/
import Derived.Test.YtjhdmghpklagkaaGreatD07
import Derived.Test.YtjhdmghpklagkaaGreatD29
import Derived.Test.YtjhdmghpklagkaaGreatD47
import Derived.Test.YtjhdmghpklagkaaGreatD37
namespace Go.Proofs.YtjhdmghpklagkaaGreat.Blk
open Go.RowKit
open Go.Proofs.YtjhdmghpklagkaaGreat.Lab (Lb HasL)
open Go.Proofs.YtjhdmghpklagkaaGreat.Smp (Sm HasS own_form)
open Go.Proofs.YtjhdmghpklagkaaGreat.Srs (hid lt_at kept blk own_base own_below own_grown own_set set_else set_at Q q0 HasQ SmlQ OwnO OwnL own_formC step_append_at)
open Go.Proofs.YtjhdmghpklagkaaGreat.Stn (T t0 OwnT HasT SmlT three infoT)

structure AgrI (X Y : Nat) (w y : World) : Prop where
  size : w.heap.size ≤ y.heap.size
  same : ∀ k, X ≤ k → k < Y → y.heap[k]? = w.heap[k]?
theorem cell_agr {X Y : Nat} {w y : World} (h : AgrI X Y w y) {b o : Nat} (h1 : X ≤ b) (h2 : b < Y) : y.cell? ⟨b, o, none⟩ = w.cell? ⟨b, o, none⟩ := by
  unfold World.cell?
  rw [h.same b h1 h2]
theorem hasL_agr {X Y : Nat} {w y : World} (h : AgrI X Y w y) {a : Option Addr} {l : List Lb} (hl : HasL w a l) (hb : l ≠ [] → ∀ b o, a = some ⟨b, o, none⟩ → X ≤ b ∧ b < Y) : HasL y a l := by
  rcases hl with e | ⟨b, off, h1, h2, h3⟩
  · exact .inl e
  · by_cases e : l = []
    · exact .inl e
    · obtain ⟨q1, q2⟩ := hb e b off h1
      exact .inr ⟨b, off, h1, Nat.lt_of_lt_of_le h2 h.size, fun i hi => ⟨(cell_agr h q1 q2).trans (h3 i hi).1, (cell_agr h q1 q2).trans (h3 i hi).2⟩⟩
theorem hasS_agr {X Y : Nat} {w y : World} (h : AgrI X Y w y) {a : Option Addr} {l : List Sm} (hl : HasS w a l) (hb : l ≠ [] → ∀ b o, a = some ⟨b, o, none⟩ → X ≤ b ∧ b < Y) : HasS y a l := by
  rcases hl with e | ⟨b, off, h1, h2, h3⟩
  · exact .inl e
  · by_cases e : l = []
    · exact .inl e
    · obtain ⟨q1, q2⟩ := hb e b off h1
      exact .inr ⟨b, off, h1, Nat.lt_of_lt_of_le h2 h.size, fun i hi => ⟨(cell_agr h q1 q2).trans (h3 i hi).1, (cell_agr h q1 q2).trans (h3 i hi).2⟩⟩
theorem owno_agr {X n c : Nat} {a : Option Addr} {R : List Q} {w y : World} (o : OwnO X a n c R w) (h : AgrI X w.heap.size w y) : HasQ y a R := by
  rcases o.has with e | ⟨b, off, h1, h2, h3⟩
  · exact .inl e
  · by_cases e : R = []
    · exact .inl e
    · rcases o.cases with ⟨e1, _⟩ | ⟨g, e1, og⟩
      · rw [e1] at h1; cases h1
      · rw [e1] at h1
        cases h1
        have hlo := (og.row.lt _ rfl).1
        refine .inr ⟨_, 0, e1, Nat.lt_of_lt_of_le h2 h.size, fun i hi => ?_⟩
        obtain ⟨k0, k1, k2, k3⟩ := h3 i hi
        have oi := o.own i (by rw [← o.len]; exact hi)
        refine ⟨(cell_agr h hlo h2).trans k0, (cell_agr h hlo h2).trans k1, hasL_agr h k2 fun _ b' o' e' => ?_, hasS_agr h k3 fun _ b' o' e' => ?_⟩
        · rw [oi.ha] at e'; cases e'; exact ⟨oi.lo.1, oi.hi.1⟩
        · rw [oi.hb] at e'; cases e'; exact ⟨oi.lo.2, oi.hi.2⟩
structure InB (X Y : Nat) (h : Bk) (w : World) : Prop where
  top : Y ≤ w.heap.size
  lies : ∀ y, AgrI X Y w y → HasB y h
theorem InB.has {X Y : Nat} {h : Bk} {w : World} (o : InB X Y h w) : HasB w h := o.lies w ⟨Nat.le_refl _, fun _ _ _ => rfl⟩
theorem InB.below {X Y : Nat} {h : Bk} {w w' : World} (o : InB X Y h w) (hb : Below w.heap.size w w') : InB X Y h w' :=
  ⟨Nat.le_trans o.top hb.size, fun y hy => o.lies y ⟨Nat.le_trans hb.size hy.size, fun k h1 h2 => (hy.same k h1 h2).trans (hb.block k (by have := o.top; omega))⟩⟩
theorem InB.grown {X Y : Nat} {h : Bk} {w w' : World} {r : Option Nat} (o : InB X Y h w) (hg : w.grownBy w' r) (hne : ∀ g, r = some g → g < X ∨ Y ≤ g) : InB X Y h w' :=
  ⟨Nat.le_trans o.top hg.size, fun y hy => o.lies y ⟨Nat.le_trans hg.size hy.size, fun k h1 h2 => (hy.same k h1 h2).trans (hg.block k (by have := o.top; omega) (fun e => by have := hne k e.symm; omega))⟩⟩
structure RowT (X : Nat) (a : Option Addr) (n c : Nat) (R : List T) (w : World) : Prop where
  len : R.length = n
  row : w.ownsRow X 94 3 (.slice a n c) n (Stn.flat R)
  own : ∀ i, i < n → Stn.Own1 X (blk (R.getD i t0).a) (R.getD i t0) w
  off : ∀ g, (Value.slice a n c).ownBlock = some g → ∀ i, i < n → blk (R.getD i t0).a ≠ g
theorem RowT.nil (X : Nat) (w : World) : RowT X none 0 0 [] w := ⟨rfl, World.ownsRow_nil _ _ _ _, fun i hi => by omega, fun g _ i hi => by omega⟩
theorem RowT.below {X n c : Nat} {a : Option Addr} {R : List T} {w w' : World} (h : RowT X a n c R w) (hb : Below w.heap.size w w') : RowT X a n c R w' := ⟨h.len, own_below h.row hb, fun i hi => (h.own i hi).below hb, h.off⟩
theorem RowT.set {X n c : Nat} {a : Option Addr} {R : List T} {w : World} (h : RowT X a n c R w) {p : Addr} (hp : p.block < X) (v : Value) : RowT X a n c R (w.setCell p v) := by
  refine ⟨h.len, ?_, fun i hi => (h.own i hi).set (by have h5 : X ≤ blk (R.getD i t0).a := ((h.own i hi).lab.lt _ rfl).1; omega) v, h.off⟩
  rcases h.row.2 with ⟨h1, h2⟩ | ⟨g, cap, cur, h1, h2, h3, h4⟩
  · have hr := h.row
    simp only [Value.slice.injEq] at h1
    obtain ⟨rfl, rfl, rfl⟩ := h1
    have e : Stn.flat R = [] := List.eq_nil_of_length_eq_zero (by have h5 := hr.1; simpa using h5)
    rw [e]; exact World.ownsRow_nil _ _ _ _
  · have hr := h.row
    simp only [Value.slice.injEq] at h1
    obtain ⟨rfl, -, rfl⟩ := h1
    exact own_set hr (by omega) v
theorem RowT.agr {X n c : Nat} {a : Option Addr} {R : List T} {w y : World} (o : RowT X a n c R w) (h : AgrI X w.heap.size w y) : HasT y a R := by
  by_cases e : R = []
  · exact .inl e
  · rcases o.row.2 with ⟨h1, h2⟩ | ⟨g, cap, cur, h1, _⟩
    · exact absurd (List.eq_nil_of_length_eq_zero (o.len.trans h2)) e
    · have hr := o.row
      simp only [Value.slice.injEq] at h1
      obtain ⟨rfl, -, rfl⟩ := h1
      have hh := Stn.own_has hr fun i hi => (o.own i (by rw [← o.len]; exact hi)).hasL
      rcases hh with e' | ⟨b, off, e1, h2, h3⟩
      · exact absurd e' e
      · cases e1
        have hlo := (hr.lt g rfl).1
        refine .inr ⟨g, 0, rfl, Nat.lt_of_lt_of_le h2 h.size, fun i hi => ?_⟩
        obtain ⟨⟨k0, k1, k2⟩, k3⟩ := h3 i hi
        have oi := o.own i (by rw [← o.len]; exact hi)
        refine ⟨⟨(cell_agr h hlo h2).trans k0, (cell_agr h hlo h2).trans k1, (cell_agr h hlo h2).trans k2⟩, hasL_agr h k3 fun _ b' o' e' => ?_⟩
        rw [oi.ha] at e'; cases e'; exact oi.lab.lt _ rfl
theorem RowT.push {X n c c' : Nat} {a a' : Option Addr} {R : List T} {q : T} {w W w' : World} (h : RowT X a n c R w) (hb : Below w.heap.size w W) (hq : Stn.Own1 X (blk q.a) q W) (h1 : w.heap.size ≤ blk q.a)
    (hg : W.grownBy w' (Value.slice a n c).ownBlock) (hr : w'.ownsRow X 94 3 (.slice a' (n + 1) c') (n + 1) (Stn.flat (R ++ [q])))
    (hv : (Value.slice a' (n + 1) c').ownBlock = (Value.slice a n c).ownBlock ∨ (Value.slice a' (n + 1) c').ownBlock = some W.heap.size) : RowT X a' (n + 1) c' (R ++ [q]) w' := by
  have hl := h.len
  have hget : ∀ i, (R ++ [q]).getD i t0 = if i = n then q else R.getD i t0 := fun i => by rw [Stn.getD_snoc, hl]
  have hob : ∀ g, (Value.slice a n c).ownBlock = some g → X ≤ g ∧ g < w.heap.size := fun g hgg => h.row.lt g hgg
  have kp : ∀ (p : T), Stn.Own1 X (blk p.a) p W → (∀ g, (Value.slice a n c).ownBlock = some g → blk p.a ≠ g) → Stn.Own1 X (blk p.a) p w' := fun p hp hn => ⟨hp.ha, hp.lab.kept hg (.inr fun e => hn _ e.symm rfl)⟩
  refine ⟨by simp [hl], hr, fun i hi => ?_, fun g hg' i hi => ?_⟩
  · rw [hget]
    by_cases e : i = n
    · rw [if_pos e]; exact kp q hq fun g hgg => by have := (hob g hgg).2; omega
    · rw [if_neg e]; exact kp _ ((h.own i (by omega)).below hb) fun g hgg => h.off g hgg i (by omega)
  · rw [hg'] at hv
    have hv' : some g = (Value.slice a n c).ownBlock ∨ some g = some W.heap.size := hv
    rw [hget]
    by_cases e : i = n
    · rw [if_pos e]
      rcases hv' with h3 | h3
      · have := (hob g h3.symm).2; omega
      · have h4 := Option.some.inj h3; have := hq.lts; omega
    · rw [if_neg e]
      rcases hv' with h3 | h3
      · exact h.off g h3.symm i (by omega)
      · have h4 := Option.some.inj h3; have := (h.own i (by omega)).lts; have := hb.size; omega
theorem three_new2 (w : World) (x y z : Value) (t : TypeId) : ∀ j u, [x, y, z][j]? = some u → (w.alloc (.cells #[x, y, z] t)).cell? ((⟨w.heap.size, 0, none⟩ : Addr).add j) = some u := by
  intro j u hj
  obtain ⟨d0, d1, d2⟩ := three (heap_alloc_new w (.cells #[x, y, z] t))
  rw [Smp.add_none, Nat.zero_add]
  match j, hj with
  | 0, h => simp at h; rw [← h]; exact d0
  | 1, h => simp at h; rw [← h]; exact d1
  | 2, h => simp at h; rw [← h]; exact d2
abbrev SW (p : T) (B : Nat) (x : World) : Prop := x.cell? ⟨B, 0, none⟩ = some (.slice p.a p.l.length p.c) ∧ x.cell? ⟨B, 1, none⟩ = some (.int .i64 p.f) ∧ x.cell? ⟨B, 2, none⟩ = some (.int .i64 p.t)
theorem owno_set {X n c : Nat} {a : Option Addr} {R : List Q} {w : World} (o : OwnO X a n c R w) {p : Addr} (hp : p.block < X) (v : Value) : OwnO X a n c R (w.setCell p v) := by
  refine ⟨o.len, ?_, fun i hi => own2_set (o.own i hi) hp v, o.nea, o.dis⟩
  rcases o.cases with ⟨e1, e2, e3, e4⟩ | ⟨g, e1, og⟩
  · rw [e1, e2, e3, e4]; exact World.ownsRow_nil _ _ _ _
  · have hr := o.row
    rw [e1] at hr ⊢
    exact own_set hr (by have := (hr.lt g rfl).1; omega) v
theorem AgrI.mono {X X' Y : Nat} {w y : World} (h : AgrI X Y w y) (hx : X ≤ X') : AgrI X' Y w y := ⟨h.size, fun k h1 h2 => h.same k (by omega) h2⟩
set_option maxRecDepth 10000 in
set_option maxHeartbeats 8000000 in
theorem f116 (h : Bk) (w : World) (hr : HasB w h) (hc : Cpb h) :
    Calls Tryz.prog 116 #[agB h] w fun e w' => ∃ h', e = .returned (agB h') ∧ Hid (SameB h h') ∧ Hid (InB w.heap.size w'.heap.size h' w') ∧ Below w.heap.size w w' := by
  obtain ⟨i0, hi, hz0, hz1, hz2⟩ := info_parts infoT
  obtain ⟨F, TT, LL, qs, a, c, ts, b, d⟩ := h
  obtain ⟨hz, hne, hcap, hnet⟩ := hc
  simp only at hne hcap hnet
  obtain ⟨W, hW⟩ : ∃ W, W = (w.alloc (.cells #[.int .i64 F, .int .i64 TT, .int .i64 LL, .slice a qs.length c, .slice b ts.length d] 36)).alloc Z5 := ⟨_, rfl⟩
  have HWb : Hid (Below w.heap.size w W ∧ W.heap[w.heap.size]? = some (.cells #[.int .i64 F, .int .i64 TT, .int .i64 LL, .slice a qs.length c, .slice b ts.length d] 36) ∧ W.heap[w.heap.size + 1]? = some Z5 ∧ W.heap.size = w.heap.size + 1 + 1) := by
    subst hW
    have h2 := heap_alloc_new (w.alloc (.cells #[.int .i64 F, .int .i64 TT, .int .i64 LL, .slice a qs.length c, .slice b ts.length d] 36)) Z5
    simp only [World.size_alloc] at h2
    exact ⟨((Below.refl w.heap.size w).alloc (Nat.le_refl _) _).alloc (by simp) _, (Below.heap_alloc _ _ w.heap.size (by simp)).trans (heap_alloc_new w _), h2, by simp⟩
  have HRW := hid (hr.below HWb.out.1)
  have HRT := hid hr.2
  have HC1 := hid (Srs.f108 a qs.length c qs W rfl hz.1 HRW.out.1 hne hz.2.1)
  have HZ := hid hz.2.2.2
  have h20 : ts.length ≤ 1048576 := hz.2.2.1
  have HNt := hid hnet
  clear hr hz hne hcap hnet
  simp only [agB, clB]
  go_enter Tryz.func116, Tryz.ntmps116
  obtain ⟨a0, a1, a2, a3, a4⟩ := five HWb.out.2.1
  go_wp2_with fail
  rw [← hW]
  clear hW
  refine HC1.out.mono ?_
  rintro e w1 ⟨a1', c1', R1, rfl, ho1, hs1, hb1⟩
  have HS1 := hid hs1.out
  obtain ⟨p0, p1, p2, p3, p4⟩ := five (kept HWb.out.2.1 hb1)
  have r3 := five_frz (o := 3) (kept HWb.out.2.1 hb1)
  obtain ⟨w2, hw2⟩ : ∃ w2, w2 = w1.setCell ⟨w.heap.size, 3, none⟩ (.slice a1' qs.length c1') := ⟨_, rfl⟩
  have H2 : Hid (w2.heap[w.heap.size]? = some (.cells #[.int .i64 F, .int .i64 TT, .int .i64 LL, .slice a1' qs.length c1', .slice b ts.length d] 36) ∧ w2.heap[w.heap.size + 1]? = some Z5 ∧ OwnO W.heap.size a1' qs.length c1' R1 w2 ∧ Below w.heap.size w w2 ∧ HasT w2 b ts) := by
    rw [hw2]
    have hWs := HWb.out.2.2.2
    have hb0 : Below w.heap.size w w1 := HWb.out.1.trans (hb1.mono HWb.out.1.size)
    refine ⟨set_at (i := 3) (kept HWb.out.2.1 hb1), set_else (kept HWb.out.2.2.1 hb1) (by simp only; omega), ?_, hb0.setCell (Nat.le_refl _) _, ?_⟩
    · exact owno_set ho1.out (by simp only; omega) _
    · exact HRT.out.below (hb0.setCell (Nat.le_refl _) _)
  have hWs := HWb.out.2.2.2
  have hsz2 : W.heap.size ≤ w2.heap.size := by rw [hw2]; simpa using hb1.size
  have HWs := hid hWs
  go_wp2_with fail
  rw [← hw2]
  clear hw2 hWs p0 p1 p2 p3 p4 r3 a0 a1 a2 a3 a4 ho1 hs1 hb1 HC1 HRW HWb
  generalize W.heap.size = S1 at *
  obtain ⟨p0, p1, p2, p3, p4⟩ := five H2.out.1
  go_wp2
  go_loopw [3, 13] (fun so si wr => ∃ (k c' : Nat) (a' : Option Addr) (R : List T), k ≤ ts.length ∧ si = .int .i64 k ∧ so = .slice a' k c' ∧ Hid (RowT w2.heap.size a' k c' R wr) ∧ Hid (Stn.Same k ts R) ∧ Hid (Below w2.heap.size w2 wr)) (fun _ si _ => ts.length - (intOf si).toNat)
  case atStart => exact ⟨0, 0, none, [], Nat.zero_le _, rfl, rfl, RowT.nil _ _, fun i hi => by omega, Below.refl _ _⟩
  case round =>
    clear p0 p1 p2 p3 p4
    obtain ⟨k, c', a', R, hk, rfl, rfl, HO, HSm, HX⟩ := hrel
    by_cases hlt : k < ts.length
    rotate_left
    · obtain rfl : k = ts.length := by omega
      have H3 : Hid (wr.heap[w.heap.size]? = some (.cells #[.int .i64 F, .int .i64 TT, .int .i64 LL, .slice a1' qs.length c1', .slice b ts.length d] 36) ∧ wr.heap[w.heap.size + 1]? = some Z5 ∧ OwnO S1 a1' qs.length c1' R1 wr ∧ Below w.heap.size w wr) :=
        ⟨kept H2.out.1 HX.out, kept H2.out.2.1 HX.out, H2.out.2.2.1.below HX.out, H2.out.2.2.2.1.trans (HX.out.mono H2.out.2.2.2.1.size)⟩
      obtain ⟨p0, p1, p2, p3, p4⟩ := five H3.out.1
      have r4 := five_frz (o := 4) H3.out.1
      obtain ⟨e0, e1, e2, e3, e4⟩ := five H3.out.2.1
      have u0 := five_frz (o := 0) H3.out.2.1
      have u1 := five_frz (o := 1) H3.out.2.1
      have u2 := five_frz (o := 2) H3.out.2.1
      have u3 := five_frz (o := 3) H3.out.2.1
      have u4 := five_frz (o := 4) H3.out.2.1
      have HF : Hid (∀ x, x = (((((wr.setCell ⟨w.heap.size, 4, none⟩ (.slice a' ts.length c')).setCell ⟨w.heap.size + 1, 0, none⟩ (.int .i64 F)).setCell ⟨w.heap.size + 1, 1, none⟩ (.int .i64 TT)).setCell ⟨w.heap.size + 1, 2, none⟩ (.int .i64 LL)).setCell ⟨w.heap.size + 1, 3, none⟩ (.slice a1' qs.length c1')).setCell ⟨w.heap.size + 1, 4, none⟩ (.slice a' ts.length c') →
          x.heap[w.heap.size + 1]? = some (.cells #[.int .i64 F, .int .i64 TT, .int .i64 LL, .slice a1' qs.length c1', .slice a' ts.length c'] 36) ∧ OwnO S1 a1' qs.length c1' R1 x ∧ RowT w2.heap.size a' ts.length c' R x ∧ Below w.heap.size w x) := by
        rintro x rfl
        have hWs := HWs.out
        refine ⟨set_at (i := 4) (set_at (i := 3) (set_at (i := 2) (set_at (i := 1) (set_at (i := 0) (set_else H3.out.2.1 (by simp only; omega)))))), ?_, ?_, ?_⟩
        · exact owno_set (owno_set (owno_set (owno_set (owno_set (owno_set H3.out.2.2.1 (by simp only; omega) _) (by simp only; omega) _) (by simp only; omega) _) (by simp only; omega) _) (by simp only; omega) _) (by simp only; omega) _
        · exact RowT.set (RowT.set (RowT.set (RowT.set (RowT.set (RowT.set HO.out (by simp only; omega) _) (by simp only; omega) _) (by simp only; omega) _) (by simp only; omega) _) (by simp only; omega) _) (by simp only; omega) _
        · exact Below.setCell (p := ⟨w.heap.size + 1, 4, none⟩) (Below.setCell (p := ⟨w.heap.size + 1, 3, none⟩) (Below.setCell (p := ⟨w.heap.size + 1, 2, none⟩) (Below.setCell (p := ⟨w.heap.size + 1, 1, none⟩) (Below.setCell (p := ⟨w.heap.size + 1, 0, none⟩) (Below.setCell (p := ⟨w.heap.size, 4, none⟩) H3.out.2.2.2 (Nat.le_refl _) _) (by simp only; omega) _) (by simp only; omega) _) (by simp only; omega) _) (by simp only; omega) _) (by simp only; omega) _
      have HL1 := hid H2.out.2.2.1.len
      have HL2 := hid HO.out.len
      clear H3 HO HX H2
      go_wp2
      revert HF
      generalize hwf : World.setCell _ _ _ = wf
      intro HF
      obtain ⟨k1, k2, k3, k4⟩ := HF.out wf (by rw [← hwf])
      obtain ⟨y0, y1, y2, y3, y4⟩ := five k1
      have hres : ∃ h' : Bk, agB h' = .agg #[.int .i64 F, .int .i64 TT, .int .i64 LL, .slice a1' qs.length c1', .slice a' ts.length c'] ∧ SameB ⟨F, TT, LL, qs, a, c, ts, b, d⟩ h' ∧ InB w.heap.size wf.heap.size h' wf := by
        refine ⟨⟨F, TT, LL, R1, a1', c1', R, a', c'⟩, ?_, ⟨rfl, rfl, rfl, HL1.out, HL2.out, HS1.out, HSm.out⟩, ⟨Nat.le_refl _, fun y hy => ⟨owno_agr k2 (hy.mono (by have := HWs.out; omega)), RowT.agr k3 (hy.mono (by have := HWs.out; omega))⟩⟩⟩
        simp only [agB, clB, HL1.out, HL2.out]
      obtain ⟨h', he, hsm, hoc⟩ := hres
      have HH := hid (And.intro hsm hoc)
      clear hsm hoc HF k1 k2 k3 HL1 HL2 HS1 HSm
      refine bodyPost_ret (v := .agg #[.int .i64 F, .int .i64 TT, .int .i64 LL, .slice a1' qs.length c1', .slice a' ts.length c']) (by simp [results, Tryz.results116, go_sem, y0, y1, y2, y3, y4]) rfl ?_
      exact ⟨h', congrArg Ending.returned he.symm, HH.out.1, HH.out.2, k4⟩
    obtain ⟨bb, off, rfl, hbl, ⟨c0, c1, c2⟩, t1⟩ := (H2.out.2.2.2.2.below HX.out).at2 k hlt
    have HNq := hid (HNt.out k hlt)
    have HZq := hid (HZ.out k hlt)
    have HQk : Hid (∀ q', Stn.pl q' = Stn.pl (ts.getD k t0) → Stn.Same (k + 1) ts (R ++ [q'])) := by
      intro q' he i hi
      rw [Stn.getD_snoc, HO.out.len]
      by_cases e : i = k
      · rw [if_pos e, e]; exact he
      · rw [if_neg e]; exact HSm.out i (by omega)
    generalize ts.getD k t0 = q at *
    have i1 : (k : Int) < (ts.length : Int) := by omega
    have HW0 := hid ((Below.refl wr.heap.size wr).alloc (Nat.le_refl _) (.cells #[.slice q.a q.l.length q.c, .int .i64 q.f, .int .i64 q.t] 94))
    have HBx := hid (heap_alloc_new wr (.cells #[.slice q.a q.l.length q.c, .int .i64 q.f, .int .i64 q.t] 94))
    obtain ⟨bl, ol, hql⟩ : ∃ b o, q.a = some ⟨b, o, none⟩ := by
      rcases t1 with h | ⟨b, o, h, _⟩
      · exact absurd h HNq.out
      · exact ⟨b, o, h⟩
    have HT1 := hid (t1.below HW0.out)
    obtain ⟨W, hW⟩ : ∃ W, W = wr.alloc (.cells #[.slice q.a q.l.length q.c, .int .i64 q.f, .int .i64 q.t] 94) := ⟨_, rfl⟩
    rw [← hW] at HW0 HBx HT1
    have hd2 : Below W.heap.size W W.drew := (Below.refl _ _).drew
    have hlp : 0 < q.l.length := List.length_pos_iff.2 HNq.out
    have hl1 : q.l.length ≤ 1048576 := HZq.out
    have hwW : wr.heap.size ≤ W.heap.size := HW0.out.size
    have hX0 : w2.heap.size ≤ wr.heap.size := HX.out.size
    have HC1 : Hid (Calls Tryz.prog 111 #[.slice q.a q.l.length q.c] W.drew fun e w' => ∃ v', e = .returned v' ∧ OwnL w' W.drew.heap.size v' q.l ∧ Below W.drew.heap.size W.drew w') := by
      have h := HT1.out.below hd2
      rw [hql] at h ⊢
      exact Srs.f111 bl ol q.c q.l W.drew hl1 h
    clear t1 hbl hql
    go_wp2_with fail
    rw [← hW]
    clear hW c0 c1 c2
    generalize hB : wr.heap.size = B at *
    refine wp_region_held_drew (S := fun x => SW q B x) rfl (three (kept HBx.out hd2)) (fun hHeld => ?_)
    refine tkH 0 (some 17) (.slice a' k c') rfl ?_
    simp only [Act.put, zzA, zzB, zzC]
    refine tkH 1 (some 18) (.pointer (some ⟨B, 0, none⟩)) rfl ?_
    simp only [Act.put, zzA, zzB, zzC]
    refine tkH 2 (some 19) (.slice q.a q.l.length q.c) rfl ?_
    simp only [Act.put, zzA, zzB, zzC]
    refine tkH 4 (some 21) (.pointer (some ⟨B, 1, none⟩)) rfl ?_
    simp only [Act.put, zzA, zzB, zzC]
    refine tkH 5 (some 22) (.int .i64 q.f) rfl ?_
    simp only [Act.put, zzA, zzB, zzC]
    refine tkH 6 (some 23) (.pointer (some ⟨B, 2, none⟩)) rfl ?_
    simp only [Act.put, zzA, zzB, zzC]
    refine tkH 7 (some 24) (.int .i64 q.t) rfl ?_
    simp only [Act.put, zzA, zzB, zzC]
    refine wpAnyH_ready (rs := [3]) (by kernel_rfl) (by simp) (AllReadyH.cons (o := { dst := some 20, op := _, type := _, pos := _, after := _, guard := _ }) rfl ?_ AllReadyH.nil)
    intro K1 hK1
    go_simp
    go_wp2_with (go_at_call 111; refine HC1.out.mono ?_; rintro e w5 ⟨v4, rfl, ho4, hb4⟩; have hw5 : Below W.heap.size W w5 := hd2.trans (hb4.mono hd2.size))
    refine hK1.out _ _ (three (kept HBx.out hw5)) (fun _ => ?_)
    clear hK1 K1
    obtain ⟨ga, ca, rfl⟩ := own_formC ho4 hlp
    have HL5 := hid ho4
    have hga : W.heap.size ≤ ga := Nat.le_trans hd2.size (ho4.lt ga rfl).1
    have HW5 : Hid (Below B wr w5) := HW0.out.trans (hw5.mono hwW)
    have HX5 : Hid (Below w2.heap.size w2 w5) := HX.out.trans (HW5.out.mono hX0)
    clear ho4 hb4 hHeld
    obtain ⟨q', hq'⟩ : ∃ q' : T, q' = ⟨q.l, some ⟨ga, 0, none⟩, ca, q.f, q.t⟩ := ⟨_, rfl⟩
    have HQ5 : Hid (Stn.Own1 w2.heap.size (blk q'.a) q' w5 ∧ B ≤ blk q'.a ∧ Stn.pl q' = Stn.pl q ∧ Stn.cl q' = [.slice (some ⟨ga, 0, none⟩) q.l.length ca, .int .i64 q.f, .int .i64 q.t]) := by
      rw [hq']
      exact ⟨⟨rfl, own_base HL5.out (by have := hd2.size; omega)⟩, (show B ≤ ga by omega), rfl, rfl⟩
    clear hq' HL5
    refine tkH 8 (some 25) (.agg #[.slice (some ⟨ga, 0, none⟩) q.l.length ca, .int .i64 q.f, .int .i64 q.t]) rfl ?_
    simp only [Act.put, zzA, zzB, zzC]
    have hba := (Below.refl w5.heap.size w5).alloc (Nat.le_refl _) (.cells #[.slice (some ⟨ga, 0, none⟩) q.l.length ca, .int .i64 q.f, .int .i64 q.t] 94)
    have hwa := hw5.trans (hba.mono hw5.size)
    refine wpAnyH_ready (rs := [9]) (by kernel_rfl) (by simp) (AllReadyH.cons (o := { dst := some 26, op := _, type := _, pos := _, after := _, guard := _ }) rfl ?_ AllReadyH.nil)
    intro K3 hK3
    go_simp
    refine hK3.out _ _ (three (kept HBx.out hwa)) (fun _ => ?_)
    clear hK3 K3
    try simp only [Act.put, zzA, zzB, zzC]
    have HO5 : Hid (RowT w2.heap.size a' k c' R w5) := HO.out.below (by rw [hB]; exact HW5.out)
    have HOlt : Hid (∀ g, (Value.slice a' k c').ownBlock = some g → w2.heap.size ≤ g ∧ g < B) := fun g hg => by have := HO.out.row.lt g hg; rw [hB] at this; exact this
    refine wpAnyH_ready (rs := [10]) (by kernel_rfl) (by simp) (AllReadyH.cons (o := { dst := some 27, op := _, type := _, pos := _, after := _, guard := _ }) rfl ?_ AllReadyH.nil)
    intro K4 hK4
    refine step_append_at rfl (.tmp 17) (.tmp 26) 34 rfl w2.heap.size 94 i0 (.agg #[.slice none 0 0, .int .i64 0, .int .i64 0]) 3 40 Tryz.underlying34 hi hz0 hz1 hz2 rfl (by decide) _ _ _ _ rfl (HO5.out.row.alloc _) ⟨w5.heap.size, 0, none⟩ 1 1 [.slice (some ⟨ga, 0, none⟩) q.l.length ca, .int .i64 q.f, .int .i64 q.t] rfl rfl (three_new2 w5 _ _ _ _) (by intro u hu; simp at hu; rcases hu with rfl | rfl | rfl <;> rfl) (by unfold maxLen; omega) (by omega) (by have := HX5.out.size; simp; omega) ?_
    intro v8 w8 hown8 hgr8 hat8
    obtain ⟨a8, c8, rfl⟩ := own_form hown8
    have hby : w8.heap[B]? = some (.cells #[.slice q.a q.l.length q.c, .int .i64 q.f, .int .i64 q.t] 94) := (hgr8.block _ (lt_at (kept HBx.out hwa)) (fun e => by have := (HOlt.out _ e.symm).2; omega)).trans (kept HBx.out hwa)
    refine hK4.out _ _ (three hby) (fun _ => ?_)
    clear hK4 K4
    simp only [Act.put, zzA, zzB, zzC]
    refine tkH 11 (some 3) (.slice a8 (k + 1) c8) rfl ?_
    simp only [Act.put, zzA, zzB, zzC]
    refine wpAnyH_done (by kernel_rfl) ?_ _
    have HX8 := hid ((HX5.out.alloc HX5.out.size (.cells #[.slice (some ⟨ga, 0, none⟩) q.l.length ca, .int .i64 q.f, .int .i64 q.t] 94)).grown hgr8 (by have := HX5.out.size; simp; omega) (fun j hj => (HOlt.out j hj).1))
    have HO8 : Hid (RowT w2.heap.size a8 (k + 1) c8 (R ++ [q']) w8) := by
      refine HO.out.push (by rw [hB]; exact HW5.out.trans (hba.mono (by have := HW5.out.size; omega))) (HQ5.out.1.below hba) (by rw [hB]; exact HQ5.out.2.1) hgr8 ?_ hat8
      have e : Stn.flat (R ++ [q']) = Stn.flat R ++ [.slice (some ⟨ga, 0, none⟩) q.l.length ca, .int .i64 q.f, .int .i64 q.t] := by
        rw [Stn.flat_append]
        show Stn.flat R ++ (Stn.cl q' ++ []) = _
        rw [HQ5.out.2.2.2, List.append_nil]
      rw [e]
      exact hown8
    have HS8 := hid (HQk.out q' HQ5.out.2.2.1)
    clear hown8 hgr8 hat8 hby hwa hba hw5
    go_wp2
    go_roundw
    case rel => exact ⟨k + 1, c8, a8, R ++ [q'], by omega, by go_num, rfl, HO8, HS8, HX8⟩
    case measure => simp [intOf]; omega
end Go.Proofs.YtjhdmghpklagkaaGreat.Blk
namespace Go.Proofs.YtjhdmghpklagkaaGreat.Blk
open Go.RowKit
open Go.Proofs.YtjhdmghpklagkaaGreat.Lab (Lb HasL)
open Go.Proofs.YtjhdmghpklagkaaGreat.Smp (Sm HasS own_form ret_bool)
open Go.Proofs.YtjhdmghpklagkaaGreat.Srs (hid lt_at kept blk own_base own_below own_grown own_set set_else set_at Q q0 HasQ SmlQ OwnO OwnL)
open Go.Proofs.YtjhdmghpklagkaaGreat.Stn (T t0 OwnT HasT SmlT three infoT)

structure Way (Pb : Nat → Nat → Bk → World → Prop) : Prop where
  below : ∀ {X Y h w w'}, Pb X Y h w → Below w.heap.size w w' → Pb X Y h w'
  grown : ∀ {X Y h w w' r}, Pb X Y h w → World.grownBy w w' r → (∀ g, r = some g → g < X ∨ Y ≤ g) → Pb X Y h w'
  top : ∀ {X Y h w}, Pb X Y h w → Y ≤ w.heap.size
  has : ∀ {X Y h w}, Pb X Y h w → HasB w h
theorem wayIn : Way InB := ⟨fun h => h.below, fun h => h.grown, fun h => h.top, fun h => h.has⟩
structure RowK (Pb : Nat → Nat → Bk → World → Prop) (X : Nat) (a : Option Addr) (n c : Nat) (R : List Bk) (L U : Nat → Nat) (w : World) : Prop where
  len : R.length = n
  row : w.ownsRow X 36 5 (.slice a n c) n (flatK R)
  each : ∀ i, i < n → Pb (L i) (U i) (R.getD i k0) w
  off : ∀ g, (Value.slice a n c).ownBlock = some g → ∀ i, i < n → g < L i ∨ U i ≤ g
theorem RowK.nil {Pb : Nat → Nat → Bk → World → Prop} (X : Nat) (L U : Nat → Nat) (w : World) : RowK Pb X none 0 0 [] L U w := ⟨rfl, World.ownsRow_nil _ _ _ _, fun i hi => by omega, fun g _ i hi => by omega⟩
theorem RowK.below {Pb : Nat → Nat → Bk → World → Prop} (hW : Way Pb) {X n c : Nat} {a : Option Addr} {R : List Bk} {L U : Nat → Nat} {w w' : World} (h : RowK Pb X a n c R L U w) (hb : Below w.heap.size w w') : RowK Pb X a n c R L U w' := ⟨h.len, own_below h.row hb, fun i hi => hW.below (h.each i hi) hb, h.off⟩
theorem RowK.has {Pb : Nat → Nat → Bk → World → Prop} (hW : Way Pb) {X n c : Nat} {a : Option Addr} {R : List Bk} {L U : Nat → Nat} {w : World} (h : RowK Pb X a n c R L U w) : HasK w a R := by
  rcases h.row.2 with ⟨h1, h2⟩ | ⟨g, cap, cur, h1, _⟩
  · exact .inl (List.eq_nil_of_length_eq_zero (h.len.trans h2))
  · have hr := h.row
    simp only [Value.slice.injEq] at h1
    obtain ⟨rfl, -, rfl⟩ := h1
    exact ownK_has hr fun i hi => hW.has (h.each i (by rw [← h.len]; exact hi))
theorem RowK.push {Pb : Nat → Nat → Bk → World → Prop} (hW : Way Pb) {X n c c' Lo Up : Nat} {a a' : Option Addr} {R : List Bk} {L U : Nat → Nat} {q : Bk} {w W w' : World} (h : RowK Pb X a n c R L U w) (hb : Below w.heap.size w W) (hq : Pb Lo Up q W) (h1 : ∀ g, (Value.slice a n c).ownBlock = some g → g < Lo ∨ Up ≤ g)
    (hg : W.grownBy w' (Value.slice a n c).ownBlock) (hr : w'.ownsRow X 36 5 (.slice a' (n + 1) c') (n + 1) (flatK (R ++ [q])))
    (hv : (Value.slice a' (n + 1) c').ownBlock = (Value.slice a n c).ownBlock ∨ (Value.slice a' (n + 1) c').ownBlock = some W.heap.size) : RowK Pb X a' (n + 1) c' (R ++ [q]) (fun i => if i = n then Lo else L i) (fun i => if i = n then Up else U i) w' := by
  have hl := h.len
  have hget : ∀ i, (R ++ [q]).getD i k0 = if i = n then q else R.getD i k0 := fun i => by rw [getK_snoc, hl]
  refine ⟨by simp [hl], hr, fun i hi => ?_, fun g hg' i hi => ?_⟩
  · rw [hget]
    by_cases e : i = n
    · simp only [if_pos e]; exact hW.grown hq hg h1
    · simp only [if_neg e]; exact hW.grown (hW.below (h.each i (by omega)) hb) hg fun g hgg => h.off g hgg i (by omega)
  · rw [hg'] at hv
    have hv' : some g = (Value.slice a n c).ownBlock ∨ some g = some W.heap.size := hv
    by_cases e : i = n
    · simp only [if_pos e]
      rcases hv' with h3 | h3
      · exact h1 g h3.symm
      · have h4 := Option.some.inj h3; have := hW.top hq; omega
    · simp only [if_neg e]
      rcases hv' with h3 | h3
      · exact h.off g h3.symm i (by omega)
      · have h4 := Option.some.inj h3; have := hW.top (h.each i (by omega)); have := hb.size; omega
def kp (x : Int) (bs : List Bk) : List Bk := bs.filter fun h => decide (x < h.T)
theorem five_new (w : World) (v0 v1 v2 v3 v4 : Value) (t : TypeId) : ∀ j u, [v0, v1, v2, v3, v4][j]? = some u → (w.alloc (.cells #[v0, v1, v2, v3, v4] t)).cell? ((⟨w.heap.size, 0, none⟩ : Addr).add j) = some u := by
  intro j u hj
  obtain ⟨d0, d1, d2, d3, d4⟩ := five (heap_alloc_new w (.cells #[v0, v1, v2, v3, v4] t))
  rw [Smp.add_none, Nat.zero_add]
  match j, hj with
  | 0, h => simp at h; rw [← h]; exact d0
  | 1, h => simp at h; rw [← h]; exact d1
  | 2, h => simp at h; rw [← h]; exact d2
  | 3, h => simp at h; rw [← h]; exact d3
  | 4, h => simp at h; rw [← h]; exact d4
theorem flatK_snoc (R : List Bk) (q : Bk) : flatK (R ++ [q]) = flatK R ++ clK q := by
  rw [flatK_append]
  show flatK R ++ (clK q ++ []) = _
  rw [List.append_nil]
end Go.Proofs.YtjhdmghpklagkaaGreat.Blk
