import Derived.Test.YtjchioecfcnpfaaGreatGU
import Derived.Test.YtjchioecfcnpfaaGreatJl
import Derived.Test.YtjchioecfcnpfaaGreatJh
/- What is asked of the answer of SelectBlock: sizes, marks, copies that say the same. -/
namespace Go.Proofs.YtjchioecfcnpfaaGreat.Srs
open Go.RowKit
open Go.Proofs.YtjchioecfcnpfaaGreat.Lab (Lb HasL OfV GoodP)
open Go.Proofs.YtjchioecfcnpfaaGreat.Smp (Sm HasS cut)
open Go.Proofs.YtjchioecfcnpfaaGreat.Pat (Mt HasM goodM allM FitM)

theorem f15n (k : Nat) (w : World) : Calls Tryz.prog 15 #[.slice none 0 0, .int .i64 k] w fun e w' => e = .returned (.int .i64 k) ∧ w' = w := by
  go_enter Tryz.func15, Tryz.ntmps15
  go_wp2
  go_loopw [1, 5] (fun s i wr => s = .int .i64 k ∧ i = .int .i64 0 ∧ wr = w) (fun _ _ _ => 0)
  case atStart => exact ⟨rfl, rfl, rfl⟩
  case round =>
    obtain ⟨rfl, rfl, rfl⟩ := hrel
    go_wp2
    go_ret
    exact ⟨rfl, rfl⟩
theorem f16n (k : Nat) (w : World) : Calls Tryz.prog 16 #[.slice none 0 0, .int .i64 k] w fun e w' => e = .returned (.int .i64 k) ∧ w' = w := by
  go_enter Tryz.func16, Tryz.ntmps16
  go_wp2
  go_loopw [1, 5] (fun s i wr => s = .int .i64 k ∧ i = .int .i64 0 ∧ wr = w) (fun _ _ _ => 0)
  case atStart => exact ⟨rfl, rfl, rfl⟩
  case round =>
    obtain ⟨rfl, rfl, rfl⟩ := hrel
    go_wp2
    go_ret
    exact ⟨rfl, rfl⟩
/-- How many labels and samples plain series have. -/
def totP (L : List Pl) : Nat := (L.map fun p => p.1.length + p.2.length).sum
theorem totP_append (A B : List Pl) : totP (A ++ B) = totP A + totP B := by simp [totP]
theorem tot_map : ∀ (R : List Q), tot R R.length = totP (R.map pl) := by
  intro R
  have key : ∀ k, k ≤ R.length → tot R k = totP ((R.take k).map pl) := by
    intro k
    induction k with
    | zero => intro _; rfl
    | succ k ih =>
      intro hk
      rw [tot, ih (by omega), List.take_succ_eq_append_getElem (by omega), List.map_append, totP_append]
      have e : R.getD k q0 = R[k] := by simp [show k < R.length by omega]
      rw [e]
      simp [totP, pl]
      omega
  rw [key R.length (Nat.le_refl _), List.take_length]
theorem same_map {R R' : List Q} {L : List Pl} (h : R.map pl = L) (h' : R'.map pl = L) : R'.length = R.length ∧ Same R.length R R' := by
  have hl : R'.length = R.length := by rw [sel_len h, sel_len h']
  refine ⟨hl, fun i hi => ?_⟩
  have e1 : (R.map pl)[i]? = (R'.map pl)[i]? := by rw [h, h']
  have g1 : R.getD i q0 = R[i] := by simp [hi]
  have g2 : R'.getD i q0 = R'[i]'(by omega) := by simp [show i < R'.length by omega]
  rw [g1, g2]
  simpa [hi, show i < R'.length by omega] using e1.symm
theorem OwnO.fr {X Y g n c : Nat} {a : Option Addr} {qs : List Q} {w x : World} (h : OwnO X a n c qs w) (hf : Fr g Y w x) (hY : Y ≤ X) : OwnO X a n c qs x := by
  refine ⟨h.len, ?_, fun i hi => ?_, h.nea, h.dis⟩
  · rcases h.cases with ⟨h1, h2, h3, h4⟩ | ⟨g', h1, h2⟩
    · subst h1 h2 h3 h4; exact World.ownsRow_nil _ _ _ _
    · have hr := h.row
      rw [h1] at hr ⊢
      exact own_fr hr hf (.inr (Nat.le_trans hY (hr.lt g' rfl).1))
  · have ho := h.own i hi
    exact ⟨ho.ha, ho.hb, own_fr ho.lab hf (.inr (Nat.le_trans hY ho.lo.1)), own_fr ho.smp hf (.inr (Nat.le_trans hY ho.lo.2)), ho.ne⟩
theorem OwnO.aside {X r n c : Nat} {a : Option Addr} {qs : List Q} {w x : World} (h : OwnO X a n c qs w) (hg : w.grownBy x (some r)) (hr : r < X) : OwnO X a n c qs x := by
  refine ⟨h.len, h.row.kept hg ?_, fun i hi => (h.own i hi).grown hg (by have := (h.own i hi).lo; omega) (by have := (h.own i hi).lo; omega), h.nea, h.dis⟩
  by_cases e : (Value.slice a n c).ownBlock = none
  · exact .inl e
  · refine .inr fun e2 => ?_
    have := (h.row.lt r e2).1
    omega
theorem fr_below {X Y B : Nat} {w x : World} (h : Fr X Y w x) (hb : B ≤ X) (hs : B ≤ w.heap.size) : Below B w x := ⟨h.os, h.tape, h.output, h.size, fun k hk => h.block k (by omega) (.inl (by omega))⟩
theorem grown_belowB {B r : Nat} {w x : World} (h : w.grownBy x (some r)) (hb : B ≤ r) (hs : B ≤ w.heap.size) : Below B w x := (Below.refl B w).grown h hs (fun k hk => by cases hk; exact hb)
/-- The series that came out, marked or held, nil or not. -/
theorem mark_ans {X n c k : Nat} {a : Option Addr} {R : List Q} {w : World} (h : OwnO X a n c R w) (hb : n ≤ 1048576) (hk : k + 2 * tot R n ≤ 100000000) :
    Calls Tryz.prog 15 #[.slice a n c, .int .i64 k] w fun e w' => e = .returned (.int .i64 ((k + 2 * tot R n : Nat) : Int)) ∧ OwnO X a n c (mqs k R) w' ∧ Below X w w' := by
  rcases h.cases with ⟨h1, h2, h3, h4⟩ | ⟨g, h1, h2⟩
  · subst h1 h2 h3 h4
    refine (f15n k w).mono ?_
    rintro e w' ⟨rfl, rfl⟩
    exact ⟨rfl, OwnO.nil _ _, Below.refl _ _⟩
  · subst h1
    refine (f15g X g n c k R w hb hk (Nat.le_of_lt (Nat.lt_of_le_of_lt (h2.row.lt g rfl).1 (h2.row.lt g rfl).2)) h2).mono ?_
    rintro e w' ⟨rfl, ho, hbl⟩
    exact ⟨rfl, ⟨ho.len, ho.row, ho.own, fun g' e i hi => by cases e; exact ho.apt.nea i hi, ho.apt.dis⟩, hbl⟩
theorem held_ans {X n c k : Nat} {a : Option Addr} {R : List Q} {w : World} (hn : R.length = n) (h : OwnO X a n c (mqs k R) w) (hb : n ≤ 1048576) (hk : k + 2 * tot R n ≤ 100000000) :
    Calls Tryz.prog 16 #[.slice a n c, .int .i64 k] w fun e w' => e = .returned (.int .i64 ((k + 2 * tot R n : Nat) : Int)) ∧ Below w.heap.size w w' := by
  rcases h.cases with ⟨h1, h2, h3, h4⟩ | ⟨g, h1, h2⟩
  · subst h1 h2 h3
    refine (f16n k w).mono ?_
    rintro e w' ⟨rfl, rfl⟩
    exact ⟨rfl, Below.refl _ _⟩
  · subst h1
    exact f16 X g n c k R w hn hb hk h2
end Go.Proofs.YtjchioecfcnpfaaGreat.Srs
namespace Go.Proofs.YtjchioecfcnpfaaGreat.Blk
open Go.RowKit
open Go.Proofs.YtjchioecfcnpfaaGreat.Lab (Lb HasL cmpList)
open Go.Proofs.YtjchioecfcnpfaaGreat.Srs (hid q0 Pl pl totP totP_append hit)
open Go.Proofs.YtjchioecfcnpfaaGreat.Stn (T t0)
open Go.Proofs.YtjchioecfcnpfaaGreat.Pat (Mt goodM allM)

theorem spans_pl (ts : List T) (l : List Lb) : spans (own1 ts l) = ((ts.map Stn.pl).filter fun p => decide (cmpList p.1 l = 0)).map fun p => (p.2.1, p.2.2) := by
  unfold spans own1
  rw [List.filter_map, List.map_map]
  rfl
theorem SameB.stones {h h' : Bk} (s : SameB h h') : h'.ts.map Stn.pl = h.ts.map Stn.pl := by
  apply List.ext_getElem?
  intro i
  by_cases hi : i < h.ts.length
  · have e := s.st i hi
    have h1 : h.ts.getD i t0 = h.ts[i] := by simp [hi]
    have h2 : h'.ts.getD i t0 = h'.ts[i]'(by rw [s.lt]; exact hi) := by simp [show i < h'.ts.length by rw [s.lt]; exact hi]
    rw [h1, h2] at e
    simp [hi, show i < h'.ts.length by rw [s.lt]; exact hi, e]
  · simp [List.getElem?_eq_none (show h.ts.length ≤ i by omega), List.getElem?_eq_none (show h'.ts.length ≤ i by rw [s.lt]; omega)]
theorem SameB.spans {h h' : Bk} (s : SameB h h') (l : List Lb) : Blk.spans (own1 h'.ts l) = Blk.spans (own1 h.ts l) := by rw [spans_pl, spans_pl, s.stones]
theorem SameB.mdl {h h' : Bk} (s : SameB h h') (ms : List Mt) : ∀ k, k ≤ h.qs.length → Blk.mdl h' ms k = Blk.mdl h ms k := by
  intro k
  induction k with
  | zero => intro _; rfl
  | succ k ih =>
    intro hk
    rw [Blk.mdl, Blk.mdl, ih (by omega), s.lb (show k < h.qs.length by omega), s.smp (show k < h.qs.length by omega), s.spans]
theorem SameB.selF {h h' : Bk} (s : SameB h h') (ms : List Mt) (x y : Int) : Blk.selF h' ms x y = Blk.selF h ms x y := by
  unfold Blk.selF
  rw [s.gd]
  split
  · unfold ansM
    rw [s.lq, s.mdl ms _ (Nat.le_refl _)]
  · rfl
theorem selF_prg {h : Bk} {ms : List Mt} {x y : Int} (g : gdB h = true) (g' : goodM ms = true) : Blk.selF h ms x y = prg h x y (flt (hits ms h.qs ms.length) h.qs.length) := by
  rw [selF_yes g g']
  exact (prg_ans (gdB_iff.1 g) h.qs.length (Nat.le_refl _)).symm
theorem selF_len (h : Bk) (ms : List Mt) (x y : Int) : (Blk.selF h ms x y).length ≤ 200 := by
  by_cases g : gdB h = true ∧ goodM ms = true
  · rw [selF_prg g.1 g.2]
    have h1 := prg_len (h := h) (x := x) (y := y) (flt (hits ms h.qs ms.length) h.qs.length)
    have h2 := flt_len (hits ms h.qs ms.length) h.qs.length
    have h3 := (gdB_iff.1 g.1).2.1.1
    omega
  · rw [selF_no g]; exact Nat.zero_le _
theorem selF_tot (h : Bk) (ms : List Mt) (x y : Int) : totP (Blk.selF h ms x y) ≤ Srs.tot h.qs h.qs.length := by
  by_cases g : gdB h = true ∧ goodM ms = true
  · rw [selF_prg g.1 g.2]
    have hg := gdB_iff.1 g.1
    have hft : ∀ i, i < h.ts.length → (h.ts.getD i t0).f ≤ (h.ts.getD i t0).t := fun i hi => (good_stones hg i hi).2.2.2.2
    have key : ∀ k, k ≤ h.qs.length → totP (prg h x y (flt (hits ms h.qs ms.length) k)) ≤ Srs.tot h.qs k := by
      intro k
      induction k with
      | zero => intro _; exact Nat.zero_le _
      | succ k ih =>
        intro hk
        have h1 := ih (by omega)
        rw [flt_succ]
        unfold prg at h1 ⊢
        rw [List.flatMap_append, totP_append]
        simp only [Srs.tot]
        have h2 := pg_len (l := (h.qs.getD k q0).l) (x := x) (y := y) (good_smp hg (show k < h.qs.length by omega)) hg.2.2.2.2.2 hft
        have h3 : totP (one h x y (h.qs.getD k q0)) ≤ (h.qs.getD k q0).l.length + (h.qs.getD k q0).s.length := by
          revert h2
          generalize h.qs.getD k q0 = q
          intro h2
          unfold one
          split
          · simp [totP]
          · simp [totP]; omega
        by_cases hp : hits ms h.qs ms.length k = true
        · rw [if_pos hp]
          simp only [List.flatMap_cons, List.flatMap_nil, List.append_nil, Int.toNat_natCast]
          omega
        · rw [if_neg hp]
          simp [totP] at h1 ⊢
          omega
    exact key _ (Nat.le_refl _)
  · rw [selF_no g]; exact Nat.zero_le _
/-- A copy with no more room than it takes. -/
structure Cp (h h' : Bk) : Prop where
  same : SameB h h'
  room : h'.ts.length ≤ h'.d
  each : ∀ i, i < h'.qs.length → (h'.qs.getD i q0).s.length ≤ (h'.qs.getD i q0).d
theorem OwnB.cp {X g k S : Nat} {h h' : Bk} {w : World} (o : OwnB X g k S h h' w) : Cp h h' :=
  ⟨o.same, by rw [o.lt, o.ed]; exact Nat.le_refl _, fun i hi => by have := (o.sq i (by rw [← o.lq]; exact hi)).2.2; omega⟩
end Go.Proofs.YtjchioecfcnpfaaGreat.Blk
/- The walk of FnExactSelectBlock. -/
namespace Go.Proofs.YtjchioecfcnpfaaGreat.Blk
open Go.RowKit
open Go.Proofs.YtjchioecfcnpfaaGreat.Srs (hid lt_at kept Q HasQ SmlQ q0 blk Fr own_fr own_below OwnO pl Pl tot tot_map sml_tot sel_len same_map fr_below grown_belowB mark_ans held_ans)
open Go.Proofs.YtjchioecfcnpfaaGreat.Stn (T t0)
open Go.Proofs.YtjchioecfcnpfaaGreat.Pat (Mt HasM goodM FitM)

/-- Two boxes cell by cell; what was there at w7 is as it was. -/
abbrev WT (w7 : World) (A B : Nat) (h h' : Bk) (x : World) : Prop :=
  x.cell? ⟨A, 0, none⟩ = some (.int .i64 h.F) ∧ x.cell? ⟨A, 1, none⟩ = some (.int .i64 h.T) ∧ x.cell? ⟨A, 2, none⟩ = some (.int .i64 h.L) ∧ x.cell? ⟨A, 3, none⟩ = some (.slice h.a h.qs.length h.c) ∧ x.cell? ⟨A, 4, none⟩ = some (.slice h.b h.ts.length h.d) ∧
  x.cell? ⟨B, 0, none⟩ = some (.int .i64 h'.F) ∧ x.cell? ⟨B, 1, none⟩ = some (.int .i64 h'.T) ∧ x.cell? ⟨B, 2, none⟩ = some (.int .i64 h'.L) ∧ x.cell? ⟨B, 3, none⟩ = some (.slice h'.a h'.qs.length h'.c) ∧ x.cell? ⟨B, 4, none⟩ = some (.slice h'.b h'.ts.length h'.d) ∧
  x.heap[A]? = some (.cells (clB h) 25) ∧ x.heap[B]? = some (.cells (clB h') 33) ∧ Below w7.heap.size w7 x
theorem WT.new {w7 : World} {A B : Nat} {h h' : Bk} {x : World} (h1 : x.heap[A]? = some (.cells (clB h) 25)) (h2 : x.heap[B]? = some (.cells (clB h') 33)) (hb : Below w7.heap.size w7 x) : WT w7 A B h h' x := by
  obtain ⟨b0, b1, b2, b3, b4⟩ := five h1
  obtain ⟨c0, c1, c2, c3, c4⟩ := five h2
  exact ⟨b0, b1, b2, b3, b4, c0, c1, c2, c3, c4, h1, h2, hb⟩
theorem WT.bel {w7 : World} {A B : Nat} {h h' : Bk} {x : World} (g : WT w7 A B h h' x) : Below w7.heap.size w7 x := g.2.2.2.2.2.2.2.2.2.2.2.2
theorem WT.below {w7 : World} {A B : Nat} {h h' : Bk} {x y : World} (g : WT w7 A B h h' x) (hb : Below x.heap.size x y) : WT w7 A B h h' y :=
  WT.new (kept g.2.2.2.2.2.2.2.2.2.2.1 hb) (kept g.2.2.2.2.2.2.2.2.2.2.2.1 hb) (g.bel.trans (hb.mono g.bel.size))
/-- The argument in its box, the matchers, the model's answer. -/
structure Kp (w : World) (h : Bk) (am : Option Addr) (ms : List Mt) (aW : Option Addr) (R : List Q) (x : World) : Prop where
  one : x.heap[w.heap.size]? = some (.cells (clB h) 25)
  arg : HasB x h
  mat : HasM x am ms
  ans : HasQ x aW R
  bel : Below w.heap.size w x
theorem Kp.below {w : World} {h : Bk} {am : Option Addr} {ms : List Mt} {aW : Option Addr} {R : List Q} {x y : World} (g : Kp w h am ms aW R x) (hb : Below x.heap.size x y) : Kp w h am ms aW R y := ⟨kept g.one hb, g.arg.below hb, g.mat.below hb, g.ans.below hb, g.bel.trans (hb.mono g.bel.size)⟩
set_option maxHeartbeats 8000000 in
theorem walkSelect (h : Bk) (am : Option Addr) (cm : Nat) (ms : List Mt) (x y : Int) (w : World) (hx0 : -9223372036854775808 ≤ x) (hx1 : x ≤ 9223372036854775807) (hy0 : -9223372036854775808 ≤ y) (hy1 : y ≤ 9223372036854775807) (hr : HasB w h) (hf : FitB h) (hm : HasM w am ms) (hfm : FitM ms) (hmx : ms.length ≤ maxLen) :
    Calls Tryz.prog 3 #[agB h, .slice am ms.length cm, .int .i64 x, .int .i64 y] w fun e w' => e = .returned (.bool true) ∧ Below w.heap.size w w' := by
  have HR := hid hr
  have HF := hid hf
  have HM := hid hm
  have HFM := hid hfm
  have HMX := hid hmx
  have H0 : Hid (Wp w h (w.alloc (.cells (clB h) 25))) := ⟨heap_alloc_new w _, (Below.refl w.heap.size w).alloc (Nat.le_refl _) _⟩
  clear hr hf hm hfm hmx
  obtain ⟨n, hn⟩ : ∃ n, n = ms.length := ⟨_, rfl⟩
  have HN : Hid (ms.length = n) := hn.symm
  rw [← hn]
  rw [← hn] at HMX
  clear hn
  have HSl := hid (selF_len h ms x y)
  have HSt := hid (selF_tot h ms x y)
  have HSp : Hid (∀ h' am' cm' w', SameB h h' → SmlB h → HasB w' h' → HasM w' am' ms → Calls Tryz.prog 6 #[agB h', .slice am' n cm', .int .i64 x, .int .i64 y] w' (GivesQ w' (selF h ms x y))) := by
    intro h' am' cm' w' s z hb hm
    have := f6 h' am' cm' ms x y w' hb (s.fit HF.out) (s.sml z) hm HFM.out (by rw [HN.out]; exact HMX.out)
    rw [HN.out, s.selF ms x y] at this
    exact this
  have HIm : Hid (∀ h' am' cm' w', Cp h h' → SmlB h → HasB w' h' → HasM w' am' ms → Calls Tryz.prog 9 #[agB h', .slice am' n cm', .int .i64 x, .int .i64 y] w' (GivesQ w' (selF h ms x y))) := by
    intro h' am' cm' w' s z hb hm
    have := f9 h' am' cm' ms x y w' hx0 hx1 hy0 hy1 hb (s.same.fit HF.out) (s.same.sml z) hm HFM.out (by rw [HN.out]; exact HMX.out) s.room s.each
    rw [HN.out, s.same.selF ms x y] at this
    exact this
  generalize selF h ms x y = sel at *
  go_enter Tryz.func3, Tryz.ntmps3
  go_wp2_with fail
  refine (f4t h _ (HR.out.below H0.out.bel) HF.out).mono ?_
  rintro e w1 ⟨y1, rfl, y10, y11, hy, hb1⟩
  have H1 := hid (H0.out.below hb1)
  clear hb1 H0
  by_cases g0 : y1 < 0
  · go_wp2
    go_ret
    exact ⟨rfl, H1.out.bel⟩
  have HTB := hid (hy (by omega))
  have HZ := hid (sml_tb HTB.out)
  have HT : Hid (tot h.qs h.qs.length ≤ 1048576) := by have h1 := HTB.out; unfold tb at h1; unfold Hid; omega
  clear hy
  go_wp2_with fail
  refine (Srs.f5t am n cm y1 ms _ (by omega) y11 HN.out (HM.out.below H1.out.bel) HFM.out HMX.out).mono ?_
  rintro e w2 ⟨z, rfl, z0, hz, hb1⟩
  have H2 := hid (H1.out.below hb1)
  clear hb1 H1
  by_cases g1 : z < 0
  · go_wp2
    go_ret
    exact ⟨rfl, H2.out.bel⟩
  have hbn := hz (by omega)
  clear hz
  obtain ⟨b0, b1, b2, b3, b4⟩ := five H2.out.one
  -- the model's answer
  go_wp2_with fail
  refine (f7 h _ (HR.out.below H2.out.bel) HZ.out).mono ?_
  rintro e w3 ⟨h3, g3, k3, S3, rfl, ho3, hk3, hb3⟩
  have H3 := hid (H2.out.below hb3)
  have HS3 := hid ho3.same
  have HO3 := hid ho3.has
  clear hb3 ho3 hk3 H2 b0 b1 b2 b3 b4
  go_wp2_with fail
  refine (Pat.f8 am n cm ms _ HN.out hbn (HM.out.below H3.out.bel)).mono ?_
  rintro e w4 ⟨rfl, hm4, hb4⟩
  have H4 := hid (H3.out.below hb4)
  have HO4 := hid (HO3.out.below hb4)
  have HM4 := hid (Pat.HasM.own hm4)
  clear hb4 hm4 H3 HO3
  go_wp2_with fail
  refine (HSp.out h3 _ _ _ HS3.out HZ.out HO4.out HM4.out).mono ?_
  rintro e w5 ⟨aW, mW, cW, R5, rfl, ho5, hr5, hb5⟩
  have HK5 : Hid (Kp w h am ms aW R5 w5) := by
    have hb := H4.out.bel.trans (hb5.mono H4.out.bel.size)
    exact ⟨kept H4.out.one hb5, HR.out.below hb, HM.out.below hb, ho5.has, hb⟩
  have HR5 := hid hr5
  have HmW := hid ho5.len
  clear hb5 ho5 hr5 H4 HO4 HM4 HS3
  -- the program's
  obtain ⟨b0, b1, b2, b3, b4⟩ := five HK5.out.one
  have hl5 : w.heap.size < w5.heap.size := lt_at HK5.out.one
  go_wp2_with fail
  refine (f7 h _ HK5.out.arg HZ.out).mono ?_
  rintro e w6 ⟨h6, g6, k6, S6, rfl, ho6, hk6, hb6⟩
  have HB6 := hid hb6
  have HC6 := hid ho6.cp
  have HG6 : Hid (w5.heap.size ≤ g6) := ho6.lo
  have HMd6 := hid ho6.mid
  have HK6 := hid hk6
  have HY6 : Hid (∀ i, i < h.ts.length → blk (h6.ts.getD i t0).a < w6.heap.size) := fun i hi => (ho6.ot.kin.own i hi).lts
  obtain ⟨W6, hW6⟩ : ∃ X, X = w6.alloc (.cells (clB h6) 33) := ⟨_, rfl⟩
  have HA6 : Hid (Below w6.heap.size w6 W6 ∧ W6.heap[w6.heap.size]? = some (.cells (clB h6) 33) ∧ W6.heap.size = w6.heap.size + 1) := by
    rw [hW6]; exact ⟨(Below.refl _ _).alloc (Nat.le_refl _) _, heap_alloc_new w6 _, by simp⟩
  have HO6 := hid (ho6.below HA6.out.1)
  have HBW := hid (HB6.out.trans (HA6.out.1.mono HB6.out.size))
  clear ho6 hb6 hk6 b0 b1 b2 b3 b4
  have HM6 := hid (HK5.out.mat.below HBW.out)
  go_wp2_with fail
  rw [← hW6]
  refine (Pat.f8 am n cm ms _ HN.out hbn HM6.out).mono ?_
  rintro e w7 ⟨rfl, ho7, hb7⟩
  have HB7 := hid (HBW.out.trans (hb7.mono HBW.out.size))
  have HX7 := hid (kept HA6.out.2.1 hb7)
  have HO7 := hid (HO6.out.below hb7)
  have HP7 := hid ho7
  have HSZ : Hid (W6.heap.size = w6.heap.size + 1 ∧ w5.heap.size ≤ w6.heap.size ∧ W6.heap.size < w7.heap.size) := ⟨HA6.out.2.2, HB6.out.size, (ho7.lt W6.heap.size rfl).2⟩
  clear ho7 hb7 hW6 HA6 HO6 HM6 HBW HB6
  generalize W6.heap.size = gm at *
  generalize w6.heap.size = Y at *
  obtain ⟨c0, c1, c2, c3, c4⟩ := five HX7.out
  go_wp2_with fail
  refine (HIm.out h6 _ _ _ HC6.out HZ.out HO7.out.has (Pat.HasM.own HP7.out)).mono ?_
  rintro e w8 ⟨aG, mG, cG, R8, rfl, ho8, hr8, hb8⟩
  have HB8 := hid (HB7.out.trans (hb8.mono HB7.out.size))
  have HX8 := hid (kept HX7.out hb8)
  have HO8 := hid (HO7.out.below hb8)
  have HP8 := hid (own_below HP7.out hb8)
  have HG8 := hid ho8
  have HXX : Hid (gm < w7.heap.size ∧ w7.heap.size ≤ w8.heap.size) := ⟨HSZ.out.2.2, hb8.size⟩
  have HSm := hid (same_map hr8 HR5.out)
  have hlG := hid ho8.len
  have HTG : Hid (tot R8 R8.length ≤ 1048576) := by
    unfold Hid
    rw [tot_map, hr8]
    exact Nat.le_trans HSt.out HT.out
  have HLG : Hid (R8.length ≤ 200) := by
    unfold Hid
    rw [sel_len hr8]
    exact HSl.out
  have HZG : Hid (SmlQ R8) := sml_tot HTG.out
  have hmm : mW = mG := by rw [← HmW.out, ← hlG.out]; exact HSm.out.1
  subst hmm
  clear ho8 hr8 hb8 HX7 HO7 HP7 HB7 c0 c1 c2 c3 c4
  generalize w7.heap.size = X at *
  -- alike
  have HK8 := hid (HK5.out.below HB8.out)
  go_wp2_with fail
  refine (Srs.f10 aG aW mW cG cW R8 R5 _ hlG.out HmW.out (by have := HLG.out; have := hlG.out; omega) HG8.out.has HK8.out.ans (by rw [← hlG.out]; exact HSm.out.2) HZG.out).mono ?_
  rintro e w9 ⟨rfl, hb9⟩
  have HB9 := hid (HB8.out.trans (hb9.mono HB8.out.size))
  have HX9 := hid (kept HX8.out hb9)
  have HO9 := hid (HO8.out.below hb9)
  have HP9 := hid (own_below HP8.out hb9)
  have HG9 := hid (HG8.out.below hb9)
  have HK9 := hid (HK8.out.below hb9)
  clear hb9 HB8 HX8 HO8 HP8 HG8 HK8
  -- the block is as it was
  have HW9 := hid (WT.new HK9.out.one HX9.out (below_drew w9) (x := w9.drew))
  have HRx : Hid (∀ x, Below w9.heap.size w9 x → HasB x h) := fun x hx => HK9.out.arg.below hx
  have HXx : Hid (∀ x, Below w9.heap.size w9 x → HasB x h6) := fun x hx => HO9.out.has.below hx
  have HS6 := hid HC6.out.same
  go_wp2_with fail
  go_region_held3 (fun x => WT w9 w.heap.size Y h h6 x) (first | exact HW9.out | assumption) (first | (go_at_call 7; refine (f7 h _ (HRx.out _ (WT.bel (by assumption))) HZ.out).mono ?_; rintro e w10 ⟨h10, g10, k10, S10, rfl, ho10, _, hb10⟩; have hh10 := ho10.has; have hs10 := HS6.out.trans ho10.same; clear ho10; have hq10 := WT.below (by assumption) hb10; clear hb10) | (go_at_call 11; refine (f11 h6 h10 _ hs10.eF hs10.eT hs10.eL hs10.lq hs10.lt (HXx.out _ (WT.bel (by assumption))) hh10 hs10.sq hs10.st (HS6.out.sml HZ.out)).mono ?_; rintro e w11 ⟨rfl, hb11⟩; have hq11 := WT.below (by assumption) hb11; clear hb11))
  have hb11 := hq11.bel
  have HB11 := hid (HB9.out.trans (hb11.mono HB9.out.size))
  have HX11 := hid (kept HX9.out hb11)
  have HO11 := hid (HO9.out.below hb11)
  have HP11 := hid (own_below HP9.out hb11)
  have HG11 := hid (HG9.out.below hb11)
  have HK11 := hid (HK9.out.below hb11)
  clear hb11 hq11 HW9 HRx HXx HB9 HX9 HO9 HP9 HG9 HK9
  -- the matchers are as they were
  go_wp2_with fail
  refine (Pat.f8 am n cm ms _ HN.out hbn HK11.out.mat).mono ?_
  rintro e w12 ⟨rfl, ho12, hb12⟩
  have HB12 := hid (HB11.out.trans (hb12.mono HB11.out.size))
  have HX12 := hid (kept HX11.out hb12)
  have HO12 := hid (HO11.out.below hb12)
  have HP12 := hid (own_below HP11.out hb12)
  have HG12 := hid (HG11.out.below hb12)
  have HQ12 := hid (Pat.HasM.own ho12)
  clear hb12 ho12 HB11 HX11 HO11 HP11 HG11 HK11
  go_wp2_with fail
  refine (Pat.f12 _ _ n n n ms _ HN.out hbn (Pat.HasM.own HP12.out) HQ12.out).mono ?_
  rintro e w13 ⟨rfl, hb13⟩
  have HB13 := hid (HB12.out.trans (hb13.mono HB12.out.size))
  have HX13 := hid (kept HX12.out hb13)
  have HO13 := hid (HO12.out.below hb13)
  have HP13 := hid (own_below HP12.out hb13)
  have HG13 := hid (HG12.out.below hb13)
  clear hb13 HB12 HX12 HO12 HP12 HG12 HQ12
  obtain ⟨c0, c1, c2, c3, c4⟩ := five HX13.out
  have LY13 : Hid (Y ≤ w13.heap.size) := Nat.le_of_lt (lt_at HX13.out)
  -- what came in is marked
  go_wp2_with fail
  refine (f13 w5.heap.size g6 k6 S6 Y h h6 _ HO13.out HTB.out HK6.out LY13.out HY6.out).mono ?_
  rintro e w14 ⟨kk, rfl, hkb, hf14⟩
  have HB14 := hid (HB13.out.trans (fr_below hf14 HG6.out HB13.out.size))
  have HP14 := hid (own_fr HP13.out hf14 (.inr (by have := HSZ.out; omega)))
  have HG14 := hid (HG13.out.fr hf14 (by have := HSZ.out; have := HXX.out; omega))
  clear hf14 c0 c1 c2 c3 c4 HB13 HX13 HO13 HP13 HG13
  go_wp2_with fail
  refine (Srs.f14 gm n gm kk _ _ hbn (by omega) HP14.out).mono ?_
  rintro e w15 ⟨rfl, hg15⟩
  have HB15 := hid (HB14.out.trans (grown_belowB hg15 (by have := HSZ.out; omega) HB14.out.size))
  have HG15 := hid (HG14.out.aside hg15 HXX.out.1)
  clear hg15 HB14 HP14 HG14
  obtain ⟨k2, hk2⟩ : ∃ k2 : Nat, k2 = kk + 3 * n := ⟨_, rfl⟩
  rw [← hk2]
  clear hk2
  have hk3 : ¬ (k2 : Int) < 0 := by omega
  have HK15 := hid (HK5.out.below HB15.out)
  have hb200 : mW ≤ 1048576 := by have := HLG.out; have := hlG.out; omega
  go_wp2_with fail
  refine (Srs.f10 aG aW mW cG cW R8 R5 _ hlG.out HmW.out hb200 HG15.out.has HK15.out.ans (by rw [← hlG.out]; exact HSm.out.2) HZG.out).mono ?_
  rintro e w16 ⟨rfl, hb16⟩
  have HB16 := hid (HB15.out.trans (hb16.mono HB15.out.size))
  have HG16 := hid (HG15.out.below hb16)
  clear hb16 HB15 HG15 HK15
  -- what came out is marked, and held
  have HTm : Hid (1 + 2 * tot R8 mW ≤ 100000000) := by unfold Hid; rw [← hlG.out]; have := HTG.out; omega
  go_wp2_with fail
  obtain ⟨k4, hk4⟩ : ∃ k4 : Nat, k4 = 1 + 2 * tot R8 mW := ⟨_, rfl⟩
  have HK4 := hid hk4
  clear hk4
  have hk5 : ¬ (k4 : Int) < 0 := by omega
  refine (mark_ans HG16.out hb200 (k := 1) HTm.out).mono ?_
  rw [← HK4.out]
  rintro e w17 ⟨rfl, ho17, hb17⟩
  have HB17 := hid (HB16.out.trans (hb17.mono (by have := HSZ.out; have := HXX.out; omega)))
  have HG17 := hid ho17
  clear ho17 hb17 HB16 HG16
  go_wp2_with fail
  refine (held_ans hlG.out HG17.out hb200 (k := 1) HTm.out).mono ?_
  rw [← HK4.out]
  rintro e w18 ⟨rfl, hb18⟩
  have HB18 := hid (HB17.out.trans (hb18.mono HB17.out.size))
  have HG18 := hid (HG17.out.below hb18)
  clear hb18 HB17 HG17
  -- once more
  have HK18 := hid (HK5.out.below HB18.out)
  obtain ⟨b0, b1, b2, b3, b4⟩ := five HK18.out.one
  go_wp2_with fail
  refine (f7 h _ HK18.out.arg HZ.out).mono ?_
  rintro e w19 ⟨h19, g19, k19, S19, rfl, ho19, _, hb19⟩
  have HB19 := hid (HB18.out.trans (hb19.mono HB18.out.size))
  have HG19 := hid (HG18.out.below hb19)
  have HC19 := hid ho19.cp
  have HO19 := hid ho19.has
  clear hb19 ho19 b0 b1 b2 b3 b4 HB18 HG18 HK18
  have HK19 := hid (HK5.out.below HB19.out)
  go_wp2_with fail
  refine (Pat.f8 am n cm ms _ HN.out hbn HK19.out.mat).mono ?_
  rintro e w20 ⟨rfl, ho20, hb20⟩
  have HB20 := hid (HB19.out.trans (hb20.mono HB19.out.size))
  have HG20 := hid (HG19.out.below hb20)
  have HO20 := hid (HO19.out.below hb20)
  have HP20 := hid (Pat.HasM.own ho20)
  clear hb20 ho20 HB19 HG19 HO19 HK19
  go_wp2_with fail
  refine (HIm.out h19 _ _ _ HC19.out HZ.out HO20.out HP20.out).mono ?_
  rw [← HR5.out]
  rintro e w21 ⟨aH, mH, cH, R21, rfl, ho21, hr21, hb21⟩
  have HB21 := hid (HB20.out.trans (hb21.mono HB20.out.size))
  have HG21 := hid (HG20.out.below hb21)
  have HH21 := hid ho21.has
  have hlH := hid ho21.len
  have HSm2 := hid (same_map hr21 (rfl : R5.map pl = R5.map pl))
  have HZH : Hid (SmlQ R21) := by
    unfold Hid
    refine sml_tot ?_
    rw [tot_map, hr21, HR5.out]
    exact Nat.le_trans HSt.out HT.out
  have hmH : mW = mH := by rw [← HmW.out, ← hlH.out]; exact HSm2.out.1
  subst hmH
  clear ho21 hr21 hb21 HB20 HG20 HO20 HP20
  have HK21 := hid (HK5.out.below HB21.out)
  go_wp2_with fail
  refine (Srs.f10 aH aW mW cH cW R21 R5 _ hlH.out HmW.out hb200 HH21.out HK21.out.ans (by rw [← hlH.out]; exact HSm2.out.2) HZH.out).mono ?_
  rintro e w22 ⟨rfl, hb22⟩
  have HB22 := hid (HB21.out.trans (hb22.mono HB21.out.size))
  have HG22 := hid (HG21.out.below hb22)
  clear hb22 HB21 HG21 HK21 HH21
  go_wp2_with fail
  refine (held_ans hlG.out HG22.out hb200 (k := 1) HTm.out).mono ?_
  rw [← HK4.out]
  rintro e w23 ⟨rfl, hb23⟩
  have HB23 := hid (HB22.out.trans (hb23.mono HB22.out.size))
  have HEnd := hid (HK5.out.below HB23.out).bel
  clear hb23 HB22 HG22
  go_wp2
  go_ret
  exact ⟨rfl, HEnd.out⟩
end Go.Proofs.YtjchioecfcnpfaaGreat.Blk
