import Derived.Test.YtnhikdlhjdjmdaaGreatXa
import Derived.Test.YtnhikdlhjdjmdaaGreatOpl
import Derived.Test.YtnhikdlhjdjmdaaGreatTb
import Derived.Test.YtnhikdlhjdjmdaaGreatXj
import Derived.WalkKit
import Derived.ProofKit
import Derived.OpenShut
import Derived.ChangeOld
import Derived.Deep.Fields
import Derived.Test.YtnhikdlhjdjmdaaGreatXf
import Derived.Test.YtnhikdlhjdjmdaaGreatXg
import Derived.Test.YtnhikdlhjdjmdaaGreatXn
import Derived.Test.YtnhikdlhjdjmdaaGreatShOne
import Derived.Test.YtnhikdlhjdjmdaaGreatXc
/- Lists of series that came in. -/
namespace Go.Proofs.YtnhikdlhjdjmdaaGreat.Srs
open Go.ChangeShapes Go.WideShapes Go.ChangeAt Go.RowKit Go.Deep Go.WideElems

section
variable {H : Type} {enc : TypeId × Value → H} {P : Program} {w : World} {base : Nat} {held : Bool}
/-- A slice whose elements are structs of two one-cell fields. -/
theorem open_twos {t e : TypeId} {g0 g1 : Field} {fuel : Nat} {cs : List Value} {x : DataW H × List MemPlace} (ht : P.underlying t = some (.slice e)) (he : P.underlying e = some (.struct #[g0, g1]))
    (ce : P.cellsOf e = 2) (o0 : g0.offset = 0) (o1 : g1.offset = 1) (c0 : P.cellsOf g0.type = 1) (c1 : P.cellsOf g1.type = 1)
    (h : DataW.trod enc P w base (fun _ => true) held fuel t cs = some x) :
    cs = [.slice none 0 0] ∨ ∃ (a : Addr) (len cap n : Nat), cs = [.slice (some a) len cap] ∧ len ≤ cap ∧ cap ≤ maxLen ∧ ∀ i, i < len → ∃ v0 v1 y0 y1, (w.cell? (a.add (i * 2)) = some v0 ∧ w.cell? (a.add (i * 2 + 1)) = some v1) ∧
      DataW.trod enc P w base (fun _ => true) held n g0.type [v0] = some y0 ∧ DataW.trod enc P w base (fun _ => true) held n g1.type [v1] = some y1 := by
  rcases Deep.open_slice ht h with h0 | ⟨a, len, cap, m, n, D, Pl, rfl, hb, hl, hm, hmm, rfl, hx⟩
  · exact .inl h0.1
  right
  refine ⟨a, len, cap, n - 1, rfl, hl, hm, fun i hi => ?_⟩
  simp only [if_true] at hmm
  obtain ⟨cs', h1, h2⟩ := hx i (by omega)
  rw [ce] at h1
  obtain ⟨_, hlen, hcell⟩ := World.cells?_some h1
  obtain ⟨xs, k, hk, hxy, _, hxl, hf⟩ := DataW.trod_struct he h2
  have hk' : k = n - 1 := by omega
  subst hk'
  match xs, hxl, cs', hlen with
  | [y0, y1], _, [v0, v1], _ =>
    have q0 := hf 0 g0 rfl
    have q1 := hf 1 g1 rfl
    simp [o0, o1, c0, c1] at q0 q1
    have e0 := hcell 0 (by omega)
    have e1 := hcell 1 (by omega)
    rw [Deep.add_add] at e0 e1
    exact ⟨v0, v1, y0, y1, ⟨by simpa using e0, by simpa using e1⟩, q0, q1⟩
end
theorem add_none (b off j : Nat) : (⟨b, off, none⟩ : Addr).add j = ⟨b, off + j, none⟩ := by
  simp [Addr.add]
theorem open_series {H : Type} {enc : TypeId × Value → H} {W : World} {a0 : Option Addr} {len0 cap0 : Nat} {d : DataW H} {p : List MemPlace} (h : DataW.Trod enc Tryz.prog W 0 (fun _ => true) true 22 (.slice a0 len0 cap0) d p) :
    ∃ qs : List Q, qs.length = len0 ∧ len0 ≤ maxLen ∧ HasQ W a0 qs ∧ FitQ qs := by
  obtain ⟨fuel, hf⟩ := h
  rcases open_twos Tryz.underlying22 Tryz.underlying65 (by kernel_rfl) rfl rfl (by kernel_rfl) (by kernel_rfl) hf with hcs | ⟨a, len, cap, n, hcs, hl, hm, hx⟩
  · simp [Value.cells] at hcs
    obtain ⟨rfl, rfl, rfl⟩ := hcs
    exact ⟨[], rfl, Nat.zero_le _, .inl rfl, fun i => fit_q0⟩
  · simp [Value.cells] at hcs
    obtain ⟨rfl, rfl, rfl⟩ := hcs
    have key : ∀ i, i < len0 → ∃ q : Q, (W.cell? (a.add (i * 2)) = some (.slice q.a q.l.length q.c) ∧ W.cell? (a.add (i * 2 + 1)) = some (.slice q.b q.s.length q.d)) ∧ (Lab.HasL W q.a q.l ∧ Smp.HasS W q.b q.s) ∧ Fq q := by
      intro i hi
      obtain ⟨v0, v1, y0, y1, ⟨e0, e1⟩, g0, g1⟩ := hx i hi
      obtain ⟨la, ll, lc, rfl⟩ : ∃ a l c, v0 = .slice a l c := by
        rcases Deep.open_slice Tryz.underlying62 g0 with ⟨hq, _⟩ | ⟨a, l, c, m, n', D, Pl, hq, _⟩
        · simp only [List.cons.injEq, and_true] at hq; exact ⟨_, _, _, hq⟩
        · simp only [List.cons.injEq, and_true] at hq; exact ⟨_, _, _, hq⟩
      obtain ⟨sa, sl, sc, rfl⟩ : ∃ a l c, v1 = .slice a l c := by
        rcases Deep.open_slice Tryz.underlying63 g1 with ⟨hq, _⟩ | ⟨a, l, c, m, n', D, Pl, hq, _⟩
        · simp only [List.cons.injEq, and_true] at hq; exact ⟨_, _, _, hq⟩
        · simp only [List.cons.injEq, and_true] at hq; exact ⟨_, _, _, hq⟩
      obtain ⟨ls, q1, q2, q3, q4⟩ := Lbo.open_labels (enc := enc) (a0 := la) (len0 := ll) (cap0 := lc) (W := W) (d := y0.1) (p := y0.2) ⟨n, by simpa [Value.cells] using g0⟩
      obtain ⟨ss, k1, k2, k3, k4⟩ := Smp.open_samples (enc := enc) (a0 := sa) (len0 := sl) (cap0 := sc) (W := W) (d := y1.1) (p := y1.2) ⟨n, by simpa [Value.cells] using g1⟩
      subst q1 k1
      exact ⟨⟨ls, la, lc, ss, sa, sc⟩, ⟨e0, e1⟩, ⟨q3, k3⟩, q4, q2, k4, k2⟩
    obtain ⟨q, hq⟩ := Deep.choose_lt (α := Q) key
    have hg : ∀ i, i < len0 → ((List.range len0).map q).getD i q0 = q i := fun i hi => by simp [hi]
    refine ⟨(List.range len0).map q, by simp, by omega, ?_, ?_⟩
    · by_cases h0 : len0 = 0
      · subst h0; exact .inl rfl
      · obtain ⟨b, off, spot⟩ := a
        have h1 := (hq 0 (by omega)).1.1
        have hs : spot = none := by simpa [Addr.add] using World.cell?_spot h1
        subst hs
        refine .inr ⟨b, off, rfl, World.block_lt_of_cell? W _ h1, fun i hi => ?_⟩
        have hi' : i < len0 := by simpa using hi
        obtain ⟨⟨k0, k1⟩, k7, _⟩ := hq i hi'
        rw [add_none] at k0 k1
        rw [hg i hi']
        exact ⟨k0, k1, k7⟩
    · intro i
      by_cases hi : i < len0
      · rw [hg i hi]; exact (hq i hi).2.2
      · rw [List.getD_eq_getElem?_getD, List.getElem?_eq_none (by simp; omega)]; exact fit_q0
end Go.Proofs.YtnhikdlhjdjmdaaGreat.Srs
/- Heads that came in. -/
namespace Go.Proofs.YtnhikdlhjdjmdaaGreat.Srs
open Go.ChangeShapes Go.WideShapes Go.ChangeAt Go.RowKit Go.Deep Go.WideElems Go.Maps

theorem array4 {α : Type} {cs : Array α} (h : cs.size = 4) : ∃ c0 c1 c2 c3, cs = #[c0, c1, c2, c3] := by
  obtain ⟨l⟩ := cs
  match l, h with
  | [c0, c1, c2, c3], _ => exact ⟨c0, c1, c2, c3, rfl⟩
theorem open_agg4 {H : Type} {enc : TypeId × Value → H} {P : Program} {w : World} {base : Nat} {spare : Nat → Bool} {held : Bool} {r : Reach} {b0 : Nat} {t : TypeId} {g0 g1 g2 g3 : Field} {v : Value} {d : DataW H} {p : List MemPlace} (hs : P.underlying t = some (.struct #[g0, g1, g2, g3])) (hone : oneCellFields P #[g0, g1, g2, g3] = true) (hC : P.cellsOf t = 4)
    (hv : Value.okWide P w r b0 t v) (h : DataW.Trod enc P w base spare held t v d p) :
    ∃ (v0 v1 v2 v3 : Value) (y0 y1 y2 y3 : DataW H × List MemPlace) (n : Nat), v = .agg #[v0, v1, v2, v3] ∧
      DataW.trod enc P w base spare held n g0.type [v0] = some y0 ∧ DataW.trod enc P w base spare held n g1.type [v1] = some y1 ∧ DataW.trod enc P w base spare held n g2.type [v2] = some y2 ∧ DataW.trod enc P w base spare held n g3.type [v3] = some y3 := by
  obtain ⟨cs, rfl, hsz⟩ := okWide_struct hs hv
  obtain ⟨c0, c1, c2, c3, rfl⟩ := array4 (hsz.trans hC)
  obtain ⟨fuel, hf⟩ := h
  obtain ⟨xs, n, _, _, hl, hlen, hg⟩ := DataW.trod_struct hs hf
  match xs, hlen with
  | [y0, y1, y2, y3], _ =>
    obtain ⟨o0, k0⟩ := hone_of hone 0 g0 rfl
    obtain ⟨o1, k1⟩ := hone_of hone 1 g1 rfl
    obtain ⟨o2, k2⟩ := hone_of hone 2 g2 rfl
    obtain ⟨o3, k3⟩ := hone_of hone 3 g3 rfl
    exact ⟨c0, c1, c2, c3, y0, y1, y2, y3, n, rfl, by simpa [Value.cells, o0, k0] using hg 0 g0 rfl, by simpa [Value.cells, o1, k1] using hg 1 g1 rfl, by simpa [Value.cells, o2, k2] using hg 2 g2 rfl, by simpa [Value.cells, o3, k3] using hg 3 g3 rfl⟩
set_option maxRecDepth 100000 in
theorem open_head {H : Type} {enc : TypeId × Value → H} {W : World} {base : Nat} {v : Value} {d : DataW H} {p : List MemPlace} (hv : Value.okWide Tryz.prog W .any base 24 v) (h : DataW.Trod enc Tryz.prog W 0 (fun _ => true) true 24 v d p) :
    ∃ t : Hd, v = agH t ∧ HasQ W t.a t.qs ∧ FitH t := by
  obtain ⟨v0, v1, v2, v3, y0, y1, y2, y3, n, rfl, h0, h1, h2, h3⟩ := open_agg4 Tryz.underlying24 (by kernel_rfl) (by kernel_rfl) hv h
  obtain ⟨A, e0, _, w0⟩ := DataW.trod_int Tryz.underlying3 h0
  obtain ⟨B, e1, _, w1⟩ := DataW.trod_int Tryz.underlying3 h1
  obtain ⟨C, e2, _, w2⟩ := DataW.trod_int Tryz.underlying3 h2
  simp only [List.cons.injEq, and_true] at e0 e1 e2
  subst e0 e1 e2
  obtain ⟨ra, rl, rc, rfl⟩ : ∃ a l c, v3 = .slice a l c := by
    rcases Deep.open_slice Tryz.underlying22 h3 with ⟨hq, _⟩ | ⟨a, l, c, m, n', D, Pl, hq, _⟩
    · simp only [List.cons.injEq, and_true] at hq; exact ⟨_, _, _, hq⟩
    · simp only [List.cons.injEq, and_true] at hq; exact ⟨_, _, _, hq⟩
  obtain ⟨qs, k1, k2, k3, k4⟩ := open_series (enc := enc) (a0 := ra) (len0 := rl) (cap0 := rc) (W := W) (d := y3.1) (p := y3.2) ⟨n, by simpa [Value.cells] using h3⟩
  simp only [Lit.wf, Bool.and_eq_true, decide_eq_true_eq] at w0 w1 w2
  subst k1
  exact ⟨⟨A, B, C, qs, ra, rc⟩, rfl, k3, ⟨w0.1, w0.2⟩, ⟨w1.1, w1.2⟩, ⟨w2.1, w2.2⟩, k4, k2⟩
end Go.Proofs.YtnhikdlhjdjmdaaGreat.Srs
/- Whether a head is good: both GoodHeads. -/
namespace Go.Proofs.YtnhikdlhjdjmdaaGreat.Srs
open Go.RowKit
open Go.Proofs.YtnhikdlhjdjmdaaGreat.Lab (Lb HasL OfV goodL GoodP cmpList)
open Go.Proofs.YtnhikdlhjdjmdaaGreat.Smp (Sm HasS goodS ret_bool TimeP)
open Go.Proofs.YtnhikdlhjdjmdaaGreat.Hdn (OkN)

/-- The Time of the last sample. -/
def lastT (s : List Sm) : Int := (s.getD (s.length - 1) Smp.e0).1
def GoodH (h : Hd) : Prop := OkN h.W h.L ∧ (h.N = -1 ∨ TimeP h.N) ∧ (h.qs.length : Int) ≤ h.L ∧ GoodQ h.qs ∧ ∀ i, i < h.qs.length → lastT (pl (h.qs.getD i q0)).2 ≤ h.N
instance (h : Hd) : Decidable (GoodH h) := by unfold GoodH TimeP; infer_instance
def gdH (h : Hd) : Bool := decide (GoodH h)
theorem gdH_no {h : Hd} (g : ¬ GoodH h) : gdH h = false := decide_eq_false g
theorem gdH_yes {h : Hd} (g : GoodH h) : gdH h = true := decide_eq_true g
/-- A head in its box. -/
structure HB (w : World) (h : Hd) (x : World) : Prop where
  box : x.heap[w.heap.size]? = some (.cells (clH h) 31)
  has : HasQ x h.a h.qs
  bel : Below w.heap.size w x
theorem HB.below {w : World} {h : Hd} {x y : World} (g : HB w h x) (hb : Below x.heap.size x y) : HB w h y := ⟨kept g.box hb, g.has.below hb, g.bel.trans (hb.mono g.bel.size)⟩
theorem HB.new {w : World} {h : Hd} (g : HasQ w h.a h.qs) : HB w h (w.alloc (.cells (clH h) 31)) := by
  have hb := (Below.refl w.heap.size w).alloc (Nat.le_refl _) (.cells (clH h) 31)
  exact ⟨heap_alloc_new w _, g.below hb, hb⟩
/-- The last sample of a series in its box, the head's Newest. -/
theorem last_at {x : World} {q : Q} (hs : HasS x q.b q.s) (hne : q.s ≠ []) : ∃ b off, q.b = some ⟨b, off, none⟩ ∧ b < x.heap.size ∧ x.cell? ⟨b, off + (q.s.length - 1) * 2, none⟩ = some (.int .i64 (lastT q.s)) := by
  have hl : 0 < q.s.length := by cases h : q.s with | nil => exact absurd h hne | cons _ _ => simp
  rcases hs with h | ⟨b, off, h1, h2, h3⟩
  · exact absurd h hne
  · exact ⟨b, off, h1, h2, (h3 (q.s.length - 1) (by omega)).1⟩
set_option maxHeartbeats 4000000 in
theorem f24 (h : Hd) (w : World) (hr : HasQ w h.a h.qs) (hf : FitH h) (hz : SmlQ h.qs) :
    Calls Tryz.prog 24 #[agH h] w fun e w' => e = .returned (.bool (gdH h)) ∧ Below w.heap.size w w' := by
  obtain ⟨W, L, N, qs, a, c⟩ := h
  have H0 := hid (HB.new hr)
  have HF := hid hf
  have HZ := hid hz
  clear hr hf hz
  simp only [clH] at H0
  obtain ⟨b0, b1, b2, b3⟩ := four H0.out.box
  simp only [agH, clH]
  go_enter Tryz.func24, Tryz.ntmps24
  by_cases h1 : OkN W L
  rotate_left
  · go_wp2_with (go_at_call 44; refine (Hdn.f44 W L _).mono ?_; rw [decide_eq_false h1]; rintro e w1 ⟨rfl, rfl⟩)
    go_ret
    exact ⟨ret_bool (gdH_no fun g => h1 g.1).symm, H0.out.bel⟩
  by_cases hN : N = -1
  · have hN' : (N != -1) = false := by simp [hN]
    have HN1 := hid hN
    clear hN
    by_cases h5 : (qs.length : Int) ≤ L
    rotate_left
    · have h5' : L < (qs.length : Int) := by omega
      go_wp2_with (first | (go_at_call 44; refine (Hdn.f44 W L _).mono ?_; rw [decide_eq_true h1]; rintro e w1 ⟨rfl, rfl⟩))
      go_ret
      exact ⟨ret_bool (gdH_no fun g => by have := g.2.2.1; simp only at this; omega).symm, H0.out.bel⟩
    have h5' : ¬ L < (qs.length : Int) := by omega
    cases h6 : gdQ qs
    · have HQ : Hid (¬ GoodQ qs) := fun g => by rw [gdQ_yes g] at h6; cases h6
      go_wp2_with (first | (go_at_call 44; refine (Hdn.f44 W L _).mono ?_; rw [decide_eq_true h1]; rintro e w1 ⟨rfl, rfl⟩) | fail)
      refine (f46 a qs.length c qs _ rfl HF.out.2.2.2.2 H0.out.has HF.out.2.2.2.1 HZ.out).mono ?_
      rw [h6]
      rintro e w2 ⟨rfl, hb2⟩
      have H2 := hid (H0.out.below hb2)
      clear hb2
      go_wp2
      go_ret
      exact ⟨ret_bool (gdH_no fun g => HQ.out g.2.2.2.1).symm, H2.out.bel⟩
    have HQ := hid (gdQ_iff.1 h6)
    have h200 : qs.length ≤ 200 := HQ.out.1
    have HE : Hid ((∀ i, i < qs.length → lastT (pl (qs.getD i q0)).2 ≤ N) → gdH ⟨W, L, N, qs, a, c⟩ = true) := fun g => gdH_yes ⟨h1, .inl HN1.out, h5, HQ.out, g⟩
    go_wp2_with (first | (go_at_call 44; refine (Hdn.f44 W L _).mono ?_; rw [decide_eq_true h1]; rintro e w1 ⟨rfl, rfl⟩) | fail)
    refine (f46 a qs.length c qs _ rfl HF.out.2.2.2.2 H0.out.has HF.out.2.2.2.1 HZ.out).mono ?_
    rw [h6]
    rintro e w2 ⟨rfl, hb2⟩
    have H2 := hid (H0.out.below hb2)
    clear hb2
    clear b0 b1 b2 b3
    obtain ⟨b0, b1, b2, b3⟩ := four H2.out.box
    go_wp2
    go_loopw [37] (fun i wr => ∃ k : Nat, k ≤ qs.length ∧ i = .int .i64 k ∧ Hid (∀ i, i < k → lastT (pl (qs.getD i q0)).2 ≤ N) ∧ Hid (HB w ⟨W, L, N, qs, a, c⟩ wr)) (fun i _ => qs.length - (intOf i).toNat)
    case atStart => exact ⟨0, Nat.zero_le _, rfl, fun i hi => by omega, H2.out⟩
    case round =>
      obtain ⟨k, hk, rfl, HU, HX⟩ := hrel
      by_cases hlt : k < qs.length
      rotate_left
      · have HX2 := hid HX.out.bel
        go_wp2
        go_ret
        exact ⟨ret_bool (HE.out fun i hi => HU.out i (by omega)).symm, HX2.out⟩
      have HNo : Hid (¬ lastT (pl (qs.getD k q0)).2 ≤ N → gdH ⟨W, L, N, qs, a, c⟩ = false) := fun g => gdH_no fun g' => g (g'.2.2.2.2 k hlt)
      have HUs : Hid (lastT (pl (qs.getD k q0)).2 ≤ N → ∀ i, i < k + 1 → lastT (pl (qs.getD i q0)).2 ≤ N) := by
        intro g i hi
        by_cases e : i = k
        · rw [e]; exact g
        · exact HU.out i (by omega)
      have hne := (HQ.out.2 k hlt).1.2.2
      obtain ⟨b, off, e0, hbl, c0, c1, t1, t2⟩ := HX.out.has.at2 k hlt
      obtain ⟨bs, os, e1, hbs, cs⟩ := last_at t2 hne
      obtain ⟨m, hm⟩ : ∃ m, (qs.getD k q0).s.length = m + 1 := ⟨(qs.getD k q0).s.length - 1, by have : (qs.getD k q0).s.length ≠ 0 := fun e => hne (List.length_eq_zero_iff.1 e); omega⟩
      have HM := hid (HZ.out k hlt).2
      rw [hm] at c1 cs HM
      rw [e1] at c1
      rw [show m + 1 - 1 = m from rfl] at cs
      obtain ⟨z0, z1, z2, z3⟩ := four HX.out.box
      have lb0 : w.heap.size < wr.heap.size := lt_at HX.out.box
      have hm1 : m + 1 ≤ 1048576 := HM.out
      have hw1 : IntKind.i64.wrap (m : Int) = (m : Int) := by rw [IntKind.wrap_i64]; omega
      have hw2 : IntKind.i64.wrap ((m : Int) + 1 - 1) = (m : Int) := by rw [IntKind.wrap_i64]; omega
      have HXa := hid (HX.out.below ((Below.refl wr.heap.size wr).alloc (Nat.le_refl _) (.cells #[.slice (qs.getD k q0).a (qs.getD k q0).l.length (qs.getD k q0).c, .slice (some ⟨bs, os, none⟩) (m + 1) (qs.getD k q0).d] 56)))
      have HLT : Hid (lastT (pl (qs.getD k q0)).2 = lastT (qs.getD k q0).s) := rfl
      rw [HLT.out] at HNo HUs
      clear HLT
      clear t1 t2 hm hne HM e1
      simp only at e0
      subst e0
      generalize lastT (qs.getD k q0).s = T at *
      generalize (qs.getD k q0).a = qa at *
      generalize (qs.getD k q0).c = qc at *
      generalize (qs.getD k q0).d = qd at *
      generalize (qs.getD k q0).l.length = ll at *
      by_cases h7 : T ≤ N
      · have h7' : ¬ N < T := by omega
        go_wp2
        go_quiet (fail)
        have HX3 := hid (HXa.out.below (Lab.below_drewN (Below.refl _ _) nq))
        clear HXa
        go_wp2
        go_roundw
        case rel => exact ⟨k + 1, by omega, by go_num, HUs.out h7, HX3.out⟩
        case measure => simp [intOf]; omega
      · have h7' : N < T := by omega
        go_wp2
        go_quiet (fail)
        have HX3 := hid (HXa.out.below (Lab.below_drewN (Below.refl _ _) nq)).bel
        clear HXa
        go_wp2
        go_ret
        exact ⟨ret_bool (HNo.out h7).symm, HX3.out⟩
  by_cases h4 : TimeP N
  rotate_left
  · go_wp2_with (first | (go_at_call 44; refine (Hdn.f44 W L _).mono ?_; rw [decide_eq_true h1]; rintro e w1 ⟨rfl, rfl⟩) | (go_at_call 45; refine (Smp.f45 N _).mono ?_; rw [decide_eq_false h4]; rintro e w1 ⟨rfl, rfl⟩))
    go_ret
    exact ⟨ret_bool (gdH_no fun g => g.2.1.elim hN h4).symm, H0.out.bel⟩
  by_cases h5 : (qs.length : Int) ≤ L
  rotate_left
  · have h5' : L < (qs.length : Int) := by omega
    go_wp2_with (first | (go_at_call 44; refine (Hdn.f44 W L _).mono ?_; rw [decide_eq_true h1]; rintro e w1 ⟨rfl, rfl⟩) | (go_at_call 45; refine (Smp.f45 N _).mono ?_; rw [decide_eq_true h4]; rintro e w1 ⟨rfl, rfl⟩))
    go_ret
    exact ⟨ret_bool (gdH_no fun g => by have := g.2.2.1; simp only at this; omega).symm, H0.out.bel⟩
  have h5' : ¬ L < (qs.length : Int) := by omega
  cases h6 : gdQ qs
  · have HQ : Hid (¬ GoodQ qs) := fun g => by rw [gdQ_yes g] at h6; cases h6
    go_wp2_with (first | (go_at_call 44; refine (Hdn.f44 W L _).mono ?_; rw [decide_eq_true h1]; rintro e w1 ⟨rfl, rfl⟩) | (go_at_call 45; refine (Smp.f45 N _).mono ?_; rw [decide_eq_true h4]; rintro e w1 ⟨rfl, rfl⟩) | fail)
    refine (f46 a qs.length c qs _ rfl HF.out.2.2.2.2 H0.out.has HF.out.2.2.2.1 HZ.out).mono ?_
    rw [h6]
    rintro e w2 ⟨rfl, hb2⟩
    have H2 := hid (H0.out.below hb2)
    clear hb2
    go_wp2
    go_ret
    exact ⟨ret_bool (gdH_no fun g => HQ.out g.2.2.2.1).symm, H2.out.bel⟩
  have HQ := hid (gdQ_iff.1 h6)
  have h200 : qs.length ≤ 200 := HQ.out.1
  have HE : Hid ((∀ i, i < qs.length → lastT (pl (qs.getD i q0)).2 ≤ N) → gdH ⟨W, L, N, qs, a, c⟩ = true) := fun g => gdH_yes ⟨h1, .inr h4, h5, HQ.out, g⟩
  go_wp2_with (first | (go_at_call 44; refine (Hdn.f44 W L _).mono ?_; rw [decide_eq_true h1]; rintro e w1 ⟨rfl, rfl⟩) | (go_at_call 45; refine (Smp.f45 N _).mono ?_; rw [decide_eq_true h4]; rintro e w1 ⟨rfl, rfl⟩) | fail)
  refine (f46 a qs.length c qs _ rfl HF.out.2.2.2.2 H0.out.has HF.out.2.2.2.1 HZ.out).mono ?_
  rw [h6]
  rintro e w2 ⟨rfl, hb2⟩
  have H2 := hid (H0.out.below hb2)
  clear hb2
  clear b0 b1 b2 b3
  obtain ⟨b0, b1, b2, b3⟩ := four H2.out.box
  go_wp2
  go_loopw [37] (fun i wr => ∃ k : Nat, k ≤ qs.length ∧ i = .int .i64 k ∧ Hid (∀ i, i < k → lastT (pl (qs.getD i q0)).2 ≤ N) ∧ Hid (HB w ⟨W, L, N, qs, a, c⟩ wr)) (fun i _ => qs.length - (intOf i).toNat)
  case atStart => exact ⟨0, Nat.zero_le _, rfl, fun i hi => by omega, H2.out⟩
  case round =>
    obtain ⟨k, hk, rfl, HU, HX⟩ := hrel
    by_cases hlt : k < qs.length
    rotate_left
    · have HX2 := hid HX.out.bel
      go_wp2
      go_ret
      exact ⟨ret_bool (HE.out fun i hi => HU.out i (by omega)).symm, HX2.out⟩
    have HNo : Hid (¬ lastT (pl (qs.getD k q0)).2 ≤ N → gdH ⟨W, L, N, qs, a, c⟩ = false) := fun g => gdH_no fun g' => g (g'.2.2.2.2 k hlt)
    have HUs : Hid (lastT (pl (qs.getD k q0)).2 ≤ N → ∀ i, i < k + 1 → lastT (pl (qs.getD i q0)).2 ≤ N) := by
      intro g i hi
      by_cases e : i = k
      · rw [e]; exact g
      · exact HU.out i (by omega)
    have hne := (HQ.out.2 k hlt).1.2.2
    obtain ⟨b, off, e0, hbl, c0, c1, t1, t2⟩ := HX.out.has.at2 k hlt
    obtain ⟨bs, os, e1, hbs, cs⟩ := last_at t2 hne
    obtain ⟨m, hm⟩ : ∃ m, (qs.getD k q0).s.length = m + 1 := ⟨(qs.getD k q0).s.length - 1, by have : (qs.getD k q0).s.length ≠ 0 := fun e => hne (List.length_eq_zero_iff.1 e); omega⟩
    have HM := hid (HZ.out k hlt).2
    rw [hm] at c1 cs HM
    rw [e1] at c1
    rw [show m + 1 - 1 = m from rfl] at cs
    obtain ⟨z0, z1, z2, z3⟩ := four HX.out.box
    have lb0 : w.heap.size < wr.heap.size := lt_at HX.out.box
    have hm1 : m + 1 ≤ 1048576 := HM.out
    have hw1 : IntKind.i64.wrap (m : Int) = (m : Int) := by rw [IntKind.wrap_i64]; omega
    have hw2 : IntKind.i64.wrap ((m : Int) + 1 - 1) = (m : Int) := by rw [IntKind.wrap_i64]; omega
    have HXa := hid (HX.out.below ((Below.refl wr.heap.size wr).alloc (Nat.le_refl _) (.cells #[.slice (qs.getD k q0).a (qs.getD k q0).l.length (qs.getD k q0).c, .slice (some ⟨bs, os, none⟩) (m + 1) (qs.getD k q0).d] 56)))
    have HLT : Hid (lastT (pl (qs.getD k q0)).2 = lastT (qs.getD k q0).s) := rfl
    rw [HLT.out] at HNo HUs
    clear HLT
    clear t1 t2 hm hne HM e1
    simp only at e0
    subst e0
    generalize lastT (qs.getD k q0).s = T at *
    generalize (qs.getD k q0).a = qa at *
    generalize (qs.getD k q0).c = qc at *
    generalize (qs.getD k q0).d = qd at *
    generalize (qs.getD k q0).l.length = ll at *
    by_cases h7 : T ≤ N
    · have h7' : ¬ N < T := by omega
      go_wp2
      go_quiet (fail)
      have HX3 := hid (HXa.out.below (Lab.below_drewN (Below.refl _ _) nq))
      clear HXa
      go_wp2
      go_roundw
      case rel => exact ⟨k + 1, by omega, by go_num, HUs.out h7, HX3.out⟩
      case measure => simp [intOf]; omega
    · have h7' : N < T := by omega
      go_wp2
      go_quiet (fail)
      have HX3 := hid (HXa.out.below (Lab.below_drewN (Below.refl _ _) nq)).bel
      clear HXa
      go_wp2
      go_ret
      exact ⟨ret_bool (HNo.out h7).symm, HX3.out⟩
end Go.Proofs.YtnhikdlhjdjmdaaGreat.Srs
/- Whether a head is good: the model's GoodHead. -/
namespace Go.Proofs.YtnhikdlhjdjmdaaGreat.Srs
open Go.RowKit
open Go.Proofs.YtnhikdlhjdjmdaaGreat.Lab (Lb HasL OfV goodL GoodP cmpList)
open Go.Proofs.YtnhikdlhjdjmdaaGreat.Smp (Sm HasS goodS ret_bool TimeP)
open Go.Proofs.YtnhikdlhjdjmdaaGreat.Hdn (OkN)

set_option maxHeartbeats 4000000 in
theorem f19 (h : Hd) (w : World) (hr : HasQ w h.a h.qs) (hf : FitH h) (hz : SmlQ h.qs) :
    Calls Tryz.prog 19 #[agH h] w fun e w' => e = .returned (.bool (gdH h)) ∧ Below w.heap.size w w' := by
  obtain ⟨W, L, N, qs, a, c⟩ := h
  have H0 := hid (HB.new hr)
  have HF := hid hf
  have HZ := hid hz
  clear hr hf hz
  simp only [clH] at H0
  obtain ⟨b0, b1, b2, b3⟩ := four H0.out.box
  simp only [agH, clH]
  go_enter Tryz.func19, Tryz.ntmps19
  by_cases h1 : TimeP W
  rotate_left
  · go_wp2_with (first | (go_at_call 35; refine (Smp.f35 W _).mono ?_; rw [decide_eq_false h1]; rintro e w1 ⟨rfl, rfl⟩))
    go_ret
    exact ⟨ret_bool (gdH_no fun g => h1 g.1.1).symm, H0.out.bel⟩
  by_cases h2 : L < 0
  · go_wp2_with (first | (go_at_call 35; refine (Smp.f35 W _).mono ?_; rw [decide_eq_true h1]; rintro e w1 ⟨rfl, rfl⟩))
    go_ret
    exact ⟨ret_bool (gdH_no fun g => by have := g.1.2.1; simp only at this; omega).symm, H0.out.bel⟩
  by_cases h3 : 200 < L
  · go_wp2_with (first | (go_at_call 35; refine (Smp.f35 W _).mono ?_; rw [decide_eq_true h1]; rintro e w1 ⟨rfl, rfl⟩))
    go_ret
    exact ⟨ret_bool (gdH_no fun g => by have := g.1.2.2; simp only at this; omega).symm, H0.out.bel⟩
  have HOk : Hid (OkN W L) := ⟨h1, by omega, by omega⟩
  cases h6 : gdQ qs
  · have HQ : Hid (¬ GoodQ qs) := fun g => by rw [gdQ_yes g] at h6; cases h6
    go_wp2_with (first | (go_at_call 35; refine (Smp.f35 W _).mono ?_; rw [decide_eq_true h1]; rintro e w1 ⟨rfl, rfl⟩) | fail)
    refine (f36 a qs.length c qs _ rfl HF.out.2.2.2.2 H0.out.has HF.out.2.2.2.1 HZ.out).mono ?_
    rw [h6]
    rintro e w2 ⟨rfl, hb2⟩
    have H2 := hid (H0.out.below hb2)
    clear hb2
    go_wp2
    go_ret
    exact ⟨ret_bool (gdH_no fun g => HQ.out g.2.2.2.1).symm, H2.out.bel⟩
  have HQ := hid (gdQ_iff.1 h6)
  have h200 : qs.length ≤ 200 := HQ.out.1
  by_cases g27 : L < (qs.length : Int)
  · go_wp2_with (first | (go_at_call 35; refine (Smp.f35 W _).mono ?_; rw [decide_eq_true h1]; rintro e w1 ⟨rfl, rfl⟩) | fail)
    refine (f36 a qs.length c qs _ rfl HF.out.2.2.2.2 H0.out.has HF.out.2.2.2.1 HZ.out).mono ?_
    rw [h6]
    rintro e w2 ⟨rfl, hb2⟩
    have H2 := hid (H0.out.below hb2)
    clear hb2
    clear b0 b1 b2 b3
    obtain ⟨b0, b1, b2, b3⟩ := four H2.out.box
    go_wp2
    go_ret
    exact ⟨ret_bool (gdH_no fun g => by have := g.2.2.1; simp only at this; omega).symm, H2.out.bel⟩
  by_cases g39 : N < -1
  · go_wp2_with (first | (go_at_call 35; refine (Smp.f35 W _).mono ?_; rw [decide_eq_true h1]; rintro e w1 ⟨rfl, rfl⟩) | fail)
    refine (f36 a qs.length c qs _ rfl HF.out.2.2.2.2 H0.out.has HF.out.2.2.2.1 HZ.out).mono ?_
    rw [h6]
    rintro e w2 ⟨rfl, hb2⟩
    have H2 := hid (H0.out.below hb2)
    clear hb2
    clear b0 b1 b2 b3
    obtain ⟨b0, b1, b2, b3⟩ := four H2.out.box
    go_wp2
    go_ret
    exact ⟨ret_bool (gdH_no fun g => by have := g.2.1; simp only [TimeP] at this; omega).symm, H2.out.bel⟩
  by_cases g51 : 1000000000000 < N
  · go_wp2_with (first | (go_at_call 35; refine (Smp.f35 W _).mono ?_; rw [decide_eq_true h1]; rintro e w1 ⟨rfl, rfl⟩) | fail)
    refine (f36 a qs.length c qs _ rfl HF.out.2.2.2.2 H0.out.has HF.out.2.2.2.1 HZ.out).mono ?_
    rw [h6]
    rintro e w2 ⟨rfl, hb2⟩
    have H2 := hid (H0.out.below hb2)
    clear hb2
    clear b0 b1 b2 b3
    obtain ⟨b0, b1, b2, b3⟩ := four H2.out.box
    go_wp2
    go_ret
    exact ⟨ret_bool (gdH_no fun g => by have := g.2.1; simp only [TimeP] at this; omega).symm, H2.out.bel⟩
  have HE : Hid ((∀ i, i < qs.length → lastT (pl (qs.getD i q0)).2 ≤ N) → gdH ⟨W, L, N, qs, a, c⟩ = true) := fun g => gdH_yes ⟨HOk.out, by simp only [TimeP]; omega, by simp only; omega, HQ.out, g⟩
  go_wp2_with (first | (go_at_call 35; refine (Smp.f35 W _).mono ?_; rw [decide_eq_true h1]; rintro e w1 ⟨rfl, rfl⟩) | fail)
  refine (f36 a qs.length c qs _ rfl HF.out.2.2.2.2 H0.out.has HF.out.2.2.2.1 HZ.out).mono ?_
  rw [h6]
  rintro e w2 ⟨rfl, hb2⟩
  have H2 := hid (H0.out.below hb2)
  clear hb2
  clear b0 b1 b2 b3
  obtain ⟨b0, b1, b2, b3⟩ := four H2.out.box
  go_wp2
  go_loopw [46] (fun i wr => ∃ k : Nat, k ≤ qs.length ∧ i = .int .i64 k ∧ Hid (∀ i, i < k → lastT (pl (qs.getD i q0)).2 ≤ N) ∧ Hid (HB w ⟨W, L, N, qs, a, c⟩ wr)) (fun i _ => qs.length - (intOf i).toNat)
  case atStart => exact ⟨0, Nat.zero_le _, rfl, fun i hi => by omega, H2.out⟩
  case round =>
    obtain ⟨k, hk, rfl, HU, HX⟩ := hrel
    by_cases hlt : k < qs.length
    rotate_left
    · have HX2 := hid HX.out.bel
      go_wp2
      go_ret
      exact ⟨ret_bool (HE.out fun i hi => HU.out i (by omega)).symm, HX2.out⟩
    have HNo : Hid (¬ lastT (pl (qs.getD k q0)).2 ≤ N → gdH ⟨W, L, N, qs, a, c⟩ = false) := fun g => gdH_no fun g' => g (g'.2.2.2.2 k hlt)
    have HUs : Hid (lastT (pl (qs.getD k q0)).2 ≤ N → ∀ i, i < k + 1 → lastT (pl (qs.getD i q0)).2 ≤ N) := by
      intro g i hi
      by_cases e : i = k
      · rw [e]; exact g
      · exact HU.out i (by omega)
    have hne := (HQ.out.2 k hlt).1.2.2
    obtain ⟨b, off, e0, hbl, c0, c1, t1, t2⟩ := HX.out.has.at2 k hlt
    obtain ⟨bs, os, e1, hbs, cs⟩ := last_at t2 hne
    obtain ⟨m, hm⟩ : ∃ m, (qs.getD k q0).s.length = m + 1 := ⟨(qs.getD k q0).s.length - 1, by have : (qs.getD k q0).s.length ≠ 0 := fun e => hne (List.length_eq_zero_iff.1 e); omega⟩
    have HM := hid (HZ.out k hlt).2
    rw [hm] at c1 cs HM
    rw [e1] at c1
    rw [show m + 1 - 1 = m from rfl] at cs
    obtain ⟨z0, z1, z2, z3⟩ := four HX.out.box
    have lb0 : w.heap.size < wr.heap.size := lt_at HX.out.box
    have hm1 : m + 1 ≤ 1048576 := HM.out
    have hw1 : IntKind.i64.wrap (m : Int) = (m : Int) := by rw [IntKind.wrap_i64]; omega
    have hw2 : IntKind.i64.wrap ((m : Int) + 1 - 1) = (m : Int) := by rw [IntKind.wrap_i64]; omega
    have HXa := hid (HX.out.below ((Below.refl wr.heap.size wr).alloc (Nat.le_refl _) (.cells #[.slice (qs.getD k q0).a (qs.getD k q0).l.length (qs.getD k q0).c, .slice (some ⟨bs, os, none⟩) (m + 1) (qs.getD k q0).d] 56)))
    have HLT : Hid (lastT (pl (qs.getD k q0)).2 = lastT (qs.getD k q0).s) := rfl
    rw [HLT.out] at HNo HUs
    clear HLT
    clear t1 t2 hm hne HM e1
    simp only at e0
    subst e0
    generalize lastT (qs.getD k q0).s = T at *
    generalize (qs.getD k q0).a = qa at *
    generalize (qs.getD k q0).c = qc at *
    generalize (qs.getD k q0).d = qd at *
    generalize (qs.getD k q0).l.length = ll at *
    by_cases h7 : T ≤ N
    · have h7' : ¬ N < T := by omega
      go_wp2
      go_quiet (fail)
      have HX3 := hid (HXa.out.below (Lab.below_drewN (Below.refl _ _) nq))
      clear HXa
      go_wp2
      go_roundw
      case rel => exact ⟨k + 1, by omega, by go_num, HUs.out h7, HX3.out⟩
      case measure => simp [intOf]; omega
    · have h7' : N < T := by omega
      go_wp2
      go_quiet (fail)
      have HX3 := hid (HXa.out.below (Lab.below_drewN (Below.refl _ _) nq)).bel
      clear HXa
      go_wp2
      go_ret
      exact ⟨ret_bool (HNo.out h7).symm, HX3.out⟩
end Go.Proofs.YtnhikdlhjdjmdaaGreat.Srs
/- SelectHead, the model's and the program's; matchers and heads marked. -/
namespace Go.Proofs.YtnhikdlhjdjmdaaGreat.Srs
open Go.RowKit
open Go.Proofs.YtnhikdlhjdjmdaaGreat.Lab (Lb HasL OfV GoodP)
open Go.Proofs.YtnhikdlhjdjmdaaGreat.Smp (Sm HasS cut)
open Go.Proofs.YtnhikdlhjdjmdaaGreat.Pat (Mt HasM goodM allM FitM)

theorem Own2.base {X Y : Nat} {q : Q} {w : World} (h : Own2 X q w) (hy : Y ≤ X) : Own2 Y q w := ⟨h.ha, h.hb, own_base h.lab hy, own_base h.smp hy, h.ne⟩
theorem OwnO.base {X Y n c : Nat} {a : Option Addr} {qs : List Q} {w : World} (h : OwnO X a n c qs w) (hy : Y ≤ X) : OwnO Y a n c qs w := ⟨h.len, own_base h.row hy, fun i hi => (h.own i hi).base hy, h.nea, h.dis⟩
/-- What SelectHead tells. -/
def slF (val : Vf) (h : Hd) (ms : List Mt) (x y : Int) : List Pl := if gdH h && goodM ms then sl val ms h.qs x y h.qs.length else []
set_option maxHeartbeats 2000000 in
theorem f6 (val : Vf) (hv : ∀ ls x, OfV ls x (val ls x)) (h : Hd) (am : Option Addr) (nm cm : Nat) (ms : List Mt) (x y : Int) (w : World) (hnm : ms.length = nm) (hr : HasQ w h.a h.qs) (hf : FitH h) (hz : SmlQ h.qs) (hm : HasM w am ms) (hfm : FitM ms) (hmm : nm ≤ maxLen) :
    Calls Tryz.prog 6 #[agH h, .slice am nm cm, .int .i64 x, .int .i64 y] w fun e w' => ∃ a' m' c' R, e = .returned (.slice a' m' c') ∧ OwnO w.heap.size a' m' c' R w' ∧ R.map pl = slF val h ms x y ∧ Below w.heap.size w w' := by
  have HN := hid hnm
  have H0 := hid (HB.new hr)
  have HF := hid hf
  have HZ := hid hz
  have HM := hid (hm.below H0.out.bel)
  have HFM := hid hfm
  have HMM := hid hmm
  have HV := hid hv
  clear hnm hr hf hz hm hfm hmm hv
  obtain ⟨W, L, N, qs, a, c⟩ := h
  simp only [clH] at H0
  obtain ⟨b0, b1, b2, b3⟩ := four H0.out.box
  simp only [agH, clH]
  go_enter Tryz.func6, Tryz.ntmps6
  go_wp2_with fail
  refine (f19 ⟨W, L, N, qs, a, c⟩ _ H0.out.has HF.out HZ.out).mono ?_
  rintro e w1 ⟨rfl, hb1⟩
  have H1 := hid (H0.out.below hb1)
  have HM1 := hid (HM.out.below hb1)
  clear hb1 H0 HM b0 b1 b2 b3
  cases hg : gdH ⟨W, L, N, qs, a, c⟩
  · have HE : Hid (slF val ⟨W, L, N, qs, a, c⟩ ms x y = []) := by unfold Hid slF; rw [hg]; rfl
    go_wp2
    go_ret
    exact ⟨none, 0, 0, [], rfl, OwnO.nil _ _, HE.out.symm, H1.out.bel⟩
  have HGq : Hid (GoodQ qs) := hid ((of_decide_eq_true hg : GoodH ⟨W, L, N, qs, a, c⟩).2.2.2.1)
  obtain ⟨b0, b1, b2, b3⟩ := four H1.out.box
  go_wp2_with fail
  refine (Pat.f20 am nm cm ms _ HN.out HMM.out HM1.out HFM.out).mono ?_
  rintro e w2 ⟨rfl, hb2⟩
  have H2 := hid (H1.out.below hb2)
  have HM2 := hid (HM1.out.below hb2)
  clear hb2 H1 HM1 b0 b1 b2 b3
  cases hgm : goodM ms
  · have HE : Hid (slF val ⟨W, L, N, qs, a, c⟩ ms x y = []) := by unfold Hid slF; rw [hg, hgm]; rfl
    go_wp2
    go_ret
    exact ⟨none, 0, 0, [], rfl, OwnO.nil _ _, HE.out.symm, H2.out.bel⟩
  have HE : Hid (slF val ⟨W, L, N, qs, a, c⟩ ms x y = sl val ms qs x y qs.length) := by unfold Hid slF; rw [hg, hgm]; rfl
  have HGm := hid hgm
  obtain ⟨b0, b1, b2, b3⟩ := four H2.out.box
  go_wp2_with fail
  refine (f21 val HV.out a am qs.length c nm cm qs ms x y _ rfl HN.out H2.out.has HM2.out HGq.out HGm.out).mono ?_
  rintro e w3 ⟨a3, m3, c3, R, rfl, ho3, hs3, hb3⟩
  have HO3 := hid (ho3.base H2.out.bel.size)
  have HS3 := hid hs3
  have HX3 := hid (H2.out.bel.trans (hb3.mono H2.out.bel.size))
  clear ho3 hs3 hb3 b0 b1 b2 b3 H2 HM2
  go_wp2
  go_ret
  exact ⟨a3, m3, c3, R, rfl, HO3.out, HS3.out.trans HE.out.symm, HX3.out⟩
set_option maxHeartbeats 2000000 in
theorem f9 (val : Vf) (hv : ∀ ls x, OfV ls x (val ls x)) (h : Hd) (am : Option Addr) (nm cm : Nat) (ms : List Mt) (x y : Int) (w : World) (hnm : ms.length = nm) (hr : HasQ w h.a h.qs) (hf : FitH h) (hz : SmlQ h.qs) (hm : HasM w am ms) (hfm : FitM ms) (hmm : nm ≤ maxLen) (hd : ∀ i, i < h.qs.length → (h.qs.getD i q0).s.length ≤ (h.qs.getD i q0).d) :
    Calls Tryz.prog 9 #[agH h, .slice am nm cm, .int .i64 x, .int .i64 y] w fun e w' => ∃ a' m' c' R, e = .returned (.slice a' m' c') ∧ OwnO w.heap.size a' m' c' R w' ∧ R.map pl = slF val h ms x y ∧ Below w.heap.size w w' := by
  have HN := hid hnm
  have H0 := hid (HB.new hr)
  have HF := hid hf
  have HZ := hid hz
  have HM := hid (hm.below H0.out.bel)
  have HFM := hid hfm
  have HMM := hid hmm
  have HV := hid hv
  have HD := hid hd
  clear hnm hr hf hz hm hfm hmm hv hd
  obtain ⟨W, L, N, qs, a, c⟩ := h
  simp only [clH] at H0
  obtain ⟨b0, b1, b2, b3⟩ := four H0.out.box
  simp only [agH, clH]
  go_enter Tryz.func9, Tryz.ntmps9
  go_wp2_with fail
  refine (f24 ⟨W, L, N, qs, a, c⟩ _ H0.out.has HF.out HZ.out).mono ?_
  rintro e w1 ⟨rfl, hb1⟩
  have H1 := hid (H0.out.below hb1)
  have HM1 := hid (HM.out.below hb1)
  clear hb1 H0 HM b0 b1 b2 b3
  cases hg : gdH ⟨W, L, N, qs, a, c⟩
  · have HE : Hid (slF val ⟨W, L, N, qs, a, c⟩ ms x y = []) := by unfold Hid slF; rw [hg]; rfl
    go_wp2
    go_ret
    exact ⟨none, 0, 0, [], rfl, OwnO.nil _ _, HE.out.symm, H1.out.bel⟩
  have HGq : Hid (GoodQ qs) := hid ((of_decide_eq_true hg : GoodH ⟨W, L, N, qs, a, c⟩).2.2.2.1)
  obtain ⟨b0, b1, b2, b3⟩ := four H1.out.box
  go_wp2_with fail
  refine (Pat.f25 am nm cm ms _ HN.out HMM.out HM1.out HFM.out).mono ?_
  rintro e w2 ⟨rfl, hb2⟩
  have H2 := hid (H1.out.below hb2)
  have HM2 := hid (HM1.out.below hb2)
  clear hb2 H1 HM1 b0 b1 b2 b3
  cases hgm : goodM ms
  · have HE : Hid (slF val ⟨W, L, N, qs, a, c⟩ ms x y = []) := by unfold Hid slF; rw [hg, hgm]; rfl
    go_wp2
    go_ret
    exact ⟨none, 0, 0, [], rfl, OwnO.nil _ _, HE.out.symm, H2.out.bel⟩
  have HE : Hid (slF val ⟨W, L, N, qs, a, c⟩ ms x y = sl val ms qs x y qs.length) := by unfold Hid slF; rw [hg, hgm]; rfl
  have HGm := hid hgm
  obtain ⟨b0, b1, b2, b3⟩ := four H2.out.box
  go_wp2_with fail
  refine (f26 val HV.out a am qs.length c nm cm qs ms x y _ rfl HN.out H2.out.has HM2.out HGq.out HGm.out HD.out).mono ?_
  rintro e w3 ⟨a3, m3, c3, R, rfl, ho3, hs3, hb3⟩
  have HO3 := hid (ho3.base H2.out.bel.size)
  have HS3 := hid hs3
  have HX3 := hid (H2.out.bel.trans (hb3.mono H2.out.bel.size))
  clear ho3 hs3 hb3 b0 b1 b2 b3 H2 HM2
  go_wp2
  go_ret
  exact ⟨a3, m3, c3, R, rfl, HO3.out, HS3.out.trans HE.out.symm, HX3.out⟩
set_option maxHeartbeats 1000000 in
theorem f18t (s t : ByteArray) (o x : Int) (w : World) (hs : s.size ≤ maxLen) (ht : t.size ≤ maxLen) (hx0 : 0 ≤ x) (hx1 : x ≤ 1048576) :
    Calls Tryz.prog 18 #[.agg #[.string s, .int .i64 o, .string t], .int .i64 x] w fun e w' => ∃ y : Int, e = .returned (.int .i64 y) ∧ -1 ≤ y ∧ y ≤ 1048576 ∧ Below w.heap.size w w' := Pat.f18 s t o x w hs ht hx0 hx1
set_option maxHeartbeats 1000000 in
theorem f5t (a : Option Addr) (n c : Nat) (L : Int) (ms : List Mt) (w : World) (hL0 : 0 ≤ L) (hL1 : L ≤ 1048576) (hn : ms.length = n) (hr : HasM w a ms) (hf : FitM ms) (hmax : n ≤ maxLen) :
    Calls Tryz.prog 5 #[.slice a n c, .int .i64 L] w fun e w' => ∃ y : Int, e = .returned (.int .i64 y) ∧ -1 ≤ y ∧ (0 ≤ y → n ≤ 1048576) ∧ Below w.heap.size w w' := by
  unfold maxLen at hmax
  by_cases hbig : (n : Int) ≤ L
  · have HN := hid hn
    clear hn
    go_enter Tryz.func5, Tryz.ntmps5
    go_wp2
    go_loopw [1, 5] (fun sx i wr => ∃ (k : Nat) (x : Int), k ≤ n ∧ i = .int .i64 k ∧ sx = .int .i64 x ∧ 0 ≤ x ∧ x ≤ 1048576 ∧ Below w.heap.size w wr) (fun _ i _ => n - (intOf i).toNat)
    case atStart => exact ⟨0, _, Nat.zero_le _, rfl, rfl, by omega, by omega, Below.refl _ _⟩
    case round =>
      obtain ⟨k, x, hk, rfl, rfl, hx0, hx1, hb⟩ := hrel
      have HB := hid hb
      by_cases hlt : k < n
      · rcases hr with h | ⟨b, off, rfl, h2, h3⟩
        · exfalso; rw [h] at HN; have := HN.out; simp at this; omega
        obtain ⟨c0, c1, c2⟩ := h3 k (by rw [HN.out]; exact hlt)
        obtain ⟨g0, g1, _⟩ := hf k
        have d0 := (hb.cell (p := ⟨b, off + k * 3, none⟩) h2).trans c0
        have d1 := (hb.cell (p := ⟨b, off + k * 3 + 1, none⟩) h2).trans c1
        have d2 := (hb.cell (p := ⟨b, off + k * 3 + 2, none⟩) h2).trans c2
        clear h3 c0 c1 c2 hb
        generalize (ms.getD k Pat.m0).1 = s at *
        generalize (ms.getD k Pat.m0).2.1 = o at *
        generalize (ms.getD k Pat.m0).2.2 = t at *
        go_wp2_with fail
        refine (f18t s t o x _ g0 g1 hx0 hx1).mono ?_
        rintro e w2 ⟨y, rfl, y0, y1, hb2⟩
        have HB2 := hid (HB.out.trans (hb2.mono HB.out.size))
        clear hb2 d0 d1 d2
        by_cases hy : y < 0
        · go_wp2
          go_ret
          exact ⟨-1, rfl, by omega, fun h => absurd h (by omega), HB2.out⟩
        · go_wp2
          go_roundw
          case rel => exact ⟨k + 1, y, by omega, by go_num, rfl, by omega, y1, HB2.out⟩
          case measure => simp [intOf]; omega
      · go_wp2
        go_ret
        exact ⟨x, rfl, by omega, fun _ => by omega, HB.out⟩
  · go_enter Tryz.func5, Tryz.ntmps5
    go_wp2
    go_ret
    exact ⟨-1, rfl, by omega, by omega, Below.refl _ _⟩
set_option maxHeartbeats 1000000 in
theorem f13 (X Y k : Nat) (h : Hd) (g : Nat) (w : World) (hg : h.a = some ⟨g, 0, none⟩) (hc : h.c = h.qs.length) (hb : h.qs.length ≤ 1048576) (hk : k + 2 * tot h.qs h.qs.length ≤ 100000000) (ho : OwnQ X g h.qs.length h.qs w) (hY : ∀ i, i < h.qs.length → blk (h.qs.getD i q0).b < Y) :
    Calls Tryz.prog 13 #[agH h, .int .i64 k] w fun e w' => e = .returned (.int .i64 ((k + 2 * tot h.qs h.qs.length : Nat) : Int)) ∧ Fr g Y w w' := by
  obtain ⟨W, L, N, qs, a, c⟩ := h
  simp only at hg hc hb hk ho hY
  subst hg hc
  have hba := (Below.refl w.heap.size w).alloc (Nat.le_refl _) (.cells #[.int .i64 W, .int .i64 L, .int .i64 N, .slice (some ⟨g, 0, none⟩) qs.length qs.length] 31)
  have HO := hid (ho.below hba)
  have HF0 := hid ((Fr.refl g Y w).below hba)
  have HY := hid hY
  have HK := hid hk
  clear ho hba hY hk
  simp only [agH, clH]
  go_enter Tryz.func13, Tryz.ntmps13
  go_wp2_with fail
  refine (f15 X g Y qs.length k qs _ rfl hb HK.out HO.out HY.out).mono ?_
  rintro e w1 ⟨rfl, hf1⟩
  have HF1 : Hid (Fr g Y w w1) := ⟨hf1.os.trans HF0.out.os, hf1.tape.trans HF0.out.tape, hf1.output.trans HF0.out.output, Nat.le_trans HF0.out.size hf1.size, fun j hj hq => (hf1.block j (Nat.lt_of_lt_of_le hj HF0.out.size) hq).trans (HF0.out.block j hj hq)⟩
  clear hf1
  go_wp2
  go_ret
  exact ⟨by first | rfl | (go_num), HF1.out⟩
set_option maxHeartbeats 2000000 in
theorem f14 (g n base k : Nat) (w : World) (xs : List Value) (hn : n ≤ 1048576) (hk : k + 3 * n ≤ 100000000) (ho : w.ownsRow base 50 3 (.slice (some ⟨g, 0, none⟩) n n) n xs) :
    Calls Tryz.prog 14 #[.slice (some ⟨g, 0, none⟩) n n, .int .i64 k] w fun e w' => e = .returned (.int .i64 ((k + 3 * n : Nat) : Int)) ∧ w.grownBy w' (some g) := by
  have H0 := hid ho
  clear ho
  go_enter Tryz.func14, Tryz.ntmps14
  go_wp2
  go_loopw [1, 5] (fun sk si wr => ∃ (i m : Nat) (ys : List Value), i ≤ n ∧ si = .int .i64 i ∧ sk = .int .i64 (m : Int) ∧ Hid (m = k + 3 * i) ∧ Hid (wr.ownsRow base 50 3 (.slice (some ⟨g, 0, none⟩) n n) n ys) ∧ Hid (w.grownBy wr (some g))) (fun _ si _ => n - (intOf si).toNat)
  case atStart => exact ⟨0, k, xs, Nat.zero_le _, rfl, rfl, rfl, H0.out, ⟨rfl, rfl, rfl, Nat.le_refl _, fun _ _ _ => rfl⟩⟩
  case round =>
    obtain ⟨i, m, ys, hi, rfl, rfl, hm, HO, HG⟩ := hrel
    by_cases hlt : i < n
    rotate_left
    · obtain rfl : i = n := by omega
      go_wp2
      go_ret
      exact ⟨by rw [← hm.out]; rfl, HG.out⟩
    have hm1 : m ≤ 99999997 := by have := hm.out; omega
    have HL : Hid (ys.length = n * 3) := HO.out.1
    go_wp2_with fail
    refine (Lab.f29 m _ (by omega)).mono ?_
    rintro e w2 ⟨rfl, hb2⟩
    have HO2 := hid (own_below HO.out hb2)
    have HG2 := hid (Lab.grown_trans HG.out (Lab.grown_below (some g) hb2))
    have fz := HO2.out.frozenAt (i * 3)
    obtain ⟨z, hz⟩ : ∃ z, w2.cell? ⟨g, i * 3, none⟩ = some z := ⟨ys[i * 3]'(by rw [HL.out]; omega), by rw [HO2.out.cellAt (i * 3) (by omega), List.getElem?_eq_getElem (by rw [HL.out]; omega)]⟩
    have HO3 := hid (HO2.out.stored (i * 3) (.string (Lab.mkT m))).1
    have HG3 := hid (Lab.grown_setRow (o := i * 3) HG2.out (.string (Lab.mkT m)))
    have fz3 := HO3.out.frozenAt (i * 3 + 1)
    obtain ⟨z3, hz3⟩ : ∃ z, w2.cell? ⟨g, i * 3 + 1, none⟩ = some z := ⟨ys[i * 3 + 1]'(by rw [HL.out]; omega), by rw [HO2.out.cellAt (i * 3 + 1) (by omega), List.getElem?_eq_getElem (by rw [HL.out]; omega)]⟩
    have fz2 := HO2.out.frozenAt (i * 3 + 1)
    have HO4 := hid (HO3.out.stored (i * 3 + 1) (.int .i64 ((m : Int) + 1))).1
    have HG4 := hid (Lab.grown_setRow (o := i * 3 + 1) HG3.out (.int .i64 ((m : Int) + 1)))
    clear hb2 fz3
    go_wp2_with fail
    refine (Lab.f29 (m + 2) _ (by omega)).mono ?_
    rintro e w5 ⟨rfl, hb5⟩
    have HO5 := hid (own_below HO4.out hb5)
    have HG5 := hid (Lab.grown_trans HG4.out (Lab.grown_below (some g) hb5))
    have fz5 := HO5.out.frozenAt (i * 3 + 2)
    obtain ⟨z5, hz5⟩ : ∃ z, w5.cell? ⟨g, i * 3 + 2, none⟩ = some z := ⟨((ys.set (i * 3) (.string (Lab.mkT m))).set (i * 3 + 1) (.int .i64 ((m : Int) + 1)))[i * 3 + 2]'(by rw [List.length_set, List.length_set, HL.out]; omega), by rw [HO5.out.cellAt (i * 3 + 2) (by omega), List.getElem?_eq_getElem (by rw [List.length_set, List.length_set, HL.out]; omega)]⟩
    have HO6 := hid (HO5.out.stored (i * 3 + 2) (.string (Lab.mkT (m + 2)))).1
    have HG6 := hid (Lab.grown_setRow (o := i * 3 + 2) HG5.out (.string (Lab.mkT (m + 2))))
    have HE : Hid (m + 3 = k + 3 * (i + 1)) := by unfold Hid; have := hm.out; omega
    clear hb5 fz hz fz2 hz3 z z3
    go_wp2
    go_roundw
    case rel => exact ⟨i + 1, m + 3, _, by omega, by go_num, by go_num, HE.out, HO6.out, HG6.out⟩
    case measure => simp [intOf]; omega
end Go.Proofs.YtnhikdlhjdjmdaaGreat.Srs
/- The walk of FnExactGoodSeries. -/
namespace Go.Proofs.YtnhikdlhjdjmdaaGreat.Srs
open Go.RowKit
open Go.Proofs.YtnhikdlhjdjmdaaGreat.Lab (Lb HasL)
open Go.Proofs.YtnhikdlhjdjmdaaGreat.Smp (Sm HasS)

theorem SameTo.same {n : Nat} {qs d : List Q} (h : SameTo n qs d) : Same n qs d := fun i hi => (h i hi).1
theorem Same.trans {n : Nat} {qs d d' : List Q} (h1 : SameTo n qs d) (h2 : SameTo n qs d') : Same n d d' := fun i hi => (h2 i hi).1.trans (h1 i hi).1.symm
theorem getD_out {qs : List Q} {i : Nat} (h : ¬ i < qs.length) : qs.getD i q0 = q0 := by
  rw [List.getD_eq_getElem?_getD, List.getElem?_eq_none (by omega)]; rfl
theorem FitQ.same {n : Nat} {qs d : List Q} (h : FitQ qs) (h1 : d.length = n) (hs : Same n qs d) : FitQ d := by
  intro i
  by_cases hi : i < n
  · have e := hs i hi
    simp only [pl, Prod.mk.injEq] at e
    have := h i
    unfold Fq at this ⊢
    rw [e.1, e.2]; exact this
  · rw [getD_out (by omega)]; exact fit_q0
theorem SmlQ.same {n : Nat} {qs d : List Q} (h : SmlQ qs) (h0 : qs.length = n) (h1 : d.length = n) (hs : Same n qs d) : SmlQ d := by
  intro i hi
  have e := hs i (by omega)
  simp only [pl, Prod.mk.injEq] at e
  have := h i (by omega)
  rw [e.1, e.2]; exact this
end Go.Proofs.YtnhikdlhjdjmdaaGreat.Srs
/- The walk of FnExactGoodHead. -/
namespace Go.Proofs.YtnhikdlhjdjmdaaGreat.Srs
open Go.RowKit
open Go.Proofs.YtnhikdlhjdjmdaaGreat.Lab (Lb HasL)
open Go.Proofs.YtnhikdlhjdjmdaaGreat.Smp (Sm HasS)

theorem GoodQ.same {n : Nat} {qs d : List Q} (h0 : qs.length = n) (h1 : d.length = n) (hs : Same n qs d) : GoodQ d ↔ GoodQ qs := by
  have := gdQ_congr h0 h1 hs
  rw [← gdQ_iff, ← gdQ_iff, this]
theorem gdH_same {W L N : Int} {qs d : List Q} {a a' : Option Addr} {c c' : Nat} (h1 : d.length = qs.length) (hs : Same qs.length qs d) : gdH ⟨W, L, N, d, a', c'⟩ = gdH ⟨W, L, N, qs, a, c⟩ := by
  unfold gdH
  rw [decide_eq_decide]
  unfold GoodH
  simp only
  rw [h1, GoodQ.same rfl h1 hs]
  refine ⟨fun g => ⟨g.1, g.2.1, g.2.2.1, g.2.2.2.1, fun i hi => ?_⟩, fun g => ⟨g.1, g.2.1, g.2.2.1, g.2.2.2.1, fun i hi => ?_⟩⟩
  · rw [← hs i hi]; exact g.2.2.2.2 i hi
  · rw [hs i hi]; exact g.2.2.2.2 i hi
/-- The argument in its box, the copy that was handed in in another one. -/
structure Wx (w : World) (h h' : Hd) (B : Nat) (x : World) : Prop where
  one : x.heap[w.heap.size]? = some (.cells (clH h) 24)
  two : x.heap[B]? = some (.cells (clH h') 31)
  arg : HasQ x h.a h.qs
  has : HasQ x h'.a h'.qs
  bel : Below w.heap.size w x
theorem Wx.below {w : World} {h h' : Hd} {B : Nat} {x y : World} (g : Wx w h h' B x) (hb : Below x.heap.size x y) : Wx w h h' B y := ⟨kept g.one hb, kept g.two hb, g.arg.below hb, g.has.below hb, g.bel.trans (hb.mono g.bel.size)⟩
/-- The same, cell by cell. -/
abbrev WS (w : World) (h h' : Hd) (B : Nat) (x : World) : Prop :=
  x.cell? ⟨w.heap.size, 0, none⟩ = some (.int .i64 h.W) ∧ x.cell? ⟨w.heap.size, 1, none⟩ = some (.int .i64 h.L) ∧ x.cell? ⟨w.heap.size, 2, none⟩ = some (.int .i64 h.N) ∧ x.cell? ⟨w.heap.size, 3, none⟩ = some (.slice h.a h.qs.length h.c) ∧
  x.cell? ⟨B, 0, none⟩ = some (.int .i64 h'.W) ∧ x.cell? ⟨B, 1, none⟩ = some (.int .i64 h'.L) ∧ x.cell? ⟨B, 2, none⟩ = some (.int .i64 h'.N) ∧ x.cell? ⟨B, 3, none⟩ = some (.slice h'.a h'.qs.length h'.c) ∧ Wx w h h' B x
theorem Wx.cells {w : World} {h h' : Hd} {B : Nat} {x : World} (g : Wx w h h' B x) : WS w h h' B x := by
  obtain ⟨b0, b1, b2, b3⟩ := four g.one
  obtain ⟨c0, c1, c2, c3⟩ := four g.two
  exact ⟨b0, b1, b2, b3, c0, c1, c2, c3, g⟩
theorem WS.wx {w : World} {h h' : Hd} {B : Nat} {x : World} (g : WS w h h' B x) : Wx w h h' B x := g.2.2.2.2.2.2.2.2
theorem WS.below {w : World} {h h' : Hd} {B : Nat} {x y : World} (g : WS w h h' B x) (hb : Below x.heap.size x y) : WS w h h' B y := (g.wx.below hb).cells
theorem below_drew (w : World) : Below w.heap.size w w.drew := (Below.refl _ _).drew
/-- The argument in its box. -/
structure Wo (w : World) (h : Hd) (x : World) : Prop where
  one : x.heap[w.heap.size]? = some (.cells (clH h) 24)
  arg : HasQ x h.a h.qs
  bel : Below w.heap.size w x
theorem Wo.below {w : World} {h : Hd} {x y : World} (g : Wo w h x) (hb : Below x.heap.size x y) : Wo w h y := ⟨kept g.one hb, g.arg.below hb, g.bel.trans (hb.mono g.bel.size)⟩
theorem Wo.new {w : World} {h : Hd} (g : HasQ w h.a h.qs) : Wo w h (w.alloc (.cells (clH h) 24)) := by
  have hb := (Below.refl w.heap.size w).alloc (Nat.le_refl _) (.cells (clH h) 24)
  exact ⟨heap_alloc_new w _, g.below hb, hb⟩
theorem OwnQ.base {X Y g n : Nat} {qs : List Q} {w : World} (h : OwnQ X g n qs w) (hy : Y ≤ X) : OwnQ Y g n qs w := ⟨own_base h.row hy, ⟨h.kin.len, fun i hi => (h.kin.own i hi).base hy, h.kin.off, h.kin.dis⟩⟩
theorem FitH.same {h : Hd} {d : List Q} {a : Option Addr} {c : Nat} (hf : FitH h) (h1 : d.length = h.qs.length) (hs : Same h.qs.length h.qs d) : FitH ⟨h.W, h.L, h.N, d, a, c⟩ :=
  ⟨hf.1, hf.2.1, hf.2.2.1, hf.2.2.2.1.same h1 hs, by simp only; rw [h1]; exact hf.2.2.2.2⟩
end Go.Proofs.YtnhikdlhjdjmdaaGreat.Srs
/- The walk of FnExactSelectHead: what is kept from step to step. -/
namespace Go.Proofs.YtnhikdlhjdjmdaaGreat.Srs
open Go.RowKit
open Go.Proofs.YtnhikdlhjdjmdaaGreat.Lab (Lb HasL OfV GoodP)
open Go.Proofs.YtnhikdlhjdjmdaaGreat.Smp (Sm HasS cut)
open Go.Proofs.YtnhikdlhjdjmdaaGreat.Pat (Mt HasM goodM allM FitM)

theorem has_of (ls : List Lb) (x : ByteArray) : ∃ v, OfV ls x v := by
  by_cases h : ∃ k, k < ls.length ∧ (ls.getD k Lab.e0).1 = x
  · have key : ∀ n, (∃ k, k < n ∧ k < ls.length ∧ (ls.getD k Lab.e0).1 = x) → ∃ v, OfV ls x v := by
      intro n
      induction n with
      | zero => rintro ⟨k, h, _⟩; omega
      | succ n ih =>
        rintro ⟨k, h1, h2, h3⟩
        by_cases g : ∃ j, j < n ∧ j < ls.length ∧ (ls.getD j Lab.e0).1 = x
        · exact ih g
        · refine ⟨(ls.getD k Lab.e0).2, .inl ⟨k, h2, h3, rfl, fun i hi e => g ⟨i, by omega, by omega, e⟩⟩⟩
    obtain ⟨k, h1, h2⟩ := h
    exact key (k + 1) ⟨k, by omega, h1, h2⟩
  · exact ⟨ByteArray.empty, .inr ⟨fun k hk e => h ⟨k, hk, e⟩, rfl⟩⟩
theorem vals : ∃ val : Vf, ∀ ls x, OfV ls x (val ls x) := ⟨fun ls x => Classical.choose (has_of ls x), fun ls x => Classical.choose_spec (has_of ls x)⟩
theorem sl_same {val : Vf} {ms : List Mt} {x y : Int} {n : Nat} {qs d : List Q} (h : Same n qs d) : ∀ k, k ≤ n → sl val ms d x y k = sl val ms qs x y k := by
  intro k
  induction k with
  | zero => intro _; rfl
  | succ k ih => intro hk; rw [sl, sl, ih (by omega), h k (by omega)]
theorem slF_same {val : Vf} {ms : List Mt} {x y : Int} {W L N : Int} {qs d : List Q} {a a' : Option Addr} {c c' : Nat} (h1 : d.length = qs.length) (hs : Same qs.length qs d) : slF val ⟨W, L, N, d, a', c'⟩ ms x y = slF val ⟨W, L, N, qs, a, c⟩ ms x y := by
  unfold slF
  rw [gdH_same (a := a) (c := c) h1 hs]
  simp only
  rw [h1, sl_same hs _ (Nat.le_refl _)]
/-- How many labels and samples plain series have. -/
def totP (L : List Pl) : Nat := (L.map fun p => p.1.length + p.2.length).sum
theorem totP_append (A B : List Pl) : totP (A ++ B) = totP A + totP B := by simp [totP]
theorem tot_map : ∀ (R : List Q), tot R R.length = totP (R.map pl) := by
  intro R
  have key : ∀ k, k ≤ R.length → tot R k = totP ((R.take k).map pl) := by
    intro k
    induction k with
    | zero => intro _; rfl
    | succ k ih =>
      intro hk
      rw [tot, ih (by omega), List.take_succ_eq_append_getElem (by omega), List.map_append, totP_append]
      have e : R.getD k q0 = R[k] := by simp [show k < R.length by omega]
      rw [e]
      simp [totP, pl]
      omega
  rw [key R.length (Nat.le_refl _), List.take_length]
theorem sl_tot (val : Vf) (ms : List Mt) (qs : List Q) (x y : Int) : ∀ k, totP (sl val ms qs x y k) ≤ tot qs k := by
  intro k
  induction k with
  | zero => exact Nat.le_refl _
  | succ k ih =>
    rw [sl, totP_append, tot]
    have : totP (hit val ms x y (pl (qs.getD k q0))) ≤ (qs.getD k q0).l.length + (qs.getD k q0).s.length := by
      unfold hit
      split
      · simp [totP]
      · split
        · have := Smp.cut_len (qs.getD k q0).s x y
          simp [totP, pl]
          exact this
        · simp [totP]
    omega
theorem slF_tot (val : Vf) (h : Hd) (ms : List Mt) (x y : Int) : totP (slF val h ms x y) ≤ tot h.qs h.qs.length := by
  unfold slF
  split
  · exact sl_tot val ms h.qs x y _
  · exact Nat.zero_le _
theorem slF_len (val : Vf) (h : Hd) (ms : List Mt) (x y : Int) : (slF val h ms x y).length ≤ 200 := by
  unfold slF
  split
  · rename_i g
    simp only [Bool.and_eq_true] at g
    have h1 := (of_decide_eq_true g.1 : GoodH h).2.2.2.1.1
    have h2 := sl_len val ms h.qs x y h.qs.length
    omega
  · exact Nat.zero_le _
theorem same_map {R R' : List Q} {L : List Pl} (h : R.map pl = L) (h' : R'.map pl = L) : R'.length = R.length ∧ Same R.length R R' := by
  have hl : R'.length = R.length := by rw [sel_len h, sel_len h']
  refine ⟨hl, fun i hi => ?_⟩
  have e1 : (R.map pl)[i]? = (R'.map pl)[i]? := by rw [h, h']
  have g1 : R.getD i q0 = R[i] := by simp [hi]
  have g2 : R'.getD i q0 = R'[i]'(by omega) := by simp [show i < R'.length by omega]
  rw [g1, g2]
  simpa [hi, show i < R'.length by omega] using e1.symm
theorem OwnO.fr {X Y g n c : Nat} {a : Option Addr} {qs : List Q} {w x : World} (h : OwnO X a n c qs w) (hf : Fr g Y w x) (hY : Y ≤ X) : OwnO X a n c qs x := by
  refine ⟨h.len, ?_, fun i hi => ?_, h.nea, h.dis⟩
  · rcases h.cases with ⟨h1, h2, h3, h4⟩ | ⟨g', h1, h2⟩
    · subst h1 h2 h3 h4; exact World.ownsRow_nil _ _ _ _
    · have hr := h.row
      rw [h1] at hr ⊢
      exact own_fr hr hf (.inr (Nat.le_trans hY (hr.lt g' rfl).1))
  · have ho := h.own i hi
    exact ⟨ho.ha, ho.hb, own_fr ho.lab hf (.inr (Nat.le_trans hY ho.lo.1)), own_fr ho.smp hf (.inr (Nat.le_trans hY ho.lo.2)), ho.ne⟩
theorem OwnO.aside {X r n c : Nat} {a : Option Addr} {qs : List Q} {w x : World} (h : OwnO X a n c qs w) (hg : w.grownBy x (some r)) (hr : r < X) : OwnO X a n c qs x := by
  refine ⟨h.len, h.row.kept hg ?_, fun i hi => (h.own i hi).grown hg (by have := (h.own i hi).lo; omega) (by have := (h.own i hi).lo; omega), h.nea, h.dis⟩
  by_cases e : (Value.slice a n c).ownBlock = none
  · exact .inl e
  · refine .inr fun e2 => ?_
    have := (h.row.lt r e2).1
    omega
/-- The argument in its box, the matchers, the model's answer. -/
structure Kp (w : World) (h : Hd) (am : Option Addr) (ms : List Mt) (aW : Option Addr) (R : List Q) (x : World) : Prop where
  one : x.heap[w.heap.size]? = some (.cells (clH h) 24)
  arg : HasQ x h.a h.qs
  mat : HasM x am ms
  ans : HasQ x aW R
  bel : Below w.heap.size w x
theorem Kp.below {w : World} {h : Hd} {am : Option Addr} {ms : List Mt} {aW : Option Addr} {R : List Q} {x y : World} (g : Kp w h am ms aW R x) (hb : Below x.heap.size x y) : Kp w h am ms aW R y := ⟨kept g.one hb, g.arg.below hb, g.mat.below hb, g.ans.below hb, g.bel.trans (hb.mono g.bel.size)⟩
theorem fr_below {X Y B : Nat} {w x : World} (h : Fr X Y w x) (hb : B ≤ X) (hs : B ≤ w.heap.size) : Below B w x := ⟨h.os, h.tape, h.output, h.size, fun k hk => h.block k (by omega) (.inl (by omega))⟩
theorem grown_belowB {B r : Nat} {w x : World} (h : w.grownBy x (some r)) (hb : B ≤ r) (hs : B ≤ w.heap.size) : Below B w x := (Below.refl B w).grown h hs (fun k hk => by cases hk; exact hb)
/-- The series that came out, marked or held, nil or not. -/
theorem mark_ans {X n c k : Nat} {a : Option Addr} {R : List Q} {w : World} (h : OwnO X a n c R w) (hb : n ≤ 1048576) (hk : k + 2 * tot R n ≤ 100000000) :
    Calls Tryz.prog 15 #[.slice a n c, .int .i64 k] w fun e w' => e = .returned (.int .i64 ((k + 2 * tot R n : Nat) : Int)) ∧ OwnO X a n c (mqs k R) w' ∧ Below X w w' := by
  rcases h.cases with ⟨h1, h2, h3, h4⟩ | ⟨g, h1, h2⟩
  · subst h1 h2 h3 h4
    refine (Hdn.f15n k w).mono ?_
    rintro e w' ⟨rfl, rfl⟩
    exact ⟨rfl, OwnO.nil _ _, Below.refl _ _⟩
  · subst h1
    refine (f15g X g n c k R w hb hk (Nat.le_of_lt (Nat.lt_of_le_of_lt (h2.row.lt g rfl).1 (h2.row.lt g rfl).2)) h2).mono ?_
    rintro e w' ⟨rfl, ho, hbl⟩
    exact ⟨rfl, ⟨ho.len, ho.row, ho.own, fun g' e i hi => by cases e; exact ho.apt.nea i hi, ho.apt.dis⟩, hbl⟩
theorem held_ans {X n c k : Nat} {a : Option Addr} {R : List Q} {w : World} (hn : R.length = n) (h : OwnO X a n c (mqs k R) w) (hb : n ≤ 1048576) (hk : k + 2 * tot R n ≤ 100000000) :
    Calls Tryz.prog 16 #[.slice a n c, .int .i64 k] w fun e w' => e = .returned (.int .i64 ((k + 2 * tot R n : Nat) : Int)) ∧ Below w.heap.size w w' := by
  rcases h.cases with ⟨h1, h2, h3, h4⟩ | ⟨g, h1, h2⟩
  · subst h1 h2 h3
    refine (Hdn.f16n k w).mono ?_
    rintro e w' ⟨rfl, rfl⟩
    exact ⟨rfl, Below.refl _ _⟩
  · subst h1
    exact f16 X g n c k R w hn hb hk h2
end Go.Proofs.YtnhikdlhjdjmdaaGreat.Srs
/- The walk of FnExactSelectHead. -/
namespace Go.Proofs.YtnhikdlhjdjmdaaGreat.Srs
open Go.RowKit
open Go.Proofs.YtnhikdlhjdjmdaaGreat.Lab (Lb HasL OfV GoodP)
open Go.Proofs.YtnhikdlhjdjmdaaGreat.Smp (Sm HasS cut)
open Go.Proofs.YtnhikdlhjdjmdaaGreat.Pat (Mt HasM goodM allM FitM)

/-- Both heads in their boxes; nothing of what was there is written. -/
abbrev WT (w : World) (h h' : Hd) (B : Nat) (z x : World) : Prop := WS w h h' B x ∧ Below z.heap.size z x
theorem WT.below {w : World} {h h' : Hd} {B : Nat} {z x y : World} (g : WT w h h' B z x) (hb : Below x.heap.size x y) : WT w h h' B z y := ⟨WS.below g.1 hb, g.2.trans (hb.mono g.2.size)⟩
set_option maxHeartbeats 8000000 in
theorem walkSel (h : Hd) (am : Option Addr) (nm cm : Nat) (ms : List Mt) (x y : Int) (w : World) (hr : HasQ w h.a h.qs) (hf : FitH h) (hnm : ms.length = nm) (hmm : nm ≤ maxLen) (hm : HasM w am ms) (hfm : FitM ms) :
    Calls Tryz.prog 3 #[agH h, .slice am nm cm, .int .i64 x, .int .i64 y] w fun e w' => e = .returned (.bool true) ∧ Below w.heap.size w w' := by
  obtain ⟨val, hv⟩ := vals
  have HV := hid hv
  have HNM := hid hnm
  have HMM := hid hmm
  have HFM := hid hfm
  have H0 := hid (Wo.new hr)
  have HM0 := hid (hm.below H0.out.bel)
  have HF := hid hf
  clear hr hf hnm hmm hm hfm hv
  obtain ⟨W, L, N, qs, a, c⟩ := h
  go_enter Tryz.func3, Tryz.ntmps3
  go_wp2_with fail
  refine (f4 ⟨W, L, N, qs, a, c⟩ _ H0.out.arg HF.out).mono ?_
  rintro e w1 ⟨y1, rfl, y0, hy, hb1⟩
  have H1 := hid (H0.out.below hb1)
  have HM1 := hid (HM0.out.below hb1)
  clear hb1 H0 HM0
  by_cases g0 : y1 < 0
  · go_wp2
    go_ret
    exact ⟨rfl, H1.out.bel⟩
  have hy' := hy (by omega)
  simp only at hy'
  have HZ : Hid (SmlQ qs) := sml_tot (by omega)
  have HT : Hid (tot qs qs.length ≤ 1048576) := by unfold Hid; omega
  have hn : qs.length ≤ 1048576 := by omega
  have hy1 : y1 ≤ 1048576 := by omega
  clear hy hy'
  go_wp2_with fail
  refine (f5t am nm cm y1 ms _ (by omega) hy1 HNM.out HM1.out HFM.out HMM.out).mono ?_
  rintro e w2 ⟨y2, rfl, y20, hy2, hb2⟩
  have H2 := hid (H1.out.below hb2)
  have HM2 := hid (HM1.out.below hb2)
  clear hb2 H1 HM1
  by_cases g1 : y2 < 0
  · go_wp2
    go_ret
    exact ⟨rfl, H2.out.bel⟩
  have hnm := hy2 (by omega)
  clear hy2
  obtain ⟨b0, b1, b2, b3⟩ := four H2.out.one
  -- the model's answer
  go_wp2_with fail
  refine (f7 ⟨W, L, N, qs, a, c⟩ _ H2.out.arg hn HZ.out).mono ?_
  rintro e w3 ⟨d3, g3, rfl, l3, hg3, hs3, ho3, hb3⟩
  have H3 := hid (H2.out.below hb3)
  have HM3 := hid (HM2.out.below hb3)
  have HF3 := hid (HF.out.same (a := some ⟨g3, 0, none⟩) (c := qs.length) l3 hs3.same)
  have HZ3 := hid (HZ.out.same rfl l3 hs3.same)
  have HE3 := hid (slF_same (val := val) (ms := ms) (x := x) (y := y) (W := W) (L := L) (N := N) (a := a) (c := c) (a' := some ⟨g3, 0, none⟩) (c' := qs.length) l3 hs3.same)
  have HO3 := hid ho3.has
  clear hb3 hs3 ho3 hg3 l3 H2 HM2 b0 b1 b2 b3
  go_wp2_with fail
  refine (Pat.f8 am nm cm ms _ HNM.out hnm HM3.out).mono ?_
  rintro e w4 ⟨rfl, ho4, hb4⟩
  have H4 := hid (H3.out.below hb4)
  have HM4 := hid (HM3.out.below hb4)
  have HO4 := hid (HO3.out.below hb4)
  have HP4 := hid (Pat.HasM.own ho4)
  clear hb4 ho4 H3 HM3 HO3
  go_wp2_with fail
  refine (f6 val HV.out ⟨W, L, N, d3, some ⟨g3, 0, none⟩, qs.length⟩ _ nm nm ms x y _ HNM.out HO4.out HF3.out HZ3.out HP4.out HFM.out HMM.out).mono ?_
  rw [HE3.out]
  rintro e w5 ⟨aW, mW, cW, R5, rfl, ho5, hr5, hb5⟩
  have HK5 : Hid (Kp w ⟨W, L, N, qs, a, c⟩ am ms aW R5 w5) := ⟨kept H4.out.one hb5, H4.out.arg.below hb5, HM4.out.below hb5, ho5.has, H4.out.bel.trans (hb5.mono H4.out.bel.size)⟩
  have HR5 := hid hr5
  have HR5b := hid hr5
  have HmW := hid ho5.len
  clear hb5 ho5 hr5 H4 HM4 HO4 HP4 HF3 HZ3 HE3
  -- the program's
  obtain ⟨b0, b1, b2, b3⟩ := four HK5.out.one
  go_wp2_with fail
  refine (f7 ⟨W, L, N, qs, a, c⟩ _ HK5.out.arg hn HZ.out).mono ?_
  rintro e w6 ⟨d6, g6, rfl, l6, hg6, hs6, ho6, hb6⟩
  have HB6 := hid hb6
  have HF6 := hid (HF.out.same (a := some ⟨g6, 0, none⟩) (c := qs.length) l6 hs6.same)
  have HZ6 := hid (HZ.out.same rfl l6 hs6.same)
  have HE6 := hid (slF_same (val := val) (ms := ms) (x := x) (y := y) (W := W) (L := L) (N := N) (a := a) (c := c) (a' := some ⟨g6, 0, none⟩) (c' := qs.length) l6 hs6.same)
  have HS6 := hid hs6
  have HL6 := hid l6
  have HG6 := hid hg6
  have HY6 : Hid (∀ i, i < d6.length → blk (d6.getD i q0).b < w6.heap.size) := fun i hi => (ho6.kin.own i (by rw [← ho6.kin.len]; exact hi)).lts
  have HT6 : Hid (tot d6 d6.length = tot qs qs.length) := by
    unfold Hid
    rw [l6]
    have key : ∀ k, k ≤ qs.length → tot d6 k = tot qs k := by
      intro k
      induction k with
      | zero => intro _; rfl
      | succ k ih =>
        intro hk
        have e := hs6.same k (show k < qs.length by omega)
        simp only [pl, Prod.mk.injEq] at e
        simp only [tot]
        rw [ih (by omega), e.1, e.2]
    exact key _ (Nat.le_refl _)
  obtain ⟨W6, hW6⟩ : ∃ X, X = w6.alloc (.cells (clH ⟨W, L, N, d6, some ⟨g6, 0, none⟩, qs.length⟩) 31) := ⟨_, rfl⟩
  have HA6 : Hid (Below w6.heap.size w6 W6 ∧ W6.heap[w6.heap.size]? = some (.cells (clH ⟨W, L, N, d6, some ⟨g6, 0, none⟩, qs.length⟩) 31) ∧ W6.heap.size = w6.heap.size + 1) := by
    rw [hW6]; exact ⟨(Below.refl _ _).alloc (Nat.le_refl _) _, heap_alloc_new w6 _, by simp⟩
  have HO6 := hid (ho6.below HA6.out.1)
  have HBW := hid (HB6.out.trans (HA6.out.1.mono HB6.out.size))
  clear ho6 hs6 hb6 hg6 l6 b0 b1 b2 b3
  have HM6 := hid (HK5.out.mat.below HBW.out)
  go_wp2_with fail
  simp only [clH] at hW6
  rw [← hW6]
  refine (Pat.f8 am nm cm ms _ HNM.out hnm HM6.out).mono ?_
  rintro e w7 ⟨rfl, ho7, hb7⟩
  have HB7 := hid (HBW.out.trans (hb7.mono HBW.out.size))
  have HX7 := hid (kept HA6.out.2.1 hb7)
  have HO7 := hid (HO6.out.below hb7)
  have HP7 := hid ho7
  have HSZ : Hid (W6.heap.size = w6.heap.size + 1 ∧ w5.heap.size ≤ w6.heap.size ∧ W6.heap.size < w7.heap.size) := ⟨HA6.out.2.2, HB6.out.size, (ho7.lt W6.heap.size rfl).2⟩
  clear ho7 hb7 hW6 HA6 HO6 HM6 HBW HB6
  generalize W6.heap.size = gm at *
  generalize w6.heap.size = Y at *
  obtain ⟨c0, c1, c2, c3⟩ := four HX7.out
  go_wp2_with fail
  refine (f9 val HV.out ⟨W, L, N, d6, some ⟨g6, 0, none⟩, qs.length⟩ _ nm nm ms x y _ HNM.out HO7.out.has HF6.out HZ6.out (Pat.HasM.own HP7.out) HFM.out HMM.out (fun i hi => by have := (HS6.out i (by rw [← HL6.out]; exact hi)).2.2; simp only at this ⊢; omega)).mono ?_
  rw [HE6.out]
  rintro e w8 ⟨aG, mG, cG, R8, rfl, ho8, hr8, hb8⟩
  have HB8 := hid (HB7.out.trans (hb8.mono HB7.out.size))
  have HX8 := hid (kept HX7.out hb8)
  have HO8 := hid (HO7.out.below hb8)
  have HP8 := hid (own_below HP7.out hb8)
  have HG8 := hid ho8
  have HXX : Hid (gm < w7.heap.size ∧ w7.heap.size ≤ w8.heap.size) := ⟨HSZ.out.2.2, hb8.size⟩
  have HSm := hid (same_map hr8 HR5.out)
  have hlG := hid ho8.len
  have HTG : Hid (tot R8 R8.length ≤ 1048576) := by
    unfold Hid
    rw [tot_map, hr8]
    exact Nat.le_trans (slF_tot val ⟨W, L, N, qs, a, c⟩ ms x y) HT.out
  have HLG : Hid (R8.length ≤ 200) := by
    unfold Hid
    rw [sel_len hr8]
    exact slF_len val ⟨W, L, N, qs, a, c⟩ ms x y
  have HZG : Hid (SmlQ R8) := sml_tot HTG.out
  have hmm : mW = mG := by rw [← HmW.out, ← hlG.out]; exact HSm.out.1
  subst hmm
  clear ho8 hr8 hb8 HX7 HO7 HP7 HB7 c0 c1 c2 c3 HE6 HF6 HR5
  generalize w7.heap.size = X at *
  -- alike
  have HK8 := hid (HK5.out.below HB8.out)
  go_wp2_with fail
  refine (f10 aG aW mW cG cW R8 R5 _ hlG.out HmW.out (by have := HLG.out; have := hlG.out; omega) HG8.out.has HK8.out.ans (by rw [← hlG.out]; exact HSm.out.2) HZG.out).mono ?_
  rintro e w9 ⟨rfl, hb9⟩
  have HB9 := hid (HB8.out.trans (hb9.mono HB8.out.size))
  have HX9 := hid (kept HX8.out hb9)
  have HO9 := hid (HO8.out.below hb9)
  have HP9 := hid (own_below HP8.out hb9)
  have HG9 := hid (HG8.out.below hb9)
  have HK9 := hid (HK8.out.below hb9)
  clear hb9 HB8 HX8 HO8 HP8 HG8 HK8
  -- the head is as it was
  have HWx : Hid (Wx w ⟨W, L, N, qs, a, c⟩ ⟨W, L, N, d6, some ⟨g6, 0, none⟩, qs.length⟩ Y w9) := ⟨HK9.out.one, HX9.out, HK9.out.arg, HO9.out.has, HK9.out.bel⟩
  go_wp2_with fail
  go_region_held3 (fun x => WT w ⟨W, L, N, qs, a, c⟩ ⟨W, L, N, d6, some ⟨g6, 0, none⟩, qs.length⟩ Y w9 x) (first | exact ⟨(HWx.out.below (below_drew _)).cells, below_drew _⟩ | assumption) (first | (go_at_call 7; refine (f7 ⟨W, L, N, qs, a, c⟩ _ (Wx.arg (WS.wx (And.left (by assumption)))) hn HZ.out).mono ?_; rintro e w10 ⟨d10, g10, rfl, l10, _, hs10, ho10, hb10⟩; have hh10 := ho10.has; clear ho10; have hq10 := WT.below (by assumption) hb10; clear hb10) | (go_at_call 11; refine (f11 ⟨W, L, N, d6, some ⟨g6, 0, none⟩, qs.length⟩ ⟨W, L, N, d10, some ⟨g10, 0, none⟩, qs.length⟩ _ rfl rfl rfl (l10.trans HL6.out.symm) (by rw [HL6.out]; exact hn) (Wx.has (WS.wx (And.left hq10))) hh10 (by rw [HL6.out]; exact Same.trans HS6.out hs10) HZ6.out).mono ?_; rintro e w11 ⟨rfl, hb11⟩; have hq11 := WT.below hq10 hb11; clear hb11))
  have HB11 := hid (HB9.out.trans (hq11.2.mono HB9.out.size))
  have HX11 := hid (kept HX9.out hq11.2)
  have HO11 := hid (HO9.out.below hq11.2)
  have HP11 := hid (own_below HP9.out hq11.2)
  have HG11 := hid (HG9.out.below hq11.2)
  have HK11 := hid (HK9.out.below hq11.2)
  clear hq10 hq11 hs10 hh10 l10 HWx HB9 HX9 HO9 HP9 HG9 HK9
  -- the matchers are as they were
  go_wp2_with fail
  refine (Pat.f8 am nm cm ms _ HNM.out hnm HK11.out.mat).mono ?_
  rintro e w12 ⟨rfl, ho12, hb12⟩
  have HB12 := hid (HB11.out.trans (hb12.mono HB11.out.size))
  have HX12 := hid (kept HX11.out hb12)
  have HO12 := hid (HO11.out.below hb12)
  have HP12 := hid (own_below HP11.out hb12)
  have HG12 := hid (HG11.out.below hb12)
  have HQ12 := hid (Pat.HasM.own ho12)
  clear hb12 ho12 HB11 HX11 HO11 HP11 HG11 HK11
  go_wp2_with fail
  refine (Pat.f12 _ _ nm nm nm ms _ HNM.out hnm (Pat.HasM.own HP12.out) HQ12.out).mono ?_
  rintro e w13 ⟨rfl, hb13⟩
  have HB13 := hid (HB12.out.trans (hb13.mono HB12.out.size))
  have HX13 := hid (kept HX12.out hb13)
  have HO13 := hid (HO12.out.below hb13)
  have HP13 := hid (own_below HP12.out hb13)
  have HG13 := hid (HG12.out.below hb13)
  clear hb13 HB12 HX12 HO12 HP12 HG12 HQ12
  obtain ⟨c0, c1, c2, c3⟩ := four HX13.out
  -- what came in is marked
  go_wp2_with fail
  refine (f13 g6 Y 1 ⟨W, L, N, d6, some ⟨g6, 0, none⟩, qs.length⟩ g6 _ rfl HL6.out.symm (by simp only; rw [HL6.out]; exact hn) (by simp only; rw [HT6.out]; have := HT.out; omega) (by simp only; rw [HL6.out]; exact HO13.out) HY6.out).mono ?_
  rintro e w14 ⟨rfl, hf14⟩
  have HB14 := hid (HB13.out.trans (fr_below hf14 HG6.out HB13.out.size))
  have HP14 := hid (own_fr HP13.out hf14 (.inr (by have := HSZ.out; omega)))
  have HG14 := hid (HG13.out.fr hf14 (by have := HSZ.out; have := HXX.out; omega))
  clear hf14 c0 c1 c2 c3 HB13 HX13 HO13 HP13 HG13
  obtain ⟨kk, hkk⟩ : ∃ kk, kk = 1 + 2 * tot d6 d6.length := ⟨_, rfl⟩
  have hkb : kk ≤ 3000000 := by have := HT6.out; have := HT.out; omega
  rw [← hkk]
  clear hkk
  go_wp2_with fail
  refine (f14 gm nm gm kk _ _ hnm (by omega) HP14.out).mono ?_
  rintro e w15 ⟨rfl, hg15⟩
  have HB15 := hid (HB14.out.trans (grown_belowB hg15 (by have := HSZ.out; omega) HB14.out.size))
  have HG15 := hid (HG14.out.aside hg15 HXX.out.1)
  clear hg15 HB14 HP14 HG14
  obtain ⟨k2, hk2⟩ : ∃ k2 : Nat, k2 = kk + 3 * nm := ⟨_, rfl⟩
  rw [← hk2]
  clear hk2
  have hk3 : ¬ (k2 : Int) < 0 := by omega
  have HK15 := hid (HK5.out.below HB15.out)
  have hb200 : mW ≤ 1048576 := by have := HLG.out; have := hlG.out; omega
  go_wp2_with fail
  refine (f10 aG aW mW cG cW R8 R5 _ hlG.out HmW.out hb200 HG15.out.has HK15.out.ans (by rw [← hlG.out]; exact HSm.out.2) HZG.out).mono ?_
  rintro e w16 ⟨rfl, hb16⟩
  have HB16 := hid (HB15.out.trans (hb16.mono HB15.out.size))
  have HG16 := hid (HG15.out.below hb16)
  clear hb16 HB15 HG15 HK15
  -- what came out is marked, and held
  have HTm : Hid (1 + 2 * tot R8 mW ≤ 100000000) := by unfold Hid; rw [← hlG.out]; have := HTG.out; omega
  go_wp2_with fail
  obtain ⟨k4, hk4⟩ : ∃ k4 : Nat, k4 = 1 + 2 * tot R8 mW := ⟨_, rfl⟩
  have HK4 := hid hk4
  clear hk4
  have hk5 : ¬ (k4 : Int) < 0 := by omega
  refine (mark_ans HG16.out hb200 (k := 1) HTm.out).mono ?_
  rw [← HK4.out]
  rintro e w17 ⟨rfl, ho17, hb17⟩
  have HB17 := hid (HB16.out.trans (hb17.mono (by have := HSZ.out; have := HXX.out; omega)))
  have HG17 := hid ho17
  clear ho17 hb17 HB16 HG16
  go_wp2_with fail
  refine (held_ans hlG.out HG17.out hb200 (k := 1) HTm.out).mono ?_
  rw [← HK4.out]
  rintro e w18 ⟨rfl, hb18⟩
  have HB18 := hid (HB17.out.trans (hb18.mono HB17.out.size))
  have HG18 := hid (HG17.out.below hb18)
  clear hb18 HB17 HG17
  -- once more
  have HK18 := hid (HK5.out.below HB18.out)
  obtain ⟨b0, b1, b2, b3⟩ := four HK18.out.one
  go_wp2_with fail
  refine (f7 ⟨W, L, N, qs, a, c⟩ _ HK18.out.arg hn HZ.out).mono ?_
  rintro e w19 ⟨d19, g19, rfl, l19, _, hs19, ho19, hb19⟩
  have HB19 := hid (HB18.out.trans (hb19.mono HB18.out.size))
  have HG19 := hid (HG18.out.below hb19)
  have HF19 := hid (HF.out.same (a := some ⟨g19, 0, none⟩) (c := qs.length) l19 hs19.same)
  have HZ19 := hid (HZ.out.same rfl l19 hs19.same)
  have HE19 := hid (slF_same (val := val) (ms := ms) (x := x) (y := y) (W := W) (L := L) (N := N) (a := a) (c := c) (a' := some ⟨g19, 0, none⟩) (c' := qs.length) l19 hs19.same)
  have HS19 := hid hs19
  have HL19 := hid l19
  have HO19 := hid ho19.has
  clear hb19 hs19 ho19 l19 b0 b1 b2 b3 HB18 HG18 HK18
  have HK19 := hid (HK5.out.below HB19.out)
  go_wp2_with fail
  refine (Pat.f8 am nm cm ms _ HNM.out hnm HK19.out.mat).mono ?_
  rintro e w20 ⟨rfl, ho20, hb20⟩
  have HB20 := hid (HB19.out.trans (hb20.mono HB19.out.size))
  have HG20 := hid (HG19.out.below hb20)
  have HO20 := hid (HO19.out.below hb20)
  have HP20 := hid (Pat.HasM.own ho20)
  clear hb20 ho20 HB19 HG19 HO19 HK19
  go_wp2_with fail
  refine (f9 val HV.out ⟨W, L, N, d19, some ⟨g19, 0, none⟩, qs.length⟩ _ nm nm ms x y _ HNM.out HO20.out HF19.out HZ19.out HP20.out HFM.out HMM.out (fun i hi => by have := (HS19.out i (by rw [← HL19.out]; exact hi)).2.2; simp only at this ⊢; omega)).mono ?_
  rw [HE19.out, ← HR5b.out]
  rintro e w21 ⟨aH, mH, cH, R21, rfl, ho21, hr21, hb21⟩
  have HB21 := hid (HB20.out.trans (hb21.mono HB20.out.size))
  have HG21 := hid (HG20.out.below hb21)
  have HH21 := hid ho21.has
  have hlH := hid ho21.len
  have HSm2 := hid (same_map hr21 (rfl : R5.map pl = R5.map pl))
  have HZH : Hid (SmlQ R21) := by
    unfold Hid
    refine sml_tot ?_
    rw [tot_map, hr21, HR5b.out]
    exact Nat.le_trans (slF_tot val ⟨W, L, N, qs, a, c⟩ ms x y) HT.out
  have hmH : mW = mH := by rw [← HmW.out, ← hlH.out]; exact HSm2.out.1
  subst hmH
  clear ho21 hr21 hb21 HB20 HG20 HO20 HP20 HF19 HZ19 HE19
  have HK21 := hid (HK5.out.below HB21.out)
  go_wp2_with fail
  refine (f10 aH aW mW cH cW R21 R5 _ hlH.out HmW.out hb200 HH21.out HK21.out.ans (by rw [← hlH.out]; exact HSm2.out.2) HZH.out).mono ?_
  rintro e w22 ⟨rfl, hb22⟩
  have HB22 := hid (HB21.out.trans (hb22.mono HB21.out.size))
  have HG22 := hid (HG21.out.below hb22)
  clear hb22 HB21 HG21 HK21 HH21
  go_wp2_with fail
  refine (held_ans hlG.out HG22.out hb200 (k := 1) HTm.out).mono ?_
  rw [← HK4.out]
  rintro e w23 ⟨rfl, hb23⟩
  have HB23 := hid (HB22.out.trans (hb23.mono HB22.out.size))
  have HEnd := hid (HK5.out.below HB23.out).bel
  clear hb23 HB22 HG22
  go_wp2
  go_ret
  exact ⟨rfl, HEnd.out⟩
end Go.Proofs.YtnhikdlhjdjmdaaGreat.Srs
