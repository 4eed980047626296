/- Whether lists of series are good: l7Named, areSeriesLabels, both GoodSeries. -/
import Derived.Test.YtaekngadfajcaaaGreatRXd
namespace Go.Proofs.YtaekngadfajcaaaGreat.Srs
open Go.RowKit
open Go.Proofs.YtaekngadfajcaaaGreat.Lab (Lb HasL OfV goodL GoodP cmpList)
open Go.Proofs.YtaekngadfajcaaaGreat.Smp (Sm HasS goodS ret_bool)

abbrev nmS : ByteArray := ⟨#[95, 110, 97, 109, 101]⟩
/-- Good labels, one of them under _name. -/
def Named (ls : List Lb) : Prop := goodL ls = true ∧ ¬ OfV ls nmS ByteArray.empty
instance (ls : List Lb) (x v : ByteArray) : Decidable (OfV ls x v) := by unfold OfV; infer_instance
instance (ls : List Lb) : Decidable (Named ls) := by unfold Named; infer_instance
def nmd (ls : List Lb) : Bool := decide (Named ls)
theorem nmd_yes {ls : List Lb} (h : Named ls) : nmd ls = true := decide_eq_true h
theorem nmd_no {ls : List Lb} (h : ¬ Named ls) : nmd ls = false := decide_eq_false h
theorem nmd_iff {ls : List Lb} : nmd ls = true ↔ Named ls := ⟨fun h => of_decide_eq_true h, nmd_yes⟩
theorem good_goodP {ls : List Lb} (h : goodL ls = true) : GoodP ls := of_decide_eq_true h
theorem empty_iff {v : ByteArray} : v.toList.isEmpty = true ↔ v = ByteArray.empty := by
  rw [ByteArray.toList_eq]
  constructor
  · intro h
    have h1 : v.data.toList = [] := by simpa using h
    exact ByteArray.ext (Array.toList_inj.1 h1)
  · rintro rfl; rfl
theorem named_val {ls : List Lb} {v : ByteArray} (h1 : goodL ls = true) (hv : OfV ls nmS v) : nmd ls = !v.toList.isEmpty := by
  cases q : v.toList.isEmpty
  · refine nmd_yes ⟨h1, fun h => ?_⟩
    rw [empty_iff.2 (hv.uniq h)] at q
    cases q
  · refine nmd_no fun h => h.2 ?_
    rw [← empty_iff.1 q]; exact hv
set_option maxHeartbeats 1000000 in
theorem f37 (a : Option Addr) (c : Nat) (ls : List Lb) (w : World) (hr : HasL w a ls) (hf : Lab.Fit ls) (hn : ls.length ≤ maxLen) :
    Calls Tryz.prog 37 #[.slice a ls.length c] w fun e w' => e = .returned (.bool (nmd ls)) ∧ Below w.heap.size w w' := by
  have HR := hid hr
  have HF := hid hf
  have HM := hid hn
  clear hr hf hn
  go_enter Tryz.func37, Tryz.ntmps37
  go_wp2_with fail
  refine (Lab.f63 a ls.length c ls _ rfl HM.out HR.out HF.out).mono ?_
  rintro e w1 ⟨rfl, hb1⟩
  have HB1 := hid hb1
  clear hb1
  cases hg : goodL ls
  · have HG := hid hg
    go_wp2
    go_ret
    exact ⟨ret_bool (nmd_no fun h => by have := h.1; rw [HG.out] at this; cases this).symm, HB1.out⟩
  have HG := hid hg
  go_wp2_with fail
  refine (Lab.f64 a ls.length c ls _ _ rfl (good_goodP HG.out).1 (HR.out.below HB1.out)).mono ?_
  rintro e w2 ⟨v, hv, rfl, hb2⟩
  have HB2 := hid (HB1.out.trans (hb2.mono HB1.out.size))
  have HV := hid (named_val HG.out hv)
  clear hv hb2
  cases q : v.toList.isEmpty
  · have HQ := hid q
    go_wp2
    go_ret
    exact ⟨ret_bool (by rw [HV.out, HQ.out]; rfl), HB2.out⟩
  · have HQ := hid q
    go_wp2
    go_ret
    exact ⟨ret_bool (by rw [HV.out, HQ.out]; rfl), HB2.out⟩
set_option maxHeartbeats 1000000 in
theorem f48 (a : Option Addr) (c : Nat) (ls : List Lb) (w : World) (hr : HasL w a ls) (hf : Lab.Fit ls) (hn : ls.length ≤ maxLen) :
    Calls Tryz.prog 48 #[.slice a ls.length c] w fun e w' => e = .returned (.bool (nmd ls)) ∧ Below w.heap.size w w' := by
  have HR := hid hr
  have HF := hid hf
  have HM := hid hn
  clear hr hf hn
  go_enter Tryz.func48, Tryz.ntmps48
  go_wp2_with fail
  refine (Lab.f75 a ls.length c ls _ rfl HM.out HR.out HF.out).mono ?_
  rintro e w1 ⟨rfl, hb1⟩
  have HB1 := hid hb1
  clear hb1
  cases hg : goodL ls
  · have HG := hid hg
    go_wp2
    go_ret
    exact ⟨ret_bool (nmd_no fun h => by have := h.1; rw [HG.out] at this; cases this).symm, HB1.out⟩
  have HG := hid hg
  go_wp2_with fail
  refine (Lab.f76 a ls.length c ls _ _ rfl (good_goodP HG.out) (HR.out.below HB1.out)).mono ?_
  rintro e w2 ⟨v, hv, rfl, hb2⟩
  have HB2 := hid (HB1.out.trans (hb2.mono HB1.out.size))
  have HV := hid (named_val HG.out hv)
  clear hv hb2
  cases q : v.toList.isEmpty
  · have HQ := hid q
    go_wp2
    go_ret
    exact ⟨ret_bool (by rw [HV.out, HQ.out]; rfl), HB2.out⟩
  · have HQ := hid q
    go_wp2
    go_ret
    exact ⟨ret_bool (by rw [HV.out, HQ.out]; rfl), HB2.out⟩

/-- A good series by itself. -/
def OkQ (p : Pl) : Prop := Named p.1 ∧ goodS p.2 = true ∧ p.2 ≠ []
def OkAt (qs : List Q) (i : Nat) : Prop := OkQ (pl (qs.getD i q0)) ∧ (0 < i → cmpList (pl (qs.getD (i - 1) q0)).1 (pl (qs.getD i q0)).1 < 0)
def GoodQ (qs : List Q) : Prop := qs.length ≤ 200 ∧ ∀ i, i < qs.length → OkAt qs i
instance (p : Pl) : Decidable (OkQ p) := by unfold OkQ; infer_instance
instance (qs : List Q) (i : Nat) : Decidable (OkAt qs i) := by unfold OkAt; infer_instance
instance (qs : List Q) : Decidable (GoodQ qs) := by unfold GoodQ; infer_instance
/-- Whether a list of series is good. -/
def gdQ (qs : List Q) : Bool := decide (GoodQ qs)
theorem gdQ_yes {qs : List Q} (h : GoodQ qs) : gdQ qs = true := decide_eq_true h
theorem gdQ_no {qs : List Q} (h : ¬ GoodQ qs) : gdQ qs = false := decide_eq_false h
theorem gdQ_iff {qs : List Q} : gdQ qs = true ↔ GoodQ qs := ⟨fun h => of_decide_eq_true h, gdQ_yes⟩
theorem OkAt.congr {n i : Nat} {qs qs' : List Q} (h : Same n qs qs') (hi : i < n) : OkAt qs' i ↔ OkAt qs i := by
  unfold OkAt
  rw [h i hi]
  by_cases h0 : 0 < i
  · rw [h (i - 1) (by omega)]
  · simp only [h0, false_implies]
theorem gdQ_congr {n : Nat} {qs qs' : List Q} (h1 : qs.length = n) (h2 : qs'.length = n) (h : Same n qs qs') : gdQ qs' = gdQ qs := by
  have : GoodQ qs' ↔ GoodQ qs := by
    unfold GoodQ
    rw [h1, h2]
    exact ⟨fun g => ⟨g.1, fun i hi => (OkAt.congr h hi).1 (g.2 i hi)⟩, fun g => ⟨g.1, fun i hi => (OkAt.congr h hi).2 (g.2 i hi)⟩⟩
  unfold gdQ
  rw [decide_eq_decide]; exact this
/-- A series in its box, the one ahead of it, and what they hold. -/
abbrev GG (w : World) (q p : Q) (b o B : Nat) (x : World) : Prop :=
  x.cell? ⟨B, 0, none⟩ = some (.slice q.a q.l.length q.c) ∧ x.cell? ⟨B, 1, none⟩ = some (.slice q.b q.s.length q.d) ∧
  x.cell? ⟨b, o, none⟩ = some (.slice p.a p.l.length p.c) ∧
  HasL x q.a q.l ∧ HasS x q.b q.s ∧ HasL x p.a p.l ∧ B < x.heap.size ∧ b < x.heap.size ∧ Below w.heap.size w x
theorem GG.below {w : World} {q p : Q} {b o B : Nat} {x y : World} (h : GG w q p b o B x) (hb : Below x.heap.size x y) : GG w q p b o B y := by
  obtain ⟨h0, h1, k0, t1, t2, t3, l1, l2, hw⟩ := h
  exact ⟨(hb.cell (p := ⟨B, 0, none⟩) l1).trans h0, (hb.cell (p := ⟨B, 1, none⟩) l1).trans h1, (hb.cell (p := ⟨b, o, none⟩) l2).trans k0, t1.below hb, t2.below hb, t3.below hb, Nat.lt_of_lt_of_le l1 hb.size, Nat.lt_of_lt_of_le l2 hb.size, hw.trans (hb.mono hw.size)⟩
theorem GG.drew {w : World} {q p : Q} {b o B : Nat} {x : World} (h : GG w q p b o B x) : GG w q p b o B x.drew := h.below (Below.refl _ x).drew
theorem GG.drewN {w : World} {q p : Q} {b o B : Nat} {x : World} (h : GG w q p b o B x) (k : Nat) : GG w q p b o B (x.drewN k) := h.below (Lab.below_drewN (Below.refl _ x) k)
theorem GG.t1 {w : World} {q p : Q} {b o B : Nat} {x : World} (h : GG w q p b o B x) : HasL x q.a q.l := h.2.2.2.1
theorem GG.t2 {w : World} {q p : Q} {b o B : Nat} {x : World} (h : GG w q p b o B x) : HasS x q.b q.s := h.2.2.2.2.1
theorem GG.t3 {w : World} {q p : Q} {b o B : Nat} {x : World} (h : GG w q p b o B x) : HasL x p.a p.l := h.2.2.2.2.2.1
theorem GG.bel {w : World} {q p : Q} {b o B : Nat} {x : World} (h : GG w q p b o B x) : Below w.heap.size w x := h.2.2.2.2.2.2.2.2
theorem box_gg {w : World} {q p : Q} {b o : Nat} {x : World} (h0 : x.cell? ⟨b, o, none⟩ = some (.slice p.a p.l.length p.c)) (hl : HasL x q.a q.l) (hs : HasS x q.b q.s) (hp : HasL x p.a p.l) (hb : b < x.heap.size) (hw : Below w.heap.size w x) :
    GG w q p b o x.heap.size (x.alloc (.cells #[.slice q.a q.l.length q.c, .slice q.b q.s.length q.d] 53)) := by
  have hx := (Below.refl x.heap.size x).alloc (Nat.le_refl _) (.cells #[.slice q.a q.l.length q.c, .slice q.b q.s.length q.d] 53)
  obtain ⟨e0, e1⟩ := two (heap_alloc_new x (.cells #[.slice q.a q.l.length q.c, .slice q.b q.s.length q.d] 53))
  exact ⟨e0, e1, (hx.cell (p := ⟨b, o, none⟩) hb).trans h0, hl.below hx, hs.below hx, hp.below hx, by simp, Nat.lt_of_lt_of_le hb hx.size, hw.trans (hx.mono hw.size)⟩
end Go.Proofs.YtaekngadfajcaaaGreat.Srs
