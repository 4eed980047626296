/- Stones and blocks that came in. -/
import Derived.Test.YtjhdmghpklagkaaGreatD04
import Derived.Test.YtjhdmghpklagkaaGreatD06
import Derived.WalkKit
import Derived.ProofKit
import Derived.OpenShut
import Derived.ChangeOld
import Derived.Deep.Fields
import Derived.Test.YtjhdmghpklagkaaGreatRows
import Derived.OrdersHeld
import Derived.Deep.RegionHeld3
import Derived.Test.YtjhdmghpklagkaaGreatD05
namespace Go.Proofs.YtjhdmghpklagkaaGreat.Blk
open Go.ChangeShapes Go.WideShapes Go.ChangeAt Go.RowKit Go.Deep Go.WideElems Go.Maps
open Go.Proofs.YtjhdmghpklagkaaGreat.Stn (T HasT FitT Ft t0 fit_t0 Cells)

section
variable {H : Type} {enc : TypeId × Value → H} {P : Program} {w : World} {base : Nat} {held : Bool}
theorem open_threes {t e : TypeId} {g0 g1 g2 : Field} {fuel : Nat} {cs : List Value} {x : DataW H × List MemPlace} (ht : P.underlying t = some (.slice e)) (he : P.underlying e = some (.struct #[g0, g1, g2]))
    (ce : P.cellsOf e = 3) (o0 : g0.offset = 0) (o1 : g1.offset = 1) (o2 : g2.offset = 2) (c0 : P.cellsOf g0.type = 1) (c1 : P.cellsOf g1.type = 1) (c2 : P.cellsOf g2.type = 1)
    (h : DataW.trod enc P w base (fun _ => true) held fuel t cs = some x) :
    cs = [.slice none 0 0] ∨ ∃ (a : Addr) (len cap n : Nat), cs = [.slice (some a) len cap] ∧ len ≤ cap ∧ cap ≤ maxLen ∧ ∀ i, i < len → ∃ v0 v1 v2 y0 y1 y2, (w.cell? (a.add (i * 3)) = some v0 ∧ w.cell? (a.add (i * 3 + 1)) = some v1 ∧ w.cell? (a.add (i * 3 + 2)) = some v2) ∧
      DataW.trod enc P w base (fun _ => true) held n g0.type [v0] = some y0 ∧ DataW.trod enc P w base (fun _ => true) held n g1.type [v1] = some y1 ∧ DataW.trod enc P w base (fun _ => true) held n g2.type [v2] = some y2 := by
  rcases Deep.open_slice ht h with h0 | ⟨a, len, cap, m, n, D, Pl, rfl, hb, hl, hm, hmm, rfl, hx⟩
  · exact .inl h0.1
  right
  refine ⟨a, len, cap, n - 1, rfl, hl, hm, fun i hi => ?_⟩
  simp only [if_true] at hmm
  obtain ⟨cs', h1, h2⟩ := hx i (by omega)
  rw [ce] at h1
  obtain ⟨_, hlen, hcell⟩ := World.cells?_some h1
  obtain ⟨xs, k, hk, hxy, _, hxl, hf⟩ := DataW.trod_struct he h2
  have hk' : k = n - 1 := by omega
  subst hk'
  match xs, hxl, cs', hlen with
  | [y0, y1, y2], _, [v0, v1, v2], _ =>
    have q0 := hf 0 g0 rfl
    have q1 := hf 1 g1 rfl
    have q2 := hf 2 g2 rfl
    simp [o0, o1, o2, c0, c1, c2] at q0 q1 q2
    have e0 := hcell 0 (by omega)
    have e1 := hcell 1 (by omega)
    have e2 := hcell 2 (by omega)
    rw [Deep.add_add] at e0 e1 e2
    exact ⟨v0, v1, v2, y0, y1, y2, ⟨by simpa using e0, by simpa using e1, by simpa using e2⟩, q0, q1, q2⟩
end
theorem open_stones {H : Type} {enc : TypeId × Value → H} {W : World} {a0 : Option Addr} {len0 cap0 : Nat} {d : DataW H} {p : List MemPlace} (h : DataW.Trod enc Tryz.prog W 0 (fun _ => true) true 53 (.slice a0 len0 cap0) d p) :
    ∃ ts : List T, ts.length = len0 ∧ len0 ≤ maxLen ∧ HasT W a0 ts ∧ FitT ts := by
  obtain ⟨fuel, hf⟩ := h
  rcases open_threes Tryz.underlying53 Tryz.underlying127 (by kernel_rfl) rfl rfl rfl (by kernel_rfl) (by kernel_rfl) (by kernel_rfl) hf with hcs | ⟨a, len, cap, n, hcs, hl, hm, hx⟩
  · simp [Value.cells] at hcs
    obtain ⟨rfl, rfl, rfl⟩ := hcs
    exact ⟨[], rfl, Nat.zero_le _, .inl rfl, fun i => fit_t0⟩
  · simp [Value.cells] at hcs
    obtain ⟨rfl, rfl, rfl⟩ := hcs
    have key : ∀ i, i < len0 → ∃ q : T, (W.cell? (a.add (i * 3)) = some (.slice q.a q.l.length q.c) ∧ W.cell? (a.add (i * 3 + 1)) = some (.int .i64 q.f) ∧ W.cell? (a.add (i * 3 + 2)) = some (.int .i64 q.t)) ∧ Lab.HasL W q.a q.l ∧ Ft q := by
      intro i hi
      obtain ⟨v0, v1, v2, y0, y1, y2, ⟨e0, e1, e2⟩, g0, g1, g2⟩ := hx i hi
      obtain ⟨la, ll, lc, rfl⟩ : ∃ a l c, v0 = .slice a l c := by
        rcases Deep.open_slice Tryz.underlying121 g0 with ⟨hq, _⟩ | ⟨a, l, c, m, n', D, Pl, hq, _⟩
        · simp only [List.cons.injEq, and_true] at hq; exact ⟨_, _, _, hq⟩
        · simp only [List.cons.injEq, and_true] at hq; exact ⟨_, _, _, hq⟩
      obtain ⟨A, ea, _, w1⟩ := DataW.trod_int Tryz.underlying3 g1
      obtain ⟨B, eb, _, w2⟩ := DataW.trod_int Tryz.underlying3 g2
      simp only [List.cons.injEq, and_true] at ea eb
      subst ea eb
      obtain ⟨ls, q1, q2, q3, q4⟩ := Lbo.open_labels (enc := enc) (a0 := la) (len0 := ll) (cap0 := lc) (W := W) (d := y0.1) (p := y0.2) ⟨n, by simpa [Value.cells] using g0⟩
      simp only [Lit.wf, Bool.and_eq_true, decide_eq_true_eq] at w1 w2
      subst q1
      exact ⟨⟨ls, la, lc, A, B⟩, ⟨e0, e1, e2⟩, q3, q4, q2, ⟨w1.1, w1.2⟩, ⟨w2.1, w2.2⟩⟩
    obtain ⟨q, hq⟩ := Deep.choose_lt (α := T) key
    have hg : ∀ i, i < len0 → ((List.range len0).map q).getD i t0 = q i := fun i hi => by simp [hi]
    refine ⟨(List.range len0).map q, by simp, by omega, ?_, ?_⟩
    · by_cases h0 : len0 = 0
      · subst h0; exact .inl rfl
      · obtain ⟨b, off, spot⟩ := a
        have h1 := (hq 0 (by omega)).1.1
        have hs : spot = none := by simpa [Addr.add] using World.cell?_spot h1
        subst hs
        refine .inr ⟨b, off, rfl, World.block_lt_of_cell? W _ h1, fun i hi => ?_⟩
        have hi' : i < len0 := by simpa using hi
        obtain ⟨⟨k0, k1, k2⟩, k7, _⟩ := hq i hi'
        rw [Srs.add_none] at k0 k1 k2
        rw [hg i hi']
        exact ⟨⟨k0, k1, k2⟩, k7⟩
    · intro i
      by_cases hi : i < len0
      · rw [hg i hi]; exact (hq i hi).2.2
      · rw [List.getD_eq_getElem?_getD, List.getElem?_eq_none (by simp; omega)]; exact fit_t0
end Go.Proofs.YtjhdmghpklagkaaGreat.Blk
namespace Go.Proofs.YtjhdmghpklagkaaGreat
theorem zzA {α : Type} (l : List α) (i : Nat) (a : α) : l.toArray.setIfInBounds i a = (l.set i a).toArray := List.setIfInBounds_toArray ..
theorem zzB {α : Type} (a b : α) (l : List α) : (a :: l).set 0 b = b :: l := List.set_cons_zero ..
theorem zzC {α : Type} (a b : α) (l : List α) (n : Nat) : (a :: l).set (n + 1) b = a :: l.set n b := List.set_cons_succ ..
theorem tkH {P : Program} {md : Region.Mode} {ops : Array Oper} {Q : Exit → Act → World → Prop} {S : World → Prop} (i : Nat) (d : Option Tmp) (v : Value) {op : Op} {ty : TypeId} {pos : String} {af : Array Edge} {gu : Option (Nat × Bool)} {fuel : Nat} {listed : Array Bool} {a : Act} {w : World}
    (hi : ops[i]? = some { dst := d, op := op, type := ty, pos := pos, after := af, guard := gu }) (h : wpAnyH P md ops Q S fuel (listed.setIfInBounds i true) (a.put d v) w)
    (hs : Region.noSelect ops = true := by kernel_rfl) (hf : Region.free md ops listed i = true := by kernel_rfl) (hr : (Region.ready md ops listed).contains i = true := by kernel_rfl)
    (hQ : ∀ c a w, Q (.panic c) (a.put d v) w → Q (.panic c) a w := by exact fun _ _ _ h => h) (hy : YieldsIf P ops S { dst := d, op := op, type := ty, pos := pos, after := af, guard := gu } v a := by exact Or.inl ⟨by rfl, fun w hSw => by (try dsimp only at hSw); go_split_ands; go_simp⟩) (hS : S w := by assumption) : wpAnyH P md ops Q S (fuel + 1) listed a w :=
  wpAnyH_take hi hs hf hr hQ hy hS h
theorem skH {P : Program} {md : Region.Mode} {ops : Array Oper} {Q : Exit → Act → World → Prop} {S : World → Prop} (i : Nat) (d : Option Tmp) {op : Op} {ty : TypeId} {pos : String} {af : Array Edge} {gu : Option (Nat × Bool)} {fuel : Nat} {listed : Array Bool} {a : Act} {w : World}
    (hi : ops[i]? = some { dst := d, op := op, type := ty, pos := pos, after := af, guard := gu }) (h : wpAnyH P md ops Q S fuel (listed.setIfInBounds i true) (a.put d undef) w)
    (hs : Region.noSelect ops = true := by kernel_rfl) (hf : Region.free md ops listed i = true := by kernel_rfl) (hr : (Region.ready md ops listed).contains i = true := by kernel_rfl)
    (hQ : ∀ c a w, Q (.panic c) (a.put d undef) w → Q (.panic c) a w := by exact fun _ _ _ h => h) (hy : YieldsIf P ops S { dst := d, op := op, type := ty, pos := pos, after := af, guard := gu } undef a := by exact Or.inr ⟨by rfl, rfl⟩) (hS : S w := by assumption) : wpAnyH P md ops Q S (fuel + 1) listed a w :=
  wpAnyH_take hi hs hf hr hQ hy hS h
end Go.Proofs.YtjhdmghpklagkaaGreat
namespace Go.Proofs.YtjhdmghpklagkaaGreat.Srs
open Go.RowKit
open Go.Proofs.YtjhdmghpklagkaaGreat.Lab (Lb HasL OfV goodL GoodP cmpList)
open Go.Proofs.YtjhdmghpklagkaaGreat.Smp (Sm HasS goodS ret_bool)

abbrev nmS : ByteArray := ⟨#[95, 110, 97, 109, 101]⟩
def Named (ls : List Lb) : Prop := goodL ls = true ∧ ¬ OfV ls nmS ByteArray.empty
instance (ls : List Lb) (x v : ByteArray) : Decidable (OfV ls x v) := by unfold OfV; infer_instance
instance (ls : List Lb) : Decidable (Named ls) := by unfold Named; infer_instance
def nmd (ls : List Lb) : Bool := decide (Named ls)
theorem nmd_yes {ls : List Lb} (h : Named ls) : nmd ls = true := decide_eq_true h
theorem nmd_no {ls : List Lb} (h : ¬ Named ls) : nmd ls = false := decide_eq_false h
theorem nmd_iff {ls : List Lb} : nmd ls = true ↔ Named ls := ⟨fun h => of_decide_eq_true h, nmd_yes⟩
theorem good_goodP {ls : List Lb} (h : goodL ls = true) : GoodP ls := of_decide_eq_true h
theorem empty_iff {v : ByteArray} : v.toList.isEmpty = true ↔ v = ByteArray.empty := by
  rw [ByteArray.toList_eq]
  constructor
  · intro h
    have h1 : v.data.toList = [] := by simpa using h
    exact ByteArray.ext (Array.toList_inj.1 h1)
  · rintro rfl; rfl
theorem named_val {ls : List Lb} {v : ByteArray} (h1 : goodL ls = true) (hv : OfV ls nmS v) : nmd ls = !v.toList.isEmpty := by
  cases q : v.toList.isEmpty
  · refine nmd_yes ⟨h1, fun h => ?_⟩
    rw [empty_iff.2 (hv.uniq h)] at q
    cases q
  · refine nmd_no fun h => h.2 ?_
    rw [← empty_iff.1 q]; exact hv
set_option maxHeartbeats 1000000 in
theorem f86 (a : Option Addr) (c : Nat) (ls : List Lb) (w : World) (hr : HasL w a ls) (hf : Lab.Fit ls) (hn : ls.length ≤ maxLen) :
    Calls Tryz.prog 86 #[.slice a ls.length c] w fun e w' => e = .returned (.bool (nmd ls)) ∧ Below w.heap.size w w' := by
  have HR := hid hr
  have HF := hid hf
  have HM := hid hn
  clear hr hf hn
  go_enter Tryz.func86, Tryz.ntmps86
  go_wp2_with fail
  refine (Lab.f102 a ls.length c ls _ rfl HM.out HR.out HF.out).mono ?_
  rintro e w1 ⟨rfl, hb1⟩
  have HB1 := hid hb1
  clear hb1
  cases hg : goodL ls
  · have HG := hid hg
    go_wp2
    go_ret
    exact ⟨ret_bool (nmd_no fun h => by have := h.1; rw [HG.out] at this; cases this).symm, HB1.out⟩
  have HG := hid hg
  go_wp2_with fail
  refine (Lab.f123 a ls.length c ls _ _ rfl (good_goodP HG.out).1 (HR.out.below HB1.out)).mono ?_
  rintro e w2 ⟨v, hv, rfl, hb2⟩
  have HB2 := hid (HB1.out.trans (hb2.mono HB1.out.size))
  have HV := hid (named_val HG.out hv)
  clear hv hb2
  cases q : v.toList.isEmpty
  · have HQ := hid q
    go_wp2
    go_ret
    exact ⟨ret_bool (by rw [HV.out, HQ.out]; rfl), HB2.out⟩
  · have HQ := hid q
    go_wp2
    go_ret
    exact ⟨ret_bool (by rw [HV.out, HQ.out]; rfl), HB2.out⟩
set_option maxHeartbeats 1000000 in
theorem f94 (a : Option Addr) (c : Nat) (ls : List Lb) (w : World) (hr : HasL w a ls) (hf : Lab.Fit ls) (hn : ls.length ≤ maxLen) :
    Calls Tryz.prog 94 #[.slice a ls.length c] w fun e w' => e = .returned (.bool (nmd ls)) ∧ Below w.heap.size w w' := by
  have HR := hid hr
  have HF := hid hf
  have HM := hid hn
  clear hr hf hn
  go_enter Tryz.func94, Tryz.ntmps94
  go_wp2_with fail
  refine (Lab.f135 a ls.length c ls _ rfl HM.out HR.out HF.out).mono ?_
  rintro e w1 ⟨rfl, hb1⟩
  have HB1 := hid hb1
  clear hb1
  cases hg : goodL ls
  · have HG := hid hg
    go_wp2
    go_ret
    exact ⟨ret_bool (nmd_no fun h => by have := h.1; rw [HG.out] at this; cases this).symm, HB1.out⟩
  have HG := hid hg
  go_wp2_with fail
  refine (Lab.f136 a ls.length c ls _ _ rfl (good_goodP HG.out) (HR.out.below HB1.out)).mono ?_
  rintro e w2 ⟨v, hv, rfl, hb2⟩
  have HB2 := hid (HB1.out.trans (hb2.mono HB1.out.size))
  have HV := hid (named_val HG.out hv)
  clear hv hb2
  cases q : v.toList.isEmpty
  · have HQ := hid q
    go_wp2
    go_ret
    exact ⟨ret_bool (by rw [HV.out, HQ.out]; rfl), HB2.out⟩
  · have HQ := hid q
    go_wp2
    go_ret
    exact ⟨ret_bool (by rw [HV.out, HQ.out]; rfl), HB2.out⟩

def OkQ (p : Pl) : Prop := Named p.1 ∧ goodS p.2 = true ∧ p.2 ≠ []
def OkAt (qs : List Q) (i : Nat) : Prop := OkQ (pl (qs.getD i q0)) ∧ (0 < i → cmpList (pl (qs.getD (i - 1) q0)).1 (pl (qs.getD i q0)).1 < 0)
def GoodQ (qs : List Q) : Prop := qs.length ≤ 200 ∧ ∀ i, i < qs.length → OkAt qs i
instance (p : Pl) : Decidable (OkQ p) := by unfold OkQ; infer_instance
instance (qs : List Q) (i : Nat) : Decidable (OkAt qs i) := by unfold OkAt; infer_instance
instance (qs : List Q) : Decidable (GoodQ qs) := by unfold GoodQ; infer_instance
def gdQ (qs : List Q) : Bool := decide (GoodQ qs)
theorem gdQ_yes {qs : List Q} (h : GoodQ qs) : gdQ qs = true := decide_eq_true h
theorem gdQ_no {qs : List Q} (h : ¬ GoodQ qs) : gdQ qs = false := decide_eq_false h
theorem gdQ_iff {qs : List Q} : gdQ qs = true ↔ GoodQ qs := ⟨fun h => of_decide_eq_true h, gdQ_yes⟩
theorem OkAt.congr {n i : Nat} {qs qs' : List Q} (h : Same n qs qs') (hi : i < n) : OkAt qs' i ↔ OkAt qs i := by
  unfold OkAt
  rw [h i hi]
  by_cases h0 : 0 < i
  · rw [h (i - 1) (by omega)]
  · simp only [h0, false_implies]
theorem gdQ_congr {n : Nat} {qs qs' : List Q} (h1 : qs.length = n) (h2 : qs'.length = n) (h : Same n qs qs') : gdQ qs' = gdQ qs := by
  have : GoodQ qs' ↔ GoodQ qs := by
    unfold GoodQ
    rw [h1, h2]
    exact ⟨fun g => ⟨g.1, fun i hi => (OkAt.congr h hi).1 (g.2 i hi)⟩, fun g => ⟨g.1, fun i hi => (OkAt.congr h hi).2 (g.2 i hi)⟩⟩
  unfold gdQ
  rw [decide_eq_decide]; exact this
abbrev GG (w : World) (q p : Q) (b o B : Nat) (x : World) : Prop :=
  x.cell? ⟨B, 0, none⟩ = some (.slice q.a q.l.length q.c) ∧ x.cell? ⟨B, 1, none⟩ = some (.slice q.b q.s.length q.d) ∧
  x.cell? ⟨b, o, none⟩ = some (.slice p.a p.l.length p.c) ∧
  HasL x q.a q.l ∧ HasS x q.b q.s ∧ HasL x p.a p.l ∧ B < x.heap.size ∧ b < x.heap.size ∧ Below w.heap.size w x
theorem GG.below {w : World} {q p : Q} {b o B : Nat} {x y : World} (h : GG w q p b o B x) (hb : Below x.heap.size x y) : GG w q p b o B y := by
  obtain ⟨h0, h1, k0, t1, t2, t3, l1, l2, hw⟩ := h
  exact ⟨(hb.cell (p := ⟨B, 0, none⟩) l1).trans h0, (hb.cell (p := ⟨B, 1, none⟩) l1).trans h1, (hb.cell (p := ⟨b, o, none⟩) l2).trans k0, t1.below hb, t2.below hb, t3.below hb, Nat.lt_of_lt_of_le l1 hb.size, Nat.lt_of_lt_of_le l2 hb.size, hw.trans (hb.mono hw.size)⟩
theorem GG.drew {w : World} {q p : Q} {b o B : Nat} {x : World} (h : GG w q p b o B x) : GG w q p b o B x.drew := h.below (Below.refl _ x).drew
theorem GG.drewN {w : World} {q p : Q} {b o B : Nat} {x : World} (h : GG w q p b o B x) (k : Nat) : GG w q p b o B (x.drewN k) := h.below (Lab.below_drewN (Below.refl _ x) k)
theorem GG.t1 {w : World} {q p : Q} {b o B : Nat} {x : World} (h : GG w q p b o B x) : HasL x q.a q.l := h.2.2.2.1
theorem GG.t2 {w : World} {q p : Q} {b o B : Nat} {x : World} (h : GG w q p b o B x) : HasS x q.b q.s := h.2.2.2.2.1
theorem GG.t3 {w : World} {q p : Q} {b o B : Nat} {x : World} (h : GG w q p b o B x) : HasL x p.a p.l := h.2.2.2.2.2.1
theorem GG.bel {w : World} {q p : Q} {b o B : Nat} {x : World} (h : GG w q p b o B x) : Below w.heap.size w x := h.2.2.2.2.2.2.2.2
theorem box_gg {w : World} {q p : Q} {b o : Nat} {x : World} (h0 : x.cell? ⟨b, o, none⟩ = some (.slice p.a p.l.length p.c)) (hl : HasL x q.a q.l) (hs : HasS x q.b q.s) (hp : HasL x p.a p.l) (hb : b < x.heap.size) (hw : Below w.heap.size w x) :
    GG w q p b o x.heap.size (x.alloc (.cells #[.slice q.a q.l.length q.c, .slice q.b q.s.length q.d] 80)) := by
  have hx := (Below.refl x.heap.size x).alloc (Nat.le_refl _) (.cells #[.slice q.a q.l.length q.c, .slice q.b q.s.length q.d] 80)
  obtain ⟨e0, e1⟩ := two (heap_alloc_new x (.cells #[.slice q.a q.l.length q.c, .slice q.b q.s.length q.d] 80))
  exact ⟨e0, e1, (hx.cell (p := ⟨b, o, none⟩) hb).trans h0, hl.below hx, hs.below hx, hp.below hx, by simp, Nat.lt_of_lt_of_le hb hx.size, hw.trans (hx.mono hw.size)⟩
end Go.Proofs.YtjhdmghpklagkaaGreat.Srs
