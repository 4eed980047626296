import Derived.Test.YtjchioecfcnpfaaGreatGJ
import Derived.Test.YtjchioecfcnpfaaGreatGcw
import Derived.Test.YtjchioecfcnpfaaGreatJn
import Derived.Test.YtjchioecfcnpfaaGreatJf
import Derived.Test.YtjchioecfcnpfaaGreatJg
/- What a block says of matchers and a span: the model's l9Select. -/
namespace Go.Proofs.YtjchioecfcnpfaaGreat.Blk
open Go.RowKit
open Go.Proofs.YtjchioecfcnpfaaGreat.Lab (Lb HasL cmpList OfV)
open Go.Proofs.YtjchioecfcnpfaaGreat.Smp (Sm HasS cut own_form)
open Go.Proofs.YtjchioecfcnpfaaGreat.Srs (hid lt_at kept Q HasQ FitQ SmlQ GoodQ agQ q0 two pl Pl OwnO sl hit LowQ Named flat infoQ' two_new sel_len good_goodP named_ne getD_snoc flat_append own_base own_below cl)
open Go.Proofs.YtjchioecfcnpfaaGreat.Stn (T HasT FitT SmlT agT t0 three Cells)
open Go.Proofs.YtjchioecfcnpfaaGreat.Pat (Mt HasM goodM allM FitM)

/-- An append to a row of the call's own, as one step of a region that draws its order, and where the new row lies. -/
theorem step_append_at {P : Program} {ops : Array Oper} {o : Oper} {a : Act} {w : World} {K : Act → World → Prop} {Q : Exit → Act → World → Prop} {E : Prop}
    (hg : o.guard = none) (s x : Operand) (t : TypeId) (hop : o.op = Op.call { callee := Callee.builtin Builtin.append, args := #[s, x], argTypes := #[t, t] })
    (base : Nat) (e : TypeId) (i : TypeInfo) (z : Value) (size bytes : Nat) (h1 : P.underlying t = some (.slice e)) (h2 : P.info? e = some i) (h3 : i.zero = some z) (h4 : i.size = size) (h5 : i.bytes = bytes) (h6 : z.cells.size = size) (h7 : 0 < size)
    (ao : Option Addr) (n cap : Nat) (olds : List Value) (hs : a.eval s = .slice ao n cap) (hown : w.ownsRow base e size (.slice ao n cap) n olds)
    (ad : Addr) (m c : Nat) (news : List Value) (hx : a.eval x = .slice (some ad) m c) (hn : news.length = m * size) (hc : ∀ j u, news[j]? = some u → w.cell? (ad.add j) = some u) (h1c : ∀ u ∈ news, u.oneCell' = true)
    (b1 : n + m ≤ maxLen) (b2 : (n + m) * bytes ≤ 140737488355328) (hbase : base ≤ w.heap.size)
    (hK : ∀ v' w', w'.ownsRow base e size v' (n + m) (olds ++ news) → w.grownBy w' (Value.slice ao n cap).ownBlock → (v'.ownBlock = (Value.slice ao n cap).ownBlock ∨ v'.ownBlock = some w.heap.size) → K (a.put o.dst v') w') :
    if Region.wanted o (yielded ops a.tmps) = true then Oper.wp P o a w K Q else E := by
  have hw : Region.wanted o (yielded ops a.tmps) = true := by simp [Region.wanted, hg]
  rw [if_pos hw]
  obtain ⟨v', w', hrun, r1, r2, _, r4⟩ := run_append_own_at (P := P) w base t o.type e i z size bytes h1 h2 h3 h4 h5 h6 h7 (.slice ao n cap) n olds hown ad m c news hn hc h1c b1 b2 hbase
  unfold Oper.wp
  simp [execOp, hop, resolve, invoke, builtin, hs, hx, hrun, Result.andThen]
  exact hK v' w' r1 r2 r4
theorem cell_grown {w w' : World} {r : Option Nat} {b o : Nat} (hg : w.grownBy w' r) (hl : b < w.heap.size) (hne : r ≠ some b) : w'.cell? ⟨b, o, none⟩ = w.cell? ⟨b, o, none⟩ := by
  have h := hg.block b hl (fun e => hne e.symm)
  unfold World.cell?
  rw [h]
theorem hasL_grown {w w' : World} {r : Option Nat} {a : Option Addr} {l : List Lb} (h : HasL w a l) (hg : w.grownBy w' r) (hne : l ≠ [] → ∀ g oo, r = some g → a ≠ some ⟨g, oo, none⟩) : HasL w' a l := by
  rcases h with h | ⟨b, off, h1, h2, h3⟩
  · exact .inl h
  · by_cases e : l = []
    · exact .inl e
    · have hb : r ≠ some b := fun e2 => hne e b off e2 h1
      exact .inr ⟨b, off, h1, Nat.lt_of_lt_of_le h2 hg.size, fun i hi => ⟨(cell_grown hg h2 hb).trans (h3 i hi).1, (cell_grown hg h2 hb).trans (h3 i hi).2⟩⟩
theorem hasS_grown {w w' : World} {r : Option Nat} {a : Option Addr} {l : List Sm} (h : HasS w a l) (hg : w.grownBy w' r) (hne : l ≠ [] → ∀ g oo, r = some g → a ≠ some ⟨g, oo, none⟩) : HasS w' a l := by
  rcases h with h | ⟨b, off, h1, h2, h3⟩
  · exact .inl h
  · by_cases e : l = []
    · exact .inl e
    · have hb : r ≠ some b := fun e2 => hne e b off e2 h1
      exact .inr ⟨b, off, h1, Nat.lt_of_lt_of_le h2 hg.size, fun i hi => ⟨(cell_grown hg h2 hb).trans (h3 i hi).1, (cell_grown hg h2 hb).trans (h3 i hi).2⟩⟩
theorem hasL_lt {w : World} {a : Option Addr} {l : List Lb} (h : HasL w a l) (hne : l ≠ []) {g oo : Nat} (e : a = some ⟨g, oo, none⟩) : g < w.heap.size := by
  rcases h with h | ⟨b, off, h1, h2, h3⟩
  · exact absurd h hne
  · rw [h1] at e; cases e; exact h2
theorem hasS_lt {w : World} {a : Option Addr} {l : List Sm} (h : HasS w a l) (hne : l ≠ []) {g oo : Nat} (e : a = some ⟨g, oo, none⟩) : g < w.heap.size := by
  rcases h with h | ⟨b, off, h1, h2, h3⟩
  · exact absurd h hne
  · rw [h1] at e; cases e; exact h2
/-- A row of series of the call's own; what they have lies anywhere but in that row. -/
structure RowQ (X : Nat) (a : Option Addr) (n c : Nat) (R : List Q) (w : World) : Prop where
  len : R.length = n
  row : w.ownsRow X 61 2 (.slice a n c) n (flat R)
  lab : ∀ i, i < n → HasL w (R.getD i q0).a (R.getD i q0).l
  smp : ∀ i, i < n → HasS w (R.getD i q0).b (R.getD i q0).s
  off : ∀ g, (Value.slice a n c).ownBlock = some g → ∀ i, i < n → ((R.getD i q0).l ≠ [] → ∀ oo, (R.getD i q0).a ≠ some ⟨g, oo, none⟩) ∧ ((R.getD i q0).s ≠ [] → ∀ oo, (R.getD i q0).b ≠ some ⟨g, oo, none⟩)
theorem RowQ.nil (X : Nat) (w : World) : RowQ X none 0 0 [] w := ⟨rfl, World.ownsRow_nil _ _ _ _, fun i hi => by omega, fun i hi => by omega, fun g _ i hi => by omega⟩
theorem RowQ.below {X n c : Nat} {a : Option Addr} {R : List Q} {w w' : World} (h : RowQ X a n c R w) (hb : Below w.heap.size w w') : RowQ X a n c R w' := ⟨h.len, own_below h.row hb, fun i hi => (h.lab i hi).below hb, fun i hi => (h.smp i hi).below hb, h.off⟩
theorem RowQ.has {X n c : Nat} {a : Option Addr} {R : List Q} {w : World} (h : RowQ X a n c R w) : HasQ w a R := by
  rcases h.row.2 with ⟨h1, h2⟩ | ⟨g, cap, cur, h1, _⟩
  · exact .inl (List.eq_nil_of_length_eq_zero (h.len.trans h2))
  · have hr := h.row
    simp only [Value.slice.injEq] at h1
    obtain ⟨rfl, -, rfl⟩ := h1
    exact Srs.own_has hr fun i hi => ⟨h.lab i (by rw [← h.len]; exact hi), h.smp i (by rw [← h.len]; exact hi)⟩
theorem RowQ.push {X n c c' : Nat} {a a' : Option Addr} {R : List Q} {q : Q} {w W w' : World} (h : RowQ X a n c R w) (hb : Below w.heap.size w W) (hl : HasL W q.a q.l) (hs : HasS W q.b q.s)
    (h1 : ∀ g oo, X ≤ g → g < w.heap.size → q.l ≠ [] → q.a ≠ some ⟨g, oo, none⟩) (h2 : ∀ g oo, X ≤ g → g < w.heap.size → q.s ≠ [] → q.b ≠ some ⟨g, oo, none⟩)
    (hg : W.grownBy w' (Value.slice a n c).ownBlock) (hr : w'.ownsRow X 61 2 (.slice a' (n + 1) c') (n + 1) (flat (R ++ [q])))
    (hv : (Value.slice a' (n + 1) c').ownBlock = (Value.slice a n c).ownBlock ∨ (Value.slice a' (n + 1) c').ownBlock = some W.heap.size) : RowQ X a' (n + 1) c' (R ++ [q]) w' := by
  have hlen := h.len
  have hget : ∀ i, (R ++ [q]).getD i q0 = if i = n then q else R.getD i q0 := fun i => by rw [getD_snoc, hlen]
  have hob : ∀ g, (Value.slice a n c).ownBlock = some g → X ≤ g ∧ g < w.heap.size := fun g hgg => h.row.lt g hgg
  refine ⟨by simp [hlen], hr, fun i hi => ?_, fun i hi => ?_, fun g hg' i hi => ?_⟩
  · rw [hget]
    by_cases e : i = n
    · rw [if_pos e]; exact hasL_grown hl hg fun hne g oo hr => h1 g oo (hob g hr).1 (hob g hr).2 hne
    · rw [if_neg e]; exact hasL_grown ((h.lab i (by omega)).below hb) hg fun hne g oo hr => (h.off g hr i (by omega)).1 hne oo
  · rw [hget]
    by_cases e : i = n
    · rw [if_pos e]; exact hasS_grown hs hg fun hne g oo hr => h2 g oo (hob g hr).1 (hob g hr).2 hne
    · rw [if_neg e]; exact hasS_grown ((h.smp i (by omega)).below hb) hg fun hne g oo hr => (h.off g hr i (by omega)).2 hne oo
  · rw [hg'] at hv
    have hv' : some g = (Value.slice a n c).ownBlock ∨ some g = some W.heap.size := hv
    rw [hget]
    by_cases e : i = n
    · rw [if_pos e]
      rcases hv' with h3 | h3
      · have h4 := hob g h3.symm
        exact ⟨fun hne oo => h1 g oo h4.1 h4.2 hne, fun hne oo => h2 g oo h4.1 h4.2 hne⟩
      · have h4 := Option.some.inj h3
        refine ⟨fun hne oo e2 => ?_, fun hne oo e2 => ?_⟩
        · have := hasL_lt hl hne e2; omega
        · have := hasS_lt hs hne e2; omega
    · rw [if_neg e]
      have hi' : i < n := by omega
      rcases hv' with h3 | h3
      · exact h.off g h3.symm i hi'
      · have h4 := Option.some.inj h3
        have := hb.size
        refine ⟨fun hne oo e2 => ?_, fun hne oo e2 => ?_⟩
        · have := hasL_lt (h.lab i hi') hne e2; omega
        · have := hasS_lt (h.smp i hi') hne e2; omega
/-- What the model puts together of the first k series. -/
noncomputable def mdl (h : Bk) (ms : List Mt) : Nat → List Pl
  | 0 => []
  | k + 1 => mdl h ms k ++ (if allM ms (val (lb h.qs k)) = true then [(lb h.qs k, md (spans (own1 h.ts (lb h.qs k))) (h.qs.getD k q0).s)] else [])
theorem mdl_len (h : Bk) (ms : List Mt) : ∀ k, (mdl h ms k).length ≤ k := by
  intro k
  induction k with
  | zero => exact Nat.le_refl _
  | succ k ih => rw [mdl, List.length_append]; split <;> simp <;> omega
theorem sl_flat (vl : Srs.Vf) (ms : List Mt) (x y : Int) (R : List Q) : ∀ k, k ≤ R.length → sl vl ms R x y k = ((R.take k).map pl).flatMap (hit vl ms x y) := by
  intro k
  induction k with
  | zero => intro _; simp [sl]
  | succ k ih =>
    intro hk
    rw [sl, ih (by omega), List.take_add_one]
    have : R[k]? = some (R.getD k q0) := by simp [show k < R.length by omega]
    rw [this]
    simp
/-- What the model gives. -/
noncomputable def ansM (h : Bk) (ms : List Mt) (x y : Int) : List Pl := (mdl h ms h.qs.length).flatMap (hit val [] x y)
theorem good_stones {h : Bk} (g : GoodB h) : ∀ i, i < h.ts.length → 0 ≤ (h.ts.getD i t0).f ∧ (h.ts.getD i t0).f ≤ 1000000000001 ∧ 0 ≤ (h.ts.getD i t0).t ∧ (h.ts.getD i t0).t ≤ 1000000000001 ∧ (h.ts.getD i t0).f ≤ (h.ts.getD i t0).t := by
  intro i hi
  obtain ⟨_, h1, h2, h3⟩ := g.2.2.2.2.1 i hi
  have := g.1
  unfold Head at this
  omega
/-- A block in its box, the matchers beside it. -/
structure KM (w : World) (h : Bk) (am : Option Addr) (ms : List Mt) (x : World) : Prop where
  box : x.heap[w.heap.size]? = some (.cells (clB h) 33)
  has : HasB x h
  mat : HasM x am ms
  bel : Below w.heap.size w x
theorem KM.below {w : World} {h : Bk} {am : Option Addr} {ms : List Mt} {x y : World} (g : KM w h am ms x) (hb : Below x.heap.size x y) : KM w h am ms y := ⟨kept g.box hb, g.has.below hb, g.mat.below hb, g.bel.trans (hb.mono g.bel.size)⟩
theorem KM.new {w : World} {h : Bk} {am : Option Addr} {ms : List Mt} (hr : HasB w h) (hm : HasM w am ms) : KM w h am ms (w.alloc (.cells (clB h) 33)) := by
  have hb := (Below.refl w.heap.size w).alloc (Nat.le_refl _) (.cells (clB h) 33)
  exact ⟨heap_alloc_new w _, hr.below hb, hm.below hb, hb⟩
/-- The cells of the block's box and of the series'. -/
abbrev SM (X : Nat) (h : Bk) (q : Q) (B : Nat) (x : World) : Prop :=
  x.cell? ⟨X, 0, none⟩ = some (.int .i64 h.F) ∧ x.cell? ⟨X, 1, none⟩ = some (.int .i64 h.T) ∧ x.cell? ⟨X, 2, none⟩ = some (.int .i64 h.L) ∧ x.cell? ⟨X, 3, none⟩ = some (.slice h.a h.qs.length h.c) ∧ x.cell? ⟨X, 4, none⟩ = some (.slice h.b h.ts.length h.d) ∧
  x.cell? ⟨B, 0, none⟩ = some (.slice q.a q.l.length q.c) ∧ x.cell? ⟨B, 1, none⟩ = some (.slice q.b q.s.length q.d)
theorem SM.new {X : Nat} {h : Bk} {q : Q} {B : Nat} {x : World} (h0 : x.heap[X]? = some (.cells (clB h) 33)) (h1 : x.heap[B]? = some (.cells #[.slice q.a q.l.length q.c, .slice q.b q.s.length q.d] 61)) : SM X h q B x := by
  obtain ⟨b0, b1, b2, b3, b4⟩ := five h0
  obtain ⟨c0, c1⟩ := two h1
  exact ⟨b0, b1, b2, b3, b4, c0, c1⟩
theorem Own2_base {X Y : Nat} {q : Q} {w : World} (h : Srs.Own2 X q w) (hy : Y ≤ X) : Srs.Own2 Y q w := ⟨h.ha, h.hb, own_base h.lab hy, own_base h.smp hy, h.ne⟩
theorem OwnO_base {X Y n c : Nat} {a : Option Addr} {qs : List Q} {w : World} (h : OwnO X a n c qs w) (hy : Y ≤ X) : OwnO Y a n c qs w := ⟨h.len, own_base h.row hy, fun i hi => Own2_base (h.own i hi) hy, h.nea, h.dis⟩
theorem md_nil : ∀ S : List Sp, md S [] = [] := by
  intro S
  induction S with
  | nil => rfl
  | cons p S ih => obtain ⟨f, t⟩ := p; exact ih
set_option maxRecDepth 10000 in
set_option maxHeartbeats 8000000 in
theorem f22 (h : Bk) (am : Option Addr) (cm : Nat) (ms : List Mt) (x y : Int) (w : World) (hr : HasB w h) (hf : FitB h) (hz : SmlB h) (hg : GoodB h) (hm : HasM w am ms) (hgm : goodM ms = true) :
    Calls Tryz.prog 22 #[agB h, .slice am ms.length cm, .int .i64 x, .int .i64 y] w fun e w' => ∃ a' m' c' R, e = .returned (.slice a' m' c') ∧ Hid (OwnO w.heap.size a' m' c' R w') ∧ Hid (R.map pl = ansM h ms x y) ∧ Below w.heap.size w w' := by
  obtain ⟨i0, hi, hz0, hz1, hz2⟩ := info_parts infoQ'
  obtain ⟨F, TT, LL, qs, a, c, ts, b, d⟩ := h
  have HR0 := hid hr
  have HM0 := hid hm
  have H0 := hid (KM.new hr hm)
  have HZ := hid hz
  have HF := hid hf
  have HG := hid hg
  have HGM := hid hgm
  have h200 : qs.length ≤ 200 := HG.out.2.1.1
  clear hr hm hz hf hg hgm
  simp only [clB] at H0
  obtain ⟨b0, b1, b2, b3, b4⟩ := five H0.out.box
  simp only [agB, clB]
  go_enter Tryz.func22, Tryz.ntmps22
  go_wp2
  go_loopw [9, 15] (fun so si wr => ∃ (k m c' : Nat) (a' : Option Addr) (R : List Q), k ≤ qs.length ∧ si = .int .i64 k ∧ so = .slice a' m c' ∧ Hid (RowQ (w.heap.size + 1) a' m c' R wr) ∧ Hid (R.map pl = mdl ⟨F, TT, LL, qs, a, c, ts, b, d⟩ ms k) ∧ Hid (∀ i, i < m → Named (R.getD i q0).l ∧ (R.getD i q0).s.length ≤ 2000) ∧ Hid (KM w ⟨F, TT, LL, qs, a, c, ts, b, d⟩ am ms wr)) (fun _ si _ => qs.length - (intOf si).toNat)
  case atStart => exact ⟨0, 0, 0, none, [], Nat.zero_le _, rfl, rfl, RowQ.nil _ _, rfl, fun i hi => by omega, H0.out⟩
  case round =>
    clear b0 b1 b2 b3 b4 H0
    obtain ⟨k, m, c', a', R, hk, rfl, rfl, HO, HS, HNm, HX⟩ := hrel
    have hm2 : m ≤ k := by have := HO.out.len; have := sel_len HS.out; have := mdl_len ⟨F, TT, LL, qs, a, c, ts, b, d⟩ ms k; omega
    by_cases hlt : k < qs.length
    rotate_left
    · obtain rfl : k = qs.length := by omega
      have HLow : Hid (LowQ R) := ⟨by rw [HO.out.len]; omega, fun i hi => HNm.out i (by rw [← HO.out.len]; exact hi)⟩
      have HEq : Hid (sl val [] R x y m = ansM ⟨F, TT, LL, qs, a, c, ts, b, d⟩ ms x y) := by
        unfold Hid ansM
        rw [← HS.out, sl_flat _ _ _ _ _ m (by rw [HO.out.len]; exact Nat.le_refl _), List.take_of_length_le (by rw [HO.out.len]; exact Nat.le_refl _)]
      go_wp2_with fail
      refine (Srs.f53w val val_of a' none m c' 0 0 R [] x y _ HO.out.len rfl HO.out.has (.inl rfl) HLow.out (by rfl)).mono ?_
      rintro e w2 ⟨a2, m2, c2, R2, rfl, ho2, hs2, hb2⟩
      have HO2 : Hid (OwnO w.heap.size a2 m2 c2 R2 w2) := OwnO_base ho2 HX.out.bel.size
      have HX2 := hid (HX.out.below hb2)
      have HS2 := hid hs2
      rw [HEq.out] at HS2
      clear ho2 hs2 hb2
      go_wp2
      go_ret
      exact ⟨a2, m2, c2, R2, rfl, HO2, HS2, HX2.out.bel⟩
    obtain ⟨bb, off, hbb, hbl, c0, c1, t1, t2⟩ := HX.out.has.1.at2 k hlt
    have u1 : HasL w (qs.getD k q0).a (qs.getD k q0).l := by obtain ⟨_, _, _, _, _, _, u1, u2⟩ := HR0.out.1.at2 k hlt; exact u1
    have u2 : HasS w (qs.getD k q0).b (qs.getD k q0).s := by obtain ⟨_, _, _, _, _, _, u1, u2⟩ := HR0.out.1.at2 k hlt; exact u2
    simp only at hbb c0 c1 t1 t2 u1 u2
    subst hbb
    have HQ := hid (HG.out.2.1.2 k hlt).1
    have HMk : Hid (mdl ⟨F, TT, LL, qs, some ⟨bb, off, none⟩, c, ts, b, d⟩ ms (k + 1) = mdl ⟨F, TT, LL, qs, some ⟨bb, off, none⟩, c, ts, b, d⟩ ms k ++ (if allM ms (val (lb qs k)) = true then [(lb qs k, md (spans (own1 ts (lb qs k))) (qs.getD k q0).s)] else [])) := rfl
    simp only [lb] at HMk
    have i1 : (k : Int) < (qs.length : Int) := by omega
    generalize qs.getD k q0 = q at *
    have HGp := hid (good_goodP HQ.out.1.1)
    have HNd : Hid (Named q.l) := HQ.out.1
    have hs2k : q.s.length ≤ 2000 := (of_decide_eq_true (p := Smp.GoodP q.s) HQ.out.2.1).1
    simp only [pl] at HGp
    have hll : q.l.length ≤ 20 := HGp.out.1
    have HFar : Hid ((∀ g oo, w.heap.size ≤ g → q.l ≠ [] → q.a ≠ some ⟨g, oo, none⟩) ∧ (∀ g oo, w.heap.size ≤ g → q.s ≠ [] → q.b ≠ some ⟨g, oo, none⟩)) :=
      ⟨fun g oo hg hne e => by have := hasL_lt u1 hne e; omega, fun g oo hg hne e => by have := hasS_lt u2 hne e; omega⟩
    have HW0 := hid ((Below.refl wr.heap.size wr).alloc (Nat.le_refl _) (.cells #[.slice q.a q.l.length q.c, .slice q.b q.s.length q.d] 61))
    have HBx := hid (heap_alloc_new wr (.cells #[.slice q.a q.l.length q.c, .slice q.b q.s.length q.d] 61))
    have HX1 := hid (HX.out.below HW0.out)
    have HT1 := hid (t1.below HW0.out)
    have HT2 := hid (t2.below HW0.out)
    have HO1 := hid (HO.out.below HW0.out)
    have hX0 : w.heap.size ≤ wr.heap.size := HX.out.bel.size
    have HOB : Hid (∀ g, (Value.slice a' m c').ownBlock = some g → w.heap.size + 1 ≤ g ∧ g < wr.heap.size) := fun g hg => HO.out.row.lt g hg
    clear t1 t2 u1 u2 hbl HX HO
    go_wp2_with fail
    refine (Pat.f51 am q.a ms.length cm q.l.length q.c ms q.l (val q.l) _ rfl rfl HX1.out.mat HT1.out HGM.out HGp.out (val_of q.l)).mono ?_
    rintro e w2 ⟨rfl, hb2⟩
    have HX2 := hid (HX1.out.below hb2)
    have HT12 := hid (HT1.out.below hb2)
    have HT22 := hid (HT2.out.below hb2)
    have HO2 := hid (HO1.out.below hb2)
    have HB2 := hid (kept HBx.out hb2)
    have hsz : wr.heap.size < w2.heap.size := lt_at HB2.out
    clear hb2 HX1 HT1 HT2 HO1 HBx HW0 c0 c1
    generalize wr.heap.size = B at *
    cases hA : allM ms (val q.l)
    · have HE : Hid (mdl ⟨F, TT, LL, qs, some ⟨bb, off, none⟩, c, ts, b, d⟩ ms (k + 1) = mdl ⟨F, TT, LL, qs, some ⟨bb, off, none⟩, c, ts, b, d⟩ ms k) := by unfold Hid; rw [HMk.out, hA]; simp
      go_wp2
      go_roundw
      case rel => exact ⟨k + 1, m, c', a', R, by omega, by go_num, rfl, HO2, by unfold Hid; rw [HE.out]; exact HS.out, HNm, HX2⟩
      case measure => simp [intOf]; omega
    have HE : Hid (mdl ⟨F, TT, LL, qs, some ⟨bb, off, none⟩, c, ts, b, d⟩ ms (k + 1) = mdl ⟨F, TT, LL, qs, some ⟨bb, off, none⟩, c, ts, b, d⟩ ms k ++ [(q.l, md (spans (own1 ts q.l)) q.s)]) := by unfold Hid; rw [HMk.out, hA]; simp
    clear hA HMk
    have hd2 : Below w2.heap.size w2 w2.drew := (Below.refl _ _).drew
    have HAl := hid (f52 ⟨F, TT, LL, qs, some ⟨bb, off, none⟩, c, ts, b, d⟩ q w2.drew (HX2.out.has.below hd2) HZ.out HF.out.2.2.2.2.2.1 HG.out.2.2.2.1 (good_stones HG.out) (HT12.out.below hd2) (by omega) (HT22.out.below hd2) hs2k)
    simp only [agB, clB, agQ] at HAl
    have HOlt : Hid (∀ g, (Value.slice a' m c').ownBlock = some g → w.heap.size + 1 ≤ g ∧ g < B) := HOB
    go_wp2_with fail
    refine wp_region_held_drew (S := fun x => SM w.heap.size ⟨F, TT, LL, qs, some ⟨bb, off, none⟩, c, ts, b, d⟩ q B x) rfl (SM.new (kept HX2.out.box (Below.refl _ _).drew) (kept HB2.out (Below.refl _ _).drew)) (fun hHeld => ?_)
    refine wpAnyH_take (i := 0) (oi := { dst := some 23, op := _, type := _, pos := _, after := _, guard := _ }) (v := .slice a' m c') rfl (by kernel_rfl) (by kernel_rfl) (by kernel_rfl) (fun _ _ _ h => h) (Or.inl ⟨by rfl, fun w hSw => by (try dsimp only at hSw); go_split_ands; go_simp⟩) (by assumption) ?_
    simp only [Act.put, List.setIfInBounds_toArray, List.set_cons_zero, List.set_cons_succ]
    refine wpAnyH_take (i := 1) (oi := { dst := some 24, op := _, type := _, pos := _, after := _, guard := _ }) (v := .pointer (some ⟨B, 0, none⟩)) rfl (by kernel_rfl) (by kernel_rfl) (by kernel_rfl) (fun _ _ _ h => h) (Or.inl ⟨by rfl, fun w hSw => by (try dsimp only at hSw); go_split_ands; go_simp⟩) (by assumption) ?_
    simp only [Act.put, List.setIfInBounds_toArray, List.set_cons_zero, List.set_cons_succ]
    refine wpAnyH_take (i := 2) (oi := { dst := some 25, op := _, type := _, pos := _, after := _, guard := _ }) (v := .slice q.a q.l.length q.c) rfl (by kernel_rfl) (by kernel_rfl) (by kernel_rfl) (fun _ _ _ h => h) (Or.inl ⟨by rfl, fun w hSw => by (try dsimp only at hSw); go_split_ands; go_simp⟩) (by assumption) ?_
    simp only [Act.put, List.setIfInBounds_toArray, List.set_cons_zero, List.set_cons_succ]
    refine wpAnyH_take (i := 3) (oi := { dst := some 26, op := _, type := _, pos := _, after := _, guard := _ }) (v := .agg #[.int .i64 F, .int .i64 TT, .int .i64 LL, .slice (some ⟨bb, off, none⟩) qs.length c, .slice b ts.length d]) rfl (by kernel_rfl) (by kernel_rfl) (by kernel_rfl) (fun _ _ _ h => h) (Or.inl ⟨by rfl, fun w hSw => by (try dsimp only at hSw); go_split_ands; go_simp⟩) (by assumption) ?_
    simp only [Act.put, List.setIfInBounds_toArray, List.set_cons_zero, List.set_cons_succ]
    refine wpAnyH_take (i := 4) (oi := { dst := some 27, op := _, type := _, pos := _, after := _, guard := _ }) (v := .agg #[.slice q.a q.l.length q.c, .slice q.b q.s.length q.d]) rfl (by kernel_rfl) (by kernel_rfl) (by kernel_rfl) (fun _ _ _ h => h) (Or.inl ⟨by rfl, fun w hSw => by (try dsimp only at hSw); go_split_ands; go_simp⟩) (by assumption) ?_
    simp only [Act.put, List.setIfInBounds_toArray, List.set_cons_zero, List.set_cons_succ]
    refine wpAnyH_ready (rs := [5]) (by kernel_rfl) (by simp) (AllReadyH.cons (o := { dst := some 28, op := _, type := _, pos := _, after := _, guard := _ }) rfl ?_ AllReadyH.nil)
    intro K1 hK1
    go_simp
    go_wp2_with (go_at_call 52; refine HAl.out.mono ?_; rintro e w4 ⟨a4, c4, L, hL4, rfl, hs4, hlo4, hn4, hb4⟩; have hw4 : Below w2.heap.size w2 w4 := hd2.trans (hb4.mono hd2.size); have hq4 : SM w.heap.size ⟨F, TT, LL, qs, some ⟨bb, off, none⟩, c, ts, b, d⟩ q B w4 := SM.new (kept HX2.out.box hw4) (kept HB2.out hw4))
    refine hK1.out _ _ hq4 (fun _ => ?_)
    clear hK1 K1
    have HLo : Hid (∀ g oo, w.heap.size ≤ g → g < w2.heap.size → L ≠ [] → a4 ≠ some ⟨g, oo, none⟩) := by
      intro g oo h1 h2 h3 h4
      rcases hlo4 with e | e
      · have hq : q.s ≠ [] := by
          intro hq
          have hL := hL4.out
          rw [hq] at hL
          exact h3 (by rw [hL]; exact md_nil _)
        exact HFar.out.2 g oo h1 hq (by rw [← e]; exact h4)
      · have := e g oo h4; have := hd2.size; omega
    have HS4 := hid hs4.out
    have HL4 := hid hL4.out
    clear hHeld hb4 hs4 hlo4 hL4
    refine wpAnyH_take (i := 6) (oi := { dst := some 29, op := _, type := _, pos := _, after := _, guard := _ }) (v := .agg #[.slice q.a q.l.length q.c, .slice a4 L.length c4]) rfl (by kernel_rfl) (by kernel_rfl) (by kernel_rfl) (fun _ _ _ h => h) (Or.inl ⟨by rfl, fun w hSw => by (try dsimp only at hSw); go_split_ands; go_simp⟩) (by assumption) ?_
    simp only [Act.put, List.setIfInBounds_toArray, List.set_cons_zero, List.set_cons_succ]
    refine wpAnyH_ready (rs := [7]) (by kernel_rfl) (by simp) (AllReadyH.cons (o := { dst := some 30, op := _, type := _, pos := _, after := _, guard := _ }) rfl ?_ AllReadyH.nil)
    intro K2 hK2
    go_simp
    refine hK2.out _ _ (SM.new (kept HX2.out.box (hw4.alloc hw4.size _)) (kept HB2.out (hw4.alloc hw4.size _))) (fun hq5 => ?_)
    clear hK2 K2
    try simp only [Act.put, List.setIfInBounds_toArray, List.set_cons_zero, List.set_cons_succ]
    have hba := (Below.refl w4.heap.size w4).alloc (Nat.le_refl _) (.cells #[.slice q.a q.l.length q.c, .slice a4 L.length c4] 61)
    obtain ⟨q', hq'⟩ : ∃ q' : Q, q' = ⟨q.l, q.a, q.c, L, a4, c4⟩ := ⟨_, rfl⟩
    have HO5 := hid (((HO2.out.below hw4)).below hba)
    have hw5 := hw4.trans (hba.mono hw4.size)
    refine wpAnyH_ready (rs := [8]) (by kernel_rfl) (by simp) (AllReadyH.cons (o := { dst := some 31, op := _, type := _, pos := _, after := _, guard := _ }) rfl ?_ AllReadyH.nil)
    intro K3 hK3
    refine step_append_at rfl (.tmp 23) (.tmp 30) 29 rfl (w.heap.size + 1) 61 i0 (.agg #[.slice none 0 0, .slice none 0 0]) 2 48 Tryz.underlying29 hi hz0 hz1 hz2 rfl (by decide) _ _ _ _ rfl HO5.out.row ⟨w4.heap.size, 0, none⟩ 1 1 [.slice q.a q.l.length q.c, .slice a4 L.length c4] rfl rfl (two_new w4 _ _ _) (by intro u hu; simp at hu; rcases hu with rfl | rfl <;> rfl) (by unfold maxLen; omega) (by omega) (by have := hw5.size; omega) ?_
    intro v6 w6 hown6 hgr6 hat6
    obtain ⟨a6, c6, rfl⟩ := own_form hown6
    have HO6 : Hid (RowQ (w.heap.size + 1) a6 (m + 1) c6 (R ++ [q']) w6) := by
      refine HO2.out.push hw5 (q := q') ?_ ?_ ?_ ?_ hgr6 ?_ hat6
      · rw [hq']; exact HT12.out.below hw5
      · rw [hq']; exact HS4.out.below hba
      · rw [hq']; exact fun g oo h1 _ hne => HFar.out.1 g oo (by omega) hne
      · rw [hq']; exact fun g oo h1 h2 hne => HLo.out g oo (by omega) h2 hne
      · have e : flat (R ++ [q']) = flat R ++ [.slice q.a q.l.length q.c, .slice a4 L.length c4] := by rw [flat_append, hq']; rfl
        rw [e]; exact hown6
    have hbel6 : Below w.heap.size w w6 := (HX2.out.bel.trans (hw5.mono HX2.out.bel.size)).grown hgr6 (by have := hw5.size; have := HX2.out.bel.size; omega) (fun j hj => by have := (HOlt.out j hj).1; omega)
    have hbx6 : w6.heap[w.heap.size]? = some (.cells #[.int .i64 F, .int .i64 TT, .int .i64 LL, .slice (some ⟨bb, off, none⟩) qs.length c, .slice b ts.length d] 33) := (hgr6.block _ (lt_at (kept HX2.out.box hw5)) (fun e => by have := (HOlt.out _ e.symm).1; omega)).trans (kept HX2.out.box hw5)
    have hby6 : w6.heap[B]? = some (.cells #[.slice q.a q.l.length q.c, .slice q.b q.s.length q.d] 61) := (hgr6.block _ (lt_at (kept HB2.out hw5)) (fun e => by have := (HOlt.out _ e.symm).2; omega)).trans (kept HB2.out hw5)
    have hq6 : KM w ⟨F, TT, LL, qs, some ⟨bb, off, none⟩, c, ts, b, d⟩ am ms w6 := ⟨hbx6, HR0.out.below hbel6, HM0.out.below hbel6, hbel6⟩
    refine hK3.out _ _ (SM.new hbx6 hby6) (fun _ => ?_)
    clear hK3 K3
    simp only [Act.put, List.setIfInBounds_toArray, List.set_cons_zero, List.set_cons_succ]
    refine wpAnyH_take (i := 9) (oi := { dst := some 9, op := _, type := _, pos := _, after := _, guard := _ }) (v := .slice a6 (m + 1) c6) rfl (by kernel_rfl) (by kernel_rfl) (by kernel_rfl) (fun _ _ _ h => h) (Or.inl ⟨by rfl, fun w hSw => by (try dsimp only at hSw); go_split_ands; go_simp⟩) (by assumption) ?_
    simp only [Act.put, List.setIfInBounds_toArray, List.set_cons_zero, List.set_cons_succ]
    refine wpAnyH_done (by kernel_rfl) ?_ _
    have HX6 := hid hq6
    have HS6 : Hid ((R ++ [q']).map pl = mdl ⟨F, TT, LL, qs, some ⟨bb, off, none⟩, c, ts, b, d⟩ ms (k + 1)) := by unfold Hid; rw [HE.out, List.map_append, HS.out, hq', ← HL4.out]; rfl
    have HN6 : Hid (∀ i, i < m + 1 → Named ((R ++ [q']).getD i q0).l ∧ ((R ++ [q']).getD i q0).s.length ≤ 2000) := by
      intro i hi
      rw [getD_snoc, HO2.out.len]
      by_cases e : i = m
      · rw [if_pos e, hq']; exact ⟨HNd.out, hn4⟩
      · rw [if_neg e]; exact HNm.out i (by omega)
    clear hq6 hbx6 hby6 hbel6 hw5 hw4 hq5 hq4 hown6 hgr6 hat6 HO2 HX2 HB2 HT12 HT22 hq' hba
    go_wp2
    go_roundw
    case rel => exact ⟨k + 1, m + 1, c6, a6, R ++ [q'], by omega, by go_num, rfl, HO6, HS6, HN6, HX6⟩
    case measure => simp [intOf]; omega
end Go.Proofs.YtjchioecfcnpfaaGreat.Blk
/- What a block says of matchers and a span: both SelectBlocks. -/
namespace Go.Proofs.YtjchioecfcnpfaaGreat.Blk
open Go.RowKit
open Go.Proofs.YtjchioecfcnpfaaGreat.Lab (Lb HasL cmpList OfV)
open Go.Proofs.YtjchioecfcnpfaaGreat.Smp (Sm HasS cut own_form e0)
open Go.Proofs.YtjchioecfcnpfaaGreat.Srs (hid lt_at kept Q HasQ FitQ SmlQ GoodQ agQ q0 two pl Pl OwnO Own2 OwnL sl hit Named flat infoQ' two_new own_form' sel_len good_goodP named_ne getD_snoc flat_append own_base own_below cl blk)
open Go.Proofs.YtjchioecfcnpfaaGreat.Stn (T HasT FitT SmlT agT t0 three Cells)
open Go.Proofs.YtjchioecfcnpfaaGreat.Pat (Mt HasM goodM allM FitM)

theorem ahead_trans {p q r : T} (h1 : Ahead p q) (h2 : Ahead q r) (hq : q.f ≤ q.t) : Ahead p r := by
  rcases h1 with a | ⟨a, a'⟩
  · rcases h2 with b | ⟨b, b'⟩
    · exact .inl (lst_trans a b)
    · exact .inl (by rw [← lst_zero b]; exact a)
  · rcases h2 with b | ⟨b, b'⟩
    · exact .inl (by rw [lst_zero a]; exact b)
    · exact .inr ⟨by rw [lst_zero a]; exact b, by omega⟩
theorem stones_apart {ts : List T} (h : RiseT ts) (hft : ∀ i, i < ts.length → (ts.getD i t0).f ≤ (ts.getD i t0).t) : ts.Pairwise Ahead := by
  have key : ∀ (d i : Nat), i + d + 1 < ts.length → Ahead (ts.getD i t0) (ts.getD (i + d + 1) t0) := by
    intro d
    induction d with
    | zero => intro i hi; exact h (i + 0 + 1) hi (by omega)
    | succ d ih =>
      intro i hi
      exact ahead_trans (ih i (by omega)) (h (i + (d + 1) + 1) hi (by omega)) (hft _ (by omega))
  rw [List.pairwise_iff_getElem]
  intro i j hi hj hij
  have := key (j - i - 1) i (by omega)
  rw [show i + (j - i - 1) + 1 = j by omega] at this
  simpa [hi, hj] using this
theorem spans_apart {ts : List T} {l : List Lb} (h : RiseT ts) (hft : ∀ i, i < ts.length → (ts.getD i t0).f ≤ (ts.getD i t0).t) : (spans (own1 ts l)).Pairwise fun p q => p.2 + 1 < q.1 := by
  unfold spans
  rw [List.pairwise_map]
  have h1 := (stones_apart h hft).sublist (List.filter_sublist (p := fun p : T => decide (cmpList p.l l = 0)))
  refine List.Pairwise.imp_of_mem ?_ h1
  intro p q hp hq ha
  have e1 : cmpList p.l l = 0 := by simpa using (List.mem_filter.1 hp).2
  have e2 : cmpList q.l l = 0 := by simpa using (List.mem_filter.1 hq).2
  rcases ha with a | ⟨_, a⟩
  · rw [lst_zero e1, lst_zero e2, lst_self] at a; omega
  · exact a
theorem spans_le {ts : List T} {l : List Lb} (hft : ∀ i, i < ts.length → (ts.getD i t0).f ≤ (ts.getD i t0).t) : ∀ p ∈ spans (own1 ts l), p.1 ≤ p.2 := by
  intro p hp
  unfold spans at hp
  obtain ⟨t, ht, rfl⟩ := List.mem_map.1 hp
  have hm := (List.mem_filter.1 ht).1
  obtain ⟨i, hi, rfl⟩ := List.getElem_of_mem hm
  have := hft i hi
  simpa [hi] using this
/-- Both ways are the same. -/
theorem pg_md {ts : List T} {l : List Lb} {s : List Sm} {x y : Int} (hg : Smp.GoodP s) (h : RiseT ts) (hft : ∀ i, i < ts.length → (ts.getD i t0).f ≤ (ts.getD i t0).t) : pg (spans (own1 ts l)) s x y = cut (md (spans (own1 ts l)) s) x y := by
  rw [pg_alive (good_up hg) (spans_le hft) (spans_apart h hft), md_alive (good_up hg) (good_time hg) (spans_le hft)]
theorem pg_len {ts : List T} {l : List Lb} {s : List Sm} {x y : Int} (hg : Smp.GoodP s) (h : RiseT ts) (hft : ∀ i, i < ts.length → (ts.getD i t0).f ≤ (ts.getD i t0).t) : (pg (spans (own1 ts l)) s x y).length ≤ s.length := by
  rw [pg_alive (good_up hg) (spans_le hft) (spans_apart h hft)]
  exact Nat.le_trans (Smp.cut_len _ _ _) (List.length_filter_le _ _)
/-- What the program puts together of one series. -/
noncomputable def one (h : Bk) (x y : Int) (q : Q) : List Pl := if pg (spans (own1 h.ts q.l)) q.s x y = [] then [] else [(q.l, pg (spans (own1 h.ts q.l)) q.s x y)]
noncomputable def prg (h : Bk) (x y : Int) (fs : List Int) : List Pl := fs.flatMap fun i => one h x y (h.qs.getD i.toNat q0)
theorem good_smp {h : Bk} (g : GoodB h) {k : Nat} (hk : k < h.qs.length) : Smp.GoodP (h.qs.getD k q0).s := of_decide_eq_true (g.2.1.2 k hk).1.2.1
theorem prg_ans {h : Bk} {ms : List Mt} {x y : Int} (g : GoodB h) : ∀ k, k ≤ h.qs.length → prg h x y (flt (hits ms h.qs ms.length) k) = (mdl h ms k).flatMap (hit val [] x y) := by
  have hft : ∀ i, i < h.ts.length → (h.ts.getD i t0).f ≤ (h.ts.getD i t0).t := fun i hi => (good_stones g i hi).2.2.2.2
  intro k
  induction k with
  | zero => intro _; rfl
  | succ k ih =>
    intro hk
    rw [flt_succ, mdl, List.flatMap_append, ← ih (by omega)]
    unfold prg
    rw [List.flatMap_append]
    congr 1
    have e : hits ms h.qs ms.length k = allM ms (val (lb h.qs k)) := by unfold hits; rw [List.take_length]
    rw [e]
    have em := pg_md (l := lb h.qs k) (x := x) (y := y) (good_smp g (show k < h.qs.length by omega)) g.2.2.2.2.2 hft
    cases allM ms (val (lb h.qs k))
    · simp
    · simp only [if_true, List.flatMap_cons, List.flatMap_nil, List.append_nil, Int.toNat_natCast]
      unfold one hit
      simp only [lb] at em ⊢
      rw [em]
      rfl
noncomputable def selF (h : Bk) (ms : List Mt) (x y : Int) : List Pl := if gdB h = true ∧ goodM ms = true then ansM h ms x y else []
theorem selF_no {h : Bk} {ms : List Mt} {x y : Int} (g : ¬ (gdB h = true ∧ goodM ms = true)) : selF h ms x y = [] := if_neg g
theorem selF_yes {h : Bk} {ms : List Mt} {x y : Int} (g : gdB h = true) (g' : goodM ms = true) : selF h ms x y = ansM h ms x y := if_pos ⟨g, g'⟩
/-- A list of series of the call's own that says L. -/
def GivesQ (w : World) (L : List Pl) (e : Ending) (w' : World) : Prop := ∃ a' m' c' R, e = .returned (.slice a' m' c') ∧ OwnO w.heap.size a' m' c' R w' ∧ R.map pl = L ∧ Below w.heap.size w w'
theorem givesQ_no {w w' : World} {L : List Pl} (h : L = []) (hb : Below w.heap.size w w') : GivesQ w L (.returned (.slice none 0 0)) w' := by
  subst h; exact ⟨none, 0, 0, [], rfl, OwnO.nil _ _, rfl, hb⟩
set_option maxHeartbeats 4000000 in
theorem f6 (h : Bk) (am : Option Addr) (cm : Nat) (ms : List Mt) (x y : Int) (w : World) (hr : HasB w h) (hf : FitB h) (hz : SmlB h) (hm : HasM w am ms) (hfm : FitM ms) (hmx : ms.length ≤ maxLen) :
    Calls Tryz.prog 6 #[agB h, .slice am ms.length cm, .int .i64 x, .int .i64 y] w (GivesQ w (selF h ms x y)) := by
  have H0 := hid (HB.new hr)
  have HF := hid hf
  have HZ := hid hz
  have HM := hid hm
  have HFM := hid hfm
  have HMX := hid hmx
  clear hr hf hz hm hfm hmx
  go_enter Tryz.func6, Tryz.ntmps6
  go_wp2_with fail
  refine (f20 h _ H0.out.has HF.out HZ.out).mono ?_
  rintro e w2 ⟨rfl, hb2⟩
  have H2 := hid (H0.out.below hb2)
  clear hb2 H0
  cases hg : gdB h
  · have E := hid (selF_no (h := h) (ms := ms) (x := x) (y := y) (fun g => by rw [hg] at g; cases g.1))
    go_wp2
    go_ret
    exact givesQ_no E.out H2.out.bel
  go_wp2_with fail
  refine (Pat.f21 am ms.length cm ms _ rfl HMX.out (HM.out.below H2.out.bel) HFM.out).mono ?_
  rintro e w3 ⟨rfl, hb3⟩
  have H3 := hid (H2.out.below hb3)
  clear hb3 H2
  cases hgm : goodM ms
  · have E := hid (selF_no (h := h) (ms := ms) (x := x) (y := y) (fun g => by rw [hgm] at g; cases g.2))
    go_wp2
    go_ret
    exact givesQ_no E.out H3.out.bel
  have E := hid (selF_yes (x := x) (y := y) hg hgm)
  have HGB := hid (gdB_iff.1 hg)
  have HGM := hid hgm
  clear hg hgm
  obtain ⟨b0, b1, b2, b3, b4⟩ := five H3.out.box
  go_wp2_with fail
  refine (f22 h am cm ms x y _ H3.out.has HF.out HZ.out HGB.out (HM.out.below H3.out.bel) HGM.out).mono ?_
  rintro e w4 ⟨a4, m4, c4, R4, rfl, ho4, hs4, hb4⟩
  have G : Hid (OwnO w.heap.size a4 m4 c4 R4 w4 ∧ R4.map pl = selF h ms x y ∧ Below w.heap.size w w4) := ⟨OwnO_base ho4.out H3.out.bel.size, by rw [E.out]; exact hs4.out, H3.out.bel.trans (hb4.mono H3.out.bel.size)⟩
  clear ho4 hs4 hb4
  go_wp2
  go_ret
  exact ⟨a4, m4, c4, R4, rfl, G.out.1, G.out.2.1, G.out.2.2⟩
theorem flt_at {p : Nat → Bool} {n j : Nat} (hj : j < (flt p n).length) : ∃ i : Nat, i < n ∧ (flt p n).getD j 0 = (i : Int) := by
  have hm : (flt p n).getD j 0 ∈ flt p n := by
    have : (flt p n).getD j 0 = (flt p n)[j] := by simp [hj]
    rw [this]; exact List.getElem_mem hj
  obtain ⟨i, h1, _, h3⟩ := flt_mem.1 hm
  exact ⟨i, h1, h3⟩
theorem prg_take {h : Bk} {x y : Int} {fs : List Int} {j i : Nat} (hj : j < fs.length) (e : fs.getD j 0 = (i : Int)) : prg h x y (fs.take (j + 1)) = prg h x y (fs.take j) ++ one h x y (h.qs.getD i q0) := by
  unfold prg
  rw [List.take_add_one]
  have : fs[j]? = some (i : Int) := by rw [← e]; simp [hj]
  rw [this, List.flatMap_append]
  simp
theorem prg_len {h : Bk} {x y : Int} (fs : List Int) : (prg h x y fs).length ≤ fs.length := by
  unfold prg
  induction fs with
  | nil => simp
  | cons a fs ih =>
    rw [List.flatMap_cons, List.length_append, List.length_cons]
    have : (one h x y (h.qs.getD a.toNat q0)).length ≤ 1 := by unfold one; split <;> simp
    omega
set_option maxRecDepth 10000 in
set_option maxHeartbeats 8000000 in
theorem f9 (h : Bk) (am : Option Addr) (cm : Nat) (ms : List Mt) (x y : Int) (w : World) (hx0 : -9223372036854775808 ≤ x) (hx1 : x ≤ 9223372036854775807) (hy0 : -9223372036854775808 ≤ y) (hy1 : y ≤ 9223372036854775807) (hr : HasB w h) (hf : FitB h) (hz : SmlB h) (hm : HasM w am ms) (hfm : FitM ms) (hmx : ms.length ≤ maxLen) (hd : h.ts.length ≤ h.d) (hds : ∀ i, i < h.qs.length → (h.qs.getD i q0).s.length ≤ (h.qs.getD i q0).d) :
    Calls Tryz.prog 9 #[agB h, .slice am ms.length cm, .int .i64 x, .int .i64 y] w (GivesQ w (selF h ms x y)) := by
  obtain ⟨i0, hi, hz0, hz1, hz2⟩ := info_parts infoQ'
  obtain ⟨F, TT, LL, qs, a, c, ts, b, d⟩ := h
  have H0 := hid (HB.new hr)
  have HF := hid hf
  have HZ := hid hz
  have HM := hid hm
  have HFM := hid hfm
  have HMX := hid hmx
  have HD := hid hd
  have HDS := hid hds
  clear hr hf hz hm hfm hmx hd hds
  simp only [clB] at H0
  simp only [agB, clB]
  go_enter Tryz.func9, Tryz.ntmps9
  go_wp2_with fail
  refine (f26 ⟨F, TT, LL, qs, a, c, ts, b, d⟩ _ H0.out.has HF.out HZ.out).mono ?_
  rintro e w2 ⟨rfl, hb2⟩
  have H2 := hid (H0.out.below hb2)
  clear hb2 H0
  cases hg : gdB ⟨F, TT, LL, qs, a, c, ts, b, d⟩
  · have E := hid (selF_no (h := ⟨F, TT, LL, qs, a, c, ts, b, d⟩) (ms := ms) (x := x) (y := y) (fun g => by rw [hg] at g; cases g.1))
    go_wp2
    go_ret
    exact givesQ_no E.out H2.out.bel
  go_wp2_with fail
  refine (Pat.f27 am ms.length cm ms _ rfl HMX.out (HM.out.below H2.out.bel) HFM.out).mono ?_
  rintro e w3 ⟨rfl, hb3⟩
  have H3 := hid (H2.out.below hb3)
  clear hb3 H2
  cases hgm : goodM ms
  · have E := hid (selF_no (h := ⟨F, TT, LL, qs, a, c, ts, b, d⟩) (ms := ms) (x := x) (y := y) (fun g => by rw [hgm] at g; cases g.2))
    go_wp2
    go_ret
    exact givesQ_no E.out H3.out.bel
  have HGB := hid (gdB_iff.1 hg)
  have E : Hid (selF ⟨F, TT, LL, qs, a, c, ts, b, d⟩ ms x y = prg ⟨F, TT, LL, qs, a, c, ts, b, d⟩ x y (flt (hits ms qs ms.length) qs.length)) := by
    unfold Hid
    rw [selF_yes hg hgm]
    exact (prg_ans HGB.out qs.length (Nat.le_refl _)).symm
  have HGM := hid hgm
  have h200 : qs.length ≤ 200 := HGB.out.2.1.1
  clear hg hgm
  obtain ⟨b0, b1, b2, b3, b4⟩ := five H3.out.box
  go_wp2_with fail
  refine (f28 a c qs am cm ms _ H3.out.has.1 HGB.out.2.1 (HM.out.below H3.out.bel) HGM.out).mono ?_
  rintro e w4 ⟨r, rfl, ho4, hb4⟩
  have H4 := hid (H3.out.below hb4)
  obtain ⟨af, cf, rfl, _⟩ := own_slice ho4
  have HFs := hid (Ino.Own.has ho4).2
  have HAt : Hid (∀ j, j < (flt (hits ms qs ms.length) qs.length).length → ∃ i : Nat, i < qs.length ∧ (flt (hits ms qs ms.length) qs.length).getD j 0 = (i : Int)) := fun j hj => flt_at hj
  have hfl : (flt (hits ms qs ms.length) qs.length).length ≤ 200 := Nat.le_trans (flt_len _ _) h200
  clear ho4 hb4 H3 b0 b1 b2 b3 b4
  generalize flt (hits ms qs ms.length) qs.length = fs at *
  have hsz4 : w.heap.size ≤ w4.heap.size := H4.out.bel.size
  go_wp2
  go_loopw [9, 27] (fun so si wr => ∃ (k m c' : Nat) (a' : Option Addr) (R : List Q), k ≤ fs.length ∧ si = .int .i64 k ∧ so = .slice a' m c' ∧ Hid (OwnO w4.heap.size a' m c' R wr) ∧ Hid (R.map pl = prg ⟨F, TT, LL, qs, a, c, ts, b, d⟩ x y (fs.take k)) ∧ Hid (Below w4.heap.size w4 wr)) (fun _ si _ => fs.length - (intOf si).toNat)
  case atStart => exact ⟨0, 0, 0, none, [], Nat.zero_le _, rfl, rfl, OwnO.nil _ _, rfl, Below.refl _ _⟩
  case round =>
    obtain ⟨k, m, c', a', R, hk, rfl, rfl, HO, HS, HX⟩ := hrel
    by_cases hlt : k < fs.length
    rotate_left
    · obtain rfl : k = fs.length := by omega
      have G : Hid (OwnO w.heap.size a' m c' R wr ∧ R.map pl = selF ⟨F, TT, LL, qs, a, c, ts, b, d⟩ ms x y ∧ Below w.heap.size w wr) := ⟨OwnO_base HO.out hsz4, by rw [E.out]; have h := HS.out; rw [List.take_length] at h; exact h, H4.out.bel.trans (HX.out.mono hsz4)⟩
      go_wp2
      go_ret
      exact ⟨a', m, c', R, rfl, G.out.1, G.out.2.1, G.out.2.2⟩
    obtain ⟨i, hin, hie⟩ := HAt.out k hlt
    have HHb := hid (H4.out.below HX.out)
    obtain ⟨b0, b1, b2, b3, b4⟩ := five HHb.out.box
    obtain ⟨bf, of, hbf, hbfl, hfc⟩ : ∃ bf of, af = some ⟨bf, of, none⟩ ∧ bf < wr.heap.size ∧ wr.cell? ⟨bf, of + k, none⟩ = some (.int .i64 (i : Int)) := by
      rcases HFs.out.below HX.out with h | ⟨bf, of, h1, h2, h3⟩
      · rw [h] at hlt; simp at hlt
      · exact ⟨bf, of, h1, h2, by rw [← hie]; exact h3 k hlt⟩
    subst hbf
    obtain ⟨bb, off, hbb, hbl, c0, c1, t1, t2⟩ := HHb.out.has.1.at2 i hin
    simp only at hbb c0 c1 t1 t2
    subst hbb
    have HQ := hid (HGB.out.2.1.2 i hin).1
    have HSp := hid (good_smp HGB.out hin)
    have HTk := hid (prg_take (h := ⟨F, TT, LL, qs, some ⟨bb, off, none⟩, c, ts, b, d⟩) (x := x) (y := y) hlt hie)
    have HDk := hid (HDS.out i hin)
    simp only at HSp HTk HDk
    have hm2 : m ≤ 200 := by have := HO.out.len; have := sel_len HS.out; have := prg_len (h := ⟨F, TT, LL, qs, some ⟨bb, off, none⟩, c, ts, b, d⟩) (x := x) (y := y) (fs.take k); rw [List.length_take] at this; omega
    have i1 : (k : Int) < (fs.length : Int) := by omega
    have i2 : (i : Int) < (qs.length : Int) := by omega
    generalize qs.getD i q0 = q at *
    have HGp := hid (good_goodP HQ.out.1.1)
    have HNe := hid (named_ne HQ.out.1)
    simp only [pl] at HGp HNe
    have hll : q.l.length ≤ 20 := HGp.out.1
    have hlp : 0 < q.l.length := List.length_pos_iff.2 HNe.out
    have hs2k : q.s.length ≤ 2000 := HSp.out.1
    have HPl : Hid ((pg (spans (own1 ts q.l)) q.s x y).length ≤ 2000) := Nat.le_trans (pg_len HSp.out HGB.out.2.2.2.2.2 (fun i hi => (good_stones HGB.out i hi).2.2.2.2)) hs2k
    have HW0 := hid ((Below.refl wr.heap.size wr).alloc (Nat.le_refl _) (.cells #[.slice q.a q.l.length q.c, .slice q.b q.s.length q.d] 61))
    have HBx := hid (heap_alloc_new wr (.cells #[.slice q.a q.l.length q.c, .slice q.b q.s.length q.d] 61))
    have HH1 := hid (HHb.out.below HW0.out)
    have HT1 := hid (t1.below HW0.out)
    have HT2 := hid (t2.below HW0.out)
    have hX0 : w4.heap.size ≤ wr.heap.size := HX.out.size
    clear t1 t2 hbl hie HFs HAt
    obtain ⟨W, hW⟩ : ∃ W, W = wr.alloc (.cells #[.slice q.a q.l.length q.c, .slice q.b q.s.length q.d] 61) := ⟨_, rfl⟩
    rw [← hW] at HW0 HBx HH1 HT1 HT2
    have hd2 : Below W.heap.size W W.drew := (Below.refl _ _).drew
    have HSt := hid (f30 ⟨F, TT, LL, qs, some ⟨bb, off, none⟩, c, ts, b, d⟩ q.a q.c q.l W.drew (HH1.out.has.below hd2) HZ.out HGB.out.2.2.2.2.2 HGB.out.2.2.2.1 HD.out (HT1.out.below hd2) (by omega))
    simp only [agB, clB] at HSt
    go_wp2_with fail
    rw [← hW]
    clear hW
    clear hfc b0 b1 b2 b3 b4 c0 c1
    generalize hB : wr.heap.size = B at *
    refine wp_region_held_drew (S := fun x => SM w.heap.size ⟨F, TT, LL, qs, some ⟨bb, off, none⟩, c, ts, b, d⟩ q B x) rfl (SM.new (kept HH1.out.box hd2) (kept HBx.out hd2)) (fun hHeld => ?_)
    refine wpAnyH_take (i := 0) (oi := { dst := some 36, op := _, type := _, pos := _, after := _, guard := _ }) (v := .pointer (some ⟨B, 1, none⟩)) rfl (by kernel_rfl) (by kernel_rfl) (by kernel_rfl) (fun _ _ _ h => h) (Or.inl ⟨by rfl, fun w hSw => by (try dsimp only at hSw); go_split_ands; go_simp⟩) (by assumption) ?_
    simp only [Act.put, List.setIfInBounds_toArray, List.set_cons_zero, List.set_cons_succ]
    refine wpAnyH_take (i := 1) (oi := { dst := some 37, op := _, type := _, pos := _, after := _, guard := _ }) (v := .slice q.b q.s.length q.d) rfl (by kernel_rfl) (by kernel_rfl) (by kernel_rfl) (fun _ _ _ h => h) (Or.inl ⟨by rfl, fun w hSw => by (try dsimp only at hSw); go_split_ands; go_simp⟩) (by assumption) ?_
    simp only [Act.put, List.setIfInBounds_toArray, List.set_cons_zero, List.set_cons_succ]
    refine wpAnyH_take (i := 2) (oi := { dst := some 38, op := _, type := _, pos := _, after := _, guard := _ }) (v := .agg #[.int .i64 F, .int .i64 TT, .int .i64 LL, .slice (some ⟨bb, off, none⟩) qs.length c, .slice b ts.length d]) rfl (by kernel_rfl) (by kernel_rfl) (by kernel_rfl) (fun _ _ _ h => h) (Or.inl ⟨by rfl, fun w hSw => by (try dsimp only at hSw); go_split_ands; go_simp⟩) (by assumption) ?_
    simp only [Act.put, List.setIfInBounds_toArray, List.set_cons_zero, List.set_cons_succ]
    refine wpAnyH_take (i := 3) (oi := { dst := some 39, op := _, type := _, pos := _, after := _, guard := _ }) (v := .pointer (some ⟨B, 0, none⟩)) rfl (by kernel_rfl) (by kernel_rfl) (by kernel_rfl) (fun _ _ _ h => h) (Or.inl ⟨by rfl, fun w hSw => by (try dsimp only at hSw); go_split_ands; go_simp⟩) (by assumption) ?_
    simp only [Act.put, List.setIfInBounds_toArray, List.set_cons_zero, List.set_cons_succ]
    refine wpAnyH_take (i := 4) (oi := { dst := some 40, op := _, type := _, pos := _, after := _, guard := _ }) (v := .slice q.a q.l.length q.c) rfl (by kernel_rfl) (by kernel_rfl) (by kernel_rfl) (fun _ _ _ h => h) (Or.inl ⟨by rfl, fun w hSw => by (try dsimp only at hSw); go_split_ands; go_simp⟩) (by assumption) ?_
    simp only [Act.put, List.setIfInBounds_toArray, List.set_cons_zero, List.set_cons_succ]
    refine wpAnyH_take (i := 6) (oi := { dst := some 42, op := _, type := _, pos := _, after := _, guard := _ }) (v := .int .i64 x) rfl (by kernel_rfl) (by kernel_rfl) (by kernel_rfl) (fun _ _ _ h => h) (Or.inl ⟨by rfl, fun w hSw => by (try dsimp only at hSw); go_split_ands; go_simp⟩) (by assumption) ?_
    simp only [Act.put, List.setIfInBounds_toArray, List.set_cons_zero, List.set_cons_succ]
    refine wpAnyH_take (i := 7) (oi := { dst := some 43, op := _, type := _, pos := _, after := _, guard := _ }) (v := .int .i64 y) rfl (by kernel_rfl) (by kernel_rfl) (by kernel_rfl) (fun _ _ _ h => h) (Or.inl ⟨by rfl, fun w hSw => by (try dsimp only at hSw); go_split_ands; go_simp⟩) (by assumption) ?_
    simp only [Act.put, List.setIfInBounds_toArray, List.set_cons_zero, List.set_cons_succ]
    refine wpAnyH_ready (rs := [5]) (by kernel_rfl) (by simp) (AllReadyH.cons (o := { dst := some 41, op := _, type := _, pos := _, after := _, guard := _ }) rfl ?_ AllReadyH.nil)
    intro K1 hK1
    go_simp
    go_wp2_with (go_at_call 30; refine HSt.out.mono ?_; rintro e w5 ⟨a5, L5, hL5, rfl, hT5, hb5⟩; have hw5 : Below W.heap.size W w5 := hd2.trans (hb5.mono hd2.size); have hq5 : SM w.heap.size ⟨F, TT, LL, qs, some ⟨bb, off, none⟩, c, ts, b, d⟩ q B w5 := SM.new (kept HH1.out.box hw5) (kept HBx.out hw5))
    refine hK1.out _ _ hq5 (fun _ => ?_)
    clear hK1 K1
    have HL5 := hid hL5.out
    have HT5 := hid hT5
    clear hHeld hL5 hT5 hb5
    have hL100 : L5.length ≤ 100 := by rw [HL5.out]; exact Nat.le_trans (List.length_filter_le _ _) HGB.out.2.2.2.1
    have HLt : Hid (∀ i, i < L5.length → 0 ≤ (L5.getD i t0).f ∧ (L5.getD i t0).f ≤ 1000000000001 ∧ 0 ≤ (L5.getD i t0).t ∧ (L5.getD i t0).t ≤ 1000000000001) := by
      intro i hi
      have hm : L5.getD i t0 ∈ ts := by
        have h1 : L5.getD i t0 = L5[i] := by simp [hi]
        have h2 : L5.getD i t0 ∈ own1 ts q.l := by rw [← HL5.out, h1]; exact List.getElem_mem hi
        exact (List.mem_filter.1 h2).1
      obtain ⟨j, hj, e⟩ := List.getElem_of_mem hm
      have := good_stones HGB.out j hj
      have e2 : ts.getD j t0 = L5.getD i t0 := by rw [← e]; simp [hj]
      simp only at this
      rw [e2] at this
      omega
    have HSL := hid (f29 q.b a5 q.d L5.length q.s L5 x y w5 hx0 hx1 hy0 hy1 HSp.out (HT2.out.below hw5) HDk.out HT5.out hL100 HLt.out (by rw [HL5.out]; exact HPl.out))
    refine wpAnyH_ready (rs := [8]) (by kernel_rfl) (by simp) (AllReadyH.cons (o := { dst := some 44, op := _, type := _, pos := _, after := _, guard := _ }) rfl ?_ AllReadyH.nil)
    intro K2 hK2
    go_simp
    go_wp2_with (go_at_call 29; refine HSL.out.mono ?_; rintro e w6 ⟨v6, rfl, hv6, hb6⟩; have hw6 : Below W.heap.size W w6 := hw5.trans (hb6.mono hw5.size); have hq6 : SM w.heap.size ⟨F, TT, LL, qs, some ⟨bb, off, none⟩, c, ts, b, d⟩ q B w6 := SM.new (kept HH1.out.box hw6) (kept HBx.out hw6))
    refine hK2.out _ _ hq6 (fun _ => ?_)
    clear hK2 K2
    have HV6 : Hid (Smp.Own w6 B v6 (pg (spans (own1 ts q.l)) q.s x y)) := by rw [← HL5.out]; exact World.ownsRow.mono hv6 (by have := hw5.size; have := HW0.out.size; omega)
    clear hq5 hv6 hb6 HSL HT5 HLt HL5
    obtain ⟨a6, c6, rfl⟩ := own_form HV6.out
    refine wpAnyH_take (i := 9) (oi := { dst := some 13, op := _, type := _, pos := _, after := _, guard := _ }) (v := .slice a6 (pg (spans (own1 ts q.l)) q.s x y).length c6) rfl (by kernel_rfl) (by kernel_rfl) (by kernel_rfl) (fun _ _ _ h => h) (Or.inl ⟨by rfl, fun w hSw => by (try dsimp only at hSw); go_split_ands; go_simp⟩) (by assumption) ?_
    simp only [Act.put, List.setIfInBounds_toArray, List.set_cons_zero, List.set_cons_succ]
    refine wpAnyH_done (by kernel_rfl) ?_ _
    clear hq6
    have HX6 : Hid (Below w4.heap.size w4 w6) := HX.out.trans ((HW0.out.trans (hw6.mono (by have := HW0.out.size; omega))).mono hX0)
    have HW6 : Hid (Below B wr w6) := HW0.out.trans (hw6.mono (by have := HW0.out.size; omega))
    have HT6 := hid (HT1.out.below hw6)
    have HB6 := hid (kept HBx.out hw6)
    have HOn : Hid (one ⟨F, TT, LL, qs, some ⟨bb, off, none⟩, c, ts, b, d⟩ x y q = if pg (spans (own1 ts q.l)) q.s x y = [] then [] else [(q.l, pg (spans (own1 ts q.l)) q.s x y)]) := rfl
    clear hw5 hw6 hd2 HSt HSp HH1 HT1 HT2 HBx HW0
    generalize pg (spans (own1 ts q.l)) q.s x y = C at *
    have hle2 : C.length ≤ 2000 := HPl.out
    obtain ⟨e0', e1'⟩ := two HB6.out
    by_cases hc : C = []
    · have HE2 : Hid (prg ⟨F, TT, LL, qs, some ⟨bb, off, none⟩, c, ts, b, d⟩ x y (fs.take (k + 1)) = prg ⟨F, TT, LL, qs, some ⟨bb, off, none⟩, c, ts, b, d⟩ x y (fs.take k)) := by unfold Hid; rw [HTk.out, HOn.out, if_pos hc, List.append_nil]
      have HO2 : Hid (OwnO w4.heap.size a' m c' R w6) := HO.out.below (by rw [hB]; exact HW6.out)
      have hl2 : C.length = 0 := by rw [hc]; rfl
      rw [hl2] at *
      clear hc
      go_wp2
      go_roundw
      case rel => exact ⟨k + 1, m, c', a', R, by omega, by go_num, rfl, HO2.out, by unfold Hid; rw [HE2.out]; exact HS.out, HX6.out⟩
      case measure => simp [intOf]; omega
    have HE3 : Hid (prg ⟨F, TT, LL, qs, some ⟨bb, off, none⟩, c, ts, b, d⟩ x y (fs.take (k + 1)) = prg ⟨F, TT, LL, qs, some ⟨bb, off, none⟩, c, ts, b, d⟩ x y (fs.take k) ++ [(q.l, C)]) := by unfold Hid; rw [HTk.out, HOn.out, if_neg hc]
    have hpos : 0 < C.length := List.length_pos_iff.2 hc
    obtain ⟨gs, c2, hgs0⟩ := own_form' HV6.out hpos
    simp only [Value.slice.injEq, true_and] at hgs0
    obtain ⟨rfl, rfl⟩ := hgs0
    clear hc
    have hpi : (0 : Int) < (C.length : Int) := by omega
    obtain ⟨bl, ol, hql⟩ : ∃ b o, q.a = some ⟨b, o, none⟩ := by
      rcases HT6.out with h | ⟨b, o, h, _⟩
      · exact absurd h HNe.out
      · exact ⟨b, o, h⟩
    have HT3 := HT6
    rw [hql] at HT3
    have HQL := hid hql
    clear hql
    go_wp2_with fail
    rw [HQL.out]
    refine (Srs.f31 bl ol q.c q.l _ (by omega) HT3.out).mono ?_
    rintro e w7 ⟨v7, rfl, ho7, hb7⟩
    have HW7 : Hid (Below B wr w7) := HW6.out.trans (hb7.mono (by have := HW6.out.size; omega))
    have HX7 : Hid (Below w4.heap.size w4 w7) := HX6.out.trans (hb7.mono HX6.out.size)
    obtain ⟨gl, cl7, rfl⟩ := own_form' ho7 hlp
    have HL7 : Hid (OwnL w7 B (.slice (some ⟨gl, 0, none⟩) q.l.length cl7) q.l) := own_base ho7 (by have := HW6.out.size; omega)
    have hgl : w6.heap.size ≤ gl := (ho7.lt gl rfl).1
    have HV7 : Hid (Smp.Own w7 B (.slice (some ⟨gs, 0, none⟩) C.length c6) C) := own_below HV6.out hb7
    have hgs : B ≤ gs ∧ gs < w6.heap.size := HV6.out.lt gs rfl
    have hne : gl ≠ gs := by omega
    clear ho7 hb7 HV6 HT3 HT6 e0' e1' HB6
    obtain ⟨q', hq'⟩ : ∃ q' : Q, q' = ⟨q.l, some ⟨gl, 0, none⟩, cl7, C, some ⟨gs, 0, none⟩, c6⟩ := ⟨_, rfl⟩
    have HQ4 : Hid (Own2 w4.heap.size q' w7 ∧ B ≤ blk q'.a ∧ B ≤ blk q'.b ∧ pl q' = (q.l, C) ∧ cl q' = [.slice (some ⟨gl, 0, none⟩) q.l.length cl7, .slice (some ⟨gs, 0, none⟩) C.length c6]) := by
      rw [hq']
      exact ⟨⟨rfl, rfl, own_base HL7.out hX0, own_base HV7.out hX0, hne⟩, (show B ≤ gl by omega), hgs.1, rfl, rfl⟩
    clear hq' HL7 HV7
    have HO7 : Hid (OwnO w4.heap.size a' m c' R w7) := HO.out.below (by rw [hB]; exact HW7.out)
    go_wp2_with (at_builtin; refine wpList_append_own_at _ rfl (.tmp 48) (.tmp 54) 29 rfl w4.heap.size 61 i0 (.agg #[.slice none 0 0, .slice none 0 0]) 2 48 Tryz.underlying29 hi hz0 hz1 hz2 rfl (by decide) _ _ _ rfl (HO7.out.row.alloc _) ⟨w7.heap.size, 0, none⟩ 1 1 [.slice (some ⟨gl, 0, none⟩) q.l.length cl7, .slice (some ⟨gs, 0, none⟩) C.length c6] rfl rfl ?d1 ?d2 ?d3 ?d4 ?d5 ?_)
    case d1 => first | exact two_new w7 _ _ _ | exact fun j u h => h
    case d2 => first | (intro u hu; simp at hu; rcases hu with rfl | rfl <;> rfl) | (refine ⟨?_, ?_⟩ <;> rfl) | rfl
    case d3 => unfold maxLen; omega
    case d4 => omega
    case d5 => have := HX7.out.size; simp; omega
    intro v8 w8 hown8 hgr8 _ hat8
    obtain ⟨a8, c8, rfl⟩ := own_form hown8
    have HX8 := hid ((HX7.out.alloc HX7.out.size (.cells #[.slice (some ⟨gl, 0, none⟩) q.l.length cl7, .slice (some ⟨gs, 0, none⟩) C.length c6] 61)).grown hgr8 (by have := HX7.out.size; simp; omega) (fun j hj => (HO7.out.row.lt j hj).1))
    have HO8 : Hid (OwnO w4.heap.size a8 (m + 1) c8 (R ++ [q']) w8) := by
      have hba := (Below.refl w7.heap.size w7).alloc (Nat.le_refl _) (.cells #[.slice (some ⟨gl, 0, none⟩) q.l.length cl7, .slice (some ⟨gs, 0, none⟩) C.length c6] 61)
      refine HO.out.push (by rw [hB]; exact HW7.out.trans (hba.mono (by have := HW7.out.size; omega))) (HQ4.out.1.below hba) (by rw [hB]; exact HQ4.out.2.1) (by rw [hB]; exact HQ4.out.2.2.1) hgr8 ?_ (by rw [World.size_alloc]; exact hat8)
      have e : flat (R ++ [q']) = flat R ++ [.slice (some ⟨gl, 0, none⟩) q.l.length cl7, .slice (some ⟨gs, 0, none⟩) C.length c6] := by
        rw [flat_append]
        show flat R ++ (cl q' ++ []) = _
        rw [HQ4.out.2.2.2.2, List.append_nil]
      rw [e]
      exact hown8
    have HS8 : Hid ((R ++ [q']).map pl = prg ⟨F, TT, LL, qs, some ⟨bb, off, none⟩, c, ts, b, d⟩ x y (fs.take (k + 1))) := by unfold Hid; rw [HE3.out, List.map_append, HS.out, List.map_singleton, HQ4.out.2.2.2.1]
    clear hown8 hgr8 hat8
    go_wp2
    go_roundw
    case rel => exact ⟨k + 1, m + 1, c8, a8, R ++ [q'], by omega, by go_num, rfl, HO8.out, HS8.out, HX8.out⟩
    case measure => simp [intOf]; omega
end Go.Proofs.YtjchioecfcnpfaaGreat.Blk
