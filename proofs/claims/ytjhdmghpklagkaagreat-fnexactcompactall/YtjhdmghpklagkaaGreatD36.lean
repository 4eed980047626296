/- What a block says of matchers and a span: the model's l9Select. -/
import Derived.Test.YtjhdmghpklagkaaGreatD07
import Derived.Test.YtjhdmghpklagkaaGreatD32
import Derived.Test.YtjhdmghpklagkaaGreatD33
import Derived.Test.YtjhdmghpklagkaaGreatD35
import Derived.Test.YtjhdmghpklagkaaGreatRows
import Derived.WalkKit
import Derived.ProofKit
import Derived.WalkSmall
import Derived.Below
import Derived.Handy
namespace Go.Proofs.YtjhdmghpklagkaaGreat.Blk
open Go.RowKit
open Go.Proofs.YtjhdmghpklagkaaGreat.Lab (Lb HasL cmpList OfV)
open Go.Proofs.YtjhdmghpklagkaaGreat.Smp (Sm HasS cut own_form)
open Go.Proofs.YtjhdmghpklagkaaGreat.Srs (hid lt_at kept Q HasQ FitQ SmlQ GoodQ agQ q0 two pl Pl OwnO sl hit LowQ Named flat infoQ' two_new sel_len good_goodP named_ne getD_snoc flat_append own_base own_below cl)
open Go.Proofs.YtjhdmghpklagkaaGreat.Stn (T HasT FitT SmlT agT t0 three Cells)
open Go.Proofs.YtjhdmghpklagkaaGreat.Pat (Mt HasM goodM allM FitM)

theorem step_append_at {P : Program} {ops : Array Oper} {o : Oper} {a : Act} {w : World} {K : Act → World → Prop} {Q : Exit → Act → World → Prop} {E : Prop}
    (hg : o.guard = none) (s x : Operand) (t : TypeId) (hop : o.op = Op.call { callee := Callee.builtin Builtin.append, args := #[s, x], argTypes := #[t, t] })
    (base : Nat) (e : TypeId) (i : TypeInfo) (z : Value) (size bytes : Nat) (h1 : P.underlying t = some (.slice e)) (h2 : P.info? e = some i) (h3 : i.zero = some z) (h4 : i.size = size) (h5 : i.bytes = bytes) (h6 : z.cells.size = size) (h7 : 0 < size)
    (ao : Option Addr) (n cap : Nat) (olds : List Value) (hs : a.eval s = .slice ao n cap) (hown : w.ownsRow base e size (.slice ao n cap) n olds)
    (ad : Addr) (m c : Nat) (news : List Value) (hx : a.eval x = .slice (some ad) m c) (hn : news.length = m * size) (hc : ∀ j u, news[j]? = some u → w.cell? (ad.add j) = some u) (h1c : ∀ u ∈ news, u.oneCell' = true)
    (b1 : n + m ≤ maxLen) (b2 : (n + m) * bytes ≤ 140737488355328) (hbase : base ≤ w.heap.size)
    (hK : ∀ v' w', w'.ownsRow base e size v' (n + m) (olds ++ news) → w.grownBy w' (Value.slice ao n cap).ownBlock → (v'.ownBlock = (Value.slice ao n cap).ownBlock ∨ v'.ownBlock = some w.heap.size) → K (a.put o.dst v') w') :
    if Region.wanted o (yielded ops a.tmps) = true then Oper.wp P o a w K Q else E := by
  have hw : Region.wanted o (yielded ops a.tmps) = true := by simp [Region.wanted, hg]
  rw [if_pos hw]
  obtain ⟨v', w', hrun, r1, r2, _, r4⟩ := run_append_own_at (P := P) w base t o.type e i z size bytes h1 h2 h3 h4 h5 h6 h7 (.slice ao n cap) n olds hown ad m c news hn hc h1c b1 b2 hbase
  unfold Oper.wp
  simp [execOp, hop, resolve, invoke, builtin, hs, hx, hrun, Result.andThen]
  exact hK v' w' r1 r2 r4
theorem cell_grown {w w' : World} {r : Option Nat} {b o : Nat} (hg : w.grownBy w' r) (hl : b < w.heap.size) (hne : r ≠ some b) : w'.cell? ⟨b, o, none⟩ = w.cell? ⟨b, o, none⟩ := by
  have h := hg.block b hl (fun e => hne e.symm)
  unfold World.cell?
  rw [h]
theorem hasL_grown {w w' : World} {r : Option Nat} {a : Option Addr} {l : List Lb} (h : HasL w a l) (hg : w.grownBy w' r) (hne : l ≠ [] → ∀ g oo, r = some g → a ≠ some ⟨g, oo, none⟩) : HasL w' a l := by
  rcases h with h | ⟨b, off, h1, h2, h3⟩
  · exact .inl h
  · by_cases e : l = []
    · exact .inl e
    · have hb : r ≠ some b := fun e2 => hne e b off e2 h1
      exact .inr ⟨b, off, h1, Nat.lt_of_lt_of_le h2 hg.size, fun i hi => ⟨(cell_grown hg h2 hb).trans (h3 i hi).1, (cell_grown hg h2 hb).trans (h3 i hi).2⟩⟩
theorem hasS_grown {w w' : World} {r : Option Nat} {a : Option Addr} {l : List Sm} (h : HasS w a l) (hg : w.grownBy w' r) (hne : l ≠ [] → ∀ g oo, r = some g → a ≠ some ⟨g, oo, none⟩) : HasS w' a l := by
  rcases h with h | ⟨b, off, h1, h2, h3⟩
  · exact .inl h
  · by_cases e : l = []
    · exact .inl e
    · have hb : r ≠ some b := fun e2 => hne e b off e2 h1
      exact .inr ⟨b, off, h1, Nat.lt_of_lt_of_le h2 hg.size, fun i hi => ⟨(cell_grown hg h2 hb).trans (h3 i hi).1, (cell_grown hg h2 hb).trans (h3 i hi).2⟩⟩
theorem hasL_lt {w : World} {a : Option Addr} {l : List Lb} (h : HasL w a l) (hne : l ≠ []) {g oo : Nat} (e : a = some ⟨g, oo, none⟩) : g < w.heap.size := by
  rcases h with h | ⟨b, off, h1, h2, h3⟩
  · exact absurd h hne
  · rw [h1] at e; cases e; exact h2
theorem hasS_lt {w : World} {a : Option Addr} {l : List Sm} (h : HasS w a l) (hne : l ≠ []) {g oo : Nat} (e : a = some ⟨g, oo, none⟩) : g < w.heap.size := by
  rcases h with h | ⟨b, off, h1, h2, h3⟩
  · exact absurd h hne
  · rw [h1] at e; cases e; exact h2
structure RowQ (X : Nat) (a : Option Addr) (n c : Nat) (R : List Q) (w : World) : Prop where
  len : R.length = n
  row : w.ownsRow X 80 2 (.slice a n c) n (flat R)
  lab : ∀ i, i < n → HasL w (R.getD i q0).a (R.getD i q0).l
  smp : ∀ i, i < n → HasS w (R.getD i q0).b (R.getD i q0).s
  off : ∀ g, (Value.slice a n c).ownBlock = some g → ∀ i, i < n → ((R.getD i q0).l ≠ [] → ∀ oo, (R.getD i q0).a ≠ some ⟨g, oo, none⟩) ∧ ((R.getD i q0).s ≠ [] → ∀ oo, (R.getD i q0).b ≠ some ⟨g, oo, none⟩)
theorem RowQ.nil (X : Nat) (w : World) : RowQ X none 0 0 [] w := ⟨rfl, World.ownsRow_nil _ _ _ _, fun i hi => by omega, fun i hi => by omega, fun g _ i hi => by omega⟩
theorem RowQ.below {X n c : Nat} {a : Option Addr} {R : List Q} {w w' : World} (h : RowQ X a n c R w) (hb : Below w.heap.size w w') : RowQ X a n c R w' := ⟨h.len, own_below h.row hb, fun i hi => (h.lab i hi).below hb, fun i hi => (h.smp i hi).below hb, h.off⟩
theorem RowQ.has {X n c : Nat} {a : Option Addr} {R : List Q} {w : World} (h : RowQ X a n c R w) : HasQ w a R := by
  rcases h.row.2 with ⟨h1, h2⟩ | ⟨g, cap, cur, h1, _⟩
  · exact .inl (List.eq_nil_of_length_eq_zero (h.len.trans h2))
  · have hr := h.row
    simp only [Value.slice.injEq] at h1
    obtain ⟨rfl, -, rfl⟩ := h1
    exact Srs.own_has hr fun i hi => ⟨h.lab i (by rw [← h.len]; exact hi), h.smp i (by rw [← h.len]; exact hi)⟩
theorem RowQ.push {X n c c' : Nat} {a a' : Option Addr} {R : List Q} {q : Q} {w W w' : World} (h : RowQ X a n c R w) (hb : Below w.heap.size w W) (hl : HasL W q.a q.l) (hs : HasS W q.b q.s)
    (h1 : ∀ g oo, X ≤ g → g < w.heap.size → q.l ≠ [] → q.a ≠ some ⟨g, oo, none⟩) (h2 : ∀ g oo, X ≤ g → g < w.heap.size → q.s ≠ [] → q.b ≠ some ⟨g, oo, none⟩)
    (hg : W.grownBy w' (Value.slice a n c).ownBlock) (hr : w'.ownsRow X 80 2 (.slice a' (n + 1) c') (n + 1) (flat (R ++ [q])))
    (hv : (Value.slice a' (n + 1) c').ownBlock = (Value.slice a n c).ownBlock ∨ (Value.slice a' (n + 1) c').ownBlock = some W.heap.size) : RowQ X a' (n + 1) c' (R ++ [q]) w' := by
  have hlen := h.len
  have hget : ∀ i, (R ++ [q]).getD i q0 = if i = n then q else R.getD i q0 := fun i => by rw [getD_snoc, hlen]
  have hob : ∀ g, (Value.slice a n c).ownBlock = some g → X ≤ g ∧ g < w.heap.size := fun g hgg => h.row.lt g hgg
  refine ⟨by simp [hlen], hr, fun i hi => ?_, fun i hi => ?_, fun g hg' i hi => ?_⟩
  · rw [hget]
    by_cases e : i = n
    · rw [if_pos e]; exact hasL_grown hl hg fun hne g oo hr => h1 g oo (hob g hr).1 (hob g hr).2 hne
    · rw [if_neg e]; exact hasL_grown ((h.lab i (by omega)).below hb) hg fun hne g oo hr => (h.off g hr i (by omega)).1 hne oo
  · rw [hget]
    by_cases e : i = n
    · rw [if_pos e]; exact hasS_grown hs hg fun hne g oo hr => h2 g oo (hob g hr).1 (hob g hr).2 hne
    · rw [if_neg e]; exact hasS_grown ((h.smp i (by omega)).below hb) hg fun hne g oo hr => (h.off g hr i (by omega)).2 hne oo
  · rw [hg'] at hv
    have hv' : some g = (Value.slice a n c).ownBlock ∨ some g = some W.heap.size := hv
    rw [hget]
    by_cases e : i = n
    · rw [if_pos e]
      rcases hv' with h3 | h3
      · have h4 := hob g h3.symm
        exact ⟨fun hne oo => h1 g oo h4.1 h4.2 hne, fun hne oo => h2 g oo h4.1 h4.2 hne⟩
      · have h4 := Option.some.inj h3
        refine ⟨fun hne oo e2 => ?_, fun hne oo e2 => ?_⟩
        · have := hasL_lt hl hne e2; omega
        · have := hasS_lt hs hne e2; omega
    · rw [if_neg e]
      have hi' : i < n := by omega
      rcases hv' with h3 | h3
      · exact h.off g h3.symm i hi'
      · have h4 := Option.some.inj h3
        have := hb.size
        refine ⟨fun hne oo e2 => ?_, fun hne oo e2 => ?_⟩
        · have := hasL_lt (h.lab i hi') hne e2; omega
        · have := hasS_lt (h.smp i hi') hne e2; omega
noncomputable def mdl (h : Bk) (ms : List Mt) : Nat → List Pl
  | 0 => []
  | k + 1 => mdl h ms k ++ (if allM ms (val (lb h.qs k)) = true then [(lb h.qs k, md (spans (own1 h.ts (lb h.qs k))) (h.qs.getD k q0).s)] else [])
theorem mdl_len (h : Bk) (ms : List Mt) : ∀ k, (mdl h ms k).length ≤ k := by
  intro k
  induction k with
  | zero => exact Nat.le_refl _
  | succ k ih => rw [mdl, List.length_append]; split <;> simp <;> omega
theorem sl_flat (vl : Srs.Vf) (ms : List Mt) (x y : Int) (R : List Q) : ∀ k, k ≤ R.length → sl vl ms R x y k = ((R.take k).map pl).flatMap (hit vl ms x y) := by
  intro k
  induction k with
  | zero => intro _; simp [sl]
  | succ k ih =>
    intro hk
    rw [sl, ih (by omega), List.take_add_one]
    have : R[k]? = some (R.getD k q0) := by simp [show k < R.length by omega]
    rw [this]
    simp
noncomputable def ansM (h : Bk) (ms : List Mt) (x y : Int) : List Pl := (mdl h ms h.qs.length).flatMap (hit val [] x y)
theorem good_stones {h : Bk} (g : GoodB h) : ∀ i, i < h.ts.length → 0 ≤ (h.ts.getD i t0).f ∧ (h.ts.getD i t0).f ≤ 1000000000001 ∧ 0 ≤ (h.ts.getD i t0).t ∧ (h.ts.getD i t0).t ≤ 1000000000001 ∧ (h.ts.getD i t0).f ≤ (h.ts.getD i t0).t := by
  intro i hi
  obtain ⟨_, h1, h2, h3⟩ := g.2.2.2.2.1 i hi
  have := g.1
  unfold Head at this
  omega
structure KM (w : World) (h : Bk) (am : Option Addr) (ms : List Mt) (x : World) : Prop where
  box : x.heap[w.heap.size]? = some (.cells (clB h) 36)
  has : HasB x h
  mat : HasM x am ms
  bel : Below w.heap.size w x
theorem KM.below {w : World} {h : Bk} {am : Option Addr} {ms : List Mt} {x y : World} (g : KM w h am ms x) (hb : Below x.heap.size x y) : KM w h am ms y := ⟨kept g.box hb, g.has.below hb, g.mat.below hb, g.bel.trans (hb.mono g.bel.size)⟩
theorem KM.new {w : World} {h : Bk} {am : Option Addr} {ms : List Mt} (hr : HasB w h) (hm : HasM w am ms) : KM w h am ms (w.alloc (.cells (clB h) 36)) := by
  have hb := (Below.refl w.heap.size w).alloc (Nat.le_refl _) (.cells (clB h) 36)
  exact ⟨heap_alloc_new w _, hr.below hb, hm.below hb, hb⟩
abbrev SM (X : Nat) (h : Bk) (q : Q) (B : Nat) (x : World) : Prop :=
  x.cell? ⟨X, 0, none⟩ = some (.int .i64 h.F) ∧ x.cell? ⟨X, 1, none⟩ = some (.int .i64 h.T) ∧ x.cell? ⟨X, 2, none⟩ = some (.int .i64 h.L) ∧ x.cell? ⟨X, 3, none⟩ = some (.slice h.a h.qs.length h.c) ∧ x.cell? ⟨X, 4, none⟩ = some (.slice h.b h.ts.length h.d) ∧
  x.cell? ⟨B, 0, none⟩ = some (.slice q.a q.l.length q.c) ∧ x.cell? ⟨B, 1, none⟩ = some (.slice q.b q.s.length q.d)
theorem SM.new {X : Nat} {h : Bk} {q : Q} {B : Nat} {x : World} (h0 : x.heap[X]? = some (.cells (clB h) 36)) (h1 : x.heap[B]? = some (.cells #[.slice q.a q.l.length q.c, .slice q.b q.s.length q.d] 80)) : SM X h q B x := by
  obtain ⟨b0, b1, b2, b3, b4⟩ := five h0
  obtain ⟨c0, c1⟩ := two h1
  exact ⟨b0, b1, b2, b3, b4, c0, c1⟩
theorem Own2_base {X Y : Nat} {q : Q} {w : World} (h : Srs.Own2 X q w) (hy : Y ≤ X) : Srs.Own2 Y q w := ⟨h.ha, h.hb, own_base h.lab hy, own_base h.smp hy, h.ne⟩
theorem OwnO_base {X Y n c : Nat} {a : Option Addr} {qs : List Q} {w : World} (h : OwnO X a n c qs w) (hy : Y ≤ X) : OwnO Y a n c qs w := ⟨h.len, own_base h.row hy, fun i hi => Own2_base (h.own i hi) hy, h.nea, h.dis⟩
theorem md_nil : ∀ S : List Sp, md S [] = [] := by
  intro S
  induction S with
  | nil => rfl
  | cons p S ih => obtain ⟨f, t⟩ := p; exact ih
set_option maxRecDepth 10000 in
set_option maxHeartbeats 8000000 in
theorem f75 (h : Bk) (am : Option Addr) (cm : Nat) (ms : List Mt) (x y : Int) (w : World) (hr : HasB w h) (hf : FitB h) (hz : SmlB h) (hg : GoodB h) (hm : HasM w am ms) (hgm : goodM ms = true) :
    Calls Tryz.prog 75 #[agB h, .slice am ms.length cm, .int .i64 x, .int .i64 y] w fun e w' => ∃ a' m' c' R, e = .returned (.slice a' m' c') ∧ Hid (OwnO w.heap.size a' m' c' R w') ∧ Hid (R.map pl = ansM h ms x y) ∧ Below w.heap.size w w' := by
  obtain ⟨i0, hi, hz0, hz1, hz2⟩ := info_parts infoQ'
  obtain ⟨F, TT, LL, qs, a, c, ts, b, d⟩ := h
  have HR0 := hid hr
  have HM0 := hid hm
  have H0 := hid (KM.new hr hm)
  have HZ := hid hz
  have HF := hid hf
  have HG := hid hg
  have HGM := hid hgm
  have h200 : qs.length ≤ 200 := HG.out.2.1.1
  clear hr hm hz hf hg hgm
  simp only [clB] at H0
  obtain ⟨b0, b1, b2, b3, b4⟩ := five H0.out.box
  simp only [agB, clB]
  go_enter Tryz.func75, Tryz.ntmps75
  go_wp2
  go_loopw [9, 15] (fun so si wr => ∃ (k m c' : Nat) (a' : Option Addr) (R : List Q), k ≤ qs.length ∧ si = .int .i64 k ∧ so = .slice a' m c' ∧ Hid (RowQ (w.heap.size + 1) a' m c' R wr) ∧ Hid (R.map pl = mdl ⟨F, TT, LL, qs, a, c, ts, b, d⟩ ms k) ∧ Hid (∀ i, i < m → Named (R.getD i q0).l ∧ (R.getD i q0).s.length ≤ 2000) ∧ Hid (KM w ⟨F, TT, LL, qs, a, c, ts, b, d⟩ am ms wr)) (fun _ si _ => qs.length - (intOf si).toNat)
  case atStart => exact ⟨0, 0, 0, none, [], Nat.zero_le _, rfl, rfl, RowQ.nil _ _, rfl, fun i hi => by omega, H0.out⟩
  case round =>
    clear b0 b1 b2 b3 b4 H0
    obtain ⟨k, m, c', a', R, hk, rfl, rfl, HO, HS, HNm, HX⟩ := hrel
    have hm2 : m ≤ k := by have := HO.out.len; have := sel_len HS.out; have := mdl_len ⟨F, TT, LL, qs, a, c, ts, b, d⟩ ms k; omega
    by_cases hlt : k < qs.length
    rotate_left
    · obtain rfl : k = qs.length := by omega
      have HLow : Hid (LowQ R) := ⟨by rw [HO.out.len]; omega, fun i hi => HNm.out i (by rw [← HO.out.len]; exact hi)⟩
      have HEq : Hid (sl val [] R x y m = ansM ⟨F, TT, LL, qs, a, c, ts, b, d⟩ ms x y) := by
        unfold Hid ansM
        rw [← HS.out, sl_flat _ _ _ _ _ m (by rw [HO.out.len]; exact Nat.le_refl _), List.take_of_length_le (by rw [HO.out.len]; exact Nat.le_refl _)]
      go_wp2_with fail
      refine (Srs.f115w val val_of a' none m c' 0 0 R [] x y _ HO.out.len rfl HO.out.has (.inl rfl) HLow.out (by rfl)).mono ?_
      rintro e w2 ⟨a2, m2, c2, R2, rfl, ho2, hs2, hb2⟩
      have HO2 : Hid (OwnO w.heap.size a2 m2 c2 R2 w2) := OwnO_base ho2 HX.out.bel.size
      have HX2 := hid (HX.out.below hb2)
      have HS2 := hid hs2
      rw [HEq.out] at HS2
      clear ho2 hs2 hb2
      go_wp2
      go_ret
      exact ⟨a2, m2, c2, R2, rfl, HO2, HS2, HX2.out.bel⟩
    obtain ⟨bb, off, hbb, hbl, c0, c1, t1, t2⟩ := HX.out.has.1.at2 k hlt
    have u1 : HasL w (qs.getD k q0).a (qs.getD k q0).l := by obtain ⟨_, _, _, _, _, _, u1, u2⟩ := HR0.out.1.at2 k hlt; exact u1
    have u2 : HasS w (qs.getD k q0).b (qs.getD k q0).s := by obtain ⟨_, _, _, _, _, _, u1, u2⟩ := HR0.out.1.at2 k hlt; exact u2
    simp only at hbb c0 c1 t1 t2 u1 u2
    subst hbb
    have HQ := hid (HG.out.2.1.2 k hlt).1
    have HMk : Hid (mdl ⟨F, TT, LL, qs, some ⟨bb, off, none⟩, c, ts, b, d⟩ ms (k + 1) = mdl ⟨F, TT, LL, qs, some ⟨bb, off, none⟩, c, ts, b, d⟩ ms k ++ (if allM ms (val (lb qs k)) = true then [(lb qs k, md (spans (own1 ts (lb qs k))) (qs.getD k q0).s)] else [])) := rfl
    simp only [lb] at HMk
    have i1 : (k : Int) < (qs.length : Int) := by omega
    generalize qs.getD k q0 = q at *
    have HGp := hid (good_goodP HQ.out.1.1)
    have HNd : Hid (Named q.l) := HQ.out.1
    have hs2k : q.s.length ≤ 2000 := (of_decide_eq_true (p := Smp.GoodP q.s) HQ.out.2.1).1
    simp only [pl] at HGp
    have hll : q.l.length ≤ 20 := HGp.out.1
    have HFar : Hid ((∀ g oo, w.heap.size ≤ g → q.l ≠ [] → q.a ≠ some ⟨g, oo, none⟩) ∧ (∀ g oo, w.heap.size ≤ g → q.s ≠ [] → q.b ≠ some ⟨g, oo, none⟩)) :=
      ⟨fun g oo hg hne e => by have := hasL_lt u1 hne e; omega, fun g oo hg hne e => by have := hasS_lt u2 hne e; omega⟩
    have HW0 := hid ((Below.refl wr.heap.size wr).alloc (Nat.le_refl _) (.cells #[.slice q.a q.l.length q.c, .slice q.b q.s.length q.d] 80))
    have HBx := hid (heap_alloc_new wr (.cells #[.slice q.a q.l.length q.c, .slice q.b q.s.length q.d] 80))
    have HX1 := hid (HX.out.below HW0.out)
    have HT1 := hid (t1.below HW0.out)
    have HT2 := hid (t2.below HW0.out)
    have HO1 := hid (HO.out.below HW0.out)
    have hX0 : w.heap.size ≤ wr.heap.size := HX.out.bel.size
    have HOB : Hid (∀ g, (Value.slice a' m c').ownBlock = some g → w.heap.size + 1 ≤ g ∧ g < wr.heap.size) := fun g hg => HO.out.row.lt g hg
    clear t1 t2 u1 u2 hbl HX HO
    go_wp2_with fail
    refine (Pat.f113 am q.a ms.length cm q.l.length q.c ms q.l (val q.l) _ rfl rfl HX1.out.mat HT1.out HGM.out HGp.out (val_of q.l)).mono ?_
    rintro e w2 ⟨rfl, hb2⟩
    have HX2 := hid (HX1.out.below hb2)
    have HT12 := hid (HT1.out.below hb2)
    have HT22 := hid (HT2.out.below hb2)
    have HO2 := hid (HO1.out.below hb2)
    have HB2 := hid (kept HBx.out hb2)
    have hsz : wr.heap.size < w2.heap.size := lt_at HB2.out
    clear hb2 HX1 HT1 HT2 HO1 HBx HW0 c0 c1
    generalize wr.heap.size = B at *
    cases hA : allM ms (val q.l)
    · have HE : Hid (mdl ⟨F, TT, LL, qs, some ⟨bb, off, none⟩, c, ts, b, d⟩ ms (k + 1) = mdl ⟨F, TT, LL, qs, some ⟨bb, off, none⟩, c, ts, b, d⟩ ms k) := by unfold Hid; rw [HMk.out, hA]; simp
      go_wp2
      go_roundw
      case rel => exact ⟨k + 1, m, c', a', R, by omega, by go_num, rfl, HO2, by unfold Hid; rw [HE.out]; exact HS.out, HNm, HX2⟩
      case measure => simp [intOf]; omega
    have HE : Hid (mdl ⟨F, TT, LL, qs, some ⟨bb, off, none⟩, c, ts, b, d⟩ ms (k + 1) = mdl ⟨F, TT, LL, qs, some ⟨bb, off, none⟩, c, ts, b, d⟩ ms k ++ [(q.l, md (spans (own1 ts q.l)) q.s)]) := by unfold Hid; rw [HMk.out, hA]; simp
    clear hA HMk
    have hd2 : Below w2.heap.size w2 w2.drew := (Below.refl _ _).drew
    have HAl := hid (f114 ⟨F, TT, LL, qs, some ⟨bb, off, none⟩, c, ts, b, d⟩ q w2.drew (HX2.out.has.below hd2) HZ.out HF.out.2.2.2.2.2.1 HG.out.2.2.2.1 (good_stones HG.out) (HT12.out.below hd2) (by omega) (HT22.out.below hd2) hs2k)
    simp only [agB, clB, agQ] at HAl
    have HOlt : Hid (∀ g, (Value.slice a' m c').ownBlock = some g → w.heap.size + 1 ≤ g ∧ g < B) := HOB
    go_wp2_with fail
    refine wp_region_held_drew (S := fun x => SM w.heap.size ⟨F, TT, LL, qs, some ⟨bb, off, none⟩, c, ts, b, d⟩ q B x) rfl (SM.new (kept HX2.out.box (Below.refl _ _).drew) (kept HB2.out (Below.refl _ _).drew)) (fun hHeld => ?_)
    refine tkH 0 (some 23) (.slice a' m c') rfl ?_
    simp only [Act.put, zzA, zzB, zzC]
    refine tkH 1 (some 24) (.pointer (some ⟨B, 0, none⟩)) rfl ?_
    simp only [Act.put, zzA, zzB, zzC]
    refine tkH 2 (some 25) (.slice q.a q.l.length q.c) rfl ?_
    simp only [Act.put, zzA, zzB, zzC]
    refine tkH 3 (some 26) (.agg #[.int .i64 F, .int .i64 TT, .int .i64 LL, .slice (some ⟨bb, off, none⟩) qs.length c, .slice b ts.length d]) rfl ?_
    simp only [Act.put, zzA, zzB, zzC]
    refine tkH 4 (some 27) (.agg #[.slice q.a q.l.length q.c, .slice q.b q.s.length q.d]) rfl ?_
    simp only [Act.put, zzA, zzB, zzC]
    refine wpAnyH_ready (rs := [5]) (by kernel_rfl) (by simp) (AllReadyH.cons (o := { dst := some 28, op := _, type := _, pos := _, after := _, guard := _ }) rfl ?_ AllReadyH.nil)
    intro K1 hK1
    go_simp
    go_wp2_with (go_at_call 114; refine HAl.out.mono ?_; rintro e w4 ⟨a4, c4, L, hL4, rfl, hs4, hlo4, hn4, hb4⟩; have hw4 : Below w2.heap.size w2 w4 := hd2.trans (hb4.mono hd2.size); have hq4 : SM w.heap.size ⟨F, TT, LL, qs, some ⟨bb, off, none⟩, c, ts, b, d⟩ q B w4 := SM.new (kept HX2.out.box hw4) (kept HB2.out hw4))
    refine hK1.out _ _ hq4 (fun _ => ?_)
    clear hK1 K1
    have HLo : Hid (∀ g oo, w.heap.size ≤ g → g < w2.heap.size → L ≠ [] → a4 ≠ some ⟨g, oo, none⟩) := by
      intro g oo h1 h2 h3 h4
      rcases hlo4 with e | e
      · have hq : q.s ≠ [] := by
          intro hq
          have hL := hL4.out
          rw [hq] at hL
          exact h3 (by rw [hL]; exact md_nil _)
        exact HFar.out.2 g oo h1 hq (by rw [← e]; exact h4)
      · have := e g oo h4; have := hd2.size; omega
    have HS4 := hid hs4.out
    have HL4 := hid hL4.out
    clear hHeld hb4 hs4 hlo4 hL4
    refine tkH 6 (some 29) (.agg #[.slice q.a q.l.length q.c, .slice a4 L.length c4]) rfl ?_
    simp only [Act.put, zzA, zzB, zzC]
    refine wpAnyH_ready (rs := [7]) (by kernel_rfl) (by simp) (AllReadyH.cons (o := { dst := some 30, op := _, type := _, pos := _, after := _, guard := _ }) rfl ?_ AllReadyH.nil)
    intro K2 hK2
    go_simp
    refine hK2.out _ _ (SM.new (kept HX2.out.box (hw4.alloc hw4.size _)) (kept HB2.out (hw4.alloc hw4.size _))) (fun hq5 => ?_)
    clear hK2 K2
    try simp only [Act.put, zzA, zzB, zzC]
    have hba := (Below.refl w4.heap.size w4).alloc (Nat.le_refl _) (.cells #[.slice q.a q.l.length q.c, .slice a4 L.length c4] 80)
    obtain ⟨q', hq'⟩ : ∃ q' : Q, q' = ⟨q.l, q.a, q.c, L, a4, c4⟩ := ⟨_, rfl⟩
    have HO5 := hid (((HO2.out.below hw4)).below hba)
    have hw5 := hw4.trans (hba.mono hw4.size)
    refine wpAnyH_ready (rs := [8]) (by kernel_rfl) (by simp) (AllReadyH.cons (o := { dst := some 31, op := _, type := _, pos := _, after := _, guard := _ }) rfl ?_ AllReadyH.nil)
    intro K3 hK3
    refine step_append_at rfl (.tmp 23) (.tmp 30) 33 rfl (w.heap.size + 1) 80 i0 (.agg #[.slice none 0 0, .slice none 0 0]) 2 48 Tryz.underlying33 hi hz0 hz1 hz2 rfl (by decide) _ _ _ _ rfl HO5.out.row ⟨w4.heap.size, 0, none⟩ 1 1 [.slice q.a q.l.length q.c, .slice a4 L.length c4] rfl rfl (two_new w4 _ _ _) (by intro u hu; simp at hu; rcases hu with rfl | rfl <;> rfl) (by unfold maxLen; omega) (by omega) (by have := hw5.size; omega) ?_
    intro v6 w6 hown6 hgr6 hat6
    obtain ⟨a6, c6, rfl⟩ := own_form hown6
    have HO6 : Hid (RowQ (w.heap.size + 1) a6 (m + 1) c6 (R ++ [q']) w6) := by
      refine HO2.out.push hw5 (q := q') ?_ ?_ ?_ ?_ hgr6 ?_ hat6
      · rw [hq']; exact HT12.out.below hw5
      · rw [hq']; exact HS4.out.below hba
      · rw [hq']; exact fun g oo h1 _ hne => HFar.out.1 g oo (by omega) hne
      · rw [hq']; exact fun g oo h1 h2 hne => HLo.out g oo (by omega) h2 hne
      · have e : flat (R ++ [q']) = flat R ++ [.slice q.a q.l.length q.c, .slice a4 L.length c4] := by rw [flat_append, hq']; rfl
        rw [e]; exact hown6
    have hbel6 : Below w.heap.size w w6 := (HX2.out.bel.trans (hw5.mono HX2.out.bel.size)).grown hgr6 (by have := hw5.size; have := HX2.out.bel.size; omega) (fun j hj => by have := (HOlt.out j hj).1; omega)
    have hbx6 : w6.heap[w.heap.size]? = some (.cells #[.int .i64 F, .int .i64 TT, .int .i64 LL, .slice (some ⟨bb, off, none⟩) qs.length c, .slice b ts.length d] 36) := (hgr6.block _ (lt_at (kept HX2.out.box hw5)) (fun e => by have := (HOlt.out _ e.symm).1; omega)).trans (kept HX2.out.box hw5)
    have hby6 : w6.heap[B]? = some (.cells #[.slice q.a q.l.length q.c, .slice q.b q.s.length q.d] 80) := (hgr6.block _ (lt_at (kept HB2.out hw5)) (fun e => by have := (HOlt.out _ e.symm).2; omega)).trans (kept HB2.out hw5)
    have hq6 : KM w ⟨F, TT, LL, qs, some ⟨bb, off, none⟩, c, ts, b, d⟩ am ms w6 := ⟨hbx6, HR0.out.below hbel6, HM0.out.below hbel6, hbel6⟩
    refine hK3.out _ _ (SM.new hbx6 hby6) (fun _ => ?_)
    clear hK3 K3
    simp only [Act.put, zzA, zzB, zzC]
    refine tkH 9 (some 9) (.slice a6 (m + 1) c6) rfl ?_
    simp only [Act.put, zzA, zzB, zzC]
    refine wpAnyH_done (by kernel_rfl) ?_ _
    have HX6 := hid hq6
    have HS6 : Hid ((R ++ [q']).map pl = mdl ⟨F, TT, LL, qs, some ⟨bb, off, none⟩, c, ts, b, d⟩ ms (k + 1)) := by unfold Hid; rw [HE.out, List.map_append, HS.out, hq', ← HL4.out]; rfl
    have HN6 : Hid (∀ i, i < m + 1 → Named ((R ++ [q']).getD i q0).l ∧ ((R ++ [q']).getD i q0).s.length ≤ 2000) := by
      intro i hi
      rw [getD_snoc, HO2.out.len]
      by_cases e : i = m
      · rw [if_pos e, hq']; exact ⟨HNd.out, hn4⟩
      · rw [if_neg e]; exact HNm.out i (by omega)
    clear hq6 hbx6 hby6 hbel6 hw5 hw4 hq5 hq4 hown6 hgr6 hat6 HO2 HX2 HB2 HT12 HT22 hq' hba
    go_wp2
    go_roundw
    case rel => exact ⟨k + 1, m + 1, c6, a6, R ++ [q'], by omega, by go_num, rfl, HO6, HS6, HN6, HX6⟩
    case measure => simp [intOf]; omega
end Go.Proofs.YtjhdmghpklagkaaGreat.Blk
namespace Go.Proofs.YtjhdmghpklagkaaGreat.Shf
open Go.RowKit

theorem hid {p : Prop} (h : p) : Hid p := h

def BadW (b l : Int) : Prop := b < 1 ∨ b > 1000000 ∨ l < 1 ∨ l > 4
instance (b l : Int) : Decidable (BadW b l) := by unfold BadW; infer_instance
def wid (b l : Int) : Int := if BadW b l then 0 else if l = 1 then b else if l = 2 then b * 3 else if l = 3 then b * 9 else b * 27
def Wk (b l k x : Int) : Prop := (k = l ∧ x = b) ∨ (k + 1 = l ∧ x = b * 3) ∨ (k + 2 = l ∧ x = b * 9) ∨ (k + 3 = l ∧ x = b * 27)
theorem Wk.lim {b l k x : Int} (h : Wk b l k x) (hb : ¬ BadW b l) (_ : 1 ≤ k) : 1 ≤ x ∧ x ≤ 27000000 ∧ k ≤ l := by
  unfold BadW at hb; unfold Wk at h; omega
theorem Wk.next {b l k x : Int} (h : Wk b l k x) (hb : ¬ BadW b l) (hk : 1 < k) : Wk b l (k - 1) (x * 3) := by
  unfold BadW at hb; unfold Wk at h ⊢; omega
theorem Wk.last {b l x : Int} (h : Wk b l 1 x) (hb : ¬ BadW b l) : x = wid b l := by
  unfold wid; rw [if_neg hb]; unfold BadW at hb; unfold Wk at h
  split
  · omega
  · split
    · omega
    · split <;> omega
theorem wid_bad {b l : Int} (h : BadW b l) : wid b l = 0 := if_pos h
theorem wid_pos {b l : Int} (h : ¬ BadW b l) : 1 ≤ wid b l ∧ wid b l ≤ 27000000 := by
  unfold wid; rw [if_neg h]; unfold BadW at h
  split
  · omega
  · split
    · omega
    · split <;> omega

set_option maxHeartbeats 1000000 in
theorem f64 (b l : Int) (w : World) (hb0 : -9223372036854775808 ≤ b) (hb1 : b ≤ 9223372036854775807) (hl0 : -9223372036854775808 ≤ l) (hl1 : l ≤ 9223372036854775807) :
    Calls Tryz.prog 64 #[.int .i64 b, .int .i64 l] w fun e w' => e = .returned (.int .i64 (wid b l)) ∧ Below w.heap.size w w' := by
  by_cases hbad : BadW b l
  · have HW := hid (wid_bad hbad)
    unfold BadW at hbad
    go_enter Tryz.func64, Tryz.ntmps64
    by_cases h1 : b < 1
    · go_wp2
      go_ret
      exact ⟨by rw [HW.out]; rfl, Below.refl _ _⟩
    · by_cases h2 : b > 1000000
      · go_wp2
        go_ret
        exact ⟨by rw [HW.out]; rfl, Below.refl _ _⟩
      · by_cases h3 : l < 1
        · go_wp2
          go_ret
          exact ⟨by rw [HW.out]; rfl, Below.refl _ _⟩
        · have h4 : l > 4 := by omega
          go_wp2
          go_ret
          exact ⟨by rw [HW.out]; rfl, Below.refl _ _⟩
  · have HB := hid hbad
    have h1 : ¬ b < 1 := fun h => hbad (.inl h)
    have h2 : ¬ b > 1000000 := fun h => hbad (.inr (.inl h))
    have h3 : ¬ l < 1 := fun h => hbad (.inr (.inr (.inl h)))
    have h4 : ¬ l > 4 := fun h => hbad (.inr (.inr (.inr h)))
    clear hbad
    go_enter Tryz.func64, Tryz.ntmps64
    go_wp2
    go_loopw [0, 1] (fun sx i wr => ∃ (k x : Int), 1 ≤ k ∧ i = .int .i64 k ∧ sx = .int .i64 x ∧ Hid (Wk b l k x) ∧ Hid (Below w.heap.size w wr)) (fun _ i _ => (intOf i).toNat)
    case atStart => exact ⟨l, b, by omega, rfl, rfl, .inl ⟨rfl, rfl⟩, Below.refl _ _⟩
    case round =>
      obtain ⟨k, x, hk, rfl, rfl, HK, HX⟩ := hrel
      obtain ⟨x0, x1, k1⟩ := HK.out.lim HB.out hk
      by_cases hlt : 1 < k
      · have HN := hid (HK.out.next HB.out hlt)
        go_wp2
        go_roundw
        case rel => exact ⟨k - 1, x * 3, by omega, rfl, rfl, HN, HX⟩
        case measure => simp [intOf]; omega
      · obtain rfl : k = 1 := by omega
        have HL := hid (HK.out.last HB.out)
        go_wp2
        go_ret
        exact ⟨by rw [← HL.out]; rfl, HX.out⟩

theorem f68 (b : Int) (w : World) :
    Calls Tryz.prog 68 #[.int .i64 b] w fun e w' => e = .returned (.bool (decide (1 ≤ b ∧ b ≤ 1000000))) ∧ w' = w := by
  go_enter Tryz.func68, Tryz.ntmps68
  by_cases h1 : b ≥ 1
  · by_cases h2 : b ≤ 1000000
    · have h : decide (1 ≤ b ∧ b ≤ 1000000) = true := by simp; omega
      rw [h]
      go_wp2
      go_ret
      exact ⟨rfl, rfl⟩
    · have h : decide (1 ≤ b ∧ b ≤ 1000000) = false := by simp; omega
      rw [h]
      go_wp2
      go_ret
      exact ⟨rfl, rfl⟩
  · have h : decide (1 ≤ b ∧ b ≤ 1000000) = false := by simp; omega
    rw [h]
    go_wp2
    go_ret
    exact ⟨rfl, rfl⟩
theorem f69 (b : Int) (w : World) :
    Calls Tryz.prog 69 #[.int .i64 b] w fun e w' => e = .returned (.bool (decide (1 ≤ b ∧ b ≤ 4))) ∧ w' = w := by
  go_enter Tryz.func69, Tryz.ntmps69
  by_cases h1 : b ≥ 1
  · by_cases h2 : b ≤ 4
    · have h : decide (1 ≤ b ∧ b ≤ 4) = true := by simp; omega
      rw [h]
      go_wp2
      go_ret
      exact ⟨rfl, rfl⟩
    · have h : decide (1 ≤ b ∧ b ≤ 4) = false := by simp; omega
      rw [h]
      go_wp2
      go_ret
      exact ⟨rfl, rfl⟩
  · have h : decide (1 ≤ b ∧ b ≤ 4) = false := by simp; omega
    rw [h]
    go_wp2
    go_ret
    exact ⟨rfl, rfl⟩

set_option maxHeartbeats 1000000 in
theorem f71 (b l : Int) (w : World) (hb0 : -9223372036854775808 ≤ b) (hb1 : b ≤ 9223372036854775807) (hl0 : -9223372036854775808 ≤ l) (hl1 : l ≤ 9223372036854775807) :
    Calls Tryz.prog 71 #[.int .i64 b, .int .i64 l] w fun e w' => e = .returned (.int .i64 (wid b l)) ∧ Below w.heap.size w w' := by
  by_cases g1 : 1 ≤ b ∧ b ≤ 1000000
  · have e1 : decide (1 ≤ b ∧ b ≤ 1000000) = true := decide_eq_true g1
    by_cases g2 : 1 ≤ l ∧ l ≤ 4
    · have e2 : decide (1 ≤ l ∧ l ≤ 4) = true := decide_eq_true g2
      have HB : Hid (¬ BadW b l) := by unfold Hid BadW; omega
      obtain ⟨p1, p2⟩ := g1
      obtain ⟨p3, p4⟩ := g2
      go_enter Tryz.func71, Tryz.ntmps71
      go_wp2_with fail
      refine (f68 b _).mono ?_
      rw [e1]
      rintro e w1 ⟨rfl, hw⟩; subst w1
      go_wp2_with fail
      refine (f69 l _).mono ?_
      rw [e2]
      rintro e w1 ⟨rfl, hw⟩; subst w1
      clear e1 e2
      go_wp2
      go_loopw [5, 17] (fun sx i wr => ∃ (k x : Int), 0 ≤ k ∧ k ≤ l - 1 ∧ i = .int .i64 k ∧ sx = .int .i64 x ∧ Hid (Wk b l (l - k) x) ∧ Hid (Below w.heap.size w wr)) (fun _ i _ => (l - intOf i).toNat)
      case atStart => exact ⟨0, b, by omega, by omega, rfl, rfl, .inl ⟨by omega, rfl⟩, Below.refl _ _⟩
      case round =>
        obtain ⟨k, x, hk, hk2, rfl, rfl, HK, HX⟩ := hrel
        obtain ⟨x0, x1, k1⟩ := HK.out.lim HB.out (by omega)
        by_cases hlt : k < l - 1
        · have HN := hid (HK.out.next HB.out (by omega))
          go_wp2
          go_roundw
          case rel => exact ⟨k + 1, x * 3, by omega, by omega, by go_num, rfl, by have := HN.out; rw [show l - (k + 1) = l - k - 1 by omega]; exact this, HX⟩
          case measure => simp [intOf]; omega
        · have HL : Hid (x = wid b l) := by have h := HK.out; rw [show l - k = 1 by omega] at h; exact h.last HB.out
          go_wp2
          go_ret
          exact ⟨by rw [← HL.out]; rfl, HX.out⟩
    · have e2 : decide (1 ≤ l ∧ l ≤ 4) = false := decide_eq_false g2
      have HW : Hid (wid b l = 0) := wid_bad (by unfold BadW; omega)
      clear g1 g2
      go_enter Tryz.func71, Tryz.ntmps71
      go_wp2_with fail
      refine (f68 b _).mono ?_
      rw [e1]
      rintro e w1 ⟨rfl, hw⟩; subst w1
      go_wp2_with fail
      refine (f69 l _).mono ?_
      rw [e2]
      rintro e w1 ⟨rfl, hw⟩; subst w1
      go_wp2
      go_ret
      exact ⟨by rw [HW.out]; rfl, Below.refl _ _⟩
  · have e1 : decide (1 ≤ b ∧ b ≤ 1000000) = false := decide_eq_false g1
    have HW : Hid (wid b l = 0) := wid_bad (by unfold BadW; omega)
    clear g1
    go_enter Tryz.func71, Tryz.ntmps71
    go_wp2_with fail
    refine (f68 b _).mono ?_
    rw [e1]
    rintro e w1 ⟨rfl, hw⟩; subst w1
    go_wp2
    go_ret
    exact ⟨by rw [HW.out]; rfl, Below.refl _ _⟩
end Go.Proofs.YtjhdmghpklagkaaGreat.Shf
