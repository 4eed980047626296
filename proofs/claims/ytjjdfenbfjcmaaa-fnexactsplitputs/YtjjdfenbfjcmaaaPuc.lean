/- Rows of puts of the call's own, whose labels may be none: marked, and held. -/
import Derived.Test.YtjjdfenbfjcmaaaPub
namespace Go.Proofs.Ytjjdfenbfjcmaaa.Ptn
open Go.RowKit
open Go.Proofs.Ytjjdfenbfjcmaaa.Lab (Lb HasL)

/-- Only blocks of which P tells are written. -/
structure Fw (P : Nat → Prop) (w x : World) : Prop where
  os : x.os = w.os
  tape : x.tape = w.tape
  output : x.output = w.output
  size : w.heap.size ≤ x.heap.size
  block : ∀ k, k < w.heap.size → ¬ P k → x.heap[k]? = w.heap[k]?
theorem Fw.refl (P : Nat → Prop) (w : World) : Fw P w w := ⟨rfl, rfl, rfl, Nat.le_refl _, fun _ _ _ => rfl⟩
theorem Fw.trans {P : Nat → Prop} {w x y : World} (h : Fw P w x) (g : Fw P x y) : Fw P w y :=
  ⟨g.os.trans h.os, g.tape.trans h.tape, g.output.trans h.output, Nat.le_trans h.size g.size, fun k hk hne => (g.block k (Nat.lt_of_lt_of_le hk h.size) hne).trans (h.block k hk hne)⟩
theorem Fw.mono {P P' : Nat → Prop} {w x : World} (h : Fw P w x) (hp : ∀ k, P k → P' k) : Fw P' w x := ⟨h.os, h.tape, h.output, h.size, fun k hk hne => h.block k hk fun e => hne (hp k e)⟩
theorem Fw.grown {P : Nat → Prop} {r : Nat} {w x : World} (h : w.grownBy x (some r)) (hr : P r) : Fw P w x :=
  ⟨h.os, h.tape, h.output, h.size, fun k hk hne => h.block k hk fun e => hne (by rw [Option.some.inj e]; exact hr)⟩
theorem Fw.below {P : Nat → Prop} {B : Nat} {w x : World} (h : Fw P w x) (hp : ∀ k, P k → B ≤ k) (hs : B ≤ w.heap.size) : Below B w x :=
  ⟨h.os, h.tape, h.output, h.size, fun k hk => h.block k (by omega) fun e => by have := hp k e; omega⟩
theorem Fw.ofBelow {P : Nat → Prop} {w x : World} (h : Below w.heap.size w x) : Fw P w x := ⟨h.os, h.tape, h.output, h.size, fun k hk _ => h.block k hk⟩
theorem own_fw {P : Nat → Prop} {w x : World} {base e size n : Nat} {v : Value} {xs : List Value} (h : w.ownsRow base e size v n xs) (hf : Fw P w x) (hg : ∀ g, v.ownBlock = some g → ¬ P g) : x.ownsRow base e size v n xs := by
  refine ⟨h.1, ?_⟩
  rcases h.2 with h1 | ⟨g', cap, cur, h1, h2, h3, h4⟩
  · exact .inl h1
  · exact .inr ⟨g', cap, cur, h1, h2, (hf.block g' (Array.getElem?_eq_some_iff.1 h3).1 (hg g' (by rw [h1]; rfl))).trans h3, h4⟩
/-- Rows of unlike elements lie apart. -/
theorem apart {w : World} {b1 b2 e1 e2 s1 s2 n1 n2 : Nat} {v1 v2 : Value} {x1 x2 : List Value} (h1 : w.ownsRow b1 e1 s1 v1 n1 x1) (h2 : w.ownsRow b2 e2 s2 v2 n2 x2) (hne : e1 ≠ e2) {g : Nat} (hg1 : v1.ownBlock = some g) (hg2 : v2.ownBlock = some g) : False := by
  rcases h1.2 with ⟨rfl, _⟩ | ⟨g1, c1, cur1, rfl, _, k1, _⟩
  · cases hg1
  · rcases h2.2 with ⟨rfl, _⟩ | ⟨g2, c2, cur2, rfl, _, k2, _⟩
    · cases hg2
    · simp only [Value.ownBlock, Option.some.injEq] at hg1 hg2
      subst hg1 hg2
      rw [k1] at k2
      simp only [Option.some.injEq, Obj.cells.injEq] at k2
      exact hne k2.2.1
/-- The block of a put's labels, where there are any. -/
def lbk (q : T) : Option Nat := if q.l.length = 0 then none else (Value.slice q.a q.l.length q.c).ownBlock
/-- A put's labels are none, or in memory of their own. -/
def OwnL (X : Nat) (q : T) (w : World) : Prop := q.l = [] ∨ ∃ g, q.a = some ⟨g, 0, none⟩ ∧ w.ownsRow X 55 2 (.slice (some ⟨g, 0, none⟩) q.l.length q.c) q.l.length (Lab.flat q.l)
theorem OwnL.below {X : Nat} {q : T} {w w' : World} (h : OwnL X q w) (hb : Below w.heap.size w w') : OwnL X q w' := by
  rcases h with h | ⟨g, h1, h2⟩
  · exact .inl h
  · exact .inr ⟨g, h1, own_below h2 hb⟩
theorem OwnL.base {X Y : Nat} {q : T} {w : World} (h : OwnL X q w) (hy : Y ≤ X) : OwnL Y q w := by
  rcases h with h | ⟨g, h1, h2⟩
  · exact .inl h
  · exact .inr ⟨g, h1, own_base h2 hy⟩
theorem OwnL.fw {P : Nat → Prop} {X : Nat} {q : T} {w w' : World} (h : OwnL X q w) (hf : Fw P w w') (hg : ∀ g, lbk q = some g → ¬ P g) : OwnL X q w' := by
  rcases h with h | ⟨g, h1, h2⟩
  · exact .inl h
  · by_cases h0 : q.l.length = 0
    · exact .inl (List.eq_nil_of_length_eq_zero h0)
    · exact .inr ⟨g, h1, own_fw h2 hf fun g' e => hg g' (by unfold lbk; rw [if_neg h0, h1]; exact e)⟩
theorem OwnL.has {X : Nat} {q : T} {w : World} (h : OwnL X q w) : HasL w q.a q.l := by
  rcases h with h | ⟨g, h1, h2⟩
  · rw [h]; exact .inl rfl
  · rw [h1]; exact Lab.HasL.own h2
theorem OwnL.lo {X g : Nat} {q : T} {w : World} (h : OwnL X q w) (hg : lbk q = some g) : X ≤ g ∧ g < w.heap.size := by
  rcases h with h | ⟨g', h1, h2⟩
  · unfold lbk at hg; rw [h] at hg; simp at hg
  · unfold lbk at hg
    rw [h1] at hg
    split at hg
    · cases hg
    · simp only [Value.ownBlock, Option.some.injEq] at hg
      subst hg
      exact h2.lt g' rfl
/-- Two puts' labels lie apart. -/
def Ap (p q : T) : Prop := lbk p = none ∨ lbk p ≠ lbk q
theorem Ap.symm {p q : T} (h : Ap p q) : Ap q p := by
  by_cases e : lbk q = none
  · exact .inl e
  · rcases h with h | h
    · exact .inr fun e2 => e (e2.trans h)
    · exact .inr fun e2 => h e2.symm
theorem Ap.no {p q : T} (h : Ap p q) {g : Nat} (h1 : lbk p = some g) (h2 : lbk q = some g) : False := by
  rcases h with h | h
  · rw [h] at h1; cases h1
  · exact h (h1.trans h2.symm)
theorem pair_get {R : T → T → Prop} (hs : ∀ p q, R p q → R q p) {ps : List T} (h : ps.Pairwise R) {i j : Nat} (hi : i < ps.length) (hj : j < ps.length) (hne : i ≠ j) : R (ps.getD i t0) (ps.getD j t0) := by
  have h1 : ps.getD i t0 = ps[i] := by simp [hi]
  have h2 : ps.getD j t0 = ps[j] := by simp [hj]
  rw [h1, h2]
  rcases Nat.lt_or_gt_of_ne hne with h' | h'
  · exact List.pairwise_iff_getElem.1 h i j hi hj h'
  · exact hs _ _ (List.pairwise_iff_getElem.1 h j i hj hi h')
theorem get_mem {ps : List T} {i : Nat} (hi : i < ps.length) : ps.getD i t0 ∈ ps := by
  have e : ps.getD i t0 = ps[i] := by simp [hi]
  rw [e]; exact List.getElem_mem hi
theorem mem_get {ps : List T} {q : T} (h : q ∈ ps) : ∃ i, i < ps.length ∧ ps.getD i t0 = q := by
  obtain ⟨i, hi, e⟩ := List.getElem_of_mem h
  exact ⟨i, hi, by simp [hi, e]⟩
/-- A row of puts of the call's own. -/
structure OwnP (X : Nat) (a : Option Addr) (n c : Nat) (ps : List T) (w : World) : Prop where
  len : ps.length = n
  row : w.ownsRow X 46 3 (.slice a n c) n (flat ps)
  lab : ∀ q ∈ ps, OwnL X q w
  dis : ps.Pairwise Ap
theorem OwnP.below {X n c : Nat} {a : Option Addr} {ps : List T} {w w' : World} (h : OwnP X a n c ps w) (hb : Below w.heap.size w w') : OwnP X a n c ps w' := ⟨h.len, own_below h.row hb, fun q hq => (h.lab q hq).below hb, h.dis⟩
theorem own_hasO {w : World} {base n c E : Nat} {a : Option Addr} {ts : List T} (h : w.ownsRow base E 3 (.slice a n c) n (flat ts)) (hT : ∀ q ∈ ts, HasL w q.a q.l) : HasT w a ts := by
  rcases h.2 with ⟨_, h2⟩ | ⟨g, cap, cur, h1, _⟩
  · have := h.1
    rw [flat_len, h2] at this
    exact .inl (List.eq_nil_of_length_eq_zero (by omega))
  · simp only [Value.slice.injEq] at h1
    rw [h1.1] at h ⊢
    exact own_has h fun i hi => hT _ (get_mem hi)
theorem OwnP.has {X n c : Nat} {a : Option Addr} {ps : List T} {w : World} (h : OwnP X a n c ps w) : HasT w a ps := own_hasO h.row fun q hq => (h.lab q hq).has
/-- What a copy is. -/
theorem OwnT.ownP {X g n : Nat} {ts : List T} {w : World} (h : OwnT X g n ts w) : OwnP X (some ⟨g, 0, none⟩) n n ts w := by
  refine ⟨h.kin.len, h.row, fun q hq => ?_, List.pairwise_iff_getElem.2 fun i j hi hj hij => ?_⟩
  · obtain ⟨i, hi, rfl⟩ := mem_get hq
    have ho := h.kin.own i (by rw [← h.kin.len]; exact hi)
    refine .inr ⟨_, ho.ha, ?_⟩
    exact ho.lab
  · have hl := h.kin.len
    have h1 := h.kin.dis i j hij (by omega)
    have o1 := h.kin.own i (by omega)
    have o2 := h.kin.own j (by omega)
    have e1 : ts.getD i t0 = ts[i] := by simp [hi]
    have e2 : ts.getD j t0 = ts[j] := by simp [hj]
    rw [e1, e2] at h1
    rw [e1] at o1
    rw [e2] at o2
    unfold Ap lbk
    by_cases h0 : (ts[i]).l.length = 0
    · left; rw [if_pos h0]
    · right
      rw [if_neg h0, o1.ha]
      by_cases h2 : (ts[j]).l.length = 0
      · rw [if_pos h2]; simp [Value.ownBlock]
      · rw [if_neg h2, o2.ha]
        simp only [Value.ownBlock, ne_eq, Option.some.injEq]
        omega
/-- A put marked from k on. -/
def mt (k : Nat) (q : T) : T := ⟨Lab.markL k q.l.length, q.a, q.c, (k + 2 * q.l.length : Nat), (k + 2 * q.l.length + 1 : Nat)⟩
/-- How far the marks of the first i puts reach. -/
def mk (ts : List T) (i : Nat) : Nat := 2 * tot ts i + 2 * i
def mts (k : Nat) (ts : List T) : List T := (List.range ts.length).map fun j => mt (k + mk ts j) (ts.getD j t0)
theorem mts_len (k : Nat) (ts : List T) : (mts k ts).length = ts.length := by simp [mts]
theorem mts_get (k : Nat) (ts : List T) (j : Nat) (h : j < ts.length) : (mts k ts).getD j t0 = mt (k + mk ts j) (ts.getD j t0) := by simp [mts, h]
theorem mk_succ (ts : List T) (i : Nat) : mk ts (i + 1) = mk ts i + 2 * (ts.getD i t0).l.length + 2 := by unfold mk; simp only [tot]; omega
theorem mk_mono (ts : List T) {i j : Nat} (h : i ≤ j) : mk ts i ≤ mk ts j := by unfold mk; have := tot_mono ts j i h; omega
theorem lbk_mt (k : Nat) (q : T) : lbk (mt k q) = lbk q := by simp [lbk, mt, Lab.markL_len]
/-- The first i of the puts are marked. -/
def half (k : Nat) (ts : List T) (i : Nat) : List T := (mts k ts).take i ++ ts.drop i
theorem half_len (k : Nat) (ts : List T) (i : Nat) (h : i ≤ ts.length) : (half k ts i).length = ts.length := by simp [half, mts_len]; omega
theorem half_get (k : Nat) (ts : List T) (i j : Nat) (h : i ≤ j) (hi : i ≤ ts.length) : (half k ts i).getD j t0 = ts.getD j t0 := by
  unfold half
  rw [List.getD_eq_getElem?_getD, List.getD_eq_getElem?_getD, List.getElem?_append_right (by simp [mts_len]; omega), List.getElem?_drop]
  congr 2
  simp [mts_len]; omega
theorem half_zero (k : Nat) (ts : List T) : half k ts 0 = ts := by simp [half]
theorem half_set (k : Nat) (ts : List T) (i : Nat) (h : i < ts.length) : (half k ts i).set i (mt (k + mk ts i) (ts.getD i t0)) = half k ts (i + 1) := by
  unfold half
  have hl : ((mts k ts).take i).length = i := by simp [mts_len]; omega
  have hg : (mts k ts)[i]? = some (mt (k + mk ts i) (ts.getD i t0)) := by
    rw [← mts_get k ts i h, List.getD_eq_getElem?_getD]
    have : i < (mts k ts).length := by rw [mts_len]; exact h
    simp [this]
  rw [List.set_append_right _ _ (by omega), hl, Nat.sub_self, List.drop_eq_getElem_cons h, List.set_cons_zero, List.take_add_one, hg, List.append_assoc]
  rfl
theorem half_end (k : Nat) (ts : List T) : half k ts ts.length = mts k ts := by
  unfold half
  rw [List.drop_eq_nil_of_le (Nat.le_refl _), List.append_nil, List.take_of_length_le (by rw [mts_len]; exact Nat.le_refl _)]
theorem getD_set (L : List T) (i j : Nat) (q : T) : (L.set i q).getD j t0 = if i = j ∧ i < L.length then q else L.getD j t0 := by
  rw [List.getD_eq_getElem?_getD, List.getD_eq_getElem?_getD]
  by_cases e : i = j
  · subst e
    by_cases h : i < L.length
    · rw [List.getElem?_set_self h, if_pos ⟨rfl, h⟩]; rfl
    · rw [if_neg (fun h' => h h'.2), List.getElem?_eq_none (by simp; omega), List.getElem?_eq_none (by omega)]
  · rw [List.getElem?_set_ne e, if_neg (fun h => e h.1)]
theorem lbk_half (k : Nat) (ts : List T) : ∀ i, i ≤ ts.length → ∀ j, lbk ((half k ts i).getD j t0) = lbk (ts.getD j t0) := by
  intro i
  induction i with
  | zero => intro _ j; rw [half_zero]
  | succ i ih =>
    intro hi j
    rw [← half_set k ts i (by omega), getD_set]
    split
    · rename_i e; obtain ⟨rfl, -⟩ := e; exact lbk_mt _ _
    · exact ih (by omega) j
theorem set_same {xs : List Value} {i : Nat} {v : Value} (h : xs[i]? = some v) : xs.set i v = xs := by
  apply List.ext_getElem?
  intro j
  by_cases e : i = j
  · subst e
    rw [List.getElem?_set_self (List.getElem?_eq_some_iff.1 h).1, h]
  · rw [List.getElem?_set_ne e]
/-- The block of the row, and those of the labels. -/
def PB (a : Option Addr) (n c : Nat) (ps : List T) (b : Nat) : Prop := (Value.slice a n c).ownBlock = some b ∨ ∃ q ∈ ps, lbk q = some b
theorem markNone (a : Option Addr) (c k : Nat) (w : World) : Calls Try.prog 27 #[.slice a 0 c, .int .i64 k] w fun e w' => e = .returned (.int .i64 k) ∧ w' = w := by
  go_enter Try.func27, Try.ntmps27
  go_wp2
  go_loop [1, 5] (fun sk i => sk = .int .i64 k ∧ i = .int .i64 0) (fun _ _ => 0)
  case atStart => exact ⟨rfl, rfl⟩
  case round =>
    obtain ⟨rfl, rfl⟩ := hrel
    go_wp2
    go_ret
    exact ⟨rfl, rfl⟩
theorem heldNone (a : Option Addr) (c k : Nat) (w : World) : Calls Try.prog 46 #[.slice a 0 c, .int .i64 k] w fun e w' => e = .returned (.int .i64 k) ∧ w' = w := by
  go_enter Try.func46, Try.ntmps46
  go_wp2
  go_loop [1, 5] (fun sk i => sk = .int .i64 k ∧ i = .int .i64 0) (fun _ _ => 0)
  case atStart => exact ⟨rfl, rfl⟩
  case round =>
    obtain ⟨rfl, rfl⟩ := hrel
    go_wp2
    go_ret
    exact ⟨rfl, rfl⟩
/-- The labels of one put, marked. -/
theorem markOne (X k : Nat) (q : T) (w : World) (hk : k + 2 * q.l.length ≤ 100000000) (ho : OwnL X q w) :
    Calls Try.prog 27 #[.slice q.a q.l.length q.c, .int .i64 k] w fun e w' => e = .returned (.int .i64 ((k + 2 * q.l.length : Nat) : Int)) ∧ OwnL X (mt k q) w' ∧ Fw (fun b => lbk q = some b) w w' := by
  by_cases h0 : q.l.length = 0
  · have e : q.l = [] := List.eq_nil_of_length_eq_zero h0
    rw [h0]
    refine (markNone q.a q.c k w).mono ?_
    rintro e' w' ⟨rfl, rfl⟩
    refine ⟨rfl, .inl ?_, Fw.refl _ _⟩
    simp [mt, h0, Lab.markL]
  · rcases ho with h | ⟨g, h1, h2⟩
    · rw [h] at h0; exact absurd rfl h0
    · rw [h1]
      refine (Lab.f27 g q.l.length q.c X k q.l w rfl hk h2).mono ?_
      rintro e' w' ⟨rfl, h3, h4⟩
      refine ⟨rfl, .inr ⟨g, h1, ?_⟩, Fw.grown h4 ?_⟩
      · simpa [mt, Lab.markL_len] using h3
      · unfold lbk; rw [if_neg h0, h1]; rfl
theorem heldOne (X k : Nat) (q : T) (w : World) (hk : k + 2 * q.l.length ≤ 100000000) (ho : OwnL X (mt k q) w) :
    Calls Try.prog 46 #[.slice q.a q.l.length q.c, .int .i64 k] w fun e w' => e = .returned (.int .i64 ((k + 2 * q.l.length : Nat) : Int)) ∧ Below w.heap.size w w' := by
  by_cases h0 : q.l.length = 0
  · rw [h0]
    refine (heldNone q.a q.c k w).mono ?_
    rintro e' w' ⟨rfl, rfl⟩
    exact ⟨rfl, Below.refl _ _⟩
  · rcases ho with h | ⟨g, h1, h2⟩
    · have := congrArg List.length h
      simp [mt, Lab.markL_len] at this
      rw [this] at h0; exact absurd rfl h0
    · have e : q.a = some ⟨g, 0, none⟩ := h1
      rw [e]
      exact Lab.f46 g q.l.length q.c k w hk (Lab.HasL.own h2)
/-- The puts while they are being marked. -/
structure Mp (X : Nat) (a : Option Addr) (n c k i : Nat) (ps : List T) (w x : World) : Prop where
  row : x.ownsRow X 46 3 (.slice a n c) n (flat (half k ps i))
  lab : ∀ j, j < n → OwnL X ((half k ps i).getD j t0) x
  fr : Fw (PB a n c ps) w x
theorem flat_mt (L : List T) (i k : Nat) (q : T) (hi : i < L.length) (hq : L.getD i t0 = q) : ((flat L).set (i * 3 + 1) (.int .i64 ((k + 2 * q.l.length : Nat) : Int))).set (i * 3 + 2) (.int .i64 ((k + 2 * q.l.length + 1 : Nat) : Int)) = flat (L.set i (mt k q)) := by
  rw [← flat_set L i (mt k q) hi]
  have e : (Value.slice (mt k q).a (mt k q).l.length (mt k q).c) = .slice q.a q.l.length q.c := by simp [mt, Lab.markL_len]
  rw [e]
  have h := (flat_get L i hi).1
  rw [hq] at h
  rw [set_same h]
  rfl
set_option maxHeartbeats 4000000 in
theorem f14 (X : Nat) (a : Option Addr) (n c k : Nat) (ps : List T) (w : World) (hb : n ≤ 1048576) (hk : k + mk ps n ≤ 100000000) (ho : OwnP X a n c ps w) :
    Calls Try.prog 14 #[.slice a n c, .int .i64 k] w fun e w' => e = .returned (.int .i64 ((k + mk ps n : Nat) : Int)) ∧ OwnP X a n c (mts k ps) w' ∧ Fw (PB a n c ps) w w' := by
  have HN := hid ho.len
  have HK := hid hk
  have HD := hid ho.dis
  have H0 : Hid (Mp X a n c k 0 ps w w) := ⟨by rw [half_zero]; exact ho.row, fun j hj => by rw [half_zero]; exact ho.lab _ (get_mem (by rw [ho.len]; exact hj)), Fw.refl _ _⟩
  have HDm : Hid ((mts k ps).Pairwise Ap) := by
    refine List.pairwise_iff_getElem.2 fun i j hi hj hij => ?_
    rw [mts_len] at hi hj
    have h1 := pair_get (fun p q h => Ap.symm h) ho.dis hi hj (by omega)
    have e1 : (mts k ps)[i]'(by rw [mts_len]; exact hi) = (mts k ps).getD i t0 := by simp [mts_len, hi]
    have e2 : (mts k ps)[j]'(by rw [mts_len]; exact hj) = (mts k ps).getD j t0 := by simp [mts_len, hj]
    rw [e1, e2, mts_get k ps i hi, mts_get k ps j hj]
    unfold Ap at h1 ⊢
    rw [lbk_mt, lbk_mt]
    exact h1
  clear hk ho
  go_enter Try.func14, Try.ntmps14
  go_wp2
  go_loopw [1, 5] (fun sk si wr => ∃ (i m : Nat), i ≤ n ∧ si = .int .i64 i ∧ sk = .int .i64 (m : Int) ∧ Hid (m = k + mk ps i) ∧ Hid (Mp X a n c k i ps w wr)) (fun _ si _ => n - (intOf si).toNat)
  case atStart => exact ⟨0, k, Nat.zero_le _, rfl, rfl, rfl, H0.out⟩
  case round =>
    clear H0
    obtain ⟨i, m, hi, rfl, rfl, hm, HM⟩ := hrel
    by_cases hlt : i < n
    rotate_left
    · obtain rfl : i = n := by omega
      have HE : Hid (OwnP X a i c (mts k ps) wr) := by
        have hr := HM.out.row
        have hl := HM.out.lab
        rw [← HN.out, half_end, HN.out] at hr
        rw [← HN.out, half_end, HN.out] at hl
        refine ⟨by rw [mts_len]; exact HN.out, hr, fun q hq => ?_, HDm.out⟩
        obtain ⟨j, hj, rfl⟩ := mem_get hq
        exact hl j (by rw [mts_len, HN.out] at hj; exact hj)
      have HX := hid HM.out.fr
      go_wp2
      go_ret
      exact ⟨by rw [← hm.out]; rfl, HE.out, HX.out⟩
    have hLn : (half k ps i).length = n := by rw [half_len k ps i (by rw [HN.out]; exact hi)]; exact HN.out
    obtain ⟨g, rfl⟩ : ∃ g, a = some ⟨g, 0, none⟩ := by
      rcases HM.out.row.2 with ⟨_, h2⟩ | ⟨g, cap, cur, h1, _⟩
      · omega
      · simp only [Value.slice.injEq] at h1
        exact ⟨g, h1.1⟩
    have hqi := half_get k ps i i (Nat.le_refl _) (by rw [HN.out]; exact hi)
    have HO := hid (HM.out.lab i hlt)
    obtain ⟨y0, y1, y2⟩ := flat_get (half k ps i) i (by rw [hLn]; exact hlt)
    have c0 := (HM.out.row.cellAt (i * 3) (by omega)).trans y0
    have HT := hid (mk_succ ps i)
    have HTn := hid (mk_mono ps (show i + 1 ≤ n by omega))
    obtain ⟨q, hq⟩ : ∃ q, q = ps.getD i t0 := ⟨_, rfl⟩
    have HQ := hid hq
    rw [hqi, ← hq] at c0 HO
    rw [← hq] at HT
    have HLq : Hid ((half k ps i).getD i t0 = q) := hqi.trans hq.symm
    have HLn := hid hLn
    clear hq hqi y0 y1 y2 hLn
    have N1 : Hid (m + 2 * q.l.length + 2 ≤ 100000000) := by unfold Hid; have := hm.out; have := HK.out; have := HTn.out; have := HT.out; omega
    go_wp2_with fail
    refine (markOne X m q _ (by have := N1.out; omega) HO.out).mono ?_
    rintro e w2 ⟨rfl, ho2, hf2⟩
    have HR2 := hid (own_fw HM.out.row hf2 (fun g' e1 e2 => by
      rcases HO.out with h | ⟨g3, h3, h4⟩
      · have e3 : lbk q = none := by unfold lbk; rw [h]; rfl
        rw [e3] at e2; cases e2
      · refine apart (w := wr) (g := g') HM.out.row h4 (by decide) e1 ?_
        have e2' : lbk q = some g' := e2
        unfold lbk at e2'
        split at e2'
        · cases e2'
        · rw [h3] at e2'; exact e2'))
    have HA2 : Hid (∀ j, j < n → j ≠ i → OwnL X ((half k ps i).getD j t0) w2) := fun j h1 h2 =>
      (HM.out.lab j h1).fw hf2 (fun g' e1 e2 => by
        rw [lbk_half k ps i (by rw [HN.out]; exact hi)] at e1
        rw [HQ.out] at e2
        exact (pair_get (fun p q h => Ap.symm h) HD.out (by rw [HN.out]; exact h1) (by rw [HN.out]; exact hlt) h2).no e1 e2)
    have HO2 := hid ho2
    have HF2 := hid (HM.out.fr.trans (hf2.mono (P' := PB (some ⟨g, 0, none⟩) n c ps) (fun b hb => .inr ⟨q, by rw [HQ.out]; exact get_mem (by rw [HN.out]; exact hlt), hb⟩)))
    obtain ⟨z0, z1, z2⟩ := flat_get (half k ps i) i (by rw [HLn.out]; exact hlt)
    have d1 := (HR2.out.cellAt (i * 3 + 1) (by omega)).trans z1
    have d2 := (HR2.out.cellAt (i * 3 + 2) (by omega)).trans z2
    have f1 := HR2.out.frozenAt (i * 3 + 1)
    have f2 := HR2.out.frozenAt (i * 3 + 2)
    obtain ⟨M, hM⟩ : ∃ M, M = m + 2 * q.l.length := ⟨_, rfl⟩
    have HMe := hid hM
    rw [← hM]
    have HE : Hid (M + 2 = k + mk ps (i + 1)) := by unfold Hid; have := hm.out; have := HT.out; omega
    have hM1 : M ≤ 99999999 := by have := N1.out; omega
    have HM3 : Hid (∀ x, x = (w2.setCell ⟨g, i * 3 + 1, none⟩ (.int .i64 (M : Int))).setCell ⟨g, i * 3 + 2, none⟩ (.int .i64 ((M : Int) + 1)) → Mp X (some ⟨g, 0, none⟩) n c k (i + 1) ps w x) := by
      rintro x rfl
      have s1 := HR2.out.stored (i * 3 + 1) (.int .i64 (M : Int))
      have s2 := s1.1.stored (i * 3 + 2) (.int .i64 ((M : Int) + 1))
      have hfl := flat_mt (half k ps i) i m q (by rw [HLn.out]; exact hlt) HLq.out
      have hst := half_set k ps i (by rw [HN.out]; exact hlt)
      rw [← HQ.out, ← hm.out] at hst
      rw [hst] at hfl
      have hgl : ∀ q', OwnL X q' w2 → ∀ b, lbk q' = some b → b ≠ g := fun q' ho' b hb e => by
        subst e
        rcases ho' with h | ⟨g3, h3, h4⟩
        · unfold lbk at hb; rw [h] at hb; cases hb
        · refine apart (w := w2) (g := b) HR2.out h4 (by decide) rfl ?_
          unfold lbk at hb
          split at hb
          · cases hb
          · rw [h3] at hb; exact hb
      refine ⟨?_, fun j hj => ?_, ?_⟩
      · rw [← hfl, ← HMe.out]
        have := s2.1
        simpa using this
      · have hkeep : ∀ q', OwnL X q' w2 → OwnL X q' ((w2.setCell ⟨g, i * 3 + 1, none⟩ (.int .i64 (M : Int))).setCell ⟨g, i * 3 + 2, none⟩ (.int .i64 ((M : Int) + 1))) := fun q' ho' =>
          ho'.fw ((Fw.grown (P := fun b => b = g) s1.2 rfl).trans (Fw.grown s2.2 rfl)) (fun b hb e => hgl q' ho' b hb e)
        rw [← hst, getD_set]
        by_cases e : i = j
        · rw [if_pos ⟨e, by rw [HLn.out]; exact hlt⟩]; exact hkeep _ HO2.out
        · rw [if_neg (fun h => e h.1)]; exact hkeep _ (HA2.out j hj (fun h => e h.symm))
      · exact HF2.out.trans ((Fw.grown (P := PB (some ⟨g, 0, none⟩) n c ps) s1.2 (.inl rfl)).trans (Fw.grown s2.2 (.inl rfl)))
    clear ho2 hf2 z0 z1 z2 c0 HM HR2 HA2 HF2 HO HO2 hM N1 HMe HLq HQ
    go_wp2
    go_roundw
    case rel => exact ⟨i + 1, M + 2, by omega, by go_num, by go_num, HE.out, HM3.out _ rfl⟩
    case measure => simp [intOf]; omega
set_option maxHeartbeats 4000000 in
theorem f28 (X : Nat) (a : Option Addr) (n c k : Nat) (ps : List T) (w : World) (hn : ps.length = n) (hb : n ≤ 1048576) (hk : k + mk ps n ≤ 100000000) (hr : OwnP X a n c (mts k ps) w) :
    Calls Try.prog 28 #[.slice a n c, .int .i64 k] w fun e w' => e = .returned (.int .i64 ((k + mk ps n : Nat) : Int)) ∧ Below w.heap.size w w' := by
  have HN := hid hn
  have HK := hid hk
  have HR := hid hr
  clear hn hk hr
  go_enter Try.func28, Try.ntmps28
  go_wp2
  go_loopw [1, 5] (fun sk si wr => ∃ (i m : Nat), i ≤ n ∧ si = .int .i64 i ∧ sk = .int .i64 (m : Int) ∧ Hid (m = k + mk ps i) ∧ Hid (Below w.heap.size w wr)) (fun _ si _ => n - (intOf si).toNat)
  case atStart => exact ⟨0, k, Nat.zero_le _, rfl, rfl, rfl, Below.refl _ _⟩
  case round =>
    obtain ⟨i, m, hi, rfl, rfl, hm, HX⟩ := hrel
    by_cases hlt : i < n
    rotate_left
    · obtain rfl : i = n := by omega
      go_wp2
      go_ret
      exact ⟨by rw [← hm.out]; rfl, HX.out⟩
    have hrw := HR.out.below HX.out
    obtain ⟨b, off, rfl, hbl, ⟨c0, c1, c2⟩, _⟩ := hrw.has.at2 i (by rw [mts_len, HN.out]; exact hlt)
    have ho := hrw.lab _ (get_mem (show i < (mts k ps).length by rw [mts_len, HN.out]; exact hlt))
    rw [mts_get k ps i (by rw [HN.out]; exact hlt)] at c0 c1 c2 ho
    clear hrw
    have HT := hid (mk_succ ps i)
    have HTn := hid (mk_mono ps (show i + 1 ≤ n by omega))
    rw [← hm.out] at c0 c1 c2 ho
    simp only [mt, Lab.markL_len] at c0 c1 c2
    have HO := hid ho
    generalize ps.getD i t0 = q at *
    have N1 : Hid (m + 2 * q.l.length + 2 ≤ 100000000) := by unfold Hid; have := hm.out; have := HK.out; have := HTn.out; have := HT.out; omega
    clear ho
    go_wp2_with fail
    refine (heldOne X m q _ (by have := N1.out; omega) HO.out).mono ?_
    rintro e w2 ⟨rfl, hb2⟩
    have HX2 := hid (HX.out.trans (hb2.mono HX.out.size))
    have d1 := (hb2.cell (p := ⟨b, off + i * 3 + 1, none⟩) hbl).trans c1
    have d2 := (hb2.cell (p := ⟨b, off + i * 3 + 2, none⟩) hbl).trans c2
    clear hb2 c0 c1 c2 hbl HX HO
    obtain ⟨m2, hm2e⟩ : ∃ m2, m2 = m + 2 * q.l.length := ⟨_, rfl⟩
    have HE2 : Hid (m2 + 2 = k + mk ps (i + 1)) := by unfold Hid; have := hm.out; have := HT.out; omega
    have hm4 : m2 ≤ 99999998 := by have := N1.out; omega
    rw [← hm2e] at d1 d2 ⊢
    have d2' : w2.cell? ⟨b, off + i * 3 + 2, none⟩ = some (.int .i64 ((m2 : Int) + 1)) := by rw [d2]; simp
    clear hm2e d2 N1
    have hm3 : ¬ (m2 : Int) < 0 := by omega
    have g1 : ((m2 : Int) != (m2 : Int)) = false := by simp
    have g2 : ((m2 : Int) + 1 != (m2 : Int) + 1) = false := by simp
    go_wp2
    go_roundw
    case rel => exact ⟨i + 1, m2 + 2, by omega, by go_num, by go_num, HE2.out, HX2.out⟩
    case measure => simp [intOf]; omega
end Go.Proofs.Ytjjdfenbfjcmaaa.Ptn
