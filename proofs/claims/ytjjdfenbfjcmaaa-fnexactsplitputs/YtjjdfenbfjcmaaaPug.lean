/- Puts that came in; the walk of FnExactSplitPuts. -/
import Derived.Test.YtjjdfenbfjcmaaaPuf
import Derived.Test.YtjjdfenbfjcmaaaOpn
import Derived.WalkKit
import Derived.ProofKit
import Derived.OpenShut
import Derived.ChangeOld
import Derived.Deep.Fields
namespace Go.Proofs.Ytjjdfenbfjcmaaa.Ptn
open Go.ChangeShapes Go.WideShapes Go.ChangeAt Go.RowKit Go.Deep Go.WideElems Go.Maps

theorem add_none (b off j : Nat) : (⟨b, off, none⟩ : Addr).add j = ⟨b, off + j, none⟩ := by
  simp [Addr.add]
section
variable {H : Type} {enc : TypeId × Value → H} {P : Program} {w : World} {base : Nat} {held : Bool}
/-- A slice whose elements are structs of three one-cell fields. -/
theorem open_threes {t e : TypeId} {g0 g1 g2 : Field} {fuel : Nat} {cs : List Value} {x : DataW H × List MemPlace} (ht : P.underlying t = some (.slice e)) (he : P.underlying e = some (.struct #[g0, g1, g2]))
    (ce : P.cellsOf e = 3) (o0 : g0.offset = 0) (o1 : g1.offset = 1) (o2 : g2.offset = 2) (c0 : P.cellsOf g0.type = 1) (c1 : P.cellsOf g1.type = 1) (c2 : P.cellsOf g2.type = 1)
    (h : DataW.trod enc P w base (fun _ => true) held fuel t cs = some x) :
    cs = [.slice none 0 0] ∨ ∃ (a : Addr) (len cap n : Nat), cs = [.slice (some a) len cap] ∧ len ≤ cap ∧ cap ≤ maxLen ∧ ∀ i, i < len → ∃ v0 v1 v2 y0 y1 y2, (w.cell? (a.add (i * 3)) = some v0 ∧ w.cell? (a.add (i * 3 + 1)) = some v1 ∧ w.cell? (a.add (i * 3 + 2)) = some v2) ∧
      DataW.trod enc P w base (fun _ => true) held n g0.type [v0] = some y0 ∧ DataW.trod enc P w base (fun _ => true) held n g1.type [v1] = some y1 ∧ DataW.trod enc P w base (fun _ => true) held n g2.type [v2] = some y2 := by
  rcases Deep.open_slice ht h with h0 | ⟨a, len, cap, m, n, D, Pl, rfl, hb, hl, hm, hmm, rfl, hx⟩
  · exact .inl h0.1
  right
  refine ⟨a, len, cap, n - 1, rfl, hl, hm, fun i hi => ?_⟩
  simp only [if_true] at hmm
  obtain ⟨cs', h1, h2⟩ := hx i (by omega)
  rw [ce] at h1
  obtain ⟨_, hlen, hcell⟩ := World.cells?_some h1
  obtain ⟨xs, k, hk, hxy, _, hxl, hf⟩ := DataW.trod_struct he h2
  have hk' : k = n - 1 := by omega
  subst hk'
  match xs, hxl, cs', hlen with
  | [y0, y1, y2], _, [v0, v1, v2], _ =>
    have q0 := hf 0 g0 rfl
    have q1 := hf 1 g1 rfl
    have q2 := hf 2 g2 rfl
    simp [o0, o1, o2, c0, c1, c2] at q0 q1 q2
    have e0 := hcell 0 (by omega)
    have e1 := hcell 1 (by omega)
    have e2 := hcell 2 (by omega)
    rw [Deep.add_add] at e0 e1 e2
    exact ⟨v0, v1, v2, y0, y1, y2, ⟨by simpa using e0, by simpa using e1, by simpa using e2⟩, q0, q1, q2⟩
end
theorem open_puts {H : Type} {enc : TypeId × Value → H} {W : World} {a0 : Option Addr} {len0 cap0 : Nat} {d : DataW H} {p : List MemPlace} (h : DataW.Trod enc Try.prog W 0 (fun _ => true) true 28 (.slice a0 len0 cap0) d p) :
    ∃ ts : List T, ts.length = len0 ∧ len0 ≤ maxLen ∧ HasT W a0 ts ∧ FitT ts := by
  obtain ⟨fuel, hf⟩ := h
  rcases open_threes Try.underlying28 Try.underlying43 (by kernel_rfl) rfl rfl rfl (by kernel_rfl) (by kernel_rfl) (by kernel_rfl) hf with hcs | ⟨a, len, cap, n, hcs, hl, hm, hx⟩
  · simp [Value.cells] at hcs
    obtain ⟨rfl, rfl, rfl⟩ := hcs
    exact ⟨[], rfl, Nat.zero_le _, .inl rfl, fun i => fit_t0⟩
  · simp [Value.cells] at hcs
    obtain ⟨rfl, rfl, rfl⟩ := hcs
    have key : ∀ i, i < len0 → ∃ q : T, (W.cell? (a.add (i * 3)) = some (.slice q.a q.l.length q.c) ∧ W.cell? (a.add (i * 3 + 1)) = some (.int .i64 q.f) ∧ W.cell? (a.add (i * 3 + 2)) = some (.int .i64 q.t)) ∧ Lab.HasL W q.a q.l ∧ Ft q := by
      intro i hi
      obtain ⟨v0, v1, v2, y0, y1, y2, ⟨e0, e1, e2⟩, g0, g1, g2⟩ := hx i hi
      obtain ⟨la, ll, lc, rfl⟩ : ∃ a l c, v0 = .slice a l c := by
        rcases Deep.open_slice Try.underlying41 g0 with ⟨hq, _⟩ | ⟨a, l, c, m, n', D, Pl, hq, _⟩
        · simp only [List.cons.injEq, and_true] at hq; exact ⟨_, _, _, hq⟩
        · simp only [List.cons.injEq, and_true] at hq; exact ⟨_, _, _, hq⟩
      obtain ⟨A, ea, _, w1⟩ := DataW.trod_int Try.underlying3 g1
      obtain ⟨B, eb, _, w2⟩ := DataW.trod_int Try.underlying3 g2
      simp only [List.cons.injEq, and_true] at ea eb
      subst ea eb
      obtain ⟨ls, q1, q2, q3, q4⟩ := Lab.open_labels (enc := enc) (a0 := la) (len0 := ll) (cap0 := lc) (W := W) (d := y0.1) (p := y0.2) ⟨n, by simpa [Value.cells] using g0⟩
      simp only [Lit.wf, Bool.and_eq_true, decide_eq_true_eq] at w1 w2
      subst q1
      exact ⟨⟨ls, la, lc, A, B⟩, ⟨e0, e1, e2⟩, q3, q4, q2, ⟨w1.1, w1.2⟩, ⟨w2.1, w2.2⟩⟩
    obtain ⟨q, hq⟩ := Deep.choose_lt (α := T) key
    have hg : ∀ i, i < len0 → ((List.range len0).map q).getD i t0 = q i := fun i hi => by simp [hi]
    refine ⟨(List.range len0).map q, by simp, by omega, ?_, ?_⟩
    · by_cases h0 : len0 = 0
      · subst h0; exact .inl rfl
      · obtain ⟨b, off, spot⟩ := a
        have h1 := (hq 0 (by omega)).1.1
        have hs : spot = none := by simpa [Addr.add] using World.cell?_spot h1
        subst hs
        refine .inr ⟨b, off, rfl, World.block_lt_of_cell? W _ h1, fun i hi => ?_⟩
        have hi' : i < len0 := by simpa using hi
        obtain ⟨⟨k0, k1, k2⟩, k7, _⟩ := hq i hi'
        rw [add_none] at k0 k1 k2
        rw [hg i hi']
        exact ⟨⟨k0, k1, k2⟩, k7⟩
    · intro i
      by_cases hi : i < len0
      · rw [hg i hi]; exact (hq i hi).2.2
      · rw [List.getD_eq_getElem?_getD, List.getElem?_eq_none (by simp; omega)]; exact fit_t0

theorem SameTo.same {n : Nat} {ts d : List T} (h : SameTo n ts d) : Same n ts d := fun i hi => (h i hi).1
theorem Same.two {n : Nat} {ts d d' : List T} (h1 : SameTo n ts d) (h2 : SameTo n ts d') : Same n d d' := fun i hi => (h2 i hi).1.trans (h1 i hi).1.symm
theorem getD_out {ts : List T} {i : Nat} (h : ¬ i < ts.length) : ts.getD i t0 = t0 := by
  rw [List.getD_eq_getElem?_getD, List.getElem?_eq_none (by omega)]; rfl
theorem FitT.same {n : Nat} {ts d : List T} (h : FitT ts) (h1 : d.length = n) (hs : Same n ts d) : FitT d := by
  intro i
  by_cases hi : i < n
  · have e := hs i hi
    simp only [pl, Prod.mk.injEq] at e
    have := h i
    unfold Ft at this ⊢
    rw [e.1, e.2.1, e.2.2]; exact this
  · rw [getD_out (by omega)]; exact fit_t0
theorem SmlT.same {n : Nat} {ts d : List T} (h : SmlT ts) (h0 : ts.length = n) (h1 : d.length = n) (hs : Same n ts d) : SmlT d := by
  intro i hi
  have e := hs i (by omega)
  simp only [pl, Prod.mk.injEq] at e
  have := h i (by omega)
  rw [e.1]; exact this
theorem tot_same {n : Nat} {ts d : List T} (h : Same n ts d) : ∀ k, k ≤ n → tot d k = tot ts k := by
  intro k
  induction k with
  | zero => intro _; rfl
  | succ k ih =>
    intro hk
    have e := h k (by omega)
    simp only [pl, Prod.mk.injEq] at e
    simp only [tot]
    rw [ih (by omega), e.1]
theorem map_same {n : Nat} {ts d : List T} (h0 : ts.length = n) (h1 : d.length = n) (hs : Same n ts d) : d.map pl = ts.map pl := by
  apply List.ext_getElem?
  intro i
  by_cases hi : i < n
  · have e := hs i hi
    have h2 : ts.getD i t0 = ts[i]'(by omega) := by simp [show i < ts.length by omega]
    have h3 : d.getD i t0 = d[i]'(by omega) := by simp [show i < d.length by omega]
    rw [h2, h3] at e
    simp [show i < ts.length by omega, show i < d.length by omega, e]
  · simp [List.getElem?_eq_none (show ts.length ≤ i by omega), List.getElem?_eq_none (show d.length ≤ i by omega)]
theorem OwnT.adr {X g n : Nat} {ts : List T} {w : World} (h : OwnT X g n ts w) : ∀ q ∈ ts, ∃ b off, q.a = some ⟨b, off, none⟩ := fun q hq => by
  obtain ⟨i, hi, rfl⟩ := mem_get hq
  exact ⟨_, 0, (h.kin.own i (by rw [← h.kin.len]; exact hi)).ha⟩
theorem PG.copy {X g n : Nat} {ts d : List T} {w : World} (ho : OwnT X g n d w) (hf : FitT ts) (hz : SmlT ts) (hn : ts.length = n) (hs : SameTo n ts d) : PG w (some ⟨g, 0, none⟩) d :=
  ⟨ho.has, hf.same ho.kin.len hs.same, hz.same hn ho.kin.len hs.same, ho.adr⟩
/-- A good label list is short. -/
theorem good_len {ls : List Lab.Lb} (h : Lab.goodL ls = true) : ls.length ≤ 20 := (show Lab.GoodP ls from of_decide_eq_true h).1
/-- What SplitPuts tells is not great. -/
theorem spl_small (P : List Pl) (s : Int) : (spl P s).length ≤ 50 ∧ ∀ L ∈ spl P s, L.length ≤ 2000 ∧ ∀ p ∈ L, p.1.length ≤ 20 := by
  unfold spl
  split
  · rename_i h
    refine ⟨by rw [shs_len]; omega, fun L hL => ?_⟩
    unfold shs at hL
    obtain ⟨j, _, rfl⟩ := List.mem_map.1 hL
    refine ⟨Nat.le_trans (List.length_filter_le _ _) h.2.1, fun p hp => ?_⟩
    have h1 := (List.mem_filter.1 hp).1
    have h2 := h.2.2
    unfold allG at h2
    exact good_len (List.all_eq_true.1 h2 p h1)
  · exact ⟨Nat.zero_le _, fun L hL => by cases hL⟩
theorem tot_small {ts : List T} (h : ∀ q ∈ ts, q.l.length ≤ 20) : ∀ k, k ≤ ts.length → tot ts k ≤ 20 * k := by
  intro k
  induction k with
  | zero => intro _; exact Nat.le_refl _
  | succ k ih =>
    intro hk
    have := ih (by omega)
    have := h _ (get_mem (show k < ts.length by omega))
    simp only [tot]; omega
theorem get_memS {R : List S} {i : Nat} (hi : i < R.length) : R.getD i s0 ∈ R := by
  have e : R.getD i s0 = R[i] := by simp [hi]
  rw [e]; exact List.getElem_mem hi
theorem ans_small {R : List S} {P : List Pl} {s : Int} (h : R.map plS = spl P s) : R.length ≤ 50 ∧ (∀ i, i < R.length → (R.getD i s0).ps.length ≤ 2000 ∧ ∀ q ∈ (R.getD i s0).ps, q.l.length ≤ 20) := by
  obtain ⟨h1, h2⟩ := spl_small P s
  rw [← h] at h1 h2
  refine ⟨by simpa using h1, fun i hi => ?_⟩
  obtain ⟨g1, g2⟩ := h2 (plS (R.getD i s0)) (List.mem_map_of_mem (get_memS hi))
  exact ⟨by simpa [plS] using g1, fun q hq => g2 (pl q) (List.mem_map_of_mem hq)⟩
theorem ans_sml {R : List S} {P : List Pl} {s : Int} (h : R.map plS = spl P s) : SmlS R := fun i hi => by
  obtain ⟨h1, h2⟩ := (ans_small h).2 i hi
  exact ⟨by omega, fun j hj => by have := h2 _ (get_mem hj); omega⟩
theorem ans_mk {R : List S} {P : List Pl} {s : Int} (h : R.map plS = spl P s) : ∀ i, i ≤ R.length → mkS R i ≤ 84000 * i := by
  intro i
  induction i with
  | zero => intro _; exact Nat.le_refl _
  | succ i ih =>
    intro hi
    have h1 := ih (by omega)
    obtain ⟨h2, h3⟩ := (ans_small h).2 i (by omega)
    have h4 := tot_small h3 (R.getD i s0).ps.length (Nat.le_refl _)
    simp only [mkS, mk]; omega
theorem AnsS.len {X m c : Nat} {a : Option Addr} {R : List S} {w : World} (h : AnsS X a m c R w) : R.length = m := by
  rcases h with ⟨_, h2, _, h4⟩ | ⟨g, _, _, h3⟩
  · rw [h2, h4]; rfl
  · exact h3.len
theorem AnsS.has {X m c : Nat} {a : Option Addr} {R : List S} {w : World} (h : AnsS X a m c R w) : HasSS w a R := by
  rcases h with ⟨_, _, _, h4⟩ | ⟨g, h1, _, h3⟩
  · exact .inl h4
  · rw [h1]; exact h3.has
theorem AnsS.fw {P : Nat → Prop} {X m c : Nat} {a : Option Addr} {R : List S} {w x : World} (h : AnsS X a m c R w) (hf : Fw P w x) (hp : ∀ b, P b → b < X) : AnsS X a m c R x := by
  rcases h with h | ⟨g, h1, h2, h3⟩
  · exact .inl h
  · have hno : ∀ b, X ≤ b → ¬ P b := fun b hb e => by have := hp b e; omega
    exact .inr ⟨g, h1, h2, h3.len, own_fw h3.row hf (fun b e => hno b (h3.row.lt b e).1), fun i hi => (h3.each i hi).fw hf (fun b e => hno b ((h3.each i hi).row.lt b e).1) (fun q hq b e => hno b (((h3.each i hi).lab q hq).lo e).1), h3.dir, h3.dis⟩
theorem markSSn (k : Nat) (w : World) : Calls Try.prog 15 #[.slice none 0 0, .int .i64 k] w fun e w' => e = .returned (.int .i64 k) ∧ w' = w := by
  go_enter Try.func15, Try.ntmps15
  go_wp2
  go_loopw [1, 5] (fun s i wr => s = .int .i64 k ∧ i = .int .i64 0 ∧ wr = w) (fun _ _ _ => 0)
  case atStart => exact ⟨rfl, rfl, rfl⟩
  case round =>
    obtain ⟨rfl, rfl, rfl⟩ := hrel
    go_wp2
    go_ret
    exact ⟨rfl, rfl⟩
theorem heldSSn (k : Nat) (w : World) : Calls Try.prog 16 #[.slice none 0 0, .int .i64 k] w fun e w' => e = .returned (.int .i64 k) ∧ w' = w := by
  go_enter Try.func16, Try.ntmps16
  go_wp2
  go_loopw [1, 5] (fun s i wr => s = .int .i64 k ∧ i = .int .i64 0 ∧ wr = w) (fun _ _ _ => 0)
  case atStart => exact ⟨rfl, rfl, rfl⟩
  case round =>
    obtain ⟨rfl, rfl, rfl⟩ := hrel
    go_wp2
    go_ret
    exact ⟨rfl, rfl⟩
/-- The answer, marked: nothing, or all of its rows. -/
def MdS (X : Nat) (a : Option Addr) (m c k : Nat) (R : List S) (w : World) : Prop := (a = none ∧ m = 0 ∧ c = 0 ∧ R = []) ∨ ∃ g, a = some ⟨g, 0, none⟩ ∧ c = m ∧ Md X g m k R w
theorem MdS.below {X m c k : Nat} {a : Option Addr} {R : List S} {w w' : World} (h : MdS X a m c k R w) (hb : Below w.heap.size w w') : MdS X a m c k R w' := by
  rcases h with h | ⟨g, h1, h2, h3⟩
  · exact .inl h
  · exact .inr ⟨g, h1, h2, Md.below h3 hb⟩
theorem mark_ans {X m c k : Nat} {a : Option Addr} {R : List S} {w : World} (h : AnsS X a m c R w) (hm : m ≤ 1048576) (hz : ∀ i, i < m → (R.getD i s0).ps.length ≤ 1048576) (hk : k + mkS R m ≤ 100000000) :
    Calls Try.prog 15 #[.slice a m c, .int .i64 k] w fun e w' => e = .returned (.int .i64 ((k + mkS R m : Nat) : Int)) ∧ MdS X a m c k R w' ∧ Below X w w' := by
  rcases h with ⟨h1, h2, h3, h4⟩ | ⟨g, h1, h2, h3⟩
  · subst h1 h2 h3 h4
    refine (markSSn k w).mono ?_
    rintro e w' ⟨rfl, rfl⟩
    exact ⟨rfl, .inl ⟨rfl, rfl, rfl, rfl⟩, Below.refl _ _⟩
  · subst h1 h2
    refine (f15 X g c k R w hm hz hk h3 (by have := h3.row.lt g rfl; omega)).mono ?_
    rintro e w' ⟨rfl, ho, hb⟩
    exact ⟨rfl, .inr ⟨g, rfl, rfl, ho⟩, hb⟩
theorem held_ans {X m c k : Nat} {a : Option Addr} {R : List S} {w : World} (hn : R.length = m) (h : MdS X a m c k R w) (hm : m ≤ 1048576) (hz : ∀ i, i < m → (R.getD i s0).ps.length ≤ 1048576) (hk : k + mkS R m ≤ 100000000) :
    Calls Try.prog 16 #[.slice a m c, .int .i64 k] w fun e w' => e = .returned (.int .i64 ((k + mkS R m : Nat) : Int)) ∧ Below w.heap.size w w' := by
  rcases h with ⟨h1, h2, h3, h4⟩ | ⟨g, h1, h2, h3⟩
  · subst h1 h2 h3 h4
    refine (heldSSn k w).mono ?_
    rintro e w' ⟨rfl, rfl⟩
    exact ⟨rfl, Below.refl _ _⟩
  · subst h1 h2
    exact f16 X g c k R w hn hm hz hk h3
/-- The argument and the model's answer; nothing that came in is written. -/
structure Pkp (w : World) (a : Option Addr) (ts : List T) (aW : Option Addr) (R : List S) (x : World) : Prop where
  one : HasT x a ts
  ans : HasSS x aW R
  bel : Below w.heap.size w x
theorem Pkp.below {w : World} {a : Option Addr} {ts : List T} {aW : Option Addr} {R : List S} {x y : World} (g : Pkp w a ts aW R x) (hb : Below x.heap.size x y) : Pkp w a ts aW R y := ⟨g.one.below hb, g.ans.below hb, g.bel.trans (hb.mono g.bel.size)⟩
set_option maxHeartbeats 8000000 in
theorem walkSplit (a : Option Addr) (n c : Nat) (s : Int) (ts : List T) (w : World) (hn : ts.length = n) (hmax : n ≤ maxLen) (hr : HasT w a ts) (hf : FitT ts) :
    Calls Try.prog 4 #[.slice a n c, .int .i64 s] w fun e w' => e = .returned (.bool true) ∧ Below w.heap.size w w' := by
  have HN := hid hn
  have HR := hid hr
  have HF := hid hf
  have HM := hid hmax
  clear hn hr hf hmax
  go_enter Try.func4, Try.ntmps4
  go_wp2_with fail
  refine (f8 a n c 1048576 ts _ (by omega) (by omega) HN.out HR.out HF.out HM.out).mono ?_
  rintro e w1 ⟨y, rfl, y0, y1, hy, hb1⟩
  have HB1 := hid hb1
  clear hb1
  by_cases hy0 : y < 0
  · go_wp2
    go_ret
    exact ⟨rfl, HB1.out⟩
  have hy' := hid (hy (by omega))
  have hb : n ≤ 1048576 := by have := hy'.out; omega
  have HT : Hid (tot ts n ≤ 1048576) := by have := hy'.out; unfold Hid; omega
  have HZ : Hid (SmlT ts) := sml_tot (by rw [HN.out]; exact HT.out)
  clear hy hy'
  -- the model's answer
  go_wp2_with fail
  refine (f10 a n c ts _ HN.out hb (HR.out.below HB1.out) HZ.out).mono ?_
  rintro e w3 ⟨d3, rfl, hs3, ho3, hb3⟩
  have HB3 := hid (HB1.out.trans (hb3.mono HB1.out.size))
  have HL3 := hid ho3.kin.len
  have HS3 := hid hs3
  have HP3 := hid (PG.copy ho3 HF.out HZ.out HN.out hs3)
  clear hb3 ho3 hs3
  have HSp := hid (f9 (some ⟨w1.heap.size, 0, none⟩) n n s d3 w3 HL3.out hb HP3.out)
  rw [map_same HN.out HL3.out HS3.out.same] at HSp
  go_wp2_with fail
  refine HSp.out.mono ?_
  rintro e w5 ⟨aW, mW, cW, R5, rfl, ho5, hr5, hb5⟩
  have HK5 : Hid (Pkp w a ts aW R5 w5) := by
    have hb := HB3.out.trans (hb5.mono HB3.out.size)
    exact ⟨HR.out.below hb, ho5.has, hb⟩
  have HR5 := hid hr5
  have HmW := hid ho5.len
  clear hb5 ho5 hr5 HB3 HL3 HS3 HP3 HSp
  -- the program's
  go_wp2_with fail
  refine (f10 a n c ts _ HN.out hb HK5.out.one HZ.out).mono ?_
  rintro e w6 ⟨d6, rfl, hs6, ho6, hb6⟩
  have HB6 := hid hb6
  have HO6 := hid ho6
  have HS6 := hid hs6
  have HL6 := hid ho6.kin.len
  have HP6 := hid (PG.copy ho6 HF.out HZ.out HN.out hs6)
  have HY6 : Hid (∀ b, PB (some ⟨w5.heap.size, 0, none⟩) n n d6 b → w5.heap.size ≤ b ∧ b < w6.heap.size) := by
    rintro b (e | ⟨q, hq, e⟩)
    · exact ho6.row.lt b e
    · exact (ho6.ownP.lab q hq).lo e
  clear hb6 ho6 hs6
  have HIm := hid (f11 (some ⟨w5.heap.size, 0, none⟩) n n s d6 w6 HL6.out hb HP6.out)
  rw [map_same HN.out HL6.out HS6.out.same] at HIm
  go_wp2_with fail
  refine HIm.out.mono ?_
  rintro e w8 ⟨aG, mG, cG, R8, rfl, ho8, hr8, hb8⟩
  have HB8 := hid (HB6.out.trans (hb8.mono HB6.out.size))
  have HO8 := hid (HO6.out.below hb8)
  have HG8 := hid ho8
  have HSZ : Hid (w5.heap.size ≤ w6.heap.size) := HB6.out.size
  have hlG := hid ho8.len
  have HSm : Hid (R5.map plS = R8.map plS) := HR5.out.trans hr8.symm
  have HQ8 := hid hr8
  have hmm : mW = mG := by rw [← HmW.out, ← hlG.out]; simpa using congrArg List.length HSm.out
  subst hmm
  have hb200 : mW ≤ 50 := by have := (ans_small hr8).1; have := hlG.out; omega
  have HZ8 := hid (ans_sml hr8)
  have HZi : Hid (∀ i, i < mW → (R8.getD i s0).ps.length ≤ 1048576) := fun i hi => (HZ8.out i (by rw [hlG.out]; exact hi)).1
  have HTm : Hid (1 + mkS R8 mW ≤ 100000000) := by unfold Hid; have := ans_mk hr8 mW (by rw [hlG.out]; exact Nat.le_refl _); omega
  clear ho8 hr8 hb8 HB6 HO6 HIm HP6
  generalize w6.heap.size = X at *
  -- alike
  have HK8 := hid (HK5.out.below HB8.out)
  go_wp2_with fail
  refine (f12 aG aW mW cG cW R8 R5 _ hlG.out HmW.out (by omega) HG8.out.has HK8.out.ans HSm.out HZ8.out).mono ?_
  rintro e w9 ⟨rfl, hb9⟩
  have HB9 := hid (HB8.out.trans (hb9.mono HB8.out.size))
  have HO9 := hid (HO8.out.below hb9)
  have HG9 := hid (HG8.out.below hb9)
  clear hb9 HB8 HO8 HG8 HK8
  -- what came in is as it was
  have HK9 := hid (HK5.out.below HB9.out)
  go_wp2_with fail
  refine (f10 a n c ts _ HN.out hb HK9.out.one HZ.out).mono ?_
  rintro e w10 ⟨d10, rfl, hs10, ho10, hb10⟩
  have HB10 := hid (HB9.out.trans (hb10.mono HB9.out.size))
  have HO10 := hid (HO9.out.below hb10)
  have HG10 := hid (HG9.out.below hb10)
  have HC10 := hid ho10.has
  have HL10 := hid ho10.kin.len
  have HS10 := hid (Same.two HS6.out hs10)
  clear hb10 ho10 hs10 HB9 HO9 HG9 HK9
  go_wp2_with fail
  refine (f13 _ _ n n n d6 d10 _ HL6.out HL10.out hb HO10.out.has HC10.out HS10.out (HZ.out.same HN.out HL6.out HS6.out.same)).mono ?_
  rintro e w11 ⟨rfl, hb11⟩
  have HB11 := hid (HB10.out.trans (hb11.mono HB10.out.size))
  have HO11 := hid (HO10.out.below hb11)
  have HG11 := hid (HG10.out.below hb11)
  clear hb11 HB10 HO10 HG10 HC10 HL10 HS10
  -- what came in is marked
  have HTa : Hid (mk d6 n ≤ 2 * 1048576 + 2 * 1048576) := by unfold Hid mk; have := tot_same HS6.out.same n (Nat.le_refl _); have := HT.out; omega
  go_wp2_with fail
  refine (f14 w5.heap.size _ n n 1 d6 _ hb (by have := HTa.out; omega) HO11.out.ownP).mono ?_
  obtain ⟨kk, hkk⟩ : ∃ kk : Nat, kk = 1 + mk d6 n := ⟨_, rfl⟩
  have hkb : kk ≤ 5000000 := by have := HTa.out; omega
  rw [← hkk]
  clear hkk
  have hk3 : ¬ (kk : Int) < 0 := by omega
  rintro e w14 ⟨rfl, _, hf14⟩
  have HB14 := hid (HB11.out.trans (hf14.below (fun b e => (HY6.out b e).1) HB11.out.size))
  have HG14 := hid (HG11.out.fw hf14 (fun b e => (HY6.out b e).2))
  clear hf14 HB11 HO11 HG11
  have HK15 := hid (HK5.out.below HB14.out)
  go_wp2_with fail
  refine (f12 aG aW mW cG cW R8 R5 _ hlG.out HmW.out (by omega) HG14.out.has HK15.out.ans HSm.out HZ8.out).mono ?_
  rintro e w16 ⟨rfl, hb16⟩
  have HB16 := hid (HB14.out.trans (hb16.mono HB14.out.size))
  have HG16 := hid (HG14.out.below hb16)
  clear hb16 HB14 HG14 HK15
  -- what came out is marked, and held
  go_wp2_with fail
  obtain ⟨k4, hk4⟩ : ∃ k4 : Nat, k4 = 1 + mkS R8 mW := ⟨_, rfl⟩
  have HK4 := hid hk4
  clear hk4
  have hk5 : ¬ (k4 : Int) < 0 := by omega
  refine (mark_ans HG16.out (by omega) HZi.out (k := 1) HTm.out).mono ?_
  rw [← HK4.out]
  rintro e w17 ⟨rfl, ho17, hb17⟩
  have HB17 := hid (HB16.out.trans (hb17.mono (by have := HSZ.out; omega)))
  have HG17 := hid ho17
  clear ho17 hb17 HB16 HG16
  go_wp2_with fail
  refine (held_ans hlG.out HG17.out (by omega) HZi.out (k := 1) HTm.out).mono ?_
  rw [← HK4.out]
  rintro e w18 ⟨rfl, hb18⟩
  have HB18 := hid (HB17.out.trans (hb18.mono HB17.out.size))
  have HG18 := hid (HG17.out.below hb18)
  clear hb18 HB17 HG17
  -- once more
  have HK18 := hid (HK5.out.below HB18.out)
  go_wp2_with fail
  refine (f10 a n c ts _ HN.out hb HK18.out.one HZ.out).mono ?_
  rintro e w19 ⟨d19, rfl, hs19, ho19, hb19⟩
  have HB19 := hid (HB18.out.trans (hb19.mono HB18.out.size))
  have HG19 := hid (HG18.out.below hb19)
  have HL19 := hid ho19.kin.len
  have HS19 := hid hs19
  have HP19 := hid (PG.copy ho19 HF.out HZ.out HN.out hs19)
  clear hb19 ho19 hs19 HB18 HG18 HK18
  have HIm := hid (f11 (some ⟨w18.heap.size, 0, none⟩) n n s d19 w19 HL19.out hb HP19.out)
  rw [map_same HN.out HL19.out HS19.out.same] at HIm
  go_wp2_with fail
  refine HIm.out.mono ?_
  rintro e w21 ⟨aH, mH, cH, R21, rfl, ho21, hr21, hb21⟩
  have HB21 := hid (HB19.out.trans (hb21.mono HB19.out.size))
  have HG21 := hid (HG19.out.below hb21)
  have HH21 := hid ho21.has
  have hlH := hid ho21.len
  have HSm2 : Hid (R5.map plS = R21.map plS) := HR5.out.trans hr21.symm
  have HZH := hid (ans_sml hr21)
  have hmH : mW = mH := by rw [← HmW.out, ← hlH.out]; simpa using congrArg List.length HSm2.out
  subst hmH
  clear ho21 hr21 hb21 HB19 HG19 HIm HP19
  have HK21 := hid (HK5.out.below HB21.out)
  go_wp2_with fail
  refine (f12 aH aW mW cH cW R21 R5 _ hlH.out HmW.out (by omega) HH21.out HK21.out.ans HSm2.out HZH.out).mono ?_
  rintro e w22 ⟨rfl, hb22⟩
  have HB22 := hid (HB21.out.trans (hb22.mono HB21.out.size))
  have HG22 := hid (HG21.out.below hb22)
  clear hb22 HB21 HG21 HK21 HH21
  go_wp2_with fail
  refine (held_ans hlG.out HG22.out (by omega) HZi.out (k := 1) HTm.out).mono ?_
  rw [← HK4.out]
  rintro e w23 ⟨rfl, hb23⟩
  have HB23 := hid (HB22.out.trans (hb23.mono HB22.out.size))
  have HEnd := hid (HK5.out.below HB23.out).bel
  clear hb23 HB22 HG22
  go_wp2
  go_ret
  exact ⟨rfl, HEnd.out⟩
end Go.Proofs.Ytjjdfenbfjcmaaa.Ptn
