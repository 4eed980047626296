import Derived.Test.YteblbcbfaomdmaaDoorTb
import Derived.Test.YteblbcbfaomdmaaDoorTc
import Derived.Deep.Onto
import Derived.RangeFuncRecord
import Derived.RangeFuncOwn
import Derived.RangeFuncLeaves
import Derived.RangeFuncCalls
import Derived.WalkKit
import Derived.OwnWalkIn
import Derived.TacticsInMore
import Derived.LoopIn
import Derived.Test.YteblbcbfaomdmaaDoorUcB
/- Rows of samples of the call's own: compared, marked, held. -/
namespace Go.Proofs.YteblbcbfaomdmaaDoor.Smp
open Go.RowKit

theorem two0 {w : World} {b t : Nat} {x y : Value} {q : Nat × Nat} (h : w.heap[b]? = some (.cells #[x, y] t q)) : w.cell? ⟨b, 0, none⟩ = some x := by
  unfold World.cell?; simp only [h]; rfl
theorem two1 {w : World} {b t : Nat} {x y : Value} {q : Nat × Nat} (h : w.heap[b]? = some (.cells #[x, y] t q)) : w.cell? ⟨b, 1, none⟩ = some y := by
  unfold World.cell?; simp only [h]; rfl
theorem two_new (w : World) (x y : Value) (t : TypeId) : ∀ j u, [x, y][j]? = some u → (w.alloc (.cells #[x, y] t)).cell? ((⟨w.heap.size, 0, none⟩ : Addr).add j) = some u := by
  intro j u hj
  have h := heap_alloc_new w (.cells #[x, y] t)
  match j, hj with
  | 0, hj =>
    simp at hj; subst hj
    have : (⟨w.heap.size, 0, none⟩ : Addr).add 0 = ⟨w.heap.size, 0, none⟩ := by simp [Addr.add]
    rw [this]; exact two0 h
  | 1, hj =>
    simp at hj; subst hj
    have : (⟨w.heap.size, 0, none⟩ : Addr).add 1 = ⟨w.heap.size, 1, none⟩ := by simp [Addr.add]
    rw [this]; exact two1 h
  | j + 2, hj => simp at hj
theorem own_form {w : World} {base e size n : Nat} {v : Value} {xs : List Value} (h : w.ownsRow base e size v n xs) : ∃ a c, v = .slice a n c := by
  rcases h.2 with ⟨h1, h2⟩ | ⟨g, cap, cur, h1, _⟩
  · subst h2; exact ⟨none, 0, h1⟩
  · exact ⟨_, _, h1⟩
/-- The value is a row of the call's own with these samples. -/
def Own (w : World) (base : Nat) (v : Value) (L : List Sm) : Prop := w.ownsRow base 36 2 v L.length (flat L)
theorem Own.nil (w : World) (base : Nat) : Own w base (.slice none 0 0) [] := World.ownsRow_nil w base 36 2
theorem Own.below {w w' : World} {base : Nat} {v : Value} {L : List Sm} (h : Own w base v L) (hb : Below w.heap.size w w') : Own w' base v L := own_below h hb
theorem flat_one (p : Sm) : flat [p] = [.int .i64 p.1, .int .i64 p.2] := rfl

theorem Own.cases {w : World} {base : Nat} {v : Value} {L : List Sm} (h : Own w base v L) : (L = [] ∧ v = .slice none 0 0) ∨ ∃ g c, v = .slice (some ⟨g, 0, none⟩) L.length c := by
  unfold Own at h
  rcases h.2 with ⟨h1, h2⟩ | ⟨g, cap, cur, h1, _⟩
  · exact .inl ⟨List.eq_nil_of_length_eq_zero h2, h1⟩
  · exact .inr ⟨g, cap, h1⟩
theorem Own.has {w : World} {base : Nat} {a : Option Addr} {n c : Nat} {L : List Sm} (h : Own w base (.slice a n c) L) : n = L.length ∧ HasS w a L := by
  obtain ⟨a', c', h1⟩ := own_form h
  simp only [Value.slice.injEq] at h1
  obtain ⟨rfl, rfl, rfl⟩ := h1
  exact ⟨rfl, HasS.own h⟩
theorem Own.kept {w w' : World} {base : Nat} {r : Option Nat} {v : Value} {L : List Sm} (h : Own w base v L) (hg : w.grownBy w' r) (hne : ∀ k, v.ownBlock = some k → r ≠ some k) : Own w' base v L :=
  World.ownsRow.kept h hg (by
    cases hv : v.ownBlock with
    | none => exact .inl rfl
    | some k => exact .inr (fun e => hne k hv e.symm))
theorem Own.lt {w : World} {base : Nat} {v : Value} {L : List Sm} (h : Own w base v L) : ∀ k, v.ownBlock = some k → base ≤ k ∧ k < w.heap.size := World.ownsRow.lt h
theorem Own.mono {w : World} {base base' : Nat} {v : Value} {L : List Sm} (h : Own w base v L) (hb : base' ≤ base) : Own w base' v L := World.ownsRow.mono h hb
theorem grown_refl (w : World) (r : Option Nat) : w.grownBy w r := ⟨rfl, rfl, rfl, Nat.le_refl _, fun _ _ _ => rfl⟩

theorem eqO {w : World} {b b' : Nat} {v v' : Value} {L : List Sm} (hb : L.length ≤ 1048576) (h : Own w b v L) (h' : Own w b' v' L) :
    Calls Tryd.prog 23 #[v, v'] w fun e w' => e = .returned (.bool true) ∧ Below w.heap.size w w' := by
  obtain ⟨a, c, rfl⟩ := own_form h
  obtain ⟨a', c', rfl⟩ := own_form h'
  exact f23 a a' c c' L w hb h.has.2 h'.has.2
theorem markO {w : World} {base : Nat} {v : Value} {L : List Sm} (k : Nat) (hk : k + 2 * L.length ≤ 100000000) (h : Own w base v L) :
    Calls Tryd.prog 24 #[v, .int .i64 k] w fun e w' => e = .returned (.int .i64 ((k + 2 * L.length : Nat) : Int)) ∧ Own w' base v (markL k L.length) ∧ w.grownBy w' v.ownBlock := by
  rcases h.cases with ⟨rfl, rfl⟩ | ⟨g, c, rfl⟩
  · refine (f24n k w).mono ?_
    rintro e w' ⟨rfl, rfl⟩
    exact ⟨rfl, Own.nil _ _, grown_refl _ _⟩
  · refine (f24 g c base k L w hk h).mono ?_
    rintro e w' ⟨rfl, ho, hg⟩
    exact ⟨rfl, by unfold Own; rw [markL_len]; exact ho, hg⟩
theorem heldO {w : World} {base n : Nat} {v : Value} (k : Nat) (hk : k + 2 * n ≤ 100000000) (h : Own w base v (markL k n)) :
    Calls Tryd.prog 30 #[v, .int .i64 k] w fun e w' => e = .returned (.int .i64 ((k + 2 * n : Nat) : Int)) ∧ w' = w := by
  obtain ⟨a, c, rfl⟩ := own_form h
  rw [markL_len] at h ⊢
  exact f30 a n c k w hk h.has.2
theorem Own.to {w : World} {g : Nat} {ls : List Sm} (h : w.ownsRow g 36 2 (.slice (some ⟨g, 0, none⟩) ls.length ls.length) ls.length (flat ls)) : Own w g (.slice (some ⟨g, 0, none⟩) ls.length ls.length) ls := h
end Go.Proofs.YteblbcbfaomdmaaDoor.Smp
/- A round of the program's loop over the samples of a chunk. -/
namespace Go.Proofs.YteblbcbfaomdmaaDoor.Chk
open Go.RowKit Go.Proofs.YteblbcbfaomdmaaDoor.Bts
open Go.Proofs.YteblbcbfaomdmaaDoor.Smp hiding hid ret_int below_drewN
attribute [local go_sem] Oper.semAt_some

def uAssign : Code := Code.region 6 #[{ dst := some 6, op := Op.alloc 36, type := 0, pos := "l6_chunk.go:234", after := #[], guard := none }, { dst := none, op := Op.store 36 (Operand.tmp 6) (Operand.tmp 17), type := 0, pos := "l6_chunk.go:234", after := #[{ on := 0, ground := Ground.data }, { on := 0, ground := Ground.phase }], guard := none }] false
def uBody : Code := Code.block 1 (Code.region 7 #[{ dst := some 18, op := Op.load 23 (Operand.tmp 4), type := 23, pos := "l6_chunk.go:235", after := #[], guard := none }, { dst := some 19, op := Op.load 36 (Operand.tmp 6), type := 36, pos := "l6_chunk.go:235", after := #[], guard := none }, { dst := some 20, op := Op.buildSlice 23 1 #[(0, Operand.tmp 19)], type := 23, pos := "l6_chunk.go:235", after := #[{ on := 1, ground := Ground.data }], guard := none }, { dst := some 21, op := Op.call { callee := Callee.builtin Builtin.append, args := #[Operand.tmp 18, Operand.tmp 20], argTypes := #[23, 23] }, type := 23, pos := "l6_chunk.go:235", after := #[{ on := 0, ground := Ground.data }, { on := 2, ground := Ground.data }], guard := none }, { dst := none, op := Op.store 23 (Operand.tmp 4) (Operand.tmp 21), type := 0, pos := "l6_chunk.go:235", after := #[{ on := 3, ground := Ground.data }, { on := 3, ground := Ground.chain }, { on := 0, ground := Ground.phase }, { on := 1, ground := Ground.phase }, { on := 2, ground := Ground.phase }, { on := 3, ground := Ground.phase }], guard := none }] false)
/-- UnpackChunk's slots where its loop begins; the one that yield fills is x. -/
def uTmps (B0 Lb R : Nat) (a : Option Addr) (n c s : Nat) (x : Value) : Array Value :=
  #[.agg #[.slice a n c, .int .i64 (s : Int)], .pointer (some ⟨B0, 0, none⟩), .slice none 0 0, .bool false, .pointer (some ⟨Lb, 0, none⟩), .pointer (some ⟨R, 0, none⟩), undef,
    .agg #[.slice a n c, .int .i64 (s : Int)], .bool true, .bool false, .pointer (some ⟨B0, 0, none⟩), .slice a n c, .agg #[.slice a n c, .int .i64 0], .pointer (some ⟨B0, 1, none⟩), .int .i64 (s : Int),
    .agg #[.slice a n c, .int .i64 0, .int .i64 (s : Int), .bool false, .int .i64 0, .int .i64 0, .int .i64 0, .int .i64 0, .int .i64 0], .func (.func 46) #[.pointer (some ⟨R, 0, none⟩)] #[], x,
    undef, undef, undef, undef, undef, undef, undef, undef, undef, undef, undef, undef, undef, undef, undef, undef, undef, undef, undef, undef, undef, undef]
def uRec (fn : FuncId) (B0 Lb R D : Nat) (a : Option Addr) (n c s : Nat) (st : LoopState) (pend : Option Code) : Loop :=
  { state := st, pending := pend, fn, tmps := uTmps B0 Lb R a n c s undef, params := #[17], assign := uAssign, body := uBody, defers := D }
theorem own_ne {W : World} {base b : Nat} {v : Value} {L : List Sm} {o : Obj} (h : Smp.Own W base v L) (hb : W.heap[b]? = some o) (ho : ∀ cs q, o ≠ .cells cs 36 q) : ∀ k, v.ownBlock = some k → (some b : Option Nat) ≠ some k := by
  intro k hk e
  cases e
  rcases h.2 with ⟨h1, _⟩ | ⟨g, cap, cur, h1, _, hgb, _⟩
  · rw [h1] at hk; simp [Value.ownBlock] at hk
  · rw [h1] at hk
    simp [Value.ownBlock] at hk
    subst hk
    rw [hgb] at hb
    simp only [Option.some.injEq] at hb
    exact ho _ _ hb.symm
/-- Between two rounds. -/
structure Mid (w : World) (fn : FuncId) (B0 Lb R D l : Nat) (a : Option Addr) (n c s : Nat) (st : LoopState) (pre : List Sm) (S : Rs) (W : World) : Prop where
  box : W.heap[R]? = some (.cells (rbox a n c S) 75 (0, 0))
  row : ∃ v, W.heap[Lb]? = some (.cells #[v] 23 (0, 0)) ∧ Smp.Own W w.heap.size v pre
  L : W.heap[l]? = some (.loop (uRec fn B0 Lb R D a n c s st none))
  K : W.heap[D]? = some (.deferred (some []))
  bel : Below w.heap.size w W
/-- How the blocks lie. -/
structure Lie (w : World) (Lb R D l : Nat) : Prop where
  a : w.heap.size ≤ Lb
  b : Lb < R
  c : R < D
  d : D < l
theorem dat_of {w W : World} {R : Nat} {a : Option Addr} {zs : List Int} (hr : Byt.Has w a zs) (hb : Below w.heap.size w W) (hR : w.heap.size ≤ R) : Dat W R a zs := by
  rcases hr with h | ⟨b, off, h1, h2, h3⟩
  · exact .inl h
  · exact .inr ⟨b, off, h1, Nat.lt_of_lt_of_le h2 hb.size, by omega, fun i hi => (hb.cell (p := ⟨b, off + i, none⟩) h2).trans (h3 i hi)⟩
theorem Mid.rd {w : World} {fn : FuncId} {B0 Lb R D l : Nat} {a : Option Addr} {n c s : Nat} {zs : List Int} {st : LoopState} {pre : List Sm} {S : Rs} {W : World} (h : Mid w fn B0 Lb R D l a n c s st pre S W) (hl : Lie w Lb R D l) (hr : Byt.Has w a zs) : Rd W R a n c zs S :=
  ⟨h.box, dat_of hr h.bel (by have := hl.a; have := hl.b; omega)⟩
theorem Mid.call {w : World} {fn : FuncId} {B0 Lb R D l : Nat} {a : Option Addr} {n c s : Nat} {zs : List Int} {st : LoopState} {pre : List Sm} {S S' : Rs} {W W' : World} (h : Mid w fn B0 Lb R D l a n c s st pre S W) (hl : Lie w Lb R D l) (hr : Rd W' R a n c zs S') (hg : W.grownBy W' (some R)) : Mid w fn B0 Lb R D l a n c s st pre S' W' := by
  obtain ⟨v, hv, ho⟩ := h.row
  have h1 := hl.a
  have h2 := hl.b
  have h3 := hl.c
  have h4 := hl.d
  exact ⟨hr.box, ⟨v, boxk hv hg (by omega), ho.kept hg (own_ne ho h.box (by intro cs q e; cases e))⟩, boxk h.L hg (by omega), boxk h.K hg (by omega), h.bel.grown hg h.bel.size (by intro k hk; cases hk; omega)⟩
/-- The loop's record turned. -/
theorem Mid.put {w : World} {fn : FuncId} {B0 Lb R D l : Nat} {a : Option Addr} {n c s : Nat} {st : LoopState} {pre : List Sm} {S : Rs} {W : World} (h : Mid w fn B0 Lb R D l a n c s st pre S W) (hl : Lie w Lb R D l) (st' : LoopState) : Mid w fn B0 Lb R D l a n c s st' pre S (W.putObj l (.loop (uRec fn B0 Lb R D a n c s st' none))) := by
  obtain ⟨v, hv, ho⟩ := h.row
  have hg := grownBy_putObj' W l (.loop (uRec fn B0 Lb R D a n c s st' none))
  have hll : l < W.heap.size := (Array.getElem?_eq_some_iff.1 h.L).1
  have h1 := hl.a
  have h2 := hl.b
  have h3 := hl.c
  have h4 := hl.d
  exact ⟨boxk h.box hg (by omega), ⟨v, boxk hv hg (by omega), ho.kept hg (own_ne ho h.L (by intro cs q e; cases e))⟩, World.putObj_heap_same hll, boxk h.K hg (by omega), h.bel.grown hg h.bel.size (by intro k hk; cases hk; omega)⟩
theorem Mid.below {w : World} {fn : FuncId} {B0 Lb R D l : Nat} {a : Option Addr} {n c s : Nat} {st : LoopState} {pre : List Sm} {S : Rs} {W W' : World} (h : Mid w fn B0 Lb R D l a n c s st pre S W) (hb : Below W.heap.size W W') : Mid w fn B0 Lb R D l a n c s st pre S W' := by
  obtain ⟨v, hv, ho⟩ := h.row
  exact ⟨box_below h.box hb, ⟨v, box_below hv hb, ho.below hb⟩, box_below h.L hb, box_below h.K hb, h.bel.trans (hb.mono h.bel.size)⟩
/-- A sample more. -/
theorem Mid.push {w : World} {fn : FuncId} {B0 Lb R D l : Nat} {a : Option Addr} {n c s : Nat} {st : LoopState} {pre : List Sm} {p : Sm} {S : Rs} {W W1 : World} {v v' : Value} (h : Mid w fn B0 Lb R D l a n c s st pre S W) (hl : Lie w Lb R D l) (hv : W.heap[Lb]? = some (.cells #[v] 23 (0, 0))) (ho : Smp.Own W w.heap.size v pre)
    (hg : W.grownBy W1 v.ownBlock) (ho' : Smp.Own W1 w.heap.size v' (pre ++ [p])) : W1.heap[Lb]? = some (.cells #[v] 23 (0, 0)) ∧ Mid w fn B0 Lb R D l a n c s st (pre ++ [p]) S (W1.setCell ⟨Lb, 0, none⟩ v') := by
  have h1 := hl.a
  have h2 := hl.b
  have h3 := hl.c
  have h4 := hl.d
  have kp : ∀ {b : Nat} {o : Obj}, W.heap[b]? = some o → (∀ cs q, o ≠ .cells cs 36 q) → W1.heap[b]? = some o := by
    intro b o hb hno
    have hlt : b < W.heap.size := (Array.getElem?_eq_some_iff.1 hb).1
    rw [hg.block b hlt (fun e => own_ne ho hb hno b e.symm rfl)]; exact hb
  have kL := kp hv (by intro cs q e; cases e)
  have kR := kp h.box (by intro cs q e; cases e)
  have kl := kp h.L (by intro cs q e; cases e)
  have kK := kp h.K (by intro cs q e; cases e)
  have hb1 : Below w.heap.size w W1 := h.bel.grown hg h.bel.size (fun k hk => (ho.lt k hk).1)
  have hg2 : W1.grownBy (W1.setCell ⟨Lb, 0, none⟩ v') (some Lb) := grown_set (grown_rfl _ _) v'
  refine ⟨kL, boxk kR hg2 (by omega), ⟨v', set_cell (o := 0) kL, ho'.kept hg2 (own_ne ho' kL (by intro cs q e; cases e))⟩, boxk kl hg2 (by omega), boxk kK hg2 (by omega), hb1.grown hg2 hb1.size (by intro k hk; cases hk; omega)⟩

set_option maxRecDepth 100000 in
set_option maxHeartbeats 4000000 in
/-- One round. -/
theorem uRound {w : World} {fn : FuncId} {B0 Lb R D l : Nat} {a : Option Addr} {n c s : Nat} {pre : List Sm} {S : Rs} {W : World} (m : Nat) (t v : Int) (hl : Lie w Lb R D l) (h : Mid w fn B0 Lb R D l a n c s .ready pre S W) (hp : pre.length ≤ 300) :
    RoundIn Fence.wide m Tryd.prog l fn (uTmps B0 Lb R a n c s (.agg #[.int .i64 t, .int .i64 v])) uAssign uBody W fun e W' => e = .returned (.bool true) ∧ Mid w fn B0 Lb R D l a n c s .ready (pre ++ [(t, v)]) S W' := by
  refine roundIn_of_wpIn trivial ?_
  obtain ⟨i0, hi, hz0, hz1, hz2⟩ := info_parts infoS
  have HA := hid (h.below ((Below.refl _ W).alloc (Nat.le_refl _) (.cells #[.int .i64 t, .int .i64 v] 36)))
  have hbr := run_beginRound (P := Tryd.prog) HA.out.L rfl
  have HM := hid (HA.out.put hl .busy)
  have hX := heap_alloc_new W (.cells #[.int .i64 t, .int .i64 v] 36)
  have hXl : W.heap.size ≠ l := Nat.ne_of_gt (Array.getElem?_eq_some_iff.1 h.L).1
  obtain ⟨W2, hW2⟩ : ∃ W2, (W.alloc (.cells #[.int .i64 t, .int .i64 v] 36)).putObj l (.loop (uRec fn B0 Lb R D a n c s .busy none)) = W2 := ⟨_, rfl⟩
  have hbr' : (Instr.beginRound l).run Tryd.prog (W.alloc (.cells #[.int .i64 t, .int .i64 v] 36)) = .ok () W2 := by rw [hbr, ← hW2]; rfl
  have hX2 : W2.heap[W.heap.size]? = some (.cells #[.int .i64 t, .int .i64 v] 36 (0, 0)) := by rw [← hW2]; exact (World.putObj_heap_other hXl).trans hX
  rw [hW2] at HM
  have x0 : W2.cell? ⟨W.heap.size, 0, none⟩ = some (.int .i64 t) := cell_at hX2 0
  have x1 : W2.cell? ⟨W.heap.size, 1, none⟩ = some (.int .i64 v) := cell_at hX2 1
  obtain ⟨v0, hv0, ho0⟩ := HM.out.row
  have hc0 : W2.cell? ⟨Lb, 0, none⟩ = some v0 := cell_at hv0 0
  have HV := hid hv0
  have HO := hid ho0
  clear hW2 HA hbr h hX hX2 hv0
  obtain ⟨av, cv', rfl⟩ := own_form ho0
  clear ho0
  unfold uAssign uTmps
  gi_wp2
  refine ⟨W2, hbr', ?_⟩
  unfold uBody
  gi_wp2_with (gi_at_builtin; refine wpListIn_append_own _ rfl _ _ 23 rfl w.heap.size 36 i0 (.agg #[.int .i64 0, .int .i64 0]) 2 16 Tryd.underlying23 hi hz0 hz1 hz2 rfl (by decide) _ _ _ rfl (World.ownsRow.alloc HO.out _) ⟨W2.heap.size, 0, none⟩ 1 1 [.int .i64 t, .int .i64 v] rfl rfl ?d1 ?d2 ?d3 ?d4 ?d5 ?_)
  case d1 => exact two_new W2 (.int .i64 t) (.int .i64 v) 36
  case d2 => intro u hu; simp at hu; rcases hu with rfl | rfl <;> rfl
  case d3 => unfold maxLen; omega
  case d4 => omega
  case d5 => have := HM.out.bel.size; simp; omega
  intro v1 w3 hown1 hgr1 _
  have hbA := (Below.refl _ W2).alloc (Nat.le_refl _) (.cells #[.int .i64 t, .int .i64 v] 36)
  have ho' : Smp.Own w3 w.heap.size v1 (pre ++ [(t, v)]) := by unfold Smp.Own; rw [flat_append, List.length_append]; exact hown1
  obtain ⟨k1, k2⟩ := (HM.out.below hbA).push hl (box_below HV.out hbA) (HO.out.below hbA) hgr1 ho'
  have hc1 : w3.cell? ⟨Lb, 0, none⟩ = some (.slice av pre.length cv') := cell_at k1 0
  have hf1 := froz_at k1 0
  obtain ⟨a1, cv1, rfl⟩ := own_form hown1
  have HK2 := hid k2
  clear hown1 hgr1 ho' k1 k2 hbA
  gi_wp2
  exact ⟨_, _, run_endRound none HK2.out.L, rfl, HK2.out.put hl .ready⟩

/-- What samples comes to. -/
noncomputable def smp (zs : List Int) : Nat → Nat → List Sm → Rs → List Sm × Rs
  | 0, _, pre, S => (pre, S)
  | f + 1, i, pre, S =>
    let S' := if i = 0 then firstP zs S else nextP zs S
    if S'.br = true then (pre, S') else smp zs f (i + 1) (pre ++ [(S'.t, S'.v)]) S'
theorem firstP_keep (zs : List Int) (S : Rs) : (firstP zs S).pos + (firstP zs S).left = S.pos + S.left ∧ (firstP zs S).fa = S.fa ∧ (firstP zs S).fm = S.fm := by
  refine ⟨?_, ?_, ?_⟩
  · show (takeP zs (firstS zs S) 64).2.pos + (takeP zs (firstS zs S) 64).2.left = _
    rw [takeP_sum]
    show (takeP zs S 40).2.pos + (takeP zs S 40).2.left = _
    rw [takeP_sum]
  · show (takeP zs (firstS zs S) 64).2.fa = _
    rw [takeP_fa]
    show (takeP zs S 40).2.fa = _
    rw [takeP_fa]
  · show (takeP zs (firstS zs S) 64).2.fm = _
    rw [takeP_fm]
    show (takeP zs S 40).2.fm = _
    rw [takeP_fm]
theorem newT_fr (zs : List Int) (S : Rs) (a m : Nat) (h : S.fa + S.fm ≤ 64) : (newT zs S a m).2.fa + (newT zs S a m).2.fm ≤ 64 := by
  unfold newT
  split
  · exact h
  · rename_i hs
    dsimp only
    split <;> (show a + m ≤ 64; omega)
theorem turnP_fr (zs : List Int) (S : Rs) (h : S.fa + S.fm ≤ 64) : (turnP zs S).2.fa + (turnP zs S).2.fm ≤ 64 := by
  unfold turnP
  have a1 := takeP_fa zs S 1
  have b1 := takeP_fm zs S 1
  generalize takeP zs S 1 = X at *
  split
  · rw [a1, b1]; exact h
  · have a2 := takeP_fa zs X.2 1
    have b2 := takeP_fm zs X.2 1
    dsimp only
    generalize takeP zs X.2 1 = Y at *
    split
    · refine newT_fr _ _ _ _ ?_
      rw [takeP_fa, takeP_fm, takeP_fa, takeP_fm, a2, b2, a1, b1]; exact h
    · unfold oldT
      dsimp only
      split
      · show (takeP zs Y.2 _).2.fa + (takeP zs Y.2 _).2.fm ≤ 64
        rw [takeP_fa, takeP_fm, a2, b2, a1, b1]; exact h
      · rw [takeP_fa, takeP_fm, a2, b2, a1, b1]; exact h
theorem nextP_keep (zs : List Int) (S : Rs) (h : S.fa + S.fm ≤ 64) : (nextP zs S).pos + (nextP zs S).left = S.pos + S.left ∧ (nextP zs S).fa + (nextP zs S).fm ≤ 64 := by
  refine ⟨?_, ?_⟩
  · show (turnP zs (timeS zs S)).2.pos + (turnP zs (timeS zs S)).2.left = _
    rw [(turnP_keep zs (timeS zs S)).2.2.2, timeS_sum]
  · show (turnP zs (timeS zs S)).2.fa + (turnP zs (timeS zs S)).2.fm ≤ 64
    exact turnP_fr _ _ (by rw [(timeS_fr zs S).1, (timeS_fr zs S).2]; exact h)
end Go.Proofs.YteblbcbfaomdmaaDoor.Chk
/- The program's samples, with yield as its argument. -/
namespace Go.Proofs.YteblbcbfaomdmaaDoor.Chk
open Go.RowKit Go.Proofs.YteblbcbfaomdmaaDoor.Bts
open Go.Proofs.YteblbcbfaomdmaaDoor.Smp hiding hid ret_int below_drewN
attribute [local go_sem] Oper.semAt_some

theorem smp_step (zs : List Int) {M i : Nat} {pre : List Sm} {S S' : Rs} {r : List Sm × Rs} (hi : i < M) (h : r = smp zs (M - i) i pre S) (hS : S' = if i = 0 then firstP zs S else nextP zs S) :
    (S'.br = true → r = (pre, S')) ∧ (S'.br = false → r = smp zs (M - (i + 1)) (i + 1) (pre ++ [(S'.t, S'.v)]) S') := by
  obtain ⟨f, hf⟩ : ∃ f, M - i = f + 1 := ⟨M - i - 1, by omega⟩
  rw [hf, smp] at h
  rw [← hS] at h
  rw [show M - (i + 1) = f by omega]
  exact ⟨fun hb => by rw [h, if_pos hb], fun hb => by rw [h, if_neg (by rw [hb]; decide)]⟩
theorem Cls.bel {w W : World} (h : Cls w) (hb : Below w.heap.size w W) : Cls W := h.below hb
theorem Tab.bel {w W : World} (h : Tab w) (hb : Below w.heap.size w W) (h2 : 2 ≤ w.heap.size) : Tab W := fun j hj => (hb.cell (p := ⟨1, j, none⟩) (by show 1 < w.heap.size; omega)).trans (h j hj)
theorem take8 (zs : List Int) (S : Rs) : ∃ M : Nat, (takeP zs S 8).1 = (M : Int) ∧ M ≤ 255 := by
  have hb := takeP_bd zs S 8
  have e8 : (2 : Int) ^ 8 = 256 := by decide
  exact ⟨(takeP zs S 8).1.toNat, by omega, by omega⟩

set_option maxRecDepth 100000 in
set_option maxHeartbeats 4000000 in
theorem samples_in {w : World} {fn : FuncId} {B0 Lb R D l : Nat} {a : Option Addr} {n c s : Nat} {zs : List Int} {S0 : Rs} {W : World} (hk : Dk n zs) (hr : Byt.Has w a zs) (hl : Lie w Lb R D l) (h : Mid w fn B0 Lb R D l a n c s .ready [] S0 W) (htm : S0.pos + S0.left ≤ 8 * n) (hf : S0.fa + S0.fm ≤ 64) (hc : Cls w) (ht : Tab w) (h2 : 2 ≤ w.heap.size) :
    CallsIn Fence.wide 2 Tryd.prog 46 #[.pointer (some ⟨R, 0, none⟩), .func (.yield l) #[] #[]] W fun e W' => (∃ v, e = .returned v) ∧ Mid w fn B0 Lb R D l a n c s .ready (smp zs (takeP zs S0 8).1.toNat 0 [] (takeP zs S0 8).2).1 (smp zs (takeP zs S0 8).1.toNat 0 [] (takeP zs S0 8).2).2 W' := by
  have HK := hid hk
  have HR := hid hr
  have HL := hid hl
  have HC := hid hc
  have HT := hid ht
  have HM := hid h
  have hR0 : R ≠ 0 := by have := hl.a; have := hl.b; omega
  have hR1 : R ≠ 1 := by have := hl.a; have := hl.b; omega
  clear hk hr hl hc ht h
  obtain ⟨M, hM, hM255⟩ := take8 zs S0
  have HT8 := hid (f63 8 HK.out (HM.out.rd HL.out HR.out) (by omega) htm)
  rw [hM, Int.toNat_natCast]
  rw [hM] at HT8
  obtain ⟨S1, hS1⟩ : ∃ S1, S1 = (takeP zs S0 8).2 := ⟨_, rfl⟩
  have HS1 : Hid (S1.pos + S1.left = S0.pos + S0.left ∧ S1.fa = S0.fa ∧ S1.fm = S0.fm) := by unfold Hid; rw [hS1, takeP_sum, takeP_fa, takeP_fm]; exact ⟨rfl, rfl, rfl⟩
  rw [← hS1] at HT8 ⊢
  clear hS1 hM
  obtain ⟨r, hrr⟩ : ∃ r, r = smp zs M 0 [] S1 := ⟨_, rfl⟩
  rw [← hrr]
  have HRR := hid hrr
  clear hrr
  refine callsIn_of_wp Tryd.func46 rfl trivial ?_ rfl
  simp only [Tryd.ntmps46, List.size_toArray, List.length_cons, List.length_nil, Nat.reduceAdd, Nat.reduceSub, Array.replicate_succ, Array.replicate_zero, List.push_toArray, List.append_toArray, List.nil_append, List.cons_append]
  gi_wp2_with (refine ⟨trivial, ?_⟩; gi_at_call 63; refine (callsIn_wide.2 HT8.out).mono ?_; rintro e w1 ⟨rfl, hr1, hg1⟩; have HM1 := hid (HM.out.call HL.out hr1 hg1); clear hr1 hg1)

  gi_loopw [8] (fun si wr => ∃ (i : Nat) (pre : List Sm) (S : Rs), i ≤ M ∧ si = .int .i64 i ∧ r = smp zs (M - i) i pre S ∧ pre.length = i ∧ S.pos + S.left = S0.pos + S0.left ∧ S.fa + S.fm ≤ 64 ∧ Mid w fn B0 Lb R D l a n c s .ready pre S wr) (fun si _ => M - (intOf si).toNat)
  case atStart => exact ⟨0, [], S1, Nat.zero_le _, rfl, HRR.out, rfl, HS1.out.1, by rw [HS1.out.2.1, HS1.out.2.2]; exact hf, HM1.out⟩
  case round =>
    obtain ⟨i, pre, S, hi, rfl, hsm, hpl, hsum, hfr, hmid⟩ := hrel
    have HSM := hid hsm
    have HSU := hid hsum
    have HMD := hid hmid
    have HPL := hid hpl
    clear hsm hsum hmid hpl
    by_cases hlt : i < M
    · obtain ⟨S', hS'⟩ : ∃ S', S' = if i = 0 then firstP zs S else nextP zs S := ⟨_, rfl⟩
      have HST := hid (smp_step zs hlt HSM.out hS')
      have HSP : Hid (S'.pos + S'.left = S0.pos + S0.left ∧ S'.fa + S'.fm ≤ 64) := by
        unfold Hid; rw [hS']
        split
        · have := firstP_keep zs S; rw [this.1, this.2.1, this.2.2]; exact ⟨HSU.out, hfr⟩
        · have := nextP_keep zs S hfr; exact ⟨this.1.trans HSU.out, this.2⟩
      rcases Nat.eq_zero_or_pos i with h0 | h0
      · have HSE : Hid (S' = firstP zs S) := by unfold Hid; rw [hS', if_pos h0]
        have hi0 : ((i : Int) == 0) = true := by rw [h0]; rfl
        clear hS'
        cases hbr : S'.br with
        | true =>
          gi_wp2_with (refine ⟨trivial, ?_⟩; gi_at_call 64; refine (callsIn_wide.2 (f64 HK.out (HMD.out.rd HL.out HR.out) (by rw [HSU.out]; exact htm))).mono ?_; rw [← HSE.out]; rintro e w2 ⟨rfl, hr2, hg2⟩; have HM2 := hid (HMD.out.call HL.out hr2 hg2); have r3 : w2.cell? ⟨R, 3, none⟩ = some (.bool S'.br) := cell_at hr2.box 3; rw [hbr] at r3; have r4 : w2.cell? ⟨R, 4, none⟩ = some (.int .i64 S'.t) := cell_at hr2.box 4; have r5 : w2.cell? ⟨R, 5, none⟩ = some (.int .i64 S'.v) := cell_at hr2.box 5; clear hr2 hg2)
          refine ⟨fun _ h => (by cases h), ?_⟩
          gi_wp2
          refine bodyPost_ret (results_none rfl _ _ _) rfl ?_
          rw [HST.out.1 hbr]
          exact ⟨⟨_, rfl⟩, HM2.out⟩
        | false =>
          gi_wp2_with (refine ⟨trivial, ?_⟩; gi_at_call 64; refine (callsIn_wide.2 (f64 HK.out (HMD.out.rd HL.out HR.out) (by rw [HSU.out]; exact htm))).mono ?_; rw [← HSE.out]; rintro e w2 ⟨rfl, hr2, hg2⟩; have HM2 := hid (HMD.out.call HL.out hr2 hg2); have r3 : w2.cell? ⟨R, 3, none⟩ = some (.bool S'.br) := cell_at hr2.box 3; rw [hbr] at r3; have r4 : w2.cell? ⟨R, 4, none⟩ = some (.int .i64 S'.t) := cell_at hr2.box 4; have r5 : w2.cell? ⟨R, 5, none⟩ = some (.int .i64 S'.v) := cell_at hr2.box 5; clear hr2 hg2; have hy : (Instr.yield l #[.agg #[.int .i64 S'.t, .int .i64 S'.v]]).run Tryd.prog w2 = .ok (.round l fn (uTmps B0 Lb R a n c s (.agg #[.int .i64 S'.t, .int .i64 S'.v])) uAssign uBody) w2 := (by simpa [uRec, uTmps] using run_yield (P := Tryd.prog) (args := #[.agg #[.int .i64 S'.t, .int .i64 S'.v]]) HM2.out.L rfl))
          refine (uRound 1 S'.t S'.v HL.out HM2.out (by rw [HPL.out]; omega)).mono ?_
          rintro e w3 ⟨rfl, hm3⟩
          gi_wp2
          go_roundw
          case rel => exact ⟨i + 1, pre ++ [(S'.t, S'.v)], S', by omega, by rw [h0]; rfl, HST.out.2 hbr, by rw [List.length_append, HPL.out]; rfl, HSP.out.1, HSP.out.2, hm3⟩
          case measure => simp [intOf]; omega
      · have HSE : Hid (S' = nextP zs S) := by unfold Hid; rw [hS', if_neg (by omega)]
        have hi0 : ((i : Int) == 0) = false := by simp; omega
        clear hS'
        cases hbr : S'.br with
        | true =>
          gi_wp2_with (refine ⟨trivial, ?_⟩; gi_at_call 65; refine (callsIn_wide.2 (f65 HK.out (HMD.out.rd HL.out HR.out) (by rw [HSU.out]; exact htm) hfr (HC.out.bel HMD.out.bel) (HT.out.bel HMD.out.bel h2) hR0 hR1)).mono ?_; rw [← HSE.out]; rintro e w2 ⟨rfl, hr2, hg2⟩; have HM2 := hid (HMD.out.call HL.out hr2 hg2); have r3 : w2.cell? ⟨R, 3, none⟩ = some (.bool S'.br) := cell_at hr2.box 3; rw [hbr] at r3; have r4 : w2.cell? ⟨R, 4, none⟩ = some (.int .i64 S'.t) := cell_at hr2.box 4; have r5 : w2.cell? ⟨R, 5, none⟩ = some (.int .i64 S'.v) := cell_at hr2.box 5; clear hr2 hg2)
          refine ⟨fun _ h => (by cases h), ?_⟩
          gi_wp2
          refine bodyPost_ret (results_none rfl _ _ _) rfl ?_
          rw [HST.out.1 hbr]
          exact ⟨⟨_, rfl⟩, HM2.out⟩
        | false =>
          gi_wp2_with (refine ⟨trivial, ?_⟩; gi_at_call 65; refine (callsIn_wide.2 (f65 HK.out (HMD.out.rd HL.out HR.out) (by rw [HSU.out]; exact htm) hfr (HC.out.bel HMD.out.bel) (HT.out.bel HMD.out.bel h2) hR0 hR1)).mono ?_; rw [← HSE.out]; rintro e w2 ⟨rfl, hr2, hg2⟩; have HM2 := hid (HMD.out.call HL.out hr2 hg2); have r3 : w2.cell? ⟨R, 3, none⟩ = some (.bool S'.br) := cell_at hr2.box 3; rw [hbr] at r3; have r4 : w2.cell? ⟨R, 4, none⟩ = some (.int .i64 S'.t) := cell_at hr2.box 4; have r5 : w2.cell? ⟨R, 5, none⟩ = some (.int .i64 S'.v) := cell_at hr2.box 5; clear hr2 hg2; have hy : (Instr.yield l #[.agg #[.int .i64 S'.t, .int .i64 S'.v]]).run Tryd.prog w2 = .ok (.round l fn (uTmps B0 Lb R a n c s (.agg #[.int .i64 S'.t, .int .i64 S'.v])) uAssign uBody) w2 := (by simpa [uRec, uTmps] using run_yield (P := Tryd.prog) (args := #[.agg #[.int .i64 S'.t, .int .i64 S'.v]]) HM2.out.L rfl))
          refine (uRound 1 S'.t S'.v HL.out HM2.out (by rw [HPL.out]; omega)).mono ?_
          rintro e w3 ⟨rfl, hm3⟩
          gi_wp2
          go_roundw
          case rel => exact ⟨i + 1, pre ++ [(S'.t, S'.v)], S', by omega, by go_num, HST.out.2 hbr, by rw [List.length_append, HPL.out]; rfl, HSP.out.1, HSP.out.2, hm3⟩
          case measure => simp [intOf]; omega
    · gi_wp2
      go_end0
      have : i = M := by omega
      subst this
      have e := HSM.out
      rw [Nat.sub_self] at e
      rw [e]
      exact ⟨⟨_, rfl⟩, HMD.out⟩
end Go.Proofs.YteblbcbfaomdmaaDoor.Chk
/- The program's UnpackChunk. -/
namespace Go.Proofs.YteblbcbfaomdmaaDoor.Chk
open Go.RowKit Go.Proofs.YteblbcbfaomdmaaDoor.Bts
open Go.Proofs.YteblbcbfaomdmaaDoor.Smp hiding hid ret_int below_drewN
attribute [local go_sem] Oper.semAt_some

def rs0 (s : Nat) : Rs := ⟨0, s, false, 0, 0, 0, 0, 0⟩
/-- What the reader has read of s bits. -/
noncomputable def readP (zs : List Int) (s : Nat) : List Sm × Rs := smp zs (takeP zs (rs0 s) 8).1.toNat 0 [] (takeP zs (rs0 s) 8).2
/-- What the program makes of it. -/
def okP (r : List Sm × Rs) : Prop := r.2.br = false ∧ r.2.left = 0 ∧ r.1.length ≤ 120 ∧ GoodP r.1
theorem smp_len (zs : List Int) : ∀ f i pre S, (smp zs f i pre S).1.length ≤ pre.length + f := by
  intro f
  induction f with
  | zero => intro i pre S; exact Nat.le_refl _
  | succ f ih =>
    intro i pre S
    unfold smp
    dsimp only
    generalize (if i = 0 then firstP zs S else nextP zs S) = S'
    split
    · show pre.length ≤ _; omega
    · have := ih (i + 1) (pre ++ [(S'.t, S'.v)]) S'
      rw [List.length_append] at this
      simp only [List.length_cons, List.length_nil] at this
      omega
theorem readP_len (zs : List Int) (s : Nat) : (readP zs s).1.length ≤ 255 := by
  have h := smp_len zs (takeP zs (rs0 s) 8).1.toNat 0 [] (takeP zs (rs0 s) 8).2
  obtain ⟨M, hM, hM2⟩ := take8 zs (rs0 s)
  unfold readP
  rw [hM, Int.toNat_natCast] at h ⊢
  simp only [List.length_nil] at h
  omega
theorem rbox0 (a : Option Addr) (n c s : Nat) : rbox a n c (rs0 s) = #[.slice a n c, .int .i64 0, .int .i64 (s : Int), .bool false, .int .i64 0, .int .i64 0, .int .i64 0, .int .i64 0, .int .i64 0] := rfl
/-- What UnpackChunk answers. -/
def Unp (w : World) (r : List Sm × Rs) (e : Ending) (w' : World) : Prop :=
  (okP r ∧ ∃ v, e = .returned (.tuple #[v, .bool true]) ∧ Smp.Own w' w.heap.size v r.1 ∧ Below w.heap.size w w') ∨ (¬ okP r ∧ e = .returned (.tuple #[.slice none 0 0, .bool false]) ∧ Below w.heap.size w w')

set_option maxRecDepth 100000 in
set_option maxHeartbeats 8000000 in
theorem unpack_in (a : Option Addr) (n c s : Nat) (zs : List Int) (w : World) (hk : Dk n zs) (hr : Byt.Has w a zs) (hg : good zs s = true) (hs8 : s ≤ 8 * n) (hc : Cls w) (ht : Tab w) (h2 : 2 ≤ w.heap.size) :
    CallsIn Fence.wide 3 Tryd.prog 11 #[.agg #[.slice a n c, .int .i64 (s : Int)]] w (Unp w (readP zs s)) := by
  have HC := hid hc
  have HT := hid ht
  refine callsIn_of_wp_marks Tryd.func11 rfl trivial ?_ rfl
  simp only [Tryd.ntmps11, List.size_toArray, List.length_cons, List.length_nil, Nat.reduceAdd, Nat.reduceSub, Array.replicate_succ, Array.replicate_zero, List.push_toArray, List.append_toArray, List.nil_append, List.cons_append]
  gi_wp2_with (refine ⟨trivial, ?_⟩; gi_at_call 14; refine (callsIn_wide.2 (f14 a n c s zs _ hk.len hk.le (has_alloc hr _) hk.byte)).mono ?_; rintro e w1 ⟨rfl, hb1⟩; rw [hg]; have x0 : w1.cell? ⟨w.heap.size, 0, none⟩ = some (.slice a n c) := (hb1.cell (p := ⟨w.heap.size, 0, none⟩) (by simp)).trans (by simp); have x1 : w1.cell? ⟨w.heap.size, 1, none⟩ = some (.int .i64 (s : Int)) := (hb1.cell (p := ⟨w.heap.size, 1, none⟩) (by simp)).trans (by simp); have hsz1 : w.heap.size + 1 ≤ w1.heap.size := (by simpa using hb1.size); have y0 := cell_alloc (o := .cells #[.slice none 0 0] 23) (by show w.heap.size < w1.heap.size; omega) x0; have y1 := cell_alloc (o := .cells #[.slice none 0 0] 23) (by show w.heap.size < w1.heap.size; omega) x1)
  have hbw : Below w.heap.size w w1 := ((Below.refl _ w).alloc (Nat.le_refl _) _).trans (hb1.mono (by simp))
  refine wpIn_rangeFunc ?_
  intro fn hfn
  obtain ⟨W0, hW0⟩ : ∃ W0, (w1.alloc (.cells #[.slice none 0 0] 23)).alloc (.cells #[.slice a n c, .int .i64 0, .int .i64 (s : Int), .bool false, .int .i64 0, .int .i64 0, .int .i64 0, .int .i64 0, .int .i64 0] 75) = W0 := ⟨_, rfl⟩
  have hs0 : W0.heap.size = w1.heap.size + 2 := by rw [← hW0]; simp
  have hb0 : Below w.heap.size w W0 := by
    rw [← hW0]; exact (hbw.alloc hbw.size _).alloc (by have := hbw.size; simp; omega) _
  have hL0 : W0.heap[w1.heap.size]? = some (.cells #[.slice none 0 0] 23 (0, 0)) := by
    rw [← hW0]; exact (Below.heap_alloc _ _ _ (by simp)).trans (heap_alloc_new w1 _)
  have hR0 : W0.heap[w1.heap.size + 1]? = some (.cells (rbox a n c (rs0 s)) 75 (0, 0)) := by
    rw [← hW0]
    have := heap_alloc_new (w1.alloc (.cells #[.slice none 0 0] 23)) (.cells #[.slice a n c, .int .i64 0, .int .i64 (s : Int), .bool false, .int .i64 0, .int .i64 0, .int .i64 0, .int .i64 0, .int .i64 0] 75)
    rwa [World.size_alloc] at this
  rw [hW0]
  obtain ⟨W1, hW1⟩ : ∃ W1, (W0.alloc (.deferred (some []))).alloc (.loop (uRec fn w.heap.size w1.heap.size (w1.heap.size + 1) W0.heap.size a n c s .ready none)) = W1 := ⟨_, rfl⟩
  have hl : Lie w w1.heap.size (w1.heap.size + 1) W0.heap.size (W0.heap.size + 1) := ⟨by omega, by omega, by omega, by omega⟩
  have hM : Mid w fn w.heap.size w1.heap.size (w1.heap.size + 1) W0.heap.size (W0.heap.size + 1) a n c s .ready [] (rs0 s) W1 := by
    have hbb : Below W0.heap.size W0 W1 := by rw [← hW1]; exact ((Below.refl _ W0).alloc (Nat.le_refl _) _).alloc (by simp) _
    refine ⟨box_below hR0 hbb, ⟨_, box_below hL0 hbb, Smp.Own.nil _ _⟩, ?_, ?_, hb0.trans (hbb.mono hb0.size)⟩
    · rw [← hW1]
      have := World.alloc_heap_new (W0.alloc (.deferred (some []))) (.loop (uRec fn w.heap.size w1.heap.size (w1.heap.size + 1) W0.heap.size a n c s .ready none))
      rwa [World.size_alloc] at this
    · rw [← hW1]; exact (Below.heap_alloc _ _ _ (by simp)).trans (World.alloc_heap_new W0 _)
  refine ⟨W0.heap.size + 1, [{ target := .collected W0.heap.size, args := #[] }], W1, { target := .fn (.func 46) #[], args := #[.pointer (some ⟨w1.heap.size + 1, 0, none⟩), .func (.yield (W0.heap.size + 1)) #[] #[]] }, W1, 46,
    #[.pointer (some ⟨w1.heap.size + 1, 0, none⟩), .func (.yield (W0.heap.size + 1)) #[] #[]], W1, ?_, ?_, ?_, ?_, fun _ => by omega, ?_⟩
  · rw [← hW1]; exact run_enterLoop_outer _ _ _ _ _
  · simp [resolve, go_sem]
  · intro f' hf'; exact trivial
  · simp [invoke, go_sem]
  · refine (samples_in hk hr hl hM (by show 0 + s ≤ _; omega) (by show (0 : Nat) + 0 ≤ 64; omega) HC.out HT.out h2).mono ?_
    rintro e W2 ⟨⟨v, rfl⟩, hm2⟩
    have hlen := readP_len zs s
    have hm2' : Mid w fn w.heap.size w1.heap.size (w1.heap.size + 1) W0.heap.size (W0.heap.size + 1) a n c s .ready (readP zs s).1 (readP zs s).2 W2 := hm2
    obtain ⟨L, T, hrp⟩ : ∃ L T, readP zs s = (L, T) := ⟨_, _, rfl⟩
    rw [hrp] at hm2' hlen ⊢
    have hend := run_endLoop (P := Tryd.prog) hm2'.L (by simp [uRec])
    have HM3 := hid (hm2'.put hl .exhausted)
    obtain ⟨W3, hW3⟩ : ∃ W3, W2.putObj (W0.heap.size + 1) (.loop (uRec fn w.heap.size w1.heap.size (w1.heap.size + 1) W0.heap.size a n c s .exhausted none)) = W3 := ⟨_, rfl⟩
    have hend' : (Instr.endLoop (W0.heap.size + 1)).run Tryd.prog W2 = .ok none W3 := by rw [hend, ← hW3]; rfl
    rw [hW3] at HM3
    refine ⟨none, W3, hend', ?_⟩
    obtain ⟨v0, hv0, ho0⟩ := HM3.out.row
    have hcL : W3.cell? ⟨w1.heap.size, 0, none⟩ = some v0 := cell_at hv0 0
    have hc2 : W3.cell? ⟨w1.heap.size + 1, 2, none⟩ = some (.int .i64 (T.left : Int)) := cell_at HM3.out.box 2
    have hc3 : W3.cell? ⟨w1.heap.size + 1, 3, none⟩ = some (.bool T.br) := cell_at HM3.out.box 3
    have HO := hid ho0
    have HV := hid hv0
    have hbelD : ∀ X : World, Below W3.heap.size W3 X → Below w.heap.size w (X.putObj W0.heap.size (.deferred none)) := by
      intro X hX
      have hb := HM3.out.bel.trans (hX.mono HM3.out.bel.size)
      exact hb.grown (grownBy_putObj' X _ _) hb.size (by intro k hk; cases hk; omega)
    have hown : ∀ X : World, Below W3.heap.size W3 X → Smp.Own (X.putObj W0.heap.size (.deferred none)) w.heap.size v0 L := by
      intro X hX
      exact (HO.out.below hX).kept (grownBy_putObj' X _ _) (own_ne (HO.out.below hX) (box_below HM3.out.K hX) (by intro cs q e; cases e))
    have HBD := hid hbelD
    have HOW := hid hown
    have HKD := hid HM3.out.K
    obtain ⟨av, cv', rfl⟩ := own_form ho0
    have HHS := hid ((Smp.Own.has ho0).2)
    clear hm2 hm2' hend hW3 hend' hv0 ho0 hbelD hown x0 x1 y0 y1 hb1 hM hW0 hW1 hL0 hR0 hb0
    have hfin : ∀ X : World, ¬ okP (L, T) → Below W3.heap.size W3 X → Unp w (L, T) (.returned (.tuple #[.slice none 0 0, .bool false])) (X.putObj W0.heap.size (.deferred none)) := fun X hn hX => .inr ⟨hn, rfl, HBD.out X hX⟩
    have HS0 := hid hs0
    clear hs0
    cases hbr : T.br with
    | true =>
      rw [hbr] at hc3
      have HF := hid (hfin W3 (fun h => absurd (hbr.symm.trans h.1) (by decide)) (Below.refl _ _))
      clear hfin
      rw [← hrp] at HF
      gi_wp2
      refine ⟨trivial, ?_⟩
      gi_wp2
      refine ⟨by simp, .inl ⟨_, _, rfl, run_takeDeferred HKD.out, ?_⟩⟩
      exact ⟨_, by simp [results, Tryd.f11, go_sem], HF.out⟩
    | false =>
      rw [hbr] at hc3
      by_cases hlf : 0 < T.left
      · have HF := hid (hfin W3 (fun h => by have := h.2.1; simp only at this; omega) (Below.refl _ _))
        clear hfin
        rw [← hrp] at HF
        gi_wp2
        refine ⟨trivial, ?_⟩
        gi_wp2
        refine ⟨by simp, .inl ⟨_, _, rfl, run_takeDeferred HKD.out, ?_⟩⟩
        exact ⟨_, by simp [results, Tryd.f11, go_sem], HF.out⟩
      · by_cases h120 : 120 < L.length
        · have HF := hid (hfin W3 (fun h => by have := h.2.2.1; simp only at this; omega) (Below.refl _ _))
          clear hfin
          rw [← hrp] at HF
          gi_wp2
          refine ⟨trivial, ?_⟩
          gi_wp2
          refine ⟨by simp, .inl ⟨_, _, rfl, run_takeDeferred HKD.out, ?_⟩⟩
          exact ⟨_, by simp [results, Tryd.f11, go_sem], HF.out⟩
        · have hGS := Smp.f40 av cv' L W3 (by unfold maxLen; omega) HHS.out
          by_cases hgp : GoodP L
          · have hgs : goodS L = true := decide_eq_true hgp
            rw [hgs] at hGS
            have HGS := hid hGS
            have HF : Hid (∀ X : World, Below W3.heap.size W3 X → Unp w (L, T) (.returned (.tuple #[.slice av L.length cv', .bool true])) (X.putObj W0.heap.size (.deferred none))) := fun X hX => .inl ⟨⟨hbr, by show T.left = 0; omega, by show L.length ≤ 120; omega, hgp⟩, _, rfl, HOW.out X hX, HBD.out X hX⟩
            clear hGS hfin hgp hgs
            rw [← hrp] at HF
            gi_wp2_with (refine ⟨trivial, ?_⟩; gi_at_call 40; refine (callsIn_wide.2 HGS.out).mono ?_; rintro e w4 ⟨rfl, hb4⟩; have hc4 : w4.cell? ⟨w1.heap.size, 0, none⟩ = some (.slice av L.length cv') := cell_at (box_below HV.out hb4) 0)
            refine ⟨by simp, .inl ⟨_, _, rfl, run_takeDeferred (box_below HKD.out hb4), ?_⟩⟩
            exact ⟨_, by simp [results, Tryd.f11, go_sem], HF.out w4 hb4⟩
          · have hgs : goodS L = false := decide_eq_false hgp
            rw [hgs] at hGS
            have HGS := hid hGS
            have HF : Hid (∀ X : World, Below W3.heap.size W3 X → Unp w (L, T) (.returned (.tuple #[.slice none 0 0, .bool false])) (X.putObj W0.heap.size (.deferred none))) := fun X hX => hfin X (fun h => hgp h.2.2.2) hX
            clear hGS hfin hgp hgs
            rw [← hrp] at HF
            gi_wp2_with (refine ⟨trivial, ?_⟩; gi_at_call 40; refine (callsIn_wide.2 HGS.out).mono ?_; rintro e w4 ⟨rfl, hb4⟩)
            refine ⟨by simp, .inl ⟨_, _, rfl, run_takeDeferred (box_below HKD.out hb4), ?_⟩⟩
            exact ⟨_, by simp [results, Tryd.f11, go_sem], HF.out w4 hb4⟩

theorem f11 (a : Option Addr) (n c s : Nat) (zs : List Int) (w : World) (hk : Dk n zs) (hr : Byt.Has w a zs) (hg : good zs s = true) (hs8 : s ≤ 8 * n) (hc : Cls w) (ht : Tab w) (h2 : 2 ≤ w.heap.size) :
    Calls Tryd.prog 11 #[.agg #[.slice a n c, .int .i64 (s : Int)]] w (Unp w (readP zs s)) :=
  callsIn_wide.1 (unpack_in a n c s zs w hk hr hg hs8 hc ht h2)
end Go.Proofs.YteblbcbfaomdmaaDoor.Chk
