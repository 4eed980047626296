/- A round of the program's loop in joinBlocks. -/
import Derived.Test.YtjhdmghpklagkaaGreatD07
import Derived.Test.YtjhdmghpklagkaaGreatD25
import Derived.Deep.Fields
namespace Go.Proofs.YtjhdmghpklagkaaGreat.Hpl
open Go.RowKit
open Go.Proofs.YtjhdmghpklagkaaGreat.Stb
open Go.Proofs.YtjhdmghpklagkaaGreat.Lab (HasL cmpList two0 two1)
open Go.Proofs.YtjhdmghpklagkaaGreat.Smp (Sm HasS)
open Go.Proofs.YtjhdmghpklagkaaGreat.Srs (Q q0 pl Pl Own2 Kin Dsj blk flat flat_append flat_get getD_snoc jb jb_snoc snoc_of OwnO own_below step_append_j own_formP infoQ'')
attribute [local go_sem] Oper.semAt_some

def jAssign : Code := (Code.region 9 #[{ dst := some 13, op := Op.alloc 80, type := 0, pos := "l10_compact.go:203", after := #[], guard := none }, { dst := none, op := Op.store 80 (Operand.tmp 13) (Operand.tmp 33), type := 0, pos := "l10_compact.go:203", after := #[{ on := 0, ground := Ground.data }, { on := 0, ground := Ground.phase }], guard := none }] false)
def jBody : Code := (Code.block 3 ((Code.region 10 #[{ dst := some 34, op := Op.load 33 (Operand.tmp 12), type := 33, pos := "l10_compact.go:204", after := #[], guard := none }, { dst := some 35, op := Op.call { callee := Callee.builtin Builtin.len, args := #[Operand.tmp 34], argTypes := #[33] }, type := 3, pos := "l10_compact.go:204", after := #[{ on := 0, ground := Ground.data }], guard := none }, { dst := some 36, op := Op.binOp BinOp.sub 3 (Operand.tmp 35) (Operand.const (Value.int IntKind.i64 1)) 3, type := 3, pos := "l10_compact.go:204", after := #[{ on := 1, ground := Ground.data }], guard := none }, { dst := some 14, op := Op.assign (Operand.tmp 36), type := 3, pos := "l10_compact.go:204", after := #[{ on := 2, ground := Ground.data }, { on := 0, ground := Ground.phase }, { on := 1, ground := Ground.phase }, { on := 2, ground := Ground.phase }], guard := none }] false).seq (((Code.region 11 #[{ dst := some 37, op := Op.move (Operand.tmp 14), type := 3, pos := "l10_compact.go:205", after := #[], guard := none }, { dst := some 38, op := Op.binOp BinOp.geq 3 (Operand.tmp 37) (Operand.const (Value.int IntKind.i64 0)) 3, type := 4, pos := "l10_compact.go:205", after := #[{ on := 0, ground := Ground.data }], guard := none }, { dst := some 39, op := Op.move (Operand.tmp 38), type := 4, pos := "l10_compact.go:205", after := #[{ on := 1, ground := Ground.data }], guard := none }, { dst := some 40, op := Op.load 33 (Operand.tmp 12), type := 33, pos := "l10_compact.go:205", after := #[{ on := 2, ground := Ground.guard }], guard := some (2, true) }, { dst := some 41, op := Op.move (Operand.tmp 14), type := 3, pos := "l10_compact.go:205", after := #[{ on := 2, ground := Ground.guard }], guard := some (2, true) }, { dst := some 42, op := Op.indexAddr 33 (Operand.tmp 40) (Operand.tmp 41), type := 0, pos := "l10_compact.go:205", after := #[{ on := 3, ground := Ground.data }, { on := 4, ground := Ground.data }, { on := 2, ground := Ground.guard }], guard := some (2, true) }, { dst := some 43, op := Op.load 80 (Operand.tmp 42), type := 80, pos := "l10_compact.go:205", after := #[{ on := 5, ground := Ground.data }, { on := 2, ground := Ground.guard }], guard := some (2, true) }, { dst := some 44, op := Op.load 80 (Operand.tmp 13), type := 80, pos := "l10_compact.go:205", after := #[{ on := 2, ground := Ground.guard }], guard := some (2, true) }, { dst := some 45, op := Op.call { callee := Callee.value (Operand.func 92), args := #[Operand.tmp 43, Operand.tmp 44], argTypes := #[80, 80] }, type := 3, pos := "l10_compact.go:205", after := #[{ on := 6, ground := Ground.data }, { on := 7, ground := Ground.data }, { on := 2, ground := Ground.chain }, { on := 2, ground := Ground.guard }], guard := some (2, true) }, { dst := some 46, op := Op.binOp BinOp.eql 3 (Operand.tmp 45) (Operand.const (Value.int IntKind.i64 0)) 3, type := 4, pos := "l10_compact.go:205", after := #[{ on := 8, ground := Ground.data }, { on := 2, ground := Ground.guard }], guard := some (2, true) }, { dst := some 47, op := Op.pick (Operand.tmp 39) (Operand.tmp 46) (Operand.const (Value.bool false)), type := 4, pos := "l10_compact.go:205", after := #[{ on := 2, ground := Ground.data }, { on := 9, ground := Ground.data }], guard := none }] true).seq (Code.cond (Operand.tmp 47) ((Code.region 12 #[{ dst := some 48, op := Op.load 33 (Operand.tmp 12), type := 33, pos := "l10_compact.go:207", after := #[], guard := none }, { dst := some 49, op := Op.move (Operand.tmp 14), type := 3, pos := "l10_compact.go:207", after := #[], guard := none }, { dst := some 50, op := Op.load 33 (Operand.tmp 12), type := 33, pos := "l10_compact.go:207", after := #[], guard := none }, { dst := some 51, op := Op.move (Operand.tmp 14), type := 3, pos := "l10_compact.go:207", after := #[], guard := none }, { dst := some 52, op := Op.indexAddr 33 (Operand.tmp 50) (Operand.tmp 51), type := 0, pos := "l10_compact.go:207", after := #[{ on := 2, ground := Ground.data }, { on := 3, ground := Ground.data }], guard := none }, { dst := some 53, op := Op.fieldAddr 80 (Operand.tmp 52) 1, type := 0, pos := "l10_compact.go:207", after := #[{ on := 4, ground := Ground.data }], guard := none }, { dst := some 54, op := Op.load 78 (Operand.tmp 53), type := 78, pos := "l10_compact.go:207", after := #[{ on := 5, ground := Ground.data }], guard := none }, { dst := some 55, op := Op.fieldAddr 80 (Operand.tmp 13) 1, type := 0, pos := "l10_compact.go:207", after := #[], guard := none }, { dst := some 56, op := Op.load 78 (Operand.tmp 55), type := 78, pos := "l10_compact.go:207", after := #[{ on := 7, ground := Ground.data }], guard := none }, { dst := some 57, op := Op.call { callee := Callee.builtin Builtin.append, args := #[Operand.tmp 54, Operand.tmp 56], argTypes := #[78, 78] }, type := 78, pos := "l10_compact.go:207", after := #[{ on := 6, ground := Ground.data }, { on := 8, ground := Ground.data }], guard := none }, { dst := some 58, op := Op.indexAddr 33 (Operand.tmp 48) (Operand.tmp 49), type := 0, pos := "l10_compact.go:207", after := #[{ on := 0, ground := Ground.data }, { on := 1, ground := Ground.data }, { on := 0, ground := Ground.phase }, { on := 1, ground := Ground.phase }, { on := 2, ground := Ground.phase }, { on := 3, ground := Ground.phase }, { on := 4, ground := Ground.phase }, { on := 5, ground := Ground.phase }, { on := 6, ground := Ground.phase }, { on := 7, ground := Ground.phase }, { on := 8, ground := Ground.phase }, { on := 9, ground := Ground.phase }], guard := none }, { dst := some 59, op := Op.fieldAddr 80 (Operand.tmp 58) 1, type := 0, pos := "l10_compact.go:207", after := #[{ on := 10, ground := Ground.data }, { on := 0, ground := Ground.phase }, { on := 1, ground := Ground.phase }, { on := 2, ground := Ground.phase }, { on := 3, ground := Ground.phase }, { on := 4, ground := Ground.phase }, { on := 5, ground := Ground.phase }, { on := 6, ground := Ground.phase }, { on := 7, ground := Ground.phase }, { on := 8, ground := Ground.phase }, { on := 9, ground := Ground.phase }], guard := none }, { dst := none, op := Op.store 78 (Operand.tmp 59) (Operand.tmp 57), type := 0, pos := "l10_compact.go:207", after := #[{ on := 11, ground := Ground.data }, { on := 9, ground := Ground.data }, { on := 9, ground := Ground.chain }, { on := 0, ground := Ground.phase }, { on := 1, ground := Ground.phase }, { on := 2, ground := Ground.phase }, { on := 3, ground := Ground.phase }, { on := 4, ground := Ground.phase }, { on := 5, ground := Ground.phase }, { on := 6, ground := Ground.phase }, { on := 7, ground := Ground.phase }, { on := 8, ground := Ground.phase }, { on := 9, ground := Ground.phase }], guard := none }] true).seq (Code.exit 3)) Code.skip)).seq (Code.region 13 #[{ dst := some 60, op := Op.load 33 (Operand.tmp 12), type := 33, pos := "l10_compact.go:210", after := #[], guard := none }, { dst := some 61, op := Op.load 80 (Operand.tmp 13), type := 80, pos := "l10_compact.go:210", after := #[], guard := none }, { dst := some 62, op := Op.buildSlice 33 1 #[(0, Operand.tmp 61)], type := 33, pos := "l10_compact.go:210", after := #[{ on := 1, ground := Ground.data }], guard := none }, { dst := some 63, op := Op.call { callee := Callee.builtin Builtin.append, args := #[Operand.tmp 60, Operand.tmp 62], argTypes := #[33, 33] }, type := 33, pos := "l10_compact.go:210", after := #[{ on := 0, ground := Ground.data }, { on := 2, ground := Ground.data }], guard := none }, { dst := none, op := Op.store 33 (Operand.tmp 12) (Operand.tmp 63), type := 0, pos := "l10_compact.go:210", after := #[{ on := 3, ground := Ground.data }, { on := 3, ground := Ground.chain }, { on := 0, ground := Ground.phase }, { on := 1, ground := Ground.phase }, { on := 2, ground := Ground.phase }, { on := 3, ground := Ground.phase }], guard := none }] false))))
structure Vs where
  v0 : Value
  v1 : Value
  v2 : Value
  v3 : Value
  v4 : Value
  v5 : Value
  v6 : Value
  v7 : Value
  v8 : Value
  v9 : Value
  v10 : Value
  v11 : Value
  v15 : Value
  v16 : Value
  v17 : Value
  v18 : Value
  v19 : Value
  v20 : Value
  v21 : Value
  v22 : Value
  v23 : Value
  v24 : Value
  v25 : Value
  v26 : Value
  v27 : Value
  v28 : Value
  v29 : Value
  v30 : Value
  v31 : Value
  v32 : Value
def jTmps (v : Vs) (Ob : Nat) (x : Value) : Array Value := #[v.v0, v.v1, v.v2, v.v3, v.v4, v.v5, v.v6, v.v7, v.v8, v.v9, v.v10, v.v11, .pointer (some ⟨Ob, 0, none⟩), undef, undef, v.v15, v.v16, v.v17, v.v18, v.v19, v.v20, v.v21, v.v22, v.v23, v.v24, v.v25, v.v26, v.v27, v.v28, v.v29, v.v30, v.v31, v.v32, x, undef, undef, undef, undef, undef, undef, undef, undef, undef, undef, undef, undef, undef, undef, undef, undef, undef, undef, undef, undef, undef, undef, undef, undef, undef, undef, undef, undef, undef, undef, undef]
def jRec (fn : FuncId) (v : Vs) (Ob D : Nat) (st : LoopState) : Loop := { state := st, pending := none, fn, tmps := jTmps v Ob undef, params := #[33], assign := jAssign, body := jBody, defers := D }
structure Lie (B0 B1 Ob hb g D l : Nat) : Prop where
  a : B0 ≤ Ob
  b : Ob < hb
  c : hb ≤ g
  d : g < D
  e : D < l
  f : l < B1
structure Jm (w W0 : World) (B0 B1 : Nat) (rows : Nat → Prop) (T : List Q) (l D Ob hb g : Nat) (r : Loop) (oh og : Option Obj) (pre : List Q) (a : Option Addr) (m c : Nat) (R rest : List Q) (W : World) : Prop where
  L : W.heap[l]? = some (.loop r)
  K : W.heap[D]? = some (.deferred (some []))
  O : W.heap[Ob]? = some (.cells #[.slice a m c] 33 (0, 0))
  kh : W.heap[hb]? = oh
  kg : W.heap[g]? = og
  C : Jc w W0 B0 B1 rows T pre a m c R rest W
section
variable {w W0 : World} {B0 B1 : Nat} {rows : Nat → Prop} {T : List Q} {l D Ob hb g : Nat} {r : Loop} {oh og : Option Obj} {pre pre' : List Q} {a : Option Addr} {m c : Nat} {R R' rest rest' : List Q} {W W' : World}
theorem Jm.turn (h : Jm w W0 B0 B1 rows T l D Ob hb g r oh og pre a m c R rest W) (I : Lie B0 B1 Ob hb g D l) (hk : ∀ b, B0 ≤ b → b < B1 → W'.heap[b]? = W.heap[b]?) (C' : Jc w W0 B0 B1 rows T pre' a m c R' rest' W') : Jm w W0 B0 B1 rows T l D Ob hb g r oh og pre' a m c R' rest' W' := by
  have i1 := I.a
  have i2 := I.b
  have i3 := I.c
  have i4 := I.d
  have i5 := I.e
  have i6 := I.f
  exact ⟨(hk l (by omega) (by omega)).trans h.L, (hk D (by omega) (by omega)).trans h.K, (hk Ob (by omega) (by omega)).trans h.O, (hk hb (by omega) (by omega)).trans h.kh, (hk g (by omega) (by omega)).trans h.kg, C'⟩
theorem Jm.below (h : Jm w W0 B0 B1 rows T l D Ob hb g r oh og pre a m c R rest W) (S : Js w B0 B1 rows T) (I : Lie B0 B1 Ob hb g D l) (hb' : Below W.heap.size W W') : Jm w W0 B0 B1 rows T l D Ob hb g r oh og pre a m c R rest W' :=
  h.turn I (fun b _ h1 => hb'.block b (Nat.lt_of_lt_of_le h1 h.C.siz)) (h.C.below S hb')
theorem Jm.put (h : Jm w W0 B0 B1 rows T l D Ob hb g r oh og pre a m c R rest W) (S : Js w B0 B1 rows T) (I : Lie B0 B1 Ob hb g D l) (r' : Loop) : Jm w W0 B0 B1 rows T l D Ob hb g r' oh og pre a m c R rest (W.putObj l (.loop r')) := by
  have i1 := I.a
  have i2 := I.b
  have i3 := I.c
  have i4 := I.d
  have i5 := I.e
  have i6 := I.f
  have hs := h.C.siz
  have hg := grownBy_putObj' W l (.loop r')
  have hk : ∀ b, b ≠ l → b < B1 → (W.putObj l (.loop r')).heap[b]? = W.heap[b]? := fun b hb hb1 => hg.block b (by omega) (fun e => hb (Option.some.inj e))
  exact ⟨World.putObj_heap_same (by omega), (hk D (by omega) (by omega)).trans h.K, (hk Ob (by omega) (by omega)).trans h.O, (hk hb (by omega) (by omega)).trans h.kh, (hk g (by omega) (by omega)).trans h.kg, h.C.mid S hg (by omega) (by omega)⟩
theorem Jm.box {a' : Option Addr} {m' c' : Nat} (h : Jm w W0 B0 B1 rows T l D Ob hb g r oh og pre a m c R rest W) (S : Js w B0 B1 rows T) (I : Lie B0 B1 Ob hb g D l) (hk : ∀ b, B0 ≤ b → b < B1 → W'.heap[b]? = W.heap[b]?) (C' : Jc w W0 B0 B1 rows T pre' a' m' c' R' rest' W') :
    W'.heap[Ob]? = some (.cells #[.slice a m c] 33 (0, 0)) ∧ Jm w W0 B0 B1 rows T l D Ob hb g r oh og pre' a' m' c' R' rest' (W'.setCell ⟨Ob, 0, none⟩ (.slice a' m' c')) := by
  have i1 := I.a
  have i2 := I.b
  have i3 := I.c
  have i4 := I.d
  have i5 := I.e
  have i6 := I.f
  have hO := (hk Ob (by omega) (by omega)).trans h.O
  have hg : W'.grownBy (W'.setCell ⟨Ob, 0, none⟩ (.slice a' m' c')) (some Ob) := set_gr _ _ _ _
  have hs := C'.siz
  have hk2 : ∀ b, b ≠ Ob → b < B1 → (W'.setCell ⟨Ob, 0, none⟩ (.slice a' m' c')).heap[b]? = W'.heap[b]? := fun b hb hb1 => hg.block b (by omega) (fun e => hb (Option.some.inj e))
  refine ⟨hO, (hk2 l (by omega) (by omega)).trans ((hk l (by omega) (by omega)).trans h.L), (hk2 D (by omega) (by omega)).trans ((hk D (by omega) (by omega)).trans h.K), ?_, (hk2 hb (by omega) (by omega)).trans ((hk hb (by omega) (by omega)).trans h.kh), (hk2 g (by omega) (by omega)).trans ((hk g (by omega) (by omega)).trans h.kg), C'.mid S hg (by omega) (by omega)⟩
  have hlt : Ob < W'.heap.size := (Array.getElem?_eq_some_iff.1 hO).1
  have h' : W'.heap[Ob] = .cells #[.slice a m c] 33 (0, 0) := by simpa [Array.getElem?_eq_getElem hlt] using hO
  show (W'.heap.modify Ob _)[Ob]? = _
  rw [Array.getElem?_eq_getElem (by simpa using hlt), Array.getElem_modify_self, h']
  rfl
end
theorem run_len {α : Type} (lt : α → α → Bool) (f : α → α → α) : ∀ (L : List α) (x : α), (run lt f x L).length ≤ L.length + 1
  | [], x => by simp [run]
  | y :: L, x => by
    unfold run
    have h1 := run_len lt f L (f x y)
    have h2 := run_len lt f L y
    split <;> simp <;> omega
theorem upd_len {α : Type} (lt : α → α → Bool) (f : α → α → α) (L : List α) : (L.foldl (upd lt f) []).length ≤ L.length := by
  rw [foldl_runs]
  cases L with
  | nil => simp [runs]
  | cons x L => simpa [runs] using run_len lt f L x
theorem row_ne {W : World} {X E z n b : Nat} {v : Value} {xs : List Value} {cs : Array Value} {t : TypeId} {q : Nat × Nat} (h : W.ownsRow X E z v n xs) (hx : W.heap[b]? = some (.cells cs t q)) (hb : v.ownBlock = some b) (hne : E ≠ t) : False := by
  rcases h.2 with ⟨rfl, _⟩ | ⟨g1, c1, cur1, rfl, _, hg1, _⟩
  · cases hb
  · simp only [Value.ownBlock, Option.some.injEq] at hb
    subst hb
    rw [hx] at hg1
    simp only [Option.some.injEq, Obj.cells.injEq] at hg1
    exact hne hg1.2.1.symm
theorem one_at {w : World} {b : Nat} {v : Value} {t : TypeId} (h : w.heap[b]? = some (.cells #[v] t (0, 0))) : w.cell? ⟨b, 0, none⟩ = some v := by
  unfold World.cell?
  simp only [h]
  rfl
theorem frz_at {w : World} {b : Nat} {cs : Array Value} {t : TypeId} (h : w.heap[b]? = some (.cells cs t (0, 0))) (o : Nat) : w.frozen? ⟨b, o, none⟩ = false := by simp [World.frozen?, h]
theorem box_bel {w w' : World} {b : Nat} {o : Obj} (h : w.heap[b]? = some o) (hb : Below w.heap.size w w') : w'.heap[b]? = some o := (hb.block b (Array.getElem?_eq_some_iff.1 h).1).trans h
theorem wpListIn_append_at {F : Fence} {n : Nat} {P : Program} (w : World) {ops : Array Oper} {rest : List Oper} {o : Oper} {a : Act} {Q : Exit → Act → World → Prop}
    (hg : o.guard = none) (s x : Operand) (t : TypeId) (hop : o.op = Op.call { callee := Callee.builtin Builtin.append, args := #[s, x], argTypes := #[t, t] })
    (base : Nat) (e : TypeId) (i : TypeInfo) (z : Value) (size bytes : Nat) (h1 : P.underlying t = some (.slice e)) (h2 : P.info? e = some i) (h3 : i.zero = some z) (h4 : i.size = size) (h5 : i.bytes = bytes) (h6 : z.cells.size = size) (h7 : 0 < size)
    (v : Value) (k : Nat) (xs : List Value) (hs : a.eval s = v) (hown : w.ownsRow base e size v k xs) (ad : Addr) (m c : Nat) (news : List Value) (hx : a.eval x = .slice (some ad) m c) (hn : news.length = m * size)
    (hc : ∀ j u, news[j]? = some u → w.cell? (ad.add j) = some u) (h1c : ∀ u ∈ news, u.oneCell' = true) (b1 : k + m ≤ maxLen) (b2 : (k + m) * bytes ≤ 140737488355328) (b3 : base ≤ w.heap.size)
    (hK : ∀ v' w', w'.ownsRow base e size v' (k + m) (xs ++ news) → w.grownBy w' v.ownBlock → (v'.ownBlock = v.ownBlock ∨ v'.ownBlock = some w.heap.size) → wpListIn F n P ops Q rest (a.put o.dst v') w') :
    wpListIn F n P ops Q (o :: rest) a w := by
  refine wpListIn_plain hg fun K hK' => ?_
  obtain ⟨v', w', hrun, r1, r2, _, r4⟩ := run_append_own_at (P := P) w base t o.type e i z size bytes h1 h2 h3 h4 h5 h6 h7 v k xs hown ad m c news hn hc h1c b1 b2 b3
  unfold Oper.wpIn
  refine ⟨?_, ?_⟩
  · simp [Oper.about, hop, resolve, Target.leads, Sem.run_pure]
  · rw [Oper.semAt_plain F _ _ (by rw [hop]; intro c hc'; cases hc')]
    simp [execOp, hop, resolve, invoke, builtin, hs, hx, hrun, Result.andThen]
    exact hK' _ _ (hK v' w' r1 r2 r4)

set_option maxRecDepth 100000 in
set_option maxHeartbeats 8000000 in
theorem jRound {w W0 : World} {B0 B1 : Nat} {rows : Nat → Prop} {T : List Q} {l D Ob hb g : Nat} {fn : FuncId} {v : Vs} {oh og : Option Obj} {pre : List Q} {a : Option Addr} {m c : Nat} {R rest : List Q} {W : World} (n : Nat) (q : Q) (S : Js w B0 B1 rows T) (I : Lie B0 B1 Ob hb g D l) (h : Jm w W0 B0 B1 rows T l D Ob hb g (jRec fn v Ob D .ready) oh og pre a m c R (q :: rest) W) :
    RoundIn Fence.wide n Tryz.prog l fn (jTmps v Ob (.agg #[.slice q.a q.l.length q.c, .slice q.b q.s.length q.d])) jAssign jBody W fun e W' => e = .returned (.bool true) ∧ ∃ a' m' c' R' rest', Jm w W0 B0 B1 rows T l D Ob hb g (jRec fn v Ob D .ready) oh og (pre ++ [q]) a' m' c' R' rest' W' := by
  refine roundIn_of_wpIn trivial ?_
  obtain ⟨i0, hi, hz0, hz1, hz2⟩ := info_parts infoQ''
  have S := hid S
  have I := hid I
  have HA := hid (h.below S.out I.out ((Below.refl _ W).alloc (Nat.le_refl _) (.cells #[.slice q.a q.l.length q.c, .slice q.b q.s.length q.d] 80)))
  have hbr := run_beginRound (P := Tryz.prog) HA.out.L rfl
  have HM := hid (HA.out.put S.out I.out (jRec fn v Ob D .busy))
  have hX := heap_alloc_new W (.cells #[.slice q.a q.l.length q.c, .slice q.b q.s.length q.d] 80)
  have hsz := h.C.siz
  have HGB : Hid (∀ gr, a = some ⟨gr, 0, none⟩ → gr < W.heap.size) := fun gr e => (h.C.row.lt gr (by rw [e]; rfl)).2
  have hXl : W.heap.size ≠ l := by have := I.out.f; omega
  have hXO : W.heap.size ≠ Ob := by have := I.out.b; have := I.out.c; have := I.out.d; have := I.out.e; have := I.out.f; omega
  obtain ⟨W2, hW2⟩ : ∃ W2, (W.alloc (.cells #[.slice q.a q.l.length q.c, .slice q.b q.s.length q.d] 80)).putObj l (.loop (jRec fn v Ob D .busy)) = W2 := ⟨_, rfl⟩
  have hbr' : (Instr.beginRound l).run Tryz.prog (W.alloc (.cells #[.slice q.a q.l.length q.c, .slice q.b q.s.length q.d] 80)) = .ok () W2 := by rw [hbr, ← hW2]; rfl
  have HX2 : Hid (W2.heap[W.heap.size]? = some (.cells #[.slice q.a q.l.length q.c, .slice q.b q.s.length q.d] 80 (0, 0))) := by unfold Hid; rw [← hW2]; exact (World.putObj_heap_other hXl).trans hX
  rw [hW2] at HM
  have HXn := hid (And.intro hXl hXO)
  have HWs : Hid (W2.heap.size = W.heap.size + 1) := by unfold Hid; rw [← hW2]; simp [World.putObj]
  clear hW2 HA hbr h hX hsz hXl hXO
  have hc0 := one_at HM.out.O
  have HQ := hid (S.out.one q (by rw [HM.out.C.tot]; simp))
  have hTl := S.out.len
  have hpre : pre.length ≤ 20000 := by have h1 := HM.out.C.tot; have := congrArg List.length h1; simp at this; omega
  have hRl : m ≤ 20000 := by
    have h1 := HM.out.C.is
    have h2 := congrArg List.length h1
    rw [List.length_map, HM.out.C.len] at h2
    rw [h2]
    exact Nat.le_trans (upd_len _ _ _) (by simp; omega)
  unfold jAssign jTmps
  gi_wp2
  refine ⟨W2, hbr', ?_⟩
  unfold jBody
  clear hbr'
  generalize W.heap.size = Bx at *
  by_cases hm0 : m = 0
  · subst hm0
    have hR : R = [] := List.eq_nil_of_length_eq_zero HM.out.C.len
    subst hR
    have HJ : Hid (jb [] q = false) := rfl
    gi_wp2
    have hdr : Below W2.heap.size W2 W2.drew := (Below.refl _ _).drew
    refine Rnd.region_in (S := fun x => Hid (x = W2.drew)) rfl (by kernel_rfl) (fun ⟨_, _, h⟩ => h) rfl (fun hHeld => ?_)
    refine tkH 0 (some 37) (.int .i64 (-1)) rfl ?_
    simp only [Act.put, zzA, zzB, zzC]
    refine tkH 1 (some 38) (.bool false) rfl ?_
    simp only [Act.put, zzA, zzB, zzC]
    refine tkH 2 (some 39) (.bool false) rfl ?_
    simp only [Act.put, zzA, zzB, zzC]
    refine skH 3 (some 40) rfl ?_
    simp only [Act.put, zzA, zzB, zzC]
    refine skH 4 (some 41) rfl ?_
    simp only [Act.put, zzA, zzB, zzC]
    refine skH 5 (some 42) rfl ?_
    simp only [Act.put, zzA, zzB, zzC]
    refine skH 6 (some 43) rfl ?_
    simp only [Act.put, zzA, zzB, zzC]
    refine skH 7 (some 44) rfl ?_
    simp only [Act.put, zzA, zzB, zzC]
    refine skH 8 (some 45) rfl ?_
    simp only [Act.put, zzA, zzB, zzC]
    refine skH 9 (some 46) rfl ?_
    simp only [Act.put, zzA, zzB, zzC]
    refine tkH 10 (some 47) (.bool false) rfl ?_
    simp only [Act.put, zzA, zzB, zzC]
    refine wpAnyH_done (by kernel_rfl) ?_ _
    have HM3 := hid (HM.out.below S.out I.out hdr)
    have HX3 := hid (box_bel HX2.out hdr)
    clear HM HX2 hHeld hc0 HWs
    generalize W2.drew = V1 at *
    have c0 := one_at HM3.out.O
    have x0 := two0 HX3.out
    have x1 := two1 HX3.out
    gi_wp2_with (gi_at_builtin; refine wpListIn_append_at _ rfl _ _ 33 rfl w.heap.size 80 i0 (.agg #[.slice none 0 0, .slice none 0 0]) 2 48 Tryz.underlying33 hi hz0 hz1 hz2 rfl (by decide) _ _ _ rfl (World.ownsRow.alloc HM3.out.C.row _) ⟨V1.heap.size, 0, none⟩ 1 1 [.slice q.a q.l.length q.c, .slice q.b q.s.length q.d] rfl rfl ?d1 ?d2 ?d3 ?d4 ?d5 ?_)
    case d1 => exact Smp.two_new V1 _ _ _
    case d2 => intro u hu; simp at hu; rcases hu with rfl | rfl <;> rfl
    case d3 => unfold maxLen; omega
    case d4 => omega
    case d5 => have := HM3.out.C.bel.size; simp; omega
    intro v1 w3 hown1 hgr1 hat1
    have hbA := (Below.refl V1.heap.size V1).alloc (Nat.le_refl _) (.cells #[.slice q.a q.l.length q.c, .slice q.b q.s.length q.d] 80)
    have HMA := hid (HM3.out.below S.out I.out hbA)
    obtain ⟨a1, c1, rfl⟩ := Smp.own_form hown1
    have hC1 := HMA.out.C.more (q := q) (a' := a1) (c' := c1) S.out HJ.out hgr1 (by rw [flat_append]; exact hown1) (by rw [World.size_alloc]; exact hat1)
    have hk1 : ∀ b, B0 ≤ b → b < B1 → w3.heap[b]? = (V1.alloc (.cells #[.slice q.a q.l.length q.c, .slice q.b q.s.length q.d] 80)).heap[b]? := fun b hb0 hb1 => hgr1.block b (by have := HMA.out.C.siz; omega) (fun e => by have := HMA.out.C.fro b (own_blk HMA.out.C.row e.symm); omega)
    obtain ⟨hO1, hM1⟩ := HMA.out.box S.out I.out hk1 hC1
    have hc1 := one_at hO1
    have hf1 := frz_at hO1 0
    have HM4 := hid hM1
    clear hown1 hgr1 hat1 hC1 hk1 hO1 hM1 hbA HMA HM3 HX3
    gi_wp2
    exact ⟨_, _, run_endRound none HM4.out.L, rfl, ⟨_, _, _, _, _, HM4.out.put S.out I.out (jRec fn v Ob D .ready)⟩⟩
  · obtain ⟨m', rfl⟩ : ∃ m', m = m' + 1 := ⟨m - 1, by omega⟩
    obtain ⟨R', p, rfl, hR'⟩ := snoc_of HM.out.C.len
    obtain ⟨gr, rfl⟩ : ∃ gr, a = some ⟨gr, 0, none⟩ := by
      rcases HM.out.C.row.2 with ⟨_, h2⟩ | ⟨g', cap, cur, h1, _⟩
      · omega
      · simp only [Value.slice.injEq] at h1; exact ⟨g', h1.1⟩
    gi_wp2
    have hdr : Below W2.heap.size W2 W2.drew := (Below.refl _ _).drew
    have HM2 := hid (HM.out.below S.out I.out hdr)
    have HXd := hid (box_bel HX2.out hdr)
    obtain ⟨y0, y1⟩ := flat_get (R' ++ [p]) m' (by simp [hR'])
    rw [getD_snoc, if_pos hR'.symm] at y0 y1
    have z0 := (HM2.out.C.row.cellAt (m' * 2) (by omega)).trans y0
    have z1 := (HM2.out.C.row.cellAt (m' * 2 + 1) (by omega)).trans y1
    have c2 := one_at HM2.out.O
    have x0 := two0 HXd.out
    have x1 := two1 HXd.out
    have hpo := HM2.out.C.kin.own p (by simp)
    have hqo := HM2.out.C.kin.own q (by simp)
    have hp1 := HM2.out.C.one p (by simp)
    have HCall := hid (Srs.f92 p q W2.drew (by omega) (by have := HQ.out.2.2.1; omega) hpo.hasL hqo.hasL)
    have HSJ : Hid (W2.drew.cell? ⟨Ob, 0, none⟩ = some (.slice (some ⟨gr, 0, none⟩) (m' + 1) c) ∧ W2.drew.cell? ⟨gr, m' * 2, none⟩ = some (.slice p.a p.l.length p.c) ∧ W2.drew.cell? ⟨gr, m' * 2 + 1, none⟩ = some (.slice p.b p.s.length p.d) ∧ W2.drew.cell? ⟨Bx, 0, none⟩ = some (.slice q.a q.l.length q.c) ∧ W2.drew.cell? ⟨Bx, 1, none⟩ = some (.slice q.b q.s.length q.d)) := ⟨c2, z0, z1, x0, x1⟩
    have hlt0 : Ob < W2.drew.heap.size := World.block_lt_of_cell? _ _ c2
    have hlt1 : gr < W2.drew.heap.size := World.block_lt_of_cell? _ _ z0
    have hlt2 : Bx < W2.drew.heap.size := World.block_lt_of_cell? _ _ x0
    have j1 : (0 : Int) ≤ (m' : Int) := by omega
    have j2 : (m' : Int) < (m' : Int) + 1 := by omega
    have j3 : (m' : Int) < ((m' + 1 : Nat) : Int) := by omega
    have j4 : m' < m' + 1 := by omega
    have i1 : ¬ ((m' : Int) + 1 ≤ (m' : Int)) := by omega
    clear hpo hqo y0 y1 z0 z1 c2 x0 x1 hm0
    refine Rnd.region_in (S := fun x => x.cell? ⟨Ob, 0, none⟩ = some (.slice (some ⟨gr, 0, none⟩) (m' + 1) c) ∧ x.cell? ⟨gr, m' * 2, none⟩ = some (.slice p.a p.l.length p.c) ∧ x.cell? ⟨gr, m' * 2 + 1, none⟩ = some (.slice p.b p.s.length p.d) ∧ x.cell? ⟨Bx, 0, none⟩ = some (.slice q.a q.l.length q.c) ∧ x.cell? ⟨Bx, 1, none⟩ = some (.slice q.b q.s.length q.d)) rfl (by kernel_rfl) (fun ⟨_, _, h⟩ => h) HSJ.out (fun hHeld => ?_)
    refine tkH 0 (some 37) (.int .i64 (m' : Int)) rfl ?_
    simp only [Act.put, zzA, zzB, zzC]
    refine tkH 1 (some 38) (.bool true) rfl ?_
    simp only [Act.put, zzA, zzB, zzC]
    refine tkH 2 (some 39) (.bool true) rfl ?_
    simp only [Act.put, zzA, zzB, zzC]
    refine tkH 3 (some 40) (.slice (some ⟨gr, 0, none⟩) (m' + 1) c) rfl ?_
    simp only [Act.put, zzA, zzB, zzC]
    refine tkH 4 (some 41) (.int .i64 (m' : Int)) rfl ?_
    simp only [Act.put, zzA, zzB, zzC]
    refine tkH 5 (some 42) (.pointer (some ⟨gr, m' * 2, none⟩)) rfl ?_
    simp only [Act.put, zzA, zzB, zzC]
    refine tkH 6 (some 43) (.agg #[.slice p.a p.l.length p.c, .slice p.b p.s.length p.d]) rfl ?_
    simp only [Act.put, zzA, zzB, zzC]
    refine tkH 7 (some 44) (.agg #[.slice q.a q.l.length q.c, .slice q.b q.s.length q.d]) rfl ?_
    simp only [Act.put, zzA, zzB, zzC]
    refine wpAnyH_ready (rs := [8]) (by kernel_rfl) (by simp) (AllReadyH.cons (o := { dst := some 45, op := _, type := _, pos := _, after := _, guard := _ }) rfl ?_ AllReadyH.nil)
    intro K1 hK1
    go_simp
    go_wp2_with (go_at_call 92; refine HCall.out.mono ?_; rintro e w5 ⟨rfl, hb5⟩)
    have hs5 : w5.cell? ⟨Ob, 0, none⟩ = some (.slice (some ⟨gr, 0, none⟩) (m' + 1) c) ∧ w5.cell? ⟨gr, m' * 2, none⟩ = some (.slice p.a p.l.length p.c) ∧ w5.cell? ⟨gr, m' * 2 + 1, none⟩ = some (.slice p.b p.s.length p.d) ∧ w5.cell? ⟨Bx, 0, none⟩ = some (.slice q.a q.l.length q.c) ∧ w5.cell? ⟨Bx, 1, none⟩ = some (.slice q.b q.s.length q.d) := ⟨(hb5.cell (p := ⟨Ob, 0, none⟩) hlt0).trans HSJ.out.1, (hb5.cell (p := ⟨gr, m' * 2, none⟩) hlt1).trans HSJ.out.2.1, (hb5.cell (p := ⟨gr, m' * 2 + 1, none⟩) hlt1).trans HSJ.out.2.2.1, (hb5.cell (p := ⟨Bx, 0, none⟩) hlt2).trans HSJ.out.2.2.2.1, (hb5.cell (p := ⟨Bx, 1, none⟩) hlt2).trans HSJ.out.2.2.2.2⟩
    refine hK1.out _ _ hs5 (fun _ => ?_)
    clear hK1 K1
    have HM5 := hid (HM2.out.below S.out I.out hb5)
    have HX5 := hid (box_bel HXd.out hb5)
    clear HM HX2 HM2 HXd hHeld HSJ HCall hdr hb5 hc0 hlt0 hlt1 hlt2 HWs
    by_cases hz : cmpList p.l q.l = 0
    · have HZ := hid hz
      have hzb : (cmpList p.l q.l == 0) = true := by rw [beq_iff_eq]; exact hz
      clear hz
      refine wpAnyH_take (i := 9) (oi := { dst := some 46, op := _, type := _, pos := _, after := _, guard := _ }) (v := .bool true) rfl (by kernel_rfl) (by kernel_rfl) (by kernel_rfl) (fun _ _ _ h => h) (Or.inl ⟨by rfl, fun w hSw => by (try dsimp only at hSw); go_split_ands; go_simp⟩) hs5 ?_
      simp only [Act.put, zzA, zzB, zzC]
      refine wpAnyH_take (i := 10) (oi := { dst := some 47, op := _, type := _, pos := _, after := _, guard := _ }) (v := .bool true) rfl (by kernel_rfl) (by kernel_rfl) (by kernel_rfl) (fun _ _ _ h => h) (Or.inl ⟨by rfl, fun w hSw => by (try dsimp only at hSw); go_split_ands; go_simp⟩) hs5 ?_
      simp only [Act.put, zzA, zzB, zzC]
      refine wpAnyH_done (by kernel_rfl) ?_ _
      clear hs5
      gi_wp2
      have hd5 : Below w5.heap.size w5 w5.drew := (Below.refl _ _).drew
      have HM6 := hid (HM5.out.below S.out I.out hd5)
      have HX6 := hid (box_bel HX5.out hd5)
      clear HM5 HX5 hd5
      have c2 := one_at HM6.out.O
      have x0 := two0 HX6.out
      have x1 := two1 HX6.out
      obtain ⟨y0, y1⟩ := flat_get (R' ++ [p]) m' (by simp [hR'])
      rw [getD_snoc, if_pos hR'.symm] at y0 y1
      have z1 := (HM6.out.C.row.cellAt (m' * 2 + 1) (by omega)).trans y1
      have hpo := HM6.out.C.kin.own p (by simp)
      have hqo := HM6.out.C.kin.own q (by simp)
      have HPO := hid hpo
      obtain ⟨isp, his, hs0, hs1, hs2⟩ := info_parts Smp.infoS
      obtain ⟨bs, os, hqb⟩ : ∃ b o, q.b = some ⟨b, o, none⟩ := ⟨_, _, hqo.hb⟩
      have hqs : HasS w5.drew (some ⟨bs, os, none⟩) q.s := by have := hqo.hasS; rw [hqb] at this; exact this
      have hpb : p.b = some ⟨blk p.b, 0, none⟩ := hpo.hb
      have hcel := Smp.flat_cells hqs
      have hone := Smp.flat_oneCell q.s
      have HSS := hid (And.intro hcel hone)
      have hrowp : Hid (w5.drew.ownsRow w.heap.size 119 2 (.slice p.b p.s.length p.d) p.s.length (Smp.flat p.s)) := by unfold Hid; rw [hpb]; exact hpo.smp
      have hq4 := HQ.out.2.2.2.1
      have hblt : Bx < w5.drew.heap.size := World.block_lt_of_cell? _ _ x0
      have hOlt : Ob < w5.drew.heap.size := World.block_lt_of_cell? _ _ c2
      have hbxO : Hid (B1 ≤ gr ∧ gr < w5.drew.heap.size ∧ blk p.b < w5.drew.heap.size ∧ blk p.b ≠ gr) := ⟨HM6.out.C.fro gr rfl, (HM6.out.C.row.lt gr rfl).2, HPO.out.hi.2, (HM6.out.C.kin.nea gr rfl p (by simp)).2⟩
      have hBxr : Hid (Bx ≠ gr ∧ Bx ≠ blk p.b ∧ Ob ≠ gr ∧ Ob ≠ blk p.b) := by
        refine ⟨?_, ?_, ?_, ?_⟩
        · have := HGB.out gr rfl; omega
        · intro e
          exact row_ne HPO.out.smp HX6.out (by rw [e]; rfl) (by decide)
        · rintro rfl
          exact row_ne HM6.out.C.row HM6.out.O rfl (by decide)
        · intro e
          exact row_ne HPO.out.smp HM6.out.O (by rw [e]; rfl) (by decide)
      rw [hqb] at x1 HX6
      have HPB := hid hpb
      have HQB := hid hqb
      clear hpo hqo y0 y1 hcel hone hpb hqb
      refine Rnd.region_in (S := fun x => x.cell? ⟨Ob, 0, none⟩ = some (.slice (some ⟨gr, 0, none⟩) (m' + 1) c) ∧ x.cell? ⟨Bx, 0, none⟩ = some (.slice q.a q.l.length q.c) ∧ x.cell? ⟨Bx, 1, none⟩ = some (.slice (some ⟨bs, os, none⟩) q.s.length q.d)) rfl (by kernel_rfl) (fun ⟨_, _, h⟩ => h) ⟨c2, x0, x1⟩ (fun hHeld => ?_)
      generalize w5.drew = V at *
      refine tkH 0 (some 48) ((.slice (some ⟨gr, 0, none⟩) (m' + 1) c)) rfl ?_
      simp only [Act.put, zzA, zzB, zzC]
      refine tkH 1 (some 49) ((.int .i64 (m' : Int))) rfl ?_
      simp only [Act.put, zzA, zzB, zzC]
      refine tkH 2 (some 50) ((.slice (some ⟨gr, 0, none⟩) (m' + 1) c)) rfl ?_
      simp only [Act.put, zzA, zzB, zzC]
      refine tkH 3 (some 51) ((.int .i64 (m' : Int))) rfl ?_
      simp only [Act.put, zzA, zzB, zzC]
      refine tkH 4 (some 52) ((.pointer (some ⟨gr, m' * 2, none⟩))) rfl ?_
      simp only [Act.put, zzA, zzB, zzC]
      refine tkH 5 (some 53) ((.pointer (some ⟨gr, m' * 2 + 1, none⟩))) rfl ?_
      simp only [Act.put, zzA, zzB, zzC]
      refine tkH 7 (some 55) ((.pointer (some ⟨Bx, 1, none⟩))) rfl ?_
      simp only [Act.put, zzA, zzB, zzC]
      refine tkH 8 (some 56) ((.slice (some ⟨bs, os, none⟩) q.s.length q.d)) rfl ?_
      simp only [Act.put, zzA, zzB, zzC]
      refine wpAnyH_ready (rs := [6]) (by kernel_rfl) (by simp) (AllReadyH.cons (o := { dst := some 54, op := _, type := _, pos := _, after := _, guard := _ }) rfl ?_ AllReadyH.nil)
      intro K0 hK0
      go_simp
      refine hK0.out _ _ hHeld (fun _ => ?_)
      clear hK0 K0
      refine wpAnyH_ready (rs := [9]) (by kernel_rfl) (by simp) (AllReadyH.cons (o := { dst := some 57, op := _, type := _, pos := _, after := _, guard := _ }) rfl ?_ AllReadyH.nil)
      intro K1 hK1
      refine step_append_j rfl (.tmp 54) (.tmp 56) 78 rfl w.heap.size 119 isp (.agg #[.int .i64 0, .int .i64 0]) 2 16 Tryz.underlying78 his hs0 hs1 hs2 rfl (by decide) p.b p.s.length p.d (Smp.flat p.s) rfl hrowp.out ⟨bs, os, none⟩ q.s.length q.d (Smp.flat q.s) rfl (Smp.flat_len _) HSS.out.1 HSS.out.2 (by unfold maxLen; omega) (by omega) HM6.out.C.bel.size ?_
      intro v6 w6 hown6 hgr6 hat6
      have hgrp : V.grownBy w6 (some (blk p.b)) := by have e : (Value.slice p.b p.s.length p.d).ownBlock = some (blk p.b) := (by rw [HPB.out]; rfl); rw [e] at hgr6; exact hgr6
      obtain ⟨gb, cb, rfl⟩ := own_formP hown6 (by have := List.length_pos_iff.2 hp1.1; omega)
      have hvb : gb = blk p.b ∨ gb = V.heap.size := by
        have e : (Value.slice p.b p.s.length p.d).ownBlock = some (blk p.b) := (by rw [HPB.out]; rfl)
        rw [e] at hat6
        rcases hat6 with e1 | e1
        · exact .inl (Option.some.inj e1)
        · exact .inr (Option.some.inj e1)
      have hJ := HM6.out.C.join (d' := cb) S.out HZ.out hgrp hown6 hvb
      have n1 := hBxr.out
      have n2 := hbxO.out
      have u0 : w6.cell? ⟨Ob, 0, none⟩ = some (.slice (some ⟨gr, 0, none⟩) (m' + 1) c) := cell_gr hgrp n1.2.2.2 c2
      have u1 : w6.cell? ⟨Bx, 0, none⟩ = some (.slice q.a q.l.length q.c) := cell_gr hgrp n1.2.1 x0
      have u2 : w6.cell? ⟨Bx, 1, none⟩ = some (.slice (some ⟨bs, os, none⟩) q.s.length q.d) := cell_gr hgrp n1.2.1 x1
      have z2 : w6.cell? ⟨gr, m' * 2 + 1, none⟩ = some (.slice p.b p.s.length p.d) := cell_gr hgrp n2.2.2.2.symm z1
      have hrow6 := World.ownsRow.kept HM6.out.C.row hgrp (.inr (fun e => n2.2.2.2 (Option.some.inj e).symm))
      have f2 := hrow6.frozenAt (m' * 2 + 1)
      have hk6 : ∀ b, B0 ≤ b → b < B1 → (w6.setCell ⟨gr, m' * 2 + 1, none⟩ (.slice (some ⟨gb, 0, none⟩) (p.s.length + q.s.length) cb)).heap[b]? = V.heap[b]? := fun b hb0 hb1 => by
        have hbl : b < V.heap.size := by have := HM6.out.C.siz; omega
        have g2 : w6.grownBy (w6.setCell ⟨gr, m' * 2 + 1, none⟩ (.slice (some ⟨gb, 0, none⟩) (p.s.length + q.s.length) cb)) (some gr) := set_gr _ _ _ _
        refine (g2.block b (by have := hgrp.size; omega) (fun e => by have := Option.some.inj e; omega)).trans (hgrp.block b hbl (fun e => ?_))
        have e3 : b = blk p.b := Option.some.inj e
        rcases (HM6.out.C.far p (by simp)).2 with ⟨t1, _⟩ | t1 <;> omega
      have HM7 := hid (HM6.out.turn I.out hk6 hJ)
      refine hK1.out _ _ ⟨u0, u1, u2⟩ (fun _ => ?_)
      clear hK1 K1 hown6 hgr6 hat6 hJ hk6 hrow6
      simp only [Act.put, zzA, zzB, zzC]
      refine wpAnyH_take (i := 10) (oi := { dst := some 58, op := _, type := _, pos := _, after := _, guard := _ }) (v := (.pointer (some ⟨gr, m' * 2, none⟩))) rfl (by kernel_rfl) (by kernel_rfl) (by kernel_rfl) (fun _ _ _ h => h) (Or.inl ⟨by rfl, fun w hSw => by (try dsimp only at hSw); go_split_ands; go_simp⟩) ⟨u0, u1, u2⟩ ?_
      simp only [Act.put, zzA, zzB, zzC]
      refine wpAnyH_take (i := 11) (oi := { dst := some 59, op := _, type := _, pos := _, after := _, guard := _ }) (v := (.pointer (some ⟨gr, m' * 2 + 1, none⟩))) rfl (by kernel_rfl) (by kernel_rfl) (by kernel_rfl) (fun _ _ _ h => h) (Or.inl ⟨by rfl, fun w hSw => by (try dsimp only at hSw); go_split_ands; go_simp⟩) ⟨u0, u1, u2⟩ ?_
      simp only [Act.put, zzA, zzB, zzC]
      refine wpAnyH_ready (rs := [12]) (by kernel_rfl) (by simp) (AllReadyH.cons (o := { dst := none, op := _, type := _, pos := _, after := _, guard := _ }) rfl ?_ AllReadyH.nil)
      intro K3 hK3
      go_simp
      have g3 : w6.grownBy (w6.setCell ⟨gr, m' * 2 + 1, none⟩ (.slice (some ⟨gb, 0, none⟩) (p.s.length + q.s.length) cb)) (some gr) := set_gr _ _ _ _
      refine hK3.out _ _ ⟨cell_gr g3 n1.2.2.1 u0, cell_gr g3 n1.1 u1, cell_gr g3 n1.1 u2⟩ (fun _ => ?_)
      clear hK3 K3
      refine wpAnyH_done (by kernel_rfl) ?_ _
      clear u0 u1 u2 z2 f2 g3 hHeld c2 x0 x1 z1 HM6 HX6 hrowp HSS HPO
      gi_wp2
      exact ⟨_, _, run_endRound none HM7.out.L, rfl, ⟨_, _, _, _, _, HM7.out.put S.out I.out (jRec fn v Ob D .ready)⟩⟩
    · have HJ : Hid (jb (R' ++ [p]) q = false) := by unfold Hid; rw [jb_snoc]; exact decide_eq_false hz
      have hzb : (cmpList p.l q.l == 0) = false := by rw [beq_eq_false_iff_ne]; exact hz
      clear hz
      refine wpAnyH_take (i := 9) (oi := { dst := some 46, op := _, type := _, pos := _, after := _, guard := _ }) (v := .bool false) rfl (by kernel_rfl) (by kernel_rfl) (by kernel_rfl) (fun _ _ _ h => h) (Or.inl ⟨by rfl, fun w hSw => by (try dsimp only at hSw); go_split_ands; go_simp⟩) hs5 ?_
      simp only [Act.put, zzA, zzB, zzC]
      refine wpAnyH_take (i := 10) (oi := { dst := some 47, op := _, type := _, pos := _, after := _, guard := _ }) (v := .bool false) rfl (by kernel_rfl) (by kernel_rfl) (by kernel_rfl) (fun _ _ _ h => h) (Or.inl ⟨by rfl, fun w hSw => by (try dsimp only at hSw); go_split_ands; go_simp⟩) hs5 ?_
      simp only [Act.put, zzA, zzB, zzC]
      refine wpAnyH_done (by kernel_rfl) ?_ _
      clear hs5
      have HM3 := HM5
      have HX3 := HX5
      clear HM5 HX5
      generalize w5 = V1 at *
      have c0 := one_at HM3.out.O
      have x0 := two0 HX3.out
      have x1 := two1 HX3.out
      gi_wp2_with (gi_at_builtin; refine wpListIn_append_at _ rfl _ _ 33 rfl w.heap.size 80 i0 (.agg #[.slice none 0 0, .slice none 0 0]) 2 48 Tryz.underlying33 hi hz0 hz1 hz2 rfl (by decide) _ _ _ rfl (World.ownsRow.alloc HM3.out.C.row _) ⟨V1.heap.size, 0, none⟩ 1 1 [.slice q.a q.l.length q.c, .slice q.b q.s.length q.d] rfl rfl ?d1 ?d2 ?d3 ?d4 ?d5 ?_)
      case d1 => exact Smp.two_new V1 _ _ _
      case d2 => intro u hu; simp at hu; rcases hu with rfl | rfl <;> rfl
      case d3 => unfold maxLen; omega
      case d4 => omega
      case d5 => have := HM3.out.C.bel.size; simp; omega
      intro v1 w3 hown1 hgr1 hat1
      have hbA := (Below.refl V1.heap.size V1).alloc (Nat.le_refl _) (.cells #[.slice q.a q.l.length q.c, .slice q.b q.s.length q.d] 80)
      have HMA := hid (HM3.out.below S.out I.out hbA)
      obtain ⟨a1, c1, rfl⟩ := Smp.own_form hown1
      have hC1 := HMA.out.C.more (q := q) (a' := a1) (c' := c1) S.out HJ.out hgr1 (by rw [flat_append]; exact hown1) (by rw [World.size_alloc]; exact hat1)
      have hk1 : ∀ b, B0 ≤ b → b < B1 → w3.heap[b]? = (V1.alloc (.cells #[.slice q.a q.l.length q.c, .slice q.b q.s.length q.d] 80)).heap[b]? := fun b hb0 hb1 => hgr1.block b (by have := HMA.out.C.siz; omega) (fun e => by have := HMA.out.C.fro b (own_blk HMA.out.C.row e.symm); omega)
      obtain ⟨hO1, hM1⟩ := HMA.out.box S.out I.out hk1 hC1
      have hc1 := one_at hO1
      have hf1 := frz_at hO1 0
      have HM4 := hid hM1
      clear hown1 hgr1 hat1 hC1 hk1 hO1 hM1 hbA HMA HM3 HX3
      gi_wp2
      exact ⟨_, _, run_endRound none HM4.out.L, rfl, ⟨_, _, _, _, _, HM4.out.put S.out I.out (jRec fn v Ob D .ready)⟩⟩
end Go.Proofs.YtjhdmghpklagkaaGreat.Hpl
