/- Questions as the program grows them: the values of nodes. -/
import Derived.Test.YtbdlahhejfamhaaGreatDoorRQtb
namespace Go.Proofs.YtbdlahhejfamhaaGreatDoor.Qry
open Go.RowKit

/-- Values in a row, a cell each, in a block of S. -/
def HasV (S : Nat → Prop) (w : World) (a : Option Addr) (vs : List Value) : Prop :=
  vs = [] ∨ ∃ b off, a = some ⟨b, off, none⟩ ∧ S b ∧ b < w.heap.size ∧ ∀ i, i < vs.length → w.cell? ⟨b, off + i, none⟩ = vs[i]?
/-- What is told of a row that lies in the first world. -/
structure Rw (w0 : World) (q : R) : Prop where
  lst : Lst w0 q
  ft : Ft q
  sm : wt q ≤ 1048576
abbrev vnumNode (q : R) : Value := .iface 110 (.agg #[.int .i64 q.kd, .int .i64 q.nu, .int .i64 q.st, .string q.tx, .int .i64 q.op, .slice q.ma q.ms.length q.mc, .int .i64 q.off, .bool q.fx, .int .i64 q.att, .bool q.bo, .int .i64 q.byy, .slice q.na q.ns.length q.nc, .int .i64 q.sd, .slice q.ea q.es.length q.ec, .int .i64 q.kc])
abbrev vtextNode (q : R) : Value := .iface 111 (.agg #[.int .i64 q.kd, .int .i64 q.nu, .int .i64 q.st, .string q.tx, .int .i64 q.op, .slice q.ma q.ms.length q.mc, .int .i64 q.off, .bool q.fx, .int .i64 q.att, .bool q.bo, .int .i64 q.byy, .slice q.na q.ns.length q.nc, .int .i64 q.sd, .slice q.ea q.es.length q.ec, .int .i64 q.kc])
abbrev vselectNode (q : R) : Value := .iface 112 (.agg #[.int .i64 q.kd, .int .i64 q.nu, .int .i64 q.st, .string q.tx, .int .i64 q.op, .slice q.ma q.ms.length q.mc, .int .i64 q.off, .bool q.fx, .int .i64 q.att, .bool q.bo, .int .i64 q.byy, .slice q.na q.ns.length q.nc, .int .i64 q.sd, .slice q.ea q.es.length q.ec, .int .i64 q.kc])
abbrev vrangeNode (q p : R) : Value := .iface 114 (.agg #[.int .i64 q.kd, .int .i64 q.nu, .int .i64 q.st, .string q.tx, .int .i64 q.op, .slice q.ma q.ms.length q.mc, .int .i64 q.off, .bool q.fx, .int .i64 q.att, .bool q.bo, .int .i64 q.byy, .slice q.na q.ns.length q.nc, .int .i64 q.sd, .slice q.ea q.es.length q.ec, .int .i64 q.kc, .int .i64 p.kd, .int .i64 p.nu, .int .i64 p.st, .string p.tx, .int .i64 p.op, .slice p.ma p.ms.length p.mc, .int .i64 p.off, .bool p.fx, .int .i64 p.att, .bool p.bo, .int .i64 p.byy, .slice p.na p.ns.length p.nc, .int .i64 p.sd, .slice p.ea p.es.length p.ec, .int .i64 p.kc])
abbrev vsubNode (q : R) (x : Value) : Value := .iface 116 (.agg #[.int .i64 q.kd, .int .i64 q.nu, .int .i64 q.st, .string q.tx, .int .i64 q.op, .slice q.ma q.ms.length q.mc, .int .i64 q.off, .bool q.fx, .int .i64 q.att, .bool q.bo, .int .i64 q.byy, .slice q.na q.ns.length q.nc, .int .i64 q.sd, .slice q.ea q.es.length q.ec, .int .i64 q.kc, x])
abbrev vnegNode (q : R) (x : Value) : Value := .iface 118 (.agg #[.int .i64 q.kd, .int .i64 q.nu, .int .i64 q.st, .string q.tx, .int .i64 q.op, .slice q.ma q.ms.length q.mc, .int .i64 q.off, .bool q.fx, .int .i64 q.att, .bool q.bo, .int .i64 q.byy, .slice q.na q.ns.length q.nc, .int .i64 q.sd, .slice q.ea q.es.length q.ec, .int .i64 q.kc, x])
abbrev vopNode (q : R) (x y : Value) : Value := .iface 120 (.agg #[.int .i64 q.kd, .int .i64 q.nu, .int .i64 q.st, .string q.tx, .int .i64 q.op, .slice q.ma q.ms.length q.mc, .int .i64 q.off, .bool q.fx, .int .i64 q.att, .bool q.bo, .int .i64 q.byy, .slice q.na q.ns.length q.nc, .int .i64 q.sd, .slice q.ea q.es.length q.ec, .int .i64 q.kc, x, y])
abbrev vaggNode (q : R) (a : Option Addr) (n c : Nat) : Value := .iface 123 (.agg #[.int .i64 q.kd, .int .i64 q.nu, .int .i64 q.st, .string q.tx, .int .i64 q.op, .slice q.ma q.ms.length q.mc, .int .i64 q.off, .bool q.fx, .int .i64 q.att, .bool q.bo, .int .i64 q.byy, .slice q.na q.ns.length q.nc, .int .i64 q.sd, .slice q.ea q.es.length q.ec, .int .i64 q.kc, .slice a n c])
abbrev vcallNode (q : R) (a : Option Addr) (n c : Nat) : Value := .iface 128 (.agg #[.int .i64 q.kd, .int .i64 q.nu, .int .i64 q.st, .string q.tx, .int .i64 q.op, .slice q.ma q.ms.length q.mc, .int .i64 q.off, .bool q.fx, .int .i64 q.att, .bool q.bo, .int .i64 q.byy, .slice q.na q.ns.length q.nc, .int .i64 q.sd, .slice q.ea q.es.length q.ec, .int .i64 q.kc, .slice a n c])
/-- What a node's value is, by its kind. -/
inductive Sh (S : Nat → Prop) (w : World) (q : R) : List Value → Value → Prop
  | num (h : q.kd = 1) : Sh S w q [] (vnumNode q)
  | text (h : q.kd = 2) : Sh S w q [] (vtextNode q)
  | sel (h : q.kd = 3) : Sh S w q [] (vselectNode q)
  | range (h : q.kd = 4) (p : R) : Sh S w q [vselectNode p] (vrangeNode q p)
  | sub (h : q.kd = 5) (tt : TypeId) (x : Value) : Sh S w q [.iface tt x] (vsubNode q (.iface tt x))
  | neg (h : q.kd = 6) (tt : TypeId) (x : Value) : Sh S w q [.iface tt x] (vnegNode q (.iface tt x))
  | op (h : q.kd = 7) (tt : TypeId) (x : Value) (uu : TypeId) (y : Value) : Sh S w q [.iface tt x, .iface uu y] (vopNode q (.iface tt x) (.iface uu y))
  | agg (h : q.kd = 8) (vs : List Value) (a : Option Addr) (c : Nat) (hv : HasV S w a vs) : Sh S w q vs (vaggNode q a vs.length c)
  | call (h : q.kd = 9) (vs : List Value) (a : Option Addr) (c : Nat) (hv : HasV S w a vs) : Sh S w q vs (vcallNode q a vs.length c)
mutual
/-- A tree's value, in the world w; its rows' lists lie in the world w0. -/
def Nv (w0 : World) (S : Nat → Prop) (w : World) : Tr → Value → Prop
  | .nd r ks, v => ∃ q vs, pl q = r ∧ Rw w0 q ∧ NvL w0 S w ks vs ∧ Sh S w q vs v
def NvL (w0 : World) (S : Nat → Prop) (w : World) : List Tr → List Value → Prop
  | [], vs => vs = []
  | t :: ts, vs => ∃ v vs', vs = v :: vs' ∧ Nv w0 S w t v ∧ NvL w0 S w ts vs'
end
theorem cell_of {w w' : World} {p : Addr} (h : w'.heap[p.block]? = w.heap[p.block]?) : w'.cell? p = w.cell? p := by
  unfold World.cell?
  rw [h]
/-- The blocks of S stay, and are in S'. -/
structure Agr (S S' : Nat → Prop) (w w' : World) : Prop where
  size : w.heap.size ≤ w'.heap.size
  blk : ∀ b, S b → b < w.heap.size → w'.heap[b]? = w.heap[b]?
  sub : ∀ b, S b → S' b
theorem HasV.agr {S S' : Nat → Prop} {w w' : World} {a : Option Addr} {vs : List Value} (h : HasV S w a vs) (ha : Agr S S' w w') : HasV S' w' a vs := by
  rcases h with h | ⟨b, off, h1, h2, h3, h4⟩
  · exact .inl h
  · exact .inr ⟨b, off, h1, ha.sub b h2, Nat.lt_of_lt_of_le h3 ha.size, fun i hi => (cell_of (p := ⟨b, off + i, none⟩) (ha.blk b h2 h3)).trans (h4 i hi)⟩
theorem Sh.agr {S S' : Nat → Prop} {w w' : World} {q : R} {vs : List Value} {v : Value} (h : Sh S w q vs v) (ha : Agr S S' w w') : Sh S' w' q vs v := by
  cases h with
  | num h => exact .num h
  | text h => exact .text h
  | sel h => exact .sel h
  | range h p => exact .range h p
  | sub h tt x => exact .sub h tt x
  | neg h tt x => exact .neg h tt x
  | op h tt x uu y => exact .op h tt x uu y
  | agg h _ a c hv => exact .agg h _ a c (hv.agr ha)
  | call h _ a c hv => exact .call h _ a c (hv.agr ha)
theorem Sh.iface {S : Nat → Prop} {w : World} {q : R} {vs : List Value} {v : Value} (h : Sh S w q vs v) : ∃ t x, v = .iface t x := by
  cases h <;> exact ⟨_, _, rfl⟩
mutual
theorem Nv.agr {w0 : World} {S S' : Nat → Prop} {w w' : World} (ha : Agr S S' w w') : ∀ (t : Tr) (v : Value), Nv w0 S w t v → Nv w0 S' w' t v
  | .nd r ks, v, h => by
    simp only [Nv] at h ⊢
    obtain ⟨q, vs, h1, h2, h3, h4⟩ := h
    exact ⟨q, vs, h1, h2, NvL.agr ha ks vs h3, h4.agr ha⟩
theorem NvL.agr {w0 : World} {S S' : Nat → Prop} {w w' : World} (ha : Agr S S' w w') : ∀ (ts : List Tr) (vs : List Value), NvL w0 S w ts vs → NvL w0 S' w' ts vs
  | [], vs, h => by simp only [NvL] at h ⊢; exact h
  | t :: ts, vs, h => by
    simp only [NvL] at h ⊢
    obtain ⟨v, vs', h1, h2, h3⟩ := h
    exact ⟨v, vs', h1, Nv.agr ha t v h2, NvL.agr ha ts vs' h3⟩
end
theorem NvL.snoc {w0 : World} {S : Nat → Prop} {w : World} {t : Tr} {v : Value} (h2 : Nv w0 S w t v) : ∀ (ts : List Tr) (vs : List Value), NvL w0 S w ts vs → NvL w0 S w (ts ++ [t]) (vs ++ [v])
  | [], vs, h => by
    simp only [NvL] at h
    subst h
    simp only [List.nil_append, NvL]
    exact ⟨v, [], rfl, h2, rfl⟩
  | u :: ts, vs, h => by
    simp only [NvL] at h
    obtain ⟨x, vs', rfl, h3, h4⟩ := h
    simp only [List.cons_append, NvL]
    exact ⟨x, _, rfl, h3, NvL.snoc h2 ts vs' h4⟩
theorem NvL.len {w0 : World} {S : Nat → Prop} {w : World} : ∀ (ts : List Tr) (vs : List Value), NvL w0 S w ts vs → vs.length = ts.length
  | [], vs, h => by simp only [NvL] at h; rw [h]; rfl
  | u :: ts, vs, h => by
    simp only [NvL] at h
    obtain ⟨x, vs', rfl, h3, h4⟩ := h
    simp [NvL.len ts vs' h4]
theorem NvL.at_ {w0 : World} {S : Nat → Prop} {w : World} : ∀ (ts : List Tr) (vs : List Value), NvL w0 S w ts vs → ∀ i, i < ts.length → ∃ t v, ts[i]? = some t ∧ vs[i]? = some v ∧ Nv w0 S w t v
  | [], vs, h, i, hi => by simp at hi
  | u :: ts, vs, h, i, hi => by
    simp only [NvL] at h
    obtain ⟨x, vs', rfl, h3, h4⟩ := h
    cases i with
    | zero => exact ⟨u, x, rfl, rfl, h3⟩
    | succ i => exact NvL.at_ ts vs' h4 i (by simpa using hi)
theorem Nv.iface {w0 : World} {S : Nat → Prop} {w : World} {t : Tr} {v : Value} (h : Nv w0 S w t v) : ∃ t x, v = .iface t x := by
  obtain ⟨r, ks⟩ := t
  simp only [Nv] at h
  obtain ⟨q, vs, h1, h2, h3, h4⟩ := h
  exact h4.iface
theorem Rw.at_ {w0 w : World} {q : R} (h : Rw w0 q) (hb : Below w0.heap.size w0 w) : Lst w q := h.lst.below hb
theorem Agr.below {S : Nat → Prop} {w w' : World} (h : Below w.heap.size w w') : Agr S S w w' := ⟨h.size, fun b _ hb => h.block b hb, fun _ h => h⟩
end Go.Proofs.YtbdlahhejfamhaaGreatDoor.Qry
/- The model's trees in memory. -/
namespace Go.Proofs.YtbdlahhejfamhaaGreatDoor.Qry
open Go.RowKit

/-- A node of the model: its row, and where its kids lie. -/
structure E where
  q : R
  a : Option Addr
  n : Nat
  c : Nat
def clE (x : E) : List Value := cl x.q ++ [.slice x.a x.n x.c]
theorem clE_len (x : E) : (clE x).length = 16 := rfl
abbrev agX (x : E) : Value := .agg #[.int .i64 x.q.kd, .int .i64 x.q.nu, .int .i64 x.q.st, .string x.q.tx, .int .i64 x.q.op, .slice x.q.ma x.q.ms.length x.q.mc, .int .i64 x.q.off, .bool x.q.fx, .int .i64 x.q.att, .bool x.q.bo, .int .i64 x.q.byy, .slice x.q.na x.q.ns.length x.q.nc, .int .i64 x.q.sd, .slice x.q.ea x.q.es.length x.q.ec, .int .i64 x.q.kc, .slice x.a x.n x.c]
def flatE (xs : List E) : List Value := xs.flatMap clE
theorem flatE_snoc (xs : List E) (x : E) : flatE (xs ++ [x]) = flatE xs ++ clE x := by simp [flatE]
theorem flatE_len (xs : List E) : (flatE xs).length = xs.length * 16 := by
  induction xs with
  | nil => rfl
  | cons x xs ih =>
    have : flatE (x :: xs) = clE x ++ flatE xs := rfl
    rw [this, List.length_append, ih, clE_len, List.length_cons]; omega
theorem flatE_get : ∀ (xs : List E) (i j : Nat) (h : i < xs.length), j < 16 → (flatE xs)[i * 16 + j]? = (clE xs[i])[j]?
  | x :: xs, 0, j, _, hj => by
    have : flatE (x :: xs) = clE x ++ flatE xs := rfl
    rw [this, List.getElem?_append_left (by rw [clE_len]; omega)]; simp
  | x :: xs, i + 1, j, h, hj => by
    have : flatE (x :: xs) = clE x ++ flatE xs := rfl
    rw [this, List.getElem?_append_right (by rw [clE_len]; omega), clE_len, show (i + 1) * 16 + j - 16 = i * 16 + j from by omega]
    exact flatE_get xs i j (by simpa using h) hj
/-- Nodes in a row, in a block of S. -/
def HasE (S : Nat → Prop) (w : World) (a : Option Addr) (xs : List E) : Prop :=
  xs = [] ∨ ∃ b off, a = some ⟨b, off, none⟩ ∧ S b ∧ b < w.heap.size ∧ ∀ i (h : i < xs.length) j, j < 16 → w.cell? ⟨b, off + i * 16 + j, none⟩ = (clE xs[i])[j]?
mutual
/-- A tree of the model, in the world w; its rows' lists lie in the world w0. -/
def Ev (w0 : World) (S : Nat → Prop) (w : World) : Tr → E → Prop
  | .nd r ks, x => pl x.q = r ∧ Rw w0 x.q ∧ ∃ xs, x.n = xs.length ∧ HasE S w x.a xs ∧ EvL w0 S w ks xs
def EvL (w0 : World) (S : Nat → Prop) (w : World) : List Tr → List E → Prop
  | [], xs => xs = []
  | t :: ts, xs => ∃ x xs', xs = x :: xs' ∧ Ev w0 S w t x ∧ EvL w0 S w ts xs'
end
theorem HasE.agr {S S' : Nat → Prop} {w w' : World} {a : Option Addr} {xs : List E} (h : HasE S w a xs) (ha : Agr S S' w w') : HasE S' w' a xs := by
  rcases h with h | ⟨b, off, h1, h2, h3, h4⟩
  · exact .inl h
  · exact .inr ⟨b, off, h1, ha.sub b h2, Nat.lt_of_lt_of_le h3 ha.size, fun i hi j hj => (cell_of (p := ⟨b, off + i * 16 + j, none⟩) (ha.blk b h2 h3)).trans (h4 i hi j hj)⟩
mutual
theorem Ev.agr {w0 : World} {S S' : Nat → Prop} {w w' : World} (ha : Agr S S' w w') : ∀ (t : Tr) (x : E), Ev w0 S w t x → Ev w0 S' w' t x
  | .nd r ks, x, h => by
    simp only [Ev] at h ⊢
    obtain ⟨h1, h2, xs, h3, h4, h5⟩ := h
    exact ⟨h1, h2, xs, h3, h4.agr ha, EvL.agr ha ks xs h5⟩
theorem EvL.agr {w0 : World} {S S' : Nat → Prop} {w w' : World} (ha : Agr S S' w w') : ∀ (ts : List Tr) (xs : List E), EvL w0 S w ts xs → EvL w0 S' w' ts xs
  | [], xs, h => by simp only [EvL] at h ⊢; exact h
  | t :: ts, xs, h => by
    simp only [EvL] at h ⊢
    obtain ⟨x, xs', h1, h2, h3⟩ := h
    exact ⟨x, xs', h1, Ev.agr ha t x h2, EvL.agr ha ts xs' h3⟩
end
theorem EvL.snoc {w0 : World} {S : Nat → Prop} {w : World} {t : Tr} {x : E} (h2 : Ev w0 S w t x) : ∀ (ts : List Tr) (xs : List E), EvL w0 S w ts xs → EvL w0 S w (ts ++ [t]) (xs ++ [x])
  | [], xs, h => by
    simp only [EvL] at h
    subst h
    simp only [List.nil_append, EvL]
    exact ⟨x, [], rfl, h2, rfl⟩
  | u :: ts, xs, h => by
    simp only [EvL] at h
    obtain ⟨y, xs', rfl, h3, h4⟩ := h
    simp only [List.cons_append, EvL]
    exact ⟨y, _, rfl, h3, EvL.snoc h2 ts xs' h4⟩
theorem EvL.len {w0 : World} {S : Nat → Prop} {w : World} : ∀ (ts : List Tr) (xs : List E), EvL w0 S w ts xs → xs.length = ts.length
  | [], xs, h => by simp only [EvL] at h; rw [h]; rfl
  | u :: ts, xs, h => by
    simp only [EvL] at h
    obtain ⟨y, xs', rfl, h3, h4⟩ := h
    simp [EvL.len ts xs' h4]
theorem EvL.at_ {w0 : World} {S : Nat → Prop} {w : World} : ∀ (ts : List Tr) (xs : List E), EvL w0 S w ts xs → ∀ i, i < ts.length → ∃ t x, ts[i]? = some t ∧ xs[i]? = some x ∧ Ev w0 S w t x
  | [], xs, h, i, hi => by simp at hi
  | u :: ts, xs, h, i, hi => by
    simp only [EvL] at h
    obtain ⟨y, xs', rfl, h3, h4⟩ := h
    cases i with
    | zero => exact ⟨u, y, rfl, rfl, h3⟩
    | succ i => exact EvL.at_ ts xs' h4 i (by simpa using hi)
/-- The kids that were taken, in the world wr: the box of the node at block B, their row in blocks of the call's own. -/
structure Ts (w0 W1 : World) (B : Nat) (ks : List Tr) (xs : List E) (ak : Option Addr) (ck : Nat) (wr : World) : Prop where
  bel : Below B W1 wr
  row : wr.ownsRow (B + 1) 58 16 (.slice ak xs.length ck) xs.length (flatE xs)
  ev : EvL w0 (fun b => B < b ∧ b < wr.heap.size ∧ (Value.slice ak xs.length ck).ownBlock ≠ some b) wr ks xs
theorem Ts.has {w0 W1 wr : World} {B ck : Nat} {ks : List Tr} {xs : List E} {ak : Option Addr} (h : Ts w0 W1 B ks xs ak ck wr) : EvL w0 (fun b => B ≤ b ∧ b < wr.heap.size) wr ks xs ∧ HasE (fun b => B ≤ b ∧ b < wr.heap.size) wr ak xs := by
  refine ⟨EvL.agr (S := fun b => B < b ∧ b < wr.heap.size ∧ (Value.slice ak xs.length ck).ownBlock ≠ some b) ⟨Nat.le_refl _, fun _ _ _ => rfl, fun b hb => ⟨by omega, hb.2.1⟩⟩ ks xs h.ev, ?_⟩
  rcases h.row.2 with ⟨_, h2⟩ | ⟨g, cap, cur, h1, h2, h3, h4, h5, h6, h7⟩
  · exact .inl (List.length_eq_zero_iff.1 h2)
  · simp only [Value.slice.injEq] at h1
    refine .inr ⟨g, 0, h1.1, ⟨by omega, (Array.getElem?_eq_some_iff.1 h3).1⟩, (Array.getElem?_eq_some_iff.1 h3).1, fun i hi j hj => ?_⟩
    rw [Nat.zero_add, ← flatE_get xs i j hi hj]
    simp only [World.cell?, h3]
    have e : (flatE xs)[i * 16 + j]? = cur.toList[i * 16 + j]? := by
      have := congrArg (fun l => l[i * 16 + j]?) h7
      simp only [List.getElem?_take] at this
      rw [if_pos (by omega)] at this
      exact this.symm
    rw [e]
    simp
end Go.Proofs.YtbdlahhejfamhaaGreatDoor.Qry
