/- The program's tree of routes, as it lies in memory. -/
import Derived.Test.YtkjodikccehmkaaRts
import Derived.Maps.AppendAt
import Derived.OwnWalk
namespace Go.Proofs.Ytkjodikccehmkaa.Rou
open Go.RowKit
open Go.Proofs.Ytkjodikccehmkaa.Rwc

/-- Values in a row, a cell each, in a block of S. -/
def HasV (S : Nat → Prop) (w : World) (a : Option Addr) (vs : List Value) : Prop :=
  vs = [] ∨ ∃ b off, a = some ⟨b, off, none⟩ ∧ S b ∧ b < w.heap.size ∧ ∀ i, i < vs.length → w.cell? ⟨b, off + i, none⟩ = vs[i]?
/-- What is told of a route that lies in the first world. -/
structure Rw (w0 : World) (q : T) : Prop where
  lst : Lst w0 q
  ft : Ft q
  sm : wt q ≤ 1048576
/-- A pointer to a block. -/
abbrev ptr (b : Nat) : Value := .pointer (some ⟨b, 0, none⟩)
def vals (bs : List Nat) : List Value := bs.map ptr
theorem vals_len (bs : List Nat) : (vals bs).length = bs.length := by simp [vals]
theorem vals_get {bs : List Nat} {i b : Nat} (h : bs[i]? = some b) : (vals bs)[i]? = some (ptr b) := by simp [vals, h]
/-- The cells of a node. -/
abbrev nodeA (q : T) (i : Int) (ak : Option Addr) (n ck : Nat) : Array Value := #[.string q.rv, .slice q.ma q.ms.length q.mc, .slice q.da q.ds.length q.dc, .int .i64 q.wa, .int .i64 q.ev, .int .i64 q.ag, .slice q.ua q.us.length q.uc, .bool q.on, .int .i64 q.kd, .int .i64 i, .slice ak n ck]
theorem cellsE {x : World} {b : Nat} {v0 v1 v2 v3 v4 v5 v6 v7 v8 v9 v10 : Value} {t : TypeId} (h : x.heap[b]? = some (.cells #[v0, v1, v2, v3, v4, v5, v6, v7, v8, v9, v10] t)) : x.cell? ⟨b, 0, none⟩ = some v0 ∧ x.cell? ⟨b, 1, none⟩ = some v1 ∧ x.cell? ⟨b, 2, none⟩ = some v2 ∧ x.cell? ⟨b, 3, none⟩ = some v3 ∧ x.cell? ⟨b, 4, none⟩ = some v4 ∧ x.cell? ⟨b, 5, none⟩ = some v5 ∧ x.cell? ⟨b, 6, none⟩ = some v6 ∧ x.cell? ⟨b, 7, none⟩ = some v7 ∧ x.cell? ⟨b, 8, none⟩ = some v8 ∧ x.cell? ⟨b, 9, none⟩ = some v9 ∧ x.cell? ⟨b, 10, none⟩ = some v10 :=
  ⟨cell_at h 0, cell_at h 1, cell_at h 2, cell_at h 3, cell_at h 4, cell_at h 5, cell_at h 6, cell_at h 7, cell_at h 8, cell_at h 9, cell_at h 10⟩
theorem frozE {x : World} {b : Nat} {v0 v1 v2 v3 v4 v5 v6 v7 v8 v9 v10 : Value} {t : TypeId} (h : x.heap[b]? = some (.cells #[v0, v1, v2, v3, v4, v5, v6, v7, v8, v9, v10] t)) : x.frozen? ⟨b, 0, none⟩ = false ∧ x.frozen? ⟨b, 1, none⟩ = false ∧ x.frozen? ⟨b, 2, none⟩ = false ∧ x.frozen? ⟨b, 3, none⟩ = false ∧ x.frozen? ⟨b, 4, none⟩ = false ∧ x.frozen? ⟨b, 5, none⟩ = false ∧ x.frozen? ⟨b, 6, none⟩ = false ∧ x.frozen? ⟨b, 7, none⟩ = false ∧ x.frozen? ⟨b, 8, none⟩ = false ∧ x.frozen? ⟨b, 9, none⟩ = false ∧ x.frozen? ⟨b, 10, none⟩ = false :=
  ⟨froz_at h 0, froz_at h 1, froz_at h 2, froz_at h 3, froz_at h 4, froz_at h 5, froz_at h 6, froz_at h 7, froz_at h 8, froz_at h 9, froz_at h 10⟩
mutual
/-- A tree at a block, in the world w; its routes' lists lie in the world w0; the routes have the numbers from i on. -/
def Nv (w0 : World) (S : Nat → Prop) (w : World) : Nat → Tr → Nat → Prop
  | i, .nd r ks, b => S b ∧ b < w.heap.size ∧ ∃ (q : T) (bs : List Nat) (ak : Option Addr) (ck : Nat), pl q = r ∧ Rw w0 q ∧ w.heap[b]? = some (.cells (nodeA q i ak bs.length ck) 108) ∧ HasV S w ak (vals bs) ∧ NvL w0 S w (i + 1) ks bs
def NvL (w0 : World) (S : Nat → Prop) (w : World) : Nat → List Tr → List Nat → Prop
  | _, [], bs => bs = []
  | i, t :: ts, bs => ∃ b bs', bs = b :: bs' ∧ Nv w0 S w i t b ∧ NvL w0 S w (i + (rows t).length) ts bs'
end
theorem cell_of {w w' : World} {p : Addr} (h : w'.heap[p.block]? = w.heap[p.block]?) : w'.cell? p = w.cell? p := by
  unfold World.cell?
  rw [h]
/-- The blocks of S stay, and are in S'. -/
structure Agr (S S' : Nat → Prop) (w w' : World) : Prop where
  size : w.heap.size ≤ w'.heap.size
  blk : ∀ b, S b → b < w.heap.size → w'.heap[b]? = w.heap[b]?
  sub : ∀ b, S b → S' b
theorem HasV.agr {S S' : Nat → Prop} {w w' : World} {a : Option Addr} {vs : List Value} (h : HasV S w a vs) (ha : Agr S S' w w') : HasV S' w' a vs := by
  rcases h with h | ⟨b, off, h1, h2, h3, h4⟩
  · exact .inl h
  · exact .inr ⟨b, off, h1, ha.sub b h2, Nat.lt_of_lt_of_le h3 ha.size, fun i hi => (cell_of (p := ⟨b, off + i, none⟩) (ha.blk b h2 h3)).trans (h4 i hi)⟩
mutual
theorem Nv.agr {w0 : World} {S S' : Nat → Prop} {w w' : World} (ha : Agr S S' w w') : ∀ (t : Tr) (i : Nat) (b : Nat), Nv w0 S w i t b → Nv w0 S' w' i t b
  | .nd r ks, i, b, h => by
    simp only [Nv] at h ⊢
    obtain ⟨h1, h2, q, bs, ak, ck, h3, h4, h5, h6, h7⟩ := h
    exact ⟨ha.sub b h1, Nat.lt_of_lt_of_le h2 ha.size, q, bs, ak, ck, h3, h4, (ha.blk b h1 h2).trans h5, h6.agr ha, NvL.agr ha ks (i + 1) bs h7⟩
theorem NvL.agr {w0 : World} {S S' : Nat → Prop} {w w' : World} (ha : Agr S S' w w') : ∀ (ts : List Tr) (i : Nat) (bs : List Nat), NvL w0 S w i ts bs → NvL w0 S' w' i ts bs
  | [], i, bs, h => by simp only [NvL] at h ⊢; exact h
  | t :: ts, i, bs, h => by
    simp only [NvL] at h ⊢
    obtain ⟨b, bs', h1, h2, h3⟩ := h
    exact ⟨b, bs', h1, Nv.agr ha t i b h2, NvL.agr ha ts _ bs' h3⟩
end
theorem NvL.snoc {w0 : World} {S : Nat → Prop} {w : World} {t : Tr} {b : Nat} : ∀ (ts : List Tr) (i : Nat) (bs : List Nat), NvL w0 S w i ts bs → Nv w0 S w (i + (rowsL ts).length) t b → NvL w0 S w i (ts ++ [t]) (bs ++ [b])
  | [], i, bs, h, h2 => by
    simp only [NvL] at h
    subst h
    simp only [List.nil_append, NvL]
    exact ⟨b, [], rfl, by simpa [rowsL] using h2, rfl⟩
  | u :: ts, i, bs, h, h2 => by
    simp only [NvL] at h
    obtain ⟨x, bs', rfl, h3, h4⟩ := h
    simp only [List.cons_append, NvL]
    refine ⟨x, _, rfl, h3, NvL.snoc ts _ bs' h4 ?_⟩
    simpa [rowsL, Nat.add_assoc] using h2
theorem NvL.len {w0 : World} {S : Nat → Prop} {w : World} : ∀ (ts : List Tr) (i : Nat) (bs : List Nat), NvL w0 S w i ts bs → bs.length = ts.length
  | [], i, bs, h => by simp only [NvL] at h; rw [h]; rfl
  | u :: ts, i, bs, h => by
    simp only [NvL] at h
    obtain ⟨x, bs', rfl, h3, h4⟩ := h
    simp [NvL.len ts _ bs' h4]
/-- The k-th kid, those ahead of it and those behind it. -/
theorem NvL.cut {w0 : World} {S : Nat → Prop} {w : World} : ∀ (ts : List Tr) (i : Nat) (bs : List Nat), NvL w0 S w i ts bs → ∀ k, k < ts.length → ∃ pre t post b, ts = pre ++ t :: post ∧ pre.length = k ∧ bs[k]? = some b ∧ Nv w0 S w (i + (rowsL pre).length) t b
  | [], i, bs, h, k, hk => by simp at hk
  | u :: ts, i, bs, h, k, hk => by
    simp only [NvL] at h
    obtain ⟨x, bs', rfl, h3, h4⟩ := h
    cases k with
    | zero => exact ⟨[], u, ts, x, rfl, rfl, rfl, by simpa [rowsL] using h3⟩
    | succ k =>
      obtain ⟨pre, t, post, b, e1, e2, e3, e4⟩ := NvL.cut ts _ bs' h4 k (by simpa using hk)
      exact ⟨u :: pre, t, post, b, by rw [e1]; rfl, by simp [e2], by simpa using e3, by simpa [rowsL, Nat.add_assoc] using e4⟩
theorem Rw.at_ {w0 w : World} {q : T} (h : Rw w0 q) (hb : Below w0.heap.size w0 w) : Lst w q := h.lst.below hb
theorem Agr.below {S : Nat → Prop} {w w' : World} (h : Below w.heap.size w w') : Agr S S w w' := ⟨h.size, fun b _ hb => h.block b hb, fun _ h => h⟩
/-- The kids that have grown, in the world wr; the node is at B. -/
structure Gs (w0 : World) (B i : Nat) (ks : List Tr) (bs : List Nat) (ak : Option Addr) (ck : Nat) (wr : World) : Prop where
  row : wr.ownsRow (B + 1) 81 1 (.slice ak bs.length ck) bs.length (vals bs)
  nv : NvL w0 (fun b => B < b ∧ b < wr.heap.size ∧ (Value.slice ak bs.length ck).ownBlock ≠ some b) wr i ks bs
end Go.Proofs.Ytkjodikccehmkaa.Rou
