/- The program grows its tree of routes. -/
import Derived.Test.YtkjodikccehmkaaRtm
import Derived.Deep.RegionHeld3
import Derived.Deep.CutRange
namespace Go.Proofs.Ytkjodikccehmkaa.Rou
open Go.RowKit
open Go.Proofs.Ytkjodikccehmkaa.Rwc

/-- All but one block stays. -/
abbrev Fb (B : Nat) (w w' : World) : Prop := w.grownBy w' (some B)
theorem Fb.refl (B : Nat) (w : World) : Fb B w w := ⟨rfl, rfl, rfl, Nat.le_refl _, fun _ _ _ => rfl⟩
theorem Fb.trans {B : Nat} {a b c : World} (h : Fb B a b) (k : Fb B b c) : Fb B a c :=
  ⟨k.os.trans h.os, k.tape.trans h.tape, k.output.trans h.output, Nat.le_trans h.size k.size, fun i hi hr => (k.block i (Nat.lt_of_lt_of_le hi h.size) hr).trans (h.block i hi hr)⟩
theorem Fb.of {B : Nat} {w w' : World} (h : Below w.heap.size w w') : Fb B w w' := ⟨h.os, h.tape, h.output, h.size, fun i hi _ => h.block i hi⟩
theorem Fb.kept {B b : Nat} {x y : World} {o : Obj} (hb : Fb B x y) (h : x.heap[b]? = some o) (hn : b ≠ B) : y.heap[b]? = some o := (hb.block b (lt_at h) (fun e => hn (Option.some.inj e))).trans h
theorem Fb.below {B U : Nat} {w0 w w' : World} (h : Below U w0 w) (hb : Fb B w w') (hU : U ≤ B) (hw : U ≤ w.heap.size) : Below U w0 w' := h.grown hb hw (by intro k hk; cases hk; exact hU)
theorem Fb.own {B base e size n : Nat} {v : Value} {xs : List Value} {w w' : World} (h : w.ownsRow base e size v n xs) (hb : Fb B w w') (hB : B < base) : w'.ownsRow base e size v n xs :=
  h.kept hb (by
    cases hv : v.ownBlock with
    | none => exact .inl rfl
    | some k => have := (h.lt k hv).1; exact .inr (by simp; omega))
theorem Fb.agr {B : Nat} {S S' : Nat → Prop} {w w' : World} (hb : Fb B w w') (h : ∀ b, S b → b ≠ B ∧ S' b) : Agr S S' w w' :=
  ⟨hb.size, fun b hS hl => hb.block b hl (fun e => (h b hS).1 (Option.some.inj e)), fun b hS => (h b hS).2⟩
theorem Fb.set (B o : Nat) (v : Value) (w : World) : Fb B w (w.setCell ⟨B, o, none⟩ v) :=
  have h := (Below.refl 0 w).setCell (p := ⟨B, o, none⟩) (Nat.zero_le _) v
  ⟨h.os, h.tape, h.output, h.size, fun i _ hr => Below.heap_setCell w ⟨B, o, none⟩ v i (fun e => hr (by rw [e]))⟩
theorem Fb.tail {Bn B o : Nat} {w w2 w4 : World} {ob : Obj} {r : Option Nat} {v : Value} (h : Fb Bn w w2) (hB : B = w.heap.size) (hg : (w2.alloc ob).grownBy w4 r) (hr : ∀ g, r = some g → B + 1 ≤ g) : Fb Bn w (w4.setCell ⟨B, o, none⟩ v) := by
  have h1 : Fb Bn w (w2.alloc ob) := h.trans (Fb.of ((Below.refl _ _).alloc (Nat.le_refl _) _))
  have h2 : Fb Bn w w4 := ⟨hg.os.trans h1.os, hg.tape.trans h1.tape, hg.output.trans h1.output, Nat.le_trans h1.size hg.size, fun i hi hne => (hg.block i (Nat.lt_of_lt_of_le hi h1.size) (fun e => by have := hr i e.symm; omega)).trans (h1.block i hi hne)⟩
  have h3 := Fb.set B o v w4
  exact ⟨h3.os.trans h2.os, h3.tape.trans h2.tape, h3.output.trans h2.output, Nat.le_trans h2.size h3.size, fun i hi hne => (h3.block i (Nat.lt_of_lt_of_le hi h2.size) (fun e => by simp at e; omega)).trans (h2.block i hi hne)⟩
theorem at_tail {Bn B o : Nat} {w2 w4 : World} {ob ox : Obj} {r : Option Nat} {v : Value} (h : w2.heap[Bn]? = some ox) (hB : Bn < B) (hg : (w2.alloc ob).grownBy w4 r) (hr : ∀ g, r = some g → B + 1 ≤ g) : (w4.setCell ⟨B, o, none⟩ v).heap[Bn]? = some ox := by
  refine set_else ?_ (by simp only; omega)
  have hl := lt_at h
  exact (hg.block Bn (by simp; omega) (fun e => by have := hr Bn e.symm; omega)).trans ((Below.heap_alloc _ _ _ hl).trans h)
/-- The three variables that grow uses: which is next, the list, grow itself. -/
structure Vars (Bn Bl Bg : Nat) (a : Option Addr) (n c k : Nat) (w : World) : Prop where
  next : w.heap[Bn]? = some (.cells #[.int .i64 k] 3)
  list : w.heap[Bl]? = some (.cells #[.slice a n c] 44)
  grow : w.heap[Bg]? = some (.cells #[.func (.func 108) #[] #[ptr Bn, ptr Bl, ptr Bg]] 127)
theorem Vars.fb {Bn Bl Bg : Nat} {a : Option Addr} {n c k k' : Nat} {w w' : World} (h : Vars Bn Bl Bg a n c k w) (hb : Fb Bn w w') (hl : Bl ≠ Bn) (hg : Bg ≠ Bn) (hn : w'.heap[Bn]? = some (.cells #[.int .i64 k'] 3)) : Vars Bn Bl Bg a n c k' w' :=
  ⟨hn, hb.kept h.list hl, hb.kept h.grow hg⟩
/-- What a call of grow leaves. -/
def GrR (w0 : World) (Bn : Nat) (ts : List T) (k : Nat) (w : World) (e : Ending) (w' : World) : Prop :=
  Fb Bn w w' ∧ ((e = .returned (.pointer none) ∧ w'.heap[Bn]? = some (.cells #[.int .i64 ts.length] 3) ∧ ∀ d t x, (ts.map pl).drop k = rows t ++ x → ¬ Gt N0 d t) ∨
    ∃ t b x, e = .returned (ptr b) ∧ (ts.map pl).drop k = rows t ++ x ∧ Gt N0 0 t ∧ w'.heap[Bn]? = some (.cells #[.int .i64 ((k + (rows t).length : Nat) : Int)] 3) ∧ k + (rows t).length ≤ ts.length ∧ Nv w0 (fun b => w.heap.size ≤ b ∧ b < w'.heap.size) w' k t b)
theorem Gs.all {w0 wr : World} {B i ck : Nat} {ks : List Tr} {bs : List Nat} {ak : Option Addr} (h : Gs w0 B i ks bs ak ck wr) : NvL w0 (fun b => B ≤ b ∧ b < wr.heap.size) wr i ks bs ∧ HasV (fun b => B ≤ b ∧ b < wr.heap.size) wr ak (vals bs) := by
  refine ⟨NvL.agr (S := fun b => B < b ∧ b < wr.heap.size ∧ (Value.slice ak bs.length ck).ownBlock ≠ some b) ⟨Nat.le_refl _, fun _ _ _ => rfl, fun b hb => ⟨by omega, hb.2.1⟩⟩ ks i bs h.nv, ?_⟩
  rcases h.row.2 with ⟨_, h2⟩ | ⟨g, cap, cur, h1, h2, h3, h4, h5, h6, h7⟩
  · exact .inl (List.length_eq_zero_iff.1 (by rw [vals_len]; exact h2))
  · simp only [Value.slice.injEq] at h1
    refine .inr ⟨g, 0, h1.1, ⟨by omega, (Array.getElem?_eq_some_iff.1 h3).1⟩, (Array.getElem?_eq_some_iff.1 h3).1, fun i hi => ?_⟩
    rw [vals_len] at hi
    rw [Nat.zero_add]
    simp only [World.cell?, h3]
    have e : (vals bs)[i]? = cur.toList[i]? := by
      have := congrArg (fun l => l[i]?) h7
      simp only [List.getElem?_take] at this
      rw [if_pos (by omega)] at this
      exact this.symm
    rw [e]
    simp
theorem Gs.next {w0 wr w2 w3 w4 : World} {Bn B i ck c3 : Nat} {ks : List Tr} {bs : List Nat} {ak a3 : Option Addr} {t : Tr} {b : Nat} (h : Gs w0 B i ks bs ak ck wr) (hs : B + 1 ≤ wr.heap.size) (hB : Bn < B)
    (hb : Fb Bn wr w2) (hn : Nv w0 (fun b => wr.heap.size ≤ b ∧ b < w2.heap.size) w2 (i + (rowsL ks).length) t b) (h3 : w3 = w2.alloc (.cells #[ptr b] 81))
    (hg : w3.grownBy w4 (Value.slice ak bs.length ck).ownBlock) (ho : w4.ownsRow (B + 1) 81 1 (.slice a3 (bs.length + 1) c3) (bs.length + 1) (vals bs ++ [ptr b])) (hd : (Value.slice a3 (bs.length + 1) c3).ownBlock = (Value.slice ak bs.length ck).ownBlock ∨ (Value.slice a3 (bs.length + 1) c3).ownBlock = some w3.heap.size) (v : Value) :
    Gs w0 B i (ks ++ [t]) (bs ++ [b]) a3 c3 (w4.setCell ⟨B, 10, none⟩ v) := by
  subst h3
  have hsz : (w2.alloc (.cells #[ptr b] 81)).heap.size = w2.heap.size + 1 := by simp
  have hlt : ∀ g, (Value.slice ak bs.length ck).ownBlock = some g → B + 1 ≤ g ∧ g < wr.heap.size := fun g e => h.row.lt g e
  have hs2 := hb.size
  have hs4 := hg.size
  have hlen : (bs ++ [b]).length = bs.length + 1 := by simp
  have hv : vals (bs ++ [b]) = vals bs ++ [ptr b] := by simp [vals]
  have hss : (w4.setCell ⟨B, 10, none⟩ v).heap.size = w4.heap.size := by simp
  have hset : ∀ x, x ≠ B → (w4.setCell ⟨B, 10, none⟩ v).heap[x]? = w4.heap[x]? := fun x hx => Below.heap_setCell w4 ⟨B, 10, none⟩ v x hx
  refine ⟨?_, ?_⟩
  · rw [hlen, hv]
    rcases ho.2 with ⟨h1, h2⟩ | ⟨g, cap, cur, h1, h2, h3', h4⟩
    · exact absurd h2 (by omega)
    · refine ⟨ho.1, .inr ⟨g, cap, cur, h1, h2, ?_, h4⟩⟩
      rw [hset g (by omega)]; exact h3'
  · rw [hlen]
    refine NvL.snoc ks i bs ?_ ?_
    · refine NvL.agr (S := fun b => B < b ∧ b < wr.heap.size ∧ (Value.slice ak bs.length ck).ownBlock ≠ some b) ⟨by omega, fun x hb1 hb2 => ?_, fun x hb1 => ⟨hb1.1, by omega, ?_⟩⟩ ks i bs h.nv
      · rw [hset x (by omega)]
        exact (hg.block x (by omega) (fun e => hb1.2.2 e.symm)).trans ((Below.heap_alloc _ _ _ (by omega)).trans (hb.block x hb2 (fun e => by simp at e; omega)))
      · intro e
        rcases hd with hd | hd
        · rw [hd] at e; exact hb1.2.2 e
        · rw [hd] at e; simp at e; omega
    · refine Nv.agr (S := fun b => wr.heap.size ≤ b ∧ b < w2.heap.size) ⟨by omega, fun x hb1 hb2 => ?_, fun x hb1 => ⟨by omega, by omega, ?_⟩⟩ t _ b hn
      · rw [hset x (by omega)]
        refine (hg.block x (by omega) (fun e => ?_)).trans (Below.heap_alloc _ _ _ hb2)
        have := hlt x e.symm; omega
      · intro e
        rcases hd with hd | hd
        · rw [hd] at e; have := hlt x e; omega
        · rw [hd] at e; simp at e; omega
end Go.Proofs.Ytkjodikccehmkaa.Rou
