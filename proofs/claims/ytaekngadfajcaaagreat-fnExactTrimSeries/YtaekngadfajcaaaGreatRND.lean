/- Needs: memory's small facts, lists of needs as they lie in memory, szNeedS. -/
import Derived.Test.YtaekngadfajcaaaGreatRMat
import Derived.Test.YtaekngadfajcaaaGreatRGL
import Derived.BigQuiet
import Derived.Deep.QuietTactic
import Derived.Deep.RegionHeld3
namespace Go.Proofs.YtaekngadfajcaaaGreat.Ned
open Go.RowKit
open Go.Proofs.YtaekngadfajcaaaGreat.Pat (Mt HasM)

theorem hid {p : Prop} (h : p) : Hid p := h
theorem lt_at {x : World} {b : Nat} {o : Obj} (h : x.heap[b]? = some o) : b < x.heap.size := (Array.getElem?_eq_some_iff.1 h).1
theorem kept {x y : World} {b : Nat} {o : Obj} (h : x.heap[b]? = some o) (hb : Below x.heap.size x y) : y.heap[b]? = some o := (hb.block b (lt_at h)).trans h
/-- A number of the machine. -/
def In64 (x : Int) : Prop := -9223372036854775808 ≤ x ∧ x ≤ 9223372036854775807
theorem own_base {w : World} {base base' e size n : Nat} {v : Value} {xs : List Value} (h : w.ownsRow base e size v n xs) (hb : base' ≤ base) : w.ownsRow base' e size v n xs := by
  refine ⟨h.1, ?_⟩
  rcases h.2 with h2 | ⟨g, cap, cur, h1, h2, h3⟩
  · exact .inl h2
  · exact .inr ⟨g, cap, cur, h1, by omega, h3⟩
theorem own_set {w : World} {base e size n c g : Nat} {xs : List Value} {p : Addr} (h : w.ownsRow base e size (.slice (some ⟨g, 0, none⟩) n c) n xs) (hp : g ≠ p.block) (u : Value) : (w.setCell p u).ownsRow base e size (.slice (some ⟨g, 0, none⟩) n c) n xs := by
  refine h.kept (row := some p.block) ⟨rfl, rfl, rfl, by simp, fun j hj hne => Below.heap_setCell w p u j (fun e => hne (by rw [e]))⟩ (.inr ?_)
  intro e
  exact hp (Option.some.inj e)
theorem own_below {w w' : World} {base e size n : Nat} {v : Value} {xs : List Value} (h : w.ownsRow base e size v n xs) (hb : Below w.heap.size w w') : w'.ownsRow base e size v n xs :=
  h.kept (row := none) ⟨hb.os, hb.tape, hb.output, hb.size, fun k hk _ => hb.block k hk⟩ (by cases hv : v.ownBlock <;> simp)
theorem set_at {x : World} {b i : Nat} {cs : Array Value} {t : TypeId} {v : Value} (h : x.heap[b]? = some (.cells cs t)) : (x.setCell ⟨b, i, none⟩ v).heap[b]? = some (.cells (cs.setIfInBounds i v) t) := by
  have hlt := lt_at h
  have h' : x.heap[b] = .cells cs t := by simpa [Array.getElem?_eq_getElem hlt] using h
  show (x.heap.modify b _)[b]? = _
  rw [Array.getElem?_eq_getElem (by simpa using hlt), Array.getElem_modify_self, h']
  rfl
theorem set_else {x : World} {b : Nat} {p : Addr} {o : Obj} {v : Value} (h : x.heap[b]? = some o) (hp : b ≠ p.block) : (x.setCell p v).heap[b]? = some o := (Below.heap_setCell x p v b hp).trans h
theorem three_new (w : World) (o1 o2 o3 : Obj) : (((w.alloc o1).alloc o2).alloc o3).heap[w.heap.size]? = some o1 ∧ (((w.alloc o1).alloc o2).alloc o3).heap[w.heap.size + 1]? = some o2 ∧ (((w.alloc o1).alloc o2).alloc o3).heap[w.heap.size + 1 + 1]? = some o3 := by
  have h1 := heap_alloc_new w o1
  have h2 := heap_alloc_new (w.alloc o1) o2
  have h3 := heap_alloc_new ((w.alloc o1).alloc o2) o3
  simp only [World.size_alloc] at h2 h3
  have e1 := (Below.heap_alloc (w.alloc o1) o2 w.heap.size (by simp)).trans h1
  have e2 := (Below.heap_alloc ((w.alloc o1).alloc o2) o3 w.heap.size (by simp; omega)).trans e1
  exact ⟨e2, (Below.heap_alloc ((w.alloc o1).alloc o2) o3 (w.heap.size + 1) (by simp)).trans h2, h3⟩
def blk (a : Option Addr) : Nat := match a with
  | some x => x.block
  | none => 0
theorem own_grown {w x : World} {base e size n c g r : Nat} {xs : List Value} (h : w.ownsRow base e size (.slice (some ⟨g, 0, none⟩) n c) n xs) (hg : w.grownBy x (some r)) (hne : g ≠ r) : x.ownsRow base e size (.slice (some ⟨g, 0, none⟩) n c) n xs :=
  h.kept hg (.inr (fun e => hne (Option.some.inj e)))
set_option maxHeartbeats 1000000 in
theorem f62u (s t : ByteArray) (o x : Int) (w : World) (hs : s.size ≤ maxLen) (ht : t.size ≤ maxLen) (hx0 : 0 ≤ x) (hx1 : x ≤ 1048576) :
    Calls Tryz.prog 62 #[.agg #[.string s, .int .i64 o, .string t], .int .i64 x] w fun e w' => ∃ y : Int, e = .returned (.int .i64 y) ∧ -1 ≤ y ∧ y ≤ x ∧ Below w.heap.size w w' := by
  unfold maxLen at hs ht
  have HB := hid ((Below.refl w.heap.size w).alloc (Nat.le_refl _) (.cells #[.string s, .int .i64 o, .string t] 97))
  by_cases h1 : x < s.size
  · go_enter Tryz.func62, Tryz.ntmps62
    go_wp2
    go_ret
    exact ⟨-1, rfl, by omega, by omega, HB.out⟩
  · by_cases h2 : x < s.size + t.size
    · go_enter Tryz.func62, Tryz.ntmps62
      go_wp2
      go_ret
      exact ⟨-1, rfl, by omega, by omega, HB.out⟩
    · go_enter Tryz.func62, Tryz.ntmps62
      go_wp2
      go_ret
      exact ⟨_, rfl, by omega, by omega, HB.out⟩

set_option maxHeartbeats 1000000 in
theorem f36u (a : Option Addr) (n c : Nat) (L : Int) (ms : List Mt) (w : World) (hL0 : 0 ≤ L) (hL1 : L ≤ 1048576) (hn : ms.length = n) (hr : HasM w a ms) (hf : Pat.FitM ms) (hmax : n ≤ maxLen) :
    Calls Tryz.prog 36 #[.slice a n c, .int .i64 L] w fun e w' => ∃ y : Int, e = .returned (.int .i64 y) ∧ -1 ≤ y ∧ y ≤ L ∧ (0 ≤ y → n + y ≤ L) ∧ Below w.heap.size w w' := by
  unfold maxLen at hmax
  by_cases hbig : (n : Int) ≤ L
  · have HN := hid hn
    clear hn
    go_enter Tryz.func36, Tryz.ntmps36
    go_wp2
    go_loopw [1, 5] (fun sx i wr => ∃ (k : Nat) (x : Int), k ≤ n ∧ i = .int .i64 k ∧ sx = .int .i64 x ∧ 0 ≤ x ∧ n + x ≤ L ∧ Below w.heap.size w wr) (fun _ i _ => n - (intOf i).toNat)
    case atStart => exact ⟨0, _, Nat.zero_le _, rfl, rfl, by omega, by omega, Below.refl _ _⟩
    case round =>
      obtain ⟨k, x, hk, rfl, rfl, hx0, hx1, hb⟩ := hrel
      have HB := hid hb
      by_cases hlt : k < n
      · rcases hr with h | ⟨b, off, rfl, h2, h3⟩
        · exfalso; rw [h] at HN; have := HN.out; simp at this; omega
        obtain ⟨c0, c1, c2⟩ := h3 k (by rw [HN.out]; exact hlt)
        obtain ⟨g0, g1, _⟩ := hf k
        have d0 := (hb.cell (p := ⟨b, off + k * 3, none⟩) h2).trans c0
        have d1 := (hb.cell (p := ⟨b, off + k * 3 + 1, none⟩) h2).trans c1
        have d2 := (hb.cell (p := ⟨b, off + k * 3 + 2, none⟩) h2).trans c2
        clear h3 c0 c1 c2 hb
        generalize (ms.getD k Pat.m0).1 = s at *
        generalize (ms.getD k Pat.m0).2.1 = o at *
        generalize (ms.getD k Pat.m0).2.2 = t at *
        go_wp2_with fail
        refine (f62u s t o x _ g0 g1 hx0 (by omega)).mono ?_
        rintro e w2 ⟨y, rfl, y0, y1, hb2⟩
        have HB2 := hid (HB.out.trans (hb2.mono HB.out.size))
        clear hb2 d0 d1 d2
        by_cases hy : y < 0
        · go_wp2
          go_ret
          exact ⟨-1, rfl, by omega, by omega, fun h => absurd h (by omega), HB2.out⟩
        · go_wp2
          go_roundw
          case rel => exact ⟨k + 1, y, by omega, by go_num, rfl, by omega, by omega, HB2.out⟩
          case measure => simp [intOf]; omega
      · go_wp2
        go_ret
        exact ⟨x, rfl, by omega, by omega, fun _ => by omega, HB.out⟩
  · go_enter Tryz.func36, Tryz.ntmps36
    go_wp2
    go_ret
    exact ⟨-1, rfl, by omega, by omega, by omega, Below.refl _ _⟩

/-- A need as it lies in memory. -/
structure T where
  l : List Mt
  a : Option Addr
  c : Nat
  f : Int
  t : Int
def t0 : T := ⟨[], none, 0, 0, 0⟩
instance : Inhabited T := ⟨t0⟩
/-- What a need is, wherever it lies. -/
abbrev Pl := List Mt × Int × Int
def pl (q : T) : Pl := (q.l, q.f, q.t)
def cl (q : T) : List Value := [.slice q.a q.l.length q.c, .int .i64 q.f, .int .i64 q.t]
abbrev agT (q : T) : Value := .agg #[.slice q.a q.l.length q.c, .int .i64 q.f, .int .i64 q.t]
def flat (L : List T) : List Value := L.flatMap cl
theorem flat_cons (q : T) (L : List T) : flat (q :: L) = cl q ++ flat L := rfl
theorem flat_append (L K : List T) : flat (L ++ K) = flat L ++ flat K := by simp [flat]
theorem flat_len (L : List T) : (flat L).length = L.length * 3 := by
  induction L with
  | nil => rfl
  | cons q L ih => rw [flat_cons, List.length_append, ih, show (cl q).length = 3 from rfl, List.length_cons]; omega
theorem flat_get : ∀ (L : List T) (i : Nat), i < L.length → (flat L)[i * 3]? = some (.slice (L.getD i t0).a (L.getD i t0).l.length (L.getD i t0).c) ∧ (flat L)[i * 3 + 1]? = some (.int .i64 (L.getD i t0).f) ∧ (flat L)[i * 3 + 2]? = some (.int .i64 (L.getD i t0).t) := by
  intro L
  induction L with
  | nil => intro i h; simp at h
  | cons p L ih =>
    intro i h
    cases i with
    | zero => exact ⟨rfl, rfl, rfl⟩
    | succ i =>
      have := ih i (by simpa using h)
      rw [flat_cons]
      refine ⟨?_, ?_, ?_⟩
      · rw [show (i + 1) * 3 = i * 3 + 1 + 1 + 1 by omega]; simpa [cl] using this.1
      · rw [show (i + 1) * 3 + 1 = i * 3 + 1 + 1 + 1 + 1 by omega]; simpa [cl] using this.2.1
      · rw [show (i + 1) * 3 + 2 = i * 3 + 2 + 1 + 1 + 1 by omega]; simpa [cl] using this.2.2
theorem flat_set : ∀ (L : List T) (i : Nat) (q : T), i < L.length → (((flat L).set (i * 3) (.slice q.a q.l.length q.c)).set (i * 3 + 1) (.int .i64 q.f)).set (i * 3 + 2) (.int .i64 q.t) = flat (L.set i q) := by
  intro L
  induction L with
  | nil => intro i q h; simp at h
  | cons p L ih =>
    intro i q h
    cases i with
    | zero => rfl
    | succ i =>
      have := ih i q (by simpa using h)
      rw [flat_cons, List.set_cons_succ, flat_cons, ← this]
      rw [show (i + 1) * 3 = i * 3 + 1 + 1 + 1 by omega]
      simp [cl]
theorem made_three (n : Nat) : (madeCells #[.slice none 0 0, .int .i64 0, .int .i64 0] (n * 3)).toList = flat (List.replicate n t0) := by
  apply List.ext_getElem?
  intro j
  by_cases hj : j < n * 3
  · have hl : j / 3 < (List.replicate n t0).length := by simp; omega
    have h2 : (List.replicate n t0).getD (j / 3) t0 = t0 := by
      rw [List.getD_eq_getElem?_getD, List.getElem?_replicate]; split <;> rfl
    obtain ⟨g0, g1, g2⟩ := flat_get _ _ hl
    rw [h2] at g0 g1 g2
    unfold madeCells
    rcases (show j % 3 = 0 ∨ j % 3 = 1 ∨ j % 3 = 2 by omega) with h | h | h
    · rw [show j = j / 3 * 3 by omega] at hj ⊢
      rw [g0]
      simp [hj]
      exact ⟨rfl, rfl, rfl⟩
    · rw [show j = j / 3 * 3 + 1 by omega] at hj ⊢
      rw [g1]
      simp [hj, Nat.add_mod]
      rfl
    · rw [show j = j / 3 * 3 + 2 by omega] at hj ⊢
      rw [g2]
      simp [hj, Nat.add_mod]
      rfl
  · rw [List.getElem?_eq_none (by simp [size_madeCells]; omega), List.getElem?_eq_none (by rw [flat_len]; simp; omega)]

/-- The cells of a need. -/
def Cells (w : World) (b o : Nat) (q : T) : Prop := w.cell? ⟨b, o, none⟩ = some (.slice q.a q.l.length q.c) ∧ w.cell? ⟨b, o + 1, none⟩ = some (.int .i64 q.f) ∧ w.cell? ⟨b, o + 2, none⟩ = some (.int .i64 q.t)
theorem Cells.below {w w' : World} {b o : Nat} {q : T} (h : Cells w b o q) (hb : Below w.heap.size w w') (hl : b < w.heap.size) : Cells w' b o q :=
  ⟨(hb.cell (by exact hl)).trans h.1, (hb.cell (by exact hl)).trans h.2.1, (hb.cell (by exact hl)).trans h.2.2⟩
/-- The slice that begins at 'a' holds the needs 'ts' in the world 'w'. -/
def HasT (w : World) (a : Option Addr) (ts : List T) : Prop :=
  ts = [] ∨ ∃ b off, a = some ⟨b, off, none⟩ ∧ b < w.heap.size ∧ ∀ i, i < ts.length → Cells w b (off + i * 3) (ts.getD i t0) ∧ HasM w (ts.getD i t0).a (ts.getD i t0).l
theorem HasT.below {w w' : World} {a : Option Addr} {ts : List T} (h : HasT w a ts) (hb : Below w.heap.size w w') : HasT w' a ts := by
  rcases h with h | ⟨b, off, h1, h2, h3⟩
  · exact .inl h
  · exact .inr ⟨b, off, h1, Nat.lt_of_lt_of_le h2 hb.size, fun i hi => ⟨(h3 i hi).1.below hb h2, (h3 i hi).2.below hb⟩⟩
theorem HasT.alloc {w : World} {a : Option Addr} {ts : List T} (h : HasT w a ts) (o : Obj) : HasT (w.alloc o) a ts := h.below ((Below.refl _ _).alloc (Nat.le_refl _) o)
theorem HasT.nil {w : World} {a : Option Addr} : HasT w a [] := .inl rfl
theorem HasT.at2 {w : World} {a : Option Addr} {ts : List T} (h : HasT w a ts) (i : Nat) (hi : i < ts.length) : ∃ b off, a = some ⟨b, off, none⟩ ∧ b < w.heap.size ∧ Cells w b (off + i * 3) (ts.getD i t0) ∧ HasM w (ts.getD i t0).a (ts.getD i t0).l := by
  rcases h with h | ⟨b, off, h1, h2, h3⟩
  · rw [h] at hi; simp at hi
  · exact ⟨b, off, h1, h2, h3 i hi⟩
/-- All texts and numbers are such as a machine can hold. -/
def Ft (q : T) : Prop := Pat.FitM q.l ∧ q.l.length ≤ maxLen ∧ In64 q.f ∧ In64 q.t
def FitT (ts : List T) : Prop := ∀ i, Ft (ts.getD i t0)
theorem fit_t0 : Ft t0 := ⟨fun i => by simp [t0, Pat.m0, maxLen], Nat.zero_le _, by simp [t0, In64], by simp [t0, In64]⟩
/-- How many matchers the first k needs have. -/
def tot (ts : List T) : Nat → Nat
  | 0 => 0
  | k + 1 => tot ts k + (ts.getD k t0).l.length
def SmlT (ts : List T) : Prop := ∀ i, i < ts.length → (ts.getD i t0).l.length ≤ 1048576
theorem tot_mono (ts : List T) : ∀ (k j : Nat), j ≤ k → tot ts j ≤ tot ts k := by
  intro k
  induction k with
  | zero => intro j h; rw [show j = 0 by omega]; exact Nat.le_refl _
  | succ k ih =>
    intro j h
    by_cases e : j = k + 1
    · rw [e]; exact Nat.le_refl _
    · have := ih j (by omega)
      simp only [tot]; omega
theorem sml_tot {ts : List T} (h : tot ts ts.length ≤ 1048576) : SmlT ts := by
  intro i hi
  have := tot_mono ts ts.length (i + 1) hi
  simp only [tot] at this
  omega
theorem own_has {w : World} {base g n c E : Nat} {ts : List T} (h : w.ownsRow base E 3 (.slice (some ⟨g, 0, none⟩) n c) n (flat ts)) (hT : ∀ i, i < ts.length → HasM w (ts.getD i t0).a (ts.getD i t0).l) : HasT w (some ⟨g, 0, none⟩) ts := by
  have hl := h.1
  rw [flat_len] at hl
  refine .inr ⟨g, 0, rfl, (h.lt g rfl).2, fun i hi => ?_⟩
  obtain ⟨y0, y1, y2⟩ := flat_get ts i hi
  rw [Nat.zero_add]
  exact ⟨⟨(h.cellAt (i * 3) (by omega)).trans y0, (h.cellAt (i * 3 + 1) (by omega)).trans y1, (h.cellAt (i * 3 + 2) (by omega)).trans y2⟩, hT i hi⟩
/-- Two lists of needs say the same. -/
def Same (n : Nat) (ts ts' : List T) : Prop := ∀ i, i < n → pl (ts'.getD i t0) = pl (ts.getD i t0)
theorem three {x : World} {b : Nat} {v0 v1 v2 : Value} {t : TypeId} (h : x.heap[b]? = some (.cells #[v0, v1, v2] t)) : x.cell? ⟨b, 0, none⟩ = some v0 ∧ x.cell? ⟨b, 1, none⟩ = some v1 ∧ x.cell? ⟨b, 2, none⟩ = some v2 := by
  refine ⟨?_, ?_, ?_⟩ <;> simp [World.cell?, h]
theorem three_frz {x : World} {b o : Nat} {v0 v1 v2 : Value} {t : TypeId} (h : x.heap[b]? = some (.cells #[v0, v1, v2] t)) : x.frozen? ⟨b, o, none⟩ = false := by
  simp [World.frozen?, h]

set_option maxHeartbeats 1000000 in
theorem f16 (q : T) (L : Int) (w : World) (hL0 : 0 ≤ L) (hL1 : L ≤ 1048576) (hr : HasM w q.a q.l) (hf : Ft q) :
    Calls Tryz.prog 16 #[agT q, .int .i64 L] w fun e w' => ∃ y : Int, e = .returned (.int .i64 y) ∧ -1 ≤ y ∧ y ≤ L ∧ (0 ≤ y → q.l.length + y ≤ L) ∧ Below w.heap.size w w' := by
  obtain ⟨l, a, c, f, t⟩ := q
  obtain ⟨f1, f2, -, -⟩ := hf
  simp only at f1 f2 hr
  have HR := hid hr
  have F1 := hid f1
  have F2 := hid f2
  have HB0 := hid ((Below.refl w.heap.size w).alloc (Nat.le_refl _) (.cells #[.slice a l.length c, .int .i64 f, .int .i64 t] 44))
  clear hr f1 f2
  simp only [agT]
  go_enter Tryz.func16, Tryz.ntmps16
  go_wp2_with fail
  refine (f36u a l.length c L l _ hL0 hL1 rfl (HR.out.below HB0.out) F1.out F2.out).mono ?_
  rintro e w1 ⟨y, rfl, y0, y1, hy, hb1⟩
  have HB1 := hid (HB0.out.trans (hb1.mono HB0.out.size))
  have HY := hid hy
  clear hb1 hy
  by_cases g0 : y < 0
  · go_wp2
    go_ret
    exact ⟨-1, rfl, by omega, by omega, fun h => absurd h (by omega), HB1.out⟩
  · go_wp2
    go_ret
    exact ⟨y, rfl, by omega, by omega, HY.out, HB1.out⟩

set_option maxHeartbeats 1000000 in
theorem f5 (a : Option Addr) (n c : Nat) (L : Int) (ts : List T) (w : World) (hL0 : 0 ≤ L) (hL1 : L ≤ 1048576) (hn : ts.length = n) (hr : HasT w a ts) (hf : FitT ts) (hmax : n ≤ maxLen) :
    Calls Tryz.prog 5 #[.slice a n c, .int .i64 L] w fun e w' => ∃ y : Int, e = .returned (.int .i64 y) ∧ -1 ≤ y ∧ y ≤ L ∧ (0 ≤ y → n + tot ts n + y ≤ L) ∧ Below w.heap.size w w' := by
  unfold maxLen at hmax
  by_cases hbig : n ≤ L
  · have HN := hid hn
    have HR := hid hr
    have HF := hid hf
    clear hn hr hf
    go_enter Tryz.func5, Tryz.ntmps5
    go_wp2
    go_loopw [1, 5] (fun sx i wr => ∃ (k : Nat) (x : Int), k ≤ n ∧ i = .int .i64 k ∧ sx = .int .i64 x ∧ 0 ≤ x ∧ n + tot ts k + x ≤ L ∧ Hid (Below w.heap.size w wr)) (fun _ i _ => n - (intOf i).toNat)
    case atStart => exact ⟨0, _, Nat.zero_le _, rfl, rfl, by omega, by simp only [tot]; omega, Below.refl _ _⟩
    case round =>
      obtain ⟨k, x, hk, rfl, rfl, hx0, hx1, HB⟩ := hrel
      by_cases hlt : k < n
      · obtain ⟨b, off, rfl, hbl, hc, hl⟩ := (HR.out).at2 k (by rw [HN.out]; exact hlt)
        obtain ⟨d0, d1, d2⟩ := hc.below HB.out hbl
        have HL := hid (hl.below HB.out)
        have G := hid (HF.out k)
        have HT : Hid (tot ts (k + 1) = tot ts k + (ts.getD k t0).l.length) := rfl
        clear hc hl hbl
        generalize ts.getD k t0 = q at *
        go_wp2_with fail
        refine (f16 q x _ hx0 (by omega) HL.out G.out).mono ?_
        rintro e w2 ⟨y, rfl, y0, y1, hy, hb2⟩
        have HB2 := hid (HB.out.trans (hb2.mono HB.out.size))
        clear hb2 d0 d1 d2 HB
        by_cases hy0 : y < 0
        · go_wp2
          go_ret
          exact ⟨-1, rfl, by omega, by omega, fun h => absurd h (by omega), HB2.out⟩
        · have hy' := hid (hy (by omega))
          clear hy
          go_wp2
          go_roundw
          case rel => exact ⟨k + 1, y, by omega, by go_num, rfl, by omega, by rw [HT.out]; have := hy'.out; omega, HB2.out⟩
          case measure => simp [intOf]; omega
      · obtain rfl : k = n := by omega
        go_wp2
        go_ret
        exact ⟨x, rfl, by omega, by omega, fun _ => by omega, HB.out⟩
  · go_enter Tryz.func5, Tryz.ntmps5
    go_wp2
    go_ret
    exact ⟨-1, rfl, by omega, by omega, by omega, Below.refl _ _⟩
end Go.Proofs.YtaekngadfajcaaaGreat.Ned
/- Lists of needs: toNeed, toNeedS: all of it owned; eqNeedS. -/
namespace Go.Proofs.YtaekngadfajcaaaGreat.Ned
open Go.RowKit
open Go.Proofs.YtaekngadfajcaaaGreat.Pat (Mt HasM)

/-- A need whose matchers are in memory of their own. -/
structure Own1 (X ga : Nat) (q : T) (w : World) : Prop where
  ha : q.a = some ⟨ga, 0, none⟩
  lab : w.ownsRow X 75 3 (.slice (some ⟨ga, 0, none⟩) q.l.length q.c) q.l.length (Pat.flatM q.l)
theorem Own1.below {X ga : Nat} {q : T} {w w' : World} (h : Own1 X ga q w) (hb : Below w.heap.size w w') : Own1 X ga q w' := ⟨h.ha, own_below h.lab hb⟩
theorem Own1.set {X ga : Nat} {q : T} {w : World} (h : Own1 X ga q w) {p : Addr} (h1 : ga ≠ p.block) (v : Value) : Own1 X ga q (w.setCell p v) := ⟨h.ha, own_set h.lab h1 v⟩
theorem Own1.base {X Y ga : Nat} {q : T} {w : World} (h : Own1 X ga q w) (hy : Y ≤ X) : Own1 Y ga q w := ⟨h.ha, own_base h.lab hy⟩
theorem Own1.hasM {X ga : Nat} {q : T} {w : World} (h : Own1 X ga q w) : HasM w q.a q.l := by rw [h.ha]; exact Pat.HasM.own h.lab
theorem Own1.lts {X ga : Nat} {q : T} {w : World} (h : Own1 X ga q w) : ga < w.heap.size := (h.lab.lt ga rfl).2

abbrev Z3 : Obj := .cells #[.slice none 0 0, .int .i64 0, .int .i64 0] 48
set_option maxHeartbeats 2000000 in
theorem f21 (q : T) (w : World) (hl : HasM w q.a q.l) (n1 : q.l.length ≤ 1048576) :
    Calls Tryz.prog 21 #[agT q] w fun e w' => ∃ (q' : T) (ga : Nat), e = .returned (agT q') ∧ pl q' = pl q ∧ q'.c = q'.l.length ∧ w.heap.size ≤ ga ∧ Own1 w.heap.size ga q' w' ∧ Below w.heap.size w w' := by
  obtain ⟨l, a, c, f, t⟩ := q
  simp only at hl n1
  have HL := hid hl
  clear hl
  obtain ⟨W, hW⟩ : ∃ W, W = ((w.alloc (.cells #[.slice a l.length c, .int .i64 f, .int .i64 t] 44)).alloc Z3).alloc Z3 := ⟨_, rfl⟩
  have HWb : Hid (Below w.heap.size w W ∧ W.heap[w.heap.size]? = some (.cells #[.slice a l.length c, .int .i64 f, .int .i64 t] 44) ∧ W.heap[w.heap.size + 1]? = some Z3 ∧ W.heap[w.heap.size + 1 + 1]? = some Z3 ∧ W.heap.size = w.heap.size + 1 + 1 + 1) := by
    subst hW
    obtain ⟨k1, k2, k3⟩ := three_new w (.cells #[.slice a l.length c, .int .i64 f, .int .i64 t] 44) Z3 Z3
    exact ⟨(((Below.refl w.heap.size w).alloc (Nat.le_refl _) _).alloc (by simp) _).alloc (by simp; omega) _, k1, k2, k3, by simp⟩
  simp only [agT]
  go_enter Tryz.func21, Tryz.ntmps21
  go_wp2_with fail
  rw [← hW]
  refine (Pat.f47 a l.length c l _ rfl n1 (HL.out.below HWb.out.1)).mono ?_
  rintro e w1 ⟨rfl, ho1, hb1⟩
  have HB1 := hid (HWb.out.1.trans (hb1.mono HWb.out.1.size))
  have HA1 := hid (kept HWb.out.2.1 hb1)
  have HC1 := hid (kept HWb.out.2.2.2.1 hb1)
  have HD1 := hid (kept HWb.out.2.2.1 hb1)
  have HSZ := hid HWb.out.2.2.2.2
  have HO1 := hid ho1
  clear ho1 hb1 hW HWb
  generalize W.heap.size = S at *
  obtain ⟨a0, a1, a2⟩ := three HA1.out
  obtain ⟨c0, c1, c2⟩ := three HC1.out
  obtain ⟨d0, d1, d2⟩ := three HD1.out
  have r0 := three_frz (o := 0) HC1.out
  have r1 := three_frz (o := 1) HC1.out
  have r2 := three_frz (o := 2) HC1.out
  have s0 := three_frz (o := 0) HD1.out
  have s1 := three_frz (o := 1) HD1.out
  have s2 := three_frz (o := 2) HD1.out
  have HF : Hid (∀ x, x = (((((w1.setCell ⟨w.heap.size + 1 + 1, 0, none⟩ (.slice (some ⟨S, 0, none⟩) l.length l.length)).setCell ⟨w.heap.size + 1 + 1, 1, none⟩ (.int .i64 f)).setCell ⟨w.heap.size + 1 + 1, 2, none⟩ (.int .i64 t)).setCell ⟨w.heap.size + 1, 0, none⟩ (.slice (some ⟨S, 0, none⟩) l.length l.length)).setCell ⟨w.heap.size + 1, 1, none⟩ (.int .i64 f)).setCell ⟨w.heap.size + 1, 2, none⟩ (.int .i64 t) →
      x.heap[w.heap.size + 1]? = some (.cells #[.slice (some ⟨S, 0, none⟩) l.length l.length, .int .i64 f, .int .i64 t] 48) ∧ Own1 w.heap.size S ⟨l, some ⟨S, 0, none⟩, l.length, f, t⟩ x ∧ Below w.heap.size w x) := by
    rintro x rfl
    have hS := HSZ.out
    refine ⟨set_at (i := 2) (set_at (i := 1) (set_at (i := 0) (set_else (set_else (set_else HD1.out (by simp only; omega)) (by simp only; omega)) (by simp only; omega)))), ⟨rfl, ?_⟩, ?_⟩
    · exact own_set (own_set (own_set (own_set (own_set (own_set (own_base HO1.out (by omega)) (by simp only; omega) _) (by simp only; omega) _) (by simp only; omega) _) (by simp only; omega) _) (by simp only; omega) _) (by simp only; omega) _
    · exact Below.setCell (p := ⟨w.heap.size + 1, 2, none⟩) (Below.setCell (p := ⟨w.heap.size + 1, 1, none⟩) (Below.setCell (p := ⟨w.heap.size + 1, 0, none⟩) (Below.setCell (p := ⟨w.heap.size + 1 + 1, 2, none⟩) (Below.setCell (p := ⟨w.heap.size + 1 + 1, 1, none⟩) (Below.setCell (p := ⟨w.heap.size + 1 + 1, 0, none⟩) HB1.out (by simp only; omega) _) (by simp only; omega) _) (by simp only; omega) _) (by simp only; omega) _) (by simp only; omega) _) (by simp only; omega) _
  clear HB1 HA1 HC1 HD1 HO1
  go_wp2
  revert HF
  generalize hwf : World.setCell _ _ _ = wf
  intro HF
  obtain ⟨k1, k2, k3⟩ := HF.out wf (by rw [← hwf])
  obtain ⟨y0, y1, y2⟩ := three k1
  refine bodyPost_ret (v := .agg #[.slice (some ⟨S, 0, none⟩) l.length l.length, .int .i64 f, .int .i64 t]) (by simp [results, Tryz.results21, go_sem, y0, y1, y2]) rfl ⟨⟨l, some ⟨S, 0, none⟩, l.length, f, t⟩, S, rfl, rfl, rfl, by have := HSZ.out; omega, k2, k3⟩

theorem infoT : (Tryz.prog.info? 48).map (fun i => (i.zero, i.size, i.bytes)) = some (some (.agg #[.slice none 0 0, .int .i64 0, .int .i64 0]), 3, 40) := by kernel_rfl
theorem step_set (d : List T) (n k : Nat) (q : T) (hd : d.length = k) (hk : k < n) : (d ++ List.replicate (n - k) t0).set k q = (d ++ [q]) ++ List.replicate (n - (k + 1)) t0 := by
  rw [List.set_append_right _ _ (by omega), hd, Nat.sub_self, show n - k = (n - (k + 1)) + 1 from by omega, List.replicate_succ, List.set_cons_zero, List.append_assoc]
  rfl
theorem getD_snoc (d : List T) (q : T) (i : Nat) : (d ++ [q]).getD i t0 = if i = d.length then q else d.getD i t0 := by
  rw [List.getD_eq_getElem?_getD, List.getD_eq_getElem?_getD]
  by_cases h : i < d.length
  · rw [List.getElem?_append_left h, if_neg (by omega)]
  · rw [List.getElem?_append_right (by omega)]
    by_cases e : i = d.length
    · rw [if_pos e, e, Nat.sub_self]; rfl
    · rw [if_neg e, List.getElem?_eq_none (by simp; omega), List.getElem?_eq_none (by omega)]
/-- The first k of a list of needs lie in memory of their own, behind B, one behind the other. -/
structure Owns (X B k : Nat) (d : List T) (w : World) : Prop where
  len : d.length = k
  own : ∀ i, i < k → Own1 X (blk (d.getD i t0).a) (d.getD i t0) w
  off : ∀ i, i < k → B < blk (d.getD i t0).a
  dis : ∀ i j, i < j → j < k → blk (d.getD i t0).a < blk (d.getD j t0).a
theorem Owns.nil {X B : Nat} {w : World} : Owns X B 0 [] w := ⟨rfl, fun i hi => by omega, fun i hi => by omega, fun i j h1 h2 => by omega⟩
theorem Owns.below {X B k : Nat} {d : List T} {w w' : World} (h : Owns X B k d w) (hb : Below w.heap.size w w') : Owns X B k d w' := ⟨h.len, fun i hi => (h.own i hi).below hb, h.off, h.dis⟩
theorem Owns.set {X B k : Nat} {d : List T} {w : World} (h : Owns X B k d w) (o : Nat) (v : Value) : Owns X B k d (w.setCell ⟨B, o, none⟩ v) :=
  ⟨h.len, fun i hi => (h.own i hi).set (p := ⟨B, o, none⟩) (Nat.ne_of_gt (h.off i hi)) v, h.off, h.dis⟩
theorem Owns.snoc {X B k : Nat} {d : List T} {w : World} {q : T} (h : Owns X B k d w) (h1 : Own1 X (blk q.a) q w) (h2 : B < blk q.a) (h3 : ∀ i, i < k → blk (d.getD i t0).a < blk q.a) : Owns X B (k + 1) (d ++ [q]) w := by
  have hl := h.len
  refine ⟨by simp [hl], fun i hi => ?_, fun i hi => ?_, fun i j hij hj => ?_⟩
  · rw [getD_snoc]
    by_cases e : i = d.length
    · rw [if_pos e]; exact h1
    · rw [if_neg e]; exact h.own i (by omega)
  · rw [getD_snoc]
    by_cases e : i = d.length
    · rw [if_pos e]; exact h2
    · rw [if_neg e]; exact h.off i (by omega)
  · rw [getD_snoc, getD_snoc, if_neg (show ¬ i = d.length by omega)]
    by_cases e : j = d.length
    · rw [if_pos e]; exact h3 i (by omega)
    · rw [if_neg e]; exact h.dis i j hij (by omega)
theorem Own1.at_blk {X ga : Nat} {q : T} {w : World} (h : Own1 X ga q w) : Own1 X (blk q.a) q w := by
  have e1 : blk q.a = ga := by rw [h.ha]; rfl
  rw [e1]; exact h
/-- A list of needs at block g, all of it in memory of its own from X on. -/
structure OwnT (X g n : Nat) (ts : List T) (w : World) : Prop where
  row : w.ownsRow X 48 3 (.slice (some ⟨g, 0, none⟩) n n) n (flat ts)
  kin : Owns X g n ts w
theorem OwnT.below {X g n : Nat} {ts : List T} {w w' : World} (h : OwnT X g n ts w) (hb : Below w.heap.size w w') : OwnT X g n ts w' := ⟨own_below h.row hb, h.kin.below hb⟩
theorem OwnT.has {X g n : Nat} {ts : List T} {w : World} (h : OwnT X g n ts w) : HasT w (some ⟨g, 0, none⟩) ts :=
  own_has h.row fun i hi => (h.kin.own i (by rw [← h.kin.len]; exact hi)).hasM
theorem OwnT.set {X g n : Nat} {ts : List T} {w : World} (h : OwnT X g n ts w) {p : Addr} (hp : p.block < g) (v : Value) : OwnT X g n ts (w.setCell p v) :=
  ⟨own_set h.row (Nat.ne_of_gt hp) v, ⟨h.kin.len, fun i hi => (h.kin.own i hi).set (by have := h.kin.off i hi; omega) v, h.kin.off, h.kin.dis⟩⟩
def SameTo (k : Nat) (ts d : List T) : Prop := ∀ i, i < k → pl (d.getD i t0) = pl (ts.getD i t0) ∧ (d.getD i t0).c = (d.getD i t0).l.length
theorem SameTo.snoc {k : Nat} {ts d : List T} {q : T} (h : SameTo k ts d) (hd : d.length = k) (h1 : pl q = pl (ts.getD k t0)) (h2 : q.c = q.l.length) : SameTo (k + 1) ts (d ++ [q]) := by
  intro i hi
  rw [getD_snoc]
  by_cases e : i = d.length
  · rw [if_pos e, e, hd]; exact ⟨h1, h2⟩
  · rw [if_neg e]; exact h i (by omega)

set_option maxHeartbeats 2000000 in
theorem f8 (a : Option Addr) (n c : Nat) (ts : List T) (w : World) (hn : ts.length = n) (hb : n ≤ 1048576) (hr : HasT w a ts) (hz : SmlT ts) :
    Calls Tryz.prog 8 #[.slice a n c] w fun e w' => ∃ ts' : List T, e = .returned (.slice (some ⟨w.heap.size, 0, none⟩) n n) ∧ SameTo n ts ts' ∧ OwnT w.heap.size w.heap.size n ts' w' ∧ Below w.heap.size w w' := by
  obtain ⟨i0, hi, hz0, hz1, hz2⟩ := info_parts infoT
  have HN := hid hn
  have HR := hid hr
  have HZ := hid hz
  clear hn hr hz
  go_enter Tryz.func8, Tryz.ntmps8
  go_wp2_with (at_make; refine wpList_make_full _ rfl _ _ 29 rfl w.heap.size 48 i0 (.agg #[.slice none 0 0, .int .i64 0, .int .i64 0]) 3 Tryz.underlying29 hi hz0 hz1 _ _ _ _ n rfl rfl rfl rfl ?b2 ?b3 (Nat.le_refl _) ?_)
  case b2 => rw [hz2]; omega
  case b3 => unfold maxLen; omega
  intro w0 hown0 hgrow0
  have hown1 : Hid (w0.ownsRow w.heap.size 48 3 (.slice (some ⟨w.heap.size, 0, none⟩) n n) n (flat (List.replicate n t0))) := by
    rw [← made_three]; exact hown0
  have hb0 := hid ((Below.refl w.heap.size w).grown hgrow0 (Nat.le_refl _) (fun k h => by cases h))
  clear hown0 hgrow0
  go_wp2
  go_loopw [4] (fun i wr => ∃ (k : Nat) (d : List T), k ≤ n ∧ i = .int .i64 k ∧ Hid (SameTo k ts d) ∧ Hid (Owns w.heap.size w.heap.size k d wr) ∧ Hid (wr.ownsRow w.heap.size 48 3 (.slice (some ⟨w.heap.size, 0, none⟩) n n) n (flat (d ++ List.replicate (n - k) t0))) ∧ Hid (Below w.heap.size w wr))
    (fun i _ => n - (intOf i).toNat)
  case atStart => exact ⟨0, [], Nat.zero_le _, rfl, fun i hi => by omega, Owns.nil, by unfold Hid; simpa using hown1.out, hb0.out⟩
  case round =>
    obtain ⟨k, d, hk, rfl, HSm, HD, HO, HX⟩ := hrel
    by_cases hlt : k < n
    · obtain ⟨b, off, rfl, hbl, hc, hT1⟩ := (HR.out).at2 k (by rw [HN.out]; exact hlt)
      obtain ⟨d0, d1, d2⟩ := hc.below HX.out hbl
      have HT1 := hid (hT1.below HX.out)
      have HS := hid (HZ.out k (by rw [HN.out]; exact hlt))
      obtain ⟨q, hq⟩ : ∃ q, q = ts.getD k t0 := ⟨_, rfl⟩
      have HQ := hid hq
      rw [← hq] at d0 d1 d2 HT1 HS
      clear hc hT1 hbl hq
      go_wp2_with fail
      refine (f21 q _ HT1.out HS.out).mono ?_
      rintro e w2 ⟨q', ga, rfl, hp, hc', hg, ho2, hb2⟩
      have HD2 := hid (HD.out.below hb2)
      have HO2 := hid (own_below HO.out hb2)
      have HX2 := hid (HX.out.trans (hb2.mono HX.out.size))
      have HT3 := hid ((ho2.base HX.out.size).at_blk)
      have HBa : Hid (blk q'.a = ga) := by unfold Hid; rw [ho2.ha]; rfl
      have HGB : Hid (w.heap.size < blk q'.a ∧ ∀ i, i < k → blk (d.getD i t0).a < blk q'.a) := by
        have h1 := (HO.out.lt w.heap.size rfl).2
        refine ⟨by rw [HBa.out]; omega, fun i hi => ?_⟩
        have h2 := (HD.out.own i hi).lts
        rw [HBa.out]; omega
      have HL : Hid ((d ++ List.replicate (n - k) t0).length = n) := by unfold Hid; have := HD.out.len; simp; omega
      have HSn := hid (HSm.out.snoc HD.out.len (hp.trans (by rw [← HQ.out])) hc')
      obtain ⟨y0, y1, y2⟩ := flat_get (d ++ List.replicate (n - k) t0) k (by rw [HL.out]; exact hlt)
      have z0 := (HO2.out.cellAt (k * 3) (by omega)).trans y0
      have z1 := (HO2.out.cellAt (k * 3 + 1) (by omega)).trans y1
      have z2 := (HO2.out.cellAt (k * 3 + 2) (by omega)).trans y2
      have f0 := HO2.out.frozenAt (k * 3)
      have f1 := HO2.out.frozenAt (k * 3 + 1)
      have f2 := HO2.out.frozenAt (k * 3 + 2)
      have HE : Hid (∀ wz, wz = ((w2.setCell ⟨w.heap.size, k * 3, none⟩ (.slice q'.a q'.l.length q'.c)).setCell ⟨w.heap.size, k * 3 + 1, none⟩ (.int .i64 q'.f)).setCell ⟨w.heap.size, k * 3 + 2, none⟩ (.int .i64 q'.t) → Owns w.heap.size w.heap.size (k + 1) (d ++ [q']) wz ∧ wz.ownsRow w.heap.size 48 3 (.slice (some ⟨w.heap.size, 0, none⟩) n n) n (flat ((d ++ [q']) ++ List.replicate (n - (k + 1)) t0)) ∧ Below w.heap.size w wz) := by
        rintro wz rfl
        have n1 : blk q'.a ≠ w.heap.size := Nat.ne_of_gt HGB.out.1
        refine ⟨(((HD2.out.set _ _).set _ _).set _ _).snoc (((HT3.out.set (p := ⟨w.heap.size, k * 3, none⟩) n1 _).set (p := ⟨w.heap.size, k * 3 + 1, none⟩) n1 _).set (p := ⟨w.heap.size, k * 3 + 2, none⟩) n1 _) HGB.out.1 HGB.out.2, ?_, ((HX2.out.setCell (Nat.le_refl _) _).setCell (Nat.le_refl _) _).setCell (Nat.le_refl _) _⟩
        rw [← step_set d n k _ HD2.out.len hlt, ← flat_set _ k _ (by rw [HL.out]; exact hlt)]
        exact (((HO2.out.stored (k * 3) _).1.stored (k * 3 + 1) _).1.stored (k * 3 + 2) _).1
      clear y0 y1 y2 hb2 hg ho2 hp hc' HO HT1 HO2 HD2 HX2 HT3 HX HD HSm HBa HGB d0 d1 d2
      go_wp2
      go_roundw
      case rel =>
        obtain ⟨e1, e2, e3⟩ := HE.out _ rfl
        exact ⟨k + 1, _, by omega, by go_num, HSn.out, e1, e2, e3⟩
      case measure => simp [intOf]; omega
    · obtain rfl : k = n := by omega
      have HE : Hid (OwnT w.heap.size w.heap.size k d wr) := by
        have h := HO.out
        rw [Nat.sub_self, List.replicate_zero, List.append_nil] at h
        exact ⟨h, HD.out⟩
      go_wp2
      go_ret
      exact ⟨d, rfl, HSm.out, HE.out, HX.out⟩

set_option maxHeartbeats 1000000 in
theorem f28 (q q' : T) (w : World) (hp : pl q' = pl q) (n1 : q.l.length ≤ 1048576) (hl : HasM w q.a q.l) (hl' : HasM w q'.a q'.l) :
    Calls Tryz.prog 28 #[agT q, agT q'] w fun e w' => e = .returned (.bool true) ∧ Below w.heap.size w w' := by
  obtain ⟨l, a, c, f, t⟩ := q
  obtain ⟨l', a', c', f', t'⟩ := q'
  simp only [pl, Prod.mk.injEq] at hp
  obtain ⟨rfl, rfl, rfl⟩ := hp
  simp only at n1 hl hl'
  obtain ⟨W, hW⟩ : ∃ W, W = (w.alloc (.cells #[.slice a l'.length c, .int .i64 f', .int .i64 t'] 48)).alloc (.cells #[.slice a' l'.length c', .int .i64 f', .int .i64 t'] 48) := ⟨_, rfl⟩
  have HWb : Hid (Below w.heap.size w W ∧ W.heap[w.heap.size]? = some (.cells #[.slice a l'.length c, .int .i64 f', .int .i64 t'] 48) ∧ W.heap[w.heap.size + 1]? = some (.cells #[.slice a' l'.length c', .int .i64 f', .int .i64 t'] 48)) := by
    subst hW
    have h2 := heap_alloc_new (w.alloc (.cells #[.slice a l'.length c, .int .i64 f', .int .i64 t'] 48)) (.cells #[.slice a' l'.length c', .int .i64 f', .int .i64 t'] 48)
    simp only [World.size_alloc] at h2
    exact ⟨((Below.refl w.heap.size w).alloc (Nat.le_refl _) _).alloc (by simp) _, (Below.heap_alloc _ _ w.heap.size (by simp)).trans (heap_alloc_new w _), h2⟩
  have HL := hid (hl.below HWb.out.1)
  have HL' := hid (hl'.below HWb.out.1)
  have hf : (f' != f') = false := by simp
  have ht : (t' != t') = false := by simp
  clear hl hl'
  simp only [agT]
  go_enter Tryz.func28, Tryz.ntmps28
  go_wp2_with fail
  rw [← hW]
  refine (Pat.f59 a a' l'.length c c' l' _ rfl n1 HL.out HL'.out).mono ?_
  rintro e w1 ⟨rfl, hb1⟩
  have HB1 := hid (HWb.out.1.trans (hb1.mono HWb.out.1.size))
  obtain ⟨b0, b1, b2⟩ := three (kept HWb.out.2.1 hb1)
  obtain ⟨c0, c1, c2⟩ := three (kept HWb.out.2.2 hb1)
  clear hb1 HL HL' HWb hW
  go_wp2
  go_ret
  exact ⟨rfl, HB1.out⟩
/-- Two needs' cells, and what they hold; all that was there is as it was. -/
abbrev EE (w : World) (q q' : T) (b o b' o' : Nat) (x : World) : Prop :=
  x.cell? ⟨b, o, none⟩ = some (.slice q.a q.l.length q.c) ∧ x.cell? ⟨b, o + 1, none⟩ = some (.int .i64 q.f) ∧ x.cell? ⟨b, o + 2, none⟩ = some (.int .i64 q.t) ∧
  x.cell? ⟨b', o', none⟩ = some (.slice q'.a q'.l.length q'.c) ∧ x.cell? ⟨b', o' + 1, none⟩ = some (.int .i64 q'.f) ∧ x.cell? ⟨b', o' + 2, none⟩ = some (.int .i64 q'.t) ∧
  HasM x q.a q.l ∧ HasM x q'.a q'.l ∧ b < x.heap.size ∧ b' < x.heap.size ∧ Below w.heap.size w x
theorem EE.below {w : World} {q q' : T} {b o b' o' : Nat} {x y : World} (h : EE w q q' b o b' o' x) (hb : Below x.heap.size x y) : EE w q q' b o b' o' y := by
  obtain ⟨h0, h1, h2, k0, k1, k2, t1, t3, l1, l2, hw⟩ := h
  have e1 : ∀ j, y.cell? ⟨b, j, none⟩ = x.cell? ⟨b, j, none⟩ := fun j => hb.cell (by exact l1)
  have e2 : ∀ j, y.cell? ⟨b', j, none⟩ = x.cell? ⟨b', j, none⟩ := fun j => hb.cell (by exact l2)
  exact ⟨(e1 _).trans h0, (e1 _).trans h1, (e1 _).trans h2, (e2 _).trans k0, (e2 _).trans k1, (e2 _).trans k2, t1.below hb, t3.below hb, Nat.lt_of_lt_of_le l1 hb.size, Nat.lt_of_lt_of_le l2 hb.size, hw.trans (hb.mono hw.size)⟩
theorem EE.drew {w : World} {q q' : T} {b o b' o' : Nat} {x : World} (h : EE w q q' b o b' o' x) : EE w q q' b o b' o' x.drew := h.below (Below.refl _ x).drew
theorem EE.t1 {w : World} {q q' : T} {b o b' o' : Nat} {x : World} (h : EE w q q' b o b' o' x) : HasM x q.a q.l := h.2.2.2.2.2.2.1
theorem EE.t3 {w : World} {q q' : T} {b o b' o' : Nat} {x : World} (h : EE w q q' b o b' o' x) : HasM x q'.a q'.l := h.2.2.2.2.2.2.2.1
theorem EE.bel {w : World} {q q' : T} {b o b' o' : Nat} {x : World} (h : EE w q q' b o b' o' x) : Below w.heap.size w x := h.2.2.2.2.2.2.2.2.2.2
set_option maxHeartbeats 2000000 in
theorem f11 (a a' : Option Addr) (n c c' : Nat) (ts ts' : List T) (w : World) (hn : ts.length = n) (hn' : ts'.length = n) (hb : n ≤ 1048576) (hr : HasT w a ts) (hr' : HasT w a' ts') (hs : Same n ts ts') (hz : SmlT ts) :
    Calls Tryz.prog 11 #[.slice a n c, .slice a' n c'] w fun e w' => e = .returned (.bool true) ∧ Below w.heap.size w w' := by
  have HN := hid hn
  have HN' := hid hn'
  have HR := hid hr
  have HR' := hid hr'
  have HS := hid hs
  have HZ := hid hz
  clear hn hn' hr hr' hs hz
  go_enter Tryz.func11, Tryz.ntmps11
  go_wp2
  go_loopw [5] (fun i wr => ∃ k : Nat, k ≤ n ∧ i = .int .i64 k ∧ Hid (Below w.heap.size w wr)) (fun i _ => n - (intOf i).toNat)
  case atStart => exact ⟨0, Nat.zero_le _, rfl, Below.refl _ _⟩
  case round =>
    obtain ⟨k, hk, rfl, HX⟩ := hrel
    by_cases hlt : k < n
    · obtain ⟨b, off, rfl, hbl, hc, t1⟩ := (HR.out.below HX.out).at2 k (by rw [HN.out]; exact hlt)
      obtain ⟨b', off', rfl, hbl', hc', t1'⟩ := (HR'.out.below HX.out).at2 k (by rw [HN'.out]; exact hlt)
      have HP := hid (HS.out k hlt)
      have HL := hid (HZ.out k (by rw [HN.out]; exact hlt))
      generalize ts.getD k t0 = q at *
      generalize ts'.getD k t0 = q' at *
      have HE : Hid (EE w q q' b (off + k * 3) b' (off' + k * 3) wr) := ⟨hc.1, hc.2.1, hc.2.2, hc'.1, hc'.2.1, hc'.2.2, t1, t1', hbl, hbl', HX.out⟩
      clear hc hc' t1 t1' hbl hbl'
      have i1 : (k : Int) < (n : Int) := by omega
      go_wp2_with fail
      go_region_held3 (fun x => EE w q q' b (off + k * 3) b' (off' + k * 3) x) (first | exact HE.out.drew | assumption) (first | (go_at_call 28; refine (f28 q q' _ HP.out HL.out (EE.t1 (by assumption)) (EE.t3 (by assumption))).mono ?_; rintro e w2 ⟨rfl, hb2⟩; have hs2 := EE.below (by assumption) hb2; clear hb2))
      have HX2 := hid hs2.bel
      clear hs2
      go_wp2
      go_roundw
      case rel => exact ⟨k + 1, by omega, by go_num, HX2.out⟩
      case measure => simp [intOf]; omega
    · go_wp2
      go_ret
      exact ⟨rfl, HX.out⟩
end Go.Proofs.YtaekngadfajcaaaGreat.Ned
