/- Puts: memory's small facts, lists of puts as they lie in memory, szPutS. -/
import Derived.Test.YtjjdfenbfjcmaaaGi
import Derived.Test.YtjjdfenbfjcmaaaMl
import Derived.Test.YtjjdfenbfjcmaaaMh
import Derived.BigQuiet
import Derived.Deep.QuietTactic
import Derived.Deep.RegionHeld3
namespace Go.Proofs.Ytjjdfenbfjcmaaa.Ptn
open Go.RowKit
open Go.Proofs.Ytjjdfenbfjcmaaa.Lab (Lb HasL)

theorem hid {p : Prop} (h : p) : Hid p := h
theorem lt_at {x : World} {b : Nat} {o : Obj} (h : x.heap[b]? = some o) : b < x.heap.size := (Array.getElem?_eq_some_iff.1 h).1
theorem kept {x y : World} {b : Nat} {o : Obj} (h : x.heap[b]? = some o) (hb : Below x.heap.size x y) : y.heap[b]? = some o := (hb.block b (lt_at h)).trans h
/-- A number of the machine. -/
def In64 (x : Int) : Prop := -9223372036854775808 ≤ x ∧ x ≤ 9223372036854775807
theorem own_base {w : World} {base base' e size n : Nat} {v : Value} {xs : List Value} (h : w.ownsRow base e size v n xs) (hb : base' ≤ base) : w.ownsRow base' e size v n xs := by
  refine ⟨h.1, ?_⟩
  rcases h.2 with h2 | ⟨g, cap, cur, h1, h2, h3⟩
  · exact .inl h2
  · exact .inr ⟨g, cap, cur, h1, by omega, h3⟩
theorem own_set {w : World} {base e size n c g : Nat} {xs : List Value} {p : Addr} (h : w.ownsRow base e size (.slice (some ⟨g, 0, none⟩) n c) n xs) (hp : g ≠ p.block) (u : Value) : (w.setCell p u).ownsRow base e size (.slice (some ⟨g, 0, none⟩) n c) n xs := by
  refine h.kept (row := some p.block) ⟨rfl, rfl, rfl, by simp, fun j hj hne => Below.heap_setCell w p u j (fun e => hne (by rw [e]))⟩ (.inr ?_)
  intro e
  exact hp (Option.some.inj e)
theorem own_below {w w' : World} {base e size n : Nat} {v : Value} {xs : List Value} (h : w.ownsRow base e size v n xs) (hb : Below w.heap.size w w') : w'.ownsRow base e size v n xs := Lab.own_below h hb
theorem set_at {x : World} {b i : Nat} {cs : Array Value} {t : TypeId} {v : Value} (h : x.heap[b]? = some (.cells cs t)) : (x.setCell ⟨b, i, none⟩ v).heap[b]? = some (.cells (cs.setIfInBounds i v) t) := by
  have hlt := lt_at h
  have h' : x.heap[b] = .cells cs t := by simpa [Array.getElem?_eq_getElem hlt] using h
  show (x.heap.modify b _)[b]? = _
  rw [Array.getElem?_eq_getElem (by simpa using hlt), Array.getElem_modify_self, h']
  rfl
theorem set_else {x : World} {b : Nat} {p : Addr} {o : Obj} {v : Value} (h : x.heap[b]? = some o) (hp : b ≠ p.block) : (x.setCell p v).heap[b]? = some o := (Below.heap_setCell x p v b hp).trans h
theorem three_new (w : World) (o1 o2 o3 : Obj) : (((w.alloc o1).alloc o2).alloc o3).heap[w.heap.size]? = some o1 ∧ (((w.alloc o1).alloc o2).alloc o3).heap[w.heap.size + 1]? = some o2 ∧ (((w.alloc o1).alloc o2).alloc o3).heap[w.heap.size + 1 + 1]? = some o3 := by
  have h1 := heap_alloc_new w o1
  have h2 := heap_alloc_new (w.alloc o1) o2
  have h3 := heap_alloc_new ((w.alloc o1).alloc o2) o3
  simp only [World.size_alloc] at h2 h3
  have e1 := (Below.heap_alloc (w.alloc o1) o2 w.heap.size (by simp)).trans h1
  have e2 := (Below.heap_alloc ((w.alloc o1).alloc o2) o3 w.heap.size (by simp; omega)).trans e1
  exact ⟨e2, (Below.heap_alloc ((w.alloc o1).alloc o2) o3 (w.heap.size + 1) (by simp)).trans h2, h3⟩
def blk (a : Option Addr) : Nat := match a with
  | some x => x.block
  | none => 0
theorem own_grown {w x : World} {base e size n c g r : Nat} {xs : List Value} (h : w.ownsRow base e size (.slice (some ⟨g, 0, none⟩) n c) n xs) (hg : w.grownBy x (some r)) (hne : g ≠ r) : x.ownsRow base e size (.slice (some ⟨g, 0, none⟩) n c) n xs :=
  h.kept hg (.inr (fun e => hne (Option.some.inj e)))
set_option maxHeartbeats 1000000 in
theorem f47t (s t : ByteArray) (x : Int) (w : World) (hs : s.size ≤ maxLen) (ht : t.size ≤ maxLen) (hx0 : 0 ≤ x) (hx1 : x ≤ 1048576) :
    Calls Try.prog 47 #[.agg #[.string s, .string t], .int .i64 x] w fun e w' => ∃ y : Int, e = .returned (.int .i64 y) ∧ -1 ≤ y ∧ y ≤ x ∧ Below w.heap.size w w' := by
  unfold maxLen at hs ht
  have HB := hid ((Below.refl w.heap.size w).alloc (Nat.le_refl _) (.cells #[.string s, .string t] 68))
  by_cases h1 : x < s.size
  · go_enter Try.func47, Try.ntmps47
    go_wp2
    go_ret
    exact ⟨-1, rfl, by omega, by omega, HB.out⟩
  · by_cases h2 : x < s.size + t.size
    · go_enter Try.func47, Try.ntmps47
      go_wp2
      go_ret
      exact ⟨-1, rfl, by omega, by omega, HB.out⟩
    · go_enter Try.func47, Try.ntmps47
      go_wp2
      go_ret
      exact ⟨_, rfl, by omega, by omega, HB.out⟩

set_option maxHeartbeats 1000000 in
theorem f29t (a : Option Addr) (n c : Nat) (L : Int) (ls : List Lb) (w : World) (hL0 : 0 ≤ L) (hL1 : L ≤ 1048576) (hn : ls.length = n) (hr : HasL w a ls) (hf : Lab.Fit ls) (hmax : n ≤ maxLen) :
    Calls Try.prog 29 #[.slice a n c, .int .i64 L] w fun e w' => ∃ y : Int, e = .returned (.int .i64 y) ∧ -1 ≤ y ∧ y ≤ L ∧ (0 ≤ y → n + y ≤ L) ∧ Below w.heap.size w w' := by
  unfold maxLen at hmax
  by_cases hbig : n ≤ L
  · have HN := hid hn
    clear hn
    go_enter Try.func29, Try.ntmps29
    go_wp2
    go_loopw [1, 5] (fun sx i wr => ∃ (k : Nat) (x : Int), k ≤ n ∧ i = .int .i64 k ∧ sx = .int .i64 x ∧ 0 ≤ x ∧ n + x ≤ L ∧ Below w.heap.size w wr) (fun _ i _ => n - (intOf i).toNat)
    case atStart => exact ⟨0, _, Nat.zero_le _, rfl, rfl, by omega, by omega, Below.refl _ _⟩
    case round =>
      obtain ⟨k, x, hk, rfl, rfl, hx0, hx1, hb⟩ := hrel
      have HB := hid hb
      by_cases hlt : k < n
      · rcases hr with h | ⟨b, off, rfl, h2, h3⟩
        · exfalso; rw [h] at HN; have := HN.out; simp at this; omega
        obtain ⟨c0, c1⟩ := h3 k (by rw [HN.out]; exact hlt)
        obtain ⟨g0, g1⟩ := hf k
        have d0 := (hb.cell (p := ⟨b, off + k * 2, none⟩) h2).trans c0
        have d1 := (hb.cell (p := ⟨b, off + k * 2 + 1, none⟩) h2).trans c1
        clear h3 c0 c1 hb
        generalize (ls.getD k Lab.e0).1 = s at *
        generalize (ls.getD k Lab.e0).2 = t at *
        go_wp2_with fail
        refine (f47t s t x _ g0 g1 hx0 (by omega)).mono ?_
        rintro e w2 ⟨y, rfl, y0, y1, hb2⟩
        have HB2 := hid (HB.out.trans (hb2.mono HB.out.size))
        clear hb2 d0 d1
        by_cases hy : y < 0
        · go_wp2
          go_ret
          exact ⟨-1, rfl, by omega, by omega, fun h => absurd h (by omega), HB2.out⟩
        · go_wp2
          go_roundw
          case rel => exact ⟨k + 1, y, by omega, by go_num, rfl, by omega, by omega, HB2.out⟩
          case measure => simp [intOf]; omega
      · go_wp2
        go_ret
        exact ⟨x, rfl, by omega, by omega, fun _ => by omega, HB.out⟩
  · go_enter Try.func29, Try.ntmps29
    go_wp2
    go_ret
    exact ⟨-1, rfl, by omega, by omega, by omega, Below.refl _ _⟩

/-- A put as it lies in memory. -/
structure T where
  l : List Lb
  a : Option Addr
  c : Nat
  f : Int
  t : Int
def t0 : T := ⟨[], none, 0, 0, 0⟩
instance : Inhabited T := ⟨t0⟩
/-- What a put is, wherever it lies. -/
abbrev Pl := List Lb × Int × Int
def pl (q : T) : Pl := (q.l, q.f, q.t)
def cl (q : T) : List Value := [.slice q.a q.l.length q.c, .int .i64 q.f, .int .i64 q.t]
abbrev agT (q : T) : Value := .agg #[.slice q.a q.l.length q.c, .int .i64 q.f, .int .i64 q.t]
def flat (L : List T) : List Value := L.flatMap cl
theorem flat_cons (q : T) (L : List T) : flat (q :: L) = cl q ++ flat L := rfl
theorem flat_append (L K : List T) : flat (L ++ K) = flat L ++ flat K := by simp [flat]
theorem flat_len (L : List T) : (flat L).length = L.length * 3 := by
  induction L with
  | nil => rfl
  | cons q L ih => rw [flat_cons, List.length_append, ih, show (cl q).length = 3 from rfl, List.length_cons]; omega
theorem flat_get : ∀ (L : List T) (i : Nat), i < L.length → (flat L)[i * 3]? = some (.slice (L.getD i t0).a (L.getD i t0).l.length (L.getD i t0).c) ∧ (flat L)[i * 3 + 1]? = some (.int .i64 (L.getD i t0).f) ∧ (flat L)[i * 3 + 2]? = some (.int .i64 (L.getD i t0).t) := by
  intro L
  induction L with
  | nil => intro i h; simp at h
  | cons p L ih =>
    intro i h
    cases i with
    | zero => exact ⟨rfl, rfl, rfl⟩
    | succ i =>
      have := ih i (by simpa using h)
      rw [flat_cons]
      refine ⟨?_, ?_, ?_⟩
      · rw [show (i + 1) * 3 = i * 3 + 1 + 1 + 1 by omega]; simpa [cl] using this.1
      · rw [show (i + 1) * 3 + 1 = i * 3 + 1 + 1 + 1 + 1 by omega]; simpa [cl] using this.2.1
      · rw [show (i + 1) * 3 + 2 = i * 3 + 2 + 1 + 1 + 1 by omega]; simpa [cl] using this.2.2
theorem flat_set : ∀ (L : List T) (i : Nat) (q : T), i < L.length → (((flat L).set (i * 3) (.slice q.a q.l.length q.c)).set (i * 3 + 1) (.int .i64 q.f)).set (i * 3 + 2) (.int .i64 q.t) = flat (L.set i q) := by
  intro L
  induction L with
  | nil => intro i q h; simp at h
  | cons p L ih =>
    intro i q h
    cases i with
    | zero => rfl
    | succ i =>
      have := ih i q (by simpa using h)
      rw [flat_cons, List.set_cons_succ, flat_cons, ← this]
      rw [show (i + 1) * 3 = i * 3 + 1 + 1 + 1 by omega]
      simp [cl]
theorem made_three (n : Nat) : (madeCells #[.slice none 0 0, .int .i64 0, .int .i64 0] (n * 3)).toList = flat (List.replicate n t0) := by
  apply List.ext_getElem?
  intro j
  by_cases hj : j < n * 3
  · have hl : j / 3 < (List.replicate n t0).length := by simp; omega
    have h2 : (List.replicate n t0).getD (j / 3) t0 = t0 := by
      rw [List.getD_eq_getElem?_getD, List.getElem?_replicate]; split <;> rfl
    obtain ⟨g0, g1, g2⟩ := flat_get _ _ hl
    rw [h2] at g0 g1 g2
    unfold madeCells
    rcases (show j % 3 = 0 ∨ j % 3 = 1 ∨ j % 3 = 2 by omega) with h | h | h
    · rw [show j = j / 3 * 3 by omega] at hj ⊢
      rw [g0]
      simp [hj]
      exact ⟨rfl, rfl, rfl⟩
    · rw [show j = j / 3 * 3 + 1 by omega] at hj ⊢
      rw [g1]
      simp [hj, Nat.add_mod]
      rfl
    · rw [show j = j / 3 * 3 + 2 by omega] at hj ⊢
      rw [g2]
      simp [hj, Nat.add_mod]
      rfl
  · rw [List.getElem?_eq_none (by simp [size_madeCells]; omega), List.getElem?_eq_none (by rw [flat_len]; simp; omega)]

/-- The cells of a put. -/
def Cells (w : World) (b o : Nat) (q : T) : Prop := w.cell? ⟨b, o, none⟩ = some (.slice q.a q.l.length q.c) ∧ w.cell? ⟨b, o + 1, none⟩ = some (.int .i64 q.f) ∧ w.cell? ⟨b, o + 2, none⟩ = some (.int .i64 q.t)
theorem Cells.below {w w' : World} {b o : Nat} {q : T} (h : Cells w b o q) (hb : Below w.heap.size w w') (hl : b < w.heap.size) : Cells w' b o q :=
  ⟨(hb.cell (by exact hl)).trans h.1, (hb.cell (by exact hl)).trans h.2.1, (hb.cell (by exact hl)).trans h.2.2⟩
/-- The slice that begins at 'a' holds the puts 'ts' in the world 'w'. -/
def HasT (w : World) (a : Option Addr) (ts : List T) : Prop :=
  ts = [] ∨ ∃ b off, a = some ⟨b, off, none⟩ ∧ b < w.heap.size ∧ ∀ i, i < ts.length → Cells w b (off + i * 3) (ts.getD i t0) ∧ HasL w (ts.getD i t0).a (ts.getD i t0).l
theorem HasT.below {w w' : World} {a : Option Addr} {ts : List T} (h : HasT w a ts) (hb : Below w.heap.size w w') : HasT w' a ts := by
  rcases h with h | ⟨b, off, h1, h2, h3⟩
  · exact .inl h
  · exact .inr ⟨b, off, h1, Nat.lt_of_lt_of_le h2 hb.size, fun i hi => ⟨(h3 i hi).1.below hb h2, (h3 i hi).2.below hb⟩⟩
theorem HasT.alloc {w : World} {a : Option Addr} {ts : List T} (h : HasT w a ts) (o : Obj) : HasT (w.alloc o) a ts := h.below ((Below.refl _ _).alloc (Nat.le_refl _) o)
theorem HasT.nil {w : World} {a : Option Addr} : HasT w a [] := .inl rfl
theorem HasT.at2 {w : World} {a : Option Addr} {ts : List T} (h : HasT w a ts) (i : Nat) (hi : i < ts.length) : ∃ b off, a = some ⟨b, off, none⟩ ∧ b < w.heap.size ∧ Cells w b (off + i * 3) (ts.getD i t0) ∧ HasL w (ts.getD i t0).a (ts.getD i t0).l := by
  rcases h with h | ⟨b, off, h1, h2, h3⟩
  · rw [h] at hi; simp at hi
  · exact ⟨b, off, h1, h2, h3 i hi⟩
/-- All texts and numbers are such as a machine can hold. -/
def Ft (q : T) : Prop := Lab.Fit q.l ∧ q.l.length ≤ maxLen ∧ In64 q.f ∧ In64 q.t
def FitT (ts : List T) : Prop := ∀ i, Ft (ts.getD i t0)
theorem fit_t0 : Ft t0 := ⟨fun i => by simp [t0, Lab.e0, maxLen], Nat.zero_le _, by simp [t0, In64], by simp [t0, In64]⟩
/-- How many labels the first k puts have. -/
def tot (ts : List T) : Nat → Nat
  | 0 => 0
  | k + 1 => tot ts k + (ts.getD k t0).l.length
def SmlT (ts : List T) : Prop := ∀ i, i < ts.length → (ts.getD i t0).l.length ≤ 1048576
theorem tot_mono (ts : List T) : ∀ (k j : Nat), j ≤ k → tot ts j ≤ tot ts k := by
  intro k
  induction k with
  | zero => intro j h; rw [show j = 0 by omega]; exact Nat.le_refl _
  | succ k ih =>
    intro j h
    by_cases e : j = k + 1
    · rw [e]; exact Nat.le_refl _
    · have := ih j (by omega)
      simp only [tot]; omega
theorem sml_tot {ts : List T} (h : tot ts ts.length ≤ 1048576) : SmlT ts := by
  intro i hi
  have := tot_mono ts ts.length (i + 1) hi
  simp only [tot] at this
  omega
theorem own_has {w : World} {base g n c E : Nat} {ts : List T} (h : w.ownsRow base E 3 (.slice (some ⟨g, 0, none⟩) n c) n (flat ts)) (hT : ∀ i, i < ts.length → HasL w (ts.getD i t0).a (ts.getD i t0).l) : HasT w (some ⟨g, 0, none⟩) ts := by
  have hl := h.1
  rw [flat_len] at hl
  refine .inr ⟨g, 0, rfl, (h.lt g rfl).2, fun i hi => ?_⟩
  obtain ⟨y0, y1, y2⟩ := flat_get ts i hi
  rw [Nat.zero_add]
  exact ⟨⟨(h.cellAt (i * 3) (by omega)).trans y0, (h.cellAt (i * 3 + 1) (by omega)).trans y1, (h.cellAt (i * 3 + 2) (by omega)).trans y2⟩, hT i hi⟩
/-- Two lists of puts say the same. -/
def Same (n : Nat) (ts ts' : List T) : Prop := ∀ i, i < n → pl (ts'.getD i t0) = pl (ts.getD i t0)
theorem three {x : World} {b : Nat} {v0 v1 v2 : Value} {t : TypeId} (h : x.heap[b]? = some (.cells #[v0, v1, v2] t)) : x.cell? ⟨b, 0, none⟩ = some v0 ∧ x.cell? ⟨b, 1, none⟩ = some v1 ∧ x.cell? ⟨b, 2, none⟩ = some v2 := by
  refine ⟨?_, ?_, ?_⟩ <;> simp [World.cell?, h]
theorem three_frz {x : World} {b o : Nat} {v0 v1 v2 : Value} {t : TypeId} (h : x.heap[b]? = some (.cells #[v0, v1, v2] t)) : x.frozen? ⟨b, o, none⟩ = false := by
  simp [World.frozen?, h]

set_option maxHeartbeats 1000000 in
theorem f18 (q : T) (L : Int) (w : World) (hL0 : 0 ≤ L) (hL1 : L ≤ 1048576) (hr : HasL w q.a q.l) (hf : Ft q) :
    Calls Try.prog 18 #[agT q, .int .i64 L] w fun e w' => ∃ y : Int, e = .returned (.int .i64 y) ∧ -1 ≤ y ∧ y ≤ L ∧ (0 ≤ y → q.l.length + y ≤ L) ∧ Below w.heap.size w w' := by
  obtain ⟨l, a, c, f, t⟩ := q
  obtain ⟨f1, f2, -, -⟩ := hf
  simp only at f1 f2 hr
  have HR := hid hr
  have F1 := hid f1
  have F2 := hid f2
  have HB0 := hid ((Below.refl w.heap.size w).alloc (Nat.le_refl _) (.cells #[.slice a l.length c, .int .i64 f, .int .i64 t] 43))
  clear hr f1 f2
  simp only [agT]
  go_enter Try.func18, Try.ntmps18
  go_wp2_with fail
  refine (f29t a l.length c L l _ hL0 hL1 rfl (HR.out.below HB0.out) F1.out F2.out).mono ?_
  rintro e w1 ⟨y, rfl, y0, y1, hy, hb1⟩
  have HB1 := hid (HB0.out.trans (hb1.mono HB0.out.size))
  have HY := hid hy
  clear hb1 hy
  by_cases g0 : y < 0
  · go_wp2
    go_ret
    exact ⟨-1, rfl, by omega, by omega, fun h => absurd h (by omega), HB1.out⟩
  · go_wp2
    go_ret
    exact ⟨y, rfl, by omega, by omega, HY.out, HB1.out⟩

set_option maxHeartbeats 1000000 in
theorem f8 (a : Option Addr) (n c : Nat) (L : Int) (ts : List T) (w : World) (hL0 : 0 ≤ L) (hL1 : L ≤ 1048576) (hn : ts.length = n) (hr : HasT w a ts) (hf : FitT ts) (hmax : n ≤ maxLen) :
    Calls Try.prog 8 #[.slice a n c, .int .i64 L] w fun e w' => ∃ y : Int, e = .returned (.int .i64 y) ∧ -1 ≤ y ∧ y ≤ L ∧ (0 ≤ y → n + tot ts n + y ≤ L) ∧ Below w.heap.size w w' := by
  unfold maxLen at hmax
  by_cases hbig : n ≤ L
  · have HN := hid hn
    have HR := hid hr
    have HF := hid hf
    clear hn hr hf
    go_enter Try.func8, Try.ntmps8
    go_wp2
    go_loopw [1, 5] (fun sx i wr => ∃ (k : Nat) (x : Int), k ≤ n ∧ i = .int .i64 k ∧ sx = .int .i64 x ∧ 0 ≤ x ∧ n + tot ts k + x ≤ L ∧ Hid (Below w.heap.size w wr)) (fun _ i _ => n - (intOf i).toNat)
    case atStart => exact ⟨0, _, Nat.zero_le _, rfl, rfl, by omega, by simp only [tot]; omega, Below.refl _ _⟩
    case round =>
      obtain ⟨k, x, hk, rfl, rfl, hx0, hx1, HB⟩ := hrel
      by_cases hlt : k < n
      · obtain ⟨b, off, rfl, hbl, hc, hl⟩ := (HR.out).at2 k (by rw [HN.out]; exact hlt)
        obtain ⟨d0, d1, d2⟩ := hc.below HB.out hbl
        have HL := hid (hl.below HB.out)
        have G := hid (HF.out k)
        have HT : Hid (tot ts (k + 1) = tot ts k + (ts.getD k t0).l.length) := rfl
        clear hc hl hbl
        generalize ts.getD k t0 = q at *
        go_wp2_with fail
        refine (f18 q x _ hx0 (by omega) HL.out G.out).mono ?_
        rintro e w2 ⟨y, rfl, y0, y1, hy, hb2⟩
        have HB2 := hid (HB.out.trans (hb2.mono HB.out.size))
        clear hb2 d0 d1 d2 HB
        by_cases hy0 : y < 0
        · go_wp2
          go_ret
          exact ⟨-1, rfl, by omega, by omega, fun h => absurd h (by omega), HB2.out⟩
        · have hy' := hid (hy (by omega))
          clear hy
          go_wp2
          go_roundw
          case rel => exact ⟨k + 1, y, by omega, by go_num, rfl, by omega, by rw [HT.out]; have := hy'.out; omega, HB2.out⟩
          case measure => simp [intOf]; omega
      · obtain rfl : k = n := by omega
        go_wp2
        go_ret
        exact ⟨x, rfl, by omega, by omega, fun _ => by omega, HB.out⟩
  · go_enter Try.func8, Try.ntmps8
    go_wp2
    go_ret
    exact ⟨-1, rfl, by omega, by omega, by omega, Below.refl _ _⟩
end Go.Proofs.Ytjjdfenbfjcmaaa.Ptn
