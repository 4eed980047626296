/- Lists of series: how they lie in memory. -/
import Derived.Test.YtaekngadfajcaaaGreatRTc
import Derived.Test.YtaekngadfajcaaaGreatRTb
import Derived.Test.YtaekngadfajcaaaGreatRVo
import Derived.Test.YtaekngadfajcaaaGreatROpl
namespace Go.Proofs.YtaekngadfajcaaaGreat.Srs
open Go.RowKit
open Go.Proofs.YtaekngadfajcaaaGreat.Lab (Lb HasL)
open Go.Proofs.YtaekngadfajcaaaGreat.Smp (Sm HasS)

theorem hid {p : Prop} (h : p) : Hid p := h
theorem lt_at {x : World} {b : Nat} {o : Obj} (h : x.heap[b]? = some o) : b < x.heap.size := (Array.getElem?_eq_some_iff.1 h).1
theorem kept {x y : World} {b : Nat} {o : Obj} (h : x.heap[b]? = some o) (hb : Below x.heap.size x y) : y.heap[b]? = some o := (hb.block b (lt_at h)).trans h
theorem two {x : World} {b : Nat} {v0 v1 : Value} {t : TypeId} (h : x.heap[b]? = some (.cells #[v0, v1] t)) : x.cell? ⟨b, 0, none⟩ = some v0 ∧ x.cell? ⟨b, 1, none⟩ = some v1 := by
  refine ⟨?_, ?_⟩ <;> simp [World.cell?, h]
/-- A series as it lies in memory: its labels and samples, and where they lie. -/
structure Q where
  l : List Lb
  a : Option Addr
  c : Nat
  s : List Sm
  b : Option Addr
  d : Nat
def q0 : Q := ⟨[], none, 0, [], none, 0⟩
instance : Inhabited Q := ⟨q0⟩
/-- What a series is, wherever it lies. -/
abbrev Pl := List Lb × List Sm
def pl (q : Q) : Pl := (q.l, q.s)
def p0 : Pl := ([], [])
def cl (q : Q) : List Value := [.slice q.a q.l.length q.c, .slice q.b q.s.length q.d]
abbrev agQ (q : Q) : Value := .agg #[.slice q.a q.l.length q.c, .slice q.b q.s.length q.d]
def flat (L : List Q) : List Value := L.flatMap cl
theorem flat_cons (q : Q) (L : List Q) : flat (q :: L) = cl q ++ flat L := rfl
theorem flat_append (L K : List Q) : flat (L ++ K) = flat L ++ flat K := by simp [flat]
theorem flat_len (L : List Q) : (flat L).length = L.length * 2 := by
  induction L with
  | nil => rfl
  | cons q L ih => rw [flat_cons, List.length_append, ih, show (cl q).length = 2 from rfl, List.length_cons]; omega
theorem flat_get : ∀ (L : List Q) (i : Nat), i < L.length → (flat L)[i * 2]? = some (.slice (L.getD i q0).a (L.getD i q0).l.length (L.getD i q0).c) ∧ (flat L)[i * 2 + 1]? = some (.slice (L.getD i q0).b (L.getD i q0).s.length (L.getD i q0).d) := by
  intro L
  induction L with
  | nil => intro i h; simp at h
  | cons p L ih =>
    intro i h
    cases i with
    | zero => exact ⟨rfl, rfl⟩
    | succ i =>
      have := ih i (by simpa using h)
      rw [flat_cons]
      refine ⟨?_, ?_⟩
      · rw [show (i + 1) * 2 = i * 2 + 1 + 1 by omega]; simpa [cl] using this.1
      · rw [show (i + 1) * 2 + 1 = i * 2 + 1 + 1 + 1 by omega]; simpa [cl] using this.2
theorem flat_set : ∀ (L : List Q) (i : Nat) (q : Q), i < L.length → ((flat L).set (i * 2) (.slice q.a q.l.length q.c)).set (i * 2 + 1) (.slice q.b q.s.length q.d) = flat (L.set i q) := by
  intro L
  induction L with
  | nil => intro i q h; simp at h
  | cons p L ih =>
    intro i q h
    cases i with
    | zero => rfl
    | succ i =>
      have := ih i q (by simpa using h)
      rw [flat_cons, List.set_cons_succ, flat_cons, ← this]
      rw [show (i + 1) * 2 = i * 2 + 1 + 1 by omega]
      simp [cl]
theorem made_two (n : Nat) : (madeCells #[.slice none 0 0, .slice none 0 0] (n * 2)).toList = flat (List.replicate n q0) := by
  apply List.ext_getElem?
  intro j
  by_cases hj : j < n * 2
  · have hl : j / 2 < (List.replicate n q0).length := by simp; omega
    have h2 : (List.replicate n q0).getD (j / 2) q0 = q0 := by
      rw [List.getD_eq_getElem?_getD, List.getElem?_replicate]; split <;> rfl
    obtain ⟨g0, g1⟩ := flat_get _ _ hl
    rw [h2] at g0 g1
    unfold madeCells
    rcases (show j % 2 = 0 ∨ j % 2 = 1 by omega) with h | h
    · rw [show j = j / 2 * 2 by omega] at hj ⊢
      rw [g0]
      simp [hj]
      exact ⟨rfl, rfl, rfl⟩
    · rw [show j = j / 2 * 2 + 1 by omega] at hj ⊢
      rw [g1]
      simp [hj, Nat.add_mod]
      exact ⟨rfl, rfl, rfl⟩
  · rw [List.getElem?_eq_none (by simp [size_madeCells]; omega), List.getElem?_eq_none (by rw [flat_len]; simp; omega)]

/-- The slice that begins at 'a' holds the series 'qs' in the world 'w'. -/
def HasQ (w : World) (a : Option Addr) (qs : List Q) : Prop :=
  qs = [] ∨ ∃ b off, a = some ⟨b, off, none⟩ ∧ b < w.heap.size ∧ ∀ i, i < qs.length → w.cell? ⟨b, off + i * 2, none⟩ = some (.slice (qs.getD i q0).a (qs.getD i q0).l.length (qs.getD i q0).c) ∧ w.cell? ⟨b, off + i * 2 + 1, none⟩ = some (.slice (qs.getD i q0).b (qs.getD i q0).s.length (qs.getD i q0).d) ∧ HasL w (qs.getD i q0).a (qs.getD i q0).l ∧ HasS w (qs.getD i q0).b (qs.getD i q0).s
theorem HasQ.below {w w' : World} {a : Option Addr} {qs : List Q} (h : HasQ w a qs) (hb : Below w.heap.size w w') : HasQ w' a qs := by
  rcases h with h | ⟨b, off, h1, h2, h3⟩
  · exact .inl h
  · exact .inr ⟨b, off, h1, Nat.lt_of_lt_of_le h2 hb.size, fun i hi => ⟨(hb.cell (by exact h2)).trans (h3 i hi).1, (hb.cell (by exact h2)).trans (h3 i hi).2.1, (h3 i hi).2.2.1.below hb, (h3 i hi).2.2.2.below hb⟩⟩
theorem HasQ.alloc {w : World} {a : Option Addr} {qs : List Q} (h : HasQ w a qs) (o : Obj) : HasQ (w.alloc o) a qs := h.below ((Below.refl _ _).alloc (Nat.le_refl _) o)
theorem HasQ.nil {w : World} {a : Option Addr} : HasQ w a [] := .inl rfl
theorem HasQ.at2 {w : World} {a : Option Addr} {qs : List Q} (h : HasQ w a qs) (i : Nat) (hi : i < qs.length) : ∃ b off, a = some ⟨b, off, none⟩ ∧ b < w.heap.size ∧
    w.cell? ⟨b, off + i * 2, none⟩ = some (.slice (qs.getD i q0).a (qs.getD i q0).l.length (qs.getD i q0).c) ∧ w.cell? ⟨b, off + i * 2 + 1, none⟩ = some (.slice (qs.getD i q0).b (qs.getD i q0).s.length (qs.getD i q0).d) ∧ HasL w (qs.getD i q0).a (qs.getD i q0).l ∧ HasS w (qs.getD i q0).b (qs.getD i q0).s := by
  rcases h with h | ⟨b, off, h1, h2, h3⟩
  · rw [h] at hi; simp at hi
  · exact ⟨b, off, h1, h2, h3 i hi⟩
/-- All texts and numbers are such as a machine can hold. -/
def Fq (q : Q) : Prop := Lab.Fit q.l ∧ q.l.length ≤ maxLen ∧ Smp.Fit q.s ∧ q.s.length ≤ maxLen
def FitQ (qs : List Q) : Prop := ∀ i, Fq (qs.getD i q0)
theorem fit_q0 : Fq q0 := ⟨fun i => by simp [q0, Lab.e0, maxLen], Nat.zero_le _, Smp.fit_nil, Nat.zero_le _⟩
/-- How many labels and samples the first k series have. -/
def tot (qs : List Q) : Nat → Nat
  | 0 => 0
  | k + 1 => tot qs k + (qs.getD k q0).l.length + (qs.getD k q0).s.length
def SmlQ (qs : List Q) : Prop := ∀ i, i < qs.length → (qs.getD i q0).l.length ≤ 1048576 ∧ (qs.getD i q0).s.length ≤ 1048576
theorem tot_mono (qs : List Q) : ∀ (k j : Nat), j ≤ k → tot qs j ≤ tot qs k := by
  intro k
  induction k with
  | zero => intro j h; rw [show j = 0 by omega]; exact Nat.le_refl _
  | succ k ih =>
    intro j h
    by_cases e : j = k + 1
    · rw [e]; exact Nat.le_refl _
    · have := ih j (by omega)
      simp only [tot]; omega
theorem sml_tot {qs : List Q} (h : tot qs qs.length ≤ 1048576) : SmlQ qs := by
  intro i hi
  have := tot_mono qs qs.length (i + 1) hi
  simp only [tot] at this
  omega
theorem own_has {w : World} {base g n c E : Nat} {qs : List Q} (h : w.ownsRow base E 2 (.slice (some ⟨g, 0, none⟩) n c) n (flat qs)) (hT : ∀ i, i < qs.length → HasL w (qs.getD i q0).a (qs.getD i q0).l ∧ HasS w (qs.getD i q0).b (qs.getD i q0).s) : HasQ w (some ⟨g, 0, none⟩) qs := by
  have hl := h.1
  rw [flat_len] at hl
  refine .inr ⟨g, 0, rfl, (h.lt g rfl).2, fun i hi => ?_⟩
  obtain ⟨y0, y1⟩ := flat_get qs i hi
  rw [Nat.zero_add]
  exact ⟨(h.cellAt (i * 2) (by omega)).trans y0, (h.cellAt (i * 2 + 1) (by omega)).trans y1, hT i hi⟩
/-- Two lists of series say the same. -/
def Same (n : Nat) (qs qs' : List Q) : Prop := ∀ i, i < n → pl (qs'.getD i q0) = pl (qs.getD i q0)

set_option maxHeartbeats 1000000 in
theorem f61t (s t : ByteArray) (x : Int) (w : World) (hs : s.size ≤ maxLen) (ht : t.size ≤ maxLen) (hx0 : 0 ≤ x) (hx1 : x ≤ 1048576) :
    Calls Tryz.prog 61 #[.agg #[.string s, .string t], .int .i64 x] w fun e w' => ∃ y : Int, e = .returned (.int .i64 y) ∧ -1 ≤ y ∧ y ≤ x ∧ Below w.heap.size w w' := by
  unfold maxLen at hs ht
  have HB := hid ((Below.refl w.heap.size w).alloc (Nat.le_refl _) (.cells #[.string s, .string t] 95))
  by_cases h1 : x < s.size
  · go_enter Tryz.func61, Tryz.ntmps61
    go_wp2
    go_ret
    exact ⟨-1, rfl, by omega, by omega, HB.out⟩
  · by_cases h2 : x < s.size + t.size
    · go_enter Tryz.func61, Tryz.ntmps61
      go_wp2
      go_ret
      exact ⟨-1, rfl, by omega, by omega, HB.out⟩
    · go_enter Tryz.func61, Tryz.ntmps61
      go_wp2
      go_ret
      exact ⟨_, rfl, by omega, by omega, HB.out⟩

set_option maxHeartbeats 1000000 in
theorem f34t (a : Option Addr) (n c : Nat) (L : Int) (ls : List Lb) (w : World) (hL0 : 0 ≤ L) (hL1 : L ≤ 1048576) (hn : ls.length = n) (hr : HasL w a ls) (hf : Lab.Fit ls) (hmax : n ≤ maxLen) :
    Calls Tryz.prog 34 #[.slice a n c, .int .i64 L] w fun e w' => ∃ y : Int, e = .returned (.int .i64 y) ∧ -1 ≤ y ∧ y ≤ L ∧ (0 ≤ y → n + y ≤ L) ∧ Below w.heap.size w w' := by
  unfold maxLen at hmax
  by_cases hbig : n ≤ L
  · have HN := hid hn
    clear hn
    go_enter Tryz.func34, Tryz.ntmps34
    go_wp2
    go_loopw [1, 5] (fun sx i wr => ∃ (k : Nat) (x : Int), k ≤ n ∧ i = .int .i64 k ∧ sx = .int .i64 x ∧ 0 ≤ x ∧ n + x ≤ L ∧ Below w.heap.size w wr) (fun _ i _ => n - (intOf i).toNat)
    case atStart => exact ⟨0, _, Nat.zero_le _, rfl, rfl, by omega, by omega, Below.refl _ _⟩
    case round =>
      obtain ⟨k, x, hk, rfl, rfl, hx0, hx1, hb⟩ := hrel
      have HB := hid hb
      by_cases hlt : k < n
      · rcases hr with h | ⟨b, off, rfl, h2, h3⟩
        · exfalso; rw [h] at HN; have := HN.out; simp at this; omega
        obtain ⟨c0, c1⟩ := h3 k (by rw [HN.out]; exact hlt)
        obtain ⟨g0, g1⟩ := hf k
        have d0 := (hb.cell (p := ⟨b, off + k * 2, none⟩) h2).trans c0
        have d1 := (hb.cell (p := ⟨b, off + k * 2 + 1, none⟩) h2).trans c1
        clear h3 c0 c1 hb
        generalize (ls.getD k Lab.e0).1 = s at *
        generalize (ls.getD k Lab.e0).2 = t at *
        go_wp2_with fail
        refine (f61t s t x _ g0 g1 hx0 (by omega)).mono ?_
        rintro e w2 ⟨y, rfl, y0, y1, hb2⟩
        have HB2 := hid (HB.out.trans (hb2.mono HB.out.size))
        clear hb2 d0 d1
        by_cases hy : y < 0
        · go_wp2
          go_ret
          exact ⟨-1, rfl, by omega, by omega, fun h => absurd h (by omega), HB2.out⟩
        · go_wp2
          go_roundw
          case rel => exact ⟨k + 1, y, by omega, by go_num, rfl, by omega, by omega, HB2.out⟩
          case measure => simp [intOf]; omega
      · go_wp2
        go_ret
        exact ⟨x, rfl, by omega, by omega, fun _ => by omega, HB.out⟩
  · go_enter Tryz.func34, Tryz.ntmps34
    go_wp2
    go_ret
    exact ⟨-1, rfl, by omega, by omega, by omega, Below.refl _ _⟩

set_option maxHeartbeats 1000000 in
theorem f15 (q : Q) (L : Int) (w : World) (hL0 : 0 ≤ L) (hL1 : L ≤ 1048576) (hr : HasL w q.a q.l) (hf : Fq q) :
    Calls Tryz.prog 15 #[agQ q, .int .i64 L] w fun e w' => ∃ y : Int, e = .returned (.int .i64 y) ∧ -1 ≤ y ∧ y ≤ L ∧ (0 ≤ y → q.l.length + q.s.length + y ≤ L) ∧ Below w.heap.size w w' := by
  obtain ⟨l, a, c, s, b, d⟩ := q
  obtain ⟨f1, f2, f3, f4⟩ := hf
  simp only at f1 f2 f3 f4 hr
  have HR := hid hr
  have F1 := hid f1
  have F2 := hid f2
  have F4 := hid f4
  have HB0 := hid ((Below.refl w.heap.size w).alloc (Nat.le_refl _) (.cells #[.slice a l.length c, .slice b s.length d] 40))
  clear hr f1 f2 f3 f4
  simp only [agQ]
  go_enter Tryz.func15, Tryz.ntmps15
  go_wp2_with fail
  refine (f34t a l.length c L l _ hL0 hL1 rfl (HR.out.below HB0.out) F1.out F2.out).mono ?_
  rintro e w1 ⟨y, rfl, y0, y1, hy, hb1⟩
  have HB1 := hid (HB0.out.trans (hb1.mono HB0.out.size))
  have hc1 := (two (kept (heap_alloc_new w (.cells #[.slice a l.length c, .slice b s.length d] 40)) hb1)).2
  clear hb1
  by_cases g0 : y < 0
  · go_wp2
    go_ret
    exact ⟨-1, rfl, by omega, by omega, fun h => absurd h (by omega), HB1.out⟩
  have hy' := hy (by omega)
  clear hy
  go_wp2_with fail
  refine (Smp.f35 b s.length d y _ F4.out (by omega) (by omega)).mono ?_
  rintro e w2 ⟨rfl, rfl⟩
  by_cases g1 : y < (s.length : Int)
  · rw [if_pos g1]
    go_wp2
    go_ret
    exact ⟨-1, rfl, by omega, by omega, fun h => absurd h (by omega), HB1.out⟩
  · rw [if_neg g1]
    go_wp2
    go_ret
    exact ⟨_, rfl, by omega, by omega, fun _ => by omega, HB1.out⟩

set_option maxHeartbeats 1000000 in
theorem f4 (a : Option Addr) (n c : Nat) (L : Int) (qs : List Q) (w : World) (hL0 : 0 ≤ L) (hL1 : L ≤ 1048576) (hn : qs.length = n) (hr : HasQ w a qs) (hf : FitQ qs) (hmax : n ≤ maxLen) :
    Calls Tryz.prog 4 #[.slice a n c, .int .i64 L] w fun e w' => ∃ y : Int, e = .returned (.int .i64 y) ∧ -1 ≤ y ∧ y ≤ L ∧ (0 ≤ y → n + tot qs n + y ≤ L) ∧ Below w.heap.size w w' := by
  unfold maxLen at hmax
  by_cases hbig : n ≤ L
  · have HN := hid hn
    have HR := hid hr
    have HF := hid hf
    clear hn hr hf
    go_enter Tryz.func4, Tryz.ntmps4
    go_wp2
    go_loopw [1, 5] (fun sx i wr => ∃ (k : Nat) (x : Int), k ≤ n ∧ i = .int .i64 k ∧ sx = .int .i64 x ∧ 0 ≤ x ∧ n + tot qs k + x ≤ L ∧ Hid (Below w.heap.size w wr)) (fun _ i _ => n - (intOf i).toNat)
    case atStart => exact ⟨0, _, Nat.zero_le _, rfl, rfl, by omega, by simp only [tot]; omega, Below.refl _ _⟩
    case round =>
      obtain ⟨k, x, hk, rfl, rfl, hx0, hx1, HB⟩ := hrel
      by_cases hlt : k < n
      · obtain ⟨b, off, rfl, hbl, c0, c1, hl, hs⟩ := (HR.out).at2 k (by rw [HN.out]; exact hlt)
        have d0 := (HB.out.cell (p := ⟨b, off + k * 2, none⟩) hbl).trans c0
        have d1 := (HB.out.cell (p := ⟨b, off + k * 2 + 1, none⟩) hbl).trans c1
        have HL := hid (hl.below HB.out)
        have G := hid (HF.out k)
        have HT : Hid (tot qs (k + 1) = tot qs k + (qs.getD k q0).l.length + (qs.getD k q0).s.length) := rfl
        clear c0 c1 hl hs hbl
        generalize qs.getD k q0 = q at *
        go_wp2_with fail
        refine (f15 q x _ hx0 (by omega) HL.out G.out).mono ?_
        rintro e w2 ⟨y, rfl, y0, y1, hy, hb2⟩
        have HB2 := hid (HB.out.trans (hb2.mono HB.out.size))
        clear hb2 d0 d1 HB
        by_cases hy0 : y < 0
        · go_wp2
          go_ret
          exact ⟨-1, rfl, by omega, by omega, fun h => absurd h (by omega), HB2.out⟩
        · have hy' := hid (hy (by omega))
          clear hy
          go_wp2
          go_roundw
          case rel => exact ⟨k + 1, y, by omega, by go_num, rfl, by omega, by rw [HT.out]; have := hy'.out; omega, HB2.out⟩
          case measure => simp [intOf]; omega
      · obtain rfl : k = n := by omega
        go_wp2
        go_ret
        exact ⟨x, rfl, by omega, by omega, fun _ => by omega, HB.out⟩
  · go_enter Tryz.func4, Tryz.ntmps4
    go_wp2
    go_ret
    exact ⟨-1, rfl, by omega, by omega, by omega, Below.refl _ _⟩
end Go.Proofs.YtaekngadfajcaaaGreat.Srs
