/- Lists of blocks that came in. -/
import Derived.Test.YtjhdmghpklagkaaGreatD07
import Derived.Test.YtjhdmghpklagkaaGreatD13
import Derived.Test.YtjhdmghpklagkaaGreatRows
import Derived.WalkKit
import Derived.ProofKit
import Derived.Handy
import Derived.BigQuiet
import Derived.Deep.QuietTactic
import Derived.Deep.RegionHeld3
import Derived.Deep.CutRange
import Derived.Below
import Derived.WalkSmall
import Derived.Laws.OwnMore
namespace Go.Proofs.YtjhdmghpklagkaaGreat.Blk
open Go.ChangeShapes Go.WideShapes Go.ChangeAt Go.RowKit Go.Deep Go.WideElems Go.Maps

section
variable {H : Type} {enc : TypeId × Value → H} {P : Program} {w : World} {base : Nat} {held : Bool}
theorem open_fives {t e : TypeId} {g0 g1 g2 g3 g4 : Field} {fuel : Nat} {cs : List Value} {x : DataW H × List MemPlace} (ht : P.underlying t = some (.slice e)) (he : P.underlying e = some (.struct #[g0, g1, g2, g3, g4]))
    (ce : P.cellsOf e = 5) (o0 : g0.offset = 0) (o1 : g1.offset = 1) (o2 : g2.offset = 2) (o3 : g3.offset = 3) (o4 : g4.offset = 4) (c0 : P.cellsOf g0.type = 1) (c1 : P.cellsOf g1.type = 1) (c2 : P.cellsOf g2.type = 1) (c3 : P.cellsOf g3.type = 1) (c4 : P.cellsOf g4.type = 1)
    (h : DataW.trod enc P w base (fun _ => true) held fuel t cs = some x) :
    cs = [.slice none 0 0] ∨ ∃ (a : Addr) (len cap n : Nat), cs = [.slice (some a) len cap] ∧ len ≤ cap ∧ cap ≤ maxLen ∧ ∀ i, i < len → ∃ v0 v1 v2 v3 v4 y0 y1 y2 y3 y4, (w.cell? (a.add (i * 5)) = some v0 ∧ w.cell? (a.add (i * 5 + 1)) = some v1 ∧ w.cell? (a.add (i * 5 + 2)) = some v2 ∧ w.cell? (a.add (i * 5 + 3)) = some v3 ∧ w.cell? (a.add (i * 5 + 4)) = some v4) ∧
      DataW.trod enc P w base (fun _ => true) held n g0.type [v0] = some y0 ∧ DataW.trod enc P w base (fun _ => true) held n g1.type [v1] = some y1 ∧ DataW.trod enc P w base (fun _ => true) held n g2.type [v2] = some y2 ∧ DataW.trod enc P w base (fun _ => true) held n g3.type [v3] = some y3 ∧ DataW.trod enc P w base (fun _ => true) held n g4.type [v4] = some y4 := by
  rcases Deep.open_slice ht h with h0 | ⟨a, len, cap, m, n, D, Pl, rfl, hb, hl, hm, hmm, rfl, hx⟩
  · exact .inl h0.1
  right
  refine ⟨a, len, cap, n - 1, rfl, hl, hm, fun i hi => ?_⟩
  simp only [if_true] at hmm
  obtain ⟨cs', h1, h2⟩ := hx i (by omega)
  rw [ce] at h1
  obtain ⟨_, hlen, hcell⟩ := World.cells?_some h1
  obtain ⟨xs, k, hk, hxy, _, hxl, hf⟩ := DataW.trod_struct he h2
  have hk' : k = n - 1 := by omega
  subst hk'
  match xs, hxl, cs', hlen with
  | [y0, y1, y2, y3, y4], _, [v0, v1, v2, v3, v4], _ =>
    have q0 := hf 0 g0 rfl
    have q1 := hf 1 g1 rfl
    have q2 := hf 2 g2 rfl
    have q3 := hf 3 g3 rfl
    have q4 := hf 4 g4 rfl
    simp [o0, o1, o2, o3, o4, c0, c1, c2, c3, c4] at q0 q1 q2 q3 q4
    have e0 := hcell 0 (by omega)
    have e1 := hcell 1 (by omega)
    have e2 := hcell 2 (by omega)
    have e3 := hcell 3 (by omega)
    have e4 := hcell 4 (by omega)
    rw [Deep.add_add] at e0 e1 e2 e3 e4
    exact ⟨v0, v1, v2, v3, v4, y0, y1, y2, y3, y4, ⟨by simpa using e0, by simpa using e1, by simpa using e2, by simpa using e3, by simpa using e4⟩, q0, q1, q2, q3, q4⟩
end
set_option maxRecDepth 100000 in
theorem open_blocks {H : Type} {enc : TypeId × Value → H} {W : World} {a0 : Option Addr} {len0 cap0 : Nat} {d : DataW H} {p : List MemPlace} (h : DataW.Trod enc Tryz.prog W 0 (fun _ => true) true 22 (.slice a0 len0 cap0) d p) :
    ∃ bs : List Bk, bs.length = len0 ∧ len0 ≤ maxLen ∧ HasK W a0 bs ∧ FitK bs := by
  obtain ⟨fuel, hf⟩ := h
  rcases open_fives Tryz.underlying22 Tryz.underlying55 (by kernel_rfl) rfl rfl rfl rfl rfl (by kernel_rfl) (by kernel_rfl) (by kernel_rfl) (by kernel_rfl) (by kernel_rfl) hf with hcs | ⟨a, len, cap, n, hcs, hl, hm, hx⟩
  · simp [Value.cells] at hcs
    obtain ⟨rfl, rfl, rfl⟩ := hcs
    exact ⟨[], rfl, Nat.zero_le _, .inl rfl, fun i => fit_k0⟩
  · simp [Value.cells] at hcs
    obtain ⟨rfl, rfl, rfl⟩ := hcs
    have key : ∀ i, i < len0 → ∃ q : Bk, (W.cell? (a.add (i * 5)) = some (.int .i64 q.F) ∧ W.cell? (a.add (i * 5 + 1)) = some (.int .i64 q.T) ∧ W.cell? (a.add (i * 5 + 2)) = some (.int .i64 q.L) ∧ W.cell? (a.add (i * 5 + 3)) = some (.slice q.a q.qs.length q.c) ∧ W.cell? (a.add (i * 5 + 4)) = some (.slice q.b q.ts.length q.d)) ∧ HasB W q ∧ FitB q := by
      intro i hi
      obtain ⟨v0, v1, v2, v3, v4, y0, y1, y2, y3, y4, ⟨e0, e1, e2, e3, e4⟩, h0, h1, h2, h3, h4⟩ := hx i hi
      obtain ⟨A, f0, _, w0⟩ := DataW.trod_int Tryz.underlying3 h0
      obtain ⟨B, f1, _, w1⟩ := DataW.trod_int Tryz.underlying3 h1
      obtain ⟨C, f2, _, w2⟩ := DataW.trod_int Tryz.underlying3 h2
      simp only [List.cons.injEq, and_true] at f0 f1 f2
      subst f0 f1 f2
      obtain ⟨ra, rl, rc, rfl⟩ : ∃ a l c, v3 = .slice a l c := by
        rcases Deep.open_slice Tryz.underlying52 h3 with ⟨hq, _⟩ | ⟨a, l, c, m, n', D, Pl, hq, _⟩
        · simp only [List.cons.injEq, and_true] at hq; exact ⟨_, _, _, hq⟩
        · simp only [List.cons.injEq, and_true] at hq; exact ⟨_, _, _, hq⟩
      obtain ⟨sa, sl, sc, rfl⟩ : ∃ a l c, v4 = .slice a l c := by
        rcases Deep.open_slice Tryz.underlying53 h4 with ⟨hq, _⟩ | ⟨a, l, c, m, n', D, Pl, hq, _⟩
        · simp only [List.cons.injEq, and_true] at hq; exact ⟨_, _, _, hq⟩
        · simp only [List.cons.injEq, and_true] at hq; exact ⟨_, _, _, hq⟩
      obtain ⟨qs, k1, k2, k3, k4⟩ := Srs.open_series (enc := enc) (a0 := ra) (len0 := rl) (cap0 := rc) (W := W) (d := y3.1) (p := y3.2) ⟨n, by simpa [Value.cells] using h3⟩
      obtain ⟨ts, j1, j2, j3, j4⟩ := open_stones (enc := enc) (a0 := sa) (len0 := sl) (cap0 := sc) (W := W) (d := y4.1) (p := y4.2) ⟨n, by simpa [Value.cells] using h4⟩
      simp only [Lit.wf, Bool.and_eq_true, decide_eq_true_eq] at w0 w1 w2
      subst k1 j1
      exact ⟨⟨A, B, C, qs, ra, rc, ts, sa, sc⟩, ⟨e0, e1, e2, e3, e4⟩, ⟨k3, j3⟩, ⟨w0.1, w0.2⟩, ⟨w1.1, w1.2⟩, ⟨w2.1, w2.2⟩, k4, k2, j4, j2⟩
    obtain ⟨q, hq⟩ := Deep.choose_lt (α := Bk) key
    have hg : ∀ i, i < len0 → ((List.range len0).map q).getD i k0 = q i := fun i hi => by simp [hi]
    refine ⟨(List.range len0).map q, by simp, by omega, ?_, ?_⟩
    · by_cases h0 : len0 = 0
      · subst h0; exact .inl rfl
      · obtain ⟨b, off, spot⟩ := a
        have h1 := (hq 0 (by omega)).1.1
        have hs : spot = none := by simpa [Addr.add] using World.cell?_spot h1
        subst hs
        refine .inr ⟨b, off, rfl, World.block_lt_of_cell? W _ h1, fun i hi => ?_⟩
        have hi' : i < len0 := by simpa using hi
        obtain ⟨⟨k0, k1, k2, k3, k4⟩, k7, _⟩ := hq i hi'
        rw [Srs.add_none] at k0 k1 k2 k3 k4
        rw [hg i hi']
        exact ⟨⟨k0, k1, k2, k3, k4⟩, k7⟩
    · intro i
      by_cases hi : i < len0
      · rw [hg i hi]; exact (hq i hi).2.2
      · rw [List.getD_eq_getElem?_getD, List.getElem?_eq_none (by simp; omega)]; exact fit_k0
end Go.Proofs.YtjhdmghpklagkaaGreat.Blk
namespace Go.Proofs.YtjhdmghpklagkaaGreat.Stb
variable {α : Type}

def ins (lt : α → α → Bool) (x : α) : List α → List α
  | [] => [x]
  | y :: L => if lt y x then y :: ins lt x L else x :: y :: L
def isort (lt : α → α → Bool) : List α → List α
  | [] => []
  | x :: L => ins lt x (isort lt L)
structure Ord (lt : α → α → Bool) : Prop where
  asym : ∀ x y, lt x y = true → lt y x = false
  trans : ∀ x y z, lt x y = true → lt y z = true → lt x z = true
  ntrans : ∀ x y z, lt x y = false → lt y z = false → lt x z = false
theorem ins_lt {lt : α → α → Bool} {x y : α} {L : List α} (h : lt y x = true) : ins lt x (y :: L) = y :: ins lt x L := by rw [ins, if_pos h]
theorem ins_ge {lt : α → α → Bool} {x y : α} {L : List α} (h : lt y x = false) : ins lt x (y :: L) = x :: y :: L := by rw [ins, if_neg (by simp [h])]
theorem ins_comm {lt : α → α → Bool} (O : Ord lt) {u v : α} (h : lt v u = true) : ∀ S, ins lt v (ins lt u S) = ins lt u (ins lt v S)
  | [] => by rw [show ins lt u [] = [u] from rfl, show ins lt v [] = [v] from rfl, ins_ge (O.asym _ _ h), ins_lt h]; rfl
  | y :: S => by
    cases h1 : lt y u with
    | true =>
      rw [ins_lt h1]
      cases h2 : lt y v with
      | true => rw [ins_lt h2, ins_lt h2, ins_lt h1, ins_comm O h S]
      | false => rw [ins_ge h2, ins_ge h2, ins_lt h, ins_lt h1]
    | false =>
      have h2 : lt y v = false := by
        cases h3 : lt y v with
        | false => rfl
        | true => rw [O.trans _ _ _ h3 h] at h1; cases h1
      rw [ins_ge h1, ins_ge (O.asym _ _ h), ins_ge h2, ins_lt h, ins_ge h1]
theorem isort_append_congr {lt : α → α → Bool} (X : List α) {L K : List α} (h : isort lt L = isort lt K) : isort lt (X ++ L) = isort lt (X ++ K) := by
  induction X with
  | nil => exact h
  | cons x X ih => show ins lt x (isort lt (X ++ L)) = ins lt x (isort lt (X ++ K)); rw [ih]
theorem isort_two {lt : α → α → Bool} (O : Ord lt) {u v : α} (h : lt v u = true) (X Z : List α) : isort lt (X ++ v :: u :: Z) = isort lt (X ++ u :: v :: Z) :=
  isort_append_congr X (ins_comm O h (isort lt Z))
theorem isort_past {lt : α → α → Bool} (O : Ord lt) {v : α} (X Z : List α) : ∀ U : List α, (∀ u ∈ U, lt v u = true) → isort lt (X ++ v :: (U ++ Z)) = isort lt (X ++ (U ++ v :: Z))
  | [], _ => rfl
  | u :: U, h => by
    show isort lt (X ++ v :: u :: (U ++ Z)) = isort lt (X ++ u :: (U ++ v :: Z))
    rw [isort_two O (h u List.mem_cons_self)]
    have := isort_past O (v := v) (X ++ [u]) Z U (fun x hx => h x (List.mem_cons_of_mem _ hx))
    simpa using this
def Sorted (lt : α → α → Bool) (L : List α) : Prop := L.Pairwise (fun x y => lt y x = false)
theorem isort_sorted {lt : α → α → Bool} : ∀ L : List α, Sorted lt L → isort lt L = L
  | [], _ => rfl
  | x :: L, h => by
    have h2 := List.pairwise_cons.1 h
    show ins lt x (isort lt L) = x :: L
    rw [isort_sorted L h2.2]
    cases L with
    | nil => rfl
    | cons y L => exact ins_ge (h2.1 y List.mem_cons_self)
theorem ins_perm {lt : α → α → Bool} (x : α) : ∀ L : List α, (ins lt x L).Perm (x :: L)
  | [] => List.Perm.refl _
  | y :: L => by
    cases h : lt y x with
    | true => rw [ins_lt h]; exact ((ins_perm x L).cons y).trans (List.Perm.swap x y L)
    | false => rw [ins_ge h]
theorem isort_perm {lt : α → α → Bool} : ∀ L : List α, (isort lt L).Perm L
  | [] => List.Perm.refl _
  | x :: L => (ins_perm x _).trans ((isort_perm L).cons x)
theorem ins_sorted {lt : α → α → Bool} (O : Ord lt) (x : α) : ∀ L : List α, Sorted lt L → Sorted lt (ins lt x L)
  | [], _ => List.pairwise_singleton _ _
  | y :: L, h => by
    have h2 := List.pairwise_cons.1 h
    cases h1 : lt y x with
    | true =>
      rw [ins_lt h1]
      refine List.pairwise_cons.2 ⟨fun z hz => ?_, ins_sorted O x L h2.2⟩
      rcases List.mem_cons.1 ((ins_perm x L).mem_iff.1 hz) with rfl | h3
      · exact O.asym _ _ h1
      · exact h2.1 z h3
    | false =>
      rw [ins_ge h1]
      refine List.pairwise_cons.2 ⟨fun z hz => ?_, h⟩
      rcases List.mem_cons.1 hz with rfl | h3
      · exact h1
      · exact O.ntrans _ _ _ (h2.1 z h3) h1
theorem isort_is_sorted {lt : α → α → Bool} (O : Ord lt) : ∀ L : List α, Sorted lt (isort lt L)
  | [] => List.Pairwise.nil
  | x :: L => ins_sorted O x _ (isort_is_sorted O L)

def flat2 (enc : α → Value × Value) (d : List α) : List Value := d.flatMap fun x => [(enc x).1, (enc x).2]
theorem flat2_cons (enc : α → Value × Value) (x : α) (d : List α) : flat2 enc (x :: d) = (enc x).1 :: (enc x).2 :: flat2 enc d := rfl
theorem flat2_append (enc : α → Value × Value) (d k : List α) : flat2 enc (d ++ k) = flat2 enc d ++ flat2 enc k := by simp [flat2]
theorem flat2_len (enc : α → Value × Value) (d : List α) : (flat2 enc d).length = d.length * 2 := by
  induction d with
  | nil => rfl
  | cons x d ih => rw [flat2_cons, List.length_cons, List.length_cons, ih, List.length_cons]; omega
theorem flat2_get (enc : α → Value × Value) (L R : List α) (x : α) : (flat2 enc (L ++ x :: R))[L.length * 2]? = some (enc x).1 ∧ (flat2 enc (L ++ x :: R))[L.length * 2 + 1]? = some (enc x).2 := by
  rw [flat2_append, flat2_cons]
  constructor
  · rw [List.getElem?_append_right (by rw [flat2_len]; omega), flat2_len, Nat.sub_self]; rfl
  · rw [List.getElem?_append_right (by rw [flat2_len]; omega), flat2_len, show L.length * 2 + 1 - L.length * 2 = 1 by omega]; rfl
theorem flat2_set (enc : α → Value × Value) (L R : List α) (x y : α) : ((flat2 enc (L ++ x :: R)).set (L.length * 2) (enc y).1).set (L.length * 2 + 1) (enc y).2 = flat2 enc (L ++ y :: R) := by
  rw [flat2_append, flat2_cons, flat2_append, flat2_cons]
  rw [List.set_append_right _ _ (by rw [flat2_len]; omega), flat2_len, Nat.sub_self, List.set_cons_zero]
  rw [List.set_append_right _ _ (by rw [flat2_len]; omega), flat2_len, show L.length * 2 + 1 - L.length * 2 = 1 by omega]
  rfl
end Go.Proofs.YtjhdmghpklagkaaGreat.Stb
namespace Go.Proofs.YtjhdmghpklagkaaGreat.Hpl
open Go.Proofs.YtjhdmghpklagkaaGreat.Stb
variable {α : Type}

def Kid (p c : Nat) : Prop := c = 2 * p + 1 ∨ c = 2 * p + 2
def Heap (lt : α → α → Bool) (d : α) (H : List α) (s : Nat) : Prop := ∀ p c, s ≤ p → Kid p c → c < H.length → lt (H.getD c d) (H.getD p d) = false
structure Sft (lt : α → α → Bool) (d : α) (H : List α) (s i : Nat) : Prop where
  oth : ∀ p c, s ≤ p → p ≠ i → Kid p c → c < H.length → lt (H.getD c d) (H.getD p d) = false
  up : ∀ p c, s ≤ p → Kid p i → Kid i c → c < H.length → lt (H.getD c d) (H.getD p d) = false
structure Fst (lt : α → α → Bool) (d : α) (H : List α) (i f : Nat) : Prop where
  is : f = i ∨ Kid i f ∧ f < H.length
  self : lt (H.getD i d) (H.getD f d) = false
  kid : ∀ c, Kid i c → c < H.length → lt (H.getD c d) (H.getD f d) = false
def swp (d : α) (H : List α) (i f : Nat) : List α := (H.set i (H.getD f d)).set f (H.getD i d)
theorem swp_len (d : α) (H : List α) (i f : Nat) : (swp d H i f).length = H.length := by simp [swp]
theorem getD_set' (L : List α) (d : α) (i j : Nat) (q : α) (hi : i < L.length) : (L.set i q).getD j d = if i = j then q else L.getD j d := by
  rw [List.getD_eq_getElem?_getD, List.getD_eq_getElem?_getD]
  by_cases e : i = j
  · subst e; rw [List.getElem?_set_self hi, if_pos rfl]; rfl
  · rw [List.getElem?_set_ne e, if_neg e]
theorem swp_get {d : α} {H : List α} {i f : Nat} (hi : i < H.length) (hf : f < H.length) (j : Nat) : (swp d H i f).getD j d = if f = j then H.getD i d else if i = j then H.getD f d else H.getD j d := by
  unfold swp
  rw [getD_set' _ d f j _ (by simpa using hf), getD_set' H d i j _ hi]
theorem swp_perm {d : α} {H : List α} {i f : Nat} (hi : i < H.length) (hf : f < H.length) (hne : i ≠ f) : (swp d H i f).Perm H := by
  have key : ∀ (i f : Nat), i < f → f < H.length → (swp d H i f).Perm H := by
    intro i f hif hf
    have hi : i < H.length := by omega
    have e : H = H.take i ++ H.getD i d :: ((H.drop (i + 1)).take (f - i - 1) ++ H.getD f d :: H.drop (f + 1)) := by
      apply List.ext_getElem?
      intro j
      by_cases h1 : j < i
      · rw [List.getElem?_append_left (by simp; omega)]; simp [h1]
      · rw [List.getElem?_append_right (by simp; omega)]
        simp only [List.length_take, Nat.min_eq_left (Nat.le_of_lt hi)]
        by_cases h2 : j = i
        · subst h2; simp [hi]
        · obtain ⟨k, rfl⟩ : ∃ k, j = i + 1 + k := ⟨j - i - 1, by omega⟩
          rw [show i + 1 + k - i = k + 1 by omega, List.getElem?_cons_succ]
          by_cases h3 : k < f - i - 1
          · rw [List.getElem?_append_left (by simp; omega), List.getElem?_take, if_pos h3, List.getElem?_drop]
          · rw [List.getElem?_append_right (by simp; omega)]
            simp only [List.length_take, List.length_drop]
            rw [show min (f - i - 1) (H.length - (i + 1)) = f - i - 1 by omega]
            by_cases h4 : k = f - i - 1
            · rw [h4, Nat.sub_self, show i + 1 + (f - i - 1) = f by omega]; simp [hf]
            · obtain ⟨r, rfl⟩ : ∃ r, k = f - i - 1 + 1 + r := ⟨k - (f - i - 1) - 1, by omega⟩
              rw [show f - i - 1 + 1 + r - (f - i - 1) = r + 1 by omega, List.getElem?_cons_succ, List.getElem?_drop]
              congr 1; omega
    have e2 : swp d H i f = H.take i ++ H.getD f d :: ((H.drop (i + 1)).take (f - i - 1) ++ H.getD i d :: H.drop (f + 1)) := by
      apply List.ext_getElem?
      intro j
      have g : ∀ L : List α, ∀ j, j < L.length → L[j]? = some (L.getD j d) := fun L j hj => by simp [hj]
      by_cases hj : j < H.length
      · rw [g _ j (by rw [swp_len]; exact hj), swp_get hi hf]
        by_cases h1 : j < i
        · rw [if_neg (by omega), if_neg (by omega), List.getElem?_append_left (by simp; omega)]; simp [h1, hj]
        · rw [List.getElem?_append_right (by simp; omega)]
          simp only [List.length_take, Nat.min_eq_left (Nat.le_of_lt hi)]
          by_cases h2 : j = i
          · subst h2; rw [if_neg (by omega), if_pos rfl]; simp
          · obtain ⟨k, rfl⟩ : ∃ k, j = i + 1 + k := ⟨j - i - 1, by omega⟩
            rw [show i + 1 + k - i = k + 1 by omega, List.getElem?_cons_succ]
            by_cases h3 : k < f - i - 1
            · rw [if_neg (by omega), if_neg (by omega), List.getElem?_append_left (by simp; omega), List.getElem?_take, if_pos h3, List.getElem?_drop]; simp [hj]
            · rw [List.getElem?_append_right (by simp; omega)]
              simp only [List.length_take, List.length_drop]
              rw [show min (f - i - 1) (H.length - (i + 1)) = f - i - 1 by omega]
              by_cases h4 : k = f - i - 1
              · rw [if_pos (by omega), h4, Nat.sub_self]; simp
              · obtain ⟨r, rfl⟩ : ∃ r, k = f - i - 1 + 1 + r := ⟨k - (f - i - 1) - 1, by omega⟩
                rw [if_neg (by omega), if_neg (by omega), show f - i - 1 + 1 + r - (f - i - 1) = r + 1 by omega, List.getElem?_cons_succ, List.getElem?_drop, ← g H _ hj]
                congr 1; omega
      · rw [List.getElem?_eq_none (by rw [swp_len]; omega), List.getElem?_eq_none (by simp; omega)]
    rw [e2]
    conv => rhs; rw [e]
    refine List.Perm.append_left _ ?_
    refine (List.perm_middle (l₁ := H.getD f d :: (H.drop (i + 1)).take (f - i - 1)) (a := H.getD i d) (l₂ := H.drop (f + 1))).trans ?_
    refine List.Perm.cons _ ?_
    exact (List.perm_middle (l₁ := (H.drop (i + 1)).take (f - i - 1)) (a := H.getD f d) (l₂ := H.drop (f + 1))).symm
  rcases Nat.lt_or_gt_of_ne hne with h | h
  · exact key i f h hf
  · have e : swp d H i f = swp d H f i := by
      unfold swp
      rw [List.set_comm _ _ (by omega)]
    rw [e]; exact key f i h hi
theorem Sft.done {lt : α → α → Bool} {d : α} {H : List α} {s i : Nat} (h : Sft lt d H s i) (hf : Fst lt d H i i) : Heap lt d H s := by
  intro p c hp hk hc
  by_cases e : p = i
  · subst e; exact hf.kid c hk hc
  · exact h.oth p c hp e hk hc
theorem Sft.go {lt : α → α → Bool} {d : α} {H : List α} {s i f : Nat} (h : Sft lt d H s i) (hs : s ≤ i) (hi : i < H.length) (hf : Fst lt d H i f) (hne : f ≠ i) : Sft lt d (swp d H i f) s f ∧ i < f ∧ f < H.length := by
  obtain ⟨hk, hfl⟩ : Kid i f ∧ f < H.length := by
    rcases hf.is with e | e
    · exact absurd e hne
    · exact e
  have hif : i < f := by unfold Kid at hk; omega
  refine ⟨⟨fun p c hsp hpf hkc hc => ?_, fun p c hsp hpf hkc hc => ?_⟩, hif, hfl⟩
  · rw [swp_len] at hc
    have hp : (swp d H i f).getD p d = if i = p then H.getD f d else H.getD p d := by
      rw [swp_get hi hfl, if_neg (fun e => hpf e.symm)]
    have hcc := swp_get (d := d) hi hfl c
    rw [hp, hcc]
    by_cases e : i = p
    · rw [if_pos e]
      subst e
      by_cases e2 : f = c
      · rw [if_pos e2]; exact hf.self
      · rw [if_neg e2, if_neg (by unfold Kid at hkc; omega)]
        exact hf.kid c hkc hc
    · rw [if_neg e]
      by_cases e2 : f = c
      · exfalso; unfold Kid at hkc hk; omega
      · rw [if_neg e2]
        by_cases e3 : i = c
        · rw [if_pos e3]
          subst e3
          exact h.up p f hsp hkc hk hfl
        · rw [if_neg e3]; exact h.oth p c hsp (fun e' => e e'.symm) hkc hc
  · rw [swp_len] at hc
    have hpi : p = i := by unfold Kid at hpf hk; omega
    subst hpi
    have h1 : (swp d H p f).getD p d = H.getD f d := by rw [swp_get hi hfl, if_neg (by omega), if_pos rfl]
    have h2 : (swp d H p f).getD c d = H.getD c d := by rw [swp_get hi hfl, if_neg (by unfold Kid at hkc; omega), if_neg (by unfold Kid at hkc; omega)]
    rw [h1, h2]
    exact h.oth f c (by omega) hne hkc hc
theorem Heap.top {lt : α → α → Bool} (O : Ord lt) {d : α} {H : List α} (h : Heap lt d H 0) : ∀ j, j < H.length → lt (H.getD j d) (H.getD 0 d) = false := by
  intro j
  induction j using Nat.strongRecOn with
  | ind j ih =>
    intro hj
    by_cases e : j = 0
    · subst e
      cases h1 : lt (H.getD 0 d) (H.getD 0 d) with
      | false => rfl
      | true => rw [O.asym _ _ h1] at h1; cases h1
    · have h1 := h ((j - 1) / 2) j (Nat.zero_le _) (by unfold Kid; omega) hj
      have h2 := ih ((j - 1) / 2) (by omega) (by omega)
      exact O.ntrans _ _ _ h1 h2
theorem Heap.high {lt : α → α → Bool} {d : α} {H : List α} {s : Nat} (h : H.length ≤ 2 * s + 1) : Heap lt d H s := fun p c hp hk hc => by unfold Kid at hk; omega
theorem Heap.sft {lt : α → α → Bool} {d : α} {H : List α} {i : Nat} (h : Heap lt d H (i + 1)) : Sft lt d H i i :=
  ⟨fun p c hp hne hk hc => h p c (by omega) hk hc, fun p c hp hk _ _ => by unfold Kid at hk; omega⟩
theorem Heap.renew {lt : α → α → Bool} {d : α} {H : List α} {x : α} (h : Heap lt d H 0) : Sft lt d (H.set 0 x) 0 0 := by
  refine ⟨fun p c hp hne hk hc => ?_, fun p c hp hk _ _ => by unfold Kid at hk; omega⟩
  rw [List.length_set] at hc
  rw [getD_set' H d 0 c x (by omega), getD_set' H d 0 p x (by omega), if_neg (by unfold Kid at hk; omega), if_neg (by omega)]
  exact h p c hp hk hc
theorem Heap.shrink {lt : α → α → Bool} {d : α} {H : List α} {n : Nat} (h : Heap lt d H 0) (hn : H.length = n + 1) : Sft lt d ((H.set 0 (H.getD n d)).take n) 0 0 := by
  refine ⟨fun p c hp hne hk hc => ?_, fun p c hp hk _ _ => by unfold Kid at hk; omega⟩
  have hc' : c < n := by simp at hc; omega
  have hp' : p < n := by unfold Kid at hk; omega
  generalize H.getD n d = y
  have g : ∀ j, j < n → j ≠ 0 → ((H.set 0 y).take n).getD j d = H.getD j d := fun j hj h0 => by
    rw [List.getD_eq_getElem?_getD, List.getElem?_take, if_pos hj, List.getElem?_set_ne (Ne.symm h0), List.getD_eq_getElem?_getD]
  rw [g c hc' (by unfold Kid at hk; omega), g p hp' hne]
  exact h p c hp hk (by omega)
theorem isort_pull {lt : α → α → Bool} (O : Ord lt) (A B : List α) (x : α) (hA : ∀ a ∈ A, lt x a = true) (hB : ∀ b ∈ B, lt b x = false) : isort lt (A ++ x :: B) = x :: isort lt (A ++ B) := by
  have h1 := isort_past O (v := x) [] B A hA
  simp only [List.nil_append] at h1
  rw [← h1]
  show ins lt x (isort lt (A ++ B)) = _
  have hall : ∀ y ∈ isort lt (A ++ B), lt y x = false := fun y hy => by
    rcases List.mem_append.1 ((isort_perm (A ++ B)).mem_iff.1 hy) with h | h
    · exact O.asym _ _ (hA y h)
    · exact hB y h
  cases hS : isort lt (A ++ B) with
  | nil => rfl
  | cons y L => rw [ins_ge (hall y (by rw [hS]; simp))]
end Go.Proofs.YtjhdmghpklagkaaGreat.Hpl
namespace Go.Proofs.YtjhdmghpklagkaaGreat.Stb
open Go.RowKit
variable {α : Type}
theorem hid {p : Prop} (h : p) : Hid p := h
abbrev Row (enc : α → Value × Value) (base g c n : Nat) (d : List α) (w : World) : Prop := w.ownsRow base 80 2 (.slice (some ⟨g, 0, none⟩) n c) n (flat2 enc d)
theorem row_len {enc : α → Value × Value} {base g c n : Nat} {d : List α} {w : World} (h : Row enc base g c n d w) : d.length = n := by
  have := h.1
  rw [flat2_len] at this
  omega
theorem row_at {enc : α → Value × Value} {base g c n : Nat} {L R : List α} {x : α} {w : World} (h : Row enc base g c n (L ++ x :: R) w) : w.cell? ⟨g, L.length * 2, none⟩ = some (enc x).1 ∧ w.cell? ⟨g, L.length * 2 + 1, none⟩ = some (enc x).2 := by
  have hl := row_len h
  simp at hl
  obtain ⟨h1, h2⟩ := flat2_get enc L R x
  exact ⟨(h.cellAt (L.length * 2) (by omega)).trans h1, (h.cellAt (L.length * 2 + 1) (by omega)).trans h2⟩
theorem gr_set {w w' : World} {g : Nat} (h : w.grownBy w' (some g)) (o : Nat) (v : Value) : w.grownBy (w'.setCell ⟨g, o, none⟩ v) (some g) :=
  ⟨h.os, h.tape, h.output, by have := h.size; simpa using this, fun k hk hne => by
    rw [← h.block k hk hne]
    show (w'.heap.modify g _)[k]? = _
    rw [Array.getElem?_modify, if_neg (by intro e; exact hne (by rw [e]))]⟩
theorem gr_refl (w : World) (g : Nat) : w.grownBy w (some g) := ⟨rfl, rfl, rfl, Nat.le_refl _, fun _ _ _ => rfl⟩
theorem gr_drew {w w' : World} {g : Nat} (h : w.grownBy w' (some g)) : w.grownBy w'.drew (some g) := ⟨h.os, h.tape, h.output, h.size, h.block⟩
theorem gr_trans {w w' w'' : World} {g : Nat} (h : w.grownBy w' (some g)) (k : w'.grownBy w'' (some g)) : w.grownBy w'' (some g) :=
  ⟨k.os.trans h.os, k.tape.trans h.tape, k.output.trans h.output, Nat.le_trans h.size k.size, fun i hi hne => (k.block i (Nat.lt_of_lt_of_le hi h.size) hne).trans (h.block i hi hne)⟩
theorem gr_below {w w' w'' : World} {g : Nat} (h : w.grownBy w' (some g)) (k : Below w'.heap.size w' w'') : w.grownBy w'' (some g) :=
  ⟨k.os.trans h.os, k.tape.trans h.tape, k.output.trans h.output, Nat.le_trans h.size k.size, fun i hi hne => (k.block i (Nat.lt_of_lt_of_le hi h.size)).trans (h.block i hi hne)⟩
end Go.Proofs.YtjhdmghpklagkaaGreat.Stb
