/- Stable sorting: the plain theory. The stable sort of a list does not change when a block is put ahead of another one all of whose members are greater; a sorted list is its own. -/
import Derived.Test.YtailoeloonnoeaaRows
import Derived.WalkKit
import Derived.ProofKit
import Derived.Handy
import Derived.BigQuiet
import Derived.Deep.QuietTactic
import Derived.Deep.RegionHeld3
import Derived.Deep.CutRange
import Derived.Below
import Derived.WalkSmall
import Derived.Laws.OwnMore
namespace Go.Proofs.Ytailoeloonnoeaa.Stb
variable {α : Type}

/-- Put ahead of the first one that is not less. -/
def ins (lt : α → α → Bool) (x : α) : List α → List α
  | [] => [x]
  | y :: L => if lt y x then y :: ins lt x L else x :: y :: L
def isort (lt : α → α → Bool) : List α → List α
  | [] => []
  | x :: L => ins lt x (isort lt L)
/-- What is asked of the order. -/
structure Ord (lt : α → α → Bool) : Prop where
  asym : ∀ x y, lt x y = true → lt y x = false
  trans : ∀ x y z, lt x y = true → lt y z = true → lt x z = true
  ntrans : ∀ x y z, lt x y = false → lt y z = false → lt x z = false
theorem ins_lt {lt : α → α → Bool} {x y : α} {L : List α} (h : lt y x = true) : ins lt x (y :: L) = y :: ins lt x L := by rw [ins, if_pos h]
theorem ins_ge {lt : α → α → Bool} {x y : α} {L : List α} (h : lt y x = false) : ins lt x (y :: L) = x :: y :: L := by rw [ins, if_neg (by simp [h])]
theorem ins_comm {lt : α → α → Bool} (O : Ord lt) {u v : α} (h : lt v u = true) : ∀ S, ins lt v (ins lt u S) = ins lt u (ins lt v S)
  | [] => by rw [show ins lt u [] = [u] from rfl, show ins lt v [] = [v] from rfl, ins_ge (O.asym _ _ h), ins_lt h]; rfl
  | y :: S => by
    cases h1 : lt y u with
    | true =>
      rw [ins_lt h1]
      cases h2 : lt y v with
      | true => rw [ins_lt h2, ins_lt h2, ins_lt h1, ins_comm O h S]
      | false => rw [ins_ge h2, ins_ge h2, ins_lt h, ins_lt h1]
    | false =>
      have h2 : lt y v = false := by
        cases h3 : lt y v with
        | false => rfl
        | true => rw [O.trans _ _ _ h3 h] at h1; cases h1
      rw [ins_ge h1, ins_ge (O.asym _ _ h), ins_ge h2, ins_lt h, ins_ge h1]
theorem isort_append_congr {lt : α → α → Bool} (X : List α) {L K : List α} (h : isort lt L = isort lt K) : isort lt (X ++ L) = isort lt (X ++ K) := by
  induction X with
  | nil => exact h
  | cons x X ih => show ins lt x (isort lt (X ++ L)) = ins lt x (isort lt (X ++ K)); rw [ih]
theorem isort_two {lt : α → α → Bool} (O : Ord lt) {u v : α} (h : lt v u = true) (X Z : List α) : isort lt (X ++ v :: u :: Z) = isort lt (X ++ u :: v :: Z) :=
  isort_append_congr X (ins_comm O h (isort lt Z))
theorem isort_past {lt : α → α → Bool} (O : Ord lt) {v : α} (X Z : List α) : ∀ U : List α, (∀ u ∈ U, lt v u = true) → isort lt (X ++ v :: (U ++ Z)) = isort lt (X ++ (U ++ v :: Z))
  | [], _ => rfl
  | u :: U, h => by
    show isort lt (X ++ v :: u :: (U ++ Z)) = isort lt (X ++ u :: (U ++ v :: Z))
    rw [isort_two O (h u List.mem_cons_self)]
    have := isort_past O (v := v) (X ++ [u]) Z U (fun x hx => h x (List.mem_cons_of_mem _ hx))
    simpa using this
/-- A block goes ahead of one with greater members. -/
theorem isort_blocks {lt : α → α → Bool} (O : Ord lt) (X Z U : List α) : ∀ V : List α, (∀ v ∈ V, ∀ u ∈ U, lt v u = true) → isort lt (X ++ (V ++ (U ++ Z))) = isort lt (X ++ (U ++ (V ++ Z)))
  | [], _ => rfl
  | v :: V, h => by
    have h1 := isort_blocks O (X ++ [v]) Z U V (fun x hx => h x (List.mem_cons_of_mem _ hx))
    have h2 := isort_past O (v := v) X (V ++ Z) U (h v List.mem_cons_self)
    simp only [List.append_assoc, List.cons_append, List.nil_append] at h1 h2 ⊢
    rw [h1, h2]
def Sorted (lt : α → α → Bool) (L : List α) : Prop := L.Pairwise (fun x y => lt y x = false)
theorem isort_sorted {lt : α → α → Bool} : ∀ L : List α, Sorted lt L → isort lt L = L
  | [], _ => rfl
  | x :: L, h => by
    have h2 := List.pairwise_cons.1 h
    show ins lt x (isort lt L) = x :: L
    rw [isort_sorted L h2.2]
    cases L with
    | nil => rfl
    | cons y L => exact ins_ge (h2.1 y List.mem_cons_self)
theorem ins_perm {lt : α → α → Bool} (x : α) : ∀ L : List α, (ins lt x L).Perm (x :: L)
  | [] => List.Perm.refl _
  | y :: L => by
    cases h : lt y x with
    | true => rw [ins_lt h]; exact ((ins_perm x L).cons y).trans (List.Perm.swap x y L)
    | false => rw [ins_ge h]
theorem isort_perm {lt : α → α → Bool} : ∀ L : List α, (isort lt L).Perm L
  | [] => List.Perm.refl _
  | x :: L => (ins_perm x _).trans ((isort_perm L).cons x)
theorem ins_sorted {lt : α → α → Bool} (O : Ord lt) (x : α) : ∀ L : List α, Sorted lt L → Sorted lt (ins lt x L)
  | [], _ => List.pairwise_singleton _ _
  | y :: L, h => by
    have h2 := List.pairwise_cons.1 h
    cases h1 : lt y x with
    | true =>
      rw [ins_lt h1]
      refine List.pairwise_cons.2 ⟨fun z hz => ?_, ins_sorted O x L h2.2⟩
      rcases List.mem_cons.1 ((ins_perm x L).mem_iff.1 hz) with rfl | h3
      · exact O.asym _ _ h1
      · exact h2.1 z h3
    | false =>
      rw [ins_ge h1]
      refine List.pairwise_cons.2 ⟨fun z hz => ?_, h⟩
      rcases List.mem_cons.1 hz with rfl | h3
      · exact h1
      · exact O.ntrans _ _ _ (h2.1 z h3) h1
theorem isort_is_sorted {lt : α → α → Bool} (O : Ord lt) : ∀ L : List α, Sorted lt (isort lt L)
  | [] => List.Pairwise.nil
  | x :: L => ins_sorted O x _ (isort_is_sorted O L)

/-- Two cells each. -/
def flat2 (enc : α → Value × Value) (d : List α) : List Value := d.flatMap fun x => [(enc x).1, (enc x).2]
theorem flat2_cons (enc : α → Value × Value) (x : α) (d : List α) : flat2 enc (x :: d) = (enc x).1 :: (enc x).2 :: flat2 enc d := rfl
theorem flat2_append (enc : α → Value × Value) (d k : List α) : flat2 enc (d ++ k) = flat2 enc d ++ flat2 enc k := by simp [flat2]
theorem flat2_len (enc : α → Value × Value) (d : List α) : (flat2 enc d).length = d.length * 2 := by
  induction d with
  | nil => rfl
  | cons x d ih => rw [flat2_cons, List.length_cons, List.length_cons, ih, List.length_cons]; omega
theorem flat2_get (enc : α → Value × Value) (L R : List α) (x : α) : (flat2 enc (L ++ x :: R))[L.length * 2]? = some (enc x).1 ∧ (flat2 enc (L ++ x :: R))[L.length * 2 + 1]? = some (enc x).2 := by
  rw [flat2_append, flat2_cons]
  constructor
  · rw [List.getElem?_append_right (by rw [flat2_len]; omega), flat2_len, Nat.sub_self]; rfl
  · rw [List.getElem?_append_right (by rw [flat2_len]; omega), flat2_len, show L.length * 2 + 1 - L.length * 2 = 1 by omega]; rfl
theorem flat2_set (enc : α → Value × Value) (L R : List α) (x y : α) : ((flat2 enc (L ++ x :: R)).set (L.length * 2) (enc y).1).set (L.length * 2 + 1) (enc y).2 = flat2 enc (L ++ y :: R) := by
  rw [flat2_append, flat2_cons, flat2_append, flat2_cons]
  rw [List.set_append_right _ _ (by rw [flat2_len]; omega), flat2_len, Nat.sub_self, List.set_cons_zero]
  rw [List.set_append_right _ _ (by rw [flat2_len]; omega), flat2_len, show L.length * 2 + 1 - L.length * 2 = 1 by omega]
  rfl
end Go.Proofs.Ytailoeloonnoeaa.Stb
/- The library's exchanges at rows of two cells each: what comes of swapRangeCmpFunc and rotateCmpFunc. -/
namespace Go.Proofs.Ytailoeloonnoeaa.Stb
open Go.RowKit
variable {α : Type}
theorem hid {p : Prop} (h : p) : Hid p := h
abbrev Row (enc : α → Value × Value) (base g c n : Nat) (d : List α) (w : World) : Prop := w.ownsRow base 40 2 (.slice (some ⟨g, 0, none⟩) n c) n (flat2 enc d)
theorem row_len {enc : α → Value × Value} {base g c n : Nat} {d : List α} {w : World} (h : Row enc base g c n d w) : d.length = n := by
  have := h.1
  rw [flat2_len] at this
  omega
theorem row_at {enc : α → Value × Value} {base g c n : Nat} {L R : List α} {x : α} {w : World} (h : Row enc base g c n (L ++ x :: R) w) : w.cell? ⟨g, L.length * 2, none⟩ = some (enc x).1 ∧ w.cell? ⟨g, L.length * 2 + 1, none⟩ = some (enc x).2 := by
  have hl := row_len h
  simp at hl
  obtain ⟨h1, h2⟩ := flat2_get enc L R x
  exact ⟨(h.cellAt (L.length * 2) (by omega)).trans h1, (h.cellAt (L.length * 2 + 1) (by omega)).trans h2⟩
theorem row_set {enc : α → Value × Value} {base g c n : Nat} {L R : List α} {x : α} {w : World} (h : Row enc base g c n (L ++ x :: R) w) (y : α) : Row enc base g c n (L ++ y :: R) ((w.setCell ⟨g, L.length * 2, none⟩ (enc y).1).setCell ⟨g, L.length * 2 + 1, none⟩ (enc y).2) := by
  have := ((h.stored (L.length * 2) (enc y).1).1.stored (L.length * 2 + 1) (enc y).2).1
  rw [flat2_set] at this
  exact this
theorem row_drew {enc : α → Value × Value} {base g c n : Nat} {d : List α} {w : World} (h : Row enc base g c n d w) : Row enc base g c n d w.drew := h
theorem gr_set {w w' : World} {g : Nat} (h : w.grownBy w' (some g)) (o : Nat) (v : Value) : w.grownBy (w'.setCell ⟨g, o, none⟩ v) (some g) :=
  ⟨h.os, h.tape, h.output, by have := h.size; simpa using this, fun k hk hne => by
    rw [← h.block k hk hne]
    show (w'.heap.modify g _)[k]? = _
    rw [Array.getElem?_modify, if_neg (by intro e; exact hne (by rw [e]))]⟩
theorem gr_refl (w : World) (g : Nat) : w.grownBy w (some g) := ⟨rfl, rfl, rfl, Nat.le_refl _, fun _ _ _ => rfl⟩
theorem gr_drew {w w' : World} {g : Nat} (h : w.grownBy w' (some g)) : w.grownBy w'.drew (some g) := ⟨h.os, h.tape, h.output, h.size, h.block⟩
theorem gr_trans {w w' w'' : World} {g : Nat} (h : w.grownBy w' (some g)) (k : w'.grownBy w'' (some g)) : w.grownBy w'' (some g) :=
  ⟨k.os.trans h.os, k.tape.trans h.tape, k.output.trans h.output, Nat.le_trans h.size k.size, fun i hi hne => (k.block i (Nat.lt_of_lt_of_le hi h.size) hne).trans (h.block i hi hne)⟩
theorem gr_below {w w' w'' : World} {g : Nat} (h : w.grownBy w' (some g)) (k : Below w'.heap.size w' w'') : w.grownBy w'' (some g) :=
  ⟨k.os.trans h.os, k.tape.trans h.tape, k.output.trans h.output, Nat.le_trans h.size k.size, fun i hi hne => (k.block i (Nat.lt_of_lt_of_le hi h.size)).trans (h.block i hi hne)⟩
/-- What an exchange reads, and what it leaves, the lower place being written first. -/
structure Exch (enc : α → Value × Value) (base g c n : Nat) (w0 w : World) (i j : Nat) (x y : α) (d' : List α) : Prop where
  a0 : w.cell? ⟨g, i * 2, none⟩ = some (enc x).1
  a1 : w.cell? ⟨g, i * 2 + 1, none⟩ = some (enc x).2
  b0 : w.cell? ⟨g, j * 2, none⟩ = some (enc y).1
  b1 : w.cell? ⟨g, j * 2 + 1, none⟩ = some (enc y).2
  fz : ∀ o, w.frozen? ⟨g, o, none⟩ = false
  lo : Row enc base g c n d' ((((w.setCell ⟨g, i * 2, none⟩ (enc y).1).setCell ⟨g, i * 2 + 1, none⟩ (enc y).2).setCell ⟨g, j * 2, none⟩ (enc x).1).setCell ⟨g, j * 2 + 1, none⟩ (enc x).2)
  hi : Row enc base g c n d' ((((w.setCell ⟨g, j * 2, none⟩ (enc x).1).setCell ⟨g, j * 2 + 1, none⟩ (enc x).2).setCell ⟨g, i * 2, none⟩ (enc y).1).setCell ⟨g, i * 2 + 1, none⟩ (enc y).2)
theorem exch {enc : α → Value × Value} {base g c n : Nat} {w0 w : World} {L M R : List α} {x y : α} (h : Row enc base g c n (L ++ x :: (M ++ y :: R)) w) : Exch enc base g c n w0 w L.length (L.length + 1 + M.length) x y (L ++ y :: (M ++ x :: R)) := by
  have e1 : L ++ x :: (M ++ y :: R) = (L ++ x :: M) ++ y :: R := by simp
  have h2 : Row enc base g c n ((L ++ x :: M) ++ y :: R) w := by rw [← e1]; exact h
  have e2 : (L ++ x :: M).length = L.length + 1 + M.length := by simp; omega
  obtain ⟨a0, a1⟩ := row_at h
  obtain ⟨b0, b1⟩ := row_at h2
  rw [e2] at b0 b1
  refine ⟨a0, a1, b0, b1, fun o => h.frozenAt o, ?_, ?_⟩
  · have k1 := row_set h y
    have e3 : L ++ y :: (M ++ y :: R) = (L ++ y :: M) ++ y :: R := by simp
    have e4 : (L ++ y :: M).length = L.length + 1 + M.length := by simp; omega
    have k2 := k1
    rw [e3] at k2
    have k3 := row_set k2 x
    rw [e4] at k3
    have e5 : (L ++ y :: M) ++ x :: R = L ++ y :: (M ++ x :: R) := by simp
    rw [e5] at k3
    exact k3
  · have k1 := row_set h2 x
    rw [e2] at k1
    have e3 : (L ++ x :: M) ++ x :: R = L ++ x :: (M ++ x :: R) := by simp
    rw [e3] at k1
    exact row_set k1 y
end Go.Proofs.Ytailoeloonnoeaa.Stb
/- The library's exchanges at series: what comes of swapRangeCmpFunc. -/
namespace Go.Proofs.Ytailoeloonnoeaa.Stb
open Go.RowKit
variable {α : Type}
abbrev encS (sl : α → (Option Addr × Nat × Nat) × (Option Addr × Nat × Nat)) (x : α) : Value × Value := (.slice (sl x).1.1 (sl x).1.2.1 (sl x).1.2.2, .slice (sl x).2.1 (sl x).2.2.1 (sl x).2.2.2)
abbrev fvC : Value := .func (.func 24) #[] #[]
set_option maxHeartbeats 4000000 in
set_option maxRecDepth 100000 in
theorem fSwap (sl : α → (Option Addr × Nat × Nat) × (Option Addr × Nat × Nat)) (base g c n ia ib k : Nat) (P A M B Q : List α) (w : World) (hn : n ≤ 1048576) (hia : P.length = ia) (hib : ia + k + M.length = ib) (hA : A.length = k) (hB : B.length = k) (hr : Row (encS sl) base g c n (P ++ (A ++ (M ++ (B ++ Q)))) w) :
    Calls Try.prog 87 #[.slice (some ⟨g, 0, none⟩) n c, .int .i64 ia, .int .i64 ib, .int .i64 k, fvC] w fun e w' => e = .returned (.tuple #[]) ∧ Row (encS sl) base g c n (P ++ (B ++ (M ++ (A ++ Q)))) w' ∧ w.grownBy w' (some g) := by
  have hl := row_len hr
  simp only [List.length_append] at hl
  have HR := hid hr
  have HIA := hid hia
  have HIB := hid hib
  have HA := hid hA
  have HB := hid hB
  have HL := hid hl
  have q1 : ia ≤ 1048576 := by omega
  have q2 : ib ≤ 1048576 := by omega
  have q3 : k ≤ 1048576 := by omega
  clear hr hia hib hA hB hl
  go_enter Try.func87, Try.ntmps87
  go_wp2
  go_loopw [10] (fun si wr => ∃ A1 A2 B1 B2 : List α, A = A1 ++ A2 ∧ B = B1 ++ B2 ∧ B1.length = A1.length ∧ si = .int .i64 A1.length ∧ Hid (Row (encS sl) base g c n (P ++ (B1 ++ (A2 ++ (M ++ (A1 ++ (B2 ++ Q)))))) wr) ∧ Hid (w.grownBy wr (some g))) (fun si _ => k - (intOf si).toNat)
  case atStart => exact ⟨[], A, [], B, rfl, rfl, rfl, rfl, HR.out, gr_refl _ _⟩
  case round =>
    obtain ⟨A1, A2, B1, B2, hA12, hB12, hBA, rfl, HRw, HG⟩ := hrel
    have hk1 : A1.length + A2.length = k := by rw [← HA.out, hA12, List.length_append]
    have hk2 : B1.length + B2.length = k := by rw [← HB.out, hB12, List.length_append]
    cases A2 with
    | nil =>
      cases B2 with
      | cons y B2 => simp at hk1 hk2; omega
      | nil =>
        have HF : Hid (Row (encS sl) base g c n (P ++ (B ++ (M ++ (A ++ Q)))) wr) := by
          have h1 := HRw.out
          simp only [List.nil_append] at h1
          unfold Hid; rw [hA12, hB12, List.append_nil, List.append_nil]; exact h1
        have hz : A1.length = k := by simpa using hk1
        clear hA12 hB12 hk1 hk2
        rw [hz]
        go_wp2
        go_end0
        exact ⟨rfl, HF.out, HG.out⟩
    | cons x A2 =>
      cases B2 with
      | nil => simp at hk1 hk2; omega
      | cons y B2 =>
        have hlt : A1.length < k := by simp at hk1; omega
        have HEX : Hid (Exch (encS sl) base g c n w wr.drew (P ++ B1).length ((P ++ B1).length + 1 + (A2 ++ (M ++ A1)).length) x y ((P ++ B1) ++ y :: ((A2 ++ (M ++ A1)) ++ x :: (B2 ++ Q)))) := by
          refine exch ?_
          have h1 := HRw.out
          have e : (P ++ B1) ++ x :: ((A2 ++ (M ++ A1)) ++ y :: (B2 ++ Q)) = P ++ (B1 ++ (x :: A2 ++ (M ++ (A1 ++ (y :: B2 ++ Q))))) := by simp
          rw [e]; exact h1
        have e1 : (P ++ B1).length = ia + A1.length := by rw [List.length_append, HIA.out, hBA]
        have e2 : (P ++ B1).length + 1 + (A2 ++ (M ++ A1)).length = ib + A1.length := by
          have := HIB.out; have := HIA.out
          simp at hk1 ⊢; omega
        rw [e2, e1] at HEX
        have HE3 : Hid ((P ++ B1) ++ y :: ((A2 ++ (M ++ A1)) ++ x :: (B2 ++ Q)) = P ++ ((B1 ++ [y]) ++ (A2 ++ (M ++ ((A1 ++ [x]) ++ (B2 ++ Q)))))) := by unfold Hid; simp
        rw [HE3.out] at HEX
        have HHA := hid hA12
        have HHB := hid hB12
        have hjn : ib + A1.length < n := by have := HL.out; have := HIB.out; have := HIA.out; have := HA.out; have := HB.out; omega
        have hij : ia + A1.length < n := by have := HIB.out; omega
        generalize ht : A1.length = t at *
        have HT := hid ht
        obtain ⟨i, hi⟩ : ∃ i, i = ia + t := ⟨_, rfl⟩
        obtain ⟨j, hj⟩ : ∃ j, j = ib + t := ⟨_, rfl⟩
        rw [← hi] at HEX hij
        rw [← hj] at HEX hjn
        have hw1 : IntKind.i64.wrap ((ia : Int) + (t : Int)) = (i : Int) := by rw [IntKind.wrap_i64]; omega
        have hw2 : IntKind.i64.wrap ((ib : Int) + (t : Int)) = (j : Int) := by rw [IntKind.wrap_i64]; omega
        have i1 : (i : Int) < (n : Int) := by omega
        have j1 : (j : Int) < (n : Int) := by omega
        have i0 : (0 : Int) ≤ (i : Int) := by omega
        have j0 : (0 : Int) ≤ (j : Int) := by omega
        have hlt' : (t : Int) < (k : Int) := by omega
        have hij2 : i < j := by have := HIB.out; have := HIA.out; have := HA.out; omega
        have HG2 := hid (gr_set (gr_set (gr_set (gr_set (gr_drew HG.out) (i * 2) (encS sl y).1) (i * 2 + 1) (encS sl y).2) (j * 2) (encS sl x).1) (j * 2 + 1) (encS sl x).2)
        have HN2 := hid HEX.out.lo
        have a0 := HEX.out.a0
        have a1 := HEX.out.a1
        have b0 := HEX.out.b0
        have b1 := HEX.out.b1
        have f1 := HEX.out.fz (i * 2)
        have f2 := HEX.out.fz (i * 2 + 1)
        have f3 := HEX.out.fz (j * 2)
        have f4 := HEX.out.fz (j * 2 + 1)
        simp only at a0 a1 b0 b1
        have HIJ := hid (And.intro hi hj)
        clear hi hj hA12 hB12 hk1 hk2 e1 e2
        go_wp2_with fail
        refine wp_region_held_drew (S := fun _ => True) rfl trivial (fun _ => ?_)
        generalize wr.drew = wd at *
        refine wpAnyH_take (i := 0) (oi := { dst := some 16, op := _, type := _, pos := _, after := _, guard := _ }) (v := .slice (some ⟨g, 0, none⟩) n c) rfl (by kernel_rfl) (by kernel_rfl) (by kernel_rfl) (fun _ _ _ h => h) (Or.inl ⟨by rfl, fun w hSw => by go_simp⟩) (by trivial) ?_
        try simp only [Act.put, List.setIfInBounds_toArray, List.set_cons_zero, List.set_cons_succ]
        refine wpAnyH_take (i := 1) (oi := { dst := some 17, op := _, type := _, pos := _, after := _, guard := _ }) (v := .int .i64 (ia : Int)) rfl (by kernel_rfl) (by kernel_rfl) (by kernel_rfl) (fun _ _ _ h => h) (Or.inl ⟨by rfl, fun w hSw => by go_simp⟩) (by trivial) ?_
        try simp only [Act.put, List.setIfInBounds_toArray, List.set_cons_zero, List.set_cons_succ]
        refine wpAnyH_take (i := 2) (oi := { dst := some 18, op := _, type := _, pos := _, after := _, guard := _ }) (v := .int .i64 (t : Int)) rfl (by kernel_rfl) (by kernel_rfl) (by kernel_rfl) (fun _ _ _ h => h) (Or.inl ⟨by rfl, fun w hSw => by go_simp⟩) (by trivial) ?_
        try simp only [Act.put, List.setIfInBounds_toArray, List.set_cons_zero, List.set_cons_succ]
        refine wpAnyH_take (i := 3) (oi := { dst := some 19, op := _, type := _, pos := _, after := _, guard := _ }) (v := .int .i64 (i : Int)) rfl (by kernel_rfl) (by kernel_rfl) (by kernel_rfl) (fun _ _ _ h => h) (Or.inl ⟨by rfl, fun w hSw => by go_simp⟩) (by trivial) ?_
        try simp only [Act.put, List.setIfInBounds_toArray, List.set_cons_zero, List.set_cons_succ]
        refine wpAnyH_take (i := 4) (oi := { dst := some 20, op := _, type := _, pos := _, after := _, guard := _ }) (v := .slice (some ⟨g, 0, none⟩) n c) rfl (by kernel_rfl) (by kernel_rfl) (by kernel_rfl) (fun _ _ _ h => h) (Or.inl ⟨by rfl, fun w hSw => by go_simp⟩) (by trivial) ?_
        try simp only [Act.put, List.setIfInBounds_toArray, List.set_cons_zero, List.set_cons_succ]
        refine wpAnyH_take (i := 5) (oi := { dst := some 21, op := _, type := _, pos := _, after := _, guard := _ }) (v := .int .i64 (ib : Int)) rfl (by kernel_rfl) (by kernel_rfl) (by kernel_rfl) (fun _ _ _ h => h) (Or.inl ⟨by rfl, fun w hSw => by go_simp⟩) (by trivial) ?_
        try simp only [Act.put, List.setIfInBounds_toArray, List.set_cons_zero, List.set_cons_succ]
        refine wpAnyH_take (i := 6) (oi := { dst := some 22, op := _, type := _, pos := _, after := _, guard := _ }) (v := .int .i64 (t : Int)) rfl (by kernel_rfl) (by kernel_rfl) (by kernel_rfl) (fun _ _ _ h => h) (Or.inl ⟨by rfl, fun w hSw => by go_simp⟩) (by trivial) ?_
        try simp only [Act.put, List.setIfInBounds_toArray, List.set_cons_zero, List.set_cons_succ]
        refine wpAnyH_take (i := 7) (oi := { dst := some 23, op := _, type := _, pos := _, after := _, guard := _ }) (v := .int .i64 (j : Int)) rfl (by kernel_rfl) (by kernel_rfl) (by kernel_rfl) (fun _ _ _ h => h) (Or.inl ⟨by rfl, fun w hSw => by go_simp⟩) (by trivial) ?_
        try simp only [Act.put, List.setIfInBounds_toArray, List.set_cons_zero, List.set_cons_succ]
        refine wpAnyH_take (i := 8) (oi := { dst := some 24, op := _, type := _, pos := _, after := _, guard := _ }) (v := .slice (some ⟨g, 0, none⟩) n c) rfl (by kernel_rfl) (by kernel_rfl) (by kernel_rfl) (fun _ _ _ h => h) (Or.inl ⟨by rfl, fun w hSw => by go_simp⟩) (by trivial) ?_
        try simp only [Act.put, List.setIfInBounds_toArray, List.set_cons_zero, List.set_cons_succ]
        refine wpAnyH_take (i := 9) (oi := { dst := some 25, op := _, type := _, pos := _, after := _, guard := _ }) (v := .int .i64 (ib : Int)) rfl (by kernel_rfl) (by kernel_rfl) (by kernel_rfl) (fun _ _ _ h => h) (Or.inl ⟨by rfl, fun w hSw => by go_simp⟩) (by trivial) ?_
        try simp only [Act.put, List.setIfInBounds_toArray, List.set_cons_zero, List.set_cons_succ]
        refine wpAnyH_take (i := 10) (oi := { dst := some 26, op := _, type := _, pos := _, after := _, guard := _ }) (v := .int .i64 (t : Int)) rfl (by kernel_rfl) (by kernel_rfl) (by kernel_rfl) (fun _ _ _ h => h) (Or.inl ⟨by rfl, fun w hSw => by go_simp⟩) (by trivial) ?_
        try simp only [Act.put, List.setIfInBounds_toArray, List.set_cons_zero, List.set_cons_succ]
        refine wpAnyH_take (i := 11) (oi := { dst := some 27, op := _, type := _, pos := _, after := _, guard := _ }) (v := .int .i64 (j : Int)) rfl (by kernel_rfl) (by kernel_rfl) (by kernel_rfl) (fun _ _ _ h => h) (Or.inl ⟨by rfl, fun w hSw => by go_simp⟩) (by trivial) ?_
        try simp only [Act.put, List.setIfInBounds_toArray, List.set_cons_zero, List.set_cons_succ]
        refine wpAnyH_take (i := 12) (oi := { dst := some 28, op := _, type := _, pos := _, after := _, guard := _ }) (v := .pointer (some ⟨g, j * 2, none⟩)) rfl (by kernel_rfl) (by kernel_rfl) (by kernel_rfl) (fun _ _ _ h => h) (Or.inl ⟨by rfl, fun w hSw => by go_simp⟩) (by trivial) ?_
        try simp only [Act.put, List.setIfInBounds_toArray, List.set_cons_zero, List.set_cons_succ]
        refine wpAnyH_take (i := 14) (oi := { dst := some 30, op := _, type := _, pos := _, after := _, guard := _ }) (v := .slice (some ⟨g, 0, none⟩) n c) rfl (by kernel_rfl) (by kernel_rfl) (by kernel_rfl) (fun _ _ _ h => h) (Or.inl ⟨by rfl, fun w hSw => by go_simp⟩) (by trivial) ?_
        try simp only [Act.put, List.setIfInBounds_toArray, List.set_cons_zero, List.set_cons_succ]
        refine wpAnyH_take (i := 15) (oi := { dst := some 31, op := _, type := _, pos := _, after := _, guard := _ }) (v := .int .i64 (ia : Int)) rfl (by kernel_rfl) (by kernel_rfl) (by kernel_rfl) (fun _ _ _ h => h) (Or.inl ⟨by rfl, fun w hSw => by go_simp⟩) (by trivial) ?_
        try simp only [Act.put, List.setIfInBounds_toArray, List.set_cons_zero, List.set_cons_succ]
        refine wpAnyH_take (i := 16) (oi := { dst := some 32, op := _, type := _, pos := _, after := _, guard := _ }) (v := .int .i64 (t : Int)) rfl (by kernel_rfl) (by kernel_rfl) (by kernel_rfl) (fun _ _ _ h => h) (Or.inl ⟨by rfl, fun w hSw => by go_simp⟩) (by trivial) ?_
        try simp only [Act.put, List.setIfInBounds_toArray, List.set_cons_zero, List.set_cons_succ]
        refine wpAnyH_take (i := 17) (oi := { dst := some 33, op := _, type := _, pos := _, after := _, guard := _ }) (v := .int .i64 (i : Int)) rfl (by kernel_rfl) (by kernel_rfl) (by kernel_rfl) (fun _ _ _ h => h) (Or.inl ⟨by rfl, fun w hSw => by go_simp⟩) (by trivial) ?_
        try simp only [Act.put, List.setIfInBounds_toArray, List.set_cons_zero, List.set_cons_succ]
        refine wpAnyH_take (i := 18) (oi := { dst := some 34, op := _, type := _, pos := _, after := _, guard := _ }) (v := .pointer (some ⟨g, i * 2, none⟩)) rfl (by kernel_rfl) (by kernel_rfl) (by kernel_rfl) (fun _ _ _ h => h) (Or.inl ⟨by rfl, fun w hSw => by go_simp⟩) (by trivial) ?_
        try simp only [Act.put, List.setIfInBounds_toArray, List.set_cons_zero, List.set_cons_succ]
        refine wpAnyH_ready (rs := [13, 19]) (by kernel_rfl) (by simp) (AllReadyH.cons (o := { dst := some 29, op := _, type := _, pos := _, after := _, guard := _ }) rfl ?_ (AllReadyH.cons (o := { dst := some 35, op := _, type := _, pos := _, after := _, guard := _ }) rfl ?_ AllReadyH.nil))
        · intro K1 hK1
          go_simp
          refine hK1.out _ _ trivial (fun _ => ?_)
          clear hK1 K1
          try simp only [Act.put, List.setIfInBounds_toArray, List.set_cons_zero, List.set_cons_succ]
          refine wpAnyH_ready (rs := [19]) (by kernel_rfl) (by simp) (AllReadyH.cons (o := { dst := some 35, op := _, type := _, pos := _, after := _, guard := _ }) rfl ?_ AllReadyH.nil)
          intro K2 hK2
          go_simp
          refine hK2.out _ _ trivial (fun _ => ?_)
          clear hK2 K2
          try simp only [Act.put, List.setIfInBounds_toArray, List.set_cons_zero, List.set_cons_succ]
          refine wpAnyH_take (i := 20) (oi := { dst := some 36, op := _, type := _, pos := _, after := _, guard := _ }) (v := .pointer (some ⟨g, i * 2, none⟩)) rfl (by kernel_rfl) (by kernel_rfl) (by kernel_rfl) (fun _ _ _ h => h) (Or.inl ⟨by rfl, fun w hSw => by go_simp⟩) (by trivial) ?_
          try simp only [Act.put, List.setIfInBounds_toArray, List.set_cons_zero, List.set_cons_succ]
          refine wpAnyH_ready (rs := [21]) (by kernel_rfl) (by simp) (AllReadyH.cons (o := { dst := none, op := _, type := _, pos := _, after := _, guard := _ }) rfl ?_ AllReadyH.nil)
          intro K3 hK3
          go_simp
          refine hK3.out _ _ trivial (fun _ => ?_)
          clear hK3 K3
          try simp only [Act.put, List.setIfInBounds_toArray, List.set_cons_zero, List.set_cons_succ]
          refine wpAnyH_take (i := 22) (oi := { dst := some 37, op := _, type := _, pos := _, after := _, guard := _ }) (v := .pointer (some ⟨g, j * 2, none⟩)) rfl (by kernel_rfl) (by kernel_rfl) (by kernel_rfl) (fun _ _ _ h => h) (Or.inl ⟨by rfl, fun w hSw => by go_simp⟩) (by trivial) ?_
          try simp only [Act.put, List.setIfInBounds_toArray, List.set_cons_zero, List.set_cons_succ]
          refine wpAnyH_ready (rs := [23]) (by kernel_rfl) (by simp) (AllReadyH.cons (o := { dst := none, op := _, type := _, pos := _, after := _, guard := _ }) rfl ?_ AllReadyH.nil)
          intro K4 hK4
          go_simp
          refine hK4.out _ _ trivial (fun _ => ?_)
          clear hK4 K4
          try simp only [Act.put, List.setIfInBounds_toArray, List.set_cons_zero, List.set_cons_succ]
          refine wpAnyH_done (by kernel_rfl) ?_ _
          go_wp2
          go_roundw
          case rel => exact ⟨A1 ++ [x], A2, B1 ++ [y], B2, by rw [HHA.out]; simp, by rw [HHB.out]; simp, by simp [hBA, ht], by simp [ht], HN2.out, HG2.out⟩
          case measure => simp [intOf]; omega
        · intro K5 hK5
          go_simp
          refine hK5.out _ _ trivial (fun _ => ?_)
          clear hK5 K5
          try simp only [Act.put, List.setIfInBounds_toArray, List.set_cons_zero, List.set_cons_succ]
          refine wpAnyH_ready (rs := [13]) (by kernel_rfl) (by simp) (AllReadyH.cons (o := { dst := some 29, op := _, type := _, pos := _, after := _, guard := _ }) rfl ?_ AllReadyH.nil)
          intro K6 hK6
          go_simp
          refine hK6.out _ _ trivial (fun _ => ?_)
          clear hK6 K6
          try simp only [Act.put, List.setIfInBounds_toArray, List.set_cons_zero, List.set_cons_succ]
          refine wpAnyH_take (i := 20) (oi := { dst := some 36, op := _, type := _, pos := _, after := _, guard := _ }) (v := .pointer (some ⟨g, i * 2, none⟩)) rfl (by kernel_rfl) (by kernel_rfl) (by kernel_rfl) (fun _ _ _ h => h) (Or.inl ⟨by rfl, fun w hSw => by go_simp⟩) (by trivial) ?_
          try simp only [Act.put, List.setIfInBounds_toArray, List.set_cons_zero, List.set_cons_succ]
          refine wpAnyH_ready (rs := [21]) (by kernel_rfl) (by simp) (AllReadyH.cons (o := { dst := none, op := _, type := _, pos := _, after := _, guard := _ }) rfl ?_ AllReadyH.nil)
          intro K7 hK7
          go_simp
          refine hK7.out _ _ trivial (fun _ => ?_)
          clear hK7 K7
          try simp only [Act.put, List.setIfInBounds_toArray, List.set_cons_zero, List.set_cons_succ]
          refine wpAnyH_take (i := 22) (oi := { dst := some 37, op := _, type := _, pos := _, after := _, guard := _ }) (v := .pointer (some ⟨g, j * 2, none⟩)) rfl (by kernel_rfl) (by kernel_rfl) (by kernel_rfl) (fun _ _ _ h => h) (Or.inl ⟨by rfl, fun w hSw => by go_simp⟩) (by trivial) ?_
          try simp only [Act.put, List.setIfInBounds_toArray, List.set_cons_zero, List.set_cons_succ]
          refine wpAnyH_ready (rs := [23]) (by kernel_rfl) (by simp) (AllReadyH.cons (o := { dst := none, op := _, type := _, pos := _, after := _, guard := _ }) rfl ?_ AllReadyH.nil)
          intro K8 hK8
          go_simp
          refine hK8.out _ _ trivial (fun _ => ?_)
          clear hK8 K8
          try simp only [Act.put, List.setIfInBounds_toArray, List.set_cons_zero, List.set_cons_succ]
          refine wpAnyH_done (by kernel_rfl) ?_ _
          go_wp2
          go_roundw
          case rel => exact ⟨A1 ++ [x], A2, B1 ++ [y], B2, by rw [HHA.out]; simp, by rw [HHB.out]; simp, by simp [hBA, ht], by simp [ht], HN2.out, HG2.out⟩
          case measure => simp [intOf]; omega
end Go.Proofs.Ytailoeloonnoeaa.Stb
/- The library's rotateCmpFunc at series: two blocks change places. -/
namespace Go.Proofs.Ytailoeloonnoeaa.Stb
open Go.RowKit
variable {α : Type}
set_option maxHeartbeats 4000000 in
theorem fRot (sl : α → (Option Addr × Nat × Nat) × (Option Addr × Nat × Nat)) (base g c n ia im ib : Nat) (P U V Q : List α) (w : World) (hn : n ≤ 1048576) (hia : P.length = ia) (him : ia + U.length = im) (hib : im + V.length = ib) (hU : 0 < U.length) (hV : 0 < V.length) (hr : Row (encS sl) base g c n (P ++ (U ++ (V ++ Q))) w) :
    Calls Try.prog 79 #[.slice (some ⟨g, 0, none⟩) n c, .int .i64 ia, .int .i64 im, .int .i64 ib, fvC] w fun e w' => e = .returned (.tuple #[]) ∧ Row (encS sl) base g c n (P ++ (V ++ (U ++ Q))) w' ∧ w.grownBy w' (some g) := by
  have hl := row_len hr
  simp only [List.length_append] at hl
  have HR := hid hr
  have HIA := hid hia
  have q1 : im ≤ 1048576 := by omega
  have q2 : ib ≤ 1048576 := by omega
  have q3 : ia ≤ 1048576 := by omega
  have w1 : (im : Int) - (ia : Int) = (U.length : Int) := by omega
  have w2 : (ib : Int) - (im : Int) = (V.length : Int) := by omega
  have HST : Hid (P.length + U.length = im) := by unfold Hid; omega
  have u1 : U.length ≤ 1048576 := by omega
  have v1 : V.length ≤ 1048576 := by omega
  have v2 : im + V.length ≤ 1048576 := by omega
  clear hr hia him hib
  go_enter Try.func79, Try.ntmps79
  go_wp2
  clear w1 w2
  go_loopw [10, 11] (fun si sj wr => ∃ P' A B Q' : List α, si = .int .i64 A.length ∧ sj = .int .i64 B.length ∧ 0 < A.length ∧ 0 < B.length ∧ P'.length + A.length = im ∧ im + B.length ≤ 1048576 ∧ Hid (Row (encS sl) base g c n (P' ++ (A ++ (B ++ Q'))) wr) ∧ Hid (P' ++ (B ++ (A ++ Q')) = P ++ (V ++ (U ++ Q))) ∧ Hid (w.grownBy wr (some g))) (fun si sj _ => (intOf si).toNat + (intOf sj).toNat)
  case atStart => exact ⟨P, U, V, Q, rfl, rfl, hU, hV, HST.out, by omega, HR.out, rfl, gr_refl _ _⟩
  case round =>
    obtain ⟨P', A, B, Q', rfl, rfl, hA, hB, hPA, hIB, HRw, HE, HG⟩ := hrel
    have HPA := hid hPA
    have k1 : (im : Int) - (A.length : Int) = (P'.length : Int) := by omega
    clear HR HST
    by_cases he : A.length = B.length
    · have hne : ((A.length : Int) != (B.length : Int)) = false := by simp [he]
      have HC := hid (fSwap sl base g c n P'.length im A.length P' A [] B Q' wr hn rfl (by simp; omega) rfl he.symm (by simpa using HRw.out))
      clear he
      go_wp2_with fail
      refine HC.out.mono ?_
      rintro e w1 ⟨rfl, hr1, hg1⟩
      have HF : Hid (Row (encS sl) base g c n (P ++ (V ++ (U ++ Q))) w1) := by
        unfold Hid; rw [← HE.out]; simpa using hr1
      have HGF := hid (gr_trans HG.out hg1)
      clear hr1 hg1
      go_wp2
      go_end0
      exact ⟨rfl, HF.out, HGF.out⟩
    · have hne : ((A.length : Int) != (B.length : Int)) = true := by simp; omega
      by_cases hgt : B.length < A.length
      · have l1 : (A.take B.length).length = B.length := by simp; omega
        have l2 : (A.drop B.length).length = A.length - B.length := by simp
        have HC := hid (fSwap sl base g c n P'.length im B.length P' (A.take B.length) (A.drop B.length) B Q' wr hn rfl (by rw [l2]; omega) l1 rfl (by
          have h1 := HRw.out
          have e : P' ++ (A.take B.length ++ (A.drop B.length ++ (B ++ Q'))) = P' ++ (A ++ (B ++ Q')) := by rw [← List.append_assoc (A.take B.length), List.take_append_drop]
          rw [e]; exact h1))
        have HT : Hid ((P' ++ B) ++ (A.take B.length ++ (A.drop B.length ++ Q')) = P' ++ (B ++ (A ++ Q'))) := by
          unfold Hid
          rw [← List.append_assoc (A.take B.length), List.take_append_drop, List.append_assoc]
        have k2 : (A.length : Int) - (B.length : Int) = ((A.length - B.length : Nat) : Int) := by omega
        clear he
        go_wp2_with fail
        refine HC.out.mono ?_
        rintro e w1 ⟨rfl, hr1, hg1⟩
        have HF : Hid (Row (encS sl) base g c n ((P' ++ B) ++ (A.drop B.length ++ (A.take B.length ++ Q'))) w1) := by
          unfold Hid; simpa using hr1
        have HGF := hid (gr_trans HG.out hg1)
        clear hr1 hg1 k1
        go_wp2
        go_roundw
        case rel => exact ⟨P' ++ B, A.drop B.length, A.take B.length, Q', by rw [l2], by rw [l1], by omega, by omega, by rw [List.length_append, l2]; omega, by omega, HF.out, HT.out.trans HE.out, HGF.out⟩
        case measure => simp [intOf]; omega
      · have hlt : A.length < B.length := by omega
        have l1 : (B.take (B.length - A.length)).length = B.length - A.length := by simp
        have l2 : (B.drop (B.length - A.length)).length = A.length := by simp; omega
        have HC := hid (fSwap sl base g c n P'.length (im + B.length - A.length) A.length P' A (B.take (B.length - A.length)) (B.drop (B.length - A.length)) Q' wr hn rfl (by rw [l1]; omega) rfl l2 (by
          have h1 := HRw.out
          have e : P' ++ (A ++ (B.take (B.length - A.length) ++ (B.drop (B.length - A.length) ++ Q'))) = P' ++ (A ++ (B ++ Q')) := by rw [← List.append_assoc (B.take (B.length - A.length)), List.take_append_drop]
          rw [e]; exact h1))
        have HT : Hid (P' ++ (B.take (B.length - A.length) ++ (B.drop (B.length - A.length) ++ (A ++ Q'))) = P' ++ (B ++ (A ++ Q'))) := by
          unfold Hid
          rw [← List.append_assoc (B.take (B.length - A.length)), List.take_append_drop]
        have k2 : (B.length : Int) - (A.length : Int) = ((B.length - A.length : Nat) : Int) := by omega
        have k3 : (im : Int) + (B.length : Int) - (A.length : Int) = ((im + B.length - A.length : Nat) : Int) := by omega
        clear he
        go_wp2_with fail
        refine HC.out.mono ?_
        rintro e w1 ⟨rfl, hr1, hg1⟩
        have HF : Hid (Row (encS sl) base g c n (P' ++ (B.drop (B.length - A.length) ++ (B.take (B.length - A.length) ++ (A ++ Q')))) w1) := by
          unfold Hid; simpa using hr1
        have HGF := hid (gr_trans HG.out hg1)
        clear hr1 hg1 k1 k3
        go_wp2
        go_roundw
        case rel => exact ⟨P', B.drop (B.length - A.length), B.take (B.length - A.length), A ++ Q', by rw [l2], by rw [l1], by omega, by omega, by rw [l2]; omega, by omega, HF.out, HT.out.trans HE.out, HGF.out⟩
        case measure => simp [intOf]; omega
end Go.Proofs.Ytailoeloonnoeaa.Stb
