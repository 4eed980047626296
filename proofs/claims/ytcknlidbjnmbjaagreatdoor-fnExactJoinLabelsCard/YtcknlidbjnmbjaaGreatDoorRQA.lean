/- Lists of rules: how they lie in memory. -/
import Derived.Test.YtcknlidbjnmbjaaGreatDoorRRA
import Derived.Deep.RegionHeld3
namespace Go.Proofs.YtcknlidbjnmbjaaGreatDoor.Rul
open Go.RowKit Go.Proofs.YtcknlidbjnmbjaaGreatDoor.Fil Go.Proofs.YtcknlidbjnmbjaaGreatDoor.Rel

/-- A rule as it lies in memory: the rule, and where its names lie. -/
structure Q where
  r : Rule
  a : Option Addr
  c : Nat
def q0 : Q := ⟨⟨0, [], ⟨#[]⟩, ⟨#[]⟩, ⟨#[]⟩, ⟨#[]⟩, 0⟩, none, 0⟩
def cl (q : Q) : List Value := [.int .i64 q.r.act, .slice q.a q.r.from'.length q.c, .string q.r.sep, .string q.r.pat, .string q.r.tgt, .string q.r.val, .int .i64 q.r.md]
abbrev agQ (q : Q) : Value := agR q.r q.a q.r.from'.length q.c
def flat (L : List Q) : List Value := L.flatMap cl
theorem flat_cons (q : Q) (L : List Q) : flat (q :: L) = cl q ++ flat L := rfl
theorem flat_len (L : List Q) : (flat L).length = L.length * 7 := by
  induction L with
  | nil => rfl
  | cons q L ih => rw [flat_cons, List.length_append, ih, show (cl q).length = 7 from rfl, List.length_cons]; omega
theorem flat_at : ∀ (L : List Q) (m : Nat), (flat L)[m]? = if m < L.length * 7 then (cl (L.getD (m / 7) q0))[m % 7]? else none := by
  intro L
  induction L with
  | nil => intro m; simp [flat]
  | cons q L ih =>
    intro m
    rw [flat_cons]
    by_cases h : m < 7
    · rw [List.getElem?_append_left (by rw [show (cl q).length = 7 from rfl]; exact h), if_pos (by simp; omega)]
      rw [show m / 7 = 0 from by omega, show m % 7 = m from by omega]
      rfl
    · rw [List.getElem?_append_right (by rw [show (cl q).length = 7 from rfl]; omega), show (cl q).length = 7 from rfl, ih]
      by_cases h2 : m - 7 < L.length * 7
      · rw [if_pos h2, if_pos (by simp; omega), show m / 7 = (m - 7) / 7 + 1 from by omega, show m % 7 = (m - 7) % 7 from by omega]
        rfl
      · rw [if_neg h2, if_neg (by simp; omega)]
theorem flat_get (L : List Q) (i j : Nat) (hi : i < L.length) (hj : j < 7) : (flat L)[i * 7 + j]? = (cl (L.getD i q0))[j]? := by
  rw [flat_at, if_pos (by omega), show (i * 7 + j) / 7 = i from by omega, show (i * 7 + j) % 7 = j from by omega]
/-- A row of cells, from a place on written anew. -/
def setN (l : List Value) (o : Nat) : List Value → List Value
  | [] => l
  | v :: vs => setN (l.set o v) (o + 1) vs
theorem setN_len : ∀ (vs l : List Value) (o : Nat), (setN l o vs).length = l.length := by
  intro vs
  induction vs with
  | nil => intro l o; rfl
  | cons v vs ih => intro l o; rw [setN, ih]; simp
theorem setN_get : ∀ (vs l : List Value) (o m : Nat), (setN l o vs)[m]? = if o ≤ m ∧ m < o + vs.length ∧ m < l.length then vs[m - o]? else l[m]? := by
  intro vs
  induction vs with
  | nil => intro l o m; rw [setN, if_neg (by simp; omega)]
  | cons v vs ih =>
    intro l o m
    rw [setN, ih, List.length_set, List.getElem?_set]
    by_cases h1 : o + 1 ≤ m ∧ m < o + 1 + vs.length ∧ m < l.length
    · rw [if_pos h1, if_pos (by simp; omega), show m - o = (m - (o + 1)) + 1 from by omega]
      rfl
    · rw [if_neg h1]
      by_cases h2 : o = m
      · subst h2
        rw [if_pos rfl]
        by_cases h3 : o < l.length
        · rw [if_pos h3, if_pos (by simp; omega), Nat.sub_self]; rfl
        · rw [if_neg h3, if_neg (by omega), List.getElem?_eq_none (by omega)]
      · rw [if_neg h2, if_neg (by simp; omega)]
theorem flat_set (L : List Q) (i : Nat) (q : Q) (hi : i < L.length) : setN (flat L) (i * 7) (cl q) = flat (L.set i q) := by
  apply List.ext_getElem?
  intro m
  rw [setN_get, flat_at L, flat_len, show (cl q).length = 7 from rfl, flat_at, List.length_set]
  by_cases h1 : i * 7 ≤ m ∧ m < i * 7 + 7 ∧ m < L.length * 7
  · rw [if_pos h1, if_pos h1.2.2]
    have e1 : m / 7 = i := by omega
    have e2 : m % 7 = m - i * 7 := by omega
    rw [e1, e2, List.getD_eq_getElem?_getD, List.getElem?_set, if_pos rfl, if_pos hi]
    rfl
  · rw [if_neg h1]
    by_cases h2 : m < L.length * 7
    · rw [if_pos h2, if_pos h2, List.getD_eq_getElem?_getD, List.getD_eq_getElem?_getD, List.getElem?_set, if_neg (by omega)]
    · rw [if_neg h2, if_neg h2]

/-- The slice that begins at 'a' holds the rules 'qs' in the world 'w'. -/
def HasR (w : World) (a : Option Addr) (qs : List Q) : Prop :=
  qs = [] ∨ ∃ b off, a = some ⟨b, off, none⟩ ∧ b < w.heap.size ∧ ∀ i, i < qs.length → (∀ j, j < 7 → w.cell? ⟨b, off + i * 7 + j, none⟩ = (cl (qs.getD i q0))[j]?) ∧ HasT w (qs.getD i q0).a (qs.getD i q0).r.from'
theorem HasR.below {w w' : World} {a : Option Addr} {qs : List Q} (h : HasR w a qs) (hb : Below w.heap.size w w') : HasR w' a qs := by
  rcases h with h | ⟨b, off, h1, h2, h3⟩
  · exact .inl h
  · exact .inr ⟨b, off, h1, Nat.lt_of_lt_of_le h2 hb.size, fun i hi => ⟨fun j hj => (hb.cell (by exact h2)).trans ((h3 i hi).1 j hj), (h3 i hi).2.below hb⟩⟩
theorem HasR.alloc {w : World} {a : Option Addr} {qs : List Q} (h : HasR w a qs) (o : Obj) : HasR (w.alloc o) a qs := h.below ((Below.refl _ _).alloc (Nat.le_refl _) o)
/-- The seven cells of the rule at a place. -/
theorem HasR.at7 {w : World} {a : Option Addr} {qs : List Q} (h : HasR w a qs) (i : Nat) (hi : i < qs.length) : ∃ b off, a = some ⟨b, off, none⟩ ∧ b < w.heap.size ∧
    w.cell? ⟨b, off + i * 7, none⟩ = some (.int .i64 (qs.getD i q0).r.act) ∧ w.cell? ⟨b, off + i * 7 + 1, none⟩ = some (.slice (qs.getD i q0).a (qs.getD i q0).r.from'.length (qs.getD i q0).c) ∧ w.cell? ⟨b, off + i * 7 + 2, none⟩ = some (.string (qs.getD i q0).r.sep) ∧ w.cell? ⟨b, off + i * 7 + 3, none⟩ = some (.string (qs.getD i q0).r.pat) ∧ w.cell? ⟨b, off + i * 7 + 4, none⟩ = some (.string (qs.getD i q0).r.tgt) ∧ w.cell? ⟨b, off + i * 7 + 5, none⟩ = some (.string (qs.getD i q0).r.val) ∧ w.cell? ⟨b, off + i * 7 + 6, none⟩ = some (.int .i64 (qs.getD i q0).r.md) ∧ HasT w (qs.getD i q0).a (qs.getD i q0).r.from' := by
  rcases h with h | ⟨b, off, h1, h2, h3⟩
  · rw [h] at hi; simp at hi
  · obtain ⟨h4, h5⟩ := h3 i hi
    exact ⟨b, off, h1, h2, h4 0 (by omega), h4 1 (by omega), h4 2 (by omega), h4 3 (by omega), h4 4 (by omega), h4 5 (by omega), h4 6 (by omega), h5⟩
/-- All texts and numbers are such as a machine can hold. -/
def FitQ (qs : List Q) : Prop := ∀ i, FitR (qs.getD i q0).r ∧ FitT (qs.getD i q0).r.from' ∧ (qs.getD i q0).r.from'.length ≤ maxLen
theorem fit_q0 : FitR q0.r ∧ FitT q0.r.from' ∧ q0.r.from'.length ≤ maxLen := by
  refine ⟨⟨?_, ?_, ?_, ?_, ?_, ?_, ?_, ?_⟩, ?_, ?_⟩
  all_goals first | (simp [q0, maxLen]; done) | (show (0 : Nat) ≤ maxLen; exact Nat.zero_le _) | (intro i; simp [q0, maxLen])
def SmlQ (qs : List Q) : Prop := ∀ i, i < qs.length → SmlR (qs.getD i q0).r
theorem own_rows {w : World} {base g n c E : Nat} {qs : List Q} (h : w.ownsRow base E 7 (.slice (some ⟨g, 0, none⟩) n c) n (flat qs)) (hT : ∀ i, i < qs.length → HasT w (qs.getD i q0).a (qs.getD i q0).r.from') : HasR w (some ⟨g, 0, none⟩) qs := by
  have hl := h.1
  rw [flat_len] at hl
  refine .inr ⟨g, 0, rfl, (h.lt g rfl).2, fun i hi => ⟨fun j hj => ?_, hT i hi⟩⟩
  rw [Nat.zero_add]
  exact (h.cellAt (i * 7 + j) (by omega)).trans (flat_get qs i j hi hj)
end Go.Proofs.YtcknlidbjnmbjaaGreatDoor.Rul
/- Lists of rules: szRelabelS, eqRelabelS. -/
namespace Go.Proofs.YtcknlidbjnmbjaaGreatDoor.Rul
open Go.RowKit Go.Proofs.YtcknlidbjnmbjaaGreatDoor.Fil Go.Proofs.YtcknlidbjnmbjaaGreatDoor.Rel

set_option maxHeartbeats 2000000 in
theorem f29 (r : Rule) (a : Option Addr) (n c : Nat) (L : Int) (w : World) (hL0 : 0 ≤ L) (hL1 : L ≤ 1048576) (hn : r.from'.length = n) (hr : HasT w a r.from') (hf : FitT r.from') (hmax : n ≤ maxLen) (hz : FitR r) :
    Calls Tryz.prog 29 #[agR r a n c, .int .i64 L] w fun e w' => ∃ y : Int, e = .returned (.int .i64 y) ∧ (0 ≤ y → SmlR r) ∧ -1 ≤ y ∧ y ≤ 1048576 ∧ Below w.heap.size w w' := by
  obtain ⟨A, ss, sep, pat, tgt, val, md⟩ := r
  obtain ⟨h1, h2, h3, h4, h5, h6, h7, h8⟩ := hz
  simp only at h1 h2 h3 h4 h5 h6 h7 h8 hn hr hf
  unfold maxLen at h5 h6 h7 h8
  have HN := hid hn
  have HR := hid hr
  have HB0 := hid ((Below.refl w.heap.size w).alloc (Nat.le_refl _) (.cells #[.int .i64 A, .slice a n c, .string sep, .string pat, .string tgt, .string val, .int .i64 md] 57))
  have HW := hid (new_at w (.cells #[.int .i64 A, .slice a n c, .string sep, .string pat, .string tgt, .string val, .int .i64 md] 57))
  clear hn hr
  simp only [agR]
  go_enter Tryz.func29, Tryz.ntmps29
  go_wp2_with fail
  refine (f48 a n c L ss _ hL0 hL1 HN.out (HR.out.below HB0.out) hf hmax).mono ?_
  rintro e w1 ⟨y, rfl, hy, y0, y1, hw1⟩
  have hw2 := hw1.symm
  clear hw1
  subst hw2
  by_cases g0 : y < 0
  · go_wp2
    go_ret
    exact ⟨-1, rfl, fun h => absurd h (by omega), by omega, by omega, HB0.out⟩
  have HY := hid (hy (by omega))
  clear hy
  by_cases g1 : y - sep.size < 0
  · go_wp2
    go_ret
    exact ⟨-1, rfl, fun h => absurd h (by omega), by omega, by omega, HB0.out⟩
  by_cases g2 : y - sep.size - pat.size < 0
  · go_wp2
    go_ret
    exact ⟨-1, rfl, fun h => absurd h (by omega), by omega, by omega, HB0.out⟩
  by_cases g3 : y - sep.size - pat.size - tgt.size < 0
  · go_wp2
    go_ret
    exact ⟨-1, rfl, fun h => absurd h (by omega), by omega, by omega, HB0.out⟩
  by_cases g4 : y - sep.size - pat.size - tgt.size - val.size < 0
  · go_wp2
    go_ret
    exact ⟨-1, rfl, fun h => absurd h (by omega), by omega, by omega, HB0.out⟩
  · go_wp2
    go_ret
    refine ⟨_, rfl, fun _ => ⟨?_, ?_, ?_, ?_, ?_, ?_⟩, by omega, by omega, HB0.out⟩
    · simp only; rw [HN.out]; exact HY.out.1
    · simp only; rw [HN.out]; exact HY.out.2
    all_goals (simp only; omega)

set_option maxHeartbeats 2000000 in
theorem f15 (a : Option Addr) (n c : Nat) (L : Int) (qs : List Q) (w : World) (hL0 : 0 ≤ L) (hL1 : L ≤ 1048576) (hn : qs.length = n) (hr : HasR w a qs) (hf : FitQ qs) (hmax : n ≤ maxLen) :
    Calls Tryz.prog 15 #[.slice a n c, .int .i64 L] w fun e w' => ∃ y : Int, e = .returned (.int .i64 y) ∧ (0 ≤ y → n ≤ 1048576 ∧ SmlQ qs) ∧ -1 ≤ y ∧ y ≤ 1048576 ∧ Below w.heap.size w w' := by
  unfold maxLen at hmax
  by_cases hbig : (n : Int) ≤ L
  · have HN := hid hn
    have HR := hid hr
    have HF := hid hf
    clear hn hr hf
    go_enter Tryz.func15, Tryz.ntmps15
    go_wp2
    go_loopw [1, 5] (fun sx i wr => ∃ (k : Nat) (x : Int), k ≤ n ∧ i = .int .i64 k ∧ sx = .int .i64 x ∧ 0 ≤ x ∧ x ≤ 1048576 ∧ Hid (∀ i, i < k → SmlR (qs.getD i q0).r) ∧ Hid (Below w.heap.size w wr)) (fun _ i _ => n - (intOf i).toNat)
    case atStart => exact ⟨0, _, Nat.zero_le _, rfl, rfl, by omega, by omega, fun i hi => by omega, Below.refl _ _⟩
    case round =>
      obtain ⟨k, x, hk, rfl, rfl, hx0, hx1, HU, HB⟩ := hrel
      by_cases hlt : k < n
      · obtain ⟨b, off, rfl, hbl, c0, c1, c2, c3, c4, c5, c6, hT⟩ := (HR.out).at7 k (by rw [HN.out]; exact hlt)
        obtain ⟨g0, g1, g2⟩ := HF.out k
        have d0 := (HB.out.cell (p := ⟨b, off + k * 7, none⟩) hbl).trans c0
        have d1 := (HB.out.cell (p := ⟨b, off + k * 7 + 1, none⟩) hbl).trans c1
        have d2 := (HB.out.cell (p := ⟨b, off + k * 7 + 2, none⟩) hbl).trans c2
        have d3 := (HB.out.cell (p := ⟨b, off + k * 7 + 3, none⟩) hbl).trans c3
        have d4 := (HB.out.cell (p := ⟨b, off + k * 7 + 4, none⟩) hbl).trans c4
        have d5 := (HB.out.cell (p := ⟨b, off + k * 7 + 5, none⟩) hbl).trans c5
        have d6 := (HB.out.cell (p := ⟨b, off + k * 7 + 6, none⟩) hbl).trans c6
        have HT := hid (hT.below HB.out)
        have HU2 : Hid (SmlR (qs.getD k q0).r → ∀ i, i < k + 1 → SmlR (qs.getD i q0).r) := by
          intro h i hi
          by_cases e : i = k
          · subst e; exact h
          · exact HU.out i (by omega)
        have G0 := hid g0
        have G1 := hid g1
        have G2 := hid g2
        clear c0 c1 c2 c3 c4 c5 c6 hT g0 g1 g2 hbl
        generalize qs.getD k q0 = q at *
        obtain ⟨r, aq, cq⟩ := q
        go_wp2_with fail
        refine (f29 r aq r.from'.length cq x _ hx0 hx1 rfl HT.out G1.out G2.out G0.out).mono ?_
        rintro e w2 ⟨y, rfl, hy, y0, y1, hb2⟩
        have HB2 := hid (HB.out.trans (hb2.mono HB.out.size))
        clear hb2 d0 d1 d2 d3 d4 d5 d6 HB
        by_cases hy0 : y < 0
        · go_wp2
          go_ret
          exact ⟨-1, rfl, fun h => absurd h (by omega), by omega, by omega, HB2.out⟩
        · have HU3 := hid (HU2.out (hy (by omega)))
          clear hy
          go_wp2
          go_roundw
          case rel => exact ⟨k + 1, y, by omega, by go_num, rfl, by omega, y1, HU3.out, HB2.out⟩
          case measure => simp [intOf]; omega
      · go_wp2
        go_ret
        exact ⟨x, rfl, fun _ => ⟨by omega, fun i hi => HU.out i (by have := HN.out; omega)⟩, by omega, hx1, HB.out⟩
  · go_enter Tryz.func15, Tryz.ntmps15
    go_wp2
    go_ret
    exact ⟨-1, rfl, fun h => absurd h (by omega), by omega, by omega, Below.refl _ _⟩
end Go.Proofs.YtcknlidbjnmbjaaGreatDoor.Rul
/- Lists of rules: eqRelabelS. -/
namespace Go.Proofs.YtcknlidbjnmbjaaGreatDoor.Rul
open Go.RowKit Go.Proofs.YtcknlidbjnmbjaaGreatDoor.Fil Go.Proofs.YtcknlidbjnmbjaaGreatDoor.Rel

theorem below_undrew {w w' : World} (h : Below w.drew.heap.size w.drew w') : Below w.heap.size w w' := ⟨h.os, h.tape, h.output, h.size, h.block⟩
/-- Two rules' cells, and their names; all that was there is as it was. -/
abbrev EE (w : World) (r : Rule) (b o b' o' : Nat) (a a' : Option Addr) (c c' : Nat) (x : World) : Prop :=
  x.cell? ⟨b, o, none⟩ = some (.int .i64 r.act) ∧ x.cell? ⟨b, o + 1, none⟩ = some (.slice a r.from'.length c) ∧ x.cell? ⟨b, o + 2, none⟩ = some (.string r.sep) ∧ x.cell? ⟨b, o + 3, none⟩ = some (.string r.pat) ∧ x.cell? ⟨b, o + 4, none⟩ = some (.string r.tgt) ∧ x.cell? ⟨b, o + 5, none⟩ = some (.string r.val) ∧ x.cell? ⟨b, o + 6, none⟩ = some (.int .i64 r.md) ∧
  x.cell? ⟨b', o', none⟩ = some (.int .i64 r.act) ∧ x.cell? ⟨b', o' + 1, none⟩ = some (.slice a' r.from'.length c') ∧ x.cell? ⟨b', o' + 2, none⟩ = some (.string r.sep) ∧ x.cell? ⟨b', o' + 3, none⟩ = some (.string r.pat) ∧ x.cell? ⟨b', o' + 4, none⟩ = some (.string r.tgt) ∧ x.cell? ⟨b', o' + 5, none⟩ = some (.string r.val) ∧ x.cell? ⟨b', o' + 6, none⟩ = some (.int .i64 r.md) ∧
  HasT x a r.from' ∧ HasT x a' r.from' ∧ b < x.heap.size ∧ b' < x.heap.size ∧ Below w.heap.size w x
theorem EE.below {w : World} {r : Rule} {b o b' o' : Nat} {a a' : Option Addr} {c c' : Nat} {x y : World} (h : EE w r b o b' o' a a' c c' x) (hb : Below x.heap.size x y) : EE w r b o b' o' a a' c c' y := by
  obtain ⟨h0, h1, h2, h3, h4, h5, h6, k0, k1, k2, k3, k4, k5, k6, t1, t2, l1, l2, hw⟩ := h
  have e1 : ∀ j, y.cell? ⟨b, j, none⟩ = x.cell? ⟨b, j, none⟩ := fun j => hb.cell (by exact l1)
  have e2 : ∀ j, y.cell? ⟨b', j, none⟩ = x.cell? ⟨b', j, none⟩ := fun j => hb.cell (by exact l2)
  exact ⟨(e1 _).trans h0, (e1 _).trans h1, (e1 _).trans h2, (e1 _).trans h3, (e1 _).trans h4, (e1 _).trans h5, (e1 _).trans h6, (e2 _).trans k0, (e2 _).trans k1, (e2 _).trans k2, (e2 _).trans k3, (e2 _).trans k4, (e2 _).trans k5, (e2 _).trans k6, t1.below hb, t2.below hb, Nat.lt_of_lt_of_le l1 hb.size, Nat.lt_of_lt_of_le l2 hb.size, hw.trans (hb.mono hw.size)⟩
theorem EE.drew {w : World} {r : Rule} {b o b' o' : Nat} {a a' : Option Addr} {c c' : Nat} {x : World} (h : EE w r b o b' o' a a' c c' x) : EE w r b o b' o' a a' c c' x.drew := h.below (Below.refl _ x).drew
theorem EE.t1 {w : World} {r : Rule} {b o b' o' : Nat} {a a' : Option Addr} {c c' : Nat} {x : World} (h : EE w r b o b' o' a a' c c' x) : HasT x a r.from' := h.2.2.2.2.2.2.2.2.2.2.2.2.2.2.1
theorem EE.t2 {w : World} {r : Rule} {b o b' o' : Nat} {a a' : Option Addr} {c c' : Nat} {x : World} (h : EE w r b o b' o' a a' c c' x) : HasT x a' r.from' := h.2.2.2.2.2.2.2.2.2.2.2.2.2.2.2.1
theorem EE.bel {w : World} {r : Rule} {b o b' o' : Nat} {a a' : Option Addr} {c c' : Nat} {x : World} (h : EE w r b o b' o' a a' c c' x) : Below w.heap.size w x := h.2.2.2.2.2.2.2.2.2.2.2.2.2.2.2.2.2.2
set_option maxHeartbeats 2000000 in
theorem f26 (a a' : Option Addr) (n c c' : Nat) (qs qs' : List Q) (w : World) (hn : qs.length = n) (hn' : qs'.length = n) (hb : n ≤ 1048576) (hr : HasR w a qs) (hr' : HasR w a' qs') (hs : ∀ i, i < n → (qs'.getD i q0).r = (qs.getD i q0).r) (hz : SmlQ qs) :
    Calls Tryz.prog 26 #[.slice a n c, .slice a' n c'] w fun e w' => e = .returned (.bool true) ∧ Below w.heap.size w w' := by
  have HN := hid hn
  have HN' := hid hn'
  have HR := hid hr
  have HR' := hid hr'
  have HS := hid hs
  have HZ := hid hz
  clear hn hn' hr hr' hs hz
  go_enter Tryz.func26, Tryz.ntmps26
  go_wp2
  go_loopw [5] (fun i wr => ∃ k : Nat, k ≤ n ∧ i = .int .i64 k ∧ Hid (Below w.heap.size w wr)) (fun i _ => n - (intOf i).toNat)
  case atStart => exact ⟨0, Nat.zero_le _, rfl, Below.refl _ _⟩
  case round =>
    obtain ⟨k, hk, rfl, HX⟩ := hrel
    by_cases hlt : k < n
    · obtain ⟨b, off, rfl, hbl, c0, c1, c2, c3, c4, c5, c6, hT⟩ := (HR.out).at7 k (by rw [HN.out]; exact hlt)
      obtain ⟨b', off', rfl, hbl', c0', c1', c2', c3', c4', c5', c6', hT'⟩ := (HR'.out).at7 k (by rw [HN'.out]; exact hlt)
      have d0 := (HX.out.cell (p := ⟨b, off + k * 7, none⟩) hbl).trans c0
      have d1 := (HX.out.cell (p := ⟨b, off + k * 7 + 1, none⟩) hbl).trans c1
      have d2 := (HX.out.cell (p := ⟨b, off + k * 7 + 2, none⟩) hbl).trans c2
      have d3 := (HX.out.cell (p := ⟨b, off + k * 7 + 3, none⟩) hbl).trans c3
      have d4 := (HX.out.cell (p := ⟨b, off + k * 7 + 4, none⟩) hbl).trans c4
      have d5 := (HX.out.cell (p := ⟨b, off + k * 7 + 5, none⟩) hbl).trans c5
      have d6 := (HX.out.cell (p := ⟨b, off + k * 7 + 6, none⟩) hbl).trans c6
      have d0' := (HX.out.cell (p := ⟨b', off' + k * 7, none⟩) hbl').trans c0'
      have d1' := (HX.out.cell (p := ⟨b', off' + k * 7 + 1, none⟩) hbl').trans c1'
      have d2' := (HX.out.cell (p := ⟨b', off' + k * 7 + 2, none⟩) hbl').trans c2'
      have d3' := (HX.out.cell (p := ⟨b', off' + k * 7 + 3, none⟩) hbl').trans c3'
      have d4' := (HX.out.cell (p := ⟨b', off' + k * 7 + 4, none⟩) hbl').trans c4'
      have d5' := (HX.out.cell (p := ⟨b', off' + k * 7 + 5, none⟩) hbl').trans c5'
      have d6' := (HX.out.cell (p := ⟨b', off' + k * 7 + 6, none⟩) hbl').trans c6'
      have HT := hid (hT.below HX.out)
      have HT' := hid (hT'.below HX.out)
      have he := HS.out k hlt
      have HL := hid ((HZ.out k (by rw [HN.out]; exact hlt)).n)
      rw [he] at d0' d1' d2' d3' d4' d5' d6' HT'
      generalize (qs'.getD k q0).a = a2 at *
      generalize (qs'.getD k q0).c = cc2 at *
      generalize qs.getD k q0 = q at *
      obtain ⟨r, aq, cq⟩ := q
      have HE : Hid (EE w r b (off + k * 7) b' (off' + k * 7) aq a2 cq cc2 wr) := ⟨d0, d1, d2, d3, d4, d5, d6, d0', d1', d2', d3', d4', d5', d6', HT.out, HT'.out, Nat.lt_of_lt_of_le hbl HX.out.size, Nat.lt_of_lt_of_le hbl' HX.out.size, HX.out⟩
      clear c0 c1 c2 c3 c4 c5 c6 hT hbl c0' c1' c2' c3' c4' c5' c6' hT' hbl' he d0 d1 d2 d3 d4 d5 d6 d0' d1' d2' d3' d4' d5' d6' HT HT'
      have i1 : (k : Int) < (n : Int) := by omega
      go_wp2_with fail
      go_region_held3 (fun x => EE w r b (off + k * 7) b' (off' + k * 7) aq a2 cq cc2 x) (first | exact HE.out.drew | assumption) (first | (go_at_call 46; refine (f46 r aq a2 r.from'.length cq cc2 _ rfl (EE.t1 (by assumption)) (EE.t2 (by assumption)) HL.out).mono ?_; rintro e w2 ⟨rfl, hb2⟩; have hs2 := EE.below (by assumption) hb2; clear hb2))
      have HX2 := hid hs2.bel
      clear hs2
      go_wp2
      go_roundw
      case rel => exact ⟨k + 1, by omega, by go_num, HX2.out⟩
      case measure => simp [intOf]; omega
    · go_wp2
      go_ret
      exact ⟨rfl, HX.out⟩
end Go.Proofs.YtcknlidbjnmbjaaGreatDoor.Rul
