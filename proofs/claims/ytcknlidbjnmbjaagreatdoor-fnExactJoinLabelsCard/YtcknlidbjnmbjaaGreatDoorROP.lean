/- Arguments that came in: lists of labels, lists of texts. -/
import Derived.Test.YtcknlidbjnmbjaaGreatDoorRLA
import Derived.Deep.SlicePairs
import Derived.WalkKit
import Derived.ProofKit
import Derived.OpenShut
import Derived.ShutString
import Derived.ChangeOld
import Derived.Below
import Derived.Handy
import Derived.WalkSmall
import Derived.Test.YtcknlidbjnmbjaaGreatDoorRST
import Derived.Deep.Strs
import Derived.Test.YtcknlidbjnmbjaaGreatDoorRRA
import Derived.Lib.SmallJoins
import Derived.Test.YtcknlidbjnmbjaaGreatDoorRQH
namespace Go.Proofs.YtcknlidbjnmbjaaGreatDoor.Lab
open Go.ChangeShapes Go.WideShapes Go.ChangeAt Go.RowKit

theorem add_none (b off j : Nat) : (⟨b, off, none⟩ : Addr).add j = ⟨b, off + j, none⟩ := by
  by_cases h : j = 0
  · subst h; simp [Addr.add]
  · simp [Addr.add, h]
theorem fit_nil : Fit [] := fun i => by simp [e0, maxLen]

theorem open_labels {H : Type} {enc : TypeId × Value → H} {W : World} {a0 : Option Addr} {len0 cap0 : Nat} {d : DataW H} {p : List MemPlace} (h : DataW.Trod enc Tryz.prog W 0 (fun _ => true) true 22 (.slice a0 len0 cap0) d p) :
    ∃ ls : List Lb, ls.length = len0 ∧ len0 ≤ maxLen ∧ HasL W a0 ls ∧ Fit ls := by
  obtain ⟨fuel, hf⟩ := h
  rcases Deep.open_slice_pairs Tryz.underlying22 Tryz.underlying44 (by kernel_rfl) rfl rfl (by kernel_rfl) (by kernel_rfl) hf with ⟨hcs, _⟩ | ⟨a, len, cap, m, n, V0, V1, D0, D1, P0, P1, hcs, _, hl, hm, hmm, _, hx⟩
  · simp [Value.cells] at hcs
    obtain ⟨rfl, rfl, rfl⟩ := hcs
    exact ⟨[], rfl, Nat.zero_le _, .inl rfl, fit_nil⟩
  · simp [Value.cells] at hcs
    obtain ⟨rfl, rfl, rfl⟩ := hcs
    simp only [if_true] at hmm
    have key : ∀ i, i < len0 → ∃ q : Lb, W.cell? (a.add (i * 2)) = some (.string q.1) ∧ W.cell? (a.add (i * 2 + 1)) = some (.string q.2) ∧ q.1.size ≤ maxLen ∧ q.2.size ≤ maxLen := by
      intro i hi
      obtain ⟨h1, h2, h3, h4⟩ := hx i (by omega)
      obtain ⟨s, hs, _, hs1⟩ := DataW.trod_string Tryz.underlying9 h3
      obtain ⟨t, ht, _, ht1⟩ := DataW.trod_string Tryz.underlying9 h4
      simp only [List.cons.injEq, and_true] at hs ht
      exact ⟨(s, t), by rw [h1, hs], by rw [h2, ht], hs1, ht1⟩
    obtain ⟨q, hq⟩ := Deep.choose_lt (α := Lb) key
    have hg : ∀ i, i < len0 → ((List.range len0).map q).getD i e0 = q i := fun i hi => by simp [hi]
    refine ⟨(List.range len0).map q, by simp, by omega, ?_, ?_⟩
    · by_cases h0 : len0 = 0
      · subst h0; exact .inl rfl
      · obtain ⟨b, off, spot⟩ := a
        have h1 := (hq 0 (by omega)).1
        have hs : spot = none := by simpa [Addr.add] using World.cell?_spot h1
        subst hs
        refine .inr ⟨b, off, rfl, World.block_lt_of_cell? W _ h1, fun i hi => ?_⟩
        have hi' : i < len0 := by simpa using hi
        obtain ⟨g1, g2, _, _⟩ := hq i hi'
        rw [add_none] at g1 g2
        rw [hg i hi']
        exact ⟨g1, g2⟩
    · intro i
      by_cases hi : i < len0
      · rw [hg i hi]; exact (hq i hi).2.2
      · rw [List.getD_eq_getElem?_getD, List.getElem?_eq_none (by simp; omega)]; simp [e0, maxLen]
end Go.Proofs.YtcknlidbjnmbjaaGreatDoor.Lab
/- Lists of texts that came in. -/
namespace Go.Proofs.YtcknlidbjnmbjaaGreatDoor.Fil
open Go.ChangeShapes Go.WideShapes Go.ChangeAt Go.RowKit

theorem add_none (b off j : Nat) : (⟨b, off, none⟩ : Addr).add j = ⟨b, off + j, none⟩ := by
  by_cases h : j = 0
  · subst h; simp [Addr.add]
  · simp [Addr.add, h]
theorem open_texts {H : Type} {enc : TypeId × Value → H} {W : World} {a0 : Option Addr} {len0 cap0 : Nat} {d : DataW H} {p : List MemPlace} (h : DataW.Trod enc Tryz.prog W 0 (fun _ => true) true 55 (.slice a0 len0 cap0) d p) :
    ∃ ss : List ByteArray, ss.length = len0 ∧ len0 ≤ maxLen ∧ HasT W a0 ss ∧ FitT ss := by
  obtain ⟨fuel, hf⟩ := h
  rcases Deep.open_strs Tryz.underlying55 Tryz.underlying9 (by kernel_rfl) hf with ⟨hcs, _⟩ | ⟨a, len, cap, m, Sx, hcs, _, hl, hm, hmm, _, hx⟩
  · simp [Value.cells] at hcs
    obtain ⟨rfl, rfl, rfl⟩ := hcs
    exact ⟨[], rfl, Nat.zero_le _, .inl rfl, fun i => by simp [maxLen]⟩
  · simp [Value.cells] at hcs
    obtain ⟨rfl, rfl, rfl⟩ := hcs
    simp only [if_true] at hmm
    have hg : ∀ i, i < len0 → ((List.range len0).map Sx).getD i ByteArray.empty = Sx i := fun i hi => by simp [hi]
    refine ⟨(List.range len0).map Sx, by simp, by omega, ?_, ?_⟩
    · by_cases h0 : len0 = 0
      · subst h0; exact .inl rfl
      · obtain ⟨b, off, spot⟩ := a
        have h1 := (hx 0 (by omega)).1
        have hs : spot = none := by simpa [Addr.add] using World.cell?_spot h1
        subst hs
        refine .inr ⟨b, off, rfl, World.block_lt_of_cell? W _ h1, fun i hi => ?_⟩
        have hi' : i < len0 := by simpa using hi
        have g1 := (hx i (by omega)).1
        rw [add_none] at g1
        rw [hg i hi']
        exact g1
    · intro i
      by_cases hi : i < len0
      · rw [hg i hi]; exact (hx i (by omega)).2
      · rw [List.getD_eq_getElem?_getD, List.getElem?_eq_none (by simp; omega)]; simp [maxLen]
end Go.Proofs.YtcknlidbjnmbjaaGreatDoor.Fil
/- Rules that came in. -/
namespace Go.Proofs.YtcknlidbjnmbjaaGreatDoor.Rel
open Go.ChangeShapes Go.WideShapes Go.ChangeAt Go.RowKit Go.Deep Go.WideElems Go.Maps Go.Proofs.YtcknlidbjnmbjaaGreatDoor.Fil

theorem array7 {α : Type} {cs : Array α} (h : cs.size = 7) : ∃ c0 c1 c2 c3 c4 c5 c6, cs = #[c0, c1, c2, c3, c4, c5, c6] := by
  obtain ⟨l⟩ := cs
  match l, h with
  | [c0, c1, c2, c3, c4, c5, c6], _ => exact ⟨c0, c1, c2, c3, c4, c5, c6, rfl⟩
theorem open_agg7 {H : Type} {enc : TypeId × Value → H} {P : Program} {w : World} {base : Nat} {spare : Nat → Bool} {held : Bool} {r : Reach} {b0 : Nat} {t : TypeId} {lf0 lf1 lf2 lf3 lf4 lf5 lf6 : Field} {v : Value} {d : DataW H} {p : List MemPlace} (hs : P.underlying t = some (.struct #[lf0, lf1, lf2, lf3, lf4, lf5, lf6])) (hone : oneCellFields P #[lf0, lf1, lf2, lf3, lf4, lf5, lf6] = true) (hC : P.cellsOf t = 7)
    (hv : Value.okWide P w r b0 t v) (h : DataW.Trod enc P w base spare held t v d p) :
    ∃ (v0 v1 v2 v3 v4 v5 v6 : Value) (y0 y1 y2 y3 y4 y5 y6 : DataW H × List MemPlace) (n : Nat), v = .agg #[v0, v1, v2, v3, v4, v5, v6] ∧
      DataW.trod enc P w base spare held n lf0.type [v0] = some y0 ∧ DataW.trod enc P w base spare held n lf1.type [v1] = some y1 ∧ DataW.trod enc P w base spare held n lf2.type [v2] = some y2 ∧ DataW.trod enc P w base spare held n lf3.type [v3] = some y3 ∧ DataW.trod enc P w base spare held n lf4.type [v4] = some y4 ∧ DataW.trod enc P w base spare held n lf5.type [v5] = some y5 ∧ DataW.trod enc P w base spare held n lf6.type [v6] = some y6 := by
  obtain ⟨cs, rfl, hsz⟩ := okWide_struct hs hv
  obtain ⟨c0, c1, c2, c3, c4, c5, c6, rfl⟩ := array7 (hsz.trans hC)
  obtain ⟨fuel, hf⟩ := h
  obtain ⟨xs, n, _, _, hl, hlen, hg⟩ := DataW.trod_struct hs hf
  match xs, hlen with
  | [y0, y1, y2, y3, y4, y5, y6], _ =>
    obtain ⟨o0, k0⟩ := hone_of hone 0 lf0 rfl
    obtain ⟨o1, k1⟩ := hone_of hone 1 lf1 rfl
    obtain ⟨o2, k2⟩ := hone_of hone 2 lf2 rfl
    obtain ⟨o3, k3⟩ := hone_of hone 3 lf3 rfl
    obtain ⟨o4, k4⟩ := hone_of hone 4 lf4 rfl
    obtain ⟨o5, k5⟩ := hone_of hone 5 lf5 rfl
    obtain ⟨o6, k6⟩ := hone_of hone 6 lf6 rfl
    exact ⟨c0, c1, c2, c3, c4, c5, c6, y0, y1, y2, y3, y4, y5, y6, n, rfl, by simpa [Value.cells, o0, k0] using hg 0 lf0 rfl, by simpa [Value.cells, o1, k1] using hg 1 lf1 rfl, by simpa [Value.cells, o2, k2] using hg 2 lf2 rfl, by simpa [Value.cells, o3, k3] using hg 3 lf3 rfl, by simpa [Value.cells, o4, k4] using hg 4 lf4 rfl, by simpa [Value.cells, o5, k5] using hg 5 lf5 rfl, by simpa [Value.cells, o6, k6] using hg 6 lf6 rfl⟩

set_option maxRecDepth 100000 in
theorem open_rule {H : Type} {enc : TypeId × Value → H} {W : World} {base : Nat} {v : Value} {d : DataW H} {p : List MemPlace} (hv : Value.okWide Tryz.prog W .any base 57 v) (h : DataW.Trod enc Tryz.prog W 0 (fun _ => true) true 57 v d p) :
    ∃ (r : Rule) (a : Option Addr) (n c : Nat), v = agR r a n c ∧ r.from'.length = n ∧ n ≤ maxLen ∧ HasT W a r.from' ∧ FitT r.from' ∧ FitR r := by
  obtain ⟨v0, v1, v2, v3, v4, v5, v6, y0, y1, y2, y3, y4, y5, y6, n, rfl, h0, h1, h2, h3, h4, h5, h6⟩ := open_agg7 Tryz.underlying57 (by kernel_rfl) (by kernel_rfl) hv h
  obtain ⟨A, e0, _, ws0⟩ := DataW.trod_int Tryz.underlying3 h0
  obtain ⟨s2, e2, _, ws2⟩ := DataW.trod_string Tryz.underlying9 h2
  obtain ⟨s3, e3, _, ws3⟩ := DataW.trod_string Tryz.underlying9 h3
  obtain ⟨s4, e4, _, ws4⟩ := DataW.trod_string Tryz.underlying9 h4
  obtain ⟨s5, e5, _, ws5⟩ := DataW.trod_string Tryz.underlying9 h5
  obtain ⟨M, e6, _, ws6⟩ := DataW.trod_int Tryz.underlying3 h6
  simp only [List.cons.injEq, and_true] at e0 e2 e3 e4 e5 e6
  subst e0 e2 e3 e4 e5 e6
  obtain ⟨a, len, cap, rfl⟩ : ∃ a len cap, v1 = .slice a len cap := by
    rcases Deep.open_strs Tryz.underlying55 Tryz.underlying9 (by kernel_rfl) h1 with ⟨hcs, _⟩ | ⟨a, len, cap, m, Sx, hcs, _⟩
    · simp only [List.cons.injEq, and_true] at hcs; exact ⟨_, _, _, hcs⟩
    · simp only [List.cons.injEq, and_true] at hcs; exact ⟨_, _, _, hcs⟩
  obtain ⟨ss, q1, q2, q3, q4⟩ := open_texts (enc := enc) (a0 := a) (len0 := len) (cap0 := cap) (W := W) (d := y1.1) (p := y1.2) ⟨n, by simpa [Value.cells] using h1⟩
  simp only [Lit.wf, Bool.and_eq_true, decide_eq_true_eq] at ws0 ws6
  exact ⟨⟨A, ss, s2, s3, s4, s5, M⟩, a, len, cap, rfl, q1, q2, q3, q4, ⟨ws0.1, ws0.2, ws6.1, ws6.2, ws2, ws3, ws4, ws5⟩⟩
end Go.Proofs.YtcknlidbjnmbjaaGreatDoor.Rel
/- Lists of rules, and targets, that came in. -/
namespace Go.Proofs.YtcknlidbjnmbjaaGreatDoor.Tgt
open Go.ChangeShapes Go.WideShapes Go.ChangeAt Go.RowKit Go.Deep Go.WideElems Go.Maps Go.Proofs.YtcknlidbjnmbjaaGreatDoor.Fil Go.Proofs.YtcknlidbjnmbjaaGreatDoor.Rul Go.Proofs.YtcknlidbjnmbjaaGreatDoor.Rel

section
variable {H : Type} {enc : TypeId × Value → H} {P : Program} {w : World} {base : Nat} {held : Bool}
/-- A slice whose elements are structs of seven one-cell fields. -/
theorem open_sevens {t e : TypeId} {g0 g1 g2 g3 g4 g5 g6 : Field} {fuel : Nat} {cs : List Value} {x : DataW H × List MemPlace} (ht : P.underlying t = some (.slice e)) (he : P.underlying e = some (.struct #[g0, g1, g2, g3, g4, g5, g6]))
    (ce : P.cellsOf e = 7) (o0 : g0.offset = 0) (o1 : g1.offset = 1) (o2 : g2.offset = 2) (o3 : g3.offset = 3) (o4 : g4.offset = 4) (o5 : g5.offset = 5) (o6 : g6.offset = 6)
    (c0 : P.cellsOf g0.type = 1) (c1 : P.cellsOf g1.type = 1) (c2 : P.cellsOf g2.type = 1) (c3 : P.cellsOf g3.type = 1) (c4 : P.cellsOf g4.type = 1) (c5 : P.cellsOf g5.type = 1) (c6 : P.cellsOf g6.type = 1)
    (h : DataW.trod enc P w base (fun _ => true) held fuel t cs = some x) :
    cs = [.slice none 0 0] ∨ ∃ (a : Addr) (len cap n : Nat), cs = [.slice (some a) len cap] ∧ len ≤ cap ∧ cap ≤ maxLen ∧ ∀ i, i < len → ∃ v0 v1 v2 v3 v4 v5 v6 y0 y1 y2 y3 y4 y5 y6, (w.cell? (a.add (i * 7)) = some v0 ∧ w.cell? (a.add (i * 7 + 1)) = some v1 ∧ w.cell? (a.add (i * 7 + 2)) = some v2 ∧ w.cell? (a.add (i * 7 + 3)) = some v3 ∧ w.cell? (a.add (i * 7 + 4)) = some v4 ∧ w.cell? (a.add (i * 7 + 5)) = some v5 ∧ w.cell? (a.add (i * 7 + 6)) = some v6) ∧
      DataW.trod enc P w base (fun _ => true) held n g0.type [v0] = some y0 ∧ DataW.trod enc P w base (fun _ => true) held n g1.type [v1] = some y1 ∧ DataW.trod enc P w base (fun _ => true) held n g2.type [v2] = some y2 ∧ DataW.trod enc P w base (fun _ => true) held n g3.type [v3] = some y3 ∧ DataW.trod enc P w base (fun _ => true) held n g4.type [v4] = some y4 ∧ DataW.trod enc P w base (fun _ => true) held n g5.type [v5] = some y5 ∧ DataW.trod enc P w base (fun _ => true) held n g6.type [v6] = some y6 := by
  rcases Deep.open_slice ht h with h0 | ⟨a, len, cap, m, n, D, Pl, rfl, hb, hl, hm, hmm, rfl, hx⟩
  · exact .inl h0.1
  right
  refine ⟨a, len, cap, n - 1, rfl, hl, hm, fun i hi => ?_⟩
  simp only [if_true] at hmm
  obtain ⟨cs', h1, h2⟩ := hx i (by omega)
  rw [ce] at h1
  obtain ⟨_, hlen, hcell⟩ := World.cells?_some h1
  obtain ⟨xs, k, hk, hxy, _, hxl, hf⟩ := DataW.trod_struct he h2
  have hk' : k = n - 1 := by omega
  subst hk'
  match xs, hxl, cs', hlen with
  | [y0, y1, y2, y3, y4, y5, y6], _, [v0, v1, v2, v3, v4, v5, v6], _ =>
    have q0 := hf 0 g0 rfl
    have q1 := hf 1 g1 rfl
    have q2 := hf 2 g2 rfl
    have q3 := hf 3 g3 rfl
    have q4 := hf 4 g4 rfl
    have q5 := hf 5 g5 rfl
    have q6 := hf 6 g6 rfl
    simp [o0, o1, o2, o3, o4, o5, o6, c0, c1, c2, c3, c4, c5, c6] at q0 q1 q2 q3 q4 q5 q6
    have e0 := hcell 0 (by omega)
    have e1 := hcell 1 (by omega)
    have e2 := hcell 2 (by omega)
    have e3 := hcell 3 (by omega)
    have e4 := hcell 4 (by omega)
    have e5 := hcell 5 (by omega)
    have e6 := hcell 6 (by omega)
    rw [Deep.add_add] at e0 e1 e2 e3 e4 e5 e6
    exact ⟨v0, v1, v2, v3, v4, v5, v6, y0, y1, y2, y3, y4, y5, y6, ⟨by simpa using e0, by simpa using e1, by simpa using e2, by simpa using e3, by simpa using e4, by simpa using e5, by simpa using e6⟩, q0, q1, q2, q3, q4, q5, q6⟩
end
instance : Inhabited Q := ⟨q0⟩
theorem open_rules {H : Type} {enc : TypeId × Value → H} {W : World} {a0 : Option Addr} {len0 cap0 : Nat} {d : DataW H} {p : List MemPlace} (h : DataW.Trod enc Tryz.prog W 0 (fun _ => true) true 23 (.slice a0 len0 cap0) d p) :
    ∃ qs : List Q, qs.length = len0 ∧ len0 ≤ maxLen ∧ HasR W a0 qs ∧ FitQ qs := by
  obtain ⟨fuel, hf⟩ := h
  rcases open_sevens Tryz.underlying23 Tryz.underlying57 (by kernel_rfl) rfl rfl rfl rfl rfl rfl rfl (by kernel_rfl) (by kernel_rfl) (by kernel_rfl) (by kernel_rfl) (by kernel_rfl) (by kernel_rfl) (by kernel_rfl) hf with hcs | ⟨a, len, cap, n, hcs, hl, hm, hx⟩
  · simp [Value.cells] at hcs
    obtain ⟨rfl, rfl, rfl⟩ := hcs
    exact ⟨[], rfl, Nat.zero_le _, .inl rfl, fun i => fit_q0⟩
  · simp [Value.cells] at hcs
    obtain ⟨rfl, rfl, rfl⟩ := hcs
    have key : ∀ i, i < len0 → ∃ q : Q, (W.cell? (a.add (i * 7)) = some (.int .i64 q.r.act) ∧ W.cell? (a.add (i * 7 + 1)) = some (.slice q.a q.r.from'.length q.c) ∧ W.cell? (a.add (i * 7 + 2)) = some (.string q.r.sep) ∧ W.cell? (a.add (i * 7 + 3)) = some (.string q.r.pat) ∧ W.cell? (a.add (i * 7 + 4)) = some (.string q.r.tgt) ∧ W.cell? (a.add (i * 7 + 5)) = some (.string q.r.val) ∧ W.cell? (a.add (i * 7 + 6)) = some (.int .i64 q.r.md)) ∧ HasT W q.a q.r.from' ∧ FitR q.r ∧ FitT q.r.from' ∧ q.r.from'.length ≤ maxLen := by
      intro i hi
      obtain ⟨v0, v1, v2, v3, v4, v5, v6, y0, y1, y2, y3, y4, y5, y6, ⟨e0, e1, e2, e3, e4, e5, e6⟩, g0, g1, g2, g3, g4, g5, g6⟩ := hx i hi
      obtain ⟨A, hA, _, wA⟩ := DataW.trod_int Tryz.underlying3 g0
      obtain ⟨s2, h2, _, ws2⟩ := DataW.trod_string Tryz.underlying9 g2
      obtain ⟨s3, h3, _, ws3⟩ := DataW.trod_string Tryz.underlying9 g3
      obtain ⟨s4, h4, _, ws4⟩ := DataW.trod_string Tryz.underlying9 g4
      obtain ⟨s5, h5, _, ws5⟩ := DataW.trod_string Tryz.underlying9 g5
      obtain ⟨M, hM, _, wM⟩ := DataW.trod_int Tryz.underlying3 g6
      simp only [List.cons.injEq, and_true] at hA h2 h3 h4 h5 hM
      obtain ⟨ax, lx, cx, rfl⟩ : ∃ ax lx cx, v1 = .slice ax lx cx := by
        rcases Deep.open_strs Tryz.underlying55 Tryz.underlying9 (by kernel_rfl) g1 with ⟨hq, _⟩ | ⟨ax, lx, cx, m, Sx, hq, _⟩
        · simp only [List.cons.injEq, and_true] at hq; exact ⟨_, _, _, hq⟩
        · simp only [List.cons.injEq, and_true] at hq; exact ⟨_, _, _, hq⟩
      obtain ⟨ss, q1, q2, q3, q4⟩ := open_texts (enc := enc) (a0 := ax) (len0 := lx) (cap0 := cx) (W := W) (d := y1.1) (p := y1.2) ⟨n, by simpa [Value.cells] using g1⟩
      simp only [Lit.wf, Bool.and_eq_true, decide_eq_true_eq] at wA wM
      refine ⟨⟨⟨A, ss, s2, s3, s4, s5, M⟩, ax, cx⟩, ⟨by rw [e0, hA], by rw [e1]; simp only; rw [q1], by rw [e2, h2], by rw [e3, h3], by rw [e4, h4], by rw [e5, h5], by rw [e6, hM]⟩, q3, ⟨wA.1, wA.2, wM.1, wM.2, ws2, ws3, ws4, ws5⟩, q4, by simp only; rw [q1]; exact q2⟩
    obtain ⟨q, hq⟩ := Deep.choose_lt (α := Q) key
    have hg : ∀ i, i < len0 → ((List.range len0).map q).getD i q0 = q i := fun i hi => by simp [hi]
    refine ⟨(List.range len0).map q, by simp, by omega, ?_, ?_⟩
    · by_cases h0 : len0 = 0
      · subst h0; exact .inl rfl
      · obtain ⟨b, off, spot⟩ := a
        have h1 := (hq 0 (by omega)).1.1
        have hs : spot = none := by simpa [Addr.add] using World.cell?_spot h1
        subst hs
        refine .inr ⟨b, off, rfl, World.block_lt_of_cell? W _ h1, fun i hi => ?_⟩
        have hi' : i < len0 := by simpa using hi
        obtain ⟨⟨k0, k1, k2, k3, k4, k5, k6⟩, k7, _⟩ := hq i hi'
        rw [Lab.add_none] at k0 k1 k2 k3 k4 k5 k6
        rw [hg i hi']
        refine ⟨fun j hj => ?_, k7⟩
        rcases (show j = 0 ∨ j = 1 ∨ j = 2 ∨ j = 3 ∨ j = 4 ∨ j = 5 ∨ j = 6 by omega) with rfl | rfl | rfl | rfl | rfl | rfl | rfl
        · exact k0
        · exact k1
        · exact k2
        · exact k3
        · exact k4
        · exact k5
        · exact k6
    · intro i
      by_cases hi : i < len0
      · rw [hg i hi]; exact (hq i hi).2.2
      · rw [List.getD_eq_getElem?_getD, List.getElem?_eq_none (by simp; omega)]; exact fit_q0
theorem array5 {α : Type} {cs : Array α} (h : cs.size = 5) : ∃ c0 c1 c2 c3 c4, cs = #[c0, c1, c2, c3, c4] := by
  obtain ⟨l⟩ := cs
  match l, h with
  | [c0, c1, c2, c3, c4], _ => exact ⟨c0, c1, c2, c3, c4, rfl⟩
theorem open_agg5 {H : Type} {enc : TypeId × Value → H} {P : Program} {w : World} {base : Nat} {spare : Nat → Bool} {held : Bool} {r : Reach} {b0 : Nat} {t : TypeId} {g0 g1 g2 g3 g4 : Field} {v : Value} {d : DataW H} {p : List MemPlace} (hs : P.underlying t = some (.struct #[g0, g1, g2, g3, g4])) (hone : oneCellFields P #[g0, g1, g2, g3, g4] = true) (hC : P.cellsOf t = 5)
    (hv : Value.okWide P w r b0 t v) (h : DataW.Trod enc P w base spare held t v d p) :
    ∃ (v0 v1 v2 v3 v4 : Value) (y0 y1 y2 y3 y4 : DataW H × List MemPlace) (n : Nat), v = .agg #[v0, v1, v2, v3, v4] ∧
      DataW.trod enc P w base spare held n g0.type [v0] = some y0 ∧ DataW.trod enc P w base spare held n g1.type [v1] = some y1 ∧ DataW.trod enc P w base spare held n g2.type [v2] = some y2 ∧ DataW.trod enc P w base spare held n g3.type [v3] = some y3 ∧ DataW.trod enc P w base spare held n g4.type [v4] = some y4 := by
  obtain ⟨cs, rfl, hsz⟩ := okWide_struct hs hv
  obtain ⟨c0, c1, c2, c3, c4, rfl⟩ := array5 (hsz.trans hC)
  obtain ⟨fuel, hf⟩ := h
  obtain ⟨xs, n, _, _, hl, hlen, hg⟩ := DataW.trod_struct hs hf
  match xs, hlen with
  | [y0, y1, y2, y3, y4], _ =>
    obtain ⟨o0, k0⟩ := hone_of hone 0 g0 rfl
    obtain ⟨o1, k1⟩ := hone_of hone 1 g1 rfl
    obtain ⟨o2, k2⟩ := hone_of hone 2 g2 rfl
    obtain ⟨o3, k3⟩ := hone_of hone 3 g3 rfl
    obtain ⟨o4, k4⟩ := hone_of hone 4 g4 rfl
    exact ⟨c0, c1, c2, c3, c4, y0, y1, y2, y3, y4, n, rfl, by simpa [Value.cells, o0, k0] using hg 0 g0 rfl, by simpa [Value.cells, o1, k1] using hg 1 g1 rfl, by simpa [Value.cells, o2, k2] using hg 2 g2 rfl, by simpa [Value.cells, o3, k3] using hg 3 g3 rfl, by simpa [Value.cells, o4, k4] using hg 4 g4 rfl⟩
set_option maxRecDepth 100000 in
theorem open_target {H : Type} {enc : TypeId × Value → H} {W : World} {base : Nat} {v : Value} {d : DataW H} {p : List MemPlace} (hv : Value.okWide Tryz.prog W .any base 25 v) (h : DataW.Trod enc Tryz.prog W 0 (fun _ => true) true 25 v d p) :
    ∃ t : Tg, v = agT t ∧ Has W t ∧ FitG t := by
  obtain ⟨v0, v1, v2, v3, v4, y0, y1, y2, y3, y4, n, rfl, h0, h1, h2, h3, h4⟩ := open_agg5 Tryz.underlying25 (by kernel_rfl) (by kernel_rfl) hv h
  obtain ⟨E, e1, _, w1⟩ := DataW.trod_int Tryz.underlying3 h1
  obtain ⟨L, e2, _, w2⟩ := DataW.trod_int Tryz.underlying3 h2
  obtain ⟨b, e3, _⟩ := DataW.trod_bool Tryz.underlying4 h3
  simp only [List.cons.injEq, and_true] at e1 e2 e3
  subst e1 e2 e3
  obtain ⟨la, ll, lc, rfl⟩ : ∃ a l c, v0 = .slice a l c := by
    rcases Deep.open_slice Tryz.underlying22 h0 with ⟨hq, _⟩ | ⟨a, l, c, m, n', D, Pl, hq, _⟩
    · simp only [List.cons.injEq, and_true] at hq; exact ⟨_, _, _, hq⟩
    · simp only [List.cons.injEq, and_true] at hq; exact ⟨_, _, _, hq⟩
  obtain ⟨ra, rl, rc, rfl⟩ : ∃ a l c, v4 = .slice a l c := by
    rcases Deep.open_slice Tryz.underlying23 h4 with ⟨hq, _⟩ | ⟨a, l, c, m, n', D, Pl, hq, _⟩
    · simp only [List.cons.injEq, and_true] at hq; exact ⟨_, _, _, hq⟩
    · simp only [List.cons.injEq, and_true] at hq; exact ⟨_, _, _, hq⟩
  obtain ⟨ls, q1, q2, q3, q4⟩ := Lab.open_labels (enc := enc) (a0 := la) (len0 := ll) (cap0 := lc) (W := W) (d := y0.1) (p := y0.2) ⟨n, by simpa [Value.cells] using h0⟩
  obtain ⟨qs, k1, k2, k3, k4⟩ := open_rules (enc := enc) (a0 := ra) (len0 := rl) (cap0 := rc) (W := W) (d := y4.1) (p := y4.2) ⟨n, by simpa [Value.cells] using h4⟩
  simp only [Lit.wf, Bool.and_eq_true, decide_eq_true_eq] at w1 w2
  subst q1 k1
  exact ⟨⟨ls, la, lc, E, L, b, qs, ra, rc⟩, rfl, ⟨q3, k3⟩, ⟨q2, q4, k2, k4, w1.1, w1.2, w2.1, w2.2⟩⟩
end Go.Proofs.YtcknlidbjnmbjaaGreatDoor.Tgt
