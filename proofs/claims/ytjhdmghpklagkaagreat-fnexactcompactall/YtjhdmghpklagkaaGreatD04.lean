/- The value under a name: both ValueOf. -/
import Derived.Test.YtjhdmghpklagkaaGreatD03
import Derived.Test.YtjhdmghpklagkaaGreatD02
import Derived.Deep.SlicePairs
import Derived.WalkKit
import Derived.ProofKit
import Derived.OpenShut
import Derived.ShutString
import Derived.ChangeOld
import Derived.Below
import Derived.Handy
import Derived.WalkSmall
import Derived.Test.YtjhdmghpklagkaaGreatD00
namespace Go.Proofs.YtjhdmghpklagkaaGreat.Lab
open Go.RowKit Go.Proofs.YtjhdmghpklagkaaGreat.Str

theorem ret_str {a b : ByteArray} (h : a = b) : Ending.returned (.string a) = .returned (.string b) := by rw [h]
theorem str_eq {a b : ByteArray} (h : a = b) : (a.toList == b.toList) = true := by rw [h]; simp
theorem str_ne {a b : ByteArray} (h : a ≠ b) : (a.toList == b.toList) = false := by
  rw [beq_eq_false_iff_ne]
  intro e
  rw [ByteArray.toList_eq, ByteArray.toList_eq] at e
  exact h (WideShapes.bytes_inj e)
def OfV (ls : List Lb) (x v : ByteArray) : Prop :=
  (∃ k, k < ls.length ∧ (ls.getD k e0).1 = x ∧ (ls.getD k e0).2 = v ∧ ∀ i, i < k → (ls.getD i e0).1 ≠ x) ∨ ((∀ k, k < ls.length → (ls.getD k e0).1 ≠ x) ∧ v = ByteArray.empty)
theorem OfV.uniq {ls : List Lb} {x v v' : ByteArray} (h : OfV ls x v) (h' : OfV ls x v') : v = v' := by
  rcases h with ⟨k, hk, h1, h2, h3⟩ | ⟨h1, h2⟩
  · rcases h' with ⟨k', hk', h1', h2', h3'⟩ | ⟨h1', _⟩
    · have e : k = k' := by
        rcases Nat.lt_trichotomy k k' with h | h | h
        · exact absurd h1 (h3' k h)
        · exact h
        · exact absurd h1' (h3 k' h)
      subst e
      rw [← h2, ← h2']
    · exact absurd h1 (h1' k hk)
  · rcases h' with ⟨k', hk', h1', _⟩ | ⟨_, h2'⟩
    · exact absurd h1' (h1 k' hk')
    · rw [h2, h2']
theorem Place.found {ls : List Lb} {x : ByteArray} {lo : Nat} (h : Place ls (x, ByteArray.empty) lo) (hl : lo < ls.length) (hc : cmpN (ls.getD lo e0) (x, ByteArray.empty) = 0) : OfV ls x (ls.getD lo e0).2 :=
  .inl ⟨lo, hl, cmpN_zero hc, rfl, fun i hi e => by have := h.less i hi; rw [cmpN_eq (q := (x, ByteArray.empty)) e] at this; omega⟩
theorem Place.missed {ls : List Lb} {x : ByteArray} {lo : Nat} (h : Place ls (x, ByteArray.empty) lo) (hg : GoodP ls) (hc : ¬ (lo < ls.length ∧ cmpN (ls.getD lo e0) (x, ByteArray.empty) = 0)) : ∀ k, k < ls.length → (ls.getD k e0).1 ≠ x := by
  intro k hk e
  have ek := cmpN_eq (p := ls.getD k e0) (q := (x, ByteArray.empty)) e
  by_cases h1 : k < lo
  · have := h.less k h1; omega
  · by_cases h2 : k = lo
    · subst h2; exact hc ⟨hk, ek⟩
    · have h3 := rise_lt hg (show lo < k by omega) hk
      have h4 := h.geq (by omega)
      have h5 : cmpN (ls.getD lo e0) (x, ByteArray.empty) = cmpN (ls.getD lo e0) (ls.getD k e0) := by unfold cmpN; rw [← e]
      omega

theorem f136 (a : Option Addr) (n c : Nat) (ls : List Lb) (x : ByteArray) (w : World) (hn : ls.length = n) (hg : GoodP ls) (hr : HasL w a ls) :
    Calls Tryz.prog 136 #[.slice a n c, .string x] w fun e w' => ∃ v, OfV ls x v ∧ e = .returned (.string v) ∧ Below w.heap.size w w' := by
  have HN := hid hn
  have HG := hid hg
  clear hn hg
  go_enter Tryz.func136, Tryz.ntmps136
  go_wp2_with fail
  refine (f167 a n c ls x _ HN.out HG.out hr).mono ?_
  rintro e w1 ⟨lo, hp, rfl, hb⟩
  have HP := hid hp
  by_cases hd : lo < n ∧ cmpN (ls.getD lo e0) (x, ByteArray.empty) = 0
  · have HV : Hid (OfV ls x (ls.getD lo e0).2) := HP.out.found (by rw [HN.out]; exact hd.1) hd.2
    have hlt := hd.1
    rw [decide_eq_true hd]
    rcases hr with hr | ⟨b, off, rfl, hbl, hc⟩
    · exact absurd HN.out (by rw [hr]; simp; omega)
    obtain ⟨c0, c1⟩ := hc lo (by rw [HN.out]; exact hlt)
    have d1 := (hb.cell (p := ⟨b, off + lo * 2 + 1, none⟩) hbl).trans c1
    clear hc c0 c1 hp hd
    generalize (ls.getD lo e0).2 = v at *
    go_wp2
    go_ret
    exact ⟨v, HV.out, rfl, hb⟩
  · rw [decide_eq_false hd]
    have HV := hid (HP.out.missed HG.out (by rw [HN.out]; exact hd))
    clear hp hd
    go_wp2
    go_ret
    exact ⟨_, .inr ⟨HV.out, rfl⟩, rfl, hb⟩

set_option maxHeartbeats 1000000 in
theorem f123 (a : Option Addr) (n c : Nat) (ls : List Lb) (x : ByteArray) (w : World) (hn : ls.length = n) (h20 : n ≤ 20) (hr : HasL w a ls) :
    Calls Tryz.prog 123 #[.slice a n c, .string x] w fun e w' => ∃ v, OfV ls x v ∧ e = .returned (.string v) ∧ Below w.heap.size w w' := by
  have HN := hid hn
  clear hn
  go_enter Tryz.func123, Tryz.ntmps123
  go_wp2
  go_loopw [9] (fun i wr => ∃ k : Nat, k ≤ n ∧ i = .int .i64 k ∧ Hid (∀ i, i < k → (ls.getD i e0).1 ≠ x) ∧ Below w.heap.size w wr) (fun i _ => n - (intOf i).toNat)
  case atStart => exact ⟨0, Nat.zero_le _, rfl, fun i hi => by omega, Below.refl _ _⟩
  case round =>
    obtain ⟨k, hk, rfl, hu, hnx⟩ := hrel
    have HX := hid hnx
    by_cases hlt : k < n
    · rcases hr with hr | ⟨b, off, rfl, hbl, hc⟩
      · exact absurd HN.out (by rw [hr]; simp; omega)
      obtain ⟨c0, c1⟩ := hc k (by rw [HN.out]; exact hlt)
      have d0 := (hnx.cell (p := ⟨b, off + k * 2, none⟩) hbl).trans c0
      have d1 := (hnx.cell (p := ⟨b, off + k * 2 + 1, none⟩) hbl).trans c1
      by_cases he : (ls.getD k e0).1 = x
      · have HV : Hid (OfV ls x (ls.getD k e0).2) := .inl ⟨k, by rw [HN.out]; exact hlt, he, rfl, hu.out⟩
        have he' : ((ls.getD k e0).1.toList == x.toList) = true := str_eq he
        clear hc c0 c1 hnx he
        generalize (ls.getD k e0).1 = s at *
        generalize (ls.getD k e0).2 = t at *
        go_wp2
        go_ret
        exact ⟨t, HV.out, rfl, HX.out.alloc HX.out.size _⟩
      · have HU : Hid (∀ i, i < k + 1 → (ls.getD i e0).1 ≠ x) := by
          intro i hi
          by_cases e : i = k
          · subst e; exact he
          · exact hu.out i (by omega)
        have he' : ((ls.getD k e0).1.toList == x.toList) = false := str_ne he
        clear hc c0 c1 hnx he
        generalize (ls.getD k e0).1 = s at *
        generalize (ls.getD k e0).2 = t at *
        go_wp2
        go_roundw
        case rel => exact ⟨k + 1, by omega, by go_num, HU.out, HX.out.alloc HX.out.size _⟩
        case measure => simp [intOf]; omega
    · go_wp2
      go_ret
      exact ⟨_, .inr ⟨fun i hi => hu.out i (by have := HN.out; omega), rfl⟩, rfl, HX.out⟩

end Go.Proofs.YtjhdmghpklagkaaGreat.Lab
namespace Go.Proofs.YtjhdmghpklagkaaGreat.Lbo
open Go.Proofs.YtjhdmghpklagkaaGreat.Lab Go.ChangeShapes Go.WideShapes Go.ChangeAt Go.RowKit

theorem add_none (b off j : Nat) : (⟨b, off, none⟩ : Addr).add j = ⟨b, off + j, none⟩ := by
  by_cases h : j = 0
  · subst h; simp [Addr.add]
  · simp [Addr.add, h]
theorem fit_nil : Fit [] := fun i => by simp [e0, maxLen]

theorem open_labels {H : Type} {enc : TypeId × Value → H} {W : World} {a0 : Option Addr} {len0 cap0 : Nat} {d : DataW H} {p : List MemPlace} (h : DataW.Trod enc Tryz.prog W 0 (fun _ => true) true 121 (.slice a0 len0 cap0) d p) :
    ∃ ls : List Lb, ls.length = len0 ∧ len0 ≤ maxLen ∧ HasL W a0 ls ∧ Fit ls := by
  obtain ⟨fuel, hf⟩ := h
  rcases Deep.open_slice_pairs Tryz.underlying121 Tryz.underlying184 (by kernel_rfl) rfl rfl (by kernel_rfl) (by kernel_rfl) hf with ⟨hcs, _⟩ | ⟨a, len, cap, m, n, V0, V1, D0, D1, P0, P1, hcs, _, hl, hm, hmm, _, hx⟩
  · simp [Value.cells] at hcs
    obtain ⟨rfl, rfl, rfl⟩ := hcs
    exact ⟨[], rfl, Nat.zero_le _, .inl rfl, fit_nil⟩
  · simp [Value.cells] at hcs
    obtain ⟨rfl, rfl, rfl⟩ := hcs
    simp only [if_true] at hmm
    have key : ∀ i, i < len0 → ∃ q : Lb, W.cell? (a.add (i * 2)) = some (.string q.1) ∧ W.cell? (a.add (i * 2 + 1)) = some (.string q.2) ∧ q.1.size ≤ maxLen ∧ q.2.size ≤ maxLen := by
      intro i hi
      obtain ⟨h1, h2, h3, h4⟩ := hx i (by omega)
      obtain ⟨s, hs, _, hs1⟩ := DataW.trod_string Tryz.underlying9 h3
      obtain ⟨t, ht, _, ht1⟩ := DataW.trod_string Tryz.underlying9 h4
      simp only [List.cons.injEq, and_true] at hs ht
      exact ⟨(s, t), by rw [h1, hs], by rw [h2, ht], hs1, ht1⟩
    obtain ⟨q, hq⟩ := Deep.choose_lt (α := Lb) key
    have hg : ∀ i, i < len0 → ((List.range len0).map q).getD i e0 = q i := fun i hi => by simp [hi]
    refine ⟨(List.range len0).map q, by simp, by omega, ?_, ?_⟩
    · by_cases h0 : len0 = 0
      · subst h0; exact .inl rfl
      · obtain ⟨b, off, spot⟩ := a
        have h1 := (hq 0 (by omega)).1
        have hs : spot = none := by simpa [Addr.add] using World.cell?_spot h1
        subst hs
        refine .inr ⟨b, off, rfl, World.block_lt_of_cell? W _ h1, fun i hi => ?_⟩
        have hi' : i < len0 := by simpa using hi
        obtain ⟨g1, g2, _, _⟩ := hq i hi'
        rw [add_none] at g1 g2
        rw [hg i hi']
        exact ⟨g1, g2⟩
    · intro i
      by_cases hi : i < len0
      · rw [hg i hi]; exact (hq i hi).2.2
      · rw [List.getD_eq_getElem?_getD, List.getElem?_eq_none (by simp; omega)]; simp [e0, maxLen]
end Go.Proofs.YtjhdmghpklagkaaGreat.Lbo
namespace Go.Proofs.YtjhdmghpklagkaaGreat.Srs
open Go.RowKit
open Go.Proofs.YtjhdmghpklagkaaGreat.Lab (Lb HasL)
open Go.Proofs.YtjhdmghpklagkaaGreat.Smp (Sm HasS)

theorem hid {p : Prop} (h : p) : Hid p := h
theorem lt_at {x : World} {b : Nat} {o : Obj} (h : x.heap[b]? = some o) : b < x.heap.size := (Array.getElem?_eq_some_iff.1 h).1
theorem kept {x y : World} {b : Nat} {o : Obj} (h : x.heap[b]? = some o) (hb : Below x.heap.size x y) : y.heap[b]? = some o := (hb.block b (lt_at h)).trans h
theorem two {x : World} {b : Nat} {v0 v1 : Value} {t : TypeId} (h : x.heap[b]? = some (.cells #[v0, v1] t)) : x.cell? ⟨b, 0, none⟩ = some v0 ∧ x.cell? ⟨b, 1, none⟩ = some v1 := by
  refine ⟨?_, ?_⟩ <;> simp [World.cell?, h]
structure Q where
  l : List Lb
  a : Option Addr
  c : Nat
  s : List Sm
  b : Option Addr
  d : Nat
def q0 : Q := ⟨[], none, 0, [], none, 0⟩
instance : Inhabited Q := ⟨q0⟩
abbrev Pl := List Lb × List Sm
def pl (q : Q) : Pl := (q.l, q.s)
def p0 : Pl := ([], [])
def cl (q : Q) : List Value := [.slice q.a q.l.length q.c, .slice q.b q.s.length q.d]
abbrev agQ (q : Q) : Value := .agg #[.slice q.a q.l.length q.c, .slice q.b q.s.length q.d]
def flat (L : List Q) : List Value := L.flatMap cl
theorem flat_cons (q : Q) (L : List Q) : flat (q :: L) = cl q ++ flat L := rfl
theorem flat_append (L K : List Q) : flat (L ++ K) = flat L ++ flat K := by simp [flat]
theorem flat_len (L : List Q) : (flat L).length = L.length * 2 := by
  induction L with
  | nil => rfl
  | cons q L ih => rw [flat_cons, List.length_append, ih, show (cl q).length = 2 from rfl, List.length_cons]; omega
theorem flat_get : ∀ (L : List Q) (i : Nat), i < L.length → (flat L)[i * 2]? = some (.slice (L.getD i q0).a (L.getD i q0).l.length (L.getD i q0).c) ∧ (flat L)[i * 2 + 1]? = some (.slice (L.getD i q0).b (L.getD i q0).s.length (L.getD i q0).d) := by
  intro L
  induction L with
  | nil => intro i h; simp at h
  | cons p L ih =>
    intro i h
    cases i with
    | zero => exact ⟨rfl, rfl⟩
    | succ i =>
      have := ih i (by simpa using h)
      rw [flat_cons]
      refine ⟨?_, ?_⟩
      · rw [show (i + 1) * 2 = i * 2 + 1 + 1 by omega]; simpa [cl] using this.1
      · rw [show (i + 1) * 2 + 1 = i * 2 + 1 + 1 + 1 by omega]; simpa [cl] using this.2
theorem flat_set : ∀ (L : List Q) (i : Nat) (q : Q), i < L.length → ((flat L).set (i * 2) (.slice q.a q.l.length q.c)).set (i * 2 + 1) (.slice q.b q.s.length q.d) = flat (L.set i q) := by
  intro L
  induction L with
  | nil => intro i q h; simp at h
  | cons p L ih =>
    intro i q h
    cases i with
    | zero => rfl
    | succ i =>
      have := ih i q (by simpa using h)
      rw [flat_cons, List.set_cons_succ, flat_cons, ← this]
      rw [show (i + 1) * 2 = i * 2 + 1 + 1 by omega]
      simp [cl]
theorem made_two (n : Nat) : (madeCells #[.slice none 0 0, .slice none 0 0] (n * 2)).toList = flat (List.replicate n q0) := by
  apply List.ext_getElem?
  intro j
  by_cases hj : j < n * 2
  · have hl : j / 2 < (List.replicate n q0).length := by simp; omega
    have h2 : (List.replicate n q0).getD (j / 2) q0 = q0 := by
      rw [List.getD_eq_getElem?_getD, List.getElem?_replicate]; split <;> rfl
    obtain ⟨g0, g1⟩ := flat_get _ _ hl
    rw [h2] at g0 g1
    unfold madeCells
    rcases (show j % 2 = 0 ∨ j % 2 = 1 by omega) with h | h
    · rw [show j = j / 2 * 2 by omega] at hj ⊢
      rw [g0]
      simp [hj]
      exact ⟨rfl, rfl, rfl⟩
    · rw [show j = j / 2 * 2 + 1 by omega] at hj ⊢
      rw [g1]
      simp [hj, Nat.add_mod]
      exact ⟨rfl, rfl, rfl⟩
  · rw [List.getElem?_eq_none (by simp [size_madeCells]; omega), List.getElem?_eq_none (by rw [flat_len]; simp; omega)]

def HasQ (w : World) (a : Option Addr) (qs : List Q) : Prop :=
  qs = [] ∨ ∃ b off, a = some ⟨b, off, none⟩ ∧ b < w.heap.size ∧ ∀ i, i < qs.length → w.cell? ⟨b, off + i * 2, none⟩ = some (.slice (qs.getD i q0).a (qs.getD i q0).l.length (qs.getD i q0).c) ∧ w.cell? ⟨b, off + i * 2 + 1, none⟩ = some (.slice (qs.getD i q0).b (qs.getD i q0).s.length (qs.getD i q0).d) ∧ HasL w (qs.getD i q0).a (qs.getD i q0).l ∧ HasS w (qs.getD i q0).b (qs.getD i q0).s
theorem HasQ.below {w w' : World} {a : Option Addr} {qs : List Q} (h : HasQ w a qs) (hb : Below w.heap.size w w') : HasQ w' a qs := by
  rcases h with h | ⟨b, off, h1, h2, h3⟩
  · exact .inl h
  · exact .inr ⟨b, off, h1, Nat.lt_of_lt_of_le h2 hb.size, fun i hi => ⟨(hb.cell (by exact h2)).trans (h3 i hi).1, (hb.cell (by exact h2)).trans (h3 i hi).2.1, (h3 i hi).2.2.1.below hb, (h3 i hi).2.2.2.below hb⟩⟩
theorem HasQ.at2 {w : World} {a : Option Addr} {qs : List Q} (h : HasQ w a qs) (i : Nat) (hi : i < qs.length) : ∃ b off, a = some ⟨b, off, none⟩ ∧ b < w.heap.size ∧
    w.cell? ⟨b, off + i * 2, none⟩ = some (.slice (qs.getD i q0).a (qs.getD i q0).l.length (qs.getD i q0).c) ∧ w.cell? ⟨b, off + i * 2 + 1, none⟩ = some (.slice (qs.getD i q0).b (qs.getD i q0).s.length (qs.getD i q0).d) ∧ HasL w (qs.getD i q0).a (qs.getD i q0).l ∧ HasS w (qs.getD i q0).b (qs.getD i q0).s := by
  rcases h with h | ⟨b, off, h1, h2, h3⟩
  · rw [h] at hi; simp at hi
  · exact ⟨b, off, h1, h2, h3 i hi⟩
def Fq (q : Q) : Prop := Lab.Fit q.l ∧ q.l.length ≤ maxLen ∧ Smp.Fit q.s ∧ q.s.length ≤ maxLen
def FitQ (qs : List Q) : Prop := ∀ i, Fq (qs.getD i q0)
theorem fit_q0 : Fq q0 := ⟨fun i => by simp [q0, Lab.e0, maxLen], Nat.zero_le _, Smp.fit_nil, Nat.zero_le _⟩
def tot (qs : List Q) : Nat → Nat
  | 0 => 0
  | k + 1 => tot qs k + (qs.getD k q0).l.length + (qs.getD k q0).s.length
def SmlQ (qs : List Q) : Prop := ∀ i, i < qs.length → (qs.getD i q0).l.length ≤ 1048576 ∧ (qs.getD i q0).s.length ≤ 1048576
theorem tot_mono (qs : List Q) : ∀ (k j : Nat), j ≤ k → tot qs j ≤ tot qs k := by
  intro k
  induction k with
  | zero => intro j h; rw [show j = 0 by omega]; exact Nat.le_refl _
  | succ k ih =>
    intro j h
    by_cases e : j = k + 1
    · rw [e]; exact Nat.le_refl _
    · have := ih j (by omega)
      simp only [tot]; omega
theorem sml_tot {qs : List Q} (h : tot qs qs.length ≤ 1048576) : SmlQ qs := by
  intro i hi
  have := tot_mono qs qs.length (i + 1) hi
  simp only [tot] at this
  omega
theorem own_has {w : World} {base g n c E : Nat} {qs : List Q} (h : w.ownsRow base E 2 (.slice (some ⟨g, 0, none⟩) n c) n (flat qs)) (hT : ∀ i, i < qs.length → HasL w (qs.getD i q0).a (qs.getD i q0).l ∧ HasS w (qs.getD i q0).b (qs.getD i q0).s) : HasQ w (some ⟨g, 0, none⟩) qs := by
  have hl := h.1
  rw [flat_len] at hl
  refine .inr ⟨g, 0, rfl, (h.lt g rfl).2, fun i hi => ?_⟩
  obtain ⟨y0, y1⟩ := flat_get qs i hi
  rw [Nat.zero_add]
  exact ⟨(h.cellAt (i * 2) (by omega)).trans y0, (h.cellAt (i * 2 + 1) (by omega)).trans y1, hT i hi⟩
def Same (n : Nat) (qs qs' : List Q) : Prop := ∀ i, i < n → pl (qs'.getD i q0) = pl (qs.getD i q0)

set_option maxHeartbeats 1000000 in
theorem f168t (s t : ByteArray) (x : Int) (w : World) (hs : s.size ≤ maxLen) (ht : t.size ≤ maxLen) (hx0 : 0 ≤ x) (hx1 : x ≤ 1048576) :
    Calls Tryz.prog 168 #[.agg #[.string s, .string t], .int .i64 x] w fun e w' => ∃ y : Int, e = .returned (.int .i64 y) ∧ -1 ≤ y ∧ y ≤ x ∧ Below w.heap.size w w' := by
  unfold maxLen at hs ht
  have HB := hid ((Below.refl w.heap.size w).alloc (Nat.le_refl _) (.cells #[.string s, .string t] 184))
  by_cases h1 : x < s.size
  · go_enter Tryz.func168, Tryz.ntmps168
    go_wp2
    go_ret
    exact ⟨-1, rfl, by omega, by omega, HB.out⟩
  · by_cases h2 : x < s.size + t.size
    · go_enter Tryz.func168, Tryz.ntmps168
      go_wp2
      go_ret
      exact ⟨-1, rfl, by omega, by omega, HB.out⟩
    · go_enter Tryz.func168, Tryz.ntmps168
      go_wp2
      go_ret
      exact ⟨_, rfl, by omega, by omega, HB.out⟩

set_option maxHeartbeats 1000000 in
theorem f139t (a : Option Addr) (n c : Nat) (L : Int) (ls : List Lb) (w : World) (hL0 : 0 ≤ L) (hL1 : L ≤ 1048576) (hn : ls.length = n) (hr : HasL w a ls) (hf : Lab.Fit ls) (hmax : n ≤ maxLen) :
    Calls Tryz.prog 139 #[.slice a n c, .int .i64 L] w fun e w' => ∃ y : Int, e = .returned (.int .i64 y) ∧ -1 ≤ y ∧ y ≤ L ∧ (0 ≤ y → n + y ≤ L) ∧ Below w.heap.size w w' := by
  unfold maxLen at hmax
  by_cases hbig : n ≤ L
  · have HN := hid hn
    clear hn
    go_enter Tryz.func139, Tryz.ntmps139
    go_wp2
    go_loopw [1, 5] (fun sx i wr => ∃ (k : Nat) (x : Int), k ≤ n ∧ i = .int .i64 k ∧ sx = .int .i64 x ∧ 0 ≤ x ∧ n + x ≤ L ∧ Below w.heap.size w wr) (fun _ i _ => n - (intOf i).toNat)
    case atStart => exact ⟨0, _, Nat.zero_le _, rfl, rfl, by omega, by omega, Below.refl _ _⟩
    case round =>
      obtain ⟨k, x, hk, rfl, rfl, hx0, hx1, hb⟩ := hrel
      have HB := hid hb
      by_cases hlt : k < n
      · rcases hr with h | ⟨b, off, rfl, h2, h3⟩
        · exfalso; rw [h] at HN; have := HN.out; simp at this; omega
        obtain ⟨c0, c1⟩ := h3 k (by rw [HN.out]; exact hlt)
        obtain ⟨g0, g1⟩ := hf k
        have d0 := (hb.cell (p := ⟨b, off + k * 2, none⟩) h2).trans c0
        have d1 := (hb.cell (p := ⟨b, off + k * 2 + 1, none⟩) h2).trans c1
        clear h3 c0 c1 hb
        generalize (ls.getD k Lab.e0).1 = s at *
        generalize (ls.getD k Lab.e0).2 = t at *
        go_wp2_with fail
        refine (f168t s t x _ g0 g1 hx0 (by omega)).mono ?_
        rintro e w2 ⟨y, rfl, y0, y1, hb2⟩
        have HB2 := hid (HB.out.trans (hb2.mono HB.out.size))
        clear hb2 d0 d1
        by_cases hy : y < 0
        · go_wp2
          go_ret
          exact ⟨-1, rfl, by omega, by omega, fun h => absurd h (by omega), HB2.out⟩
        · go_wp2
          go_roundw
          case rel => exact ⟨k + 1, y, by omega, by go_num, rfl, by omega, by omega, HB2.out⟩
          case measure => simp [intOf]; omega
      · go_wp2
        go_ret
        exact ⟨x, rfl, by omega, by omega, fun _ => by omega, HB.out⟩
  · go_enter Tryz.func139, Tryz.ntmps139
    go_wp2
    go_ret
    exact ⟨-1, rfl, by omega, by omega, by omega, Below.refl _ _⟩

set_option maxHeartbeats 1000000 in
theorem f99 (q : Q) (L : Int) (w : World) (hL0 : 0 ≤ L) (hL1 : L ≤ 1048576) (hr : HasL w q.a q.l) (hf : Fq q) :
    Calls Tryz.prog 99 #[agQ q, .int .i64 L] w fun e w' => ∃ y : Int, e = .returned (.int .i64 y) ∧ -1 ≤ y ∧ y ≤ L ∧ (0 ≤ y → q.l.length + q.s.length + y ≤ L) ∧ Below w.heap.size w w' := by
  obtain ⟨l, a, c, s, b, d⟩ := q
  obtain ⟨f1, f2, f3, f4⟩ := hf
  simp only at f1 f2 f3 f4 hr
  have HR := hid hr
  have F1 := hid f1
  have F2 := hid f2
  have F4 := hid f4
  have HB0 := hid ((Below.refl w.heap.size w).alloc (Nat.le_refl _) (.cells #[.slice a l.length c, .slice b s.length d] 124))
  clear hr f1 f2 f3 f4
  simp only [agQ]
  go_enter Tryz.func99, Tryz.ntmps99
  go_wp2_with fail
  refine (f139t a l.length c L l _ hL0 hL1 rfl (HR.out.below HB0.out) F1.out F2.out).mono ?_
  rintro e w1 ⟨y, rfl, y0, y1, hy, hb1⟩
  have HB1 := hid (HB0.out.trans (hb1.mono HB0.out.size))
  have hc1 := (two (kept (heap_alloc_new w (.cells #[.slice a l.length c, .slice b s.length d] 124)) hb1)).2
  clear hb1
  by_cases g0 : y < 0
  · go_wp2
    go_ret
    exact ⟨-1, rfl, by omega, by omega, fun h => absurd h (by omega), HB1.out⟩
  have hy' := hy (by omega)
  clear hy
  go_wp2_with fail
  refine (Smp.f140 b s.length d y _ F4.out (by omega) (by omega)).mono ?_
  rintro e w2 ⟨rfl, rfl⟩
  by_cases g1 : y < (s.length : Int)
  · rw [if_pos g1]
    go_wp2
    go_ret
    exact ⟨-1, rfl, by omega, by omega, fun h => absurd h (by omega), HB1.out⟩
  · rw [if_neg g1]
    go_wp2
    go_ret
    exact ⟨_, rfl, by omega, by omega, fun _ => by omega, HB1.out⟩

set_option maxHeartbeats 1000000 in
theorem f62 (a : Option Addr) (n c : Nat) (L : Int) (qs : List Q) (w : World) (hL0 : 0 ≤ L) (hL1 : L ≤ 1048576) (hn : qs.length = n) (hr : HasQ w a qs) (hf : FitQ qs) (hmax : n ≤ maxLen) :
    Calls Tryz.prog 62 #[.slice a n c, .int .i64 L] w fun e w' => ∃ y : Int, e = .returned (.int .i64 y) ∧ -1 ≤ y ∧ y ≤ L ∧ (0 ≤ y → n + tot qs n + y ≤ L) ∧ Below w.heap.size w w' := by
  unfold maxLen at hmax
  by_cases hbig : n ≤ L
  · have HN := hid hn
    have HR := hid hr
    have HF := hid hf
    clear hn hr hf
    go_enter Tryz.func62, Tryz.ntmps62
    go_wp2
    go_loopw [1, 5] (fun sx i wr => ∃ (k : Nat) (x : Int), k ≤ n ∧ i = .int .i64 k ∧ sx = .int .i64 x ∧ 0 ≤ x ∧ n + tot qs k + x ≤ L ∧ Hid (Below w.heap.size w wr)) (fun _ i _ => n - (intOf i).toNat)
    case atStart => exact ⟨0, _, Nat.zero_le _, rfl, rfl, by omega, by simp only [tot]; omega, Below.refl _ _⟩
    case round =>
      obtain ⟨k, x, hk, rfl, rfl, hx0, hx1, HB⟩ := hrel
      by_cases hlt : k < n
      · obtain ⟨b, off, rfl, hbl, c0, c1, hl, hs⟩ := (HR.out).at2 k (by rw [HN.out]; exact hlt)
        have d0 := (HB.out.cell (p := ⟨b, off + k * 2, none⟩) hbl).trans c0
        have d1 := (HB.out.cell (p := ⟨b, off + k * 2 + 1, none⟩) hbl).trans c1
        have HL := hid (hl.below HB.out)
        have G := hid (HF.out k)
        have HT : Hid (tot qs (k + 1) = tot qs k + (qs.getD k q0).l.length + (qs.getD k q0).s.length) := rfl
        clear c0 c1 hl hs hbl
        generalize qs.getD k q0 = q at *
        go_wp2_with fail
        refine (f99 q x _ hx0 (by omega) HL.out G.out).mono ?_
        rintro e w2 ⟨y, rfl, y0, y1, hy, hb2⟩
        have HB2 := hid (HB.out.trans (hb2.mono HB.out.size))
        clear hb2 d0 d1 HB
        by_cases hy0 : y < 0
        · go_wp2
          go_ret
          exact ⟨-1, rfl, by omega, by omega, fun h => absurd h (by omega), HB2.out⟩
        · have hy' := hid (hy (by omega))
          clear hy
          go_wp2
          go_roundw
          case rel => exact ⟨k + 1, y, by omega, by go_num, rfl, by omega, by rw [HT.out]; have := hy'.out; omega, HB2.out⟩
          case measure => simp [intOf]; omega
      · obtain rfl : k = n := by omega
        go_wp2
        go_ret
        exact ⟨x, rfl, by omega, by omega, fun _ => by omega, HB.out⟩
  · go_enter Tryz.func62, Tryz.ntmps62
    go_wp2
    go_ret
    exact ⟨-1, rfl, by omega, by omega, by omega, Below.refl _ _⟩
end Go.Proofs.YtjhdmghpklagkaaGreat.Srs
namespace Go.Proofs.YtjhdmghpklagkaaGreat.Srs
open Go.ChangeShapes Go.WideShapes Go.ChangeAt Go.RowKit Go.Deep Go.WideElems

section
variable {H : Type} {enc : TypeId × Value → H} {P : Program} {w : World} {base : Nat} {held : Bool}
theorem open_twos {t e : TypeId} {g0 g1 : Field} {fuel : Nat} {cs : List Value} {x : DataW H × List MemPlace} (ht : P.underlying t = some (.slice e)) (he : P.underlying e = some (.struct #[g0, g1]))
    (ce : P.cellsOf e = 2) (o0 : g0.offset = 0) (o1 : g1.offset = 1) (c0 : P.cellsOf g0.type = 1) (c1 : P.cellsOf g1.type = 1)
    (h : DataW.trod enc P w base (fun _ => true) held fuel t cs = some x) :
    cs = [.slice none 0 0] ∨ ∃ (a : Addr) (len cap n : Nat), cs = [.slice (some a) len cap] ∧ len ≤ cap ∧ cap ≤ maxLen ∧ ∀ i, i < len → ∃ v0 v1 y0 y1, (w.cell? (a.add (i * 2)) = some v0 ∧ w.cell? (a.add (i * 2 + 1)) = some v1) ∧
      DataW.trod enc P w base (fun _ => true) held n g0.type [v0] = some y0 ∧ DataW.trod enc P w base (fun _ => true) held n g1.type [v1] = some y1 := by
  rcases Deep.open_slice ht h with h0 | ⟨a, len, cap, m, n, D, Pl, rfl, hb, hl, hm, hmm, rfl, hx⟩
  · exact .inl h0.1
  right
  refine ⟨a, len, cap, n - 1, rfl, hl, hm, fun i hi => ?_⟩
  simp only [if_true] at hmm
  obtain ⟨cs', h1, h2⟩ := hx i (by omega)
  rw [ce] at h1
  obtain ⟨_, hlen, hcell⟩ := World.cells?_some h1
  obtain ⟨xs, k, hk, hxy, _, hxl, hf⟩ := DataW.trod_struct he h2
  have hk' : k = n - 1 := by omega
  subst hk'
  match xs, hxl, cs', hlen with
  | [y0, y1], _, [v0, v1], _ =>
    have q0 := hf 0 g0 rfl
    have q1 := hf 1 g1 rfl
    simp [o0, o1, c0, c1] at q0 q1
    have e0 := hcell 0 (by omega)
    have e1 := hcell 1 (by omega)
    rw [Deep.add_add] at e0 e1
    exact ⟨v0, v1, y0, y1, ⟨by simpa using e0, by simpa using e1⟩, q0, q1⟩
end
theorem add_none (b off j : Nat) : (⟨b, off, none⟩ : Addr).add j = ⟨b, off + j, none⟩ := by
  simp [Addr.add]
theorem open_series {H : Type} {enc : TypeId × Value → H} {W : World} {a0 : Option Addr} {len0 cap0 : Nat} {d : DataW H} {p : List MemPlace} (h : DataW.Trod enc Tryz.prog W 0 (fun _ => true) true 52 (.slice a0 len0 cap0) d p) :
    ∃ qs : List Q, qs.length = len0 ∧ len0 ≤ maxLen ∧ HasQ W a0 qs ∧ FitQ qs := by
  obtain ⟨fuel, hf⟩ := h
  rcases open_twos Tryz.underlying52 Tryz.underlying124 (by kernel_rfl) rfl rfl (by kernel_rfl) (by kernel_rfl) hf with hcs | ⟨a, len, cap, n, hcs, hl, hm, hx⟩
  · simp [Value.cells] at hcs
    obtain ⟨rfl, rfl, rfl⟩ := hcs
    exact ⟨[], rfl, Nat.zero_le _, .inl rfl, fun i => fit_q0⟩
  · simp [Value.cells] at hcs
    obtain ⟨rfl, rfl, rfl⟩ := hcs
    have key : ∀ i, i < len0 → ∃ q : Q, (W.cell? (a.add (i * 2)) = some (.slice q.a q.l.length q.c) ∧ W.cell? (a.add (i * 2 + 1)) = some (.slice q.b q.s.length q.d)) ∧ (Lab.HasL W q.a q.l ∧ Smp.HasS W q.b q.s) ∧ Fq q := by
      intro i hi
      obtain ⟨v0, v1, y0, y1, ⟨e0, e1⟩, g0, g1⟩ := hx i hi
      obtain ⟨la, ll, lc, rfl⟩ : ∃ a l c, v0 = .slice a l c := by
        rcases Deep.open_slice Tryz.underlying121 g0 with ⟨hq, _⟩ | ⟨a, l, c, m, n', D, Pl, hq, _⟩
        · simp only [List.cons.injEq, and_true] at hq; exact ⟨_, _, _, hq⟩
        · simp only [List.cons.injEq, and_true] at hq; exact ⟨_, _, _, hq⟩
      obtain ⟨sa, sl, sc, rfl⟩ : ∃ a l c, v1 = .slice a l c := by
        rcases Deep.open_slice Tryz.underlying122 g1 with ⟨hq, _⟩ | ⟨a, l, c, m, n', D, Pl, hq, _⟩
        · simp only [List.cons.injEq, and_true] at hq; exact ⟨_, _, _, hq⟩
        · simp only [List.cons.injEq, and_true] at hq; exact ⟨_, _, _, hq⟩
      obtain ⟨ls, q1, q2, q3, q4⟩ := Lbo.open_labels (enc := enc) (a0 := la) (len0 := ll) (cap0 := lc) (W := W) (d := y0.1) (p := y0.2) ⟨n, by simpa [Value.cells] using g0⟩
      obtain ⟨ss, k1, k2, k3, k4⟩ := Smp.open_samples (enc := enc) (a0 := sa) (len0 := sl) (cap0 := sc) (W := W) (d := y1.1) (p := y1.2) ⟨n, by simpa [Value.cells] using g1⟩
      subst q1 k1
      exact ⟨⟨ls, la, lc, ss, sa, sc⟩, ⟨e0, e1⟩, ⟨q3, k3⟩, q4, q2, k4, k2⟩
    obtain ⟨q, hq⟩ := Deep.choose_lt (α := Q) key
    have hg : ∀ i, i < len0 → ((List.range len0).map q).getD i q0 = q i := fun i hi => by simp [hi]
    refine ⟨(List.range len0).map q, by simp, by omega, ?_, ?_⟩
    · by_cases h0 : len0 = 0
      · subst h0; exact .inl rfl
      · obtain ⟨b, off, spot⟩ := a
        have h1 := (hq 0 (by omega)).1.1
        have hs : spot = none := by simpa [Addr.add] using World.cell?_spot h1
        subst hs
        refine .inr ⟨b, off, rfl, World.block_lt_of_cell? W _ h1, fun i hi => ?_⟩
        have hi' : i < len0 := by simpa using hi
        obtain ⟨⟨k0, k1⟩, k7, _⟩ := hq i hi'
        rw [add_none] at k0 k1
        rw [hg i hi']
        exact ⟨k0, k1, k7⟩
    · intro i
      by_cases hi : i < len0
      · rw [hg i hi]; exact (hq i hi).2.2
      · rw [List.getD_eq_getElem?_getD, List.getElem?_eq_none (by simp; omega)]; exact fit_q0
end Go.Proofs.YtjhdmghpklagkaaGreat.Srs
