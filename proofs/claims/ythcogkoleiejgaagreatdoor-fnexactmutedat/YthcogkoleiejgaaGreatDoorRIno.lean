/- Slices of ints: what toIntS, eqIntS, markIntS and heldIntS come to; those that came in, and rows of the call's own. -/
import Derived.Test.YthcogkoleiejgaaGreatDoorRows
import Derived.WalkKit
import Derived.ProofKit
import Derived.Handy
import Derived.BigQuiet
import Derived.Deep.QuietTactic
import Derived.OpenShut
import Derived.Deep.Onto
import Derived.ChangeOld
import Derived.Below
import Derived.WalkSmall
namespace Go.Proofs.YthcogkoleiejgaaGreatDoor.Ino
open Go.ChangeShapes Go.WideShapes Go.ChangeAt Go.RowKit

theorem info3 : (Tryz.prog.info? 3).map (fun i => (i.zero, i.size, i.bytes)) = some (some (.int .i64 0), 1, 8) := by kernel_rfl

/-- The slice that begins at 'a' holds the numbers 'zs' in the world 'w'. -/
def Has (w : World) (a : Option Addr) (zs : List Int) : Prop :=
  zs = [] ∨ ∃ b off, a = some ⟨b, off, none⟩ ∧ b < w.heap.size ∧ ∀ i, i < zs.length → w.cell? ⟨b, off + i, none⟩ = some (.int .i64 (zs.getD i 0))

theorem Has.below {w w' : World} {a : Option Addr} {zs : List Int} (h : Has w a zs) (hb : Below w.heap.size w w') : Has w' a zs := by
  rcases h with h | ⟨b, off, h1, h2, h3⟩
  · exact .inl h
  · exact .inr ⟨b, off, h1, Nat.lt_of_lt_of_le h2 hb.size, fun i hi => (hb.cell (by exact h2)).trans (h3 i hi)⟩

theorem Has.own {w : World} {base g n c : Nat} {zs : List Int} (h : w.ownsRow base 3 1 (.slice (some ⟨g, 0, none⟩) n c) n (zs.map (Value.int .i64))) : Has w (some ⟨g, 0, none⟩) zs := by
  have hl := h.lt g rfl
  have hlen : zs.length = n := by have := h.1; simpa using this
  refine .inr ⟨g, 0, rfl, hl.2, fun i hi => ?_⟩
  have := h.cellAt i (by omega)
  rw [Nat.zero_add, this, List.getElem?_map, List.getElem?_eq_getElem hi]
  simp [hi]

/-- A slice of ints that came in, as the row's frame tells it. -/
theorem has_of_row {w : World} {a : Option Addr} {len cap : Nat} {zs : List Int}
    (h : (a = none ∧ len = 0 ∧ cap = 0 ∧ zs = []) ∨
      ∃ x, a = some x ∧ len ≤ cap ∧ cap ≤ maxLen ∧ zs.length = cap ∧ (∀ i, i < zs.length → w.cell? (x.add i) = some (.int .i64 (zs.getD i 0))) ∧ ∀ n ∈ zs, (Lit.int .i64 n).wf = true) :
    (zs.take len).length = len ∧ Has w a (zs.take len) := by
  rcases h with ⟨rfl, rfl, rfl, rfl⟩ | ⟨x, rfl, hl, hm, hz, hc, hw⟩
  · exact ⟨rfl, .inl rfl⟩
  · have e : (zs.take len).length = len := by rw [List.length_take]; omega
    refine ⟨e, ?_⟩
    by_cases h0 : len = 0
    · subst h0; exact .inl rfl
    · obtain ⟨b, off, spot⟩ := x
      have h1 := hc 0 (by omega)
      have hs : spot = none := by simpa [Addr.add] using World.cell?_spot h1
      subst hs
      have hlt := World.block_lt_of_cell? w _ h1
      refine .inr ⟨b, off, rfl, hlt, fun i hi => ?_⟩
      have h2 := hc i (by omega)
      rw [e] at hi
      have h3 : (zs.take len).getD i 0 = zs.getD i 0 := by simp [hi]
      rw [h3, ← h2]
      by_cases hi0 : i = 0
      · subst hi0; simp [Addr.add]
      · simp [Addr.add, hi0]

theorem fit_of_row {w : World} {a : Option Addr} {len cap : Nat} {zs : List Int}
    (h : (a = none ∧ len = 0 ∧ cap = 0 ∧ zs = []) ∨
      ∃ x, a = some x ∧ len ≤ cap ∧ cap ≤ maxLen ∧ zs.length = cap ∧ (∀ i, i < zs.length → w.cell? (x.add i) = some (.int .i64 (zs.getD i 0))) ∧ ∀ n ∈ zs, (Lit.int .i64 n).wf = true) :
    ∀ j, -9223372036854775808 ≤ (zs.take len).getD j 0 ∧ (zs.take len).getD j 0 ≤ 9223372036854775807 := by
  intro j
  rcases h with ⟨rfl, rfl, rfl, rfl⟩ | ⟨x, rfl, hl, hm, hz, hc, hw⟩
  · simp
  · by_cases hj : j < (zs.take len).length
    · have hm := List.getElem_mem hj
      have := bounds_i64 (hw _ (List.mem_of_mem_take hm))
      simpa [List.getD_eq_getElem?_getD, List.getElem?_eq_getElem hj] using this
    · simp [List.getD_eq_getElem?_getD, List.getElem?_eq_none (Nat.le_of_not_lt hj)]

theorem set_step (zs : List Int) (n k : Nat) (hn : zs.length = n) (hk : k < n) :
    ((zs.take k).map (Value.int .i64) ++ List.replicate (n - k) (Value.int .i64 0)).set k (Value.int .i64 (zs.getD k 0)) = (zs.take (k + 1)).map (Value.int .i64) ++ List.replicate (n - (k + 1)) (Value.int .i64 0) := by
  have hkz : k < zs.length := by omega
  have e1 : n - k = (n - (k + 1)) + 1 := by omega
  rw [List.set_append_right _ _ (by simp; omega), List.take_succ_eq_append_getElem hkz, e1, List.replicate_succ, List.map_append, List.append_assoc]
  simp [hkz, List.length_take, Nat.min_eq_left (Nat.le_of_lt hkz)]

theorem set_old (zs : List Int) (n k : Nat) (hn : zs.length = n) (hk : k < n) :
    ((zs.take k).map (Value.int .i64) ++ List.replicate (n - k) (Value.int .i64 0))[k]? = some (Value.int .i64 0) := by
  have hkz : k < zs.length := by omega
  rw [List.getElem?_append_right (by simp; omega), List.getElem?_replicate, if_pos (by simp; omega)]

set_option maxHeartbeats 400000 in
theorem f95 (a : Option Addr) (n c : Nat) (zs : List Int) (w : World) (hn : zs.length = n) (hb : n ≤ 1048576) (hr : Has w a zs) :
    Calls Tryz.prog 95 #[.slice a n c] w fun e w' => e = .returned (.slice (some ⟨w.heap.size, 0, none⟩) n n) ∧
      w'.ownsRow w.heap.size 3 1 (.slice (some ⟨w.heap.size, 0, none⟩) n n) n (zs.map (Value.int .i64)) ∧ Below w.heap.size w w' := by
  obtain ⟨i0, hi, hz0, hz1, hz2⟩ := info_parts info3
  have HN : Hid (zs.length = n) := hn
  clear hn
  go_enter Tryz.func95, Tryz.ntmps95
  go_wp2_with (at_make; refine wpList_make_full _ rfl _ _ 60 rfl w.heap.size 3 i0 (.int .i64 0) 1 Tryz.underlying60 hi hz0 hz1 _ _ _ _ n rfl rfl rfl rfl ?b2 ?b3 (Nat.le_refl _) ?_)
  case b2 => rw [hz2]; omega
  case b3 => unfold maxLen; omega
  intro w0 hown0 hgrow0
  go_wp2
  go_loopw [4] (fun i wr => ∃ k : Nat, k ≤ n ∧ i = .int .i64 k ∧ wr.ownsRow w.heap.size 3 1 (.slice (some ⟨w.heap.size, 0, none⟩) n n) n ((zs.take k).map (Value.int .i64) ++ List.replicate (n - k) (Value.int .i64 0)) ∧ Below w.heap.size w wr)
    (fun i _ => n - (intOf i).toNat)
  case atStart => exact ⟨0, Nat.zero_le _, rfl, by simpa [toList_madeCells_one, Value.cells] using hown0, (Below.refl _ _).grown hgrow0 (Nat.le_refl _) (fun k h => by cases h)⟩
  case round =>
    obtain ⟨k, hk, rfl, hown, hnx⟩ := hrel
    by_cases hlt : k < n
    · rcases hr with hr | ⟨b, off, rfl, hbl, hc⟩
      · exact absurd HN.out (by rw [hr]; simp; omega)
      · have hcx : wr.cell? ⟨b, off + k, none⟩ = some (.int .i64 (zs.getD k 0)) := (hnx.cell (by exact hbl)).trans (hc k (by rw [HN.out]; exact hlt))
        have hfz := hown.frozenAt k
        have hce := (hown.cellAt k (by omega)).trans (set_old zs n k HN.out hlt)
        have HS := hown.stored k (.int .i64 (zs.getD k 0))
        rw [set_step zs n k HN.out hlt] at HS
        have HS' : Hid _ := HS
        have HO : Hid _ := hown
        clear HS hown
        go_wp2
        go_roundw
        case rel => exact ⟨k + 1, by omega, by go_num, HS'.out.1, hnx.setCell (Nat.le_refl _) _⟩
        case measure => simp [intOf]; omega
    · go_wp2
      go_ret
      have : k = n := by omega
      subst this
      refine ⟨rfl, ?_, hnx⟩
      have e := HN.out
      simpa [← e] using hown

/-- Two slices of the same bytes are alike. -/
theorem f111 (a a' : Option Addr) (n n' c c' : Nat) (zs : List Int) (w : World) (hn : zs.length = n) (hn' : n' = n) (hb : n ≤ 1048576) (hr : Has w a zs) (hr' : Has w a' zs) :
    Calls Tryz.prog 111 #[.slice a n c, .slice a' n' c'] w fun e w' => e = .returned (.bool true) ∧ ∃ q, w' = w.drewN q := by
  subst hn'
  have HN : Hid (zs.length = n') := hn
  clear hn
  have hne : ((n' : Int) != (n' : Int)) = false := by simp
  go_enter Tryz.func111, Tryz.ntmps111
  go_wp2
  go_loopw [5] (fun i wr => ∃ k : Nat, k ≤ n' ∧ i = .int .i64 k ∧ ∃ q, wr = w.drewN q) (fun i _ => n' - (intOf i).toNat)
  case atStart => exact ⟨0, Nat.zero_le _, rfl, 0, rfl⟩
  case round =>
    obtain ⟨k, hk, rfl, q, rfl⟩ := hrel
    by_cases hlt : k < n'
    · rcases hr with hr | ⟨b, off, rfl, hbl, hc⟩
      · exact absurd HN.out (by rw [hr]; simp; omega)
      · rcases hr' with hr' | ⟨b', off', rfl, hbl', hc'⟩
        · exact absurd HN.out (by rw [hr']; simp; omega)
        · have h1 : w.cell? ⟨b, off + k, none⟩ = some (.int .i64 (zs.getD k 0)) := hc k (by rw [HN.out]; exact hlt)
          have h2 : w.cell? ⟨b', off' + k, none⟩ = some (.int .i64 (zs.getD k 0)) := hc' k (by rw [HN.out]; exact hlt)
          have hd : (zs.getD k 0 != zs.getD k 0) = false := by simp
          clear hc hc'
          go_wp2
          go_quiet (fail)
          go_wp2
          go_roundw
          case rel => exact ⟨k + 1, by omega, by go_num, _, rfl⟩
          case measure => simp [intOf]; omega
    · go_wp2
      go_ret
      exact ⟨rfl, q, rfl⟩

/-- What markIntS leaves of n numbers: k, k + 1, ... -/
def mark (k : Int) (i : Nat) : Int := k + (i : Int)
def marks (k : Int) (n : Nat) : List Int := (List.range n).map (mark k)
theorem marks_len (k : Int) (n : Nat) : (marks k n).length = n := by simp [marks]
theorem marks_get (k : Int) (n i : Nat) (h : i < n) : (marks k n).getD i 0 = mark k i := by simp [marks, h]

theorem mark_step (k : Int) (xs : List Int) (n i : Nat) (hn : xs.length = n) (hi : i < n) :
    ((marks k i).map (Value.int .i64) ++ (xs.drop i).map (Value.int .i64)).set i (Value.int .i64 (mark k i)) = (marks k (i + 1)).map (Value.int .i64) ++ (xs.drop (i + 1)).map (Value.int .i64) := by
  have hx : i < xs.length := by omega
  have e : (marks k (i + 1)).map (Value.int .i64) = (marks k i).map (Value.int .i64) ++ [Value.int .i64 (mark k i)] := by simp [marks, List.range_succ]
  rw [List.set_append_right _ _ (by simp [marks_len]), List.drop_eq_getElem_cons hx, e, List.map_cons, List.append_assoc, List.length_map, marks_len, Nat.sub_self, List.set_cons_zero]
  rfl

theorem mark_old (k : Int) (xs : List Int) (n i : Nat) (hn : xs.length = n) (hi : i < n) :
    ∃ u, ((marks k i).map (Value.int .i64) ++ (xs.drop i).map (Value.int .i64))[i]? = some u :=
  ⟨_, List.getElem?_eq_getElem (by simp [marks_len]; omega)⟩

theorem grownBy_refl (w : World) (r : Option Nat) : w.grownBy w r := ⟨rfl, rfl, rfl, Nat.le_refl _, fun _ _ _ => rfl⟩
theorem grownBy_trans {a b c : World} {r : Option Nat} (h : a.grownBy b r) (k : b.grownBy c r) : a.grownBy c r :=
  ⟨k.os.trans h.os, k.tape.trans h.tape, k.output.trans h.output, Nat.le_trans h.size k.size, fun i hi hne => (k.block i (Nat.lt_of_lt_of_le hi h.size) hne).trans (h.block i hi hne)⟩

theorem hid {p : Prop} (h : p) : Hid p := h
theorem below_drewN {B : Nat} {a w : World} (h : Below B a w) (q : Nat) : Below B a (w.drewN q) := ⟨h.os, h.tape, h.output, h.size, h.block⟩
theorem below_grown {B g : Nat} {a w w' : World} (h : Below B a w) (hg : w.grownBy w' (some g)) (hB : B ≤ w.heap.size) (hr : B ≤ g) : Below B a w' := h.grown hg hB (by intro k hk; cases hk; exact hr)

theorem open_ints1 {H : Type} {enc : TypeId × Value → H} {W : World} {a0 : Option Addr} {len0 cap0 : Nat} {d : DataW H} {p : List MemPlace} (h : DataW.Trod enc Tryz.prog W 0 (fun _ => true) true 60 (.slice a0 len0 cap0) d p) :
    ∃ zs : List Int, zs.length = len0 ∧ len0 ≤ maxLen ∧ Has W a0 zs ∧ ∀ j, -9223372036854775808 ≤ zs.getD j 0 ∧ zs.getD j 0 ≤ 9223372036854775807 := by
  obtain ⟨fuel, hf⟩ := h
  rcases open_ints Tryz.underlying60 Tryz.underlying3 (by kernel_rfl) hf with ⟨hcs, _⟩ | ⟨x, l, c, zs, hcs, _, hl, hm, hz, _, hcell, hwz⟩
  · simp [Value.cells] at hcs
    obtain ⟨rfl, rfl, rfl⟩ := hcs
    exact ⟨[], rfl, Nat.zero_le _, .inl rfl, by simp⟩
  · simp [Value.cells] at hcs
    obtain ⟨rfl, rfl, rfl⟩ := hcs
    have hz' : zs.length = cap0 := by simpa using hz
    have e := has_of_row (w := W) (a := some x) (len := len0) (cap := cap0) (zs := zs) (.inr ⟨x, rfl, hl, hm, hz', hcell, hwz⟩)
    have b := fit_of_row (w := W) (a := some x) (len := len0) (cap := cap0) (zs := zs) (.inr ⟨x, rfl, hl, hm, hz', hcell, hwz⟩)
    exact ⟨zs.take len0, e.1, Nat.le_trans hl hm, e.2, b⟩

/-- The value is a row of the call's own with these bytes. -/
def Own (w : World) (base : Nat) (v : Value) (L : List Int) : Prop := w.ownsRow base 3 1 v L.length (L.map (Value.int .i64))
theorem Own.nil (w : World) (base : Nat) : Own w base (.slice none 0 0) [] := World.ownsRow_nil w base 3 1
theorem Own.form {w : World} {base : Nat} {v : Value} {L : List Int} (h : Own w base v L) : (L = [] ∧ v = .slice none 0 0) ∨ ∃ g c, v = .slice (some ⟨g, 0, none⟩) L.length c := by
  rcases h.2 with ⟨h1, h2⟩ | ⟨g, cap, cur, h1, _⟩
  · exact .inl ⟨List.eq_nil_of_length_eq_zero h2, h1⟩
  · exact .inr ⟨g, cap, h1⟩
theorem Own.has {w : World} {base : Nat} {a : Option Addr} {n c : Nat} {L : List Int} (h : Own w base (.slice a n c) L) : n = L.length ∧ Has w a L := by
  rcases h.form with ⟨rfl, h1⟩ | ⟨g, c', h1⟩
  · simp only [Value.slice.injEq] at h1
    exact ⟨h1.2.1, .inl rfl⟩
  · simp only [Value.slice.injEq] at h1
    obtain ⟨rfl, rfl, rfl⟩ := h1
    exact ⟨rfl, Has.own h⟩
theorem Own.below {w w' : World} {base : Nat} {v : Value} {L : List Int} (h : Own w base v L) (hb : Below w.heap.size w w') : Own w' base v L :=
  World.ownsRow.kept (row := none) h ⟨hb.os, hb.tape, hb.output, hb.size, fun i hi _ => hb.block i hi⟩ (by cases hv : v.ownBlock <;> simp)
theorem Own.kept {w w' : World} {base : Nat} {r : Option Nat} {v : Value} {L : List Int} (h : Own w base v L) (hg : w.grownBy w' r) (hne : ∀ k, v.ownBlock = some k → r ≠ some k) : Own w' base v L :=
  World.ownsRow.kept h hg (by
    cases hv : v.ownBlock with
    | none => exact .inl rfl
    | some k => exact .inr (fun e => hne k hv e.symm))
theorem Own.lt {w : World} {base : Nat} {v : Value} {L : List Int} (h : Own w base v L) : ∀ k, v.ownBlock = some k → base ≤ k ∧ k < w.heap.size := World.ownsRow.lt h
theorem Own.mono {w : World} {base base' : Nat} {v : Value} {L : List Int} (h : Own w base v L) (hb : base' ≤ base) : Own w base' v L := World.ownsRow.mono h hb
theorem Own.to {w : World} {g n : Nat} {ls : List Int} (hn : ls.length = n) (h : w.ownsRow g 3 1 (.slice (some ⟨g, 0, none⟩) n n) n (ls.map (Value.int .i64))) : Own w g (.slice (some ⟨g, 0, none⟩) n n) ls := by
  subst hn; exact h

theorem eqO {w : World} {b b' : Nat} {v v' : Value} {L : List Int} (hb : L.length ≤ 1048576) (h : Own w b v L) (h' : Own w b' v' L) :
    Calls Tryz.prog 111 #[v, v'] w fun e w' => e = .returned (.bool true) ∧ ∃ q, w' = w.drewN q := by
  obtain ⟨a, c, rfl⟩ : ∃ a c, v = .slice a L.length c := by
    rcases h.form with ⟨rfl, rfl⟩ | ⟨g, c, rfl⟩
    · exact ⟨none, 0, rfl⟩
    · exact ⟨_, _, rfl⟩
  obtain ⟨a', c', rfl⟩ : ∃ a c, v' = .slice a L.length c := by
    rcases h'.form with ⟨rfl, rfl⟩ | ⟨g, c, rfl⟩
    · exact ⟨none, 0, rfl⟩
    · exact ⟨_, _, rfl⟩
  exact f111 a a' _ _ c c' L w rfl rfl (by omega) h.has.2 h'.has.2

end Go.Proofs.YthcogkoleiejgaaGreatDoor.Ino
