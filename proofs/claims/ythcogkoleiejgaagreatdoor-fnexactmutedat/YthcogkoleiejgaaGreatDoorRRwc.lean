/- What lists of structs with lists in them share. -/
import Derived.Test.YthcogkoleiejgaaGreatDoorRMat
import Derived.Test.YthcogkoleiejgaaGreatDoorRTx
import Derived.BigQuiet
import Derived.Deep.QuietTactic
import Derived.Deep.RegionHeld3
import Derived.Deep.CutRange
namespace Go.Proofs.YthcogkoleiejgaaGreatDoor.Rwc
open Go.RowKit
open Go.Proofs.YthcogkoleiejgaaGreatDoor.Pat (Mt HasM)
open Go.Proofs.YthcogkoleiejgaaGreatDoor.Fil (HasT)

theorem hid {p : Prop} (h : p) : Hid p := h
theorem lt_at {x : World} {b : Nat} {o : Obj} (h : x.heap[b]? = some o) : b < x.heap.size := (Array.getElem?_eq_some_iff.1 h).1
theorem kept {x y : World} {b : Nat} {o : Obj} (h : x.heap[b]? = some o) (hb : Below x.heap.size x y) : y.heap[b]? = some o := (hb.block b (lt_at h)).trans h
/-- A number of the machine. -/
def In64 (x : Int) : Prop := -9223372036854775808 ≤ x ∧ x ≤ 9223372036854775807
theorem own_base {w : World} {base base' e size n : Nat} {v : Value} {xs : List Value} (h : w.ownsRow base e size v n xs) (hb : base' ≤ base) : w.ownsRow base' e size v n xs := by
  refine ⟨h.1, ?_⟩
  rcases h.2 with h2 | ⟨g, cap, cur, h1, h2, h3⟩
  · exact .inl h2
  · exact .inr ⟨g, cap, cur, h1, by omega, h3⟩
theorem own_set {w : World} {base e size n c g : Nat} {xs : List Value} {p : Addr} (h : w.ownsRow base e size (.slice (some ⟨g, 0, none⟩) n c) n xs) (hp : g ≠ p.block) (u : Value) : (w.setCell p u).ownsRow base e size (.slice (some ⟨g, 0, none⟩) n c) n xs := by
  refine h.kept (row := some p.block) ⟨rfl, rfl, rfl, by simp, fun j hj hne => Below.heap_setCell w p u j (fun e => hne (by rw [e]))⟩ (.inr ?_)
  intro e
  exact hp (Option.some.inj e)
theorem own_below {w w' : World} {base e size n : Nat} {v : Value} {xs : List Value} (h : w.ownsRow base e size v n xs) (hb : Below w.heap.size w w') : w'.ownsRow base e size v n xs :=
  h.kept (row := none) ⟨hb.os, hb.tape, hb.output, hb.size, fun k hk _ => hb.block k hk⟩ (by cases hv : v.ownBlock <;> simp)
theorem set_at {x : World} {b i : Nat} {cs : Array Value} {t : TypeId} {v : Value} (h : x.heap[b]? = some (.cells cs t)) : (x.setCell ⟨b, i, none⟩ v).heap[b]? = some (.cells (cs.setIfInBounds i v) t) := by
  have hlt := lt_at h
  have h' : x.heap[b] = .cells cs t := by simpa [Array.getElem?_eq_getElem hlt] using h
  show (x.heap.modify b _)[b]? = _
  rw [Array.getElem?_eq_getElem (by simpa using hlt), Array.getElem_modify_self, h']
  rfl
theorem set_else {x : World} {b : Nat} {p : Addr} {o : Obj} {v : Value} (h : x.heap[b]? = some o) (hp : b ≠ p.block) : (x.setCell p v).heap[b]? = some o := (Below.heap_setCell x p v b hp).trans h
def blk (a : Option Addr) : Nat := match a with
  | some x => x.block
  | none => 0
theorem own_grown {w x : World} {base e size n c g r : Nat} {xs : List Value} (h : w.ownsRow base e size (.slice (some ⟨g, 0, none⟩) n c) n xs) (hg : w.grownBy x (some r)) (hne : g ≠ r) : x.ownsRow base e size (.slice (some ⟨g, 0, none⟩) n c) n xs :=
  h.kept hg (.inr (fun e => hne (Option.some.inj e)))
set_option maxHeartbeats 1000000 in
theorem f122u (s t : ByteArray) (o x : Int) (w : World) (hs : s.size ≤ maxLen) (ht : t.size ≤ maxLen) (hx0 : 0 ≤ x) (hx1 : x ≤ 1048576) :
    Calls Tryz.prog 122 #[.agg #[.string s, .int .i64 o, .string t], .int .i64 x] w fun e w' => ∃ y : Int, e = .returned (.int .i64 y) ∧ -1 ≤ y ∧ y ≤ x ∧ Below w.heap.size w w' := by
  unfold maxLen at hs ht
  have HB := hid ((Below.refl w.heap.size w).alloc (Nat.le_refl _) (.cells #[.string s, .int .i64 o, .string t] 167))
  by_cases h1 : x < s.size
  · go_enter Tryz.func122, Tryz.ntmps122
    go_wp2
    go_ret
    exact ⟨-1, rfl, by omega, by omega, HB.out⟩
  · by_cases h2 : x < s.size + t.size
    · go_enter Tryz.func122, Tryz.ntmps122
      go_wp2
      go_ret
      exact ⟨-1, rfl, by omega, by omega, HB.out⟩
    · go_enter Tryz.func122, Tryz.ntmps122
      go_wp2
      go_ret
      exact ⟨_, rfl, by omega, by omega, HB.out⟩

set_option maxHeartbeats 1000000 in
theorem f82u (a : Option Addr) (n c : Nat) (L : Int) (ms : List Mt) (w : World) (hL0 : 0 ≤ L) (hL1 : L ≤ 1048576) (hn : ms.length = n) (hr : HasM w a ms) (hf : Pat.FitM ms) (hmax : n ≤ maxLen) :
    Calls Tryz.prog 82 #[.slice a n c, .int .i64 L] w fun e w' => ∃ y : Int, e = .returned (.int .i64 y) ∧ -1 ≤ y ∧ y ≤ L ∧ (0 ≤ y → n + y ≤ L) ∧ Below w.heap.size w w' := by
  unfold maxLen at hmax
  by_cases hbig : (n : Int) ≤ L
  · have HN := hid hn
    clear hn
    go_enter Tryz.func82, Tryz.ntmps82
    go_wp2
    go_loopw [1, 5] (fun sx i wr => ∃ (k : Nat) (x : Int), k ≤ n ∧ i = .int .i64 k ∧ sx = .int .i64 x ∧ 0 ≤ x ∧ n + x ≤ L ∧ Below w.heap.size w wr) (fun _ i _ => n - (intOf i).toNat)
    case atStart => exact ⟨0, _, Nat.zero_le _, rfl, rfl, by omega, by omega, Below.refl _ _⟩
    case round =>
      obtain ⟨k, x, hk, rfl, rfl, hx0, hx1, hb⟩ := hrel
      have HB := hid hb
      by_cases hlt : k < n
      · rcases hr with h | ⟨b, off, rfl, h2, h3⟩
        · exfalso; rw [h] at HN; have := HN.out; simp at this; omega
        obtain ⟨c0, c1, c2⟩ := h3 k (by rw [HN.out]; exact hlt)
        obtain ⟨g0, g1, _⟩ := hf k
        have d0 := (hb.cell (p := ⟨b, off + k * 3, none⟩) h2).trans c0
        have d1 := (hb.cell (p := ⟨b, off + k * 3 + 1, none⟩) h2).trans c1
        have d2 := (hb.cell (p := ⟨b, off + k * 3 + 2, none⟩) h2).trans c2
        clear h3 c0 c1 c2 hb
        generalize (ms.getD k Pat.m0).1 = s at *
        generalize (ms.getD k Pat.m0).2.1 = o at *
        generalize (ms.getD k Pat.m0).2.2 = t at *
        go_wp2_with fail
        refine (f122u s t o x _ g0 g1 hx0 (by omega)).mono ?_
        rintro e w2 ⟨y, rfl, y0, y1, hb2⟩
        have HB2 := hid (HB.out.trans (hb2.mono HB.out.size))
        clear hb2 d0 d1 d2
        by_cases hy : y < 0
        · go_wp2
          go_ret
          exact ⟨-1, rfl, by omega, by omega, fun h => absurd h (by omega), HB2.out⟩
        · go_wp2
          go_roundw
          case rel => exact ⟨k + 1, y, by omega, by go_num, rfl, by omega, by omega, HB2.out⟩
          case measure => simp [intOf]; omega
      · go_wp2
        go_ret
        exact ⟨x, rfl, by omega, by omega, fun _ => by omega, HB.out⟩
  · go_enter Tryz.func82, Tryz.ntmps82
    go_wp2
    go_ret
    exact ⟨-1, rfl, by omega, by omega, by omega, Below.refl _ _⟩

set_option maxHeartbeats 1000000 in
theorem f83u (a : Option Addr) (n c : Nat) (L : Int) (ss : List ByteArray) (w : World) (hL0 : 0 ≤ L) (hL1 : L ≤ 1048576) (hn : ss.length = n) (hr : HasT w a ss) (hf : Fil.FitT ss) (hmax : n ≤ maxLen) :
    Calls Tryz.prog 83 #[.slice a n c, .int .i64 L] w fun e w' => ∃ y : Int, e = .returned (.int .i64 y) ∧ -1 ≤ y ∧ y ≤ L ∧ (0 ≤ y → n + y ≤ L) ∧ Below w.heap.size w w' := by
  unfold maxLen at hmax
  by_cases hbig : (n : Int) ≤ L
  · have HN := hid hn
    clear hn
    go_enter Tryz.func83, Tryz.ntmps83
    go_wp2
    go_loopw [1, 5] (fun sx i wr => ∃ (k : Nat) (x : Int), k ≤ n ∧ i = .int .i64 k ∧ sx = .int .i64 x ∧ 0 ≤ x ∧ n + x ≤ L ∧ Below w.heap.size w wr) (fun _ i _ => n - (intOf i).toNat)
    case atStart => exact ⟨0, _, Nat.zero_le _, rfl, rfl, by omega, by omega, Below.refl _ _⟩
    case round =>
      obtain ⟨k, x, hk, rfl, rfl, hx0, hx1, hb⟩ := hrel
      have HB := hid hb
      by_cases hlt : k < n
      · rcases hr with h | ⟨b, off, rfl, h2, h3⟩
        · exfalso; rw [h] at HN; have := HN.out; simp at this; omega
        have c0 := h3 k (by rw [HN.out]; exact hlt)
        have g0 := hf k
        have d0 := (hb.cell (p := ⟨b, off + k, none⟩) h2).trans c0
        clear h3 c0 hb
        generalize ss.getD k ByteArray.empty = s at *
        unfold maxLen at g0
        by_cases hy : x < s.size
        · go_wp2
          go_ret
          exact ⟨-1, rfl, by omega, by omega, fun h => absurd h (by omega), HB.out⟩
        · go_wp2
          go_roundw
          case rel => exact ⟨k + 1, x - s.size, by omega, by go_num, rfl, by omega, by omega, HB.out⟩
          case measure => simp [intOf]; omega
      · go_wp2
        go_ret
        exact ⟨x, rfl, by omega, by omega, fun _ => by omega, HB.out⟩
  · go_enter Tryz.func83, Tryz.ntmps83
    go_wp2
    go_ret
    exact ⟨-1, rfl, by omega, by omega, by omega, Below.refl _ _⟩

theorem cell_at {w : World} {b : Nat} {t : TypeId} {cs : Array Value} {q : Nat × Nat} (h : w.heap[b]? = some (.cells cs t q)) (o : Nat) : w.cell? ⟨b, o, none⟩ = cs[o]? := by
  unfold World.cell?; simp only [h]; rfl
theorem froz_at {w : World} {b : Nat} {t : TypeId} {cs : Array Value} (h : w.heap[b]? = some (.cells cs t (0, 0))) (o : Nat) : w.frozen? ⟨b, o, none⟩ = false := by simp [World.frozen?, h]
theorem below_drew (w : World) : Below w.heap.size w w.drew := (Below.refl _ _).drew
end Go.Proofs.YthcogkoleiejgaaGreatDoor.Rwc
