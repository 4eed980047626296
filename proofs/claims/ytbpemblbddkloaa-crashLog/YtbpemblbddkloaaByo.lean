/- Slices of bytes: those that came in, and rows of the call's own: compared, marked, held. -/
import Derived.Test.YtbpemblbddkloaaByt
import Derived.OpenShut
import Derived.Deep.Onto
import Derived.ChangeOld
import Derived.Below
import Derived.WalkSmall
namespace Go.Proofs.Ytbpemblbddkloaa.Byt
open Go.ChangeShapes Go.WideShapes Go.ChangeAt Go.RowKit

theorem hid {p : Prop} (h : p) : Hid p := h
theorem below_drewN {B : Nat} {a w : World} (h : Below B a w) (q : Nat) : Below B a (w.drewN q) := ⟨h.os, h.tape, h.output, h.size, h.block⟩
theorem below_grown {B g : Nat} {a w w' : World} (h : Below B a w) (hg : w.grownBy w' (some g)) (hB : B ≤ w.heap.size) (hr : B ≤ g) : Below B a w' := h.grown hg hB (by intro k hk; cases hk; exact hr)

theorem open_bytes {H : Type} {enc : TypeId × Value → H} {W : World} {a0 : Option Addr} {len0 cap0 : Nat} {d : DataW H} {p : List MemPlace} (h : DataW.Trod enc Try.prog W 0 (fun _ => true) true 22 (.slice a0 len0 cap0) d p) :
    ∃ zs : List Int, zs.length = len0 ∧ len0 ≤ maxLen ∧ Has W a0 zs ∧ ∀ j, 0 ≤ zs.getD j 0 ∧ zs.getD j 0 ≤ 255 := by
  obtain ⟨fuel, hf⟩ := h
  rcases open_ints Try.underlying22 Try.underlying5 (by kernel_rfl) hf with ⟨hcs, _⟩ | ⟨x, l, c, zs, hcs, _, hl, hm, hz, _, hcell, hwz⟩
  · simp [Value.cells] at hcs
    obtain ⟨rfl, rfl, rfl⟩ := hcs
    exact ⟨[], rfl, Nat.zero_le _, .inl rfl, by simp⟩
  · simp [Value.cells] at hcs
    obtain ⟨rfl, rfl, rfl⟩ := hcs
    have hz' : zs.length = cap0 := by simpa using hz
    have e := has_of_row (w := W) (a := some x) (len := len0) (cap := cap0) (zs := zs) (.inr ⟨x, rfl, hl, hm, hz', hcell, hwz⟩)
    have b := bytes_of_row (w := W) (a := some x) (len := len0) (cap := cap0) (zs := zs) (.inr ⟨x, rfl, hl, hm, hz', hcell, hwz⟩)
    exact ⟨zs.take len0, e.1, Nat.le_trans hl hm, e.2, b⟩

/-- The value is a row of the call's own with these bytes. -/
def Own (w : World) (base : Nat) (v : Value) (L : List Int) : Prop := w.ownsRow base 5 1 v L.length (L.map (Value.int .u8))
theorem Own.nil (w : World) (base : Nat) : Own w base (.slice none 0 0) [] := World.ownsRow_nil w base 5 1
theorem Own.form {w : World} {base : Nat} {v : Value} {L : List Int} (h : Own w base v L) : (L = [] ∧ v = .slice none 0 0) ∨ ∃ g c, v = .slice (some ⟨g, 0, none⟩) L.length c := by
  rcases h.2 with ⟨h1, h2⟩ | ⟨g, cap, cur, h1, _⟩
  · exact .inl ⟨List.eq_nil_of_length_eq_zero h2, h1⟩
  · exact .inr ⟨g, cap, h1⟩
theorem Own.has {w : World} {base : Nat} {a : Option Addr} {n c : Nat} {L : List Int} (h : Own w base (.slice a n c) L) : n = L.length ∧ Has w a L := by
  rcases h.form with ⟨rfl, h1⟩ | ⟨g, c', h1⟩
  · simp only [Value.slice.injEq] at h1
    exact ⟨h1.2.1, .inl rfl⟩
  · simp only [Value.slice.injEq] at h1
    obtain ⟨rfl, rfl, rfl⟩ := h1
    exact ⟨rfl, Has.own h⟩
theorem Own.below {w w' : World} {base : Nat} {v : Value} {L : List Int} (h : Own w base v L) (hb : Below w.heap.size w w') : Own w' base v L :=
  World.ownsRow.kept (row := none) h ⟨hb.os, hb.tape, hb.output, hb.size, fun i hi _ => hb.block i hi⟩ (by cases hv : v.ownBlock <;> simp)
theorem Own.kept {w w' : World} {base : Nat} {r : Option Nat} {v : Value} {L : List Int} (h : Own w base v L) (hg : w.grownBy w' r) (hne : ∀ k, v.ownBlock = some k → r ≠ some k) : Own w' base v L :=
  World.ownsRow.kept h hg (by
    cases hv : v.ownBlock with
    | none => exact .inl rfl
    | some k => exact .inr (fun e => hne k hv e.symm))
theorem Own.lt {w : World} {base : Nat} {v : Value} {L : List Int} (h : Own w base v L) : ∀ k, v.ownBlock = some k → base ≤ k ∧ k < w.heap.size := World.ownsRow.lt h
theorem Own.mono {w : World} {base base' : Nat} {v : Value} {L : List Int} (h : Own w base v L) (hb : base' ≤ base) : Own w base' v L := World.ownsRow.mono h hb
theorem Own.to {w : World} {g n : Nat} {ls : List Int} (hn : ls.length = n) (h : w.ownsRow g 5 1 (.slice (some ⟨g, 0, none⟩) n n) n (ls.map (Value.int .u8))) : Own w g (.slice (some ⟨g, 0, none⟩) n n) ls := by
  subst hn; exact h

theorem eqO {w : World} {b b' : Nat} {v v' : Value} {L : List Int} (hb : L.length ≤ 1048576) (h : Own w b v L) (h' : Own w b' v' L) :
    Calls Try.prog 7 #[v, v'] w fun e w' => e = .returned (.bool true) ∧ ∃ q, w' = w.drewN q := by
  obtain ⟨a, c, rfl⟩ : ∃ a c, v = .slice a L.length c := by
    rcases h.form with ⟨rfl, rfl⟩ | ⟨g, c, rfl⟩
    · exact ⟨none, 0, rfl⟩
    · exact ⟨_, _, rfl⟩
  obtain ⟨a', c', rfl⟩ : ∃ a c, v' = .slice a L.length c := by
    rcases h'.form with ⟨rfl, rfl⟩ | ⟨g, c, rfl⟩
    · exact ⟨none, 0, rfl⟩
    · exact ⟨_, _, rfl⟩
  exact f7 a a' _ _ c c' L w rfl rfl (by omega) h.has.2 h'.has.2

theorem f8n (k : Int) (w : World) : Calls Try.prog 8 #[.slice none 0 0, .int .i64 k] w fun e w' => e = .returned (.int .i64 k) ∧ w' = w := by
  go_enter Try.func8, Try.ntmps8
  go_wp2
  go_rounds 1
  go_ret
  exact ⟨rfl, rfl⟩
theorem f9n (k : Int) (w : World) : Calls Try.prog 9 #[.slice none 0 0, .int .i64 k] w fun e w' => e = .returned (.int .i64 k) ∧ w' = w := by
  go_enter Try.func9, Try.ntmps9
  go_wp2
  go_rounds 1
  go_ret
  exact ⟨rfl, rfl⟩

theorem markO {w : World} {base : Nat} {v : Value} {L : List Int} (k : Int) (hk : 0 ≤ k) (hk' : k ≤ 1000) (hb : L.length ≤ 1048576) (h : Own w base v L) :
    Calls Try.prog 8 #[v, .int .i64 k] w fun e w' => e = .returned (.int .i64 (k + (L.length : Int))) ∧ Own w' base v (marks k L.length) ∧ w.grownBy w' v.ownBlock := by
  rcases h.form with ⟨rfl, rfl⟩ | ⟨g, c, rfl⟩
  · refine (f8n k w).mono ?_
    rintro e w' ⟨rfl, rfl⟩
    exact ⟨by simp, Own.nil _ _, grownBy_refl _ _⟩
  · refine (f8 g L.length c base k L w hk hk' (by omega) h).mono ?_
    rintro e w' ⟨rfl, ho, hg⟩
    exact ⟨rfl, by unfold Own; rw [marks_len]; exact ho, hg⟩
theorem heldO {w : World} {base n : Nat} {v : Value} (k : Int) (hk : 0 ≤ k) (hk' : k ≤ 1000) (hb : n ≤ 1048576) (h : Own w base v (marks k n)) :
    Calls Try.prog 9 #[v, .int .i64 k] w fun e w' => e = .returned (.int .i64 (k + (n : Int))) ∧ ∃ q, w' = w.drewN q := by
  rcases h.form with ⟨hn, rfl⟩ | ⟨g, c, rfl⟩
  · have e0 : n = 0 := by have := congrArg List.length hn; simpa [marks_len] using this
    subst e0
    refine (f9n k w).mono ?_
    rintro e w' ⟨rfl, rfl⟩
    exact ⟨by simp, 0, rfl⟩
  · rw [marks_len] at h ⊢
    exact f9 g n c k w hk hk' (by omega) h.has.2
end Go.Proofs.Ytbpemblbddkloaa.Byt
