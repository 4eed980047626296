/- The text of matchers: what matcherText, bracedText and l2Ops come to. -/
import Derived.Test.YtbjlnaaheahhnaaDoorTm
import Derived.Test.YtbjlnaaheahhnaaDoorMgd
import Derived.Deep.RegionHeld3
namespace Go.Proofs.YtbjlnaaheahhnaaDoor.Pat
open Go.RowKit

abbrev mkS (l : List UInt8) : ByteArray := ⟨l.toArray⟩
/-- The sign of an Op. -/
def sgA (j : Nat) : ByteArray := [(⟨#[]⟩ : ByteArray), ⟨#[61]⟩, ⟨#[33, 61]⟩, ⟨#[61, 126]⟩, ⟨#[33, 126]⟩].getD j ⟨#[]⟩
theorem sgA_size (j : Nat) : (sgA j).size ≤ 2 := by
  unfold sgA
  match j with
  | 0 => decide
  | 1 => decide
  | 2 => decide
  | 3 => decide
  | 4 => decide
  | n + 5 => simp; exact Nat.zero_le _
def matT (m : Mt) : List UInt8 := m.1.data.toList ++ (sgA m.2.1.toNat).data.toList ++ Str.quoB m.2.2.data.toList
def bodyM (ms : List Mt) : List UInt8 := Lib.join (ms.map matT) [44]
def txtM (ms : List Mt) : List UInt8 := [123] ++ bodyM ms ++ [125]
/-- The variable's cells hold the signs. -/
def Sgn (w : World) : Prop := 0 < w.heap.size ∧ ∀ l, l < 5 → w.cell? ⟨0, l, none⟩ = some (.string (sgA l))
theorem Sgn.below {w w' : World} (h : Sgn w) (hb : Below w.heap.size w w') : Sgn w' := ⟨Nat.lt_of_lt_of_le h.1 hb.size, fun l hl => (hb.cell (p := ⟨0, l, none⟩) h.1).trans (h.2 l hl)⟩
/-- A matcher in its box, and the sign of its Op. -/
abbrev S4 (w : World) (s : ByteArray) (j : Nat) (t : ByteArray) (w' : World) : Prop :=
  w'.cell? ⟨w.heap.size, 0, none⟩ = some (.string s) ∧ w'.cell? ⟨w.heap.size, 1, none⟩ = some (.int .i64 j) ∧ w'.cell? ⟨w.heap.size, 2, none⟩ = some (.string t) ∧ w'.cell? ⟨0, j, none⟩ = some (.string (sgA j)) ∧ 0 < w'.heap.size ∧ Below w.heap.size w w'
theorem S4.below {w W W' : World} {s t : ByteArray} {j : Nat} (h : S4 w s j t W) (hb : Below W.heap.size W W') : S4 w s j t W' := by
  obtain ⟨h1, h2, h3, h4, h5, h6⟩ := h
  have l := World.block_lt_of_cell? W _ h2
  exact ⟨(hb.cell (p := ⟨w.heap.size, 0, none⟩) l).trans h1, (hb.cell (p := ⟨w.heap.size, 1, none⟩) l).trans h2, (hb.cell (p := ⟨w.heap.size, 2, none⟩) l).trans h3, (hb.cell (p := ⟨0, j, none⟩) h5).trans h4, Nat.lt_of_lt_of_le h5 hb.size, h6.trans (hb.mono h6.size)⟩
theorem S4.drew {w W : World} {s t : ByteArray} {j : Nat} (h : S4 w s j t W) : S4 w s j t W.drew := h.below (Below.refl _ _).drew
theorem three_at {w : World} {b : Nat} {x y z : Value} {t : TypeId} (h : w.heap[b]? = some (.cells #[x, y, z] t)) : w.cell? ⟨b, 0, none⟩ = some x ∧ w.cell? ⟨b, 1, none⟩ = some y ∧ w.cell? ⟨b, 2, none⟩ = some z := by
  refine ⟨?_, ?_, ?_⟩ <;> (unfold World.cell?; simp only [h]; rfl)
theorem S4.new (w : World) (s t : ByteArray) (j : Nat) (hj : j < 5) (hg : Sgn w) : S4 w s j t (w.alloc (.cells #[.string s, .int .i64 j, .string t] 37)) := by
  obtain ⟨h1, h2, h3⟩ := three_at (heap_alloc_new w (.cells #[.string s, .int .i64 j, .string t] 37))
  have hb := (Below.refl w.heap.size w).alloc (Nat.le_refl _) (.cells #[.string s, .int .i64 j, .string t] 37)
  exact ⟨h1, h2, h3, (hb.cell (p := ⟨0, j, none⟩) hg.1).trans (hg.2 j hj), by simp, hb⟩
theorem mat_str (s t : ByteArray) (j : Nat) : s ++ sgA j ++ mkS (Str.quoB t.data.toList) = mkS (matT (s, (j : Int), t)) := by
  apply ByteArray.ext; simp [mkS, matT]
theorem quo_size {t : ByteArray} (h : t.size ≤ 100) : (mkS (Str.quoB t.data.toList)).size ≤ 202 := by
  have := Lab.quoB_len t.data.toList
  rw [Lab.mkS_size]; simp at this; omega

set_option maxHeartbeats 2000000 in
theorem f20 (s t : ByteArray) (j : Nat) (w : World) (hs : s.size ≤ 1048576) (ht : t.size ≤ 100) (hj : j < 5) (hg : Sgn w) : Calls Tryd.prog 20 #[.agg #[.string s, .int .i64 j, .string t]] w fun e w' => e = .returned (.string (mkS (matT (s, (j : Int), t)))) ∧ Below w.heap.size w w' := by
  have HS := hid (S4.new w s t j hj hg)
  have HL := hid (mat_str s t j)
  have h2 := sgA_size j
  have hq := quo_size ht
  have a1 := Lab.add_run s (sgA j) (by omega)
  have a2 := Lab.add_run (s ++ sgA j) (mkS (Str.quoB t.data.toList)) (by rw [ByteArray.size_append]; omega)
  have i1 : (j : Int) < 5 := by omega
  have i2 : (0 : Int) ≤ (j : Int) := by omega
  clear hq h2 hg
  go_enter Tryd.func20, Tryd.ntmps20
  go_wp2_with fail
  go_region_held3 (fun w' => S4 w s j t w') (first | exact HS.out.drew | assumption) (first | (go_at_call 33; refine (Str.f33 t _ (by omega)).mono ?_; rintro e w2 ⟨rfl, hb2⟩; have hs2 := S4.below (by assumption) hb2; clear hb2))
  go_wp2
  go_ret
  exact ⟨by rw [← HL.out]; rfl, hs2.2.2.2.2.2⟩
theorem f29 (w : World) : Calls Tryd.prog 29 #[] w fun e w' => e = .returned (.slice (some ⟨w.heap.size, 0, none⟩) 5 5) ∧ w' = w.alloc (.cells #[.string (sgA 0), .string (sgA 1), .string (sgA 2), .string (sgA 3), .string (sgA 4)] 9) := by
  go_enter Tryd.func29, Tryd.ntmps29
  go_wp2
  go_ret
  exact ⟨rfl, rfl⟩
theorem ops_at (w : World) (j : Nat) (hj : j < 5) : (w.alloc (.cells #[.string (sgA 0), .string (sgA 1), .string (sgA 2), .string (sgA 3), .string (sgA 4)] 9)).cell? ⟨w.heap.size, j, none⟩ = some (.string (sgA j)) := by
  have h := heap_alloc_new w (.cells #[.string (sgA 0), .string (sgA 1), .string (sgA 2), .string (sgA 3), .string (sgA 4)] 9)
  unfold World.cell?
  simp only [h]
  match j, hj with
  | 0, _ => rfl
  | 1, _ => rfl
  | 2, _ => rfl
  | 3, _ => rfl
  | 4, _ => rfl
end Go.Proofs.YtbjlnaaheahhnaaDoor.Pat
