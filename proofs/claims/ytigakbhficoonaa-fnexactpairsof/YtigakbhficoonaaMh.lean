/- Marks that are held: heldLabelS. -/
import Derived.Test.YtigakbhficoonaaMl
import Derived.Deep.RegionHeld3
namespace Go.Proofs.Ytigakbhficoonaa.Lab
open Go.RowKit Go.Proofs.Ytigakbhficoonaa.Str

/-- A text in a cell, and all that was there is as it was. -/
abbrev UU (w : World) (b o : Nat) (v : ByteArray) (w' : World) : Prop := w'.cell? ⟨b, o, none⟩ = some (.string v) ∧ b < w'.heap.size ∧ Below w.heap.size w w'
theorem UU.below {w W W' : World} {b o : Nat} {v : ByteArray} (h : UU w b o v W) (hb : Below W.heap.size W W') : UU w b o v W' :=
  ⟨(hb.cell (p := ⟨b, o, none⟩) h.2.1).trans h.1, Nat.lt_of_lt_of_le h.2.1 hb.size, h.2.2.trans (hb.mono h.2.2.size)⟩
theorem UU.drew {w W : World} {b o : Nat} {v : ByteArray} (h : UU w b o v W) : UU w b o v W.drew := ⟨h.1, h.2.1, h.2.2.drew⟩

set_option maxHeartbeats 2000000 in
theorem f9 (g n c k : Nat) (w : World) (hk : k + 2 * n ≤ 100000000) (hr : HasL w (some ⟨g, 0, none⟩) (markL k n)) :
    Calls Try.prog 9 #[.slice (some ⟨g, 0, none⟩) n c, .int .i64 k] w fun e w' => e = .returned (.int .i64 ((k + 2 * n : Nat) : Int)) ∧ Below w.heap.size w w' := by
  go_enter Try.func9, Try.ntmps9
  go_wp2
  go_loopw [1, 5] (fun sk si wr => ∃ (i m : Nat), i ≤ n ∧ si = .int .i64 i ∧ sk = .int .i64 (m : Int) ∧ Hid (m = k + 2 * i) ∧ Below w.heap.size w wr) (fun _ si _ => n - (intOf si).toNat)
  case atStart => exact ⟨0, k, Nat.zero_le _, rfl, rfl, rfl, Below.refl _ _⟩
  case round =>
    obtain ⟨i, m, hi, rfl, rfl, hm, hnx⟩ := hrel
    have HX := hid hnx
    by_cases hlt : i < n
    · rcases hr with hr | ⟨b, off, hbo, hbl, hc⟩
      · have := markL_len k n; rw [hr] at this; simp at this; omega
      simp only [Option.some.injEq, Addr.mk.injEq, and_true] at hbo
      obtain ⟨rfl, rfl⟩ := hbo
      obtain ⟨c0, c1⟩ := hc i (by rw [markL_len]; exact hlt)
      rw [markL_get k n i hlt, ← hm.out, Nat.zero_add] at c0 c1
      have HS := hid (show UU w g (i * 2) (mkT m) wr from ⟨(hnx.cell (p := ⟨g, i * 2, none⟩) hbl).trans c0, Nat.lt_of_lt_of_le hbl hnx.size, hnx⟩)
      have HT := hid (show w.cell? ⟨g, i * 2 + 1, none⟩ = some (.string (mkT (m + 1))) from c1)
      have HL := hid hbl
      have i1 : (i : Int) < (n : Int) := by omega
      have hm1 : m ≤ 99999998 := by have := hm.out; omega
      clear hc c0 c1 hnx hbl
      go_wp2_with fail
      go_region_held3 (fun w' => UU w g (i * 2) (mkT m) w') (first | exact HS.out.drew | assumption) (first | (go_at_call 17; refine (f17 m _ (by omega)).mono ?_; rintro e w2 ⟨rfl, hb2⟩; have hs2 := UU.below (by assumption) hb2; clear hb2))
      have HX2 := hid hs2.2.2
      have HS2 := hid (show UU w g (i * 2 + 1) (mkT (m + 1)) w2 from ⟨(HX2.out.cell (p := ⟨g, i * 2 + 1, none⟩) HL.out).trans HT.out, hs2.2.1, hs2.2.2⟩)
      clear hs2
      go_wp2_with fail
      go_region_held3 (fun w' => UU w g (i * 2 + 1) (mkT (m + 1)) w') (first | exact HS2.out.drew | assumption) (first | (go_at_call 17; refine (f17 (m + 1) _ (by omega)).mono ?_; rintro e w3 ⟨rfl, hb3⟩; have hs3 := UU.below (by assumption) hb3; clear hb3))
      have HX3 := hid hs3.2.2
      clear hs3
      go_wp2
      go_roundw
      case rel => exact ⟨i + 1, m + 2, by omega, by go_num, by go_num, by have := hm.out; unfold Hid; omega, HX3.out⟩
      case measure => simp [intOf]; omega
    · obtain rfl : i = n := by omega
      go_wp2
      go_ret
      exact ⟨by rw [← hm.out]; rfl, HX.out⟩
theorem f9n (k : Nat) (w : World) : Calls Try.prog 9 #[.slice none 0 0, .int .i64 k] w fun e w' => e = .returned (.int .i64 k) ∧ w' = w := by
  go_enter Try.func9, Try.ntmps9
  go_wp2
  go_loop [1, 5] (fun sk i => sk = .int .i64 k ∧ i = .int .i64 0) (fun _ _ => 0)
  case atStart => exact ⟨rfl, rfl⟩
  case round =>
    obtain ⟨rfl, rfl⟩ := hrel
    go_wp2
    go_ret
    exact ⟨rfl, rfl⟩
end Go.Proofs.Ytigakbhficoonaa.Lab
