/- Lists of rules: szRelabelS, eqRelabelS. -/
import Derived.Test.YtooackaijhpohaaGreatDoorQa
namespace Go.Proofs.YtooackaijhpohaaGreatDoor.Rul
open Go.RowKit Go.Proofs.YtooackaijhpohaaGreatDoor.Fil Go.Proofs.YtooackaijhpohaaGreatDoor.Rel

set_option maxHeartbeats 2000000 in
theorem f37 (r : Rule) (a : Option Addr) (n c : Nat) (L : Int) (w : World) (hL0 : 0 ≤ L) (hL1 : L ≤ 1048576) (hn : r.from'.length = n) (hr : HasT w a r.from') (hf : FitT r.from') (hmax : n ≤ maxLen) (hz : FitR r) :
    Calls Tryz.prog 37 #[agR r a n c, .int .i64 L] w fun e w' => ∃ y : Int, e = .returned (.int .i64 y) ∧ (0 ≤ y → SmlR r) ∧ -1 ≤ y ∧ y ≤ 1048576 ∧ Below w.heap.size w w' := by
  obtain ⟨A, ss, sep, pat, tgt, val, md⟩ := r
  obtain ⟨h1, h2, h3, h4, h5, h6, h7, h8⟩ := hz
  simp only at h1 h2 h3 h4 h5 h6 h7 h8 hn hr hf
  unfold maxLen at h5 h6 h7 h8
  have HN := hid hn
  have HR := hid hr
  have HB0 := hid ((Below.refl w.heap.size w).alloc (Nat.le_refl _) (.cells #[.int .i64 A, .slice a n c, .string sep, .string pat, .string tgt, .string val, .int .i64 md] 64))
  have HW := hid (new_at w (.cells #[.int .i64 A, .slice a n c, .string sep, .string pat, .string tgt, .string val, .int .i64 md] 64))
  clear hn hr
  simp only [agR]
  go_enter Tryz.func37, Tryz.ntmps37
  go_wp2_with fail
  refine (f59 a n c L ss _ hL0 hL1 HN.out (HR.out.below HB0.out) hf hmax).mono ?_
  rintro e w1 ⟨y, rfl, hy, y0, y1, hw1⟩
  have hw2 := hw1.symm
  clear hw1
  subst hw2
  by_cases g0 : y < 0
  · go_wp2
    go_ret
    exact ⟨-1, rfl, fun h => absurd h (by omega), by omega, by omega, HB0.out⟩
  have HY := hid (hy (by omega))
  clear hy
  by_cases g1 : y - sep.size < 0
  · go_wp2
    go_ret
    exact ⟨-1, rfl, fun h => absurd h (by omega), by omega, by omega, HB0.out⟩
  by_cases g2 : y - sep.size - pat.size < 0
  · go_wp2
    go_ret
    exact ⟨-1, rfl, fun h => absurd h (by omega), by omega, by omega, HB0.out⟩
  by_cases g3 : y - sep.size - pat.size - tgt.size < 0
  · go_wp2
    go_ret
    exact ⟨-1, rfl, fun h => absurd h (by omega), by omega, by omega, HB0.out⟩
  by_cases g4 : y - sep.size - pat.size - tgt.size - val.size < 0
  · go_wp2
    go_ret
    exact ⟨-1, rfl, fun h => absurd h (by omega), by omega, by omega, HB0.out⟩
  · go_wp2
    go_ret
    refine ⟨_, rfl, fun _ => ⟨?_, ?_, ?_, ?_, ?_, ?_⟩, by omega, by omega, HB0.out⟩
    · simp only; rw [HN.out]; exact HY.out.1
    · simp only; rw [HN.out]; exact HY.out.2
    all_goals (simp only; omega)

set_option maxHeartbeats 2000000 in
theorem f20 (a : Option Addr) (n c : Nat) (L : Int) (qs : List Q) (w : World) (hL0 : 0 ≤ L) (hL1 : L ≤ 1048576) (hn : qs.length = n) (hr : HasR w a qs) (hf : FitQ qs) (hmax : n ≤ maxLen) :
    Calls Tryz.prog 20 #[.slice a n c, .int .i64 L] w fun e w' => ∃ y : Int, e = .returned (.int .i64 y) ∧ (0 ≤ y → n ≤ 1048576 ∧ SmlQ qs) ∧ -1 ≤ y ∧ y ≤ 1048576 ∧ Below w.heap.size w w' := by
  unfold maxLen at hmax
  by_cases hbig : (n : Int) ≤ L
  · have HN := hid hn
    have HR := hid hr
    have HF := hid hf
    clear hn hr hf
    go_enter Tryz.func20, Tryz.ntmps20
    go_wp2
    go_loopw [1, 5] (fun sx i wr => ∃ (k : Nat) (x : Int), k ≤ n ∧ i = .int .i64 k ∧ sx = .int .i64 x ∧ 0 ≤ x ∧ x ≤ 1048576 ∧ Hid (∀ i, i < k → SmlR (qs.getD i q0).r) ∧ Hid (Below w.heap.size w wr)) (fun _ i _ => n - (intOf i).toNat)
    case atStart => exact ⟨0, _, Nat.zero_le _, rfl, rfl, by omega, by omega, fun i hi => by omega, Below.refl _ _⟩
    case round =>
      obtain ⟨k, x, hk, rfl, rfl, hx0, hx1, HU, HB⟩ := hrel
      by_cases hlt : k < n
      · obtain ⟨b, off, rfl, hbl, c0, c1, c2, c3, c4, c5, c6, hT⟩ := (HR.out).at7 k (by rw [HN.out]; exact hlt)
        obtain ⟨g0, g1, g2⟩ := HF.out k
        have d0 := (HB.out.cell (p := ⟨b, off + k * 7, none⟩) hbl).trans c0
        have d1 := (HB.out.cell (p := ⟨b, off + k * 7 + 1, none⟩) hbl).trans c1
        have d2 := (HB.out.cell (p := ⟨b, off + k * 7 + 2, none⟩) hbl).trans c2
        have d3 := (HB.out.cell (p := ⟨b, off + k * 7 + 3, none⟩) hbl).trans c3
        have d4 := (HB.out.cell (p := ⟨b, off + k * 7 + 4, none⟩) hbl).trans c4
        have d5 := (HB.out.cell (p := ⟨b, off + k * 7 + 5, none⟩) hbl).trans c5
        have d6 := (HB.out.cell (p := ⟨b, off + k * 7 + 6, none⟩) hbl).trans c6
        have HT := hid (hT.below HB.out)
        have HU2 : Hid (SmlR (qs.getD k q0).r → ∀ i, i < k + 1 → SmlR (qs.getD i q0).r) := by
          intro h i hi
          by_cases e : i = k
          · subst e; exact h
          · exact HU.out i (by omega)
        have G0 := hid g0
        have G1 := hid g1
        have G2 := hid g2
        clear c0 c1 c2 c3 c4 c5 c6 hT g0 g1 g2 hbl
        generalize qs.getD k q0 = q at *
        obtain ⟨r, aq, cq⟩ := q
        go_wp2_with fail
        refine (f37 r aq r.from'.length cq x _ hx0 hx1 rfl HT.out G1.out G2.out G0.out).mono ?_
        rintro e w2 ⟨y, rfl, hy, y0, y1, hb2⟩
        have HB2 := hid (HB.out.trans (hb2.mono HB.out.size))
        clear hb2 d0 d1 d2 d3 d4 d5 d6 HB
        by_cases hy0 : y < 0
        · go_wp2
          go_ret
          exact ⟨-1, rfl, fun h => absurd h (by omega), by omega, by omega, HB2.out⟩
        · have HU3 := hid (HU2.out (hy (by omega)))
          clear hy
          go_wp2
          go_roundw
          case rel => exact ⟨k + 1, y, by omega, by go_num, rfl, by omega, y1, HU3.out, HB2.out⟩
          case measure => simp [intOf]; omega
      · go_wp2
        go_ret
        exact ⟨x, rfl, fun _ => ⟨by omega, fun i hi => HU.out i (by have := HN.out; omega)⟩, by omega, hx1, HB.out⟩
  · go_enter Tryz.func20, Tryz.ntmps20
    go_wp2
    go_ret
    exact ⟨-1, rfl, fun h => absurd h (by omega), by omega, by omega, Below.refl _ _⟩
end Go.Proofs.YtooackaijhpohaaGreatDoor.Rul
