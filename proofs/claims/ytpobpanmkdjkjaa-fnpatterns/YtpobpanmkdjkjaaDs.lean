/- Texts that are drawn: pattern, spoilt. -/
import Derived.Test.YtpobpanmkdjkjaaDr
namespace Go.Proofs.Ytpobpanmkdjkjaa.Cur
open Go.RowKit Go.Proofs.Ytpobpanmkdjkjaa.Pat

theorem below_drewN {B : Nat} {a w : World} (h : Below B a w) (q : Nat) : Below B a (w.drewN q) := ⟨h.os, h.tape, h.output, h.size, h.block⟩
theorem row_new (w : World) (ss : List ByteArray) (i : Nat) (hi : i < ss.length) : (w.alloc (.cells (ss.map Value.string).toArray 9)).cell? ⟨w.heap.size, i, none⟩ = some (.string (ss.getD i ByteArray.empty)) := by
  have h : (w.alloc (.cells (ss.map Value.string).toArray 9)).heap[w.heap.size]? = some (.cells (ss.map Value.string).toArray 9) := by
    show (w.heap.push _)[w.heap.size]? = _
    simp
  unfold World.cell?
  simp only [h]
  simp [hi]
theorem all_small {ss : List ByteArray} {M : Nat} (h : (ss.all fun s => decide (s.size ≤ M)) = true) (i : Nat) (hi : i < ss.length) : (ss.getD i ByteArray.empty).size ≤ M := by
  have e : ss.getD i ByteArray.empty = ss[i] := by simp [hi]
  rw [e]
  have := List.all_eq_true.1 h ss[i] (List.getElem_mem hi)
  simpa using this

def pats : List ByteArray := [⟨#[42]⟩, ⟨#[97, 42]⟩, ⟨#[42, 98]⟩, ⟨#[97, 124, 98]⟩, ⟨#[97, 112, 105, 124, 100, 98]⟩, ⟨#[63]⟩, ⟨#[49, 42, 124, 97]⟩, ⟨#[]⟩, ⟨#[42, 97, 42]⟩, ⟨#[92, 42]⟩, ⟨#[97, 63, 105]⟩, ⟨#[63, 63, 124, 42, 48]⟩, ⟨#[124, 97]⟩, ⟨#[42, 45, 42, 124, 42]⟩]

set_option maxHeartbeats 1000000 in
theorem f26 (B0 R n c lim : Nat) (a : Option Addr) (w : World) (h : Cu B0 R a n c lim w) (hl : lim ≤ 4503599627368000) (hn : n ≤ 1048576) :
    Calls Try.prog 26 #[.pointer (some ⟨R, 0, none⟩)] w fun e w' => ∃ s, e = .returned (.string s) ∧ s.size ≤ 6 ∧ Cu B0 R a n c (lim + 18) w' ∧ w.grownBy w' (some R) := by
  have HC := hid h
  have hRl := h.lt
  have HC0 := hid (h.below ((Below.refl _ _).alloc (Nat.le_refl _) (.cells (pats.map Value.string).toArray 9)))
  have HG0 := hid (grown_alloc (World.grownBy.refl w (some R)) (.cells (pats.map Value.string).toArray 9))
  have HR := hid (row_new w pats)
  clear h
  go_enter Try.func26, Try.ntmps26
  go_wp2_with fail
  refine (f24 B0 R n c lim a w.heap.size 14 14 pats _ HC0.out (by omega) hn (by omega) (by omega) (by omega) (fun i hi => HR.out i hi) 6 (fun i hi => all_small (by rfl) i hi)).mono ?_
  rintro e w1 ⟨s, rfl, hs, hc1, hg1⟩
  have HC1 := hid hc1
  have HG1 := hid (grownBy_trans HG0.out hg1)
  clear hc1 hg1 HR HC0 HG0
  go_wp2_with fail
  refine (f25 B0 R n c (lim + 2) a 8 _ HC1.out (by omega) hn (by omega) (by omega)).mono ?_
  rintro e w2 ⟨b, rfl, hc2, hg2⟩
  have HC2 := hid hc2
  have HG2 := hid (grownBy_trans HG1.out hg2)
  clear hc2 hg2
  cases b
  · go_wp2
    go_ret
    exact ⟨s, rfl, hs, HC2.out.mono (by omega), HG2.out⟩
  · go_wp2_with fail
    refine (f48 B0 R n c (lim + 2 + 2) a _ HC2.out (by omega) hn).mono ?_
    rintro e w3 ⟨s3, rfl, hs3, hc3, hg3⟩
    have HC3 := hid hc3
    have HG3 := hid (grownBy_trans HG2.out hg3)
    clear hc3 hg3
    go_wp2
    go_ret
    exact ⟨s3, rfl, hs3, HC3.out.mono (by omega), HG3.out⟩

theorem conv_one (w : World) (d : UInt8) : (convert 22 9 (.slice (some ⟨w.heap.size, 0, none⟩) 1 1)).run Try.prog (w.alloc (.cells #[.int .u8 d.toNat] 5)) = .ok (.string ⟨#[d]⟩) (w.alloc (.cells #[.int .u8 d.toNat] 5)) := by
  have hb : Lib.Bytes (w.alloc (.cells #[.int .u8 d.toNat] 5)) w.heap.size 0 ⟨#[d]⟩ := by
    intro i hi
    have hi' : i = 0 := by
      have : (⟨#[d]⟩ : ByteArray).size = 1 := rfl
      omega
    subst hi'
    simp
    rfl
  exact Lib.run_convert_whole (P := Try.prog) (w.alloc (.cells #[.int .u8 d.toNat] 5)) 22 5 9 Try.underlying22 Try.underlying5 Try.underlying9 w.heap.size 0 ⟨#[d]⟩ hb 1
theorem add_run (a b : ByteArray) (h : a.size + b.size ≤ 9223372036854775807) : ∀ w, (Op.stringOp .add a b).run Try.prog w = .ok (.string (a ++ b)) w := fun w => run_string_add_sum w a b h
theorem sl_h (t : ByteArray) (i : Nat) (h : i ≤ t.size) : ∀ w, (Instr.slice 9 (.string t) none (some (.int .i64 (i : Int))) none).run Try.prog w = .ok (.string (t.extract 0 i)) w := by
  intro w
  have := run_slice_string_h (P := Try.prog) w 9 t Try.underlying9 .i64 (i : Int) (by omega) (by omega)
  simpa using this
theorem sl_l (t : ByteArray) (i : Nat) (h : i ≤ t.size) : ∀ w, (Instr.slice 9 (.string t) (some (.int .i64 (i : Int))) none none).run Try.prog w = .ok (.string (t.extract i t.size)) w := by
  intro w
  have := run_slice_string_l (P := Try.prog) w 9 t Try.underlying9 .i64 (i : Int) (by omega) (by omega)
  simpa using this
theorem sl_l1 (t : ByteArray) (i : Nat) (h : i + 1 ≤ t.size) : ∀ w, (Instr.slice 9 (.string t) (some (.int .i64 ((i : Int) + 1))) none none).run Try.prog w = .ok (.string (t.extract (i + 1) t.size)) w := by
  have := sl_l t (i + 1) h
  simpa using this

set_option maxRecDepth 100000 in
set_option maxHeartbeats 4000000 in
theorem f28 (B0 R n c lim T : Nat) (a : Option Addr) (t0 u : ByteArray) (w : World) (h : Cu B0 R a n c lim w) (hl : lim ≤ 4503599627368000) (hn : n ≤ 1048576) (ht : t0.size ≤ T) (hT : T ≤ 100000) (hu1 : 1 ≤ u.size) (hu2 : u.size ≤ 1000) :
    Calls Try.prog 28 #[.pointer (some ⟨R, 0, none⟩), .string t0, .string u] w fun e w' => ∃ s, e = .returned (.string s) ∧ s.size ≤ T + 2 ∧ Cu B0 R a n c (lim + 14) w' ∧ w.grownBy w' (some R) := by
  have HC := hid h
  clear h
  go_enter Try.func28, Try.ntmps28
  go_wp2_with fail
  refine (f47 B0 R n c lim a 3 _ HC.out (by omega) hn (by omega) (by omega)).mono ?_
  rintro e w1 ⟨x, rfl, x0, x1, hc1, hg1⟩
  obtain ⟨k0, rfl, hk0⟩ : ∃ k0 : Nat, x = (k0 : Int) ∧ k0 ≤ 2 := ⟨x.toNat, by omega, by omega⟩
  have HC1 := hid hc1
  have HG1 := hid hg1
  clear hc1 hg1 x1 x0
  go_wp2
  go_loopw [1, 7] (fun st sk wr => ∃ (k : Nat) (t : ByteArray), k ≤ 2 ∧ t.size + k ≤ T + 2 ∧ sk = .int .i64 k ∧ st = .string t ∧ Hid (Cu B0 R a n c (lim + 2 + 6 * (2 - k)) wr) ∧ Hid (w.grownBy wr (some R))) (fun _ sk _ => (intOf sk).toNat)
  case atStart => exact ⟨k0, t0, by omega, by omega, rfl, rfl, HC1.out.mono (by omega), HG1⟩
  case round =>
    obtain ⟨k, t, hk, htk, rfl, rfl, HU, HG⟩ := hrel
    by_cases hlt : 0 < k
    · by_cases hts : 0 < t.size
      · have i1 : 0 < (k : Int) := by omega
        have i2 : 0 < (t.size : Int) := by omega
        go_wp2_with fail
        refine (f47 B0 R n c (lim + 2 + 6 * (2 - k)) a t.size _ HU.out (by omega) hn (by omega) (by omega)).mono ?_
        rintro e w2 ⟨x, rfl, x0, x1, hc2, hg2⟩
        obtain ⟨i, rfl, hi⟩ : ∃ i : Nat, x = (i : Int) ∧ i < t.size := ⟨x.toNat, by omega, by omega⟩
        have HU2 := hid hc2
        have HG2 := hid (grownBy_trans HG.out hg2)
        clear hc2 hg2 x1 x0
        go_wp2_with fail
        refine (f47 B0 R n c (lim + 2 + 6 * (2 - k) + 2) a u.size _ HU2.out (by omega) hn (by omega) (by omega)).mono ?_
        rintro e w3 ⟨y, rfl, y0, y1, hc3, hg3⟩
        obtain ⟨j, rfl, hj⟩ : ∃ j : Nat, y = (j : Int) ∧ j < u.size := ⟨y.toNat, by omega, by omega⟩
        have HU3 := hid (hc3.below ((Below.refl _ _).alloc (Nat.le_refl _) (.cells #[.int .u8 u[j].toNat] 5)))
        have HG3 := hid (grown_alloc (grownBy_trans HG2.out hg3) (.cells #[.int .u8 u[j].toNat] 5))
        have hcv := conv_one w3 u[j]
        clear hc3 hg3 y1 y0 HU2 HG2
        go_wp2_with fail
        refine (f47 B0 R n c (lim + 2 + 6 * (2 - k) + 2 + 2) a 3 _ HU3.out (by omega) hn (by omega) (by omega)).mono ?_
        rintro e w4 ⟨z, rfl, z0, z1, hc4, hg4⟩
        obtain ⟨q, rfl, hq⟩ : ∃ q : Nat, z = (q : Int) ∧ q < 3 := ⟨z.toNat, by omega, by omega⟩
        have HU4 := hid hc4
        have HG4 := hid (grownBy_trans HG3.out hg4)
        clear hc4 hg4 z1 z0 HU3 HG3 hcv
        generalize u[j] = d at *
        have s1 := sl_h t i (by omega)
        have s2 := sl_l t i (by omega)
        have s3 := sl_l1 t i (by omega)
        have e1 : (t.extract 0 i).size = i := by rw [ByteArray.size_extract]; omega
        have e2 : (t.extract i t.size).size = t.size - i := by rw [ByteArray.size_extract]; omega
        have e3 : (t.extract (i + 1) t.size).size = t.size - (i + 1) := by rw [ByteArray.size_extract]; omega
        have e4 : (⟨#[d]⟩ : ByteArray).size = 1 := rfl
        generalize t.extract 0 i = ta at *
        generalize t.extract i t.size = tb at *
        generalize t.extract (i + 1) t.size = tc at *
        have a1 := add_run ta ⟨#[d]⟩ (by omega)
        have a2 := add_run (ta ++ ⟨#[d]⟩) tb (by rw [ByteArray.size_append]; omega)
        have a3 := add_run (ta ++ ⟨#[d]⟩) tc (by rw [ByteArray.size_append]; omega)
        have a4 := add_run ta tc (by omega)
        rcases (show q = 0 ∨ q = 1 ∨ q = 2 by omega) with rfl | rfl | rfl
        · have Z : Hid ((ta ++ ⟨#[d]⟩ ++ tb).size + (k - 1) ≤ T + 2) := by unfold Hid; simp only [ByteArray.size_append]; omega
          clear e1 e2 e3 e4
          go_wp2
          go_quiet (fail)
          go_wp2
          go_roundw
          case rel => exact ⟨k - 1, _, by omega, Z.out, by congr 1; omega, rfl, (HU4.out.below (below_drewN (Below.refl _ _) _)).mono (by omega), grown_drewN HG4.out _⟩
          case measure => simp [intOf]; omega
        · have Z : Hid ((ta ++ ⟨#[d]⟩ ++ tc).size + (k - 1) ≤ T + 2) := by unfold Hid; simp only [ByteArray.size_append]; omega
          clear e1 e2 e3 e4
          go_wp2
          go_quiet (fail)
          go_wp2
          go_roundw
          case rel => exact ⟨k - 1, _, by omega, Z.out, by congr 1; omega, rfl, (HU4.out.below (below_drewN (Below.refl _ _) _)).mono (by omega), grown_drewN HG4.out _⟩
          case measure => simp [intOf]; omega
        · have Z : Hid ((ta ++ tc).size + (k - 1) ≤ T + 2) := by unfold Hid; simp only [ByteArray.size_append]; omega
          clear e1 e2 e3 e4
          go_wp2
          go_quiet (fail)
          go_wp2
          go_roundw
          case rel => exact ⟨k - 1, _, by omega, Z.out, by congr 1; omega, rfl, (HU4.out.below (below_drewN (Below.refl _ _) _)).mono (by omega), grown_drewN HG4.out _⟩
          case measure => simp [intOf]; omega
      · have i1 : 0 < (k : Int) := by omega
        have i2 : ¬ 0 < (t.size : Int) := by omega
        go_wp2
        go_ret
        exact ⟨t, rfl, by omega, HU.out.mono (by omega), HG.out⟩
    · have i1 : ¬ 0 < (k : Int) := by omega
      go_wp2
      go_ret
      exact ⟨t, rfl, by omega, HU.out.mono (by omega), HG.out⟩
end Go.Proofs.Ytpobpanmkdjkjaa.Cur
