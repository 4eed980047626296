/- Texts that are drawn: of, printed, pattern. -/
import Derived.Test.YtpobpanmkdjkjaaCu
import Derived.Lib.SlBytesRow
import Derived.Lib.UnsafeStr
import Derived.Laws.BytesArg
namespace Go.Proofs.Ytpobpanmkdjkjaa.Cur
open Go.RowKit Go.Proofs.Ytpobpanmkdjkjaa.Pat

theorem Cu.lt {B0 R n c lim : Nat} {a : Option Addr} {w : World} (h : Cu B0 R a n c lim w) : R < w.heap.size := by
  obtain ⟨t, seed, _, _, _, h4⟩ := h.box
  exact lt_of_block h4
theorem Cu.below {B0 R n c lim : Nat} {a : Option Addr} {w w' : World} (h : Cu B0 R a n c lim w) (hb : Below w.heap.size w w') : Cu B0 R a n c lim w' := by
  have hR := h.lt
  refine ⟨?_, ?_, h.le⟩
  · obtain ⟨t, seed, h1, h2, h3, h4⟩ := h.box
    exact ⟨t, seed, h1, h2, h3, by rw [hb.block R hR]; exact h4⟩
  · rcases h.data with h0 | ⟨b, off, h1, h2, h3, h4⟩
    · exact .inl h0
    · refine .inr ⟨b, off, h1, h2, Nat.lt_of_lt_of_le h3 hb.size, fun i hi => ?_⟩
      obtain ⟨z, z0, z1, hz⟩ := h4 i hi
      exact ⟨z, z0, z1, (hb.cell (p := ⟨b, off + i, none⟩) h3).trans hz⟩
theorem Cu.other {B0 R n c lim : Nat} {a : Option Addr} {row : Option Nat} {w w' : World} (h : Cu B0 R a n c lim w) (hg : w.grownBy w' row) (hr : ∀ g, row = some g → R < g) : Cu B0 R a n c lim w' := by
  have hR := h.lt
  have hne : ∀ k, k ≤ R → some k ≠ row := fun k hk e => by have := hr k e.symm; omega
  refine ⟨?_, ?_, h.le⟩
  · obtain ⟨t, seed, h1, h2, h3, h4⟩ := h.box
    exact ⟨t, seed, h1, h2, h3, by rw [hg.block R hR (hne R (Nat.le_refl _))]; exact h4⟩
  · rcases h.data with h0 | ⟨b, off, h1, h2, h3, h4⟩
    · exact .inl h0
    · refine .inr ⟨b, off, h1, h2, Nat.lt_of_lt_of_le h3 hg.size, fun i hi => ?_⟩
      obtain ⟨z, z0, z1, hz⟩ := h4 i hi
      exact ⟨z, z0, z1, hg.cell hz (hne b (by have := h.le; omega))⟩

set_option maxHeartbeats 1000000 in
theorem f24 (B0 R n c lim : Nat) (a : Option Addr) (b m c' : Nat) (ss : List ByteArray) (w : World) (h : Cu B0 R a n c lim w) (hl : lim ≤ 4503599627370000) (hn : n ≤ 1048576) (hm1 : 1 ≤ m) (hm2 : m ≤ 1000) (hbR : b ≠ R) (hc : ∀ i, i < m → w.cell? ⟨b, i, none⟩ = some (.string (ss.getD i ByteArray.empty))) (M : Nat) (hM : ∀ i, i < m → (ss.getD i ByteArray.empty).size ≤ M) :
    Calls Try.prog 24 #[.pointer (some ⟨R, 0, none⟩), .slice (some ⟨b, 0, none⟩) m c'] w fun e w' => ∃ s, e = .returned (.string s) ∧ s.size ≤ M ∧ Cu B0 R a n c (lim + 2) w' ∧ w.grownBy w' (some R) := by
  have HC := hid h
  have HCC := hid hc
  have HM := hid hM
  clear h hc hM
  go_enter Try.func24, Try.ntmps24
  go_wp2_with fail
  refine (f47 B0 R n c lim a m _ HC.out hl hn (by omega) (by omega)).mono ?_
  rintro e w1 ⟨x, rfl, x0, x1, hc1, hg1⟩
  obtain ⟨j, rfl, hj⟩ : ∃ j : Nat, x = (j : Int) ∧ j < m := ⟨x.toNat, by omega, by omega⟩
  have HC1 := hid hc1
  have HG := hid hg1
  have c0 := hg1.cell (HCC.out j hj) (by simp; exact hbR)
  have HS := hid (HM.out j hj)
  clear hc1 hg1 x1
  generalize ss.getD j ByteArray.empty = s at *
  go_wp2
  go_ret
  exact ⟨s, rfl, HS.out, HC1.out, HG.out⟩

theorem info5 : (Try.prog.info? 5).map (fun i => (i.zero, i.size, i.bytes)) = some (some (.int .u8 0), 1, 1) := by kernel_rfl
theorem own_apartR {w : World} {base e size k : Nat} {v : Value} {xs : List Value} {R : Nat} (h : w.ownsRow base e size v k xs) (hR : R < base) : (Value.ownBlock v) ≠ some R := by
  intro e
  have := (h.lt R e).1
  omega
theorem own_keptR {w w' : World} {base e size k : Nat} {v : Value} {xs : List Value} {R : Nat} (h : w.ownsRow base e size v k xs) (hR : R < base) (hg : w.grownBy w' (some R)) : w'.ownsRow base e size v k xs :=
  h.kept hg (.inr (own_apartR h hR))
theorem bytes_own {w : World} {B g n c : Nat} {l : List UInt8} (h : w.ownsRow B 5 1 (.slice (some ⟨g, 0, none⟩) n c) n (Lib.byteCells l)) : Lib.Bytes w g 0 ⟨l.toArray⟩ := by
  intro i hi
  have hi' : i < l.length := by simpa [ByteArray.size] using hi
  have := h.cells (g := g) rfl i (.int .u8 (l[i]).toNat) (by simp [Lib.byteCells, hi'])
  have e : (⟨g, 0, none⟩ : Addr).add i = ⟨g, 0 + i, none⟩ := by unfold Addr.add; split <;> simp_all
  rw [e] at this
  exact this
theorem conv_own {w : World} {B n c : Nat} {a : Option Addr} {l : List UInt8} (h : w.ownsRow B 5 1 (.slice a n c) n (Lib.byteCells l)) (hn : l.length = n) :
    (convert 22 9 (.slice a n c)).run Try.prog w = .ok (.string ⟨l.toArray⟩) w := by
  rcases h.2 with ⟨h1, h2⟩ | ⟨g, cap, cur, h1, _⟩
  · simp only [Value.slice.injEq] at h1
    obtain ⟨rfl, rfl, rfl⟩ := h1
    have : l = [] := List.eq_nil_of_length_eq_zero hn
    subst this
    exact run_convert_bytes_nil (P := Try.prog) w 22 5 Try.underlying22 Try.underlying5 0 0 9 Try.underlying9
  · simp only [Value.slice.injEq] at h1
    obtain ⟨rfl, -, rfl⟩ := h1
    have := Lib.run_convert_whole (P := Try.prog) w 22 5 9 Try.underlying22 Try.underlying5 Try.underlying9 g 0 ⟨l.toArray⟩ (bytes_own h) c
    have e : (⟨l.toArray⟩ : ByteArray).size = n := by simp [ByteArray.size, hn]
    rw [e] at this
    exact this
theorem bc_snoc (l : List UInt8) (c : UInt8) : Lib.byteCells l ++ [.int .u8 c.toNat] = Lib.byteCells (l ++ [c]) := by simp [Lib.byteCells]

set_option maxRecDepth 100000 in
set_option maxHeartbeats 2000000 in
theorem f48 (B0 R n c lim : Nat) (a : Option Addr) (w : World) (h : Cu B0 R a n c lim w) (hl : lim ≤ 4503599627369000) (hn : n ≤ 1048576) :
    Calls Try.prog 48 #[.pointer (some ⟨R, 0, none⟩)] w fun e w' => ∃ s, e = .returned (.string s) ∧ s.size ≤ 6 ∧ Cu B0 R a n c (lim + 14) w' ∧ w.grownBy w' (some R) := by
  obtain ⟨i0, hi, hz0, hz1, hz2⟩ := info_parts info5
  have HC := hid h
  have hRl := h.lt
  clear h
  go_enter Try.func48, Try.ntmps48
  go_wp2_with fail
  refine (f47 B0 R n c lim a 6 _ HC.out (by omega) hn (by omega) (by omega)).mono ?_
  rintro e w1 ⟨x, rfl, x0, x1, hc1, hg1⟩
  have x5 : x ≤ 5 := by omega
  have HC1 := hid hc1
  have HG1 := hid hg1
  clear hc1 hg1 x1
  go_wp2
  go_loopw [3, 4] (fun so sk wr => ∃ (k m c' : Nat) (a' : Option Addr) (l : List UInt8), k ≤ 6 ∧ m + k ≤ 6 ∧ sk = .int .i64 k ∧ so = .slice a' m c' ∧ Hid (l.length = m) ∧ Hid (wr.ownsRow w.heap.size 5 1 (.slice a' m c') m (Lib.byteCells l)) ∧ Hid (Cu B0 R a n c (lim + 2 + 2 * (6 - k)) wr) ∧ Hid (w.grownBy wr (some R))) (fun _ sk _ => (intOf sk).toNat)
  case atStart => exact ⟨(1 + x).toNat, 0, 0, none, [], by omega, by omega, by congr 1; omega, rfl, rfl, World.ownsRow_nil _ _ _ _, HC1.out.mono (by omega), HG1⟩
  case round =>
    obtain ⟨k, m, c', a', l, hk, hmk, rfl, rfl, HL, HO, HU, HG⟩ := hrel
    by_cases hlt : 0 < k
    · have i1 : 0 < (k : Int) := by omega
      go_wp2_with fail
      refine (f47 B0 R n c (lim + 2 + 2 * (6 - k)) a 17 _ HU.out (by omega) hn (by omega) (by omega)).mono ?_
      rintro e w2 ⟨y, rfl, y0, y1, hc2, hg2⟩
      obtain ⟨j, rfl, hj⟩ : ∃ j : Nat, y = (j : Int) ∧ j < 17 := ⟨y.toNat, by omega, by omega⟩
      have HU2 := hid hc2
      have HO2 := hid (own_keptR HO.out hRl hg2)
      have HG2 := hid (grownBy_trans HG.out hg2)
      clear hc2 hg2 y1
      have hjs : j < (⟨#[97, 98, 42, 63, 124, 92, 34, 123, 125, 61, 126, 44, 32, 48, 57, 120, 95]⟩ : ByteArray).size := hj
      go_wp2_with (at_builtin; refine wpList_append_own _ rfl (.tmp 12) (.tmp 16) 22 rfl w.heap.size 5 i0 (.int .u8 0) 1 1 Try.underlying22 hi hz0 hz1 hz2 rfl (by decide) _ _ _ rfl (HO2.out.alloc _) ⟨w2.heap.size, 0, none⟩ 1 1 [.int .u8 ((⟨#[97, 98, 42, 63, 124, 92, 34, 123, 125, 61, 126, 44, 32, 48, 57, 120, 95]⟩ : ByteArray)[j]'hjs).toNat] rfl rfl ?d1 ?d2 ?d3 ?d4 ?d5 ?_)
      case d1 => exact one_row _ _ _
      case d2 => intro u hu; simp at hu; subst hu; rfl
      case d3 => unfold maxLen; omega
      case d4 => omega
      case d5 => have := HG2.out.size; simp; omega
      generalize ((⟨#[97, 98, 42, 63, 124, 92, 34, 123, 125, 61, 126, 44, 32, 48, 57, 120, 95]⟩ : ByteArray)[j]'hjs) = d at *
      intro v1 w3 hown1 hgr1 _
      obtain ⟨a2, c2, rfl⟩ := own_form hown1
      have HU3 := hid ((HU2.out.below ((Below.refl _ _).alloc (Nat.le_refl _) (.cells #[.int .u8 d.toNat] 5))).other hgr1 (fun g hg => by have := (HO2.out.lt g hg).1; omega))
      have HG3 := hid (grown_new (grown_alloc HG2.out (.cells #[.int .u8 d.toNat] 5)) hgr1 (fun g hg => (HO2.out.lt g hg).1))
      have HO3 : Hid (w3.ownsRow w.heap.size 5 1 (.slice a2 (m + 1) c2) (m + 1) (Lib.byteCells (l ++ [d]))) := by unfold Hid; rw [← bc_snoc]; exact hown1
      have HL3 : Hid ((l ++ [d]).length = m + 1) := by unfold Hid; rw [List.length_append, HL.out]; rfl
      clear hown1 hgr1
      go_wp2
      go_roundw
      case rel => exact ⟨k - 1, m + 1, c2, a2, l ++ [d], by omega, by omega, by congr 1; omega, rfl, HL3, HO3, HU3.out.mono (by omega), HG3⟩
      case measure => simp [intOf]; omega
    · obtain rfl : k = 0 := by omega
      have hcv := conv_own HO.out HL.out
      have HSZ : Hid ((⟨l.toArray⟩ : ByteArray).size ≤ 6) := by unfold Hid; have := HL.out; simp [ByteArray.size]; omega
      go_wp2
      go_ret
      exact ⟨_, rfl, HSZ.out, HU.out.mono (by omega), HG.out⟩
end Go.Proofs.Ytpobpanmkdjkjaa.Cur
