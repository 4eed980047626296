/- Texts that are drawn: DrawPatternParts; the walk of FnPatterns. -/
import Derived.Test.YtpobpanmkdjkjaaDt
import Derived.Test.YtpobpanmkdjkjaaPl
import Derived.Deep.CutRange
namespace Go.Proofs.Ytpobpanmkdjkjaa.Cur
open Go.RowKit Go.Proofs.Ytpobpanmkdjkjaa.Pat

/-- Bytes that came in. -/
def Byt (w : World) (a : Option Addr) (n : Nat) : Prop := n = 0 ∨ ∃ b off, a = some ⟨b, off, none⟩ ∧ b < w.heap.size ∧ ∀ i, i < n → ∃ z : Int, 0 ≤ z ∧ z ≤ 255 ∧ w.cell? ⟨b, off + i, none⟩ = some (.int .u8 z)
theorem Cu.new {w : World} {a : Option Addr} {n c : Nat} (h : Byt w a n) : Cu w.heap.size w.heap.size a n c 0 (w.alloc (.cells #[.slice a n c, .int .i64 0, .int .u64 0] 48)) := by
  have hb := (Below.refl w.heap.size w).alloc (Nat.le_refl _) (.cells #[.slice a n c, .int .i64 0, .int .u64 0] 48)
  refine ⟨⟨0, 0, Nat.le_refl _, by omega, by omega, ?_⟩, ?_, Nat.le_refl _⟩
  · show (w.heap.push _)[w.heap.size]? = _
    simp
  · rcases h with h | ⟨b, off, h1, h2, h3⟩
    · exact .inl h
    · refine .inr ⟨b, off, h1, h2, Nat.lt_of_lt_of_le h2 hb.size, fun i hi => ?_⟩
      obtain ⟨z, z0, z1, hz⟩ := h3 i hi
      exact ⟨z, z0, z1, (hb.cell (p := ⟨b, off + i, none⟩) h2).trans hz⟩
theorem below_of {w w' : World} {o : Obj} (hg : (w.alloc o).grownBy w' (some w.heap.size)) : Below w.heap.size w w' :=
  ⟨hg.os, hg.tape, hg.output, by have := hg.size; simp at this; omega, fun k hk => (hg.block k (by simp; omega) (by simp; omega)).trans (Below.heap_alloc w o k hk)⟩
def six : List ByteArray := [⟨#[42, 97, 42]⟩, ⟨#[42, 45, 42, 124, 42]⟩, ⟨#[42, 98, 63, 42]⟩, ⟨#[97, 42, 97, 42]⟩, ⟨#[63, 42]⟩, ⟨#[42, 42]⟩]

set_option maxHeartbeats 2000000 in
theorem f7 (a : Option Addr) (n c : Nat) (w : World) (h : Byt w a n) (hn : n ≤ 1048576) :
    Calls Try.prog 7 #[.slice a n c] w fun e w' => ∃ p s, e = .returned (.tuple #[.string p, .string s]) ∧ p.size ≤ 6 ∧ s.size ≤ 302 ∧ Below w.heap.size w w' := by
  obtain ⟨R, hR⟩ : ∃ R, R = w.heap.size := ⟨_, rfl⟩
  have HR := hid hR
  obtain ⟨v, hv⟩ : ∃ v, v = w.alloc (.cells #[.slice a n c, .int .i64 0, .int .u64 0] 48) := ⟨_, rfl⟩
  have HV := hid hv
  have HC := hid (Cu.new (c := c) h)
  rw [← hv, ← hR] at HC
  have HC0 := hid (HC.out.below ((Below.refl _ _).alloc (Nat.le_refl _) (.cells (six.map Value.string).toArray 9)))
  have HG0 := hid (grown_alloc (World.grownBy.refl v (some R)) (.cells (six.map Value.string).toArray 9))
  have HW := hid (row_new v six)
  have hRl := HC.out.lt
  clear h hv hR
  go_enter Try.func7, Try.ntmps7
  go_wp2_with fail
  simp only [← HR.out, ← HV.out]
  have hv1 : v.heap.size = R + 1 := by rw [HV.out, HR.out]; simp
  refine (f24 R R n c 0 a (R + 1) 6 6 six _ HC0.out (by omega) hn (by omega) (by omega) (by omega) (fun i hi => by have := HW.out i hi; rw [hv1] at this; exact this) 6 (fun i hi => all_small (ss := six) (by rfl) i hi)).mono ?_
  rintro e w1 ⟨p0, rfl, hp0, hc1, hg1⟩
  have HC1 := hid hc1
  have HG1 := hid (grownBy_trans HG0.out hg1)
  clear hc1 hg1 HC0 HG0 HW HC
  go_wp2_with fail
  refine (f25 R R n c (0 + 2) a 3 _ HC1.out (by omega) hn (by omega) (by omega)).mono ?_
  rintro e w2 ⟨b, rfl, hc2, hg2⟩
  have HC2 := hid hc2
  have HG2 := hid (grownBy_trans HG1.out hg2)
  clear hc2 hg2 HC1 HG1
  go_upto_if 14 with fail
  go_cut [5] from 14 to 16 (fun s5 wx => ∃ p, s5 = .string p ∧ Hid (p.size ≤ 6) ∧ Hid (Cu R R a n c 22 wx) ∧ Hid (v.grownBy wx (some R)))
  case first =>
    cases b
    · go_wp2
      go_meet
      exact ⟨p0, rfl, hp0, HC2.out.mono (by omega), HG2⟩
    · go_wp2_with fail
      refine (f26 R R n c (0 + 2 + 2) a _ HC2.out (by omega) hn).mono ?_
      rintro e w3 ⟨p3, rfl, hp3, hc3, hg3⟩
      have HC3 := hid hc3
      have HG3 := hid (grownBy_trans HG2.out hg3)
      clear hc3 hg3
      go_wp2
      go_meet
      exact ⟨p3, rfl, hp3, HC3.out.mono (by omega), HG3⟩
  case rest =>
  obtain ⟨p, rfl, HP, HC3, HG3⟩ := hcut
  clear HC2 HG2
  go_wp2_with fail
  refine (f27 R R n c 22 a p _ HC3.out (by omega) hn (by have := HP.out; omega)).mono ?_
  rintro e w4 ⟨s0, rfl, hs0, hc4, hg4⟩
  have HC4 := hid hc4
  have HG4 := hid (grownBy_trans HG3.out hg4)
  clear hc4 hg4 HC3 HG3
  go_wp2_with fail
  refine (f25 R R n c (22 + 202) a 3 _ HC4.out (by omega) hn (by omega) (by omega)).mono ?_
  rintro e w5 ⟨b2, rfl, hc5, hg5⟩
  have HC5 := hid hc5
  have HG5 := hid (grownBy_trans HG4.out hg5)
  clear hc5 hg5 HC4 HG4
  go_upto_if 21 with fail
  go_cut [6] from 21 to 24 (fun s6 wx => ∃ s, s6 = .string s ∧ Hid (s.size ≤ 302) ∧ Hid (v.grownBy wx (some R)))
  case first =>
    cases b2
    · go_wp2
      go_meet
      exact ⟨s0, rfl, by unfold Hid; omega, HG5⟩
    · go_wp2_with fail
      refine (f28 R R n c (22 + 202 + 2) 300 a s0 ⟨#[97, 98, 45, 49]⟩ _ HC5.out (by omega) hn hs0 (by omega) (by decide) (by decide)).mono ?_
      rintro e w6 ⟨s6, rfl, hs6, hc6, hg6⟩
      have HG6 := hid (grownBy_trans HG5.out hg6)
      clear hc6 hg6
      go_wp2
      go_meet
      exact ⟨s6, rfl, hs6, HG6⟩
  case rest =>
  obtain ⟨s, rfl, HSs, HG6⟩ := hcut
  have HB : Hid (Below w.heap.size w wc) := by
    have := HG6.out
    rw [HV.out, HR.out] at this
    exact below_of this
  go_wp2
  go_ret2
  exact ⟨p, s, rfl, HP.out, HSs.out, HB.out⟩

def tot (ps : List (List UInt8)) : Nat := (ps.map List.length).sum
theorem parts_tot : ∀ (a : List Int) (s : List UInt8), tot (partsS a s) ≤ s.length
  | [], s => by simp [tot, partsS]
  | x :: a, s => by
    rw [partsS]
    split
    · have := parts_tot a (s.drop (firstF (rest a) s))
      unfold tot at *
      simp only [List.map_cons, List.sum_cons, List.length_take, List.length_drop] at *
      omega
    · have := parts_tot a (s.drop 1)
      simp only [List.length_drop] at this
      omega
theorem pp_tot {p s : ByteArray} {ps : List (List UInt8)} (h : ppF p s = some ps) : tot ps ≤ s.size := by
  unfold ppF at h
  split at h
  · obtain ⟨a, _, ha⟩ := List.exists_of_findSome?_eq_some h
    split at ha
    · have := parts_tot a s.data.toList
      rw [Option.some.inj ha] at this
      simpa using this
    · cases ha
  · cases h
theorem tot_succ {ps : List (List UInt8)} {i : Nat} (hi : i < ps.length) : tot (ps.take (i + 1)) = tot (ps.take i) + ps[i].length := by
  unfold tot
  rw [List.take_succ_eq_append_getElem hi, List.map_append, List.sum_append]
  rfl
theorem tot_take (ps : List (List UInt8)) (i : Nat) : tot (ps.take i) ≤ tot ps := by
  have e : tot ps = tot (ps.take i) + tot (ps.drop i) := by
    unfold tot
    rw [← List.sum_append, ← List.map_append, List.take_append_drop]
  omega
theorem fits_no {p s : ByteArray} (h : ppF p s = none) : fitsB p s = false := by unfold fitsB; rw [h]; rfl
theorem fits_yes {p s : ByteArray} {x : List (List UInt8)} (h : ppF p s = some x) : fitsB p s = true := by unfold fitsB; rw [h]; rfl
end Go.Proofs.Ytpobpanmkdjkjaa.Cur
