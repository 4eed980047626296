/- Samples that are drawn: valueBy, of2, samples, longSamples, oddSamples. -/
import Derived.Test.YtpbnneelpdacdaaUa
import Derived.Test.YtpbnneelpdacdaaTg
import Derived.Maps.AppendAt
namespace Go.Proofs.Ytpbnneelpdacdaa.Chk
open Go.Proofs.Ytpbnneelpdacdaa.Smp (Sm e0)
def Vfit (l : List Sm) : Prop := ∀ k, k < l.length → -9223372036854775808 ≤ (l.getD k e0).2 ∧ (l.getD k e0).2 ≤ 9223372036854775807
theorem vfit_snoc {l : List Sm} {p : Sm} (h : Vfit l) (h0 : -9223372036854775808 ≤ p.2) (h1 : p.2 ≤ 9223372036854775807) : Vfit (l ++ [p]) := by
  intro k hk
  simp only [List.length_append, List.length_singleton] at hk
  by_cases e : k < l.length
  · have : (l ++ [p]).getD k e0 = l.getD k e0 := by simp [List.getD_eq_getElem?_getD, List.getElem?_append_left e]
    rw [this]
    exact h k e
  · have e2 : k = l.length := by omega
    have : (l ++ [p]).getD k e0 = p := by rw [e2]; simp
    rw [this]
    exact ⟨h0, h1⟩
end Go.Proofs.Ytpbnneelpdacdaa.Chk
namespace Go.Proofs.Ytpbnneelpdacdaa.Smp
open Go.RowKit Go.Proofs.Ytpbnneelpdacdaa.Cur
theorem Own.snoc {w : World} {base : Nat} {v : Value} {O : List Sm} {p : Sm} (h : w.ownsRow base 58 2 v (O.length + 1) (flat O ++ [.int .i64 p.1, .int .i64 p.2])) : Own w base v (O ++ [p]) := by
  unfold Own; rw [flat_append, List.length_append]; exact h

/-- A value that is an int of 64 bits. -/
def Fit64 (x : Int) : Prop := -9223372036854775808 ≤ x ∧ x ≤ 9223372036854775807
theorem fit_wrap (x : Int) : Fit64 (IntKind.i64.wrap x) := by unfold Fit64; rw [IntKind.wrap_i64]; omega
theorem fit_wrap64 (x : Int) : Fit64 (wrap64 x) := by unfold Fit64 wrap64; omega
theorem vf_snoc {L : List Sm} {t v : Int} (h : Chk.Vfit L) (hv : Fit64 v) : Chk.Vfit (L ++ [(t, v)]) := Chk.vfit_snoc h hv.1 hv.2
theorem vf_nil : Chk.Vfit ([] : List Sm) := fun k hk => by simp at hk
theorem vf_set {L : List Sm} {i : Nat} {t : Int} (h : Chk.Vfit L) (hi : i < L.length) : Chk.Vfit (L.set i (t, (L.getD i e0).2)) := by
  intro k hk
  rw [List.length_set] at hk
  by_cases e : k = i
  · subst e
    have := h k hk
    simpa [List.getD, List.getElem?_set_self hk, hk] using this
  · have := h k hk
    rwa [show (L.set i (t, (L.getD i e0).2)).getD k e0 = L.getD k e0 by simp [List.getD, List.getElem?_set_ne (Ne.symm e)]]
/-- Nothing that was there has turned but R and the row. -/
structure G2 (R : Nat) (row : Option Nat) (w w' : World) : Prop where
  os : w'.os = w.os
  tape : w'.tape = w.tape
  output : w'.output = w.output
  size : w.heap.size ≤ w'.heap.size
  block : ∀ k, k < w.heap.size → k ≠ R → some k ≠ row → w'.heap[k]? = w.heap[k]?
theorem G2.refl (R : Nat) (row : Option Nat) (w : World) : G2 R row w w := ⟨rfl, rfl, rfl, Nat.le_refl _, fun _ _ _ _ => rfl⟩
theorem G2.cur {R : Nat} {row : Option Nat} {w a b : World} (h : G2 R row w a) (k : a.grownBy b (some R)) : G2 R row w b :=
  ⟨k.os.trans h.os, k.tape.trans h.tape, k.output.trans h.output, Nat.le_trans h.size k.size, fun i hi h1 h2 => (k.block i (Nat.lt_of_lt_of_le hi h.size) (by intro e; cases e; exact h1 rfl)).trans (h.block i hi h1 h2)⟩
theorem G2.row {R : Nat} {row r : Option Nat} {w a b : World} (h : G2 R row w a) (k : a.grownBy b r) (hr : ∀ g, r = some g → r = row ∨ w.heap.size ≤ g) : G2 R row w b :=
  ⟨k.os.trans h.os, k.tape.trans h.tape, k.output.trans h.output, Nat.le_trans h.size k.size, fun i hi h1 h2 => (k.block i (Nat.lt_of_lt_of_le hi h.size) (by
    intro e
    rcases hr i e.symm with e2 | e2
    · exact h2 (e.trans e2)
    · omega)).trans (h.block i hi h1 h2)⟩
theorem G2.trans {R : Nat} {row r : Option Nat} {w a b : World} (h : G2 R row w a) (k : G2 R r a b) (hr : ∀ g, r = some g → r = row ∨ w.heap.size ≤ g) : G2 R row w b :=
  ⟨k.os.trans h.os, k.tape.trans h.tape, k.output.trans h.output, Nat.le_trans h.size k.size, fun i hi h1 h2 => (k.block i (Nat.lt_of_lt_of_le hi h.size) h1 (by
    intro e
    rcases hr i e.symm with e2 | e2
    · exact h2 (e.trans e2)
    · omega)).trans (h.block i hi h1 h2)⟩
theorem Below.g2 {B R : Nat} {row : Option Nat} {w a b : World} (h : Below B w a) (k : G2 R row a b) (hB : B ≤ a.heap.size) (hR : B ≤ R) (hr : ∀ g, row = some g → B ≤ g) : Below B w b :=
  ⟨k.os.trans h.os, k.tape.trans h.tape, k.output.trans h.output, Nat.le_trans h.size k.size, fun i hi => (k.block i (Nat.lt_of_lt_of_le hi hB) (by omega) (by intro e; have := hr i e.symm; omega)).trans (h.block i hi)⟩
theorem own_block {w w' : World} {base e size n : Nat} {v : Value} {xs : List Value} (h : w.ownsRow base e size v n xs) (hb : ∀ g, v.ownBlock = some g → w'.heap[g]? = w.heap[g]?) : w'.ownsRow base e size v n xs := by
  refine ⟨h.1, ?_⟩
  rcases h.2 with h2 | ⟨g, cap, cur, h1, h2, h3, h4⟩
  · exact .inl h2
  · exact .inr ⟨g, cap, cur, h1, h2, (hb g (by rw [h1]; rfl)).trans h3, h4⟩
theorem Own.g2 {R base : Nat} {row : Option Nat} {w w' : World} {v : Value} {L : List Sm} (h : Own w base v L) (hg : G2 R row w w') (hR : R < base) (hne : ∀ g, v.ownBlock = some g → some g ≠ row) : Own w' base v L :=
  own_block h fun g e => hg.block g (h.lt g e).2 (by have := (h.lt g e).1; omega) (hne g e)
theorem cuKept {B0 R n c lim : Nat} {a : Option Addr} {w w' : World} {row : Option Nat} (h : Cu B0 R a n c lim w) (hg : w.grownBy w' row) (hne : ∀ g, row = some g → R < g) : Cu B0 R a n c lim w' := by
  obtain ⟨t, seed, h1, h2, h3, h4⟩ := h.box
  refine ⟨⟨t, seed, h1, h2, h3, ?_⟩, ?_, h.le⟩
  · rw [hg.block R (lt_of_block h4) (by intro e; have := hne R e.symm; omega)]; exact h4
  · rcases h.data with h0 | ⟨b, off, h1, h2, h3, h4⟩
    · exact .inl h0
    · refine .inr ⟨b, off, h1, h2, Nat.lt_of_lt_of_le h3 hg.size, fun i hi => ?_⟩
      obtain ⟨z, z0, z1, hz⟩ := h4 i hi
      exact ⟨z, z0, z1, hg.cell hz (by intro e; have h5 := hne b (by simpa using e.symm); have := h.le; omega)⟩
theorem cuLt {B0 R n c lim : Nat} {a : Option Addr} {w : World} (h : Cu B0 R a n c lim w) : R < w.heap.size := by
  obtain ⟨t, seed, h1, h2, h3, h4⟩ := h.box
  exact lt_of_block h4

theorem f53 (B0 R n c lim : Nat) (a : Option Addr) (v : Int) (w : World) (h : Cu B0 R a n c lim w) (hl : lim ≤ 4503599627350000) (hn : n ≤ 1048576) (hv : Hid (Fit64 v)) :
    Calls Try.prog 53 #[.pointer (some ⟨R, 0, none⟩), .int .i64 v] w fun e w' => ∃ x : Int, e = .returned (.int .i64 x) ∧ Cu B0 R a n c (lim + 22) w' ∧ w.grownBy w' (some R) ∧ Hid (Fit64 x) := by
  have HC := hid h
  clear h
  go_enter Try.func53, Try.ntmps53
  go_wp2_with fail
  refine (f25 B0 R n c lim a 10 _ HC.out (by omega) hn (by omega) (by omega)).mono ?_
  rintro e w1 ⟨y, rfl, y0, y1, hc1, hg1⟩
  have HC1 := hid hc1
  have HG1 := hid hg1
  clear hc1 hg1 y1
  by_cases e0 : y = 0
  · subst e0
    go_wp2_with fail
    refine (f71 B0 R n c _ a _ HC1.out (by omega) hn).mono ?_
    rintro e w2 ⟨x, rfl, x0, x1, hc2, hg2⟩
    have HC2 := hid hc2
    have HG2 := hid (grownBy_trans HG1.out hg2)
    clear hc2 hg2
    go_wp2
    go_ret
    exact ⟨x, rfl, HC2.out.mono (by omega), HG2.out, ⟨x0, x1⟩⟩
  · have e0' : (y == 0) = false := by simp [e0]
    by_cases e1 : y = 1
    · subst e1
      go_wp2
      go_ret
      exact ⟨_, rfl, HC1.out.mono (by omega), HG1.out, ⟨by decide, by decide⟩⟩
    · have e1' : (y == 1) = false := by simp [e1]
      by_cases e2 : y = 2
      · subst e2
        go_wp2
        go_ret
        exact ⟨_, rfl, HC1.out.mono (by omega), HG1.out, hv⟩
      · have e2' : (y == 2) = false := by simp [e2]
        by_cases e3 : y = 3
        · subst e3
          go_wp2
          go_ret
          exact ⟨_, rfl, HC1.out.mono (by omega), HG1.out, hv⟩
        · have e3' : (y == 3) = false := by simp [e3]
          clear e0 e1 e2 e3
          go_wp2_with fail
          refine (f25 B0 R n c _ a 9 _ HC1.out (by omega) hn (by omega) (by omega)).mono ?_
          rintro e w2 ⟨x, rfl, x0, x1, hc2, hg2⟩
          have HC2 := hid hc2
          have HG2 := hid (grownBy_trans HG1.out hg2)
          clear hc2 hg2
          go_wp2
          go_ret
          exact ⟨_, rfl, HC2.out.mono (by omega), HG2.out, by first | exact fit_wrap _ | exact fit_wrap64 _ | exact (show Fit64 _ by unfold Fit64; constructor <;> omega)⟩

theorem f52 (B0 R n c lim : Nat) (a : Option Addr) (x y : Int) (w : World) (h : Cu B0 R a n c lim w) (hl : lim ≤ 4503599627350000) (hn : n ≤ 1048576) :
    Calls Try.prog 52 #[.pointer (some ⟨R, 0, none⟩), .int .i64 x, .int .i64 y] w fun e w' => ∃ z : Int, e = .returned (.int .i64 z) ∧ Cu B0 R a n c (lim + 2) w' ∧ w.grownBy w' (some R) := by
  have HC := hid h
  clear h
  go_enter Try.func52, Try.ntmps52
  go_wp2_with fail
  refine (f70 B0 R n c lim a 2 _ HC.out (by omega) hn (by omega) (by omega)).mono ?_
  rintro e w1 ⟨b, rfl, hc1, hg1⟩
  have HC1 := hid hc1
  have HG1 := hid hg1
  clear hc1 hg1
  cases b
  · go_wp2
    go_ret
    exact ⟨_, rfl, HC1.out, HG1.out⟩
  · go_wp2
    go_ret
    exact ⟨_, rfl, HC1.out, HG1.out⟩

set_option maxRecDepth 100000 in
set_option maxHeartbeats 4000000 in
theorem f24 (B0 R n c lim : Nat) (a : Option Addr) (from' most : Int) (w : World) (h : Cu B0 R a n c lim w) (hl : lim ≤ 4503599627340000) (hn : n ≤ 1048576) (hf0 : 0 ≤ from') (hf1 : from' ≤ 1000) (hm0 : 0 ≤ most) (hm1 : most ≤ 200) :
    Calls Try.prog 24 #[.pointer (some ⟨R, 0, none⟩), .int .i64 from', .int .i64 most] w fun e w' => ∃ v L, e = .returned v ∧ L.length ≤ 200 ∧ Own w' w.heap.size v L ∧ Cu B0 R a n c (lim + 6 + 26 * 200) w' ∧ w.grownBy w' (some R) ∧ Hid (Chk.Vfit L) := by
  obtain ⟨i0, hi, hz0, hz1, hz2⟩ := info_parts infoS
  have HLT := hid (cuLt h)
  have HC := hid h
  clear h
  go_enter Try.func24, Try.ntmps24
  go_wp2_with fail
  refine (f25 B0 R n c lim a 100 _ HC.out (by omega) hn (by omega) (by omega)).mono ?_
  rintro e w1 ⟨v0, rfl, v00, v01, hc1, hg1⟩
  have HC1 := hid hc1
  have HG1 := hid hg1
  clear hc1 hg1
  go_wp2_with fail
  refine (f25 B0 R n c _ a 15 _ HC1.out (by omega) hn (by omega) (by omega)).mono ?_
  rintro e w2 ⟨st0, rfl, st00, st01, hc1, hg1⟩
  have HC2 := hid hc1
  have HG2 := hid (grownBy_trans HG1.out hg1)
  have st02 : st0 ≤ 15 := by omega
  clear hc1 hg1 st01
  go_wp2_with fail
  refine (f25 B0 R n c _ a most _ HC2.out (by omega) hn (by omega) (by omega)).mono ?_
  rintro e w3 ⟨m0, rfl, m00, m01, hc1, hg1⟩
  have HC3 := hid hc1
  have HG3 := hid (grownBy_trans HG2.out hg1)
  obtain ⟨M, hM⟩ : ∃ M : Nat, m0 = (M : Int) := ⟨m0.toNat, by omega⟩
  subst hM
  have hM2 : M ≤ 200 := by omega
  clear hc1 hg1 m00 m01
  go_wp2
  go_loopw [7, 8, 9, 10, 11] (fun so st sv ss sn wr => ∃ (j r : Nat) (t v s : Int) (L : List Sm), j + r = M ∧ sn = .int .i64 r ∧ st = .int .i64 t ∧ sv = .int .i64 v ∧ ss = .int .i64 s ∧ 0 ≤ t ∧ t ≤ 1000 + 5001 * (j : Int) ∧ 0 ≤ s ∧ s ≤ 5001 ∧ L.length = j ∧ Own wr w.heap.size so L ∧ Cu B0 R a n c (lim + 6 + 26 * j) wr ∧ w.grownBy wr (some R) ∧ Hid (Chk.Vfit L) ∧ Hid (Fit64 v)) (fun _ _ _ _ sn _ => (intOf sn).toNat)
  case atStart => exact ⟨0, M, from', v0, 1 + st0, [], by omega, rfl, rfl, rfl, by go_num, hf0, by omega, by omega, by omega, rfl, Own.nil _ _, HC3.out.mono (by omega), HG3.out, vf_nil, ⟨by omega, by omega⟩⟩
  case round =>
    obtain ⟨j, r, t, v, s, L, hjr, rfl, rfl, rfl, rfl, ht0, ht1, hs0, hs1, hL, hown, hcu, hgr, HVF, HFV⟩ := hrel
    have HO := hid hown
    have HC := hid hcu
    have HG := hid hgr
    have HL := hid hL
    have hL2 : L.length ≤ 200 := by omega
    obtain ⟨ao, co, rfl⟩ := own_form hown
    clear hown hcu hgr hL HC1 HC2 HC3 HG1 HG2 HG3
    have hj2 : j ≤ 200 := by omega
    by_cases hlt : 0 < r
    · go_wp2_with fail
      refine (f53 B0 R n c _ a v _ HC.out (by omega) hn HFV).mono ?_
      rintro e w4 ⟨v', rfl, hc4, hg4, HF4⟩
      have HC4 := hid hc4
      have HG4 := hid (grownBy_trans HG.out hg4)
      have HO4 := hid (Own.kept HO.out hg4 (fun k hk e => by have h9 := Option.some.inj e; have := (World.ownsRow.lt HO.out k hk).1; have := HLT.out; omega))
      clear hc4 hg4
      go_wp2_with (at_builtin; refine wpList_append_own _ rfl (.tmp 28) (.tmp 32) 24 rfl w.heap.size 58 i0 (.agg #[.int .i64 0, .int .i64 0]) 2 16 Try.underlying24 hi hz0 hz1 hz2 rfl (by decide) _ _ _ rfl (World.ownsRow.alloc HO4.out _) ⟨w4.heap.size, 0, none⟩ 1 1 _ rfl rfl (two_new _ _ _ _) ?d2 ?d3 ?d4 ?d5 ?_)
      case d2 => intro u hu; simp at hu; rcases hu with rfl | rfl <;> rfl
      case d3 => unfold maxLen; omega
      case d4 => omega
      case d5 => have := HG4.out.size; simp; omega
      intro v1 w5 hown1 hgr1 _
      have HO5 := hid (Own.snoc (p := (_, _)) hown1)
      have HGA := hid (grown_alloc HG4.out (.cells #[.int .i64 t, .int .i64 v'] 58))
      have HG5 := hid (grown_new HGA.out hgr1 (fun g hg => (World.ownsRow.lt HO4.out g hg).1))
      have HC5 := hid (cuKept (cuKept HC4.out (grown_alloc (World.grownBy.refl _ none) (.cells #[.int .i64 t, .int .i64 v'] 58)) (by intro g hg; cases hg)) hgr1 (fun g hg => by have := (World.ownsRow.lt HO4.out g hg).1; have := HLT.out; omega))
      obtain ⟨a1, c1, rfl⟩ := own_form hown1
      clear hown1 hgr1 HO HO4 HC HC4 HG HG4 HGA
      go_wp2_with fail
      refine (f25 B0 R n c _ a 12 _ HC5.out (by omega) hn (by omega) (by omega)).mono ?_
      rintro e w6 ⟨y, rfl, y0, y1, hc6, hg6⟩
      have HC6 := hid hc6
      have HG6 := hid (grownBy_trans HG5.out hg6)
      have HO6 := hid (Own.kept HO5.out hg6 (fun k hk e => by have h9 := Option.some.inj e; have := (World.ownsRow.lt HO5.out k hk).1; have := HLT.out; omega))
      clear hc6 hg6 y1 HC5 HG5 HO5
      obtain ⟨r', rfl⟩ : ∃ r', r = r' + 1 := ⟨r - 1, by omega⟩
      by_cases e0 : y = 0
      · subst e0
        go_wp2_with fail
        refine (f25 B0 R n c _ a 400 _ HC6.out (by omega) hn (by omega) (by omega)).mono ?_
        rintro e w7 ⟨z, rfl, z0, z1, hc7, hg7⟩
        have HC7 := hid hc7
        have HG7 := hid (grownBy_trans HG6.out hg7)
        have HO7 := hid (Own.kept HO6.out hg7 (fun k hk e => by have h9 := Option.some.inj e; have := (World.ownsRow.lt HO6.out k hk).1; have := HLT.out; omega))
        have z2 : z ≤ 400 := by omega
        clear hc7 hg7 z1
        go_wp2
        go_roundw
        case rel => exact ⟨j + 1, r', _, _, _, _, by omega, by go_num, rfl, rfl, rfl, by omega, by omega, by omega, by omega, by rw [List.length_append, HL.out]; rfl, HO7.out, HC7.out.mono (by omega), HG7.out, vf_snoc HVF.out HF4.out, HF4⟩
        case measure => simp [intOf]
      · have e0' : (y == 0) = false := by simp [e0]
        by_cases e1 : y = 1
        · subst e1
          go_wp2_with fail
          refine (f25 B0 R n c _ a 5000 _ HC6.out (by omega) hn (by omega) (by omega)).mono ?_
          rintro e w7 ⟨z, rfl, z0, z1, hc7, hg7⟩
          have HC7 := hid hc7
          have HG7 := hid (grownBy_trans HG6.out hg7)
          have HO7 := hid (Own.kept HO6.out hg7 (fun k hk e => by have h9 := Option.some.inj e; have := (World.ownsRow.lt HO6.out k hk).1; have := HLT.out; omega))
          have z2 : z ≤ 5000 := by omega
          clear hc7 hg7 z1
          go_wp2
          go_roundw
          case rel => exact ⟨j + 1, r', _, _, _, _, by omega, by go_num, rfl, rfl, rfl, by omega, by omega, by omega, by omega, by rw [List.length_append, HL.out]; rfl, HO7.out, HC7.out.mono (by omega), HG7.out, vf_snoc HVF.out HF4.out, HF4⟩
          case measure => simp [intOf]
        · have e1' : (y == 1) = false := by simp [e1]
          by_cases e2 : y = 2
          · subst e2
            go_wp2_with fail
            refine (f25 B0 R n c _ a 30 _ HC6.out (by omega) hn (by omega) (by omega)).mono ?_
            rintro e w7 ⟨z, rfl, z0, z1, hc7, hg7⟩
            have HC7 := hid hc7
            have HG7 := hid (grownBy_trans HG6.out hg7)
            have HO7 := hid (Own.kept HO6.out hg7 (fun k hk e => by have h9 := Option.some.inj e; have := (World.ownsRow.lt HO6.out k hk).1; have := HLT.out; omega))
            have z2 : z ≤ 30 := by omega
            clear hc7 hg7 z1
            go_wp2
            go_roundw
            case rel => exact ⟨j + 1, r', _, _, _, _, by omega, by go_num, rfl, rfl, rfl, by omega, by omega, by omega, by omega, by rw [List.length_append, HL.out]; rfl, HO7.out, HC7.out.mono (by omega), HG7.out, vf_snoc HVF.out HF4.out, HF4⟩
            case measure => simp [intOf]
          · have e2' : (y == 2) = false := by simp [e2]
            clear e0 e1 e2
            go_wp2
            go_roundw
            case rel => exact ⟨j + 1, r', _, _, _, _, by omega, by go_num, rfl, rfl, rfl, by omega, by omega, by omega, by omega, by rw [List.length_append, HL.out]; rfl, HO6.out, HC6.out.mono (by omega), HG6.out, vf_snoc HVF.out HF4.out, HF4⟩
            case measure => simp [intOf]
    · go_wp2
      go_ret
      exact ⟨_, _, rfl, hL2, HO.out, HC.out.mono (by omega), HG.out, HVF⟩

theorem flat_set0 (L : List Sm) (i : Nat) (x : Int) (h : i < L.length) : (flat L).set (i * 2) (.int .i64 x) = flat (L.set i (x, (L.getD i e0).2)) := by
  rw [← flat_set L i x (L.getD i e0).2 h]
  obtain ⟨_, g1⟩ := flat_get L i h
  symm
  apply List.ext_getElem?
  intro j
  by_cases hj : j = i * 2 + 1
  · subst hj
    rw [List.getElem?_set_self (by rw [List.length_set, flat_len]; omega), List.getElem?_set_ne (by omega), g1]
  · rw [List.getElem?_set_ne (by omega)]
theorem cap_own {w : World} {base n c : Nat} {a : Option Addr} {L : List Sm} (h : Own w base (.slice a n c) L) : n ≤ c ∧ (a = none → c = 0) := by
  unfold Own at h
  rcases h.2 with ⟨h1, h2⟩ | ⟨g, cap, cur, h1, h2, h3, h4⟩
  · simp only [Value.slice.injEq] at h1
    obtain ⟨rfl, rfl, rfl⟩ := h1
    exact ⟨Nat.le_refl _, fun _ => rfl⟩
  · simp only [Value.slice.injEq] at h1
    obtain ⟨rfl, rfl, rfl⟩ := h1
    exact ⟨h4.1, fun e => by cases e⟩

set_option maxRecDepth 100000 in
set_option maxHeartbeats 4000000 in
theorem f23 (B0 R n c lim base : Nat) (a : Option Addr) (v : Value) (L : List Sm) (w : World) (h : Cu B0 R a n c lim w) (hl : lim ≤ 4503599627340000) (hn : n ≤ 1048576) (ho : Own w base v L) (hR : R < base) (hb : base ≤ w.heap.size) (hL : L.length ≤ 2001) (HVF : Hid (Chk.Vfit L)) :
    Calls Try.prog 23 #[.pointer (some ⟨R, 0, none⟩), v] w fun e w' => ∃ v' L', e = .returned v' ∧ L'.length ≤ L.length + 1 ∧ Own w' base v' L' ∧ Cu B0 R a n c (lim + 4) w' ∧ G2 R v.ownBlock w w' ∧ (v'.ownBlock = v.ownBlock ∨ ∀ g, v'.ownBlock = some g → w.heap.size ≤ g) ∧ Hid (Chk.Vfit L') := by
  obtain ⟨i0, hi, hz0, hz1, hz2⟩ := info_parts infoS
  have HC := hid h
  have HO := hid ho
  clear h
  obtain ⟨av, cv, rfl⟩ := own_form ho
  clear ho
  go_enter Try.func23, Try.ntmps23
  go_wp2_with fail
  refine (f25 B0 R n c lim a 20 _ HC.out (by omega) hn (by omega) (by omega)).mono ?_
  rintro e w1 ⟨y, rfl, y0, y1, hc1, hg1⟩
  have HC1 := hid hc1
  have HG1 := hid ((G2.refl R (Value.slice av L.length cv).ownBlock w).cur hg1)
  have HO1 := hid (Own.kept HO.out hg1 (fun k hk e => by have h9 := Option.some.inj e; have := (World.ownsRow.lt HO.out k hk).1; omega))
  have HSZ := hid hg1.size
  clear hc1 hg1 y1
  by_cases n0 : y = 0
  · subst n0
    by_cases h1 : 1 < L.length
    · rcases HO1.out.cases with ⟨h2, _⟩ | ⟨g, cc, h2⟩
      · rw [h2] at h1; simp at h1
      simp only [Value.slice.injEq] at h2
      obtain ⟨rfl, -, rfl⟩ := h2
      have hown : w1.ownsRow base 58 2 (.slice (some ⟨g, 0, none⟩) L.length cv) L.length (flat L) := HO1.out
      have hlt := hown.lt g rfl
      have q0 := (hown.cellAt 0 (by omega)).trans (flat_get L 0 (by omega)).1
      have q2 := (hown.cellAt 2 (by omega)).trans (flat_get L 1 (by omega)).1
      have z2 := hown.frozenAt 2
      have HST := hid (hown.stored 2 (.int .i64 (L.getD 0 e0).1)).1
      have HFS := hid (flat_set0 L 1 (L.getD 0 e0).1 (by omega))
      have HGS := hid (grown_setRow (o := 2) (grown_refl w1 (some g)) (.int .i64 (L.getD 0 e0).1))
      clear hown
      go_wp2
      go_ret
      refine ⟨_, L.set 1 ((L.getD 0 e0).1, (L.getD 1 e0).2), rfl, by simp, ?_, ?_, ?_, .inl rfl, vf_set HVF.out (by omega)⟩
      · unfold Own; rw [List.length_set, ← HFS.out]; exact HST.out
      · exact (cuKept HC1.out HGS.out (fun g' e => by cases e; omega)).mono (by omega)
      · exact HG1.out.row HGS.out (fun g' e => .inl rfl)
    · go_wp2
      go_ret
      exact ⟨_, L, rfl, by omega, HO1.out, HC1.out.mono (by omega), HG1.out, .inl rfl, HVF⟩
  · have n0' : (y == 0) = false := by simp [n0]
    by_cases e1 : y = 1
    · subst e1
      go_wp2_with fail
      refine (f52 B0 R n c _ a 1000000000000 1000000000001 _ HC1.out (by omega) hn).mono ?_
      rintro e w2 ⟨z, rfl, hc2, hg2⟩
      have HC2 := hid hc2
      have HG2 := hid (HG1.out.cur hg2)
      have HO2 := hid (Own.kept HO1.out hg2 (fun k hk e => by have h9 := Option.some.inj e; have := (World.ownsRow.lt HO1.out k hk).1; omega))
      have HS2 := hid (Nat.le_trans HSZ.out hg2.size)
      clear hc2 hg2
      go_wp2_with (at_builtin; refine wpList_append_own_at _ rfl (.tmp 21) (.tmp 25) 24 rfl base 58 i0 (.agg #[.int .i64 0, .int .i64 0]) 2 16 Try.underlying24 hi hz0 hz1 hz2 rfl (by decide) _ _ _ rfl (World.ownsRow.alloc HO2.out _) ⟨w2.heap.size, 0, none⟩ 1 1 _ rfl rfl (two_new _ _ _ _) ?d2 ?d3 ?d4 ?d5 ?_)
      case d2 => intro u hu; simp at hu; rcases hu with rfl | rfl <;> rfl
      case d3 => unfold maxLen; omega
      case d4 => omega
      case d5 => have := HS2.out; simp; omega
      intro v1 w3 hown1 hgr1 _ hat1
      have HO3 := hid (Own.snoc (p := (_, _)) hown1)
      have HCA := hid (cuKept HC2.out (grown_alloc (World.grownBy.refl _ none) (.cells #[.int .i64 z, .int .i64 0] 58)) (by intro g hg; cases hg))
      have HC3 := hid (cuKept HCA.out hgr1 (fun g hg => by have := (World.ownsRow.lt HO2.out g hg).1; omega))
      have HGA := hid (HG2.out.row (grown_alloc (World.grownBy.refl _ none) (.cells #[.int .i64 z, .int .i64 0] 58)) (by intro g hg; cases hg))
      have HG3 := hid (HGA.out.row hgr1 (fun g hg => .inl rfl))
      have HAT : Hid (v1.ownBlock = (Value.slice av L.length cv).ownBlock ∨ ∀ g, v1.ownBlock = some g → w.heap.size ≤ g) := by
        rcases hat1 with e | e
        · exact .inl e
        · exact .inr (fun g hg => by rw [e] at hg; cases hg; have := HS2.out; omega)
      clear hown1 hgr1 hat1
      go_wp2
      go_ret
      exact ⟨v1, _, rfl, by simp, HO3.out, HC3.out.mono (by omega), HG3.out, HAT.out, vf_snoc HVF.out ⟨by decide, by decide⟩⟩
    · have e1' : (y == 1) = false := by simp [e1]
      by_cases e2 : y = 2
      · subst e2
        by_cases h1 : 0 < L.length
        · rcases HO1.out.cases with ⟨h2, _⟩ | ⟨g, cc, h2⟩
          · rw [h2] at h1; simp at h1
          simp only [Value.slice.injEq] at h2
          obtain ⟨rfl, -, rfl⟩ := h2
          have hown : w1.ownsRow base 58 2 (.slice (some ⟨g, 0, none⟩) L.length cv) L.length (flat L) := HO1.out
          have hlt := hown.lt g rfl
          have q0 := (hown.cellAt 0 (by omega)).trans (flat_get L 0 (by omega)).1
          have z0 := hown.frozenAt 0
          have HST := hid (hown.stored 0 (.int .i64 (-1))).1
          have HFS := hid (flat_set0 L 0 (-1) (by omega))
          have HGS := hid (grown_setRow (o := 0) (grown_refl w1 (some g)) (.int .i64 (-1)))
          clear hown
          go_wp2
          go_ret
          refine ⟨_, L.set 0 (-1, (L.getD 0 e0).2), rfl, by simp, ?_, ?_, ?_, .inl rfl, vf_set HVF.out (by omega)⟩
          · unfold Own; rw [List.length_set, ← HFS.out]; exact HST.out
          · exact (cuKept HC1.out HGS.out (fun g' e => by cases e; omega)).mono (by omega)
          · exact HG1.out.row HGS.out (fun g' e => .inl rfl)
        · go_wp2
          go_ret
          exact ⟨_, L, rfl, by omega, HO1.out, HC1.out.mono (by omega), HG1.out, .inl rfl, HVF⟩
      · have e2' : (y == 2) = false := by simp [e2]
        clear n0 e1 e2
        go_wp2
        go_ret
        exact ⟨_, L, rfl, by omega, HO1.out, HC1.out.mono (by omega), HG1.out, .inl rfl, HVF⟩
end Go.Proofs.Ytpbnneelpdacdaa.Smp
