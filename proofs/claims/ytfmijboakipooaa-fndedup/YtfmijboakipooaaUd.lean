/- Samples that are drawn to be merged: DrawMergeSamples; samples compared: zSamples. -/
import Derived.Test.YtfmijboakipooaaUb
import Derived.Test.YtfmijboakipooaaUc
import Derived.Laws.StructEq
namespace Go.Proofs.Ytfmijboakipooaa.Smp
open Go.RowKit Go.Proofs.Ytfmijboakipooaa.Cur

/-- Bytes that came in. -/
def Byt (w : World) (a : Option Addr) (n : Nat) : Prop := n = 0 ∨ ∃ b off, a = some ⟨b, off, none⟩ ∧ b < w.heap.size ∧ ∀ i, i < n → ∃ z : Int, 0 ≤ z ∧ z ≤ 255 ∧ w.cell? ⟨b, off + i, none⟩ = some (.int .u8 z)
theorem Byt.below {w w' : World} {a : Option Addr} {n : Nat} (h : Byt w a n) (hb : Below w.heap.size w w') : Byt w' a n := by
  rcases h with h | ⟨b, off, h1, h2, h3⟩
  · exact .inl h
  · refine .inr ⟨b, off, h1, Nat.lt_of_lt_of_le h2 hb.size, fun i hi => ?_⟩
    obtain ⟨z, z0, z1, hz⟩ := h3 i hi
    exact ⟨z, z0, z1, (hb.cell (p := ⟨b, off + i, none⟩) h2).trans hz⟩
theorem cuNew {w : World} {a : Option Addr} {n c : Nat} (h : Byt w a n) : Cu w.heap.size w.heap.size a n c 0 (w.alloc (.cells #[.slice a n c, .int .i64 0, .int .u64 0] 46)) := by
  have hb := (Below.refl w.heap.size w).alloc (Nat.le_refl _) (.cells #[.slice a n c, .int .i64 0, .int .u64 0] 46)
  refine ⟨⟨0, 0, Nat.le_refl _, by omega, by omega, ?_⟩, ?_, Nat.le_refl _⟩
  · show (w.heap.push _)[w.heap.size]? = _
    simp
  · rcases h with h | ⟨b, off, h1, h2, h3⟩
    · exact .inl h
    · refine .inr ⟨b, off, h1, h2, Nat.lt_of_lt_of_le h2 hb.size, fun i hi => ?_⟩
      obtain ⟨z, z0, z1, hz⟩ := h3 i hi
      exact ⟨z, z0, z1, (hb.cell (p := ⟨b, off + i, none⟩) h2).trans hz⟩
theorem below_of {w w' : World} {o : Obj} (hg : (w.alloc o).grownBy w' (some w.heap.size)) : Below w.heap.size w w' :=
  ⟨hg.os, hg.tape, hg.output, by have := hg.size; simp at this; omega, fun k hk => (hg.block k (by simp; omega) (by simp; omega)).trans (Below.heap_alloc w o k hk)⟩
theorem below_cur {B R : Nat} {w a b : World} (h : Below B w a) (k : a.grownBy b (some R)) (hB : B ≤ a.heap.size) (hR : B ≤ R) : Below B w b := h.grown k hB (by intro g e; cases e; exact hR)
theorem Own.cur {R base : Nat} {w w' : World} {v : Value} {L : List Sm} (h : Own w base v L) (hg : w.grownBy w' (some R)) (hR : R < base) : Own w' base v L :=
  h.kept hg (fun k hk e => by have h9 := Option.some.inj e; have := (h.lt k hk).1; omega)

set_option maxHeartbeats 1000000 in
theorem f10 (a a' : Option Addr) (c c' : Nat) (ls : List Sm) (w : World) (hb : ls.length ≤ 1048576) (hr : HasS w a ls) (hr' : HasS w a' ls) :
    Calls Try.prog 10 #[.slice a ls.length c, .slice a' ls.length c'] w fun e w' => e = .returned (.bool true) ∧ Below w.heap.size w w' := by
  generalize hn : ls.length = n at *
  have HN := hid hn
  clear hn
  go_enter Try.func10, Try.ntmps10
  go_wp2
  go_loopw [13] (fun i wr => ∃ k : Nat, k ≤ n ∧ i = .int .i64 k ∧ Below w.heap.size w wr) (fun i _ => n - (intOf i).toNat)
  case atStart => exact ⟨0, Nat.zero_le _, rfl, Below.refl _ _⟩
  case round =>
    obtain ⟨k, hk, rfl, hnx⟩ := hrel
    have HX := hid hnx
    by_cases hlt : k < n
    · rcases hr with hr | ⟨b, off, rfl, hbl, hc⟩
      · exact absurd HN.out (by rw [hr]; simp; omega)
      rcases hr' with hr | ⟨b', off', rfl, hbl', hc'⟩
      · exact absurd HN.out (by rw [hr]; simp; omega)
      obtain ⟨c0, c1⟩ := hc k (by rw [HN.out]; exact hlt)
      obtain ⟨c0', c1'⟩ := hc' k (by rw [HN.out]; exact hlt)
      have d0 := (hnx.cell (p := ⟨b, off + k * 2, none⟩) hbl).trans c0
      have d1 := (hnx.cell (p := ⟨b, off + k * 2 + 1, none⟩) hbl).trans c1
      have d0' := (hnx.cell (p := ⟨b', off' + k * 2, none⟩) hbl').trans c0'
      have d1' := (hnx.cell (p := ⟨b', off' + k * 2 + 1, none⟩) hbl').trans c1'
      have i1 : (k : Int) < (n : Int) := by omega
      clear hc c0 c1 hc' c0' c1' hnx
      generalize ls.getD k e0 = p at *
      obtain ⟨s, t⟩ := p
      go_wp2
      go_quiet (fail)
      go_wp2
      go_roundw
      case rel => exact ⟨k + 1, by omega, by go_num, below_drewN HX.out _⟩
      case measure => simp [intOf]; omega
    · go_wp2
      go_ret
      exact ⟨rfl, HX.out⟩
/-- Two rows of samples that were drawn, apart from each other, and the cursor. -/
structure Drawn (B R : Nat) (a : Option Addr) (n c : Nat) (w : World) (s5 s6 : Value) (wx : World) : Prop where
  rows : ∃ La Lb : List Sm, La.length ≤ 2001 ∧ Lb.length ≤ 2001 ∧ Own wx B s5 La ∧ Own wx B s6 Lb
  apart : ∀ g, s5.ownBlock = some g → s6.ownBlock ≠ some g
  cur : Cu R R a n c 100000 wx
  bel : Below R w wx
  size : B ≤ wx.heap.size

set_option maxHeartbeats 4000000 in
theorem f7 (a : Option Addr) (n c : Nat) (w : World) (h : Byt w a n) (hn : n ≤ 1048576) :
    Calls Try.prog 7 #[.slice a n c] w fun e w' => ∃ v1 v2 L1 L2, e = .returned (.tuple #[v1, v2]) ∧ L1.length ≤ 2002 ∧ L2.length ≤ 2002 ∧ Own w' w.heap.size v1 L1 ∧ Own w' w.heap.size v2 L2 ∧ Below w.heap.size w w' := by
  obtain ⟨R, hR⟩ : ∃ R, R = w.heap.size := ⟨_, rfl⟩
  have HR := hid hR
  obtain ⟨v, hv⟩ : ∃ v, v = w.alloc (.cells #[.slice a n c, .int .i64 0, .int .u64 0] 46) := ⟨_, rfl⟩
  have HV := hid hv
  have HC0 := hid (cuNew (c := c) h)
  have hb0 := (Below.refl w.heap.size w).alloc (Nat.le_refl _) (.cells #[.slice a n c, .int .i64 0, .int .u64 0] 46)
  rw [← hv, ← hR] at HC0
  rw [← hv, ← hR] at hb0
  have HB0 := hid hb0
  have hvs : v.heap.size = R + 1 := by rw [hv, hR]; simp
  have HVS := hid hvs
  clear h hv hR hb0 hvs
  go_enter Try.func7, Try.ntmps7
  go_wp2_with fail
  simp only [← HR.out, ← HV.out]
  refine (f24 R R n c 0 a 20 _ HC0.out (by omega) hn (by omega) (by omega)).mono ?_
  rintro e w1 ⟨x, rfl, x0, x1, hc1, hg1⟩
  have HC1 := hid hc1
  have HB1 := hid (below_cur HB0.out hg1 (by rw [HR.out]; exact HB0.out.size) (Nat.le_refl _))
  have HS1 := hid (show R + 1 ≤ w1.heap.size by rw [← HVS.out]; exact hg1.size)
  have x2 : x ≤ 20 := by omega
  clear hc1 hg1 x1 HB0 HC0
  go_wp2_with fail
  refine (f23 R R n c _ a x 20 _ HC1.out (by omega) hn x0 (by omega) (by omega) (by omega)).mono ?_
  rintro e w2 ⟨va, La, rfl, hla, ho2, hc2, hg2⟩
  have HC2 := hid hc2
  have HB2 := hid (below_cur HB1.out hg2 (by rw [HR.out]; exact HB1.out.size) (Nat.le_refl _))
  have HS2 := hid (Nat.le_trans HS1.out hg2.size)
  have OA2 := hid (ho2.mono HS1.out)
  clear hc2 hg2 ho2 HB1 HC1
  go_wp2_with fail
  refine (f24 R R n c _ a 20 _ HC2.out (by omega) hn (by omega) (by omega)).mono ?_
  rintro e w3 ⟨y, rfl, y0, y1, hc3, hg3⟩
  have HC3 := hid hc3
  have HB3 := hid (below_cur HB2.out hg3 (by rw [HR.out]; exact HB2.out.size) (Nat.le_refl _))
  have HS3 := hid (Nat.le_trans HS2.out hg3.size)
  have OA3 := hid (OA2.out.cur hg3 (by omega))
  have y2 : y ≤ 20 := by omega
  clear hc3 hg3 y1 HB2 HC2 OA2
  go_wp2_with fail
  refine (f23 R R n c _ a y 20 _ HC3.out (by omega) hn y0 (by omega) (by omega) (by omega)).mono ?_
  rintro e w4 ⟨vb, Lb, rfl, hlb, ho4, hc4, hg4⟩
  have HC4 := hid hc4
  have HB4 := hid (below_cur HB3.out hg4 (by rw [HR.out]; exact HB3.out.size) (Nat.le_refl _))
  have HS4 := hid (Nat.le_trans HS3.out hg4.size)
  have OA4 := hid (OA3.out.cur hg4 (by omega))
  have OB4 := hid (ho4.mono HS3.out)
  have AP4 : Hid (∀ g, va.ownBlock = some g → vb.ownBlock ≠ some g) := fun g hg e => by
    have h1 := (OA3.out.lt g hg).2
    have h2 := (ho4.lt g e).1
    omega
  clear hc4 hg4 ho4 HB3 HC3 OA3
  go_wp2_with fail
  refine (f25 R R n c _ a 30 _ HC4.out (by omega) hn (by omega) (by omega)).mono ?_
  rintro e w5 ⟨b, rfl, hc5, hg5⟩
  have HC5 := hid hc5
  have HB5 := hid (below_cur HB4.out hg5 (by rw [HR.out]; exact HB4.out.size) (Nat.le_refl _))
  have HS5 := hid (Nat.le_trans HS4.out hg5.size)
  have OA5 := hid (OA4.out.cur hg5 (by omega))
  have OB5 := hid (OB4.out.cur hg5 (by omega))
  clear hc5 hg5 HB4 HC4 OA4 OB4
  go_upto_if 20 with fail
  go_cut [5, 6, 7] from 20 to 39 (fun s5 s6 s7 wx => Hid (Drawn (R + 1) R a n c w s5 s6 wx) ∧ s7 = s7)
  case first =>
    cases b
    · go_wp2
      go_meet
      exact ⟨⟨⟨La, Lb, by omega, by omega, OA5.out, OB5.out⟩, AP4.out, HC5.out.mono (by omega), HB5.out, HS5.out⟩, trivial⟩
    · go_wp2_with fail
      refine (f24 R R n c _ a 11 _ HC5.out (by omega) hn (by omega) (by omega)).mono ?_
      rintro e w6 ⟨z, rfl, z0, z1, hc6, hg6⟩
      have HC6 := hid hc6
      have HB6 := hid (below_cur HB5.out hg6 (by rw [HR.out]; exact HB5.out.size) (Nat.le_refl _))
      have HS6 := hid (Nat.le_trans HS5.out hg6.size)
      have z2 : z ≤ 11 := by omega
      obtain ⟨N, hN⟩ : ∃ N : Nat, 1990 + z = (N : Int) := ⟨(1990 + z).toNat, by omega⟩
      have HN := hid hN
      have hN2 : N ≤ 2001 := by omega
      clear hc6 hg6 z1 OA5 OB5 HB5 HC5 hN AP4
      go_wp2_with fail
      rw [HN.out]
      refine (f26 R N _ hN2).mono ?_
      rintro e w7 ⟨va, La, rfl, hla, ho7, hb7⟩
      have HC7 := hid (cuKept HC6.out (grown_below none hb7) (by intro g hg; cases hg))
      have HB7 := hid (HB6.out.trans (hb7.mono (by rw [HR.out]; exact HB6.out.size)))
      have HS7 := hid (Nat.le_trans HS6.out hb7.size)
      have OA7 := hid (ho7.mono HS6.out)
      have la2 : La.length ≤ 2001 := by omega
      clear hb7 ho7 HC6 HB6 hla
      go_wp2_with fail
      refine (f26 R 5 _ (by omega)).mono ?_
      rintro e w8 ⟨vb, Lb, rfl, hlb, ho8, hb8⟩
      have HC8 := hid (cuKept HC7.out (grown_below none hb8) (by intro g hg; cases hg))
      have HB8 := hid (HB7.out.trans (hb8.mono (by rw [HR.out]; exact HB7.out.size)))
      have HS8 := hid (Nat.le_trans HS7.out hb8.size)
      have OA8 := hid (OA7.out.below hb8)
      have OB8 := hid (ho8.mono HS7.out)
      have AP8 : Hid (∀ g, va.ownBlock = some g → vb.ownBlock ≠ some g) := fun g hg e => by
        have h1 := (OA7.out.lt g hg).2
        have h2 := (ho8.lt g e).1
        omega
      obtain ⟨gb, cb, hvb⟩ : ∃ gb cb, vb = .slice (some ⟨gb, 0, none⟩) 5 cb := by
        rcases ho8.cases with ⟨h1, _⟩ | ⟨g, cc, h1⟩
        · rw [h1] at hlb; simp at hlb
        · rw [hlb] at h1; exact ⟨g, cc, h1⟩
      subst hvb
      have HLB := hid hlb
      clear hb8 ho8 HC7 HB7 OA7 hlb
      go_wp2
      go_loopw [7, 30] (fun s7 si wr => ∃ (k : Nat) (L : List Sm), k ≤ 5 ∧ si = .int .i64 k ∧ s7 = s7 ∧ Hid (L.length = 5) ∧ Own wr (R + 1) (.slice (some ⟨gb, 0, none⟩) 5 cb) L ∧ Own wr (R + 1) va La ∧ Cu R R a n c 100000 wr ∧ Below R w wr ∧ R + 1 ≤ wr.heap.size) (fun _ si _ => 5 - (intOf si).toNat)
      case atStart => exact ⟨0, Lb, by omega, rfl, rfl, HLB.out, OB8.out, OA8.out, HC8.out.mono (by omega), HB8.out, HS8.out⟩
      case round =>
        obtain ⟨k, L, hk, rfl, -, hL, hob, hoa, hcu, hbw, hsz⟩ := hrel
        have HOB := hid hob
        have HOA := hid hoa
        have HCU := hid hcu
        have HBW := hid hbw
        have HSZ := hid hsz
        clear hoa hcu hbw hsz
        by_cases hlt : k < 5
        · have hown : wr.ownsRow (R + 1) 30 2 (.slice (some ⟨gb, 0, none⟩) 5 cb) 5 (flat L) := by have := hob; unfold Own at this; rw [hL.out] at this; exact this
          have hlt2 := hown.lt gb rfl
          have q0 := (hown.cellAt (k * 2) (by omega)).trans (flat_get L k (by rw [hL.out]; omega)).1
          have z0' := hown.frozenAt (k * 2)
          have HST := hid (hown.stored (k * 2) (.int .i64 (10000 + (k : Int)))).1
          have HFS := hid (flat_set0 L k (10000 + (k : Int)) (by rw [hL.out]; omega))
          have HGS := hid (grown_setRow (o := k * 2) (grown_refl wr (some gb)) (.int .i64 (10000 + (k : Int))))
          clear hown hob
          go_wp2
          go_roundw
          case rel =>
            refine ⟨k + 1, L.set k (10000 + (k : Int), (L.getD k e0).2), by omega, by go_num, trivial, ?_, ?_, ?_, ?_, ?_, ?_⟩
            · unfold Hid; rw [List.length_set]; exact hL.out
            · unfold Own; rw [List.length_set, ← HFS.out, hL.out]; exact HST.out
            · exact HOA.out.kept HGS.out (fun g hg e => AP8.out g hg e)
            · exact cuKept HCU.out HGS.out (fun g' e => by have := Option.some.inj e; omega)
            · exact below_grown HBW.out HGS.out (by have := HSZ.out; omega) (by omega)
            · have := HGS.out.size; have := HSZ.out; omega
          case measure => simp [intOf]; omega
        · go_wp2
          go_meet
          exact ⟨⟨⟨La, L, la2, by have := hL.out; omega, HOA.out, HOB.out⟩, AP8.out, HCU.out, HBW.out, HSZ.out⟩, trivial⟩
  case rest =>
    obtain ⟨hdr, -⟩ := hcut
    have HD := hid hdr.out
    obtain ⟨La, Lb, la, lb, oa, ob⟩ := hdr.out.rows
    have OA := hid oa
    have OB := hid ob
    have HSZ := hid hdr.out.size
    clear oa ob hdr OA5 OB5 HB5 HC5
    go_wp2_with fail
    refine (f27 R R n c _ (R + 1) a _ La _ HD.out.cur (by omega) hn OA.out (by omega) HSZ.out la).mono ?_
    rintro e w6 ⟨va', La', rfl, la', oa', hc6, hg6, hat⟩
    have HC6 := hid hc6
    have OA6 := hid oa'
    have OB6 := hid (OB.out.g2 hg6 (by omega) (fun g hg e => HD.out.apart g e.symm hg))
    have AP6 : Hid (∀ g, va'.ownBlock = some g → _root_.Not (_ = some g)) := fun g hg e => by
      rcases hat with h1 | h1
      · exact HD.out.apart g (by rw [← h1]; exact hg) e
      · have h2 := h1 g hg
        have h3 := (OB.out.lt g e).2
        omega
    have HB6 := hid (Below.g2 HD.out.bel hg6 (by have := HSZ.out; omega) (Nat.le_refl _) (fun g hg => by have := (OA.out.lt g hg).1; omega))
    have HS6 := hid (Nat.le_trans HSZ.out hg6.size)
    clear hc6 hg6 hat oa'
    go_wp2_with fail
    refine (f27 R R n c _ (R + 1) a _ Lb _ HC6.out (by omega) hn OB6.out (by omega) HS6.out lb).mono ?_
    rintro e w7 ⟨vb', Lb', rfl, lb', ob', hc7, hg7, hat⟩
    have OB7 := hid (ob'.mono (show w.heap.size ≤ R + 1 by rw [← HR.out]; omega))
    have OA7 := hid ((OA6.out.g2 hg7 (by omega) (fun g hg e => AP6.out g hg e.symm)).mono (show w.heap.size ≤ R + 1 by rw [← HR.out]; omega))
    have HB7 := hid (Below.g2 HB6.out hg7 (by have := HS6.out; omega) (Nat.le_refl _) (fun g hg => by have := (OB6.out.lt g hg).1; omega))
    rw [HR.out] at HB7
    clear hc7 hg7 hat ob'
    go_wp2
    go_ret2
    exact ⟨va', vb', La', Lb', rfl, by omega, by omega, OA7.out, OB7.out, HB7.out⟩
end Go.Proofs.Ytfmijboakipooaa.Smp
