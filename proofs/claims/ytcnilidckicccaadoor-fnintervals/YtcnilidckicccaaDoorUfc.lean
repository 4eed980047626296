/- Bytes that came in, a new cursor over them; days that are drawn. -/
import Derived.Test.YtcnilidckicccaaDoorUac
import Derived.OpenShut
import Derived.ChangeOld
namespace Go.Proofs.YtcnilidckicccaaDoor.Cur
open Go.RowKit Go.ChangeShapes Go.WideShapes Go.ChangeAt
open Go.Proofs.YtcnilidckicccaaDoor.Cal (hid)

theorem add_none (b off j : Nat) : (⟨b, off, none⟩ : Addr).add j = ⟨b, off + j, none⟩ := by
  by_cases h : j = 0
  · subst h; simp [Addr.add]
  · simp [Addr.add, h]
/-- Bytes that came in. -/
def Bya (w : World) (a : Option Addr) (n : Nat) : Prop := n = 0 ∨ ∃ b off, a = some ⟨b, off, none⟩ ∧ b < w.heap.size ∧ ∀ i, i < n → ∃ z : Int, 0 ≤ z ∧ z ≤ 255 ∧ w.cell? ⟨b, off + i, none⟩ = some (.int .u8 z)
theorem Bya.below {w w' : World} {a : Option Addr} {n : Nat} (h : Bya w a n) (hb : Below w.heap.size w w') : Bya w' a n := by
  rcases h with h | ⟨b, off, h1, h2, h3⟩
  · exact .inl h
  · refine .inr ⟨b, off, h1, Nat.lt_of_lt_of_le h2 hb.size, fun i hi => ?_⟩
    obtain ⟨z, z0, z1, hz⟩ := h3 i hi
    exact ⟨z, z0, z1, (hb.cell (p := ⟨b, off + i, none⟩) h2).trans hz⟩
theorem cuNew {w : World} {a : Option Addr} {n c : Nat} (h : Bya w a n) : Cu w.heap.size w.heap.size a n c 0 (w.alloc (.cells #[.slice a n c, .int .i64 0, .int .u64 0] 47)) := by
  have hb := (Below.refl w.heap.size w).alloc (Nat.le_refl _) (.cells #[.slice a n c, .int .i64 0, .int .u64 0] 47)
  refine ⟨⟨0, 0, Nat.le_refl _, by omega, by omega, ?_⟩, ?_, Nat.le_refl _⟩
  · show (w.heap.push _)[w.heap.size]? = _
    simp
  · rcases h with h | ⟨b, off, h1, h2, h3⟩
    · exact .inl h
    · refine .inr ⟨b, off, h1, h2, Nat.lt_of_lt_of_le h2 hb.size, fun i hi => ?_⟩
      obtain ⟨z, z0, z1, hz⟩ := h3 i hi
      exact ⟨z, z0, z1, (hb.cell (p := ⟨b, off + i, none⟩) h2).trans hz⟩
theorem below_of {w w' : World} {o : Obj} (hg : (w.alloc o).grownBy w' (some w.heap.size)) : Below w.heap.size w w' :=
  ⟨hg.os, hg.tape, hg.output, by have := hg.size; simp at this; omega, fun k hk => (hg.block k (by simp; omega) (by simp; omega)).trans (Below.heap_alloc w o k hk)⟩
theorem below_cur {B R : Nat} {w a b : World} (h : Below B w a) (k : a.grownBy b (some R)) (hB : B ≤ a.heap.size) (hR : B ≤ R) : Below B w b := h.grown k hB (by intro g e; cases e; exact hR)
/-- A slice of bytes that came in. -/
theorem open_bytes {H : Type} {enc : TypeId × Value → H} {W : World} {a0 : Option Addr} {len0 cap0 : Nat} {d : DataW H} {p : List MemPlace} (h : DataW.Trod enc Tryd.prog W 0 (fun _ => true) true 22 (.slice a0 len0 cap0) d p) : len0 ≤ maxLen ∧ Bya W a0 len0 := by
  obtain ⟨fuel, hf⟩ := h
  rcases open_ints Tryd.underlying22 Tryd.underlying5 (by kernel_rfl) hf with ⟨hcs, _⟩ | ⟨x, l, c, zs, hcs, _, hl, hm, hz, _, hcell, hwz⟩
  · simp [Value.cells] at hcs
    obtain ⟨rfl, rfl, rfl⟩ := hcs
    exact ⟨Nat.zero_le _, .inl rfl⟩
  · simp [Value.cells] at hcs
    obtain ⟨rfl, rfl, rfl⟩ := hcs
    have hz' : zs.length = cap0 := by simpa using hz
    refine ⟨by omega, ?_⟩
    by_cases h0 : len0 = 0
    · exact .inl h0
    · obtain ⟨b, off, spot⟩ := x
      have h1 := hcell 0 (by omega)
      have hs : spot = none := by simpa [Addr.add] using World.cell?_spot h1
      subst hs
      refine .inr ⟨b, off, rfl, World.block_lt_of_cell? W _ h1, fun i hi => ?_⟩
      have g1 := hcell i (by omega)
      rw [add_none] at g1
      have hmem : zs.getD i 0 ∈ zs := by
        have e2 : zs.getD i 0 = zs[i]'(by omega) := by simp [show i < zs.length by omega]
        rw [e2]; exact List.getElem_mem _
      have hwf := hwz _ hmem
      simp only [Lit.wf, Bool.and_eq_true, decide_eq_true_eq] at hwf
      exact ⟨_, hwf.1, hwf.2, g1⟩

theorem cuKept {B0 R n c lim : Nat} {a : Option Addr} {w w' : World} {row : Option Nat} (h : Cu B0 R a n c lim w) (hg : w.grownBy w' row) (hne : ∀ g, row = some g → R < g) : Cu B0 R a n c lim w' := by
  obtain ⟨t, seed, h1, h2, h3, h4⟩ := h.box
  refine ⟨⟨t, seed, h1, h2, h3, ?_⟩, ?_, h.le⟩
  · rw [hg.block R (lt_of_block h4) (by intro e; have := hne R e.symm; omega)]; exact h4
  · rcases h.data with h0 | ⟨b, off, h1, h2, h3, h4⟩
    · exact .inl h0
    · refine .inr ⟨b, off, h1, h2, Nat.lt_of_lt_of_le h3 hg.size, fun i hi => ?_⟩
      obtain ⟨z, z0, z1, hz⟩ := h4 i hi
      exact ⟨z, z0, z1, hg.cell hz (by intro e; have h5 := hne b (by simpa using e.symm); have := h.le; omega)⟩
theorem cuLt {B0 R n c lim : Nat} {a : Option Addr} {w : World} (h : Cu B0 R a n c lim w) : R < w.heap.size := by
  obtain ⟨t, seed, h1, h2, h3, h4⟩ := h.box
  exact lt_of_block h4


theorem dn_lim {y m d : Int} (h : y ≤ 3000) : -1 ≤ Cal.dn y m d ∧ Cal.dn y m d ≤ 2000000 := by
  unfold Cal.dn
  split
  · rename_i g
    have a := Cal.F_high (y := y) (by have := g.1; omega)
    have b := Cal.F_mono g.1
    rw [Cal.F_first] at b
    have c := Cal.cu_pos (y := y) (m := m) g.2.2.1 (by have := g.2.2.2.1; omega)
    have e := (Cal.ml_pos y m).2
    have f := g.2.2.2.2.1
    have k := g.2.2.2.2.2
    omega
  · omega

set_option maxHeartbeats 4000000 in
theorem f17 (B0 R n c lim : Nat) (a : Option Addr) (w : World) (h : Cu B0 R a n c lim w) (hl : lim ≤ 4503599627300000) (hn : n ≤ 1048576) :
    Calls Tryd.prog 17 #[.pointer (some ⟨R, 0, none⟩)] w fun e w' => ∃ x : Int, e = .returned (.int .i64 x) ∧ Cu B0 R a n c (lim + 20) w' ∧ w.grownBy w' (some R) := by
  have HC := hid h
  clear h
  go_enter Tryd.func17, Tryd.ntmps17
  go_wp2_with fail
  refine (f38 B0 R n c lim a 100 _ HC.out (by omega) hn (by omega) (by omega)).mono ?_
  rintro e w1 ⟨x, rfl, x0, x1, hc1, hg1⟩
  have HC1 := hid hc1
  have HG1 := hid hg1
  have xb : x ≤ 100 := by omega
  clear hc1 hg1 x1
  go_wp2_with fail
  refine (f38 B0 R n c _ a 366 _ HC1.out (by omega) hn (by omega) (by omega)).mono ?_
  rintro e w2 ⟨y, rfl, y0, y1, hc2, hg2⟩
  have HC2 := hid hc2
  have HG2 := hid (grownBy_trans HG1.out hg2)
  have yb : y ≤ 366 := by omega
  clear hc2 hg2 y1
  go_wp2_with fail
  refine (f38 B0 R n c _ a 86400 _ HC2.out (by omega) hn (by omega) (by omega)).mono ?_
  rintro e w3 ⟨z, rfl, z0, z1, hc3, hg3⟩
  have HC3 := hid hc3
  have HG3 := hid (grownBy_trans HG2.out hg3)
  have zb : z ≤ 86400 := by omega
  clear hc3 hg3 z1
  go_wp2_with fail
  refine (f38 B0 R n c _ a 12 _ HC3.out (by omega) hn (by omega) (by omega)).mono ?_
  rintro e w4 ⟨k, rfl, k0, k1, hc4, hg4⟩
  have HC4 := hid hc4
  have HG4 := hid (grownBy_trans HG3.out hg4)
  clear hc4 hg4 k1 HC1 HC2 HC3 HG1 HG2 HG3
  by_cases g0 : k = 0
  · subst g0
    go_wp2_with fail
    refine (f38 B0 R n c _ a 200 _ HC4.out (by omega) hn (by omega) (by omega)).mono ?_
    rintro e w5 ⟨u, rfl, u0, u1, hc5, hg5⟩
    have HC5 := hid hc5
    have HG5 := hid (grownBy_trans HG4.out hg5)
    clear hc5 hg5 u1
    go_wp2
    go_ret
    exact ⟨_, rfl, HC5.out.mono (by omega), HG5.out⟩
  have e0 : (k == 0) = false := by simp [g0]
  by_cases g1 : k = 1
  · subst g1
    go_wp2_with fail
    refine (f38 B0 R n c _ a 100000 _ HC4.out (by omega) hn (by omega) (by omega)).mono ?_
    rintro e w5 ⟨u, rfl, u0, u1, hc5, hg5⟩
    have HC5 := hid hc5
    have HG5 := hid (grownBy_trans HG4.out hg5)
    have ub : u ≤ 100000 := by omega
    clear hc5 hg5 u1
    go_wp2
    go_ret
    exact ⟨_, rfl, HC5.out.mono (by omega), HG5.out⟩
  have e1 : (k == 1) = false := by simp [g1]
  by_cases g2 : k = 2
  · subst g2
    go_wp2_with fail
    refine (f38 B0 R n c _ a 140 _ HC4.out (by omega) hn (by omega) (by omega)).mono ?_
    rintro e w5 ⟨u, rfl, u0, u1, hc5, hg5⟩
    have HC5 := hid hc5
    have HG5 := hid (grownBy_trans HG4.out hg5)
    have ub : u ≤ 140 := by omega
    clear hc5 hg5 u1
    have HD := fun x => hid (Cal.f11 (1970 + u) 2 27 x)
    obtain ⟨l0, l1⟩ := dn_lim (y := 1970 + u) (m := 2) (d := 27) (by omega)
    generalize Cal.dn (1970 + u) 2 27 = N at *
    go_wp2_with fail
    refine (HD _).out.mono ?_
    rintro e w6 ⟨rfl, hb6⟩
    have HC6 := hid (cuKept HC5.out (grown_below none hb6.out) (by intro g e; cases e))
    have HG6 := hid (grownBy_trans HG5.out (grown_below (some R) hb6.out))
    clear hb6 HD
    go_wp2_with fail
    refine (f38 B0 R n c _ a 345600 _ HC6.out (by omega) hn (by omega) (by omega)).mono ?_
    rintro e w7 ⟨v, rfl, v0, v1, hc7, hg7⟩
    have HC7 := hid hc7
    have HG7 := hid (grownBy_trans HG6.out hg7)
    have vb : v ≤ 345600 := by omega
    clear hc7 hg7 v1
    go_wp2
    go_ret
    exact ⟨_, rfl, HC7.out.mono (by omega), HG7.out⟩
  have e2 : (k == 2) = false := by simp [g2]
  clear g0 g1 g2
  go_wp2
  go_ret
  exact ⟨_, rfl, HC4.out.mono (by omega), HG4.out⟩
end Go.Proofs.YtcnilidckicccaaDoor.Cur
