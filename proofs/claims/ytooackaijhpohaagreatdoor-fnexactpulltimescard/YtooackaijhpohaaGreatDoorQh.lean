/- Targets: how they lie in memory; szTarget, eqTarget. -/
import Derived.Test.YtooackaijhpohaaGreatDoorQb
import Derived.Test.YtooackaijhpohaaGreatDoorQd
import Derived.Test.YtooackaijhpohaaGreatDoorClw
import Derived.Test.YtooackaijhpohaaGreatDoorVo
namespace Go.Proofs.YtooackaijhpohaaGreatDoor.Tgt
open Go.RowKit Go.Proofs.YtooackaijhpohaaGreatDoor.Fil Go.Proofs.YtooackaijhpohaaGreatDoor.Rul
open Go.Proofs.YtooackaijhpohaaGreatDoor.Lab (Lb HasL)

/-- A target as it lies in memory. -/
structure Tg where
  ls : List Lb
  la : Option Addr
  lc : Nat
  ev : Int
  lm : Int
  ho : Bool
  qs : List Q
  ra : Option Addr
  rc : Nat
abbrev clT (t : Tg) : Array Value := #[.slice t.la t.ls.length t.lc, .int .i64 t.ev, .int .i64 t.lm, .bool t.ho, .slice t.ra t.qs.length t.rc]
abbrev agT (t : Tg) : Value := .agg (clT t)
structure Has (w : World) (t : Tg) : Prop where
  lab : HasL w t.la t.ls
  rul : HasR w t.ra t.qs
theorem Has.below {w w' : World} {t : Tg} (h : Has w t) (hb : Below w.heap.size w w') : Has w' t := ⟨h.lab.below hb, h.rul.below hb⟩
structure FitG (t : Tg) : Prop where
  ln : t.ls.length ≤ maxLen
  lab : Lab.Fit t.ls
  qn : t.qs.length ≤ maxLen
  rul : FitQ t.qs
  e0 : -9223372036854775808 ≤ t.ev
  e1 : t.ev ≤ 9223372036854775807
  l0 : -9223372036854775808 ≤ t.lm
  l1 : t.lm ≤ 9223372036854775807
structure Sml (t : Tg) : Prop where
  ln : t.ls.length ≤ 1048576
  qn : t.qs.length ≤ 1048576
  rul : SmlQ t.qs
/-- The same target in other memory. -/
structure Same (t t' : Tg) : Prop where
  ls : t'.ls = t.ls
  ev : t'.ev = t.ev
  lm : t'.lm = t.lm
  ho : t'.ho = t.ho
  qn : t'.qs.length = t.qs.length
  rul : ∀ i, i < t.qs.length → (t'.qs.getD i q0).r = (t.qs.getD i q0).r
theorem cells5 {w : World} {b : Nat} {x0 x1 x2 x3 x4 : Value} {t : TypeId} (h : w.heap[b]? = some (.cells #[x0, x1, x2, x3, x4] t)) :
    w.cell? ⟨b, 0, none⟩ = some x0 ∧ w.cell? ⟨b, 1, none⟩ = some x1 ∧ w.cell? ⟨b, 2, none⟩ = some x2 ∧ w.cell? ⟨b, 3, none⟩ = some x3 ∧ w.cell? ⟨b, 4, none⟩ = some x4 := by
  simp [World.cell?, h]
theorem five_frz {w : World} {b o : Nat} {x0 x1 x2 x3 x4 : Value} {t : TypeId} (h : w.heap[b]? = some (.cells #[x0, x1, x2, x3, x4] t)) : w.frozen? ⟨b, o, none⟩ = false := by simp [World.frozen?, h]
theorem lt_at {w : World} {b : Nat} {x : Obj} (h : w.heap[b]? = some x) : b < w.heap.size := by
  rcases Nat.lt_or_ge b w.heap.size with h1 | h1
  · exact h1
  · rw [Array.getElem?_eq_none h1] at h; cases h
theorem kept {w w' : World} {b : Nat} {x : Obj} (h : w.heap[b]? = some x) (hb : Below w.heap.size w w') : w'.heap[b]? = some x := (hb.block b (lt_at h)).trans h
set_option maxHeartbeats 2000000 in
theorem f6 (t : Tg) (w : World) (hr : Has w t) (hf : FitG t) :
    Calls Tryz.prog 6 #[agT t, .int .i64 1048576] w fun e w' => ∃ y : Int, e = .returned (.int .i64 y) ∧ (0 ≤ y → Sml t) ∧ Below w.heap.size w w' := by
  obtain ⟨ls, la, lc, ev, lm, ho, qs, ra, rc⟩ := t
  have HB0 := hid ((Below.refl w.heap.size w).alloc (Nat.le_refl _) (.cells #[.slice la ls.length lc, .int .i64 ev, .int .i64 lm, .bool ho, .slice ra qs.length rc] 25))
  have HW0 := hid (heap_alloc_new w (.cells #[.slice la ls.length lc, .int .i64 ev, .int .i64 lm, .bool ho, .slice ra qs.length rc] 25))
  have HR := hid hr
  have HF := hid hf
  clear hr hf
  go_enter Tryz.func6, Tryz.ntmps6
  go_wp2_with fail
  refine (Lab.f19g la ls.length lc 1048576 ls _ (by omega) (by omega) rfl (HR.out.lab.below HB0.out) HF.out.lab HF.out.ln).mono ?_
  rintro e w1 ⟨y, rfl, hy, y0, y1, hb1⟩
  have HB1 := hid (HB0.out.trans (hb1.mono HB0.out.size))
  have HW1 := hid (kept HW0.out hb1)
  clear hb1 HW0
  by_cases g0 : y < 0
  · go_wp2
    go_ret
    exact ⟨-1, rfl, fun h => absurd h (by omega), HB1.out⟩
  have HY := hid (hy (by omega))
  clear hy
  obtain ⟨b0, b1, b2, b3, b4⟩ := cells5 HW1.out
  go_wp2_with fail
  refine (Rul.f20 ra qs.length rc y qs _ (by omega) y1 rfl (HR.out.rul.below HB1.out) HF.out.rul HF.out.qn).mono ?_
  rintro e w2 ⟨z, rfl, hz, z0, z1, hb2⟩
  have HB2 := hid (HB1.out.trans (hb2.mono HB1.out.size))
  clear hb2 b0 b1 b2 b3 b4
  by_cases g1 : z < 0
  · go_wp2
    go_ret
    exact ⟨-1, rfl, fun h => absurd h (by omega), HB2.out⟩
  have HZ := hid (hz (by omega))
  clear hz
  go_wp2
  go_ret
  exact ⟨z, rfl, fun _ => ⟨HY.out, HZ.out.1, HZ.out.2⟩, HB2.out⟩

/-- Two targets in their boxes. -/
structure Tw (w : World) (t t' : Tg) (x : World) : Prop where
  one : x.heap[w.heap.size]? = some (.cells (clT t) 31)
  two : x.heap[w.heap.size + 1]? = some (.cells (clT t') 31)
  has : Has x t
  has' : Has x t'
  bel : Below w.heap.size w x
theorem Tw.below {w : World} {t t' : Tg} {x y : World} (h : Tw w t t' x) (hb : Below x.heap.size x y) : Tw w t t' y := ⟨kept h.one hb, kept h.two hb, h.has.below hb, h.has'.below hb, h.bel.trans (hb.mono h.bel.size)⟩
set_option maxHeartbeats 2000000 in
theorem f10 (t t' : Tg) (w : World) (hr : Has w t) (hr' : Has w t') (hs : Same t t') (hz : Sml t) :
    Calls Tryz.prog 10 #[agT t, agT t'] w fun e w' => e = .returned (.bool true) ∧ Below w.heap.size w w' := by
  obtain ⟨ls, la, lc, ev, lm, ho, qs, ra, rc⟩ := t
  obtain ⟨ls', la', lc', ev', lm', ho', qs', ra', rc'⟩ := t'
  obtain ⟨s1, s2, s3, s4, s5, s6⟩ := hs
  simp only at s1 s2 s3 s4 s5
  subst s1 s2 s3 s4
  have H0 : Hid (Tw w ⟨ls', la, lc, ev', lm', ho', qs, ra, rc⟩ ⟨ls', la', lc', ev', lm', ho', qs', ra', rc'⟩ ((w.alloc (.cells (clT ⟨ls', la, lc, ev', lm', ho', qs, ra, rc⟩) 31)).alloc (.cells (clT ⟨ls', la', lc', ev', lm', ho', qs', ra', rc'⟩) 31))) := by
    have hb := ((Below.refl w.heap.size w).alloc (Nat.le_refl _) (.cells (clT ⟨ls', la, lc, ev', lm', ho', qs, ra, rc⟩) 31)).alloc (by simp) (.cells (clT ⟨ls', la', lc', ev', lm', ho', qs', ra', rc'⟩) 31)
    refine ⟨?_, ?_, hr.below hb, hr'.below hb, hb⟩
    · exact kept (heap_alloc_new w _) ((Below.refl _ _).alloc (Nat.le_refl _) _)
    · have := heap_alloc_new (w.alloc (.cells (clT ⟨ls', la, lc, ev', lm', ho', qs, ra, rc⟩) 31)) (.cells (clT ⟨ls', la', lc', ev', lm', ho', qs', ra', rc'⟩) 31)
      simp only [World.size_alloc] at this
      exact this
  have HZ := hid hz
  have HS6 := hid s6
  have HS5 := hid s5
  clear hr hr' hz s6
  go_enter Tryz.func10, Tryz.ntmps10
  go_wp2_with fail
  refine (Lab.f28 la la' ls'.length lc lc' ls' _ rfl HZ.out.ln H0.out.has.lab H0.out.has'.lab).mono ?_
  rintro e w2 ⟨rfl, hb2⟩
  have H2 := hid (H0.out.below hb2)
  clear hb2 H0
  obtain ⟨b0, b1, b2, b3, b4⟩ := cells5 H2.out.one
  obtain ⟨c0, c1, c2, c3, c4⟩ := cells5 H2.out.two
  rw [show (⟨ls', la', lc', ev', lm', ho', qs', ra', rc'⟩ : Tg).qs.length = qs.length from s5] at c4
  have hho : (ho' != ho') = false := by simp
  go_wp2_with fail
  refine (Rul.f29 ra ra' qs.length rc rc' qs qs' _ rfl HS5.out HZ.out.qn H2.out.has.rul H2.out.has'.rul HS6.out HZ.out.rul).mono ?_
  rintro e w3 ⟨rfl, hb3⟩
  have H3 := hid (H2.out.below hb3)
  clear hb3 H2 b0 b1 b2 b3 b4 c0 c1 c2 c3 c4
  go_wp2
  go_ret
  exact ⟨rfl, H3.out.bel⟩
end Go.Proofs.YtooackaijhpohaaGreatDoor.Tgt
