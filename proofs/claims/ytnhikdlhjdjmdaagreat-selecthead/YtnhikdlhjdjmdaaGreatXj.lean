/- Heads: szHead, toHead, eqHead. -/
import Derived.Test.YtnhikdlhjdjmdaaGreatXc
import Derived.Test.YtnhikdlhjdjmdaaGreatXd
namespace Go.Proofs.YtnhikdlhjdjmdaaGreat.Srs
open Go.RowKit
open Go.Proofs.YtnhikdlhjdjmdaaGreat.Lab (Lb HasL)
open Go.Proofs.YtnhikdlhjdjmdaaGreat.Smp (Sm HasS In64)

/-- A head as it lies in memory. -/
structure Hd where
  W : Int
  L : Int
  N : Int
  qs : List Q
  a : Option Addr
  c : Nat
abbrev clH (h : Hd) : Array Value := #[.int .i64 h.W, .int .i64 h.L, .int .i64 h.N, .slice h.a h.qs.length h.c]
abbrev agH (h : Hd) : Value := .agg (clH h)
def FitH (h : Hd) : Prop := In64 h.W ∧ In64 h.L ∧ In64 h.N ∧ FitQ h.qs ∧ h.qs.length ≤ maxLen
theorem four {x : World} {b : Nat} {v0 v1 v2 v3 : Value} {t : TypeId} (h : x.heap[b]? = some (.cells #[v0, v1, v2, v3] t)) : x.cell? ⟨b, 0, none⟩ = some v0 ∧ x.cell? ⟨b, 1, none⟩ = some v1 ∧ x.cell? ⟨b, 2, none⟩ = some v2 ∧ x.cell? ⟨b, 3, none⟩ = some v3 := by
  refine ⟨?_, ?_, ?_, ?_⟩ <;> simp [World.cell?, h]
theorem four_frz {x : World} {b o : Nat} {v0 v1 v2 v3 : Value} {t : TypeId} (h : x.heap[b]? = some (.cells #[v0, v1, v2, v3] t)) : x.frozen? ⟨b, o, none⟩ = false := by
  simp [World.frozen?, h]
set_option maxHeartbeats 1000000 in
theorem f4 (h : Hd) (w : World) (hr : HasQ w h.a h.qs) (hf : FitH h) :
    Calls Tryz.prog 4 #[agH h, .int .i64 1048576] w fun e w' => ∃ y : Int, e = .returned (.int .i64 y) ∧ -1 ≤ y ∧ (0 ≤ y → h.qs.length + tot h.qs h.qs.length + y ≤ 1048576) ∧ Below w.heap.size w w' := by
  obtain ⟨W, L, N, qs, a, c⟩ := h
  obtain ⟨f1, f2, f3, f4, f5⟩ := hf
  simp only at hr f4 f5
  have HR := hid hr
  have HF := hid f4
  have HM := hid f5
  have HB0 := hid ((Below.refl w.heap.size w).alloc (Nat.le_refl _) (.cells #[.int .i64 W, .int .i64 L, .int .i64 N, .slice a qs.length c] 24))
  clear hr f1 f2 f3 f4 f5
  simp only [agH, clH]
  go_enter Tryz.func4, Tryz.ntmps4
  go_wp2_with fail
  refine (f17 a qs.length c 1048576 qs _ (by omega) (by omega) rfl (HR.out.below HB0.out) HF.out HM.out).mono ?_
  rintro e w1 ⟨y, rfl, y0, y1, hy, hb1⟩
  have HB1 := hid (HB0.out.trans (hb1.mono HB0.out.size))
  have HY := hid hy
  clear hb1 hy
  by_cases g0 : y < 0
  · go_wp2
    go_ret
    exact ⟨-1, rfl, by omega, fun h => absurd h (by omega), HB1.out⟩
  · go_wp2
    go_ret
    exact ⟨y, rfl, by omega, HY.out, HB1.out⟩
abbrev Z4 : Obj := .cells #[.int .i64 0, .int .i64 0, .int .i64 0, .slice none 0 0] 31
set_option maxHeartbeats 2000000 in
theorem f7 (h : Hd) (w : World) (hr : HasQ w h.a h.qs) (hn : h.qs.length ≤ 1048576) (hz : SmlQ h.qs) :
    Calls Tryz.prog 7 #[agH h] w fun e w' => ∃ (d : List Q) (g : Nat), e = .returned (agH ⟨h.W, h.L, h.N, d, some ⟨g, 0, none⟩, h.qs.length⟩) ∧ d.length = h.qs.length ∧ w.heap.size ≤ g ∧ SameTo h.qs.length h.qs d ∧ OwnQ g g h.qs.length d w' ∧ Below w.heap.size w w' := by
  obtain ⟨W, L, N, qs, a, c⟩ := h
  simp only at hr hn hz
  have HR := hid hr
  have HZ := hid hz
  clear hr hz
  obtain ⟨X, hX⟩ : ∃ X, X = ((w.alloc (.cells #[.int .i64 W, .int .i64 L, .int .i64 N, .slice a qs.length c] 24)).alloc Z4).alloc (.cells #[.int .i64 W, .int .i64 L, .int .i64 N, .slice none 0 0] 31) := ⟨_, rfl⟩
  have HXb : Hid (Below w.heap.size w X ∧ X.heap[w.heap.size + 1]? = some Z4 ∧ X.heap[w.heap.size + 1 + 1]? = some (.cells #[.int .i64 W, .int .i64 L, .int .i64 N, .slice none 0 0] 31) ∧ X.heap.size = w.heap.size + 1 + 1 + 1) := by
    subst hX
    obtain ⟨k1, k2, k3⟩ := three_new w (.cells #[.int .i64 W, .int .i64 L, .int .i64 N, .slice a qs.length c] 24) Z4 (.cells #[.int .i64 W, .int .i64 L, .int .i64 N, .slice none 0 0] 31)
    exact ⟨(((Below.refl w.heap.size w).alloc (Nat.le_refl _) _).alloc (by simp) _).alloc (by simp; omega) _, k2, k3, by simp⟩
  simp only [agH, clH]
  go_enter Tryz.func7, Tryz.ntmps7
  go_wp2_with fail
  rw [← hX]
  refine (f22 a qs.length c qs _ rfl hn (HR.out.below HXb.out.1) HZ.out).mono ?_
  rintro e w1 ⟨d, rfl, hs1, ho1, hb1⟩
  have HB1 := hid (HXb.out.1.trans (hb1.mono HXb.out.1.size))
  have HC1 := hid (kept HXb.out.2.2.1 hb1)
  have HD1 := hid (kept HXb.out.2.1 hb1)
  have HSZ := hid HXb.out.2.2.2
  have HO1 := hid ho1
  have HS1 := hid hs1
  clear ho1 hb1 hX HXb hs1
  generalize X.heap.size = S at *
  obtain ⟨c0, c1, c2, c3⟩ := four HC1.out
  have r3 := four_frz (o := 3) HC1.out
  obtain ⟨d0, d1, d2, d3⟩ := four HD1.out
  have q0 := four_frz (o := 0) HD1.out
  have q1 := four_frz (o := 1) HD1.out
  have q2 := four_frz (o := 2) HD1.out
  have q3 := four_frz (o := 3) HD1.out
  have HF : Hid (∀ x, x = ((((w1.setCell ⟨w.heap.size + 1 + 1, 3, none⟩ (.slice (some ⟨S, 0, none⟩) qs.length qs.length)).setCell ⟨w.heap.size + 1, 0, none⟩ (.int .i64 W)).setCell ⟨w.heap.size + 1, 1, none⟩ (.int .i64 L)).setCell ⟨w.heap.size + 1, 2, none⟩ (.int .i64 N)).setCell ⟨w.heap.size + 1, 3, none⟩ (.slice (some ⟨S, 0, none⟩) qs.length qs.length) →
      x.heap[w.heap.size + 1]? = some (.cells #[.int .i64 W, .int .i64 L, .int .i64 N, .slice (some ⟨S, 0, none⟩) qs.length qs.length] 31) ∧ OwnQ S S qs.length d x ∧ Below w.heap.size w x) := by
    rintro x rfl
    have hS := HSZ.out
    have st : ∀ (y : World) (p : Addr) (v : Value), OwnQ S S qs.length d y → p.block < S → OwnQ S S qs.length d (y.setCell p v) := fun y p v h hp =>
      ⟨own_set h.row (Nat.ne_of_gt hp) v, ⟨h.kin.len, fun i hi => (h.kin.own i hi).set (by have := h.kin.off i hi; omega) (by have := h.kin.off i hi; have := (h.kin.own i hi).lt; omega) v, h.kin.off, h.kin.dis⟩⟩
    refine ⟨set_at (i := 3) (set_at (i := 2) (set_at (i := 1) (set_at (i := 0) (set_else HD1.out (by simp only; omega))))), ?_, ?_⟩
    · exact st _ _ _ (st _ _ _ (st _ _ _ (st _ _ _ (st _ _ _ HO1.out (by simp only; omega)) (by simp only; omega)) (by simp only; omega)) (by simp only; omega)) (by simp only; omega)
    · exact Below.setCell (p := ⟨w.heap.size + 1, 3, none⟩) (Below.setCell (p := ⟨w.heap.size + 1, 2, none⟩) (Below.setCell (p := ⟨w.heap.size + 1, 1, none⟩) (Below.setCell (p := ⟨w.heap.size + 1, 0, none⟩) (Below.setCell (p := ⟨w.heap.size + 1 + 1, 3, none⟩) HB1.out (by simp only; omega) _) (by simp only; omega) _) (by simp only; omega) _) (by simp only; omega) _) (by simp only; omega) _
  have HDL := hid HO1.out.kin.len
  clear HB1 HC1 HD1 HO1
  go_wp2
  revert HF
  generalize hwf : World.setCell _ _ _ = wf
  intro HF
  obtain ⟨k1, k2, k3⟩ := HF.out wf (by rw [← hwf])
  obtain ⟨y0, y1, y2, y3⟩ := four k1
  refine bodyPost_ret (v := .agg #[.int .i64 W, .int .i64 L, .int .i64 N, .slice (some ⟨S, 0, none⟩) qs.length qs.length]) (by simp [results, Tryz.results7, go_sem, y0, y1, y2, y3]) rfl ⟨d, S, ?_, HDL.out, by have := HSZ.out; omega, HS1.out, k2, k3⟩
  simp only [HDL.out]
set_option maxHeartbeats 2000000 in
theorem f11 (h h' : Hd) (w : World) (e1 : h'.W = h.W) (e2 : h'.L = h.L) (e3 : h'.N = h.N) (hl : h'.qs.length = h.qs.length) (hn : h.qs.length ≤ 1048576) (hr : HasQ w h.a h.qs) (hr' : HasQ w h'.a h'.qs) (hs : Same h.qs.length h.qs h'.qs) (hz : SmlQ h.qs) :
    Calls Tryz.prog 11 #[agH h, agH h'] w fun e w' => e = .returned (.bool true) ∧ Below w.heap.size w w' := by
  obtain ⟨W, L, N, qs, a, c⟩ := h
  obtain ⟨W', L', N', qs', a', c'⟩ := h'
  simp only at e1 e2 e3 hl hn hr hr' hs hz
  subst e1 e2 e3
  have HB := hid (((Below.refl w.heap.size w).alloc (Nat.le_refl _) (.cells #[.int .i64 W', .int .i64 L', .int .i64 N', .slice a qs.length c] 31)).alloc (by simp) (.cells #[.int .i64 W', .int .i64 L', .int .i64 N', .slice a' qs'.length c'] 31))
  have HL := hid hl
  have HR := hid (hr.below HB.out)
  have HR' := hid (hr'.below HB.out)
  have HS := hid hs
  have HZ := hid hz
  clear hl hr hr' hs hz
  simp only [agH, clH]
  rw [HL.out] at HB ⊢
  go_enter Tryz.func11, Tryz.ntmps11
  go_wp2_with fail
  refine (f10 a a' qs.length c c' qs qs' _ rfl HL.out hn (by have := HR.out; rw [HL.out] at this; exact this) (by have := HR'.out; rw [HL.out] at this; exact this) HS.out HZ.out).mono ?_
  rintro e w1 ⟨rfl, hb1⟩
  have HB1 := hid (HB.out.trans (hb1.mono HB.out.size))
  clear hb1
  go_wp2
  go_ret
  exact ⟨rfl, HB1.out⟩
end Go.Proofs.YtnhikdlhjdjmdaaGreat.Srs
