/- The program's writer of chunks: next. -/
import Derived.Test.YteblbcbfaomdmaaDoorVi
namespace Go.Proofs.YteblbcbfaomdmaaDoor.Chk
open Go.RowKit Go.Proofs.YteblbcbfaomdmaaDoor.Bts
open Go.Proofs.YteblbcbfaomdmaaDoor.Smp hiding hid ret_int below_drewN

/-- The last value in the writer, the sample in its box. -/
structure R3 (R X : Nat) (v s t : Int) (w' : World) : Prop where
  r : ∃ y0 y1 y2 y4 y5 y6, w'.heap[R]? = some (.cells #[y0, y1, y2, .int .i64 v, y4, y5, y6] 68 (0, 0))
  x : w'.heap[X]? = some (.cells #[.int .i64 s, .int .i64 t] 36 (0, 0))
abbrev S3 (R X : Nat) (v s t : Int) (w' : World) : Prop :=
  w'.cell? ⟨R, 3, none⟩ = some (.int .i64 v) ∧ w'.cell? ⟨X, 0, none⟩ = some (.int .i64 s) ∧ w'.cell? ⟨X, 1, none⟩ = some (.int .i64 t) ∧ R3 R X v s t w'
theorem R3.s {R X : Nat} {v s t : Int} {w' : World} (h : R3 R X v s t w') : S3 R X v s t w' := by
  obtain ⟨y0, y1, y2, y4, y5, y6, h1⟩ := h.r
  exact ⟨cell_at h1 3, cell_at h.x 0, cell_at h.x 1, h⟩
theorem S3.drew {R X : Nat} {v s t : Int} {w' : World} (h : S3 R X v s t w') : S3 R X v s t w'.drew := R3.s (w' := w'.drew) ⟨h.2.2.2.r, h.2.2.2.x⟩
theorem s3_of {B R X : Nat} {p : Bt} {x2 x4 x5 x6 : Value} {v s t : Int} {w' : World} (h : Wr B R p x2 (.int .i64 v) x4 x5 x6 w') (hx : w'.heap[X]? = some (.cells #[.int .i64 s, .int .i64 t] 36 (0, 0))) : S3 R X v s t w' := by
  obtain ⟨a', n, cap, h1, _⟩ := h
  exact R3.s ⟨⟨_, _, _, _, _, _, h1⟩, hx⟩
/-- The writer stands where the plain one does. -/
def Stands (B R : Nat) (c : Ck) (w : World) : Prop := ∃ a m, FI c.f a m ∧ Wr B R c.b (.int .i64 c.t) (.int .i64 c.v) (.int .i64 c.step) (.int .i64 a) (.int .i64 m) w

set_option maxRecDepth 100000 in
set_option maxHeartbeats 8000000 in
theorem f43 {B R : Nat} {c : Ck} (s t : Int) (w : World) (h : Stands B R c w) (hG : GB c.b) (hfo : FmOk c.f) (hs : c.b.2 + 150 ≤ 80000) (hB : B ≤ R) (hB2 : 2 ≤ B) (hc : Cls w) (ht : Tab w)
    (s0 : 0 ≤ s) (s1 : s ≤ 1000000000000) (t0 : 0 ≤ c.t) (t1 : c.t ≤ s) (p0 : 0 ≤ c.step) (p1 : c.step ≤ 1000000000000) :
    Calls Tryd.prog 43 #[.pointer (some ⟨R, 0, none⟩), .agg #[.int .i64 s, .int .i64 t]] w fun e w' => e = .returned (.tuple #[]) ∧ Stands B R (nextC c (s, t)) w' ∧ KeepsR R B w w' := by
  obtain ⟨a, m, hf, hw⟩ := h
  have HF := hid hf
  have hRl := hw.lt
  have HG := hid hG
  have HC := hid hc
  have HT := hid ht
  have HXA := hid (heap_alloc_new w (.cells #[.int .i64 s, .int .i64 t] 36))
  have HWA := hid (hw.alloc (.cells #[.int .i64 s, .int .i64 t] 36))
  have HKA := hid ((KeepsR.refl R B w).alloc (by omega) (.cells #[.int .i64 s, .int .i64 t] 36))
  obtain ⟨c2, c3, c4, c5, c6, fz⟩ := hw.cells
  have HN : Hid (nextC c (s, t) = ⟨(turnB (bendB c.b (s - c.t - c.step)) c.f (xorV t c.v)).1, s, t, s - c.t, (turnB (bendB c.b (s - c.t - c.step)) c.f (xorV t c.v)).2⟩) := rfl
  obtain ⟨cb, ct, cvv, cstep, cf⟩ := c
  simp only at *
  clear hw hf hG hc ht fz
  go_enter Tryd.func43, Tryd.ntmps43
  go_wp2_with fail
  go_quiet (fail)
  go_wp2_with fail
  refine (f61 (s - ct - cstep) _ (HWA.out.heap (w' := World.drewN _ _) rfl) HG.out (by omega) hB (by omega) (by omega) (HC.out.below (below_drewN ((Below.refl _ _).alloc (Nat.le_refl _) _) _))).mono ?_
  rintro e w2 ⟨rfl, hw2, hk2⟩
  have HK2 := hid (kr_trans HKA.out (kr_heap hk2 rfl rfl rfl rfl))
  have HW2 := hid hw2
  have HS2 := hid (s3_of hw2 (krbox HXA.out (kr_heap hk2 rfl rfl rfl rfl) (by decide) (by omega)))
  have HT2 := hid (HT.out.kr HK2.out hB2)
  have hbs := bendB_size cb (s - ct - cstep)
  have HG2 := hid (bendB_G HG.out (s - ct - cstep))
  have hx := xor_bd t cvv
  obtain ⟨hx0, hx1⟩ := hx
  have HXV : Hid (xorV t cvv = bits .xor .u64 (IntKind.u64.wrap t) (IntKind.u64.wrap cvv)) := rfl
  generalize bendB cb (s - ct - cstep) = b1 at *
  clear hw2 hk2 HWA HKA HXA HT HC c2 c3 c4 c5 c6
  go_wp2_with fail
  go_region_held3 (fun w' => S3 R w.heap.size cvv s t w') (first | exact HS2.out.drew | assumption) (first | (go_at_call 62; refine (f62 (xorV t cvv) _ (HW2.out.heap (w' := World.drew _) rfl) HG2.out (by omega) hB hB2 HF.out hfo hx0 hx1 (fun j hj => HT2.out j hj)).mono ?_; rintro e w3 ⟨rfl, ⟨a', m', hf3, hw3⟩, hk3⟩; have hs3 := s3_of hw3 (krbox HS2.out.2.2.2.x (kr_heap hk3 rfl rfl rfl rfl) (by decide) (by omega))))
  have HK3 := hid (kr_trans HK2.out (kr_heap hk3 rfl rfl rfl rfl))
  have HW3 := hid hw3
  have HF3 := hid hf3
  obtain ⟨g2, g3, g4, g5, g6, fz⟩ := hw3.cells
  obtain ⟨_, e0, e1, _⟩ := hs3
  have f2 := fz 2
  have f3 := fz 3
  have f4 := fz 4
  have HWE := hid (((HW3.out.set2 (.int .i64 s)).set3 (.int .i64 t)).set4 (.int .i64 (s - ct)))
  have HKE := hid (((HK3.out.set_R (o := 2) hB (.int .i64 s)).set_R (o := 3) hB (.int .i64 t)).set_R (o := 4) hB (.int .i64 (s - ct)))
  clear hw3 hk3 hf3 fz
  go_wp2
  go_end0
  exact ⟨rfl, by rw [HN.out]; exact ⟨a', m', HF3.out, HWE.out⟩, HKE.out⟩
end Go.Proofs.YteblbcbfaomdmaaDoor.Chk
