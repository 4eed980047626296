/- The program's writer of chunks: first; turns. -/
import Derived.Test.YteblbcbfaomdmaaDoorVg
namespace Go.Proofs.YteblbcbfaomdmaaDoor.Chk
open Go.RowKit Go.Proofs.YteblbcbfaomdmaaDoor.Bts
open Go.Proofs.YteblbcbfaomdmaaDoor.Smp hiding hid ret_int below_drewN

/-- A box of a sample that stays. -/
abbrev S2 (X : Nat) (s t : Int) (T : TypeId) (w' : World) : Prop :=
  w'.cell? ⟨X, 0, none⟩ = some (.int .i64 s) ∧ w'.cell? ⟨X, 1, none⟩ = some (.int .i64 t) ∧ w'.heap[X]? = some (.cells #[.int .i64 s, .int .i64 t] T (0, 0))
theorem s2_of {X : Nat} {s t : Int} {T : TypeId} {w' : World} (h : w'.heap[X]? = some (.cells #[.int .i64 s, .int .i64 t] T (0, 0))) : S2 X s t T w' := ⟨cell_at h 0, cell_at h 1, h⟩
theorem S2.drew {X : Nat} {s t : Int} {T : TypeId} {w' : World} (h : S2 X s t T w') : S2 X s t T w'.drew := s2_of (w' := w'.drew) h.2.2
theorem Wr.set {B R o : Nat} {p : Bt} {x2 x3 x4 x5 x6 u : Value} {w : World} (h : Wr B R p x2 x3 x4 x5 x6 w) : ∃ a n cap, w.heap[R]? = some (.cells #[.slice a n cap, .int .i64 (p.2 : Int), x2, x3, x4, x5, x6] 68 (0, 0)) ∧ (w.setCell ⟨R, o, none⟩ u).ownsRow B 5 1 (.slice a n cap) n (p.1.map (Value.int .u8)) ∧ (w.setCell ⟨R, o, none⟩ u).heap[R]? = some (.cells (#[.slice a n cap, .int .i64 (p.2 : Int), x2, x3, x4, x5, x6].setIfInBounds o u) 68 (0, 0)) := by
  obtain ⟨a, n, cap, h1, h2⟩ := h
  exact ⟨a, n, cap, h1, ownsRow_setCell_other (a := ⟨R, o, none⟩) h2 (own_ne' h2 h1 (by decide)) u, set_cell h1⟩
theorem Wr.set2 {B R : Nat} {p : Bt} {x2 x3 x4 x5 x6 : Value} {w : World} (u : Value) (h : Wr B R p x2 x3 x4 x5 x6 w) : Wr B R p u x3 x4 x5 x6 (w.setCell ⟨R, 2, none⟩ u) := by
  obtain ⟨a, n, cap, _, h2, h3⟩ := h.set (o := 2) (u := u); exact ⟨a, n, cap, h3, h2⟩
theorem Wr.set3 {B R : Nat} {p : Bt} {x2 x3 x4 x5 x6 : Value} {w : World} (u : Value) (h : Wr B R p x2 x3 x4 x5 x6 w) : Wr B R p x2 u x4 x5 x6 (w.setCell ⟨R, 3, none⟩ u) := by
  obtain ⟨a, n, cap, _, h2, h3⟩ := h.set (o := 3) (u := u); exact ⟨a, n, cap, h3, h2⟩
theorem Wr.set4 {B R : Nat} {p : Bt} {x2 x3 x4 x5 x6 : Value} {w : World} (u : Value) (h : Wr B R p x2 x3 x4 x5 x6 w) : Wr B R p x2 x3 u x5 x6 (w.setCell ⟨R, 4, none⟩ u) := by
  obtain ⟨a, n, cap, _, h2, h3⟩ := h.set (o := 4) (u := u); exact ⟨a, n, cap, h3, h2⟩
theorem Wr.set5 {B R : Nat} {p : Bt} {x2 x3 x4 x5 x6 : Value} {w : World} (u : Value) (h : Wr B R p x2 x3 x4 x5 x6 w) : Wr B R p x2 x3 x4 u x6 (w.setCell ⟨R, 5, none⟩ u) := by
  obtain ⟨a, n, cap, _, h2, h3⟩ := h.set (o := 5) (u := u); exact ⟨a, n, cap, h3, h2⟩
theorem Wr.set6 {B R : Nat} {p : Bt} {x2 x3 x4 x5 x6 : Value} {w : World} (u : Value) (h : Wr B R p x2 x3 x4 x5 x6 w) : Wr B R p x2 x3 x4 x5 u (w.setCell ⟨R, 6, none⟩ u) := by
  obtain ⟨a, n, cap, _, h2, h3⟩ := h.set (o := 6) (u := u); exact ⟨a, n, cap, h3, h2⟩
theorem Wr.cells {B R : Nat} {p : Bt} {x2 x3 x4 x5 x6 : Value} {w : World} (h : Wr B R p x2 x3 x4 x5 x6 w) : w.cell? ⟨R, 2, none⟩ = some x2 ∧ w.cell? ⟨R, 3, none⟩ = some x3 ∧ w.cell? ⟨R, 4, none⟩ = some x4 ∧ w.cell? ⟨R, 5, none⟩ = some x5 ∧ w.cell? ⟨R, 6, none⟩ = some x6 ∧ ∀ o, w.frozen? ⟨R, o, none⟩ = false := by
  obtain ⟨a, n, cap, h1, _⟩ := h
  exact ⟨cell_at h1 2, cell_at h1 3, cell_at h1 4, cell_at h1 5, cell_at h1 6, froz_at h1⟩

set_option maxRecDepth 100000 in
set_option maxHeartbeats 8000000 in
theorem f42 {B R : Nat} {p : Bt} {x2 x3 x4 x5 x6 : Value} (s t : Int) (w : World) (h : Wr B R p x2 x3 x4 x5 x6 w) (hG : GB p) (hs : p.2 + 104 ≤ 80000) (hB : B ≤ R) :
    Calls Tryd.prog 42 #[.pointer (some ⟨R, 0, none⟩), .agg #[.int .i64 s, .int .i64 t]] w fun e w' => e = .returned (.tuple #[]) ∧ Wr B R (bAdd (bAdd p (IntKind.u64.wrap s) 40) (IntKind.u64.wrap t) 64) (.int .i64 s) (.int .i64 t) x4 x5 x6 w' ∧ KeepsR R B w w' := by
  have hRl := h.lt
  have HG := hid hG
  have HXA := hid (heap_alloc_new w (.cells #[.int .i64 s, .int .i64 t] 36))
  have HS := hid (s2_of HXA.out)
  have HWA := hid (h.alloc (.cells #[.int .i64 s, .int .i64 t] 36))
  have HKA := hid ((KeepsR.refl R B w).alloc (by omega) (.cells #[.int .i64 s, .int .i64 t] 36))
  clear h hG HXA
  go_enter Tryd.func42, Tryd.ntmps42
  go_wp2_with fail
  go_region_held3 (fun w' => S2 w.heap.size s t 36 w') (first | exact HS.out.drew | assumption) (first | (go_at_call 41; refine (putO (IntKind.u64.wrap _) 40 (HWA.out.heap (w' := World.drew _) rfl) HG.out (by omega) (by omega) hB (wrapu_lo _) (wrapu_hi _)).mono ?_; rintro e w2 ⟨rfl, hw2, hk2⟩; have hs2 := s2_of (krbox HS.out.2.2 (kr_heap hk2 rfl rfl rfl rfl) (by decide) (by omega))))
  have HW2 := hid hw2
  have HS2 := hid hs2
  have HK2 := hid (kr_trans HKA.out (kr_heap hk2 rfl rfl rfl rfl))
  clear hw2 hk2 hs2 HWA HKA HS
  go_wp2_with fail
  go_region_held3 (fun w' => S2 w.heap.size s t 36 w') (first | exact HS2.out.drew | assumption) (first | (go_at_call 41; refine (putO (IntKind.u64.wrap _) 64 (HW2.out.heap (w' := World.drew _) rfl) (HG.out.add _ _) (by simp only [bAdd_size]; omega) (by omega) hB (wrapu_lo _) (wrapu_hi _)).mono ?_; rintro e w3 ⟨rfl, hw3, hk3⟩; have hs3 := s2_of (krbox HS2.out.2.2 (kr_heap hk3 rfl rfl rfl rfl) (by decide) (by omega))))
  have HW3 := hid hw3
  have HK3 := hid (kr_trans HK2.out (kr_heap hk3 rfl rfl rfl rfl))
  obtain ⟨c2, c3, c4, c5, c6, fz⟩ := hw3.cells
  obtain ⟨e0, e1, e2⟩ := hs3
  have f2 := fz 2
  have f3 := fz 3
  have HWE := hid ((HW3.out.set2 (.int .i64 s)).set3 (.int .i64 t))
  have HKE := hid ((HK3.out.set_R (o := 2) hB (.int .i64 s)).set_R (o := 3) hB (.int .i64 t))
  clear hw3 hk3 fz e2
  go_wp2
  go_end0
  exact ⟨rfl, HWE.out, HKE.out⟩
end Go.Proofs.YteblbcbfaomdmaaDoor.Chk
