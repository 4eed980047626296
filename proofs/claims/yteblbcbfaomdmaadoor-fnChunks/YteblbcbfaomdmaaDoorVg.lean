/- The program's writer of chunks: bits in its struct; putBend, first. -/
import Derived.Test.YteblbcbfaomdmaaDoorVe
import Derived.Test.YteblbcbfaomdmaaDoorVc
namespace Go.Proofs.YteblbcbfaomdmaaDoor.Chk
open Go.RowKit Go.Proofs.YteblbcbfaomdmaaDoor.Bts
open Go.Proofs.YteblbcbfaomdmaaDoor.Smp hiding hid ret_int below_drewN

/-- The writer at block R: its bits, and the rest of its cells. -/
def Wr (B R : Nat) (p : Bt) (x2 x3 x4 x5 x6 : Value) (w : World) : Prop :=
  ∃ a n cap, w.heap[R]? = some (.cells #[.slice a n cap, .int .i64 (p.2 : Int), x2, x3, x4, x5, x6] 68 (0, 0)) ∧ w.ownsRow B 5 1 (.slice a n cap) n (p.1.map (Value.int .u8))
theorem rowHeap {w w' : World} {base e size n : Nat} {v : Value} {xs : List Value} (h : w.ownsRow base e size v n xs) (he : w'.heap = w.heap) : w'.ownsRow base e size v n xs := by
  refine ⟨h.1, ?_⟩
  rcases h.2 with h2 | ⟨g, cap, cur, h1, h2, h3, h4⟩
  · exact .inl h2
  · exact .inr ⟨g, cap, cur, h1, h2, by rw [he]; exact h3, h4⟩
theorem Wr.heap {B R : Nat} {p : Bt} {x2 x3 x4 x5 x6 : Value} {w w' : World} (h : Wr B R p x2 x3 x4 x5 x6 w) (he : w'.heap = w.heap) : Wr B R p x2 x3 x4 x5 x6 w' := by
  obtain ⟨a, n, cap, h1, h2⟩ := h
  exact ⟨a, n, cap, by rw [he]; exact h1, rowHeap h2 he⟩
theorem Wr.alloc {B R : Nat} {p : Bt} {x2 x3 x4 x5 x6 : Value} {w : World} (h : Wr B R p x2 x3 x4 x5 x6 w) (o : Obj) : Wr B R p x2 x3 x4 x5 x6 (w.alloc o) := by
  obtain ⟨a, n, cap, h1, h2⟩ := h
  exact ⟨a, n, cap, by rw [Below.heap_alloc _ _ _ (lt_of_block h1)]; exact h1, h2.alloc o⟩
theorem Wr.below {B R : Nat} {p : Bt} {x2 x3 x4 x5 x6 : Value} {w w' : World} (h : Wr B R p x2 x3 x4 x5 x6 w) (hb : Below w.heap.size w w') : Wr B R p x2 x3 x4 x5 x6 w' := by
  obtain ⟨a, n, cap, h1, h2⟩ := h
  exact ⟨a, n, cap, box_below h1 hb, own_below h2 hb⟩
theorem Wr.lt {B R : Nat} {p : Bt} {x2 x3 x4 x5 x6 : Value} {w : World} (h : Wr B R p x2 x3 x4 x5 x6 w) : R < w.heap.size := by
  obtain ⟨a, n, cap, h1, _⟩ := h
  exact lt_of_block h1
theorem kr_heap {R B : Nat} {w w' x : World} (h : KeepsR R B w' x) (he : w'.heap = w.heap) (h1 : w'.os = w.os) (h2 : w'.tape = w.tape) (h3 : w'.output = w.output) : KeepsR R B w x :=
  ⟨⟨h.below.os.trans h1, h.below.tape.trans h2, h.below.output.trans h3, by rw [← he]; exact h.below.size, fun k hk => (h.below.block k hk).trans (by rw [he])⟩, fun k cs t f ht hR hk => h.other k cs t f ht hR (by rw [he]; exact hk)⟩
theorem kr_trans {R B : Nat} {a b c : World} (h : KeepsR R B a b) (k : KeepsR R B b c) : KeepsR R B a c := ⟨h.below.trans k.below, fun i cs t f ht hR hi => k.other i cs t f ht hR (h.other i cs t f ht hR hi)⟩
theorem kr_below {R B : Nat} {a b : World} (hB : B ≤ a.heap.size) (h : Below a.heap.size a b) : KeepsR R B a b :=
  ⟨h.mono hB, fun k cs t f _ _ hk => by rw [h.block k (lt_of_block hk)]; exact hk⟩
theorem putO {B R : Nat} {p : Bt} {x2 x3 x4 x5 x6 : Value} {w : World} (U : Int) (m : Nat) (h : Wr B R p x2 x3 x4 x5 x6 w) (hG : GB p) (hs : p.2 + m ≤ 80000) (hm : m ≤ 64) (hB : B ≤ R) (hU0 : 0 ≤ U) (hU1 : U ≤ 18446744073709551615) :
    Calls Tryd.prog 41 #[.pointer (some ⟨R, 0, none⟩), .int .u64 U, .int .i64 m] w fun e w' => e = .returned (.tuple #[]) ∧ Wr B R (bAdd p U m) x2 x3 x4 x5 x6 w' ∧ KeepsR R B w w' := by
  obtain ⟨a, n, cap, h1, h2⟩ := h
  refine (put7 x2 x3 x4 x5 x6 a n cap p.2 m B R U p.1 w h2 hG hs hm hB hU0 hU1 h1).mono ?_
  rintro e w' ⟨rfl, a', n', cap', g1, g2, g3⟩
  exact ⟨rfl, ⟨a', n', cap', g1, g2⟩, g3⟩
theorem wrapu_lo (x : Int) : 0 ≤ IntKind.u64.wrap x := by rw [IntKind.wrap_u64]; omega
theorem wrapu_hi (x : Int) : IntKind.u64.wrap x ≤ 18446744073709551615 := by rw [IntKind.wrap_u64]; omega
theorem wrap_wrap (x : Int) : IntKind.u64.wrap (IntKind.i64.wrap x) = IntKind.u64.wrap x := by rw [IntKind.wrap_u64, IntKind.wrap_u64, IntKind.wrap_i64]; omega
theorem krbox {R B b : Nat} {w w' : World} {cs : Array Value} {t : TypeId} {f : Nat × Nat} (h : w.heap[b]? = some (.cells cs t f)) (hk : KeepsR R B w w') (ht : t ≠ 5) (hb : b ≠ R) : w'.heap[b]? = some (.cells cs t f) := hk.other b cs t f ht hb h

/-- A box of four numbers that stays. -/
abbrev S4 (X : Nat) (c : Int × Int × Int × Int) (w' : World) : Prop :=
  w'.cell? ⟨X, 0, none⟩ = some (.int .i64 c.1) ∧ w'.cell? ⟨X, 1, none⟩ = some (.int .i64 c.2.1) ∧ w'.cell? ⟨X, 2, none⟩ = some (.int .i64 c.2.2.1) ∧ w'.cell? ⟨X, 3, none⟩ = some (.int .i64 c.2.2.2) ∧ w'.heap[X]? = some (.cells #[.int .i64 c.1, .int .i64 c.2.1, .int .i64 c.2.2.1, .int .i64 c.2.2.2] 98 (0, 0))
theorem s4_of {X : Nat} {c : Int × Int × Int × Int} {w' : World} (h : w'.heap[X]? = some (.cells #[.int .i64 c.1, .int .i64 c.2.1, .int .i64 c.2.2.1, .int .i64 c.2.2.2] 98 (0, 0))) : S4 X c w' := ⟨cell_at h 0, cell_at h 1, cell_at h 2, cell_at h 3, h⟩
theorem S4.drew {X : Nat} {c : Int × Int × Int × Int} {w' : World} (h : S4 X c w') : S4 X c w'.drew := s4_of (w' := w'.drew) h.2.2.2.2

set_option maxRecDepth 100000 in
set_option maxHeartbeats 8000000 in
theorem f61 {B R : Nat} {p : Bt} {x2 x3 x4 x5 x6 : Value} (b : Int) (w : World) (h : Wr B R p x2 x3 x4 x5 x6 w) (hG : GB p) (hs : p.2 + 68 ≤ 80000) (hB : B ≤ R) (hb0 : -1000000000000 ≤ b) (hb1 : b ≤ 1000000000000) (hc : Cls w) :
    Calls Tryd.prog 61 #[.pointer (some ⟨R, 0, none⟩), .int .i64 b] w fun e w' => e = .returned (.tuple #[]) ∧ Wr B R (bendB p b) x2 x3 x4 x5 x6 w' ∧ KeepsR R B w w' := by
  have HW := hid h
  have HG := hid hG
  have HC := hid hc
  have hRl := h.lt
  obtain ⟨k1, k2, k3, k4, k5, k6, k7, k8⟩ := cls_bd (bendI b) (bend_lt b)
  have HI := hid (bend_impl p b hb0 hb1)
  clear h hG hc
  go_enter Tryd.func61, Tryd.ntmps61
  go_wp2_with fail
  refine (f75 b _ hb0 hb1 HC.out).mono ?_
  rintro e w1 ⟨rfl, hb1'⟩
  have HW1 := hid (HW.out.below hb1')
  have HK1 := hid (kr_below (R := R) (show B ≤ w.heap.size by omega) hb1')
  have hR1 := HW1.out.lt
  unfold cv
  generalize cls (bendI b) = q at *
  obtain ⟨q0, q1, q2, q3⟩ := q
  simp only at k1 k2 k3 k4 k5 k6 k7 k8 HI
  obtain ⟨m1, hm1⟩ : ∃ m1 : Nat, q1 = (m1 : Int) := ⟨q1.toNat, by omega⟩
  obtain ⟨m3, hm3⟩ : ∃ m3 : Nat, q3 = (m3 : Int) := ⟨q3.toNat, by omega⟩
  subst hm1 hm3
  rw [Int.toNat_natCast, Int.toNat_natCast] at HI
  have HXA := hid (heap_alloc_new w1 (.cells #[.int .i64 q0, .int .i64 (m1 : Int), .int .i64 q2, .int .i64 (m3 : Int)] 98))
  have HS := hid (s4_of (c := (q0, (m1 : Int), q2, (m3 : Int))) HXA.out)
  have HWA := hid (HW1.out.alloc (.cells #[.int .i64 q0, .int .i64 (m1 : Int), .int .i64 q2, .int .i64 (m3 : Int)] 98))
  have HKA := hid (kr_trans HK1.out ((KeepsR.refl R B w1).alloc (by omega) (.cells #[.int .i64 q0, .int .i64 (m1 : Int), .int .i64 q2, .int .i64 (m3 : Int)] 98)))
  clear hb1' HW HC HXA HW1 HK1
  go_wp2_with fail
  go_region_held3 (fun w' => S4 w1.heap.size (q0, (m1 : Int), q2, (m3 : Int)) w') (first | exact HS.out.drew | assumption) (first | (go_at_call 41; refine (putO (IntKind.u64.wrap q0) m1 (HWA.out.heap (w' := World.drew _) rfl) HG.out (by omega) (by omega) hB (by rw [IntKind.wrap_u64]; omega) (by rw [IntKind.wrap_u64]; omega)).mono ?_; rintro e w2 ⟨rfl, hw2, hk2⟩; have hs2 := s4_of (c := (q0, (m1 : Int), q2, (m3 : Int))) (krbox HS.out.2.2.2.2 (kr_heap hk2 rfl rfl rfl rfl) (by decide) (by omega))))
  have HW2 := hid hw2
  have HS2 := hid hs2
  have HK2 := hid (kr_trans HKA.out (kr_heap hk2 rfl rfl rfl rfl))
  clear hw2 hk2 hs2 HWA HKA HS
  go_wp2_with fail
  go_region_held3 (fun w' => S4 w1.heap.size (q0, (m1 : Int), q2, (m3 : Int)) w') (first | exact HS2.out.drew | assumption) (first | (go_at_call 41; refine (putO (IntKind.u64.wrap _) m3 (HW2.out.heap (w' := World.drew _) rfl) (HG.out.add _ _) (by simp only [bAdd_size]; omega) (by omega) hB (wrapu_lo _) (wrapu_hi _)).mono ?_; rintro e w3 ⟨rfl, hw3, hk3⟩; have hs3 := s4_of (c := (q0, (m1 : Int), q2, (m3 : Int))) (krbox HS2.out.2.2.2.2 (kr_heap hk3 rfl rfl rfl rfl) (by decide) (by omega))))
  try rw [wrap_wrap] at hw3
  rw [HI.out] at hw3
  have HK3 := hid (kr_trans HK2.out (kr_heap hk3 rfl rfl rfl rfl))
  have HW3 := hid hw3
  clear hw3 hk3 hs3
  go_wp2
  go_end0
  exact ⟨rfl, HW3.out, HK3.out⟩
end Go.Proofs.YteblbcbfaomdmaaDoor.Chk
