/- Whether a kind is a value; the kind of an operation. -/
import Derived.Test.YtbdlahhejfamhaaGreatDoorRK0
import Derived.Test.YtbdlahhejfamhaaGreatDoorRQpd
namespace Go.Proofs.YtbdlahhejfamhaaGreatDoor.Qry
open Go.RowKit

theorem isV_e (w : World) : Calls Tryz.prog 68 #[.string ⟨#[]⟩] w fun e w' => e = .returned (.bool false) ∧ w' = w := by
  go_enter Tryz.func68, Tryz.ntmps68
  go_wp2
  go_ret
  exact ⟨rfl, rfl⟩
theorem isV_n (w : World) : Calls Tryz.prog 68 #[.string ⟨#[110, 117, 109, 98, 101, 114]⟩] w fun e w' => e = .returned (.bool true) ∧ w' = w := by
  go_enter Tryz.func68, Tryz.ntmps68
  go_wp2
  go_ret
  exact ⟨rfl, rfl⟩
theorem isV_t (w : World) : Calls Tryz.prog 68 #[.string ⟨#[116, 101, 120, 116]⟩] w fun e w' => e = .returned (.bool false) ∧ w' = w := by
  go_enter Tryz.func68, Tryz.ntmps68
  go_wp2
  go_ret
  exact ⟨rfl, rfl⟩
theorem isV_v (w : World) : Calls Tryz.prog 68 #[.string ⟨#[118, 101, 99, 116, 111, 114]⟩] w fun e w' => e = .returned (.bool true) ∧ w' = w := by
  go_enter Tryz.func68, Tryz.ntmps68
  go_wp2
  go_ret
  exact ⟨rfl, rfl⟩
theorem isV_r (w : World) : Calls Tryz.prog 68 #[.string ⟨#[114, 97, 110, 103, 101]⟩] w fun e w' => e = .returned (.bool false) ∧ w' = w := by
  go_enter Tryz.func68, Tryz.ntmps68
  go_wp2
  go_ret
  exact ⟨rfl, rfl⟩
theorem f68 (k : K) (w : World) : Calls Tryz.prog 68 #[.string k.s] w fun e w' => e = .returned (.bool k.val) ∧ w' = w := by
  cases k
  · exact isV_e w
  · exact isV_n w
  · exact isV_t w
  · exact isV_v w
  · exact isV_r w
theorem ret_k {k : K} {s : ByteArray} (x : K) (h : k = x) (hs : s = x.s) : Ending.returned (.string s) = .returned (.string k.s) := by rw [h, hs]
set_option maxHeartbeats 4000000 in
set_option maxRecDepth 10000 in
theorem op_ex (q : R) (k : Nat) (b : K) (hop : q.op = k) (h1 : 1 ≤ k) (h2 : k < 15) (w : World) (ht : TabOp w) :
    Calls Tryz.prog 69 #[agR q, .string ⟨#[]⟩, .string b.s] w fun e w' => e = .returned (.string (opK (pl q) .e b).s) ∧ Below w.heap.size w w' := by
  obtain ⟨kd, nu, st, tx, op, ms, ma, mc, off, fx, att, bo, byy, ns, na, nc, sd, es, ea, ec, kc⟩ := q
  simp only at hop
  subst hop
  have HB0 := hid ((Below.refl w.heap.size w).alloc (Nat.le_refl _) (.cells #[.int .i64 kd, .int .i64 nu, .int .i64 st, .string tx, .int .i64 k, .slice ma ms.length mc, .int .i64 off, .bool fx, .int .i64 att, .bool bo, .int .i64 byy, .slice na ns.length nc, .int .i64 sd, .slice ea es.length ec, .int .i64 kc] 55))
  obtain ⟨c0, c1, c2, c3, c4, c5, c6, c7, c8, c9, c10, c11, c12, c13, c14⟩ := fifteen (heap_alloc_new w (.cells #[.int .i64 kd, .int .i64 nu, .int .i64 st, .string tx, .int .i64 k, .slice ma ms.length mc, .int .i64 off, .bool fx, .int .i64 att, .bool bo, .int .i64 byy, .slice na ns.length nc, .int .i64 sd, .slice ea es.length ec, .int .i64 kc] 55))
  have g0 := tabOp_at (ht.below HB0.out) k h2
  have hkk : (k : Int) < 15 := by omega
  have HF := hid (bd_facts k h1 (by omega))
  generalize bd k = z at *
  clear ht
  have HR : Hid (opK (pl ⟨kd, nu, st, tx, k, ms, ma, mc, off, fx, att, bo, byy, ns, na, nc, sd, es, ea, ec, kc⟩) .e b = .e) := by
    have hf := HF.out
    unfold Hid opK
    exact if_pos (.inl rfl)
  clear HF
  go_enter Tryz.func69, Tryz.ntmps69
  go_wp2_with (first | (go_at_call 68; refine (isV_e _).mono ?_; rintro e w1 ⟨rfl, hw1⟩; have hw1' := hw1.symm; clear hw1; subst hw1'))
  go_ret
  exact ⟨ret_k .e HR.out rfl, HB0.out⟩
set_option maxHeartbeats 4000000 in
set_option maxRecDepth 10000 in
theorem op_tx (q : R) (k : Nat) (b : K) (hop : q.op = k) (h1 : 1 ≤ k) (h2 : k < 15) (w : World) (ht : TabOp w) :
    Calls Tryz.prog 69 #[agR q, .string ⟨#[116, 101, 120, 116]⟩, .string b.s] w fun e w' => e = .returned (.string (opK (pl q) .t b).s) ∧ Below w.heap.size w w' := by
  obtain ⟨kd, nu, st, tx, op, ms, ma, mc, off, fx, att, bo, byy, ns, na, nc, sd, es, ea, ec, kc⟩ := q
  simp only at hop
  subst hop
  have HB0 := hid ((Below.refl w.heap.size w).alloc (Nat.le_refl _) (.cells #[.int .i64 kd, .int .i64 nu, .int .i64 st, .string tx, .int .i64 k, .slice ma ms.length mc, .int .i64 off, .bool fx, .int .i64 att, .bool bo, .int .i64 byy, .slice na ns.length nc, .int .i64 sd, .slice ea es.length ec, .int .i64 kc] 55))
  obtain ⟨c0, c1, c2, c3, c4, c5, c6, c7, c8, c9, c10, c11, c12, c13, c14⟩ := fifteen (heap_alloc_new w (.cells #[.int .i64 kd, .int .i64 nu, .int .i64 st, .string tx, .int .i64 k, .slice ma ms.length mc, .int .i64 off, .bool fx, .int .i64 att, .bool bo, .int .i64 byy, .slice na ns.length nc, .int .i64 sd, .slice ea es.length ec, .int .i64 kc] 55))
  have g0 := tabOp_at (ht.below HB0.out) k h2
  have hkk : (k : Int) < 15 := by omega
  have HF := hid (bd_facts k h1 (by omega))
  generalize bd k = z at *
  clear ht
  have HR : Hid (opK (pl ⟨kd, nu, st, tx, k, ms, ma, mc, off, fx, att, bo, byy, ns, na, nc, sd, es, ea, ec, kc⟩) .t b = .e) := by
    have hf := HF.out
    unfold Hid opK
    exact if_pos (.inl rfl)
  clear HF
  go_enter Tryz.func69, Tryz.ntmps69
  go_wp2_with (first | (go_at_call 68; refine (isV_t _).mono ?_; rintro e w1 ⟨rfl, hw1⟩; have hw1' := hw1.symm; clear hw1; subst hw1'))
  go_ret
  exact ⟨ret_k .e HR.out rfl, HB0.out⟩
set_option maxHeartbeats 4000000 in
set_option maxRecDepth 10000 in
theorem op_rx (q : R) (k : Nat) (b : K) (hop : q.op = k) (h1 : 1 ≤ k) (h2 : k < 15) (w : World) (ht : TabOp w) :
    Calls Tryz.prog 69 #[agR q, .string ⟨#[114, 97, 110, 103, 101]⟩, .string b.s] w fun e w' => e = .returned (.string (opK (pl q) .r b).s) ∧ Below w.heap.size w w' := by
  obtain ⟨kd, nu, st, tx, op, ms, ma, mc, off, fx, att, bo, byy, ns, na, nc, sd, es, ea, ec, kc⟩ := q
  simp only at hop
  subst hop
  have HB0 := hid ((Below.refl w.heap.size w).alloc (Nat.le_refl _) (.cells #[.int .i64 kd, .int .i64 nu, .int .i64 st, .string tx, .int .i64 k, .slice ma ms.length mc, .int .i64 off, .bool fx, .int .i64 att, .bool bo, .int .i64 byy, .slice na ns.length nc, .int .i64 sd, .slice ea es.length ec, .int .i64 kc] 55))
  obtain ⟨c0, c1, c2, c3, c4, c5, c6, c7, c8, c9, c10, c11, c12, c13, c14⟩ := fifteen (heap_alloc_new w (.cells #[.int .i64 kd, .int .i64 nu, .int .i64 st, .string tx, .int .i64 k, .slice ma ms.length mc, .int .i64 off, .bool fx, .int .i64 att, .bool bo, .int .i64 byy, .slice na ns.length nc, .int .i64 sd, .slice ea es.length ec, .int .i64 kc] 55))
  have g0 := tabOp_at (ht.below HB0.out) k h2
  have hkk : (k : Int) < 15 := by omega
  have HF := hid (bd_facts k h1 (by omega))
  generalize bd k = z at *
  clear ht
  have HR : Hid (opK (pl ⟨kd, nu, st, tx, k, ms, ma, mc, off, fx, att, bo, byy, ns, na, nc, sd, es, ea, ec, kc⟩) .r b = .e) := by
    have hf := HF.out
    unfold Hid opK
    exact if_pos (.inl rfl)
  clear HF
  go_enter Tryz.func69, Tryz.ntmps69
  go_wp2_with (first | (go_at_call 68; refine (isV_r _).mono ?_; rintro e w1 ⟨rfl, hw1⟩; have hw1' := hw1.symm; clear hw1; subst hw1'))
  go_ret
  exact ⟨ret_k .e HR.out rfl, HB0.out⟩
set_option maxHeartbeats 4000000 in
set_option maxRecDepth 10000 in
theorem op_ve (q : R) (k : Nat) (hop : q.op = k) (h1 : 1 ≤ k) (h2 : k < 15) (w : World) (ht : TabOp w) :
    Calls Tryz.prog 69 #[agR q, .string ⟨#[118, 101, 99, 116, 111, 114]⟩, .string ⟨#[]⟩] w fun e w' => e = .returned (.string (opK (pl q) .v .e).s) ∧ Below w.heap.size w w' := by
  obtain ⟨kd, nu, st, tx, op, ms, ma, mc, off, fx, att, bo, byy, ns, na, nc, sd, es, ea, ec, kc⟩ := q
  simp only at hop
  subst hop
  have HB0 := hid ((Below.refl w.heap.size w).alloc (Nat.le_refl _) (.cells #[.int .i64 kd, .int .i64 nu, .int .i64 st, .string tx, .int .i64 k, .slice ma ms.length mc, .int .i64 off, .bool fx, .int .i64 att, .bool bo, .int .i64 byy, .slice na ns.length nc, .int .i64 sd, .slice ea es.length ec, .int .i64 kc] 55))
  obtain ⟨c0, c1, c2, c3, c4, c5, c6, c7, c8, c9, c10, c11, c12, c13, c14⟩ := fifteen (heap_alloc_new w (.cells #[.int .i64 kd, .int .i64 nu, .int .i64 st, .string tx, .int .i64 k, .slice ma ms.length mc, .int .i64 off, .bool fx, .int .i64 att, .bool bo, .int .i64 byy, .slice na ns.length nc, .int .i64 sd, .slice ea es.length ec, .int .i64 kc] 55))
  have g0 := tabOp_at (ht.below HB0.out) k h2
  have hkk : (k : Int) < 15 := by omega
  have HF := hid (bd_facts k h1 (by omega))
  generalize bd k = z at *
  clear ht
  have HR : Hid (opK (pl ⟨kd, nu, st, tx, k, ms, ma, mc, off, fx, att, bo, byy, ns, na, nc, sd, es, ea, ec, kc⟩) .v .e = .e) := by
    have hf := HF.out
    unfold Hid opK
    exact if_pos (.inr rfl)
  clear HF
  go_enter Tryz.func69, Tryz.ntmps69
  go_wp2_with (first | (go_at_call 68; refine (isV_v _).mono ?_; rintro e w1 ⟨rfl, hw1⟩; have hw1' := hw1.symm; clear hw1; subst hw1') | (go_at_call 68; refine (isV_e _).mono ?_; rintro e w2 ⟨rfl, hw2⟩; have hw2' := hw2.symm; clear hw2; subst hw2'))
  go_ret
  exact ⟨ret_k .e HR.out rfl, HB0.out⟩
set_option maxHeartbeats 4000000 in
set_option maxRecDepth 10000 in
theorem op_vn (q : R) (k : Nat) (hop : q.op = k) (h1 : 1 ≤ k) (h2 : k < 15) (w : World) (ht : TabOp w) :
    Calls Tryz.prog 69 #[agR q, .string ⟨#[118, 101, 99, 116, 111, 114]⟩, .string ⟨#[110, 117, 109, 98, 101, 114]⟩] w fun e w' => e = .returned (.string (opK (pl q) .v .n).s) ∧ Below w.heap.size w w' := by
  obtain ⟨kd, nu, st, tx, op, ms, ma, mc, off, fx, att, bo, byy, ns, na, nc, sd, es, ea, ec, kc⟩ := q
  simp only at hop
  subst hop
  have HB0 := hid ((Below.refl w.heap.size w).alloc (Nat.le_refl _) (.cells #[.int .i64 kd, .int .i64 nu, .int .i64 st, .string tx, .int .i64 k, .slice ma ms.length mc, .int .i64 off, .bool fx, .int .i64 att, .bool bo, .int .i64 byy, .slice na ns.length nc, .int .i64 sd, .slice ea es.length ec, .int .i64 kc] 55))
  obtain ⟨c0, c1, c2, c3, c4, c5, c6, c7, c8, c9, c10, c11, c12, c13, c14⟩ := fifteen (heap_alloc_new w (.cells #[.int .i64 kd, .int .i64 nu, .int .i64 st, .string tx, .int .i64 k, .slice ma ms.length mc, .int .i64 off, .bool fx, .int .i64 att, .bool bo, .int .i64 byy, .slice na ns.length nc, .int .i64 sd, .slice ea es.length ec, .int .i64 kc] 55))
  have g0 := tabOp_at (ht.below HB0.out) k h2
  have hkk : (k : Int) < 15 := by omega
  have HF := hid (bd_facts k h1 (by omega))
  generalize bd k = z at *
  clear ht
  by_cases b0 : byy = 0
  · subst b0
    by_cases z3 : z < 3
    · have HR : Hid (opK (pl ⟨kd, nu, st, tx, k, ms, ma, mc, off, fx, att, bo, 0, ns, na, nc, sd, es, ea, ec, kc⟩) .v .n = .e) := by
        have hf := HF.out
        unfold Hid opK
        rw [if_neg (by decide)]
        rw [if_neg (by decide)]
        exact if_pos (.inr (by simp only [pl]; omega))
      clear HF
      go_enter Tryz.func69, Tryz.ntmps69
      go_wp2_with (first | (go_at_call 68; refine (isV_v _).mono ?_; rintro e w1 ⟨rfl, hw1⟩; have hw1' := hw1.symm; clear hw1; subst hw1') | (go_at_call 68; refine (isV_n _).mono ?_; rintro e w2 ⟨rfl, hw2⟩; have hw2' := hw2.symm; clear hw2; subst hw2'))
      go_ret
      exact ⟨ret_k .e HR.out rfl, HB0.out⟩
    · have HR : Hid (opK (pl ⟨kd, nu, st, tx, k, ms, ma, mc, off, fx, att, bo, 0, ns, na, nc, sd, es, ea, ec, kc⟩) .v .n = .v) := by
        have hf := HF.out
        unfold Hid opK
        rw [if_neg (by decide)]
        rw [if_neg (by decide)]
        rw [if_neg (by simp only [pl]; omega)]
        exact if_pos (by decide)
      clear HF
      go_enter Tryz.func69, Tryz.ntmps69
      go_wp2_with (first | (go_at_call 68; refine (isV_v _).mono ?_; rintro e w1 ⟨rfl, hw1⟩; have hw1' := hw1.symm; clear hw1; subst hw1') | (go_at_call 68; refine (isV_n _).mono ?_; rintro e w2 ⟨rfl, hw2⟩; have hw2' := hw2.symm; clear hw2; subst hw2'))
      go_ret
      exact ⟨ret_k .v HR.out rfl, HB0.out⟩
  · have HR : Hid (opK (pl ⟨kd, nu, st, tx, k, ms, ma, mc, off, fx, att, bo, byy, ns, na, nc, sd, es, ea, ec, kc⟩) .v .n = .e) := by
      have hf := HF.out
      unfold Hid opK
      rw [if_neg (by decide)]
      rw [if_neg (by decide)]
      exact if_pos (.inl (show byy ≠ 0 from b0))
    clear HF
    go_enter Tryz.func69, Tryz.ntmps69
    go_wp2_with (first | (go_at_call 68; refine (isV_v _).mono ?_; rintro e w1 ⟨rfl, hw1⟩; have hw1' := hw1.symm; clear hw1; subst hw1') | (go_at_call 68; refine (isV_n _).mono ?_; rintro e w2 ⟨rfl, hw2⟩; have hw2' := hw2.symm; clear hw2; subst hw2'))
    go_ret
    exact ⟨ret_k .e HR.out rfl, HB0.out⟩
set_option maxHeartbeats 4000000 in
set_option maxRecDepth 10000 in
theorem op_vt (q : R) (k : Nat) (hop : q.op = k) (h1 : 1 ≤ k) (h2 : k < 15) (w : World) (ht : TabOp w) :
    Calls Tryz.prog 69 #[agR q, .string ⟨#[118, 101, 99, 116, 111, 114]⟩, .string ⟨#[116, 101, 120, 116]⟩] w fun e w' => e = .returned (.string (opK (pl q) .v .t).s) ∧ Below w.heap.size w w' := by
  obtain ⟨kd, nu, st, tx, op, ms, ma, mc, off, fx, att, bo, byy, ns, na, nc, sd, es, ea, ec, kc⟩ := q
  simp only at hop
  subst hop
  have HB0 := hid ((Below.refl w.heap.size w).alloc (Nat.le_refl _) (.cells #[.int .i64 kd, .int .i64 nu, .int .i64 st, .string tx, .int .i64 k, .slice ma ms.length mc, .int .i64 off, .bool fx, .int .i64 att, .bool bo, .int .i64 byy, .slice na ns.length nc, .int .i64 sd, .slice ea es.length ec, .int .i64 kc] 55))
  obtain ⟨c0, c1, c2, c3, c4, c5, c6, c7, c8, c9, c10, c11, c12, c13, c14⟩ := fifteen (heap_alloc_new w (.cells #[.int .i64 kd, .int .i64 nu, .int .i64 st, .string tx, .int .i64 k, .slice ma ms.length mc, .int .i64 off, .bool fx, .int .i64 att, .bool bo, .int .i64 byy, .slice na ns.length nc, .int .i64 sd, .slice ea es.length ec, .int .i64 kc] 55))
  have g0 := tabOp_at (ht.below HB0.out) k h2
  have hkk : (k : Int) < 15 := by omega
  have HF := hid (bd_facts k h1 (by omega))
  generalize bd k = z at *
  clear ht
  have HR : Hid (opK (pl ⟨kd, nu, st, tx, k, ms, ma, mc, off, fx, att, bo, byy, ns, na, nc, sd, es, ea, ec, kc⟩) .v .t = .e) := by
    have hf := HF.out
    unfold Hid opK
    exact if_pos (.inr rfl)
  clear HF
  go_enter Tryz.func69, Tryz.ntmps69
  go_wp2_with (first | (go_at_call 68; refine (isV_v _).mono ?_; rintro e w1 ⟨rfl, hw1⟩; have hw1' := hw1.symm; clear hw1; subst hw1') | (go_at_call 68; refine (isV_t _).mono ?_; rintro e w2 ⟨rfl, hw2⟩; have hw2' := hw2.symm; clear hw2; subst hw2'))
  go_ret
  exact ⟨ret_k .e HR.out rfl, HB0.out⟩
set_option maxHeartbeats 4000000 in
set_option maxRecDepth 10000 in
theorem op_vv (q : R) (k : Nat) (hop : q.op = k) (h1 : 1 ≤ k) (h2 : k < 15) (w : World) (ht : TabOp w) :
    Calls Tryz.prog 69 #[agR q, .string ⟨#[118, 101, 99, 116, 111, 114]⟩, .string ⟨#[118, 101, 99, 116, 111, 114]⟩] w fun e w' => e = .returned (.string (opK (pl q) .v .v).s) ∧ Below w.heap.size w w' := by
  obtain ⟨kd, nu, st, tx, op, ms, ma, mc, off, fx, att, bo, byy, ns, na, nc, sd, es, ea, ec, kc⟩ := q
  simp only at hop
  subst hop
  have HB0 := hid ((Below.refl w.heap.size w).alloc (Nat.le_refl _) (.cells #[.int .i64 kd, .int .i64 nu, .int .i64 st, .string tx, .int .i64 k, .slice ma ms.length mc, .int .i64 off, .bool fx, .int .i64 att, .bool bo, .int .i64 byy, .slice na ns.length nc, .int .i64 sd, .slice ea es.length ec, .int .i64 kc] 55))
  obtain ⟨c0, c1, c2, c3, c4, c5, c6, c7, c8, c9, c10, c11, c12, c13, c14⟩ := fifteen (heap_alloc_new w (.cells #[.int .i64 kd, .int .i64 nu, .int .i64 st, .string tx, .int .i64 k, .slice ma ms.length mc, .int .i64 off, .bool fx, .int .i64 att, .bool bo, .int .i64 byy, .slice na ns.length nc, .int .i64 sd, .slice ea es.length ec, .int .i64 kc] 55))
  have g0 := tabOp_at (ht.below HB0.out) k h2
  have hkk : (k : Int) < 15 := by omega
  have HF := hid (bd_facts k h1 (by omega))
  generalize bd k = z at *
  clear ht
  have HR : Hid (opK (pl ⟨kd, nu, st, tx, k, ms, ma, mc, off, fx, att, bo, byy, ns, na, nc, sd, es, ea, ec, kc⟩) .v .v = .v) := by
    have hf := HF.out
    unfold Hid opK
    rw [if_neg (by decide)]
    exact if_pos ⟨rfl, rfl⟩
  clear HF
  go_enter Tryz.func69, Tryz.ntmps69
  go_wp2_with (first | (go_at_call 68; refine (isV_v _).mono ?_; rintro e w1 ⟨rfl, hw1⟩; have hw1' := hw1.symm; clear hw1; subst hw1'))
  go_ret
  exact ⟨ret_k .v HR.out rfl, HB0.out⟩
set_option maxHeartbeats 4000000 in
set_option maxRecDepth 10000 in
theorem op_vr (q : R) (k : Nat) (hop : q.op = k) (h1 : 1 ≤ k) (h2 : k < 15) (w : World) (ht : TabOp w) :
    Calls Tryz.prog 69 #[agR q, .string ⟨#[118, 101, 99, 116, 111, 114]⟩, .string ⟨#[114, 97, 110, 103, 101]⟩] w fun e w' => e = .returned (.string (opK (pl q) .v .r).s) ∧ Below w.heap.size w w' := by
  obtain ⟨kd, nu, st, tx, op, ms, ma, mc, off, fx, att, bo, byy, ns, na, nc, sd, es, ea, ec, kc⟩ := q
  simp only at hop
  subst hop
  have HB0 := hid ((Below.refl w.heap.size w).alloc (Nat.le_refl _) (.cells #[.int .i64 kd, .int .i64 nu, .int .i64 st, .string tx, .int .i64 k, .slice ma ms.length mc, .int .i64 off, .bool fx, .int .i64 att, .bool bo, .int .i64 byy, .slice na ns.length nc, .int .i64 sd, .slice ea es.length ec, .int .i64 kc] 55))
  obtain ⟨c0, c1, c2, c3, c4, c5, c6, c7, c8, c9, c10, c11, c12, c13, c14⟩ := fifteen (heap_alloc_new w (.cells #[.int .i64 kd, .int .i64 nu, .int .i64 st, .string tx, .int .i64 k, .slice ma ms.length mc, .int .i64 off, .bool fx, .int .i64 att, .bool bo, .int .i64 byy, .slice na ns.length nc, .int .i64 sd, .slice ea es.length ec, .int .i64 kc] 55))
  have g0 := tabOp_at (ht.below HB0.out) k h2
  have hkk : (k : Int) < 15 := by omega
  have HF := hid (bd_facts k h1 (by omega))
  generalize bd k = z at *
  clear ht
  have HR : Hid (opK (pl ⟨kd, nu, st, tx, k, ms, ma, mc, off, fx, att, bo, byy, ns, na, nc, sd, es, ea, ec, kc⟩) .v .r = .e) := by
    have hf := HF.out
    unfold Hid opK
    exact if_pos (.inr rfl)
  clear HF
  go_enter Tryz.func69, Tryz.ntmps69
  go_wp2_with (first | (go_at_call 68; refine (isV_v _).mono ?_; rintro e w1 ⟨rfl, hw1⟩; have hw1' := hw1.symm; clear hw1; subst hw1') | (go_at_call 68; refine (isV_r _).mono ?_; rintro e w2 ⟨rfl, hw2⟩; have hw2' := hw2.symm; clear hw2; subst hw2'))
  go_ret
  exact ⟨ret_k .e HR.out rfl, HB0.out⟩
set_option maxHeartbeats 4000000 in
set_option maxRecDepth 10000 in
theorem op_ne (q : R) (k : Nat) (hop : q.op = k) (h1 : 1 ≤ k) (h2 : k < 15) (w : World) (ht : TabOp w) :
    Calls Tryz.prog 69 #[agR q, .string ⟨#[110, 117, 109, 98, 101, 114]⟩, .string ⟨#[]⟩] w fun e w' => e = .returned (.string (opK (pl q) .n .e).s) ∧ Below w.heap.size w w' := by
  obtain ⟨kd, nu, st, tx, op, ms, ma, mc, off, fx, att, bo, byy, ns, na, nc, sd, es, ea, ec, kc⟩ := q
  simp only at hop
  subst hop
  have HB0 := hid ((Below.refl w.heap.size w).alloc (Nat.le_refl _) (.cells #[.int .i64 kd, .int .i64 nu, .int .i64 st, .string tx, .int .i64 k, .slice ma ms.length mc, .int .i64 off, .bool fx, .int .i64 att, .bool bo, .int .i64 byy, .slice na ns.length nc, .int .i64 sd, .slice ea es.length ec, .int .i64 kc] 55))
  obtain ⟨c0, c1, c2, c3, c4, c5, c6, c7, c8, c9, c10, c11, c12, c13, c14⟩ := fifteen (heap_alloc_new w (.cells #[.int .i64 kd, .int .i64 nu, .int .i64 st, .string tx, .int .i64 k, .slice ma ms.length mc, .int .i64 off, .bool fx, .int .i64 att, .bool bo, .int .i64 byy, .slice na ns.length nc, .int .i64 sd, .slice ea es.length ec, .int .i64 kc] 55))
  have g0 := tabOp_at (ht.below HB0.out) k h2
  have hkk : (k : Int) < 15 := by omega
  have HF := hid (bd_facts k h1 (by omega))
  generalize bd k = z at *
  clear ht
  have HR : Hid (opK (pl ⟨kd, nu, st, tx, k, ms, ma, mc, off, fx, att, bo, byy, ns, na, nc, sd, es, ea, ec, kc⟩) .n .e = .e) := by
    have hf := HF.out
    unfold Hid opK
    exact if_pos (.inr rfl)
  clear HF
  go_enter Tryz.func69, Tryz.ntmps69
  go_wp2_with (first | (go_at_call 68; refine (isV_n _).mono ?_; rintro e w1 ⟨rfl, hw1⟩; have hw1' := hw1.symm; clear hw1; subst hw1') | (go_at_call 68; refine (isV_e _).mono ?_; rintro e w2 ⟨rfl, hw2⟩; have hw2' := hw2.symm; clear hw2; subst hw2'))
  go_ret
  exact ⟨ret_k .e HR.out rfl, HB0.out⟩
set_option maxHeartbeats 4000000 in
set_option maxRecDepth 10000 in
theorem op_nn (q : R) (k : Nat) (hop : q.op = k) (h1 : 1 ≤ k) (h2 : k < 15) (w : World) (ht : TabOp w) :
    Calls Tryz.prog 69 #[agR q, .string ⟨#[110, 117, 109, 98, 101, 114]⟩, .string ⟨#[110, 117, 109, 98, 101, 114]⟩] w fun e w' => e = .returned (.string (opK (pl q) .n .n).s) ∧ Below w.heap.size w w' := by
  obtain ⟨kd, nu, st, tx, op, ms, ma, mc, off, fx, att, bo, byy, ns, na, nc, sd, es, ea, ec, kc⟩ := q
  simp only at hop
  subst hop
  have HB0 := hid ((Below.refl w.heap.size w).alloc (Nat.le_refl _) (.cells #[.int .i64 kd, .int .i64 nu, .int .i64 st, .string tx, .int .i64 k, .slice ma ms.length mc, .int .i64 off, .bool fx, .int .i64 att, .bool bo, .int .i64 byy, .slice na ns.length nc, .int .i64 sd, .slice ea es.length ec, .int .i64 kc] 55))
  obtain ⟨c0, c1, c2, c3, c4, c5, c6, c7, c8, c9, c10, c11, c12, c13, c14⟩ := fifteen (heap_alloc_new w (.cells #[.int .i64 kd, .int .i64 nu, .int .i64 st, .string tx, .int .i64 k, .slice ma ms.length mc, .int .i64 off, .bool fx, .int .i64 att, .bool bo, .int .i64 byy, .slice na ns.length nc, .int .i64 sd, .slice ea es.length ec, .int .i64 kc] 55))
  have g0 := tabOp_at (ht.below HB0.out) k h2
  have hkk : (k : Int) < 15 := by omega
  have HF := hid (bd_facts k h1 (by omega))
  generalize bd k = z at *
  clear ht
  by_cases b0 : byy = 0
  · subst b0
    by_cases z3 : z < 3
    · have HR : Hid (opK (pl ⟨kd, nu, st, tx, k, ms, ma, mc, off, fx, att, bo, 0, ns, na, nc, sd, es, ea, ec, kc⟩) .n .n = .e) := by
        have hf := HF.out
        unfold Hid opK
        rw [if_neg (by decide)]
        rw [if_neg (by decide)]
        exact if_pos (.inr (by simp only [pl]; omega))
      clear HF
      go_enter Tryz.func69, Tryz.ntmps69
      go_wp2_with (first | (go_at_call 68; refine (isV_n _).mono ?_; rintro e w1 ⟨rfl, hw1⟩; have hw1' := hw1.symm; clear hw1; subst hw1'))
      go_ret
      exact ⟨ret_k .e HR.out rfl, HB0.out⟩
    · by_cases ze : z = 3
      · subst ze
        cases bo with
        | false =>
          have HR : Hid (opK (pl ⟨kd, nu, st, tx, k, ms, ma, mc, off, fx, att, false, 0, ns, na, nc, sd, es, ea, ec, kc⟩) .n .n = .e) := by
            have hf := HF.out
            unfold Hid opK
            rw [if_neg (by decide)]
            rw [if_neg (by decide)]
            rw [if_neg (by simp only [pl]; omega)]
            rw [if_neg (by decide)]
            exact if_pos ⟨by simp only [pl]; omega, rfl⟩
          clear HF
          go_enter Tryz.func69, Tryz.ntmps69
          go_wp2_with (first | (go_at_call 68; refine (isV_n _).mono ?_; rintro e w1 ⟨rfl, hw1⟩; have hw1' := hw1.symm; clear hw1; subst hw1'))
          go_ret
          exact ⟨ret_k .e HR.out rfl, HB0.out⟩
        | true =>
          have HR : Hid (opK (pl ⟨kd, nu, st, tx, k, ms, ma, mc, off, fx, att, true, 0, ns, na, nc, sd, es, ea, ec, kc⟩) .n .n = .n) := by
            have hf := HF.out
            unfold Hid opK
            rw [if_neg (by decide)]
            rw [if_neg (by decide)]
            rw [if_neg (by simp only [pl]; omega)]
            rw [if_neg (by decide)]
            exact if_neg (by simp [pl])
          clear HF
          go_enter Tryz.func69, Tryz.ntmps69
          go_wp2_with (first | (go_at_call 68; refine (isV_n _).mono ?_; rintro e w1 ⟨rfl, hw1⟩; have hw1' := hw1.symm; clear hw1; subst hw1'))
          go_ret
          exact ⟨ret_k .n HR.out rfl, HB0.out⟩
      · have HR : Hid (opK (pl ⟨kd, nu, st, tx, k, ms, ma, mc, off, fx, att, bo, 0, ns, na, nc, sd, es, ea, ec, kc⟩) .n .n = .n) := by
          have hf := HF.out
          unfold Hid opK
          rw [if_neg (by decide)]
          rw [if_neg (by decide)]
          rw [if_neg (by simp only [pl]; omega)]
          rw [if_neg (by decide)]
          exact if_neg (by simp only [pl]; omega)
        clear HF
        go_enter Tryz.func69, Tryz.ntmps69
        go_wp2_with (first | (go_at_call 68; refine (isV_n _).mono ?_; rintro e w1 ⟨rfl, hw1⟩; have hw1' := hw1.symm; clear hw1; subst hw1'))
        go_ret
        exact ⟨ret_k .n HR.out rfl, HB0.out⟩
  · have HR : Hid (opK (pl ⟨kd, nu, st, tx, k, ms, ma, mc, off, fx, att, bo, byy, ns, na, nc, sd, es, ea, ec, kc⟩) .n .n = .e) := by
      have hf := HF.out
      unfold Hid opK
      rw [if_neg (by decide)]
      rw [if_neg (by decide)]
      exact if_pos (.inl (show byy ≠ 0 from b0))
    clear HF
    go_enter Tryz.func69, Tryz.ntmps69
    go_wp2_with (first | (go_at_call 68; refine (isV_n _).mono ?_; rintro e w1 ⟨rfl, hw1⟩; have hw1' := hw1.symm; clear hw1; subst hw1'))
    go_ret
    exact ⟨ret_k .e HR.out rfl, HB0.out⟩
set_option maxHeartbeats 4000000 in
set_option maxRecDepth 10000 in
theorem op_nt (q : R) (k : Nat) (hop : q.op = k) (h1 : 1 ≤ k) (h2 : k < 15) (w : World) (ht : TabOp w) :
    Calls Tryz.prog 69 #[agR q, .string ⟨#[110, 117, 109, 98, 101, 114]⟩, .string ⟨#[116, 101, 120, 116]⟩] w fun e w' => e = .returned (.string (opK (pl q) .n .t).s) ∧ Below w.heap.size w w' := by
  obtain ⟨kd, nu, st, tx, op, ms, ma, mc, off, fx, att, bo, byy, ns, na, nc, sd, es, ea, ec, kc⟩ := q
  simp only at hop
  subst hop
  have HB0 := hid ((Below.refl w.heap.size w).alloc (Nat.le_refl _) (.cells #[.int .i64 kd, .int .i64 nu, .int .i64 st, .string tx, .int .i64 k, .slice ma ms.length mc, .int .i64 off, .bool fx, .int .i64 att, .bool bo, .int .i64 byy, .slice na ns.length nc, .int .i64 sd, .slice ea es.length ec, .int .i64 kc] 55))
  obtain ⟨c0, c1, c2, c3, c4, c5, c6, c7, c8, c9, c10, c11, c12, c13, c14⟩ := fifteen (heap_alloc_new w (.cells #[.int .i64 kd, .int .i64 nu, .int .i64 st, .string tx, .int .i64 k, .slice ma ms.length mc, .int .i64 off, .bool fx, .int .i64 att, .bool bo, .int .i64 byy, .slice na ns.length nc, .int .i64 sd, .slice ea es.length ec, .int .i64 kc] 55))
  have g0 := tabOp_at (ht.below HB0.out) k h2
  have hkk : (k : Int) < 15 := by omega
  have HF := hid (bd_facts k h1 (by omega))
  generalize bd k = z at *
  clear ht
  have HR : Hid (opK (pl ⟨kd, nu, st, tx, k, ms, ma, mc, off, fx, att, bo, byy, ns, na, nc, sd, es, ea, ec, kc⟩) .n .t = .e) := by
    have hf := HF.out
    unfold Hid opK
    exact if_pos (.inr rfl)
  clear HF
  go_enter Tryz.func69, Tryz.ntmps69
  go_wp2_with (first | (go_at_call 68; refine (isV_n _).mono ?_; rintro e w1 ⟨rfl, hw1⟩; have hw1' := hw1.symm; clear hw1; subst hw1') | (go_at_call 68; refine (isV_t _).mono ?_; rintro e w2 ⟨rfl, hw2⟩; have hw2' := hw2.symm; clear hw2; subst hw2'))
  go_ret
  exact ⟨ret_k .e HR.out rfl, HB0.out⟩
set_option maxHeartbeats 4000000 in
set_option maxRecDepth 10000 in
theorem op_nv (q : R) (k : Nat) (hop : q.op = k) (h1 : 1 ≤ k) (h2 : k < 15) (w : World) (ht : TabOp w) :
    Calls Tryz.prog 69 #[agR q, .string ⟨#[110, 117, 109, 98, 101, 114]⟩, .string ⟨#[118, 101, 99, 116, 111, 114]⟩] w fun e w' => e = .returned (.string (opK (pl q) .n .v).s) ∧ Below w.heap.size w w' := by
  obtain ⟨kd, nu, st, tx, op, ms, ma, mc, off, fx, att, bo, byy, ns, na, nc, sd, es, ea, ec, kc⟩ := q
  simp only at hop
  subst hop
  have HB0 := hid ((Below.refl w.heap.size w).alloc (Nat.le_refl _) (.cells #[.int .i64 kd, .int .i64 nu, .int .i64 st, .string tx, .int .i64 k, .slice ma ms.length mc, .int .i64 off, .bool fx, .int .i64 att, .bool bo, .int .i64 byy, .slice na ns.length nc, .int .i64 sd, .slice ea es.length ec, .int .i64 kc] 55))
  obtain ⟨c0, c1, c2, c3, c4, c5, c6, c7, c8, c9, c10, c11, c12, c13, c14⟩ := fifteen (heap_alloc_new w (.cells #[.int .i64 kd, .int .i64 nu, .int .i64 st, .string tx, .int .i64 k, .slice ma ms.length mc, .int .i64 off, .bool fx, .int .i64 att, .bool bo, .int .i64 byy, .slice na ns.length nc, .int .i64 sd, .slice ea es.length ec, .int .i64 kc] 55))
  have g0 := tabOp_at (ht.below HB0.out) k h2
  have hkk : (k : Int) < 15 := by omega
  have HF := hid (bd_facts k h1 (by omega))
  generalize bd k = z at *
  clear ht
  by_cases b0 : byy = 0
  · subst b0
    by_cases z3 : z < 3
    · have HR : Hid (opK (pl ⟨kd, nu, st, tx, k, ms, ma, mc, off, fx, att, bo, 0, ns, na, nc, sd, es, ea, ec, kc⟩) .n .v = .e) := by
        have hf := HF.out
        unfold Hid opK
        rw [if_neg (by decide)]
        rw [if_neg (by decide)]
        exact if_pos (.inr (by simp only [pl]; omega))
      clear HF
      go_enter Tryz.func69, Tryz.ntmps69
      go_wp2_with (first | (go_at_call 68; refine (isV_n _).mono ?_; rintro e w1 ⟨rfl, hw1⟩; have hw1' := hw1.symm; clear hw1; subst hw1') | (go_at_call 68; refine (isV_v _).mono ?_; rintro e w2 ⟨rfl, hw2⟩; have hw2' := hw2.symm; clear hw2; subst hw2'))
      go_ret
      exact ⟨ret_k .e HR.out rfl, HB0.out⟩
    · have HR : Hid (opK (pl ⟨kd, nu, st, tx, k, ms, ma, mc, off, fx, att, bo, 0, ns, na, nc, sd, es, ea, ec, kc⟩) .n .v = .v) := by
        have hf := HF.out
        unfold Hid opK
        rw [if_neg (by decide)]
        rw [if_neg (by decide)]
        rw [if_neg (by simp only [pl]; omega)]
        exact if_pos (by decide)
      clear HF
      go_enter Tryz.func69, Tryz.ntmps69
      go_wp2_with (first | (go_at_call 68; refine (isV_n _).mono ?_; rintro e w1 ⟨rfl, hw1⟩; have hw1' := hw1.symm; clear hw1; subst hw1') | (go_at_call 68; refine (isV_v _).mono ?_; rintro e w2 ⟨rfl, hw2⟩; have hw2' := hw2.symm; clear hw2; subst hw2'))
      go_ret
      exact ⟨ret_k .v HR.out rfl, HB0.out⟩
  · have HR : Hid (opK (pl ⟨kd, nu, st, tx, k, ms, ma, mc, off, fx, att, bo, byy, ns, na, nc, sd, es, ea, ec, kc⟩) .n .v = .e) := by
      have hf := HF.out
      unfold Hid opK
      rw [if_neg (by decide)]
      rw [if_neg (by decide)]
      exact if_pos (.inl (show byy ≠ 0 from b0))
    clear HF
    go_enter Tryz.func69, Tryz.ntmps69
    go_wp2_with (first | (go_at_call 68; refine (isV_n _).mono ?_; rintro e w1 ⟨rfl, hw1⟩; have hw1' := hw1.symm; clear hw1; subst hw1') | (go_at_call 68; refine (isV_v _).mono ?_; rintro e w2 ⟨rfl, hw2⟩; have hw2' := hw2.symm; clear hw2; subst hw2'))
    go_ret
    exact ⟨ret_k .e HR.out rfl, HB0.out⟩
set_option maxHeartbeats 4000000 in
set_option maxRecDepth 10000 in
theorem op_nr (q : R) (k : Nat) (hop : q.op = k) (h1 : 1 ≤ k) (h2 : k < 15) (w : World) (ht : TabOp w) :
    Calls Tryz.prog 69 #[agR q, .string ⟨#[110, 117, 109, 98, 101, 114]⟩, .string ⟨#[114, 97, 110, 103, 101]⟩] w fun e w' => e = .returned (.string (opK (pl q) .n .r).s) ∧ Below w.heap.size w w' := by
  obtain ⟨kd, nu, st, tx, op, ms, ma, mc, off, fx, att, bo, byy, ns, na, nc, sd, es, ea, ec, kc⟩ := q
  simp only at hop
  subst hop
  have HB0 := hid ((Below.refl w.heap.size w).alloc (Nat.le_refl _) (.cells #[.int .i64 kd, .int .i64 nu, .int .i64 st, .string tx, .int .i64 k, .slice ma ms.length mc, .int .i64 off, .bool fx, .int .i64 att, .bool bo, .int .i64 byy, .slice na ns.length nc, .int .i64 sd, .slice ea es.length ec, .int .i64 kc] 55))
  obtain ⟨c0, c1, c2, c3, c4, c5, c6, c7, c8, c9, c10, c11, c12, c13, c14⟩ := fifteen (heap_alloc_new w (.cells #[.int .i64 kd, .int .i64 nu, .int .i64 st, .string tx, .int .i64 k, .slice ma ms.length mc, .int .i64 off, .bool fx, .int .i64 att, .bool bo, .int .i64 byy, .slice na ns.length nc, .int .i64 sd, .slice ea es.length ec, .int .i64 kc] 55))
  have g0 := tabOp_at (ht.below HB0.out) k h2
  have hkk : (k : Int) < 15 := by omega
  have HF := hid (bd_facts k h1 (by omega))
  generalize bd k = z at *
  clear ht
  have HR : Hid (opK (pl ⟨kd, nu, st, tx, k, ms, ma, mc, off, fx, att, bo, byy, ns, na, nc, sd, es, ea, ec, kc⟩) .n .r = .e) := by
    have hf := HF.out
    unfold Hid opK
    exact if_pos (.inr rfl)
  clear HF
  go_enter Tryz.func69, Tryz.ntmps69
  go_wp2_with (first | (go_at_call 68; refine (isV_n _).mono ?_; rintro e w1 ⟨rfl, hw1⟩; have hw1' := hw1.symm; clear hw1; subst hw1') | (go_at_call 68; refine (isV_r _).mono ?_; rintro e w2 ⟨rfl, hw2⟩; have hw2' := hw2.symm; clear hw2; subst hw2'))
  go_ret
  exact ⟨ret_k .e HR.out rfl, HB0.out⟩
theorem f69 (q : R) (a b : K) (h1 : 1 ≤ q.op) (h2 : q.op ≤ 14) (w : World) (ht : TabOp w) :
    Calls Tryz.prog 69 #[agR q, .string a.s, .string b.s] w fun e w' => e = .returned (.string (opK (pl q) a b).s) ∧ Below w.heap.size w w' := by
  obtain ⟨k, hk⟩ : ∃ k : Nat, q.op = k := ⟨q.op.toNat, by omega⟩
  have g1 : 1 ≤ k := by omega
  have g2 : k < 15 := by omega
  cases a
  · exact op_ex q k b hk g1 g2 w ht
  · cases b
    · exact op_ne q k hk g1 g2 w ht
    · exact op_nn q k hk g1 g2 w ht
    · exact op_nt q k hk g1 g2 w ht
    · exact op_nv q k hk g1 g2 w ht
    · exact op_nr q k hk g1 g2 w ht
  · exact op_tx q k b hk g1 g2 w ht
  · cases b
    · exact op_ve q k hk g1 g2 w ht
    · exact op_vn q k hk g1 g2 w ht
    · exact op_vt q k hk g1 g2 w ht
    · exact op_vv q k hk g1 g2 w ht
    · exact op_vr q k hk g1 g2 w ht
  · exact op_rx q k b hk g1 g2 w ht
end Go.Proofs.YtbdlahhejfamhaaGreatDoor.Qry
