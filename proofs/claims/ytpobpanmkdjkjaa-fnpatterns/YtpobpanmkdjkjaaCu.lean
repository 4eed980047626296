/- The cursor that draws: what next, pick and one leave. -/
import Derived.Test.YtpobpanmkdjkjaaPat
import Derived.OneCell
import Derived.Below
import Derived.OwnWalk
import Derived.Laws.BitsAllLaws
namespace Go.Proofs.Ytpobpanmkdjkjaa.Cur
open Go.RowKit Go.Proofs.Ytpobpanmkdjkjaa.Pat

theorem grownBy_trans {a b c : World} {r : Option Nat} (h : a.grownBy b r) (k : b.grownBy c r) : a.grownBy c r :=
  ⟨k.os.trans h.os, k.tape.trans h.tape, k.output.trans h.output, Nat.le_trans h.size k.size, fun i hi hne => (k.block i (Nat.lt_of_lt_of_le hi h.size) hne).trans (h.block i hi hne)⟩
theorem grown_setRow {w w' : World} {g o : Nat} (h : w.grownBy w' (some g)) (u : Value) : w.grownBy (w'.setCell ⟨g, o, none⟩ u) (some g) :=
  ⟨h.os, h.tape, h.output, by simpa using h.size, fun k hk hne => (Below.heap_setCell w' ⟨g, o, none⟩ u k (by intro e; exact hne (by simp [e]))).trans (h.block k hk hne)⟩
theorem grown_alloc {w w' : World} {r : Option Nat} (h : w.grownBy w' r) (o : Obj) : w.grownBy (w'.alloc o) r :=
  ⟨h.os, h.tape, h.output, by have := h.size; simp; omega, fun k hk hne => (Below.heap_alloc w' o k (Nat.lt_of_lt_of_le hk h.size)).trans (h.block k hk hne)⟩
theorem grown_drewN {w w' : World} {r : Option Nat} (h : w.grownBy w' r) (q : Nat) : w.grownBy (w'.drewN q) r := ⟨h.os, h.tape, h.output, h.size, h.block⟩
theorem grown_below {w w' : World} (r : Option Nat) (h : Below w.heap.size w w') : w.grownBy w' r := ⟨h.os, h.tape, h.output, h.size, fun k hk _ => h.block k hk⟩
/-- What turns only what is new, or nothing that was there but R. -/
theorem grown_new {w a b : World} {R : Nat} {row : Option Nat} (h : w.grownBy a (some R)) (k : a.grownBy b row) (hr : ∀ g, row = some g → w.heap.size ≤ g) : w.grownBy b (some R) :=
  ⟨k.os.trans h.os, k.tape.trans h.tape, k.output.trans h.output, Nat.le_trans h.size k.size, fun i hi hne => (k.block i (Nat.lt_of_lt_of_le hi h.size) (fun e => by have := hr i e.symm; omega)).trans (h.block i hi hne)⟩

/-- The cursor at block R over n bytes that lie below B0: its place is at most lim. -/
structure Cu (B0 R : Nat) (a : Option Addr) (n c lim : Nat) (w : World) : Prop where
  box : ∃ (t : Nat) (seed : Int), t ≤ lim ∧ 0 ≤ seed ∧ seed ≤ 18446744073709551615 ∧ w.heap[R]? = some (.cells #[.slice a n c, .int .i64 t, .int .u64 seed] 48 (0, 0))
  data : n = 0 ∨ ∃ b off, a = some ⟨b, off, none⟩ ∧ b < B0 ∧ b < w.heap.size ∧ ∀ i, i < n → ∃ z : Int, 0 ≤ z ∧ z ≤ 255 ∧ w.cell? ⟨b, off + i, none⟩ = some (.int .u8 z)
  le : B0 ≤ R

theorem Cu.mono {B0 R n c lim lim' : Nat} {a : Option Addr} {w : World} (h : Cu B0 R a n c lim w) (hl : lim ≤ lim') : Cu B0 R a n c lim' w := by
  obtain ⟨t, seed, h1, h2⟩ := h.box
  exact ⟨⟨t, seed, by omega, h2⟩, h.data, h.le⟩
/-- Only block R may have turned. -/
theorem Cu.moved {B0 R n c lim lim' : Nat} {a : Option Addr} {w w' : World} (h : Cu B0 R a n c lim w) (hg : w.grownBy w' (some R))
    (hb : ∃ (t : Nat) (seed : Int), t ≤ lim' ∧ 0 ≤ seed ∧ seed ≤ 18446744073709551615 ∧ w'.heap[R]? = some (.cells #[.slice a n c, .int .i64 t, .int .u64 seed] 48 (0, 0))) : Cu B0 R a n c lim' w' := by
  refine ⟨hb, ?_, h.le⟩
  rcases h.data with h0 | ⟨b, off, h1, h2, h3, h4⟩
  · exact .inl h0
  · refine .inr ⟨b, off, h1, h2, Nat.lt_of_lt_of_le h3 hg.size, fun i hi => ?_⟩
    obtain ⟨z, z0, z1, hz⟩ := h4 i hi
    exact ⟨z, z0, z1, hg.cell hz (by have := h.le; simp; omega)⟩

theorem three0 {w : World} {b : Nat} {u v x : Value} {t : TypeId} (h : w.heap[b]? = some (.cells #[u, v, x] t (0, 0))) : w.cell? ⟨b, 0, none⟩ = some u := by simp [World.cell?, h]
theorem three1 {w : World} {b : Nat} {u v x : Value} {t : TypeId} (h : w.heap[b]? = some (.cells #[u, v, x] t (0, 0))) : w.cell? ⟨b, 1, none⟩ = some v := by simp [World.cell?, h]
theorem three2 {w : World} {b : Nat} {u v x : Value} {t : TypeId} (h : w.heap[b]? = some (.cells #[u, v, x] t (0, 0))) : w.cell? ⟨b, 2, none⟩ = some x := by simp [World.cell?, h]
theorem threef {w : World} {b o : Nat} {u v x : Value} {t : TypeId} (h : w.heap[b]? = some (.cells #[u, v, x] t (0, 0))) : w.frozen? ⟨b, o, none⟩ = false := by simp [World.frozen?, h]
theorem three_set1 {w : World} {b : Nat} {u v x v' : Value} {t : TypeId} (h : w.heap[b]? = some (.cells #[u, v, x] t (0, 0))) : (w.setCell ⟨b, 1, none⟩ v').heap[b]? = some (.cells #[u, v', x] t (0, 0)) := by
  have hlt := lt_of_block h
  have h' : w.heap[b] = .cells #[u, v, x] t (0, 0) := by simpa [Array.getElem?_eq_getElem hlt] using h
  show (w.heap.modify b _)[b]? = _
  rw [Array.getElem?_eq_getElem (by simpa using hlt), Array.getElem_modify_self, h']
  rfl
theorem three_set2 {w : World} {b : Nat} {u v x x' : Value} {t : TypeId} (h : w.heap[b]? = some (.cells #[u, v, x] t (0, 0))) : (w.setCell ⟨b, 2, none⟩ x').heap[b]? = some (.cells #[u, v, x'] t (0, 0)) := by
  have hlt := lt_of_block h
  have h' : w.heap[b] = .cells #[u, v, x] t (0, 0) := by simpa [Array.getElem?_eq_getElem hlt] using h
  show (w.heap.modify b _)[b]? = _
  rw [Array.getElem?_eq_getElem (by simpa using hlt), Array.getElem_modify_self, h']
  rfl
theorem grown_set {w w' : World} {R o : Nat} (h : w.grownBy w' (some R)) (u : Value) : w.grownBy (w'.setCell ⟨R, o, none⟩ u) (some R) := grown_setRow h u

theorem wrap_lo (x : Int) : 0 ≤ IntKind.u64.wrap x := by rw [IntKind.wrap_u64]; omega
theorem wrap_hi (x : Int) : IntKind.u64.wrap x ≤ 18446744073709551615 := by rw [IntKind.wrap_u64]; omega

theorem and_255 (x : Int) (h0 : 0 ≤ x) (h1 : x ≤ 18446744073709551615) : bits .and .u64 x 255 = x % 256 := by
  rw [u64_and x 255 h0 (by omega) (by omega) (by omega), show (255 : Int).toNat = 255 from rfl, nat_mask8]
  omega

theorem next_end {w : World} {R n c q1 q2 t : Nat} {a : Option Addr} {seed sd : Int} (hR : w.heap[R]? = some (.cells #[.slice a n c, .int .i64 t, .int .u64 seed] 48 (0, 0))) :
    ((((w.drewN q1).setCell ⟨R, 1, none⟩ (.int .i64 ((t : Int) + 1))).setCell ⟨R, 2, none⟩ (.int .u64 sd)).drewN q2).heap[R]? = some (.cells #[.slice a n c, .int .i64 ((t + 1 : Nat) : Int), .int .u64 sd] 48 (0, 0)) ∧
    w.grownBy ((((w.drewN q1).setCell ⟨R, 1, none⟩ (.int .i64 ((t : Int) + 1))).setCell ⟨R, 2, none⟩ (.int .u64 sd)).drewN q2) (some R) := by
  constructor
  · have h0 : (w.drewN q1).heap[R]? = some (.cells #[.slice a n c, .int .i64 t, .int .u64 seed] 48 (0, 0)) := hR
    exact three_set2 (three_set1 h0)
  · exact grown_drewN (grown_set (grown_set (grown_drewN (World.grownBy.refl _ _) _) _) _) _
theorem and_bd (x : Int) (h0 : 0 ≤ x) (h1 : x ≤ 18446744073709551615) : 0 ≤ wrap64 (bits .and .u64 x 255) ∧ wrap64 (bits .and .u64 x 255) ≤ 255 := by
  rw [and_255 x h0 h1]; unfold wrap64; omega
theorem shr_u64 (x d : Int) (hd : 1 ≤ d) (h0 : 0 ≤ x) (h1 : x ≤ 18446744073709551615) : 0 ≤ x / d ∧ x / d ≤ 18446744073709551615 :=
  ⟨Int.ediv_nonneg h0 (by omega), Int.le_trans (Int.ediv_le_self _ h0) h1⟩

set_option maxHeartbeats 2000000 in
theorem f69 (B0 R n c lim : Nat) (a : Option Addr) (w : World) (h : Cu B0 R a n c lim w) (hl : lim ≤ 4503599627370496) (_hn : n ≤ 1048576) :
    Calls Try.prog 69 #[.pointer (some ⟨R, 0, none⟩)] w fun e w' => ∃ x : Int, e = .returned (.int .i64 x) ∧ 0 ≤ x ∧ x ≤ 255 ∧ Cu B0 R a n c (lim + 1) w' ∧ w.grownBy w' (some R) := by
  obtain ⟨t, seed, ht, hs0, hs1, hR⟩ := h.box
  have HC := hid h
  have r0 := three0 hR
  have r1 := three1 hR
  have r2 := three2 hR
  have rf1 := threef (o := 1) hR
  have rf2 := threef (o := 2) hR
  have HR := hid hR
  clear hR
  by_cases htn : t < n
  · rcases h.data with h0 | ⟨b, off, rfl, hb1, hb2, hb3⟩
    · omega
    obtain ⟨z, z0, z1, hz⟩ := hb3 t htn
    have nR : b ≠ R := by have := h.le; omega
    clear hb3 h
    go_enter Try.func69, Try.ntmps69
    go_wp2
    go_quiet (fail)
    go_wp2
    go_quiet (fail)
    go_wp2
    go_quiet (fail)
    go_wp2
    go_ret
    obtain ⟨e1, e2⟩ := next_end HR.out
    exact ⟨z, rfl, z0, z1, HC.out.moved e2 ⟨t + 1, _, by omega, wrap_lo _, wrap_hi _, e1⟩, e2⟩
  · clear h
    go_enter Try.func69, Try.ntmps69
    go_wp2
    go_quiet (fail)
    go_wp2
    go_quiet (fail)
    go_wp2
    go_ret
    obtain ⟨e1, e2⟩ := next_end HR.out
    obtain ⟨v0, v1⟩ := and_bd _ (shr_u64 _ 1099511627776 (by omega) (wrap_lo _) (wrap_hi _)).1 (shr_u64 _ 1099511627776 (by omega) (wrap_lo _) (wrap_hi _)).2
    exact ⟨_, rfl, v0, v1, HC.out.moved e2 ⟨t + 1, _, by omega, wrap_lo _, wrap_hi _, e1⟩, e2⟩

theorem f47 (B0 R n c lim : Nat) (a : Option Addr) (k : Int) (w : World) (h : Cu B0 R a n c lim w) (hl : lim ≤ 4503599627370000) (hn : n ≤ 1048576) (hk0 : -1000000 ≤ k) (hk1 : k ≤ 1000000) :
    Calls Try.prog 47 #[.pointer (some ⟨R, 0, none⟩), .int .i64 k] w fun e w' => ∃ x : Int, e = .returned (.int .i64 x) ∧ 0 ≤ x ∧ (x = 0 ∨ x < k) ∧ Cu B0 R a n c (lim + 2) w' ∧ w.grownBy w' (some R) := by
  by_cases h1 : k ≤ 1
  · have HC := hid h
    clear h
    go_enter Try.func47, Try.ntmps47
    go_wp2
    go_ret
    exact ⟨0, rfl, by omega, .inl rfl, HC.out.mono (by omega), World.grownBy.refl _ _⟩
  · by_cases h2 : 200 < k
    · have HC := hid h
      clear h
      go_enter Try.func47, Try.ntmps47
      go_wp2_with fail
      refine (f69 B0 R n c lim a _ HC.out (by omega) hn).mono ?_
      rintro e w1 ⟨x, rfl, x0, x1, hc1, hg1⟩
      have HC1 := hid hc1
      clear hc1
      go_wp2_with fail
      refine (f69 B0 R n c (lim + 1) a _ HC1.out (by omega) hn).mono ?_
      rintro e w2 ⟨y, rfl, y0, y1, hc2, hg2⟩
      have HG := hid (grownBy_trans hg1 hg2)
      have HC2 := hid hc2
      clear hc2 hg1 hg2
      go_wp2
      go_ret
      exact ⟨_, rfl, Int.emod_nonneg _ (by omega), .inr (Int.emod_lt_of_pos _ (by omega)), HC2.out, HG.out⟩
    · have HC := hid h
      clear h
      go_enter Try.func47, Try.ntmps47
      go_wp2_with fail
      refine (f69 B0 R n c lim a _ HC.out (by omega) hn).mono ?_
      rintro e w1 ⟨x, rfl, x0, x1, hc1, hg1⟩
      have HC1 := hid hc1
      have HG := hid hg1
      clear hc1 hg1
      go_wp2
      go_ret
      exact ⟨_, rfl, Int.emod_nonneg _ (by omega), .inr (Int.emod_lt_of_pos _ (by omega)), HC1.out.mono (by omega), HG.out⟩

theorem f25 (B0 R n c lim : Nat) (a : Option Addr) (k : Int) (w : World) (h : Cu B0 R a n c lim w) (hl : lim ≤ 4503599627370000) (hn : n ≤ 1048576) (hk0 : -1000000 ≤ k) (hk1 : k ≤ 1000000) :
    Calls Try.prog 25 #[.pointer (some ⟨R, 0, none⟩), .int .i64 k] w fun e w' => ∃ x : Bool, e = .returned (.bool x) ∧ Cu B0 R a n c (lim + 2) w' ∧ w.grownBy w' (some R) := by
  have HC := hid h
  clear h
  go_enter Try.func25, Try.ntmps25
  go_wp2_with fail
  refine (f47 B0 R n c lim a k _ HC.out hl hn hk0 hk1).mono ?_
  rintro e w1 ⟨x, rfl, x0, x1, hc1, hg1⟩
  have HC1 := hid hc1
  have HG := hid hg1
  clear hc1 hg1 x1
  go_wp2
  go_ret
  exact ⟨_, rfl, HC1.out, HG.out⟩

end Go.Proofs.Ytpobpanmkdjkjaa.Cur
