/- The program's reader of bits as the first part of a greater struct. -/
import Derived.Test.YteblbcbfaomdmaaDoorTake
namespace Go.Proofs.YteblbcbfaomdmaaDoor.Bts
open Go.RowKit Go.Proofs.YteblbcbfaomdmaaDoor.Byt

theorem qset {w : World} {b o : Nat} {t : TypeId} {cs : Array Value} {q : Nat × Nat} {x : Value} (h : w.heap[b]? = some (.cells cs t q)) : (w.setCell ⟨b, o, none⟩ x).heap[b]? = some (.cells (cs.setIfInBounds o x) t q) := by
  have hlt : b < w.heap.size := (Array.getElem?_eq_some_iff.1 h).1
  have h' : w.heap[b] = .cells cs t q := by simpa [Array.getElem?_eq_getElem hlt] using h
  show (w.heap.modify b _)[b]? = _
  rw [Array.getElem?_eq_getElem (by simpa using hlt), Array.getElem_modify_self, h']
  rfl
theorem qcell {w : World} {b : Nat} {t : TypeId} {cs : Array Value} {q : Nat × Nat} (h : w.heap[b]? = some (.cells cs t q)) (o : Nat) : w.cell? ⟨b, o, none⟩ = cs[o]? := by
  unfold World.cell?; simp only [h]; rfl
theorem qfroz {w : World} {b : Nat} {t : TypeId} {cs : Array Value} (h : w.heap[b]? = some (.cells cs t (0, 0))) (o : Nat) : w.frozen? ⟨b, o, none⟩ = false := by simp [World.frozen?, h]
theorem qgset {w w' : World} {R o : Nat} (h : w.grownBy w' (some R)) (u : Value) : w.grownBy (w'.setCell ⟨R, o, none⟩ u) (some R) :=
  ⟨h.os, h.tape, h.output, by simpa using h.size, fun i hi hne => (Below.heap_setCell w' ⟨R, o, none⟩ u i (by intro e; exact hne (by rw [e]))).trans (h.block i hi hne)⟩
theorem qgdrew {w w' : World} {r : Option Nat} (h : w.grownBy w' r) (q : Nat) : w.grownBy (w'.drewN q) r := ⟨h.os, h.tape, h.output, h.size, h.block⟩

set_option maxHeartbeats 2000000 in
theorem f79q (a : Option Addr) (n c t m R : Nat) (zs : List Int) (x2 x3 x4 x5 x6 x7 x8 : Value) (ty : TypeId) (w : World) (hn : zs.length = n) (hb : n ≤ 1048576) (h255 : ∀ j, 0 ≤ zs.getD j 0 ∧ zs.getD j 0 ≤ 255)
    (hr : zs = [] ∨ ∃ b off, a = some ⟨b, off, none⟩ ∧ b < w.heap.size ∧ b ≠ R ∧ ∀ i, i < zs.length → w.cell? ⟨b, off + i, none⟩ = some (.int .u8 (zs.getD i 0)))
    (hm : m ≤ 64) (htm : t + m ≤ 8 * n) (hbox : w.heap[R]? = some (.cells #[.slice a n c, .int .i64 t, x2, x3, x4, x5, x6, x7, x8] ty (0, 0))) :
    Calls Tryd.prog 79 #[.pointer (some ⟨R, 0, none⟩), .int .i64 m] w fun e w' => e = .returned (.int .u64 (tk zs t m)) ∧ w'.heap[R]? = some (.cells #[.slice a n c, .int .i64 ((t + m : Nat) : Int), x2, x3, x4, x5, x6, x7, x8] ty (0, 0)) ∧ w.grownBy w' (some R) := by
  have HN := hid hn
  have HF := hid h255
  have HBX := hid hbox
  have HRD : Hid (∀ wr, w.grownBy wr (some R) → zs = [] ∨ ∃ b off, a = some ⟨b, off, none⟩ ∧ ∀ i, i < zs.length → wr.cell? ⟨b, off + i, none⟩ = some (.int .u8 (zs.getD i 0))) := by
    intro wr hg
    rcases hr with h | ⟨b, off, h1, h2, h3, h4⟩
    · exact .inl h
    · exact .inr ⟨b, off, h1, fun i hi => hg.cell (h4 i hi) (by simpa using h3)⟩
  clear hn h255 hbox hr
  go_enter Tryd.func79, Tryd.ntmps79
  go_wp2
  go_loopw [1, 5] (fun sn sw wr => ∃ (y k : Nat), k + y = m ∧ sn = .int .i64 k ∧ sw = .int .u64 (tk zs t y) ∧ wr.heap[R]? = some (.cells #[.slice a n c, .int .i64 ((t + y : Nat) : Int), x2, x3, x4, x5, x6, x7, x8] ty (0, 0)) ∧ w.grownBy wr (some R))
    (fun sn _ _ => (intOf sn).toNat)
  case atStart => exact ⟨0, m, rfl, rfl, rfl, HBX.out, ⟨rfl, rfl, rfl, Nat.le_refl _, fun _ _ _ => rfl⟩⟩
  case round =>
    obtain ⟨y, k, hky, rfl, rfl, hbx, hgr⟩ := hrel
    have g0 : wr.cell? ⟨R, 0, none⟩ = some (.slice a n c) := qcell hbx 0
    have g1 : wr.cell? ⟨R, 1, none⟩ = some (.int .i64 ((t + y : Nat) : Int)) := qcell hbx 1
    have gf : wr.frozen? ⟨R, 1, none⟩ = false := qfroz hbx 1
    have HB := hid hbx
    have HG := hid hgr
    have hr := HRD.out wr hgr
    clear hbx hgr
    by_cases hk : 0 < k
    · rcases hr with hr | ⟨b, off, rfl, hc⟩
      · exact absurd HN.out (by rw [hr]; simp; omega)
      obtain ⟨T, hT⟩ : ∃ T, T = t + y := ⟨_, rfl⟩
      rw [← hT] at g1
      have hTn : T / 8 < n := by omega
      have hcx := hc (T / 8) (by rw [HN.out]; exact hTn)
      obtain ⟨z0, z1⟩ := HF.out (T / 8)
      obtain ⟨z, hz⟩ : ∃ z, z = zs.getD (T / 8) 0 := ⟨_, rfl⟩
      rw [← hz] at hcx z0 z1
      have HZ := hid hz
      have HT := hid hT
      have HK := hid hky
      clear hz hT hc hky
      have hTb : T ≤ 8388672 := by have := HT.out; have := HK.out; omega
      have x0 := tk_lo zs t y
      have x1 : tk zs t y ≤ 18446744073709551615 := by have := tk_hi zs t y; have := p64 y (by have := HK.out; omega); omega
      generalize hX : tk zs t y = X at *
      have HX := hid hX
      clear hX
      have hk64 : k ≤ 64 := by have := HK.out; omega
      by_cases hmin : k ≤ 8 - T % 8
      · have HS := hid (take_step zs t y T k z HT.out HZ.out z0 z1 hmin (by have := HK.out; omega))
        rw [HX.out] at HS
        go_wp2
        go_quiet ((go_at_call 47; exact Calls.quiet_of_same (f47i _ _ (by omega) (by omega))))
        go_wp2
        go_roundw
        case rel => exact ⟨y + k, 0, by have := HK.out; omega, rfl, by rw [HS.out], by rw [show t + (y + k) = T + k from by have := HT.out; omega]; exact qset (w := wr.drewN nq) HB.out, qgset (qgdrew HG.out nq) _⟩
        case measure => simp [intOf]; omega
      · have HS := hid (take_step' zs t y T z HT.out HZ.out z0 z1 (by have := HK.out; omega))
        rw [HX.out] at HS
        go_wp2
        go_quiet ((go_at_call 47; exact Calls.quiet_of_same (f47i _ _ (by omega) (by omega))))
        go_wp2
        go_roundw
        case rel => exact ⟨y + (8 - T % 8), k - (8 - T % 8), by have := HK.out; omega, by go_num, by rw [HS.out], by rw [show ((t + (y + (8 - T % 8)) : Nat) : Int) = (T : Int) + (8 - (T : Int) % 8) from by have := HT.out; omega]; exact qset (w := wr.drewN nq) HB.out, qgset (qgdrew HG.out nq) _⟩
        case measure => simp [intOf]; omega
    · go_wp2
      go_ret
      have e1 : k = 0 := by omega
      subst e1
      rw [Nat.zero_add] at hky
      subst hky
      exact ⟨rfl, HB.out, HG.out⟩
end Go.Proofs.YteblbcbfaomdmaaDoor.Bts
