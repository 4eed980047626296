/- What l1Add and AddBits of the model come to. -/
import Derived.Test.YteblbcbfaomdmaaDoorPut1
import Derived.Laws.AppendOwnNone
namespace Go.Proofs.YteblbcbfaomdmaaDoor.Bts
open Go.RowKit Go.Proofs.YteblbcbfaomdmaaDoor.Byt

theorem two_set0 {w : World} {b : Nat} {u v u' : Value} {t : TypeId} (h : w.heap[b]? = some (.cells #[u, v] t (0, 0))) : (w.setCell ⟨b, 0, none⟩ u').heap[b]? = some (.cells #[u', v] t (0, 0)) := by
  have hlt := lt_of_block h
  have h' : w.heap[b] = .cells #[u, v] t (0, 0) := by simpa [Array.getElem?_eq_getElem hlt] using h
  show (w.heap.modify b _)[b]? = _
  rw [Array.getElem?_eq_getElem (by simpa using hlt), Array.getElem_modify_self, h']
  rfl
theorem two_set1 {w : World} {b : Nat} {u v v' : Value} {t : TypeId} (h : w.heap[b]? = some (.cells #[u, v] t (0, 0))) : (w.setCell ⟨b, 1, none⟩ v').heap[b]? = some (.cells #[u, v'] t (0, 0)) := by
  have hlt := lt_of_block h
  have h' : w.heap[b] = .cells #[u, v] t (0, 0) := by simpa [Array.getElem?_eq_getElem hlt] using h
  show (w.heap.modify b _)[b]? = _
  rw [Array.getElem?_eq_getElem (by simpa using hlt), Array.getElem_modify_self, h']
  rfl
theorem heap_other {w : World} {p : Addr} {b : Nat} {o : Obj} (u : Value) (hne : b ≠ p.block) (h : w.heap[b]? = some o) : (w.setCell p u).heap[b]? = some o :=
  (Below.heap_setCell w p u b hne).trans h

theorem own_ne' {w : World} {base n X t : Nat} {v : Value} {xs : List Value} {cs : Array Value} {f : Nat × Nat} (h : w.ownsRow base 5 1 v n xs) (hX : w.heap[X]? = some (.cells cs t f)) (ht : t ≠ 5) : v.ownBlock ≠ some X := by
  intro e
  obtain ⟨cur, hc⟩ := own_type h e
  rw [hc] at hX
  simp only [Option.some.injEq, Obj.cells.injEq] at hX
  exact ht hX.2.1.symm

theorem f82 (a : Option Addr) (n cap s B : Nat) (bit : Int) (zs : List Int) (w : World) (hown : w.ownsRow B 5 1 (.slice a n cap) n (zs.map (Value.int .u8))) (hG : G zs s) (hs : s ≤ 80000) (hB : B ≤ w.heap.size) (hbit : bit = 0 ∨ bit = 1) :
    Calls Tryd.prog 82 #[.agg #[.slice a n cap, .int .i64 s], .int .i64 bit] w fun e w' =>
      ∃ a' n' cap', e = .returned (.agg #[.slice a' n' cap', .int .i64 ((s + 1 : Nat) : Int)]) ∧ w'.ownsRow B 5 1 (.slice a' n' cap') n' ((putq zs s 1 bit).map (Value.int .u8)) ∧ Keeps B w w' := by
  have hn : zs.length = n := by have h := hown.1; rw [List.length_map, Nat.mul_one] at h; exact h
  by_cases h8 : s % 8 = 0
  · refine (f82b a n cap s B bit zs w hown hG h8 hs hn hB hbit).mono ?_
    rintro e w' ⟨g, cap', h1, h2, h3⟩
    exact ⟨_, _, _, h1, h2, h3⟩
  · obtain ⟨g, c, h1, _⟩ := Put.own_shape hown (by have := hG.len; omega)
    simp only [Value.slice.injEq, true_and] at h1
    obtain ⟨rfl, rfl⟩ := h1
    refine (f82a g n cap s B bit zs w hown hG h8 hs hn hB hbit).mono ?_
    rintro e w' ⟨h1, h2, h3⟩
    exact ⟨_, _, _, h1, h2, h3⟩

theorem and_one64 (x : Int) (h0 : 0 ≤ x) (h1 : x ≤ 18446744073709551615) : bits .and .u64 x 1 = x % 2 := by
  rw [u64_and x 1 h0 (by omega) (by omega) (by omega), show (1 : Int).toNat = 1 from rfl, nat_mask1]
  omega

theorem ediv_u64 (U : Int) (e : Nat) (h0 : 0 ≤ U) (h1 : U ≤ 18446744073709551615) : 0 ≤ U / 2 ^ e ∧ U / 2 ^ e ≤ 18446744073709551615 := by
  have hp := two_pow_pos e
  generalize (2 : Int) ^ e = p at *
  exact ⟨Int.ediv_nonneg h0 (by omega), Int.le_trans (Int.ediv_le_self _ h0) h1⟩

set_option maxHeartbeats 2000000 in
theorem f66 (a : Option Addr) (n cap s m B : Nat) (v : Int) (zs : List Int) (w : World) (hown : w.ownsRow B 5 1 (.slice a n cap) n (zs.map (Value.int .u8))) (hG : G zs s) (hs : s + m ≤ 80000) (hm : m ≤ 64) (hB : B ≤ w.heap.size) :
    Calls Tryd.prog 66 #[.agg #[.slice a n cap, .int .i64 s], .int .i64 v, .int .i64 m] w fun e w' =>
      ∃ a' n' cap', e = .returned (.agg #[.slice a' n' cap', .int .i64 ((s + m : Nat) : Int)]) ∧ w'.ownsRow B 5 1 (.slice a' n' cap') n' ((addL zs s (IntKind.u64.wrap v) m m).map (Value.int .u8)) ∧ Keeps B w w' := by
  obtain ⟨U, hU⟩ : ∃ U, U = IntKind.u64.wrap v := ⟨_, rfl⟩
  have hU0 : 0 ≤ U := by rw [hU, IntKind.wrap_u64]; omega
  have hU1 : U ≤ 18446744073709551615 := by rw [hU, IntKind.wrap_u64]; omega
  rw [← hU]
  have hU' := hU.symm
  clear hU
  have HG := hid (hG.addL U m)
  have HOw := hid hown
  clear hown hG
  go_enter Tryd.func66, Tryd.ntmps66
  go_wp2
  go_loopw [7] (fun k wr => ∃ (i j n' cap' : Nat) (a' : Option Addr), i + j = m ∧ k = .int .i64 ((j : Int) - 1) ∧ wr.heap[w.heap.size]? = some (.cells #[.slice a' n' cap', .int .i64 ((s + i : Nat) : Int)] 26 (0, 0)) ∧ wr.heap[w.heap.size + 1]? = some (.cells #[.slice none 0 0, .int .i64 0] 26 (0, 0)) ∧
      wr.ownsRow B 5 1 (.slice a' n' cap') n' ((addL zs s U m i).map (Value.int .u8)) ∧ Keeps B w wr)
    (fun k _ => (intOf k + 1).toNat)
  case atStart =>
    refine ⟨0, m, n, cap, a, by omega, rfl, ?_, ?_, (HOw.out.alloc _).alloc _, ((Keeps.refl _ _).alloc hB _).alloc (by simp; omega) _⟩
    · rw [Below.heap_alloc _ _ _ (by simp)]; exact heap_alloc_new w _
    · have := heap_alloc_new (w.alloc (.cells #[.slice a n cap, .int .i64 s] 26)) (.cells #[.slice none 0 0, .int .i64 0] 26)
      simpa only [World.size_alloc] using this
  case round =>
    obtain ⟨i, j, n', cap', a', hij, rfl, hX, hY, hown, hK⟩ := hrel
    have x0 := two0 hX
    have x1 := two1 hX
    have xf0 := twof (o := 0) hX
    have xf1 := twof (o := 1) hX
    have y0 := two0 hY
    have y1 := two1 hY
    have yf0 := twof (o := 0) hY
    have yf1 := twof (o := 1) hY
    have HX := hid hX
    have HY := hid hY
    have HO := hid hown
    have HK := hid hK
    have HIJ := hid hij
    have hsz : w.heap.size + 1 < wr.heap.size := lt_of_block hY
    clear hX hY hown hK hij
    by_cases hj : 0 < j
    · obtain ⟨j', rfl⟩ : ∃ j', j = j' + 1 := ⟨j - 1, by omega⟩
      have ej : (((j' + 1 : Nat) : Int) - 1) = (j' : Int) := by omega
      rw [ej]
      have hj64 : j' ≤ 63 := by have := HIJ.out; omega
      obtain ⟨d0, d1⟩ := ediv_u64 U j' hU0 hU1
      have hand := and_one64 (U / 2 ^ j') d0 d1
      have HB := bit01 U j'
      obtain ⟨b, hb⟩ : ∃ b, b = U / 2 ^ j' % 2 := ⟨_, rfl⟩
      rw [← hb] at hand HB
      have HBE := hid hb
      have HBB := hid HB
      have b0 : 0 ≤ b := by omega
      have b1 : b ≤ 1 := by omega
      clear hb HB
      have hsi : s + i ≤ 80000 := by have := HIJ.out; omega
      go_wp2_with (go_at_call 82; refine (f82 a' n' cap' (s + i) B b (addL zs s U m i) _ HO.out (HG.out i) hsi (by omega) HBB.out).mono ?_; rintro e w2 ⟨a2, n2, cap2, rfl, ho2, hk2⟩; have hX2 := hk2.other _ _ _ _ (by decide) HX.out; have hY2 := hk2.other _ _ _ _ (by decide) HY.out; have z0 := two0 hX2; have z1 := two1 hX2; have zf0 := twof (o := 0) hX2; have zf1 := twof (o := 1) hX2)
      go_roundw
      case rel =>
        have es : ((s + (i + 1) : Nat) : Int) = (s : Int) + (i : Int) + 1 := by omega
        have ea : addL zs s U m (i + 1) = putq (addL zs s U m i) (s + i) 1 b := by
          rw [addL, HBE.out, show m - 1 - i = j' from by have := HIJ.out; omega]
        refine ⟨i + 1, j', n2, cap2, a2, by have := HIJ.out; omega, rfl, ?_, ?_, ?_, ?_⟩
        · rw [es]; exact two_set1 (two_set0 hX2)
        · exact heap_other _ (by simp) (heap_other _ (by simp) hY2)
        · rw [ea]
          exact ownsRow_setCell_other (ownsRow_setCell_other ho2 (own_ne' ho2 hX2 (by decide)) _) (own_ne' ho2 hX2 (by decide)) _
        · exact ((HK.out.trans hk2).set_new hB (Nat.le_refl _) _).set_new hB (Nat.le_refl _) _
      case measure => simp [intOf]
    · obtain rfl : j = 0 := by omega
      go_wp2
      refine bodyPost_ret (v := .agg #[.slice a' n' cap', .int .i64 ((s + i : Nat) : Int)]) (by simp [results, Tryd.results66, go_sem, y0, y1]) rfl ⟨a', n', cap', ?_, ?_, ?_⟩
      · rw [show i = m from by have := HIJ.out; omega]
      · have ei : i = m := by have := HIJ.out; omega
        subst ei
        exact ownsRow_setCell_other (ownsRow_setCell_other HO.out (own_ne' HO.out HY.out (by decide)) _) (own_ne' HO.out HY.out (by decide)) _
      · exact (HK.out.set_new hB (by simp) _).set_new hB (by simp) _
end Go.Proofs.YteblbcbfaomdmaaDoor.Bts
