/- What the program's writer of bits comes to. -/
import Derived.Test.YteblbcbfaomdmaaDoorAdd2
namespace Go.Proofs.YteblbcbfaomdmaaDoor.Bts
open Go.RowKit Go.Proofs.YteblbcbfaomdmaaDoor.Byt

/-- As 'Keeps', but for block R. -/
structure KeepsR (R B : Nat) (w w' : World) : Prop where
  below : Below B w w'
  other : ∀ (k : Nat) (cs : Array Value) (t : TypeId) (f : Nat × Nat), t ≠ 5 → k ≠ R → w.heap[k]? = some (.cells cs t f) → w'.heap[k]? = some (.cells cs t f)
theorem KeepsR.refl (R B : Nat) (w : World) : KeepsR R B w w := ⟨Below.refl _ _, fun _ _ _ _ _ _ h => h⟩
theorem KeepsR.drew {R B : Nat} {a b : World} (h : KeepsR R B a b) : KeepsR R B a b.drew := ⟨h.below.drew, h.other⟩
theorem KeepsR.drewN {R B : Nat} {a b : World} (h : KeepsR R B a b) (q : Nat) : KeepsR R B a (b.drewN q) := ⟨below_drewN h.below q, h.other⟩
theorem KeepsR.alloc {R B : Nat} {a b : World} (h : KeepsR R B a b) (hB : B ≤ b.heap.size) (o : Obj) : KeepsR R B a (b.alloc o) :=
  ⟨h.below.alloc hB o, fun k cs t f ht hR hk => by
    have := h.other k cs t f ht hR hk
    rw [Below.heap_alloc b o k (lt_of_block this)]; exact this⟩
theorem KeepsR.set_R {R B o : Nat} {a b : World} (h : KeepsR R B a b) (hB : B ≤ R) (u : Value) : KeepsR R B a (b.setCell ⟨R, o, none⟩ u) :=
  ⟨h.below.setCell hB u, fun k cs t f ht hR hk => by rw [Below.heap_setCell b ⟨R, o, none⟩ u k hR]; exact h.other k cs t f ht hR hk⟩
theorem KeepsR.set_row {R B : Nat} {a b : World} (h : KeepsR R B a b) {g o n c : Nat} {xs : List Value} (hown : b.ownsRow B 5 1 (.slice (some ⟨g, 0, none⟩) n c) n xs) (u : Value) : KeepsR R B a (b.setCell ⟨g, o, none⟩ u) := by
  have hgl := (hown.lt g rfl).1
  obtain ⟨cur, hc⟩ := own_type hown (g := g) rfl
  refine ⟨h.below.setCell hgl u, fun k cs t f ht hR hk => ?_⟩
  have h1 := h.other k cs t f ht hR hk
  have hne : k ≠ g := by
    intro e
    subst e
    rw [hc] at h1
    simp only [Option.some.injEq, Obj.cells.injEq] at h1
    exact ht h1.2.1.symm
  rw [Below.heap_setCell b ⟨g, o, none⟩ u k hne]; exact h1
theorem KeepsR.grown {R B : Nat} {a b c : World} {v : Value} {n : Nat} {xs : List Value} (h : KeepsR R B a b) (hown : b.ownsRow B 5 1 v n xs) (hg : b.grownBy c v.ownBlock) (hB : B ≤ b.heap.size) : KeepsR R B a c := by
  refine ⟨h.below.grown hg hB (fun k hk => (hown.lt k hk).1), fun k cs t f ht hR hk => ?_⟩
  have h1 := h.other k cs t f ht hR hk
  rw [hg.block k (lt_of_block h1) ?_]
  · exact h1
  · intro e
    obtain ⟨cur, hc⟩ := own_type hown e.symm
    rw [hc] at h1
    simp only [Option.some.injEq, Obj.cells.injEq] at h1
    exact ht h1.2.1.symm

theorem mod_byte (x : Int) (q : Nat) (hq : q ≤ 8) : x % 256 % 2 ^ q = x % 2 ^ q := by
  refine Int.emod_emod_of_dvd x ?_
  have : (256 : Int) = 2 ^ q * 2 ^ (8 - q) := by rw [← Int.pow_add, show q + (8 - q) = 8 from by omega]; rfl
  rw [this]
  exact ⟨_, rfl⟩
theorem piece_val (x : Int) (q : Nat) (hq : q ≤ 8) : bits .and .u8 (x % 256) (2 ^ q - 1) = x % 2 ^ q := by
  rw [and_mask _ q (by omega) (by omega) hq, mod_byte x q hq]
theorem piece_bd (x : Int) (q : Nat) (hq : q ≤ 8) : 0 ≤ x % 2 ^ q ∧ x % 2 ^ q < 2 ^ q ∧ x % 2 ^ q ≤ 255 := by
  have hp := two_pow_pos q
  have h1 : x % 2 ^ q < 2 ^ q := Int.emod_lt_of_pos _ (by omega)
  have h2 : (2 : Int) ^ q ≤ 256 := by
    have h : (2 : Nat) ^ q ≤ 2 ^ 8 := Nat.pow_le_pow_right (by omega) hq
    rw [pow_cast]; omega
  exact ⟨Int.emod_nonneg _ (by omega), h1, by omega⟩

/-- What a round leaves: the bytes with q bits more. -/
theorem round_list (zs A : List Int) (s i m k T q : Nat) (U P L : Int) (hG : G zs s) (hA : A = addL zs s U m i) (hT : T = s + i) (hik : i + k = m) (hq : 1 ≤ q) (hqk : q ≤ k) (hq8 : T % 8 + q ≤ 8)
    (hP : P = U / 2 ^ (k - q) % 2 ^ q) (hL : (ext A T).getD (T / 8) 0 = L) : addL zs s U m (i + q) = (ext A T).set (T / 8) (L + P * 2 ^ (8 - T % 8 - q)) := by
  obtain ⟨q', rfl⟩ : ∃ q', q = q' + 1 := ⟨q - 1, by omega⟩
  rw [add_chunk zs s U m hG i q' (by omega) (by omega), ← hA, ← hT]
  unfold putq
  rw [hL, hP, show m - i - (q' + 1) = k - (q' + 1) from by omega]

/-- The stores of a round: the last byte, and the size. -/
theorem round_end {w W : World} {R B g j n cap : Nat} {E : List Int} {u : Value} (N sz : Int) (hown : W.ownsRow B 5 1 (.slice (some ⟨g, 0, none⟩) n cap) n (E.map (Value.int .u8)))
    (hR : W.heap[R]? = some (.cells #[.slice (some ⟨g, 0, none⟩) n cap, u] 64 (0, 0))) (hK : KeepsR R B w W) (hB : B ≤ R) :
    ((W.setCell ⟨g, j, none⟩ (.int .u8 N)).setCell ⟨R, 1, none⟩ (.int .i64 sz)).heap[R]? = some (.cells #[.slice (some ⟨g, 0, none⟩) n cap, .int .i64 sz] 64 (0, 0)) ∧
    ((W.setCell ⟨g, j, none⟩ (.int .u8 N)).setCell ⟨R, 1, none⟩ (.int .i64 sz)).ownsRow B 5 1 (.slice (some ⟨g, 0, none⟩) n cap) n ((E.set j N).map (Value.int .u8)) ∧
    KeepsR R B w ((W.setCell ⟨g, j, none⟩ (.int .u8 N)).setCell ⟨R, 1, none⟩ (.int .i64 sz)) := by
  have nR := own_ne (cs := [_, _]) hown hR (by decide)
  have h1 : (W.setCell ⟨g, j, none⟩ (.int .u8 N)).heap[R]? = some (.cells #[.slice (some ⟨g, 0, none⟩) n cap, u] 64 (0, 0)) := heap_other _ (fun e => nR e.symm) hR
  have h2 := (hown.stored j (.int .u8 N)).1
  rw [← List.map_set] at h2
  exact ⟨two_set1 h1, ownsRow_setCell_other h2 (own_ne' h2 h1 (by decide)) _, (hK.set_row hown _).set_R hB _⟩

set_option maxHeartbeats 4000000 in
theorem f41 (a : Option Addr) (n cap s m B R : Nat) (U : Int) (zs : List Int) (w : World) (hown : w.ownsRow B 5 1 (.slice a n cap) n (zs.map (Value.int .u8))) (hG : G zs s) (hs : s + m ≤ 80000) (hm : m ≤ 64) (hB : B ≤ R) (hU0 : 0 ≤ U) (hU1 : U ≤ 18446744073709551615)
    (hR : w.heap[R]? = some (.cells #[.slice a n cap, .int .i64 s] 64 (0, 0))) :
    Calls Tryd.prog 41 #[.pointer (some ⟨R, 0, none⟩), .int .u64 U, .int .i64 m] w fun e w' =>
      e = .returned (.tuple #[]) ∧ ∃ a' n' cap', w'.heap[R]? = some (.cells #[.slice a' n' cap', .int .i64 ((s + m : Nat) : Int)] 64 (0, 0)) ∧ w'.ownsRow B 5 1 (.slice a' n' cap') n' ((addL zs s U m m).map (Value.int .u8)) ∧ KeepsR R B w w' := by
  obtain ⟨i0, hi, hz0, hz1, hz2⟩ := info_parts info5
  have HG := hid (hG.addL U m)
  have HGz := hid hG
  have HOw := hid hown
  have HR := hid hR
  clear hown hG hR
  go_enter Tryd.func41, Tryd.ntmps41
  go_wp2
  go_loopw [2] (fun sk wr => ∃ (i k n' cap' : Nat) (a' : Option Addr), i + k = m ∧ sk = .int .i64 k ∧ wr.heap[R]? = some (.cells #[.slice a' n' cap', .int .i64 ((s + i : Nat) : Int)] 64 (0, 0)) ∧
      wr.ownsRow B 5 1 (.slice a' n' cap') n' ((addL zs s U m i).map (Value.int .u8)) ∧ KeepsR R B w wr)
    (fun sk _ => (intOf sk).toNat)
  case atStart => exact ⟨0, m, n, cap, a, by omega, rfl, HR.out, HOw.out, KeepsR.refl _ _ _⟩
  case round =>
    obtain ⟨i, k, n', cap', a', hik, rfl, hRr, hown, hK⟩ := hrel
    have HK := hid hK
    have HIK := hid hik
    by_cases hk : 0 < k
    · obtain ⟨T, hT⟩ : ∃ T, T = s + i := ⟨_, rfl⟩
      have hGi := HG.out i
      rw [← hT] at hRr hGi
      have HT := hid hT
      obtain ⟨A, hA⟩ : ∃ A, A = addL zs s U m i := ⟨_, rfl⟩
      rw [← hA] at hown hGi
      have HA := hid hA
      clear hT hA hK hik
      have hT8 : T ≤ 80000 := by have := HT.out; have := HIK.out; omega
      have hk64 : k ≤ 64 := by have := HIK.out; omega
      have hn' : A.length = n' := by have h := hown.1; rw [List.length_map, Nat.mul_one] at h; exact h
      by_cases h8 : T % 8 = 0
      · have hx : ext A T = A ++ [0] := by unfold ext; rw [if_pos h8]
        have hE0 : (ext A T).length = n' + 1 := by rw [hx, List.length_append, hn']; rfl
        have h8' : ((8 - (T : Int) % 8) == 8) = true := by simp; omega
        have hn0 : n' + 1 = T / 8 + 1 := by have := hGi.len; omega
        have hRB : R < wr.heap.size := lt_of_block hRr
        have r0 := two0 hRr
        have r1 := two1 hRr
        have rf0 := twof (o := 0) hRr
        have HN0 := hid hn0
        have HE0 := hid hE0
        have HX0 := hid hx
        have hn10 : n' ≤ 10000 := by omega
        clear h8 hn0 hE0 hx hn'
        go_wp2_with (at_builtin; refine wpList_append_own _ rfl (.tmp 23) (.tmp 24) 22 rfl B 5 i0 (.int .u8 0) 1 1 Tryd.underlying22 hi hz0 hz1 hz2 rfl (by decide) _ _ _ rfl (hown.alloc _) ⟨wr.heap.size, 0, none⟩ 1 1 [.int .u8 0] rfl rfl ?d1 ?d2 ?d3 ?d4 ?d5 ?_)
        case d1 => exact Put.one_new _ _ _
        case d2 => first | rfl | (intro u hu; simp at hu; subst hu; rfl)
        case d3 => unfold maxLen; omega
        case d4 => omega
        case d5 => simp; omega
        intro v1 wa hownA hgrA _
        obtain ⟨g, cap1, rfl, hg1, hg2, hg3⟩ := Put.own_shape hownA (by omega)
        have hKA : KeepsR R B w wa := (HK.out.alloc (by omega) _).grown (hown.alloc _) hgrA (by simp; omega)
        have hRA : wa.heap[R]? = some (.cells #[.slice a' n' cap', .int .i64 (T : Int)] 64 (0, 0)) := by
          rw [hgrA.block R (by simp; omega) (fun e => own_ne' hown hRr (by decide) e.symm), Below.heap_alloc _ _ _ hRB]; exact hRr
        have hownA' : wa.ownsRow B 5 1 (.slice (some ⟨g, 0, none⟩) (n' + 1) cap1) (n' + 1) ((ext A T).map (Value.int .u8)) := by
          rw [HX0.out, List.map_append]; exact hownA
        have ra0 := two0 hRA
        have raf0 := twof (o := 0) hRA
        clear hown hRr hownA hgrA r0 r1 rf0
        obtain ⟨n1, hn1'⟩ : ∃ n1, n1 = n' + 1 := ⟨_, rfl⟩
        have hn1 : n1 = T / 8 + 1 := hn1'.trans HN0.out
        have hE : (ext A T).length = n1 := HE0.out.trans hn1'.symm
        rw [← hn1'] at hownA' hg3 ⊢
        clear hn1'
        have hRB2 : (wa.setCell ⟨R, 0, none⟩ (.slice (some ⟨g, 0, none⟩) n1 cap1)).heap[R]? = some (.cells #[.slice (some ⟨g, 0, none⟩) n1 cap1, .int .i64 (T : Int)] 64 (0, 0)) := two_set0 hRA
        have hownB : (wa.setCell ⟨R, 0, none⟩ (.slice (some ⟨g, 0, none⟩) n1 cap1)).ownsRow B 5 1 (.slice (some ⟨g, 0, none⟩) n1 cap1) n1 ((ext A T).map (Value.int .u8)) := ownsRow_setCell_other hownA' (own_ne' hownA' hRA (by decide)) _
        have HKB := hid (hKA.set_R (o := 0) hB (.slice (some ⟨g, 0, none⟩) n1 cap1))
        have hstep : wa.cell? ⟨R, 0, none⟩ = some (.slice a' n' cap') := ra0
        obtain ⟨e1, e2, e3⟩ := hGi.ext_low
        have hc : wa.cell? ⟨g, n1 - 1, none⟩ = some (.int .u8 ((ext A T).getD (T / 8) 0)) := by
          rw [hownA'.cellAt (n1 - 1) (by omega), List.getElem?_map, List.getElem?_eq_getElem (by omega)]
          simp [show T / 8 < (ext A T).length from by omega, hn1]
        have hf := hownA'.frozenAt (n1 - 1)
        have r1 := two1 hRA
        have rf1 := twof (o := 1) hRA
        have nR := own_ne (cs := [_, _]) hownA' hRA (by decide)
        generalize hL : (ext A T).getD (T / 8) 0 = L at *
        have HL := hid hL
        have HRr := hid hRB2
        have HO := hid hownB
        have HN1 := hid hn1
        have HE := hid hE
        have hn8 : 1 ≤ n1 := by omega
        have hn9 : n1 ≤ 10001 := by omega
        clear hL hRB2 hownB hn1 hE hRA hownA' hKA hstep
        by_cases hmin : k ≤ 8 - T % 8
        · obtain ⟨p0, p1, p2⟩ := piece_bd U k (by omega)
          have hand := piece_val U k (by omega)
          obtain ⟨P, hP⟩ : ∃ P, P = U % 2 ^ k := ⟨_, rfl⟩
          rw [← hP] at hand p0 p1 p2
          obtain ⟨w1', w2'⟩ := or_piece L P (T % 8) k e2 e3 e1 (by omega) (by omega) p0 p1
          have HLIST := hid (round_list zs A s i m k T k U P L HGz.out HA.out HT.out HIK.out (by omega) (Nat.le_refl _) (by omega) (by rw [hP, Nat.sub_self, Int.pow_zero, Int.ediv_one]) HL.out)
          obtain ⟨Q, hQ⟩ : ∃ Q, Q = P * 2 ^ (8 - T % 8 - k) := ⟨_, rfl⟩
          rw [← hQ] at w1' w2' HLIST
          have w3' : P * 2 ^ (8 - T % 8 - k) % 256 = Q := by rw [← hQ, ← w1', IntKind.wrap_u8, hQ]; omega
          clear hP hQ p1 w1'
          go_wp2
          go_quiet ((go_at_call 47; exact Calls.quiet_of_same (f47i _ _ (by omega) (by omega))))
          go_wp2
          go_region
          all_goals go_wp2
          go_roundw
          case rel =>
            obtain ⟨R1, R2, R3⟩ := round_end (w := w) (W := (wa.setCell ⟨R, 0, none⟩ (.slice (some ⟨g, 0, none⟩) n1 cap1)).drewN (nq + 1)) (j := n1 - 1) (L + Q) ((T : Int) + (k : Int)) HO.out HRr.out (HKB.out.drewN _) hB
            refine ⟨i + k, 0, n1, cap1, some ⟨g, 0, none⟩, by have := HIK.out; omega, rfl, ?_, ?_, R3⟩
            · rw [show ((s + (i + k) : Nat) : Int) = (T : Int) + (k : Int) from by have := HT.out; omega]; exact R1
            · rw [HLIST.out, show T / 8 = n1 - 1 from by have := HN1.out; omega]; exact R2
          case measure => simp [intOf]; omega
        · obtain ⟨p0, p1, p2⟩ := piece_bd (U / 2 ^ (k - (8 - T % 8))) (8 - T % 8) (by omega)
          have hand := piece_val (U / 2 ^ (k - (8 - T % 8))) (8 - T % 8) (by omega)
          obtain ⟨P, hP⟩ : ∃ P, P = U / 2 ^ (k - (8 - T % 8)) % 2 ^ (8 - T % 8) := ⟨_, rfl⟩
          rw [← hP] at hand p0 p1 p2
          obtain ⟨w1', w2'⟩ := or_piece L P (T % 8) (8 - T % 8) e2 e3 e1 (by omega) (by omega) p0 p1
          have HLIST := hid (round_list zs A s i m k T (8 - T % 8) U P L HGz.out HA.out HT.out HIK.out (by omega) (by omega) (by omega) hP HL.out)
          rw [Nat.sub_self, Int.pow_zero, Int.mul_one] at w1' w2' HLIST
          have d0 := (ediv_u64 U (k - (8 - T % 8)) hU0 hU1).1
          have d1 := (ediv_u64 U (k - (8 - T % 8)) hU0 hU1).2
          clear hP p1 w1'
          go_wp2
          go_quiet ((go_at_call 47; exact Calls.quiet_of_same (f47i _ _ (by omega) (by omega))))
          go_wp2
          go_region
          all_goals go_wp2
          go_roundw
          case rel =>
            obtain ⟨R1, R2, R3⟩ := round_end (w := w) (W := (wa.setCell ⟨R, 0, none⟩ (.slice (some ⟨g, 0, none⟩) n1 cap1)).drewN (nq + 1)) (j := n1 - 1) (L + P) ((T : Int) + (8 - (T : Int) % 8)) HO.out HRr.out (HKB.out.drewN _) hB
            refine ⟨i + (8 - T % 8), k - (8 - T % 8), n1, cap1, some ⟨g, 0, none⟩, by have := HIK.out; omega, by go_num, ?_, ?_, R3⟩
            · rw [show ((s + (i + (8 - T % 8)) : Nat) : Int) = (T : Int) + (8 - (T : Int) % 8) from by have := HT.out; omega]; exact R1
            · rw [HLIST.out, show T / 8 = n1 - 1 from by have := HN1.out; omega]; exact R2
          case measure => simp [intOf]; omega
      · have hn1 : n' = T / 8 + 1 := by have := hGi.len; omega
        obtain ⟨g, c2, hsl, hg1, hg2, hg3⟩ := Put.own_shape hown (by omega)
        simp only [Value.slice.injEq, true_and] at hsl
        obtain ⟨rfl, rfl⟩ := hsl
        have hx : ext A T = A := by unfold ext; rw [if_neg h8]
        have hE : (ext A T).length = n' := by rw [hx]; exact hn'
        rw [← hx] at hown
        have h8' : ((8 - (T : Int) % 8) == 8) = false := by simp; omega
        obtain ⟨e1, e2, e3⟩ := hGi.ext_low
        have hc : wr.cell? ⟨g, n' - 1, none⟩ = some (.int .u8 ((ext A T).getD (T / 8) 0)) := by
          rw [hown.cellAt (n' - 1) (by omega), List.getElem?_map, List.getElem?_eq_getElem (by omega)]
          simp [show T / 8 < (ext A T).length from by omega, hn1]
        have hf := hown.frozenAt (n' - 1)
        have r0 := two0 hRr
        have r1 := two1 hRr
        have rf1 := twof (o := 1) hRr
        have nR := own_ne (cs := [_, _]) hown hRr (by decide)
        generalize hL : (ext A T).getD (T / 8) 0 = L at *
        have HL := hid hL
        have HRr := hid hRr
        have HO := hid hown
        have HN1 := hid hn1
        have HE := hid hE
        have hn8 : 1 ≤ n' := by omega
        have hn9 : n' ≤ 10001 := by omega
        clear hL hRr hown hn1 hE hn' hx h8
        by_cases hmin : k ≤ 8 - T % 8
        · obtain ⟨p0, p1, p2⟩ := piece_bd U k (by omega)
          have hand := piece_val U k (by omega)
          obtain ⟨P, hP⟩ : ∃ P, P = U % 2 ^ k := ⟨_, rfl⟩
          rw [← hP] at hand p0 p1 p2
          obtain ⟨w1', w2'⟩ := or_piece L P (T % 8) k e2 e3 e1 (by omega) (by omega) p0 p1
          have HLIST := hid (round_list zs A s i m k T k U P L HGz.out HA.out HT.out HIK.out (by omega) (Nat.le_refl _) (by omega) (by rw [hP, Nat.sub_self, Int.pow_zero, Int.ediv_one]) HL.out)
          obtain ⟨Q, hQ⟩ : ∃ Q, Q = P * 2 ^ (8 - T % 8 - k) := ⟨_, rfl⟩
          rw [← hQ] at w1' w2' HLIST
          have w3' : P * 2 ^ (8 - T % 8 - k) % 256 = Q := by rw [← hQ, ← w1', IntKind.wrap_u8, hQ]; omega
          clear hP hQ p1 w1'
          go_wp2
          go_quiet ((go_at_call 47; exact Calls.quiet_of_same (f47i _ _ (by omega) (by omega))))
          go_wp2
          go_region
          all_goals go_wp2
          go_roundw
          case rel =>
            obtain ⟨R1, R2, R3⟩ := round_end (w := w) (W := wr.drewN (nq + 1)) (j := n' - 1) (L + Q) ((T : Int) + (k : Int)) HO.out HRr.out (HK.out.drewN _) hB
            refine ⟨i + k, 0, n', cap', some ⟨g, 0, none⟩, by have := HIK.out; omega, rfl, ?_, ?_, R3⟩
            · rw [show ((s + (i + k) : Nat) : Int) = (T : Int) + (k : Int) from by have := HT.out; omega]; exact R1
            · rw [HLIST.out, show T / 8 = n' - 1 from by have := HN1.out; omega]; exact R2
          case measure => simp [intOf]; omega
        · obtain ⟨p0, p1, p2⟩ := piece_bd (U / 2 ^ (k - (8 - T % 8))) (8 - T % 8) (by omega)
          have hand := piece_val (U / 2 ^ (k - (8 - T % 8))) (8 - T % 8) (by omega)
          obtain ⟨P, hP⟩ : ∃ P, P = U / 2 ^ (k - (8 - T % 8)) % 2 ^ (8 - T % 8) := ⟨_, rfl⟩
          rw [← hP] at hand p0 p1 p2
          obtain ⟨w1', w2'⟩ := or_piece L P (T % 8) (8 - T % 8) e2 e3 e1 (by omega) (by omega) p0 p1
          have HLIST := hid (round_list zs A s i m k T (8 - T % 8) U P L HGz.out HA.out HT.out HIK.out (by omega) (by omega) (by omega) hP HL.out)
          rw [Nat.sub_self, Int.pow_zero, Int.mul_one] at w1' w2' HLIST
          have d0 := (ediv_u64 U (k - (8 - T % 8)) hU0 hU1).1
          have d1 := (ediv_u64 U (k - (8 - T % 8)) hU0 hU1).2
          clear hP p1 w1'
          go_wp2
          go_quiet ((go_at_call 47; exact Calls.quiet_of_same (f47i _ _ (by omega) (by omega))))
          go_wp2
          go_region
          all_goals go_wp2
          go_roundw
          case rel =>
            obtain ⟨R1, R2, R3⟩ := round_end (w := w) (W := wr.drewN (nq + 1)) (j := n' - 1) (L + P) ((T : Int) + (8 - (T : Int) % 8)) HO.out HRr.out (HK.out.drewN _) hB
            refine ⟨i + (8 - T % 8), k - (8 - T % 8), n', cap', some ⟨g, 0, none⟩, by have := HIK.out; omega, by go_num, ?_, ?_, R3⟩
            · rw [show ((s + (i + (8 - T % 8)) : Nat) : Int) = (T : Int) + (8 - (T : Int) % 8) from by have := HT.out; omega]; exact R1
            · rw [HLIST.out, show T / 8 = n' - 1 from by have := HN1.out; omega]; exact R2
          case measure => simp [intOf]; omega
    · go_wp2
      go_end0
      have ei : i = m := by omega
      subst ei
      exact ⟨rfl, a', n', cap', hRr, hown, hK⟩
end Go.Proofs.YteblbcbfaomdmaaDoor.Bts
