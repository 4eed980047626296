/- The model's bends and chunks: l6PutBend, l6Pack, PackChunk. -/
import Derived.Test.YteblbcbfaomdmaaDoorVd
namespace Go.Proofs.YteblbcbfaomdmaaDoor.Chk
open Go.RowKit Go.Proofs.YteblbcbfaomdmaaDoor.Bts
open Go.Proofs.YteblbcbfaomdmaaDoor.Smp hiding hid ret_int below_drewN

/-- A value of type Bits in memory of the call's own. -/
def OwnB (w : World) (B : Nat) (v : Value) (p : Bt) : Prop := ∃ a n cap, v = .agg #[.slice a n cap, .int .i64 (p.2 : Int)] ∧ w.ownsRow B 5 1 (.slice a n cap) n (p.1.map (Value.int .u8))
theorem addO {w : World} {B : Nat} {v : Value} {p : Bt} (x : Int) (m : Nat) (h : OwnB w B v p) (hG : GB p) (hs : p.2 + m ≤ 80000) (hm : m ≤ 64) (hB : B ≤ w.heap.size) :
    Calls Tryd.prog 66 #[v, .int .i64 x, .int .i64 m] w fun e w' => ∃ v', e = .returned v' ∧ OwnB w' B v' (bAdd p (IntKind.u64.wrap x) m) ∧ Keeps B w w' := by
  obtain ⟨a, n, cap, rfl, ho⟩ := h
  refine (f66 a n cap p.2 m B x p.1 w ho hG hs hm hB).mono ?_
  rintro e w' ⟨a', n', cap', rfl, ho', hk⟩
  exact ⟨_, rfl, ⟨a', n', cap', rfl, ho'⟩, hk⟩
theorem OwnB.form {w : World} {B : Nat} {v : Value} {p : Bt} (h : OwnB w B v p) : ∃ a n cap, v = .agg #[.slice a n cap, .int .i64 (p.2 : Int)] := by
  obtain ⟨a, n, cap, h1, _⟩ := h; exact ⟨a, n, cap, h1⟩
theorem kbox {B b : Nat} {w w' : World} {cs : Array Value} {t : TypeId} {f : Nat × Nat} (h : w.heap[b]? = some (.cells cs t f)) (hk : Keeps B w w') (ht : t ≠ 5) : w'.heap[b]? = some (.cells cs t f) := hk.other b cs t f ht h
theorem keeps_size {B : Nat} {w w' : World} (h : Keeps B w w') : w.heap.size ≤ w'.heap.size := h.below.size
theorem keeps_two {B : Nat} {a b : World} (h : Keeps B a b) (hB : B ≤ a.heap.size) {p q : Addr} (hp : a.heap.size ≤ p.block) (hq : a.heap.size ≤ q.block) (u v : Value) : Keeps B a ((b.setCell p u).setCell q v) := (h.set_new hB hp u).set_new hB hq v

theorem store_end {w W : World} {B X n : Nat} {a : Option Addr} {cap : Nat} {sz : Value} {u0 u1 : Value} {t : TypeId} {xs : List Value} (hX : W.heap[X]? = some (.cells #[u0, u1] t (0, 0))) (ht : t ≠ 5) (hx : w.heap.size ≤ X) (hB : B ≤ w.heap.size) (hk : Keeps B w W) (ho : W.ownsRow B 5 1 (.slice a n cap) n xs) :
    ((W.setCell ⟨X, 0, none⟩ (.slice a n cap)).setCell ⟨X, 1, none⟩ sz).heap[X]? = some (.cells #[.slice a n cap, sz] t (0, 0)) ∧ ((W.setCell ⟨X, 0, none⟩ (.slice a n cap)).setCell ⟨X, 1, none⟩ sz).ownsRow B 5 1 (.slice a n cap) n xs ∧ Keeps B w ((W.setCell ⟨X, 0, none⟩ (.slice a n cap)).setCell ⟨X, 1, none⟩ sz) := by
  have h1 : (W.setCell ⟨X, 0, none⟩ (.slice a n cap)).heap[X]? = some (.cells #[.slice a n cap, u1] t (0, 0)) := two_set0 hX
  have o1 := ownsRow_setCell_other (a := ⟨X, 0, none⟩) ho (own_ne' ho hX ht) (.slice a n cap)
  exact ⟨two_set1 h1, ownsRow_setCell_other o1 (own_ne' o1 h1 ht) _, keeps_two hk hB hx hx _ _⟩

set_option maxHeartbeats 4000000 in
theorem f67 {B : Nat} {v : Value} {p : Bt} (b : Int) (w : World) (h : OwnB w B v p) (hG : GB p) (hs : p.2 + 68 ≤ 80000) (hB : B ≤ w.heap.size) (hb0 : -1000000000000 ≤ b) (hb1 : b ≤ 1000000000000) :
    Calls Tryd.prog 67 #[v, .int .i64 b] w fun e w' => ∃ v', e = .returned v' ∧ OwnB w' B v' (bendB p b) ∧ Keeps B w w' := by
  obtain ⟨a, n, cap, rfl, ho⟩ := h
  have HO0 : Hid (OwnB ((w.alloc (.cells #[.slice a n cap, .int .i64 (p.2 : Int)] 26)).alloc (.cells #[.slice none 0 0, .int .i64 0] 26)) B (.agg #[.slice a n cap, .int .i64 (p.2 : Int)]) p) := ⟨a, n, cap, rfl, (ho.alloc _).alloc _⟩
  have HK0 := hid (((Keeps.refl B w).alloc hB (.cells #[.slice a n cap, .int .i64 (p.2 : Int)] 26)).alloc (by simp; omega) (.cells #[.slice none 0 0, .int .i64 0] 26))
  have HX0 : Hid (((w.alloc (.cells #[.slice a n cap, .int .i64 (p.2 : Int)] 26)).alloc (.cells #[.slice none 0 0, .int .i64 0] 26)).heap[w.heap.size + 1]? = some (.cells #[.slice none 0 0, .int .i64 0] 26 (0, 0))) := by
    have := heap_alloc_new (w.alloc (.cells #[.slice a n cap, .int .i64 (p.2 : Int)] 26)) (.cells #[.slice none 0 0, .int .i64 0] 26)
    simp only [World.size_alloc] at this
    exact this
  have HG := hid hG
  clear ho
  by_cases h0 : b = 0
  · have HE : Hid (bendB p b = bAdd p (IntKind.u64.wrap 0) 1) := by
      have : bendI b = 0 := if_pos h0
      unfold Hid bendB; rw [this]; rfl
    have h0' : (b == 0) = true := by simp [h0]
    clear h0
    go_enter Tryd.func67, Tryd.ntmps67
    go_wp2_with fail
    refine (addO 0 1 HO0.out HG.out (by first | omega | (simp only [bAdd_size]; omega)) (by omega) (Nat.le_trans hB (keeps_size HK0.out))).mono ?_
    rintro e w1 ⟨v1, rfl, ho, hk⟩
    have HO1 := hid ho
    have HK1 := hid (HK0.out.trans hk)
    have HX1 := hid (kbox HX0.out hk (by decide))
    clear ho hk
    obtain ⟨a', n', cap', rfl, ho'⟩ := HO1.out
    have hx := HX1.out
    have z0 := two0 hx
    have z1 := two1 hx
    have f0 := twof (o := 0) hx
    have f1 := twof (o := 1) hx
    have HSE := hid (fun sz => store_end (sz := sz) hx (by decide) (show w.heap.size ≤ w.heap.size + 1 by omega) hB HK1.out ho')
    clear hx ho'
    go_wp2
    obtain ⟨r1, r2, r3⟩ := HSE.out _
    have y0 := two0 r1
    have y1 := two1 r1
    refine bodyPost_ret (v := .agg #[.slice a' n' cap', _]) (by simp [results, Tryd.results67, go_sem, y0, y1]; rfl) rfl ⟨_, rfl, ?_, r3⟩
    rw [HE.out]
    exact ⟨a', n', cap', rfl, r2⟩
  · have h0' : (b == 0) = false := by simp [h0]
    by_cases a1 : b < -63
    · by_cases a2 : b < -255
      · by_cases a3 : b < -2047
        · have HE : Hid (bendB p b = bAdd (bAdd p (IntKind.u64.wrap 15) 4) (IntKind.u64.wrap b) 64) := by
            have : bendI b = 4 := (if_neg (show ¬ inCls 0 b by simp only [inCls]; omega)).trans ((if_neg (show ¬ inCls 1 b by simp only [inCls]; omega)).trans ((if_neg (show ¬ inCls 2 b by simp only [inCls]; omega)).trans (if_neg (show ¬ inCls 3 b by simp only [inCls]; omega))))
            unfold Hid bendB; rw [this]; rfl
          go_enter Tryd.func67, Tryd.ntmps67
          go_wp2_with fail
          refine (addO 15 4 HO0.out HG.out (by first | omega | (simp only [bAdd_size]; omega)) (by omega) (Nat.le_trans hB (keeps_size HK0.out))).mono ?_
          rintro e w1 ⟨v1, rfl, ho, hk⟩
          have HO1 := hid ho
          have HK1 := hid (HK0.out.trans hk)
          have HX1 := hid (kbox HX0.out hk (by decide))
          clear ho hk
          go_wp2_with fail
          refine (addO b 64 HO1.out (HG.out.add _ _) (by first | omega | (simp only [bAdd_size]; omega)) (by omega) (Nat.le_trans hB (keeps_size HK1.out))).mono ?_
          rintro e w2 ⟨v2, rfl, ho, hk⟩
          have HO2 := hid ho
          have HK2 := hid (HK1.out.trans hk)
          have HX2 := hid (kbox HX1.out hk (by decide))
          clear ho hk
          obtain ⟨a', n', cap', rfl, ho'⟩ := HO2.out
          have hx := HX2.out
          have z0 := two0 hx
          have z1 := two1 hx
          have f0 := twof (o := 0) hx
          have f1 := twof (o := 1) hx
          have HSE := hid (fun sz => store_end (sz := sz) hx (by decide) (show w.heap.size ≤ w.heap.size + 1 by omega) hB HK2.out ho')
          clear hx ho'
          go_wp2
          obtain ⟨r1, r2, r3⟩ := HSE.out _
          have y0 := two0 r1
          have y1 := two1 r1
          refine bodyPost_ret (v := .agg #[.slice a' n' cap', _]) (by simp [results, Tryd.results67, go_sem, y0, y1]; rfl) rfl ⟨_, rfl, ?_, r3⟩
          rw [HE.out]
          exact ⟨a', n', cap', rfl, r2⟩
        · have HE : Hid (bendB p b = bAdd (bAdd p (IntKind.u64.wrap 14) 4) (IntKind.u64.wrap (b + 2047)) 12) := by
            have : bendI b = 3 := (if_neg (show ¬ inCls 0 b by simp only [inCls]; omega)).trans ((if_neg (show ¬ inCls 1 b by simp only [inCls]; omega)).trans ((if_neg (show ¬ inCls 2 b by simp only [inCls]; omega)).trans (if_pos (show inCls 3 b by simp only [inCls]; omega))))
            unfold Hid bendB; rw [this, wrap_id (x := b + 2047) (by omega) (by omega)]; rfl
          go_enter Tryd.func67, Tryd.ntmps67
          go_wp2_with fail
          refine (addO 14 4 HO0.out HG.out (by first | omega | (simp only [bAdd_size]; omega)) (by omega) (Nat.le_trans hB (keeps_size HK0.out))).mono ?_
          rintro e w1 ⟨v1, rfl, ho, hk⟩
          have HO1 := hid ho
          have HK1 := hid (HK0.out.trans hk)
          have HX1 := hid (kbox HX0.out hk (by decide))
          clear ho hk
          go_wp2_with fail
          refine (addO (b + 2047) 12 HO1.out (HG.out.add _ _) (by first | omega | (simp only [bAdd_size]; omega)) (by omega) (Nat.le_trans hB (keeps_size HK1.out))).mono ?_
          rintro e w2 ⟨v2, rfl, ho, hk⟩
          have HO2 := hid ho
          have HK2 := hid (HK1.out.trans hk)
          have HX2 := hid (kbox HX1.out hk (by decide))
          clear ho hk
          obtain ⟨a', n', cap', rfl, ho'⟩ := HO2.out
          have hx := HX2.out
          have z0 := two0 hx
          have z1 := two1 hx
          have f0 := twof (o := 0) hx
          have f1 := twof (o := 1) hx
          have HSE := hid (fun sz => store_end (sz := sz) hx (by decide) (show w.heap.size ≤ w.heap.size + 1 by omega) hB HK2.out ho')
          clear hx ho'
          go_wp2
          obtain ⟨r1, r2, r3⟩ := HSE.out _
          have y0 := two0 r1
          have y1 := two1 r1
          refine bodyPost_ret (v := .agg #[.slice a' n' cap', _]) (by simp [results, Tryd.results67, go_sem, y0, y1]; rfl) rfl ⟨_, rfl, ?_, r3⟩
          rw [HE.out]
          exact ⟨a', n', cap', rfl, r2⟩
      · have HE : Hid (bendB p b = bAdd (bAdd p (IntKind.u64.wrap 6) 3) (IntKind.u64.wrap (b + 255)) 9) := by
          have : bendI b = 2 := (if_neg (show ¬ inCls 0 b by simp only [inCls]; omega)).trans ((if_neg (show ¬ inCls 1 b by simp only [inCls]; omega)).trans (if_pos (show inCls 2 b by simp only [inCls]; omega)))
          unfold Hid bendB; rw [this, wrap_id (x := b + 255) (by omega) (by omega)]; rfl
        go_enter Tryd.func67, Tryd.ntmps67
        go_wp2_with fail
        refine (addO 6 3 HO0.out HG.out (by first | omega | (simp only [bAdd_size]; omega)) (by omega) (Nat.le_trans hB (keeps_size HK0.out))).mono ?_
        rintro e w1 ⟨v1, rfl, ho, hk⟩
        have HO1 := hid ho
        have HK1 := hid (HK0.out.trans hk)
        have HX1 := hid (kbox HX0.out hk (by decide))
        clear ho hk
        go_wp2_with fail
        refine (addO (b + 255) 9 HO1.out (HG.out.add _ _) (by first | omega | (simp only [bAdd_size]; omega)) (by omega) (Nat.le_trans hB (keeps_size HK1.out))).mono ?_
        rintro e w2 ⟨v2, rfl, ho, hk⟩
        have HO2 := hid ho
        have HK2 := hid (HK1.out.trans hk)
        have HX2 := hid (kbox HX1.out hk (by decide))
        clear ho hk
        obtain ⟨a', n', cap', rfl, ho'⟩ := HO2.out
        have hx := HX2.out
        have z0 := two0 hx
        have z1 := two1 hx
        have f0 := twof (o := 0) hx
        have f1 := twof (o := 1) hx
        have HSE := hid (fun sz => store_end (sz := sz) hx (by decide) (show w.heap.size ≤ w.heap.size + 1 by omega) hB HK2.out ho')
        clear hx ho'
        go_wp2
        obtain ⟨r1, r2, r3⟩ := HSE.out _
        have y0 := two0 r1
        have y1 := two1 r1
        refine bodyPost_ret (v := .agg #[.slice a' n' cap', _]) (by simp [results, Tryd.results67, go_sem, y0, y1]; rfl) rfl ⟨_, rfl, ?_, r3⟩
        rw [HE.out]
        exact ⟨a', n', cap', rfl, r2⟩
    · by_cases a4 : 64 < b
      · by_cases a5 : 256 < b
        · by_cases a6 : 2048 < b
          · have HE : Hid (bendB p b = bAdd (bAdd p (IntKind.u64.wrap 15) 4) (IntKind.u64.wrap b) 64) := by
              have : bendI b = 4 := (if_neg (show ¬ inCls 0 b by simp only [inCls]; omega)).trans ((if_neg (show ¬ inCls 1 b by simp only [inCls]; omega)).trans ((if_neg (show ¬ inCls 2 b by simp only [inCls]; omega)).trans (if_neg (show ¬ inCls 3 b by simp only [inCls]; omega))))
              unfold Hid bendB; rw [this]; rfl
            go_enter Tryd.func67, Tryd.ntmps67
            go_wp2_with fail
            refine (addO 15 4 HO0.out HG.out (by first | omega | (simp only [bAdd_size]; omega)) (by omega) (Nat.le_trans hB (keeps_size HK0.out))).mono ?_
            rintro e w1 ⟨v1, rfl, ho, hk⟩
            have HO1 := hid ho
            have HK1 := hid (HK0.out.trans hk)
            have HX1 := hid (kbox HX0.out hk (by decide))
            clear ho hk
            go_wp2_with fail
            refine (addO b 64 HO1.out (HG.out.add _ _) (by first | omega | (simp only [bAdd_size]; omega)) (by omega) (Nat.le_trans hB (keeps_size HK1.out))).mono ?_
            rintro e w2 ⟨v2, rfl, ho, hk⟩
            have HO2 := hid ho
            have HK2 := hid (HK1.out.trans hk)
            have HX2 := hid (kbox HX1.out hk (by decide))
            clear ho hk
            obtain ⟨a', n', cap', rfl, ho'⟩ := HO2.out
            have hx := HX2.out
            have z0 := two0 hx
            have z1 := two1 hx
            have f0 := twof (o := 0) hx
            have f1 := twof (o := 1) hx
            have HSE := hid (fun sz => store_end (sz := sz) hx (by decide) (show w.heap.size ≤ w.heap.size + 1 by omega) hB HK2.out ho')
            clear hx ho'
            go_wp2
            obtain ⟨r1, r2, r3⟩ := HSE.out _
            have y0 := two0 r1
            have y1 := two1 r1
            refine bodyPost_ret (v := .agg #[.slice a' n' cap', _]) (by simp [results, Tryd.results67, go_sem, y0, y1]; rfl) rfl ⟨_, rfl, ?_, r3⟩
            rw [HE.out]
            exact ⟨a', n', cap', rfl, r2⟩
          · have HE : Hid (bendB p b = bAdd (bAdd p (IntKind.u64.wrap 14) 4) (IntKind.u64.wrap (b + 2047)) 12) := by
              have : bendI b = 3 := (if_neg (show ¬ inCls 0 b by simp only [inCls]; omega)).trans ((if_neg (show ¬ inCls 1 b by simp only [inCls]; omega)).trans ((if_neg (show ¬ inCls 2 b by simp only [inCls]; omega)).trans (if_pos (show inCls 3 b by simp only [inCls]; omega))))
              unfold Hid bendB; rw [this, wrap_id (x := b + 2047) (by omega) (by omega)]; rfl
            go_enter Tryd.func67, Tryd.ntmps67
            go_wp2_with fail
            refine (addO 14 4 HO0.out HG.out (by first | omega | (simp only [bAdd_size]; omega)) (by omega) (Nat.le_trans hB (keeps_size HK0.out))).mono ?_
            rintro e w1 ⟨v1, rfl, ho, hk⟩
            have HO1 := hid ho
            have HK1 := hid (HK0.out.trans hk)
            have HX1 := hid (kbox HX0.out hk (by decide))
            clear ho hk
            go_wp2_with fail
            refine (addO (b + 2047) 12 HO1.out (HG.out.add _ _) (by first | omega | (simp only [bAdd_size]; omega)) (by omega) (Nat.le_trans hB (keeps_size HK1.out))).mono ?_
            rintro e w2 ⟨v2, rfl, ho, hk⟩
            have HO2 := hid ho
            have HK2 := hid (HK1.out.trans hk)
            have HX2 := hid (kbox HX1.out hk (by decide))
            clear ho hk
            obtain ⟨a', n', cap', rfl, ho'⟩ := HO2.out
            have hx := HX2.out
            have z0 := two0 hx
            have z1 := two1 hx
            have f0 := twof (o := 0) hx
            have f1 := twof (o := 1) hx
            have HSE := hid (fun sz => store_end (sz := sz) hx (by decide) (show w.heap.size ≤ w.heap.size + 1 by omega) hB HK2.out ho')
            clear hx ho'
            go_wp2
            obtain ⟨r1, r2, r3⟩ := HSE.out _
            have y0 := two0 r1
            have y1 := two1 r1
            refine bodyPost_ret (v := .agg #[.slice a' n' cap', _]) (by simp [results, Tryd.results67, go_sem, y0, y1]; rfl) rfl ⟨_, rfl, ?_, r3⟩
            rw [HE.out]
            exact ⟨a', n', cap', rfl, r2⟩
        · have HE : Hid (bendB p b = bAdd (bAdd p (IntKind.u64.wrap 6) 3) (IntKind.u64.wrap (b + 255)) 9) := by
            have : bendI b = 2 := (if_neg (show ¬ inCls 0 b by simp only [inCls]; omega)).trans ((if_neg (show ¬ inCls 1 b by simp only [inCls]; omega)).trans (if_pos (show inCls 2 b by simp only [inCls]; omega)))
            unfold Hid bendB; rw [this, wrap_id (x := b + 255) (by omega) (by omega)]; rfl
          go_enter Tryd.func67, Tryd.ntmps67
          go_wp2_with fail
          refine (addO 6 3 HO0.out HG.out (by first | omega | (simp only [bAdd_size]; omega)) (by omega) (Nat.le_trans hB (keeps_size HK0.out))).mono ?_
          rintro e w1 ⟨v1, rfl, ho, hk⟩
          have HO1 := hid ho
          have HK1 := hid (HK0.out.trans hk)
          have HX1 := hid (kbox HX0.out hk (by decide))
          clear ho hk
          go_wp2_with fail
          refine (addO (b + 255) 9 HO1.out (HG.out.add _ _) (by first | omega | (simp only [bAdd_size]; omega)) (by omega) (Nat.le_trans hB (keeps_size HK1.out))).mono ?_
          rintro e w2 ⟨v2, rfl, ho, hk⟩
          have HO2 := hid ho
          have HK2 := hid (HK1.out.trans hk)
          have HX2 := hid (kbox HX1.out hk (by decide))
          clear ho hk
          obtain ⟨a', n', cap', rfl, ho'⟩ := HO2.out
          have hx := HX2.out
          have z0 := two0 hx
          have z1 := two1 hx
          have f0 := twof (o := 0) hx
          have f1 := twof (o := 1) hx
          have HSE := hid (fun sz => store_end (sz := sz) hx (by decide) (show w.heap.size ≤ w.heap.size + 1 by omega) hB HK2.out ho')
          clear hx ho'
          go_wp2
          obtain ⟨r1, r2, r3⟩ := HSE.out _
          have y0 := two0 r1
          have y1 := two1 r1
          refine bodyPost_ret (v := .agg #[.slice a' n' cap', _]) (by simp [results, Tryd.results67, go_sem, y0, y1]; rfl) rfl ⟨_, rfl, ?_, r3⟩
          rw [HE.out]
          exact ⟨a', n', cap', rfl, r2⟩
      · have HE : Hid (bendB p b = bAdd (bAdd p (IntKind.u64.wrap 2) 2) (IntKind.u64.wrap (b + 63)) 7) := by
          have : bendI b = 1 := (if_neg (show ¬ inCls 0 b by simp only [inCls]; omega)).trans (if_pos (show inCls 1 b by simp only [inCls]; omega))
          unfold Hid bendB; rw [this, wrap_id (x := b + 63) (by omega) (by omega)]; rfl
        go_enter Tryd.func67, Tryd.ntmps67
        go_wp2_with fail
        refine (addO 2 2 HO0.out HG.out (by first | omega | (simp only [bAdd_size]; omega)) (by omega) (Nat.le_trans hB (keeps_size HK0.out))).mono ?_
        rintro e w1 ⟨v1, rfl, ho, hk⟩
        have HO1 := hid ho
        have HK1 := hid (HK0.out.trans hk)
        have HX1 := hid (kbox HX0.out hk (by decide))
        clear ho hk
        go_wp2_with fail
        refine (addO (b + 63) 7 HO1.out (HG.out.add _ _) (by first | omega | (simp only [bAdd_size]; omega)) (by omega) (Nat.le_trans hB (keeps_size HK1.out))).mono ?_
        rintro e w2 ⟨v2, rfl, ho, hk⟩
        have HO2 := hid ho
        have HK2 := hid (HK1.out.trans hk)
        have HX2 := hid (kbox HX1.out hk (by decide))
        clear ho hk
        obtain ⟨a', n', cap', rfl, ho'⟩ := HO2.out
        have hx := HX2.out
        have z0 := two0 hx
        have z1 := two1 hx
        have f0 := twof (o := 0) hx
        have f1 := twof (o := 1) hx
        have HSE := hid (fun sz => store_end (sz := sz) hx (by decide) (show w.heap.size ≤ w.heap.size + 1 by omega) hB HK2.out ho')
        clear hx ho'
        go_wp2
        obtain ⟨r1, r2, r3⟩ := HSE.out _
        have y0 := two0 r1
        have y1 := two1 r1
        refine bodyPost_ret (v := .agg #[.slice a' n' cap', _]) (by simp [results, Tryd.results67, go_sem, y0, y1]; rfl) rfl ⟨_, rfl, ?_, r3⟩
        rw [HE.out]
        exact ⟨a', n', cap', rfl, r2⟩
end Go.Proofs.YteblbcbfaomdmaaDoor.Chk
