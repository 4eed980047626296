/- The model's chunk: l6Pack. -/
import Derived.Test.YteblbcbfaomdmaaDoorVe
namespace Go.Proofs.YteblbcbfaomdmaaDoor.Chk
open Go.RowKit Go.Proofs.YteblbcbfaomdmaaDoor.Bts
open Go.Proofs.YteblbcbfaomdmaaDoor.Smp hiding hid ret_int below_drewN

theorem keeps_drewN {B : Nat} {a b : World} (h : Keeps B a b) (q : Nat) : Keeps B a (b.drewN q) := ⟨⟨h.below.os, h.below.tape, h.below.output, h.below.size, h.below.block⟩, h.other⟩
theorem own_nilB (w : World) (B : Nat) : OwnB w B (.agg #[.slice none 0 0, .int .i64 0]) ([], 0) := ⟨none, 0, 0, rfl, World.ownsRow_nil w B 5 1⟩
/-- lead and trail of the model. -/
def LT (f : Fm) (l t : Int) : Prop := (f = none ∧ l = -1 ∧ t = 0) ∨ ∃ x y : Nat, f = some (x, y) ∧ l = x ∧ t = y
theorem row_heap {w w' : World} {base e size n : Nat} {v : Value} {xs : List Value} (h : w.ownsRow base e size v n xs) (he : w'.heap = w.heap) : w'.ownsRow base e size v n xs := by
  refine ⟨h.1, ?_⟩
  rcases h.2 with h2 | ⟨g, cap, cur, h1, h2, h3, h4⟩
  · exact .inl h2
  · exact .inr ⟨g, cap, cur, h1, h2, by rw [he]; exact h3, h4⟩
theorem ownB_heap {w w' : World} {B : Nat} {v : Value} {p : Bt} (h : OwnB w B v p) (he : w'.heap = w.heap) : OwnB w' B v p := by
  obtain ⟨a, n, cap, h1, h2⟩ := h
  exact ⟨a, n, cap, h1, row_heap h2 he⟩
theorem keeps_heap {B : Nat} {w w' x : World} (h : Keeps B w' x) (he : w'.heap = w.heap) (h1 : w'.os = w.os) (h2 : w'.tape = w.tape) (h3 : w'.output = w.output) : Keeps B w x :=
  ⟨⟨h.below.os.trans h1, h.below.tape.trans h2, h.below.output.trans h3, by rw [← he]; exact h.below.size, fun k hk => (h.below.block k hk).trans (by rw [he])⟩, fun k cs t f ht hk => h.other k cs t f ht (by rw [he]; exact hk)⟩
/-- Boxes that stay: the bits, the sample, the answer's. -/
structure R9 (w : World) (X3 X8 : Nat) (u0 u1 s t : Value) (w' : World) : Prop where
  x3 : w'.heap[X3]? = some (.cells #[u0, u1] 26 (0, 0))
  x8 : w'.heap[X8]? = some (.cells #[s, t] 36 (0, 0))
  x2 : w'.heap[w.heap.size]? = some (.cells #[.slice none 0 0, .int .i64 0] 26 (0, 0))
  keep : Keeps w.heap.size w w'
abbrev S9 (w : World) (X3 X8 : Nat) (u0 u1 s t : Value) (w' : World) : Prop :=
  w'.cell? ⟨X3, 0, none⟩ = some u0 ∧ w'.cell? ⟨X3, 1, none⟩ = some u1 ∧ w'.cell? ⟨X8, 0, none⟩ = some s ∧ w'.cell? ⟨X8, 1, none⟩ = some t ∧ R9 w X3 X8 u0 u1 s t w'
theorem R9.s9 {w : World} {X3 X8 : Nat} {u0 u1 s t : Value} {w' : World} (h : R9 w X3 X8 u0 u1 s t w') : S9 w X3 X8 u0 u1 s t w' := ⟨two0 h.x3, two1 h.x3, two0 h.x8, two1 h.x8, h⟩
theorem S9.drew {w : World} {X3 X8 : Nat} {u0 u1 s t : Value} {W : World} (h : S9 w X3 X8 u0 u1 s t W) : S9 w X3 X8 u0 u1 s t W.drew := R9.s9 ⟨h.2.2.2.2.x3, h.2.2.2.2.x8, h.2.2.2.2.x2, h.2.2.2.2.keep.drew⟩
theorem S9.keeps {w : World} {X3 X8 : Nat} {u0 u1 s t : Value} {W W' : World} (h : S9 w X3 X8 u0 u1 s t W) (hk : Keeps w.heap.size W W') : S9 w X3 X8 u0 u1 s t W' :=
  R9.s9 ⟨kbox h.2.2.2.2.x3 hk (by decide), kbox h.2.2.2.2.x8 hk (by decide), kbox h.2.2.2.2.x2 hk (by decide), h.2.2.2.2.keep.trans hk⟩
/-- The sample in its box. -/
abbrev S8 (X8 : Nat) (s t : Value) (x : World) : Prop := x.cell? ⟨X8, 0, none⟩ = some s ∧ x.cell? ⟨X8, 1, none⟩ = some t
theorem u64_w64 {z : Int} (h0 : 0 ≤ z) (h1 : z ≤ 18446744073709551615) : IntKind.u64.wrap (wrap64 z) = z := by
  rw [IntKind.wrap_u64]; unfold wrap64; omega
theorem div_bd {z : Int} (h0 : 0 ≤ z) (h1 : z ≤ 18446744073709551615) (k : Nat) : 0 ≤ z / 2 ^ k ∧ z / 2 ^ k ≤ 18446744073709551615 :=
  ⟨Int.ediv_nonneg h0 (Int.le_of_lt (Int.pow_pos (by decide))), Int.le_trans (Int.ediv_le_self _ h0) h1⟩
/-- Where the model stands. -/
structure At (w : World) (ls : List Sm) (X3 k : Nat) (lead trail step : Int) (wr : World) : Prop where
  lt : LT (packK ls k).f lead trail
  st : step = (packK ls k).step
  box : ∃ a n cap, wr.heap[X3]? = some (.cells #[.slice a n cap, .int .i64 ((packK ls k).b.2 : Int)] 26 (0, 0)) ∧ wr.ownsRow w.heap.size 5 1 (.slice a n cap) n ((packK ls k).b.1.map (Value.int .u8))
  res : wr.heap[w.heap.size]? = some (.cells #[.slice none 0 0, .int .i64 0] 26 (0, 0))
  keep : Keeps w.heap.size w wr
theorem below_undrew' {B : Nat} {a w : World} (h : Keeps B a.drew w) : Keeps B a w := ⟨⟨h.below.os, h.below.tape, h.below.output, h.below.size, h.below.block⟩, h.other⟩

set_option maxRecDepth 100000 in
set_option maxHeartbeats 8000000 in
theorem f48 (a : Option Addr) (c : Nat) (ls : List Sm) (w : World) (hg : GoodP ls) (h120 : ls.length ≤ 120) (hr : HasS w a ls) :
    Calls Tryd.prog 48 #[.slice a ls.length c] w fun e w' => ∃ v, e = .returned v ∧ OwnB w' w.heap.size v (packK ls ls.length).b ∧ Below w.heap.size w w' := by
  have HG := hid hg
  have HR := hid hr
  have HX0 := hid (heap_alloc_new w (.cells #[.slice none 0 0, .int .i64 0] 26))
  have HK0 := hid ((Keeps.refl w.heap.size w).alloc (Nat.le_refl _) (.cells #[.slice none 0 0, .int .i64 0] 26))
  generalize hn : ls.length = n at *
  have HN := hid hn
  clear hg hr hn
  go_enter Tryd.func48, Tryd.ntmps48
  go_wp2_with fail
  refine (addO (n : Int) 8 (own_nilB _ w.heap.size) G_nil (by simp) (by omega) (by simp)).mono ?_
  rintro e w1 ⟨v1, rfl, ho, hk⟩
  rw [wrap_id (by omega) (by omega)] at ho
  obtain ⟨a1, n1, cap1, rfl, ho1⟩ := ho
  have HK1 := hid (HK0.out.trans hk)
  have HX1 := hid (kbox HX0.out hk (by decide))
  have HXA := hid (heap_alloc_new w1 (.cells #[.slice a1 n1 cap1, .int .i64 8] 26))
  have lx : w.heap.size < w1.heap.size := (Array.getElem?_eq_some_iff.1 HX1.out).1
  have HAT : Hid (At w ls w1.heap.size 0 (-1) 0 0 (w1.alloc (.cells #[.slice a1 n1 cap1, .int .i64 8] 26))) := by
    refine ⟨.inl ⟨rfl, rfl, rfl⟩, rfl, ⟨a1, n1, cap1, HXA.out, ?_⟩, ?_, HK1.out.alloc (by omega) _⟩
    · have := ho1.alloc (.cells #[.slice a1 n1 cap1, .int .i64 8] 26)
      rw [← HN.out] at this
      exact this
    · rw [Below.heap_alloc _ _ _ lx]; exact HX1.out
  obtain ⟨X3, hX3⟩ : ∃ X3, X3 = w1.heap.size := ⟨_, rfl⟩
  rw [← hX3] at HAT
  have lX3 : w.heap.size < X3 := by omega
  have HX3 := hid hX3
  clear hk ho1 hX3 lx HK0 HX0 HK1 HX1 HXA
  go_wp2
  simp only [← HX3.out]
  go_loopw [4, 5, 6, 21] (fun sl st ss si wr => ∃ (k : Nat) (lead trail step : Int), k ≤ n ∧ si = .int .i64 k ∧ sl = .int .i64 lead ∧ st = .int .i64 trail ∧ ss = .int .i64 step ∧ Hid (At w ls X3 k lead trail step wr)) (fun _ _ _ si _ => n - (intOf si).toNat)
  case atStart => exact ⟨0, -1, 0, 0, Nat.zero_le _, rfl, rfl, rfl, rfl, HAT⟩
  case round =>
    obtain ⟨k, lead, trail, step, hk, rfl, rfl, rfl, rfl, hat⟩ := hrel
    obtain ⟨a2, n2, cap2, hx3, ho3⟩ := hat.out.box
    obtain ⟨okG, okF, okS⟩ := packK_ok ls k (by omega)
    by_cases hlt : k < n
    · rcases HR.out with hr | ⟨b, off, rfl, hbl, hc⟩
      · exact absurd HN.out (by rw [hr]; simp; omega)
      have hbel := hat.out.keep.below
      obtain ⟨c0, c1⟩ := hc k (by rw [HN.out]; exact hlt)
      have d0 := (hbel.cell (p := ⟨b, off + k * 2, none⟩) hbl).trans c0
      have d1 := (hbel.cell (p := ⟨b, off + k * 2 + 1, none⟩) hbl).trans c1
      have HGT := hid (HG.out.2 k (by rw [HN.out]; exact hlt))
      have tm := HGT.out.1
      obtain ⟨tm0, tm1⟩ := tm
      have lX3r : X3 < wr.heap.size := (Array.getElem?_eq_some_iff.1 hx3).1
      have z0 := two0 hx3
      have z1 := two1 hx3
      have HO3 := hid ho3
      cases k with
      | zero =>
        have HPK : Hid (packK ls 1 = firstC (packK ls 0) (ls.getD 0 e0)) := rfl
        clear c0 c1 hc hbel ho3
        simp only [Nat.zero_mul, Nat.add_zero] at d0 d1
        generalize hp : ls.getD 0 e0 = p at *
        obtain ⟨s, t⟩ := p
        simp only at d0 d1 tm0 tm1
        have HX8 := hid (heap_alloc_new wr (.cells #[.int .i64 s, .int .i64 t] 36))
        have HX3A : Hid ((wr.alloc (.cells #[.int .i64 s, .int .i64 t] 36)).heap[X3]? = some (.cells #[.slice a2 n2 cap2, .int .i64 ((packK ls 0).b.2 : Int)] 26 (0, 0))) := by
          unfold Hid; rw [Below.heap_alloc _ _ _ lX3r]; exact hx3
        have hx2 := hat.out.res
        have HX2A : Hid ((wr.alloc (.cells #[.int .i64 s, .int .i64 t] 36)).heap[w.heap.size]? = some (.cells #[.slice none 0 0, .int .i64 0] 26 (0, 0))) := by
          unfold Hid; rw [Below.heap_alloc _ _ _ (by omega)]; exact hx2
        have HKA := hid (hat.out.keep.alloc (by omega) (.cells #[.int .i64 s, .int .i64 t] 36))
        have HOW : Hid (∀ W : World, W.heap = (wr.alloc (.cells #[.int .i64 s, .int .i64 t] 36)).heap → OwnB W w.heap.size (.agg #[.slice a2 n2 cap2, .int .i64 ((packK ls 0).b.2 : Int)]) (packK ls 0).b) := fun W he => ⟨a2, n2, cap2, rfl, row_heap (HO3.out.alloc _) he⟩
        have HOKG := hid okG
        have hsz : (packK ls 0).b.2 ≤ 8 := okS
        generalize hpk : packK ls 0 = pk at *
        have HLT := hid hat.out.lt
        have HST := hid hat.out.st
        rw [hpk] at HLT HST
        have HSZ : Hid (w.heap.size ≤ (World.drew (wr.alloc (.cells #[.int .i64 s, .int .i64 t] 36))).heap.size) := by unfold Hid; show w.heap.size ≤ (wr.alloc _).heap.size; simp; omega
        have HS9 := hid (R9.s9 ⟨HX3A.out, HX8.out, HX2A.out, HKA.out⟩)
        clear hx2 hx3 hp okG okS okF
        go_wp2_with fail
        refine wp_region_held_drew (S := fun x => S8 wr.heap.size (.int .i64 s) (.int .i64 t) x) rfl ⟨two0 HX8.out, two1 HX8.out⟩ (fun hHeld => ?_)
        refine wpAnyH_take (i := 1) (oi := { dst := some 29, op := Op.fieldAddr 36 (Operand.tmp 8) 0, type := 0, pos := "l6_chunk.go:49", after := #[], guard := none }) (v := .pointer (some ⟨wr.heap.size, 0, none⟩)) rfl (by kernel_rfl) (by kernel_rfl) (by kernel_rfl) (fun _ _ _ h => h) (Or.inl ⟨by rfl, fun w hSw => by (try dsimp only at hSw); go_split_ands; go_simp⟩) (by assumption) ?_
        simp only [Act.put, List.setIfInBounds_toArray, List.set_cons_zero, List.set_cons_succ]
        refine wpAnyH_take (i := 2) (oi := { dst := some 30, op := Op.load 3 (Operand.tmp 29), type := 3, pos := "l6_chunk.go:49", after := #[{ on := 1, ground := Ground.data }], guard := none }) (v := .int .i64 s) rfl (by kernel_rfl) (by kernel_rfl) (by kernel_rfl) (fun _ _ _ h => h) (Or.inl ⟨by rfl, fun w hSw => by (try dsimp only at hSw); go_split_ands; go_simp⟩) (by assumption) ?_
        simp only [Act.put, List.setIfInBounds_toArray, List.set_cons_zero, List.set_cons_succ]
        refine wpAnyH_take (i := 4) (oi := { dst := some 32, op := Op.fieldAddr 36 (Operand.tmp 8) 1, type := 0, pos := "l6_chunk.go:49", after := #[], guard := none }) (v := .pointer (some ⟨wr.heap.size, 1, none⟩)) rfl (by kernel_rfl) (by kernel_rfl) (by kernel_rfl) (fun _ _ _ h => h) (Or.inl ⟨by rfl, fun w hSw => by (try dsimp only at hSw); go_split_ands; go_simp⟩) (by assumption) ?_
        simp only [Act.put, List.setIfInBounds_toArray, List.set_cons_zero, List.set_cons_succ]
        refine wpAnyH_take (i := 5) (oi := { dst := some 33, op := Op.load 3 (Operand.tmp 32), type := 3, pos := "l6_chunk.go:49", after := #[{ on := 4, ground := Ground.data }], guard := none }) (v := .int .i64 t) rfl (by kernel_rfl) (by kernel_rfl) (by kernel_rfl) (fun _ _ _ h => h) (Or.inl ⟨by rfl, fun w hSw => by (try dsimp only at hSw); go_split_ands; go_simp⟩) (by assumption) ?_
        simp only [Act.put, List.setIfInBounds_toArray, List.set_cons_zero, List.set_cons_succ]
        have y0 : (World.drew (wr.alloc (.cells #[.int .i64 s, .int .i64 t] 36))).cell? ⟨X3, 0, none⟩ = some (.slice a2 n2 cap2) := two0 HX3A.out
        have y1 : (World.drew (wr.alloc (.cells #[.int .i64 s, .int .i64 t] 36))).cell? ⟨X3, 1, none⟩ = some (.int .i64 (pk.b.2 : Int)) := two1 HX3A.out
        refine wpAnyH_ready (rs := [0]) (by kernel_rfl) (by simp) (AllReadyH.cons (o := { dst := some 28, op := Op.load 26 (Operand.tmp 3), type := 26, pos := "l6_chunk.go:49", after := #[], guard := none }) rfl ?_ AllReadyH.nil)
        intro K0 hK0
        go_simp
        refine hK0.out _ _ hHeld (fun _ => ?_)
        clear hK0 K0 y0 y1
        refine wpAnyH_ready (rs := [3]) (by kernel_rfl) (by simp) (AllReadyH.cons (o := { dst := some 31, op := Op.call { callee := Callee.value (Operand.func 66), args := #[Operand.tmp 28, Operand.tmp 30, Operand.const (Value.int IntKind.i64 40)], argTypes := #[26, 3, 3] }, type := 26, pos := "l6_chunk.go:49", after := #[{ on := 0, ground := Ground.data }, { on := 2, ground := Ground.data }], guard := none }) rfl ?_ AllReadyH.nil)
        intro K1 hK1
        go_simp
        go_wp2_with (go_at_call 66; refine (addO s 40 (HOW.out (World.drew (wr.alloc (.cells #[.int .i64 s, .int .i64 t] 36))) rfl) HOKG.out (by omega) (by omega) HSZ.out).mono ?_; rintro e w2 ⟨v2, rfl, ho2, hk2⟩)
        have HX8b := hid (kbox (w := World.drew (wr.alloc (.cells #[.int .i64 s, .int .i64 t] 36))) HX8.out hk2 (by decide))
        have HX3b := hid (kbox (w := World.drew (wr.alloc (.cells #[.int .i64 s, .int .i64 t] 36))) HX3A.out hk2 (by decide))
        have HX2b := hid (kbox (w := World.drew (wr.alloc (.cells #[.int .i64 s, .int .i64 t] 36))) HX2A.out hk2 (by decide))
        have HKb := hid (HKA.out.trans (below_undrew' hk2))
        have hS2 : S8 wr.heap.size (.int .i64 s) (.int .i64 t) w2 := ⟨two0 HX8b.out, two1 HX8b.out⟩
        refine hK1.out _ _ hS2 (fun _ => ?_)
        clear hK1 K1 hHeld hk2
        refine wpAnyH_ready (rs := [6]) (by kernel_rfl) (by simp) (AllReadyH.cons (o := { dst := some 34, op := Op.call { callee := Callee.value (Operand.func 66), args := #[Operand.tmp 31, Operand.tmp 33, Operand.const (Value.int IntKind.i64 64)], argTypes := #[26, 3, 3] }, type := 26, pos := "l6_chunk.go:49", after := #[{ on := 3, ground := Ground.data }, { on := 5, ground := Ground.data }, { on := 3, ground := Ground.chain }], guard := none }) rfl ?_ AllReadyH.nil)
        intro K2 hK2
        go_simp
        go_wp2_with (go_at_call 66; refine (addO t 64 ho2 (HOKG.out.add _ _) (by simp only [bAdd_size]; omega) (by omega) HKb.out.below.size).mono ?_; rintro e w3 ⟨v3, rfl, ho3, hk3⟩)
        have HX8c := hid (kbox HX8b.out hk3 (by decide))
        have HX3c := hid (kbox HX3b.out hk3 (by decide))
        have HX2c := hid (kbox HX2b.out hk3 (by decide))
        have HKc := hid (HKb.out.trans hk3)
        have hS3 : S8 wr.heap.size (.int .i64 s) (.int .i64 t) w3 := ⟨two0 HX8c.out, two1 HX8c.out⟩
        refine hK2.out _ _ hS3 (fun _ => ?_)
        clear hK2 K2 hS2 hk3 ho2
        obtain ⟨a3, n3, cap3, rfl, ho4⟩ := ho3
        have HSE := hid (store_end (sz := .int .i64 ((bAdd (bAdd pk.b (IntKind.u64.wrap s) 40) (IntKind.u64.wrap t) 64).2 : Int)) HX3c.out (by decide) (by omega) (Nat.le_refl _) HKc.out ho4)
        have y0 := two0 HX3c.out
        have y1 := two1 HX3c.out
        have f0 := twof (o := 0) HX3c.out
        have f1 := twof (o := 1) HX3c.out
        have hS4 : S8 wr.heap.size (.int .i64 s) (.int .i64 t) ((w3.setCell ⟨X3, 0, none⟩ (.slice a3 n3 cap3)).setCell ⟨X3, 1, none⟩ (.int .i64 ((bAdd (bAdd pk.b (IntKind.u64.wrap s) 40) (IntKind.u64.wrap t) 64).2 : Int))) := by
          have e : ∀ k, ((w3.setCell ⟨X3, 0, none⟩ (.slice a3 n3 cap3)).setCell ⟨X3, 1, none⟩ (.int .i64 ((bAdd (bAdd pk.b (IntKind.u64.wrap s) 40) (IntKind.u64.wrap t) 64).2 : Int))).cell? ⟨wr.heap.size, k, none⟩ = w3.cell? ⟨wr.heap.size, k, none⟩ := fun k => by
            unfold World.cell?
            rw [Below.heap_setCell _ _ _ _ (by simp only; omega), Below.heap_setCell _ _ _ _ (by simp only; omega)]
          exact ⟨(e 0).trans hS3.1, (e 1).trans hS3.2⟩
        have HX2d : Hid (((w3.setCell ⟨X3, 0, none⟩ (.slice a3 n3 cap3)).setCell ⟨X3, 1, none⟩ (.int .i64 ((bAdd (bAdd pk.b (IntKind.u64.wrap s) 40) (IntKind.u64.wrap t) 64).2 : Int))).heap[w.heap.size]? = some (.cells #[.slice none 0 0, .int .i64 0] 26 (0, 0))) := by
          unfold Hid
          rw [Below.heap_setCell _ _ _ _ (by simp only; omega), Below.heap_setCell _ _ _ _ (by simp only; omega)]
          exact HX2c.out
        refine wpAnyH_ready (rs := [7]) (by kernel_rfl) (by simp) (AllReadyH.cons (o := { dst := none, op := Op.store 26 (Operand.tmp 3) (Operand.tmp 34), type := 0, pos := "l6_chunk.go:49", after := #[{ on := 6, ground := Ground.data }, { on := 6, ground := Ground.chain }, { on := 0, ground := Ground.phase }, { on := 1, ground := Ground.phase }, { on := 2, ground := Ground.phase }, { on := 3, ground := Ground.phase }, { on := 4, ground := Ground.phase }, { on := 5, ground := Ground.phase }, { on := 6, ground := Ground.phase }], guard := none }) rfl ?_ AllReadyH.nil)
        intro K3 hK3
        go_simp
        refine hK3.out _ _ hS4 (fun _ => ?_)
        clear hK3 K3
        refine wpAnyH_done (by kernel_rfl) ?_ _
        have HAT2 : Hid (At w ls X3 1 lead trail step ((w3.setCell ⟨X3, 0, none⟩ (.slice a3 n3 cap3)).setCell ⟨X3, 1, none⟩ (.int .i64 ((bAdd (bAdd pk.b (IntKind.u64.wrap s) 40) (IntKind.u64.wrap t) 64).2 : Int)))) := by
          refine ⟨?_, ?_, ⟨a3, n3, cap3, ?_, ?_⟩, HX2d.out, HSE.out.2.2⟩
          · rw [HPK.out]; exact HLT.out
          · rw [HPK.out]; exact HST.out
          · rw [HPK.out]; exact HSE.out.1
          · rw [HPK.out]; exact HSE.out.2.1
        obtain ⟨w4, hw4⟩ : ∃ w4, w4 = ((w3.setCell ⟨X3, 0, none⟩ (.slice a3 n3 cap3)).setCell ⟨X3, 1, none⟩ (.int .i64 ((bAdd (bAdd pk.b (IntKind.u64.wrap s) 40) (IntKind.u64.wrap t) 64).2 : Int))) := ⟨_, rfl⟩
        rw [← hw4] at HAT2 ⊢
        clear hw4 hS4 hS3 HSE HX2d y0 y1 f0 f1 ho4 HX8c HX3c HX2c HKc
        go_wp2
        go_roundw
        case rel => exact ⟨1, lead, trail, step, by omega, by go_num, rfl, rfl, rfl, HAT2⟩
        case measure => simp [intOf]; omega
      | succ j =>
        have HPK : Hid (packK ls (j + 1 + 1) = nextC (packK ls (j + 1)) (ls.getD (j + 1) e0)) := by
          unfold Hid
          rw [packK, if_neg (by omega)]
        obtain ⟨lt1, lv1, st0, st1⟩ := packK_last HG.out j (by rw [HN.out]; omega)
        have HS1 : Hid (j = 0 → (packK ls (j + 1)).step = 0) := by rintro rfl; rfl
        obtain ⟨p0, p1⟩ := hc j (by rw [HN.out]; omega)
        have e0' := (hbel.cell (p := ⟨b, off + j * 2, none⟩) hbl).trans p0
        have e1' := (hbel.cell (p := ⟨b, off + j * 2 + 1, none⟩) hbl).trans p1
        have hrise := HGT.out.2 (by omega)
        have hprev := (HG.out.2 j (by rw [HN.out]; omega)).1
        simp only [Nat.add_sub_cancel] at hrise
        have lb : b < wr.heap.size := Nat.lt_of_lt_of_le hbl hat.out.keep.below.size
        clear c0 c1 hc hbel ho3 p0 p1
        generalize hp : ls.getD (j + 1) e0 = p at *
        generalize hq : ls.getD j e0 = q at *
        obtain ⟨s, t⟩ := p
        obtain ⟨s', t'⟩ := q
        obtain ⟨hpr0, hpr1⟩ := hprev
        simp only at d0 d1 e0' e1' tm0 tm1 hrise lt1 lv1 hpr0 hpr1
        have HX8 := hid (heap_alloc_new wr (.cells #[.int .i64 s, .int .i64 t] 36))
        have HX3A : Hid ((wr.alloc (.cells #[.int .i64 s, .int .i64 t] 36)).heap[X3]? = some (.cells #[.slice a2 n2 cap2, .int .i64 ((packK ls (j + 1)).b.2 : Int)] 26 (0, 0))) := by
          unfold Hid; rw [Below.heap_alloc _ _ _ lX3r]; exact hx3
        have hx2 := hat.out.res
        have HX2A : Hid ((wr.alloc (.cells #[.int .i64 s, .int .i64 t] 36)).heap[w.heap.size]? = some (.cells #[.slice none 0 0, .int .i64 0] 26 (0, 0))) := by
          unfold Hid; rw [Below.heap_alloc _ _ _ (by omega)]; exact hx2
        have HKA := hid (hat.out.keep.alloc (by omega) (.cells #[.int .i64 s, .int .i64 t] 36))
        have HOA := hid (HO3.out.alloc (.cells #[.int .i64 s, .int .i64 t] 36))
        have HOKG := hid okG
        have hsz : (packK ls (j + 1)).b.2 ≤ 20000 := by omega
        have HOF := hid okF
        have HLT := hid hat.out.lt
        have hst := hat.out.st
        rw [← hst] at st0 st1 HS1
        generalize hpk : packK ls (j + 1) = pk at *
        have HST := hid hst
        have HLt := hid lt1
        have HLv := hid lv1
        clear hx2 hx3 hp hq okG okS okF z0 z1 hst hat lt1 lv1 hpk
        have i1 : (j : Int) < (n : Int) := by omega
        have i2 : (0 : Int) ≤ (j : Int) := by omega
        have hw1 : IntKind.i64.wrap (j : Int) = (j : Int) := by rw [IntKind.wrap_i64]; omega
        have hw2 : IntKind.i64.wrap (s - s') = s - s' := by rw [IntKind.wrap_i64]; omega
        have hw3 : IntKind.i64.wrap (s - s' - step) = s - s' - step := by rw [IntKind.wrap_i64]; omega
        have hk1 : ¬ (j : Int) + 1 = 0 := by omega
        go_wp2
        go_quiet (fail)
        obtain ⟨W1, hW1⟩ : ∃ W1, W1 = (wr.alloc (.cells #[.int .i64 s, .int .i64 t] 36)).drewN nq := ⟨_, rfl⟩
        rw [← hW1]
        have HX8b : Hid (W1.heap[wr.heap.size]? = some (.cells #[.int .i64 s, .int .i64 t] 36 (0, 0))) := by rw [hW1]; exact HX8.out
        have HX3b : Hid (W1.heap[X3]? = some (.cells #[.slice a2 n2 cap2, .int .i64 (pk.b.2 : Int)] 26 (0, 0))) := by rw [hW1]; exact HX3A.out
        have HX2b : Hid (W1.heap[w.heap.size]? = some (.cells #[.slice none 0 0, .int .i64 0] 26 (0, 0))) := by rw [hW1]; exact HX2A.out
        have HKb : Hid (Keeps w.heap.size w W1) := by rw [hW1]; exact keeps_drewN HKA.out nq
        have HOb : Hid (OwnB W1 w.heap.size (.agg #[.slice a2 n2 cap2, .int .i64 (pk.b.2 : Int)]) pk.b) := ⟨a2, n2, cap2, rfl, row_heap HOA.out (by rw [hW1]; rfl)⟩
        have c1b : W1.cell? ⟨b, off + j * 2 + 1, none⟩ = some (.int .i64 t') := by rw [hW1]; exact (Below.cell ((Below.refl wr.heap.size wr).alloc (Nat.le_refl _) (.cells #[.int .i64 s, .int .i64 t] 36)) (p := ⟨b, off + j * 2 + 1, none⟩) lb).trans e1'
        have z0 := two0 HX3b.out
        have z1 := two1 HX3b.out
        clear hW1 HX8 HX3A HX2A HKA HOA e0' e1' d0 d1 HO3 nq
        by_cases hj : j = 0
        · have hj1 : ((j : Int) + 1 == 1) = true := by rw [hj]; rfl
          obtain rfl : step = 0 := HS1.out hj
          clear hj
          go_wp2_with fail
          refine (f67 (s - s') _ HOb.out HOKG.out (by omega) HKb.out.below.size (by omega) (by omega)).mono ?_
          rintro e w2 ⟨v2, rfl, ho2, hk2⟩
          have HX8c := hid (kbox HX8b.out hk2 (by decide))
          have HX3c := hid (kbox HX3b.out hk2 (by decide))
          have HX2c := hid (kbox HX2b.out hk2 (by decide))
          have HKc := hid (HKb.out.trans hk2)
          have c1c := (hk2.below.cell (p := ⟨b, off + j * 2 + 1, none⟩) hbl).trans c1b
          obtain ⟨a3, n3, cap3, rfl, ho3⟩ := ho2
          have HSE := hid (store_end (sz := .int .i64 ((bendB pk.b (s - s')).2 : Int)) HX3c.out (by decide) (by omega) (Nat.le_refl _) HKc.out ho3)
          obtain ⟨w3, hw3⟩ : ∃ w3, w3 = ((w2.setCell ⟨X3, 0, none⟩ (.slice a3 n3 cap3)).setCell ⟨X3, 1, none⟩ (.int .i64 ((bendB pk.b (s - s')).2 : Int))) := ⟨_, rfl⟩
          have hcell : ∀ (k o : Nat), k ≠ X3 → w3.cell? ⟨k, o, none⟩ = w2.cell? ⟨k, o, none⟩ := fun k o hk => by
            rw [hw3]
            unfold World.cell?
            rw [Below.heap_setCell _ _ _ _ (by simp only; omega), Below.heap_setCell _ _ _ _ (by simp only; omega)]
          have hheap : ∀ k, k ≠ X3 → w3.heap[k]? = w2.heap[k]? := fun k hk => by
            rw [hw3, Below.heap_setCell _ _ _ _ (by simp only; omega), Below.heap_setCell _ _ _ _ (by simp only; omega)]
          have HX8d := hid ((hheap wr.heap.size (by omega)).trans HX8c.out)
          have HX2d := hid ((hheap w.heap.size (by omega)).trans HX2c.out)
          have c1d := (hcell b (off + j * 2 + 1) (by omega)).trans c1c
          rw [← hw3] at HSE
          have HW3 := hid hw3
          have y0 := two0 HX3c.out
          have y1 := two1 HX3c.out
          have f0 := twof (o := 0) HX3c.out
          have f1 := twof (o := 1) HX3c.out
          have HBG := hid (bendB_G HOKG.out (s - s'))
          have hbs := bendB_size pk.b (s - s')
          clear hcell hheap hk2 ho3 hw3 c1c c1b z0 z1 HX8b HX3b HX2b HKb HOb
          go_wp2
          rw [← HW3.out]
          clear HW3 y0 y1 f0 f1 HX8c HX3c HX2c HKc
          have x8 := two1 HX8d.out
          go_quiet (fail)
          obtain ⟨W4, hW4⟩ : ∃ W4, W4 = w3.drewN nq := ⟨_, rfl⟩
          rw [← hW4]
          obtain ⟨P, hP⟩ : ∃ P, P = bendB pk.b (s - s') := ⟨_, rfl⟩
          rw [← hP] at HSE HBG hbs
          obtain ⟨T, hT⟩ : ∃ T, T = bits BinOp.xor IntKind.u64 (IntKind.u64.wrap t) (IntKind.u64.wrap t') := ⟨_, rfl⟩
          rw [← hT]
          have hTb := xor_bd t t'
          rw [show xorV t t' = T from hT.symm] at hTb
          obtain ⟨hTb0, hTb1⟩ := hTb
          have HNX : Hid (packK ls (j + 1 + 1) = ⟨(turnB P pk.f T).1, s, t, s - s', (turnB P pk.f T).2⟩) := by
            unfold Hid
            rw [HPK.out, nextC, HLt.out, HLv.out, ← HST.out]
            simp only [Int.sub_zero]
            rw [← hP, show xorV t t' = T from hT.symm]
          have HX34 : Hid (W4.heap[X3]? = some (.cells #[.slice a3 n3 cap3, .int .i64 (P.2 : Int)] 26 (0, 0))) := by rw [hW4]; exact HSE.out.1
          have HX24 : Hid (W4.heap[w.heap.size]? = some (.cells #[.slice none 0 0, .int .i64 0] 26 (0, 0))) := by rw [hW4]; exact HX2d.out
          have HK4 : Hid (Keeps w.heap.size w W4) := by rw [hW4]; exact keeps_drewN HSE.out.2.2 nq
          have HO4 : Hid (OwnB W4 w.heap.size (.agg #[.slice a3 n3 cap3, .int .i64 (P.2 : Int)]) P) := ⟨a3, n3, cap3, rfl, row_heap HSE.out.2.1 (by rw [hW4]; rfl)⟩
          have z0 := two0 HX34.out
          have z1 := two1 HX34.out
          clear hW4 hP hT HSE HX8d HX2d c1d x8 nq HPK HST HLt HLv HS1
          have hPs : P.2 ≤ 20068 := by omega
          by_cases hz : T = 0
          · have hz' : (T == 0) = true := by simp [hz]
            have HE : Hid (turnB P pk.f T = (bAdd P 0 1, pk.f)) := by unfold Hid turnB; rw [if_pos hz]
            clear hz
            go_wp2_with fail
            refine (addO 0 1 HO4.out HBG.out (by omega) (by omega) HK4.out.below.size).mono ?_
            rw [show IntKind.u64.wrap 0 = 0 from rfl]
            rintro e w5 ⟨v5, rfl, ho5, hk5⟩
            have HX35 := hid (kbox HX34.out hk5 (by decide))
            have HX25 := hid (kbox HX24.out hk5 (by decide))
            have HK5 := hid (HK4.out.trans hk5)
            clear hk5 z0 z1
            obtain ⟨a9, n9, cap9, rfl, ho9⟩ := ho5
            have HSE9 := hid (store_end (sz := .int .i64 ((bAdd P 0 1).2 : Int)) HX35.out (by decide) (by omega) (Nat.le_refl _) HK5.out ho9)
            obtain ⟨w9, hw9⟩ : ∃ w9, w9 = ((w5.setCell ⟨X3, 0, none⟩ (.slice a9 n9 cap9)).setCell ⟨X3, 1, none⟩ (.int .i64 ((bAdd P 0 1).2 : Int))) := ⟨_, rfl⟩
            have HX29 : Hid (w9.heap[w.heap.size]? = some (.cells #[.slice none 0 0, .int .i64 0] 26 (0, 0))) := by
              unfold Hid
              rw [hw9, Below.heap_setCell _ _ _ _ (by simp only; omega), Below.heap_setCell _ _ _ _ (by simp only; omega)]
              exact HX25.out
            rw [← hw9] at HSE9
            have HW9 := hid hw9
            have HAT9 : Hid (At w ls X3 (j + 1 + 1) (lead) (trail) (s - s') w9) := by
              have e := HNX.out
              rw [HE.out] at e
              refine ⟨by rw [e]; exact HLT.out, by rw [e], ⟨a9, n9, cap9, by rw [e]; exact HSE9.out.1, by rw [e]; exact HSE9.out.2.1⟩, HX29.out, HSE9.out.2.2⟩
            have y0 := two0 HX35.out
            have y1 := two1 HX35.out
            have f0 := twof (o := 0) HX35.out
            have f1 := twof (o := 1) HX35.out
            clear hw9 ho9 HSE9 HX29
            go_wp2
            rw [← HW9.out]
            clear HW9
            go_roundw
            case rel => exact ⟨j + 1 + 1, _, _, _, by omega, by go_num, rfl, rfl, rfl, HAT9⟩
            case measure => simp [intOf]; omega
          have hz' : (T == 0) = false := by simp [hz]
          have hT0 : 0 < T := by omega
          clear hz
          go_wp2_with fail
          refine (f68 T _ hT0 hTb1).mono ?_
          rintro e w5 ⟨x, y, hzr, rfl, rfl⟩
          have HZ := hid hzr
          have hxy := zr_sum hzr
          have HZE := hid (zr_eq hzr)
          clear hzr
          rcases HLT.out with ⟨hf, hl, ht⟩ | ⟨l, tr, hf, hl, ht⟩
          · subst hl
            subst ht
            have HE : Hid (turnB P pk.f T = turnN P T) := by unfold Hid turnB; rw [if_neg (by omega), hf]
            clear HLT
            have HF : Hid (turnB P pk.f T = ((bAdd (bAdd (bAdd (bAdd P 3 2) (x : Int) 6) ((64 - x - y - 1 : Nat) : Int) 6) (T / 2 ^ y) (64 - x - y)), some (x, y))) := HE.out.trans (by unfold turnN; rw [HZE.out])
            clear HE HZE
            go_wp2_with fail
            have C := addO 3 2 HO4.out HBG.out (by first | omega | (simp only [bAdd_size]; omega)) (by omega) HK4.out.below.size
            refine C.mono ?_
            clear C
            rintro e w6 ⟨v6, rfl, ho6, hk6⟩
            rw [show IntKind.u64.wrap 3 = 3 from rfl] at ho6
            have HX36 := hid (kbox HX34.out hk6 (by decide))
            have HX26 := hid (kbox HX24.out hk6 (by decide))
            have HK6 := hid (HK4.out.trans hk6)
            clear hk6 HX34 HX24 HK4 HO4
            have HO6 := hid ho6
            clear ho6
            clear z0 z1
            go_wp2_with fail
            have C := addO (x : Int) 6 HO6.out (HBG.out.add _ _) (by first | omega | (simp only [bAdd_size]; omega)) (by omega) HK6.out.below.size
            refine C.mono ?_
            clear C
            rintro e w7 ⟨v7, rfl, ho7, hk7⟩
            rw [wrap_id (by omega) (by omega)] at ho7
            have HX37 := hid (kbox HX36.out hk7 (by decide))
            have HX27 := hid (kbox HX26.out hk7 (by decide))
            have HK7 := hid (HK6.out.trans hk7)
            clear hk7 HX36 HX26 HK6 HO6
            have HO7 := hid ho7
            clear ho7
            go_wp2_with fail
            have C := addO (64 - (x : Int) - (y : Int) - 1) 6 HO7.out ((HBG.out.add _ _).add _ _) (by first | omega | (simp only [bAdd_size]; omega)) (by omega) HK7.out.below.size
            refine C.mono ?_
            clear C
            rintro e w8 ⟨v8, rfl, ho8, hk8⟩
            rw [show IntKind.u64.wrap (64 - (x : Int) - (y : Int) - 1) = ((64 - x - y - 1 : Nat) : Int) by rw [wrap_id (by omega) (by omega)]; omega] at ho8
            have HX38 := hid (kbox HX37.out hk8 (by decide))
            have HX28 := hid (kbox HX27.out hk8 (by decide))
            have HK8 := hid (HK7.out.trans hk8)
            clear hk8 HX37 HX27 HK7 HO7
            have HO8 := hid ho8
            clear ho8
            go_wp2_with fail
            have C := addO (wrap64 (T / 2 ^ y)) (64 - x - y) HO8.out (((HBG.out.add _ _).add _ _).add _ _) (by first | omega | (simp only [bAdd_size]; omega)) (by omega) HK8.out.below.size
            rw [show ((64 - x - y : Nat) : Int) = 64 - (x : Int) - (y : Int) by omega] at C
            refine C.mono ?_
            clear C
            rintro e w10 ⟨v10, rfl, ho10, hk10⟩
            rw [u64_w64 (div_bd hTb0 hTb1 y).1 (div_bd hTb0 hTb1 y).2] at ho10
            have HX310 := hid (kbox HX38.out hk10 (by decide))
            have HX210 := hid (kbox HX28.out hk10 (by decide))
            have HK10 := hid (HK8.out.trans hk10)
            clear hk10 HX38 HX28 HK8 HO8
            obtain ⟨a9, n9, cap9, rfl, ho9⟩ := ho10
            have HSE9 := hid (store_end (sz := .int .i64 ((bAdd (bAdd (bAdd (bAdd P 3 2) (x : Int) 6) ((64 - x - y - 1 : Nat) : Int) 6) (T / 2 ^ y) (64 - x - y)).2 : Int)) HX310.out (by decide) (by omega) (Nat.le_refl _) HK10.out ho9)
            obtain ⟨w9, hw9⟩ : ∃ w9, w9 = ((w10.setCell ⟨X3, 0, none⟩ (.slice a9 n9 cap9)).setCell ⟨X3, 1, none⟩ (.int .i64 ((bAdd (bAdd (bAdd (bAdd P 3 2) (x : Int) 6) ((64 - x - y - 1 : Nat) : Int) 6) (T / 2 ^ y) (64 - x - y)).2 : Int))) := ⟨_, rfl⟩
            have HX29 : Hid (w9.heap[w.heap.size]? = some (.cells #[.slice none 0 0, .int .i64 0] 26 (0, 0))) := by
              unfold Hid
              rw [hw9, Below.heap_setCell _ _ _ _ (by simp only; omega), Below.heap_setCell _ _ _ _ (by simp only; omega)]
              exact HX210.out
            rw [← hw9] at HSE9
            have HW9 := hid hw9
            have HAT9 : Hid (At w ls X3 (j + 1 + 1) ((x : Int)) ((y : Int)) (s - s') w9) := by
              have e := HNX.out
              rw [HF.out] at e
              refine ⟨by rw [e]; exact .inr ⟨x, y, rfl, rfl, rfl⟩, by rw [e], ⟨a9, n9, cap9, by rw [e]; exact HSE9.out.1, by rw [e]; exact HSE9.out.2.1⟩, HX29.out, HSE9.out.2.2⟩
            have y0 := two0 HX310.out
            have y1 := two1 HX310.out
            have f0 := twof (o := 0) HX310.out
            have f1 := twof (o := 1) HX310.out
            clear hw9 ho9 HSE9 HX29
            go_wp2
            rw [← HW9.out]
            clear HW9
            go_roundw
            case rel => exact ⟨j + 1 + 1, _, _, _, by omega, by go_num, rfl, rfl, rfl, HAT9⟩
            case measure => simp [intOf]; omega
          · subst hl
            subst ht
            have hl0 : (0 : Int) ≤ (l : Int) := by omega
            have hlt3 := HOF.out l tr hf
            by_cases hc : l ≤ x ∧ tr ≤ y
            · have HE : Hid (turnB P pk.f T = ((bAdd (bAdd P 2 2) (T / 2 ^ tr) (64 - l - tr)), pk.f)) := by unfold Hid turnB; rw [if_neg (by omega), hf]; simp only; rw [HZE.out, if_pos hc]
              have hc1 : (l : Int) ≤ (x : Int) := by omega
              have hc2 : (tr : Int) ≤ (y : Int) := by omega
              go_wp2_with fail
              have C := addO 2 2 HO4.out HBG.out (by first | omega | (simp only [bAdd_size]; omega)) (by omega) HK4.out.below.size
              refine C.mono ?_
              clear C
              rintro e w6 ⟨v6, rfl, ho6, hk6⟩
              rw [show IntKind.u64.wrap 2 = 2 from rfl] at ho6
              have HX36 := hid (kbox HX34.out hk6 (by decide))
              have HX26 := hid (kbox HX24.out hk6 (by decide))
              have HK6 := hid (HK4.out.trans hk6)
              clear hk6 HX34 HX24 HK4 HO4
              have HO6 := hid ho6
              clear ho6
              clear z0 z1
              go_wp2_with fail
              have C := addO (wrap64 (T / 2 ^ tr)) (64 - l - tr) HO6.out (HBG.out.add _ _) (by first | omega | (simp only [bAdd_size]; omega)) (by omega) HK6.out.below.size
              rw [show ((64 - l - tr : Nat) : Int) = 64 - (l : Int) - (tr : Int) by omega] at C
              refine C.mono ?_
              clear C
              rintro e w7 ⟨v7, rfl, ho7, hk7⟩
              rw [u64_w64 (div_bd hTb0 hTb1 tr).1 (div_bd hTb0 hTb1 tr).2] at ho7
              have HX37 := hid (kbox HX36.out hk7 (by decide))
              have HX27 := hid (kbox HX26.out hk7 (by decide))
              have HK7 := hid (HK6.out.trans hk7)
              clear hk7 HX36 HX26 HK6 HO6
              obtain ⟨a9, n9, cap9, rfl, ho9⟩ := ho7
              have HSE9 := hid (store_end (sz := .int .i64 ((bAdd (bAdd P 2 2) (T / 2 ^ tr) (64 - l - tr)).2 : Int)) HX37.out (by decide) (by omega) (Nat.le_refl _) HK7.out ho9)
              obtain ⟨w9, hw9⟩ : ∃ w9, w9 = ((w7.setCell ⟨X3, 0, none⟩ (.slice a9 n9 cap9)).setCell ⟨X3, 1, none⟩ (.int .i64 ((bAdd (bAdd P 2 2) (T / 2 ^ tr) (64 - l - tr)).2 : Int))) := ⟨_, rfl⟩
              have HX29 : Hid (w9.heap[w.heap.size]? = some (.cells #[.slice none 0 0, .int .i64 0] 26 (0, 0))) := by
                unfold Hid
                rw [hw9, Below.heap_setCell _ _ _ _ (by simp only; omega), Below.heap_setCell _ _ _ _ (by simp only; omega)]
                exact HX27.out
              rw [← hw9] at HSE9
              have HW9 := hid hw9
              have HAT9 : Hid (At w ls X3 (j + 1 + 1) ((l : Int)) ((tr : Int)) (s - s') w9) := by
                have e := HNX.out
                rw [HE.out] at e
                refine ⟨by rw [e]; exact .inr ⟨l, tr, hf, rfl, rfl⟩, by rw [e], ⟨a9, n9, cap9, by rw [e]; exact HSE9.out.1, by rw [e]; exact HSE9.out.2.1⟩, HX29.out, HSE9.out.2.2⟩
              have y0 := two0 HX37.out
              have y1 := two1 HX37.out
              have f0 := twof (o := 0) HX37.out
              have f1 := twof (o := 1) HX37.out
              clear hw9 ho9 HSE9 HX29
              go_wp2
              rw [← HW9.out]
              clear HW9
              go_roundw
              case rel => exact ⟨j + 1 + 1, _, _, _, by omega, by go_num, rfl, rfl, rfl, HAT9⟩
              case measure => simp [intOf]; omega
            by_cases hd : l ≤ x
            · have hc1 : (l : Int) ≤ (x : Int) := by omega
              have hc2 : ¬ (tr : Int) ≤ (y : Int) := by omega
              have HE : Hid (turnB P pk.f T = turnN P T) := by unfold Hid turnB; rw [if_neg (by omega), hf]; simp only; rw [HZE.out, if_neg hc]
              clear HLT
              have HF : Hid (turnB P pk.f T = ((bAdd (bAdd (bAdd (bAdd P 3 2) (x : Int) 6) ((64 - x - y - 1 : Nat) : Int) 6) (T / 2 ^ y) (64 - x - y)), some (x, y))) := HE.out.trans (by unfold turnN; rw [HZE.out])
              clear HE HZE
              go_wp2_with fail
              have C := addO 3 2 HO4.out HBG.out (by first | omega | (simp only [bAdd_size]; omega)) (by omega) HK4.out.below.size
              refine C.mono ?_
              clear C
              rintro e w6 ⟨v6, rfl, ho6, hk6⟩
              rw [show IntKind.u64.wrap 3 = 3 from rfl] at ho6
              have HX36 := hid (kbox HX34.out hk6 (by decide))
              have HX26 := hid (kbox HX24.out hk6 (by decide))
              have HK6 := hid (HK4.out.trans hk6)
              clear hk6 HX34 HX24 HK4 HO4
              have HO6 := hid ho6
              clear ho6
              clear z0 z1
              go_wp2_with fail
              have C := addO (x : Int) 6 HO6.out (HBG.out.add _ _) (by first | omega | (simp only [bAdd_size]; omega)) (by omega) HK6.out.below.size
              refine C.mono ?_
              clear C
              rintro e w7 ⟨v7, rfl, ho7, hk7⟩
              rw [wrap_id (by omega) (by omega)] at ho7
              have HX37 := hid (kbox HX36.out hk7 (by decide))
              have HX27 := hid (kbox HX26.out hk7 (by decide))
              have HK7 := hid (HK6.out.trans hk7)
              clear hk7 HX36 HX26 HK6 HO6
              have HO7 := hid ho7
              clear ho7
              go_wp2_with fail
              have C := addO (64 - (x : Int) - (y : Int) - 1) 6 HO7.out ((HBG.out.add _ _).add _ _) (by first | omega | (simp only [bAdd_size]; omega)) (by omega) HK7.out.below.size
              refine C.mono ?_
              clear C
              rintro e w8 ⟨v8, rfl, ho8, hk8⟩
              rw [show IntKind.u64.wrap (64 - (x : Int) - (y : Int) - 1) = ((64 - x - y - 1 : Nat) : Int) by rw [wrap_id (by omega) (by omega)]; omega] at ho8
              have HX38 := hid (kbox HX37.out hk8 (by decide))
              have HX28 := hid (kbox HX27.out hk8 (by decide))
              have HK8 := hid (HK7.out.trans hk8)
              clear hk8 HX37 HX27 HK7 HO7
              have HO8 := hid ho8
              clear ho8
              go_wp2_with fail
              have C := addO (wrap64 (T / 2 ^ y)) (64 - x - y) HO8.out (((HBG.out.add _ _).add _ _).add _ _) (by first | omega | (simp only [bAdd_size]; omega)) (by omega) HK8.out.below.size
              rw [show ((64 - x - y : Nat) : Int) = 64 - (x : Int) - (y : Int) by omega] at C
              refine C.mono ?_
              clear C
              rintro e w10 ⟨v10, rfl, ho10, hk10⟩
              rw [u64_w64 (div_bd hTb0 hTb1 y).1 (div_bd hTb0 hTb1 y).2] at ho10
              have HX310 := hid (kbox HX38.out hk10 (by decide))
              have HX210 := hid (kbox HX28.out hk10 (by decide))
              have HK10 := hid (HK8.out.trans hk10)
              clear hk10 HX38 HX28 HK8 HO8
              obtain ⟨a9, n9, cap9, rfl, ho9⟩ := ho10
              have HSE9 := hid (store_end (sz := .int .i64 ((bAdd (bAdd (bAdd (bAdd P 3 2) (x : Int) 6) ((64 - x - y - 1 : Nat) : Int) 6) (T / 2 ^ y) (64 - x - y)).2 : Int)) HX310.out (by decide) (by omega) (Nat.le_refl _) HK10.out ho9)
              obtain ⟨w9, hw9⟩ : ∃ w9, w9 = ((w10.setCell ⟨X3, 0, none⟩ (.slice a9 n9 cap9)).setCell ⟨X3, 1, none⟩ (.int .i64 ((bAdd (bAdd (bAdd (bAdd P 3 2) (x : Int) 6) ((64 - x - y - 1 : Nat) : Int) 6) (T / 2 ^ y) (64 - x - y)).2 : Int))) := ⟨_, rfl⟩
              have HX29 : Hid (w9.heap[w.heap.size]? = some (.cells #[.slice none 0 0, .int .i64 0] 26 (0, 0))) := by
                unfold Hid
                rw [hw9, Below.heap_setCell _ _ _ _ (by simp only; omega), Below.heap_setCell _ _ _ _ (by simp only; omega)]
                exact HX210.out
              rw [← hw9] at HSE9
              have HW9 := hid hw9
              have HAT9 : Hid (At w ls X3 (j + 1 + 1) ((x : Int)) ((y : Int)) (s - s') w9) := by
                have e := HNX.out
                rw [HF.out] at e
                refine ⟨by rw [e]; exact .inr ⟨x, y, rfl, rfl, rfl⟩, by rw [e], ⟨a9, n9, cap9, by rw [e]; exact HSE9.out.1, by rw [e]; exact HSE9.out.2.1⟩, HX29.out, HSE9.out.2.2⟩
              have y0 := two0 HX310.out
              have y1 := two1 HX310.out
              have f0 := twof (o := 0) HX310.out
              have f1 := twof (o := 1) HX310.out
              clear hw9 ho9 HSE9 HX29
              go_wp2
              rw [← HW9.out]
              clear HW9
              go_roundw
              case rel => exact ⟨j + 1 + 1, _, _, _, by omega, by go_num, rfl, rfl, rfl, HAT9⟩
              case measure => simp [intOf]; omega
            · have hc1 : ¬ (l : Int) ≤ (x : Int) := by omega
              have HE : Hid (turnB P pk.f T = turnN P T) := by unfold Hid turnB; rw [if_neg (by omega), hf]; simp only; rw [HZE.out, if_neg hc]
              clear HLT
              have HF : Hid (turnB P pk.f T = ((bAdd (bAdd (bAdd (bAdd P 3 2) (x : Int) 6) ((64 - x - y - 1 : Nat) : Int) 6) (T / 2 ^ y) (64 - x - y)), some (x, y))) := HE.out.trans (by unfold turnN; rw [HZE.out])
              clear HE HZE
              go_wp2_with fail
              have C := addO 3 2 HO4.out HBG.out (by first | omega | (simp only [bAdd_size]; omega)) (by omega) HK4.out.below.size
              refine C.mono ?_
              clear C
              rintro e w6 ⟨v6, rfl, ho6, hk6⟩
              rw [show IntKind.u64.wrap 3 = 3 from rfl] at ho6
              have HX36 := hid (kbox HX34.out hk6 (by decide))
              have HX26 := hid (kbox HX24.out hk6 (by decide))
              have HK6 := hid (HK4.out.trans hk6)
              clear hk6 HX34 HX24 HK4 HO4
              have HO6 := hid ho6
              clear ho6
              clear z0 z1
              go_wp2_with fail
              have C := addO (x : Int) 6 HO6.out (HBG.out.add _ _) (by first | omega | (simp only [bAdd_size]; omega)) (by omega) HK6.out.below.size
              refine C.mono ?_
              clear C
              rintro e w7 ⟨v7, rfl, ho7, hk7⟩
              rw [wrap_id (by omega) (by omega)] at ho7
              have HX37 := hid (kbox HX36.out hk7 (by decide))
              have HX27 := hid (kbox HX26.out hk7 (by decide))
              have HK7 := hid (HK6.out.trans hk7)
              clear hk7 HX36 HX26 HK6 HO6
              have HO7 := hid ho7
              clear ho7
              go_wp2_with fail
              have C := addO (64 - (x : Int) - (y : Int) - 1) 6 HO7.out ((HBG.out.add _ _).add _ _) (by first | omega | (simp only [bAdd_size]; omega)) (by omega) HK7.out.below.size
              refine C.mono ?_
              clear C
              rintro e w8 ⟨v8, rfl, ho8, hk8⟩
              rw [show IntKind.u64.wrap (64 - (x : Int) - (y : Int) - 1) = ((64 - x - y - 1 : Nat) : Int) by rw [wrap_id (by omega) (by omega)]; omega] at ho8
              have HX38 := hid (kbox HX37.out hk8 (by decide))
              have HX28 := hid (kbox HX27.out hk8 (by decide))
              have HK8 := hid (HK7.out.trans hk8)
              clear hk8 HX37 HX27 HK7 HO7
              have HO8 := hid ho8
              clear ho8
              go_wp2_with fail
              have C := addO (wrap64 (T / 2 ^ y)) (64 - x - y) HO8.out (((HBG.out.add _ _).add _ _).add _ _) (by first | omega | (simp only [bAdd_size]; omega)) (by omega) HK8.out.below.size
              rw [show ((64 - x - y : Nat) : Int) = 64 - (x : Int) - (y : Int) by omega] at C
              refine C.mono ?_
              clear C
              rintro e w10 ⟨v10, rfl, ho10, hk10⟩
              rw [u64_w64 (div_bd hTb0 hTb1 y).1 (div_bd hTb0 hTb1 y).2] at ho10
              have HX310 := hid (kbox HX38.out hk10 (by decide))
              have HX210 := hid (kbox HX28.out hk10 (by decide))
              have HK10 := hid (HK8.out.trans hk10)
              clear hk10 HX38 HX28 HK8 HO8
              obtain ⟨a9, n9, cap9, rfl, ho9⟩ := ho10
              have HSE9 := hid (store_end (sz := .int .i64 ((bAdd (bAdd (bAdd (bAdd P 3 2) (x : Int) 6) ((64 - x - y - 1 : Nat) : Int) 6) (T / 2 ^ y) (64 - x - y)).2 : Int)) HX310.out (by decide) (by omega) (Nat.le_refl _) HK10.out ho9)
              obtain ⟨w9, hw9⟩ : ∃ w9, w9 = ((w10.setCell ⟨X3, 0, none⟩ (.slice a9 n9 cap9)).setCell ⟨X3, 1, none⟩ (.int .i64 ((bAdd (bAdd (bAdd (bAdd P 3 2) (x : Int) 6) ((64 - x - y - 1 : Nat) : Int) 6) (T / 2 ^ y) (64 - x - y)).2 : Int))) := ⟨_, rfl⟩
              have HX29 : Hid (w9.heap[w.heap.size]? = some (.cells #[.slice none 0 0, .int .i64 0] 26 (0, 0))) := by
                unfold Hid
                rw [hw9, Below.heap_setCell _ _ _ _ (by simp only; omega), Below.heap_setCell _ _ _ _ (by simp only; omega)]
                exact HX210.out
              rw [← hw9] at HSE9
              have HW9 := hid hw9
              have HAT9 : Hid (At w ls X3 (j + 1 + 1) ((x : Int)) ((y : Int)) (s - s') w9) := by
                have e := HNX.out
                rw [HF.out] at e
                refine ⟨by rw [e]; exact .inr ⟨x, y, rfl, rfl, rfl⟩, by rw [e], ⟨a9, n9, cap9, by rw [e]; exact HSE9.out.1, by rw [e]; exact HSE9.out.2.1⟩, HX29.out, HSE9.out.2.2⟩
              have y0 := two0 HX310.out
              have y1 := two1 HX310.out
              have f0 := twof (o := 0) HX310.out
              have f1 := twof (o := 1) HX310.out
              clear hw9 ho9 HSE9 HX29
              go_wp2
              rw [← HW9.out]
              clear HW9
              go_roundw
              case rel => exact ⟨j + 1 + 1, _, _, _, by omega, by go_num, rfl, rfl, rfl, HAT9⟩
              case measure => simp [intOf]; omega
        · have hj1 : ((j : Int) + 1 == 1) = false := by simp; omega
          clear hj
          go_wp2_with fail
          refine (f67 (s - s' - step) _ HOb.out HOKG.out (by omega) HKb.out.below.size (by omega) (by omega)).mono ?_
          rintro e w2 ⟨v2, rfl, ho2, hk2⟩
          have HX8c := hid (kbox HX8b.out hk2 (by decide))
          have HX3c := hid (kbox HX3b.out hk2 (by decide))
          have HX2c := hid (kbox HX2b.out hk2 (by decide))
          have HKc := hid (HKb.out.trans hk2)
          have c1c := (hk2.below.cell (p := ⟨b, off + j * 2 + 1, none⟩) hbl).trans c1b
          obtain ⟨a3, n3, cap3, rfl, ho3⟩ := ho2
          have HSE := hid (store_end (sz := .int .i64 ((bendB pk.b (s - s' - step)).2 : Int)) HX3c.out (by decide) (by omega) (Nat.le_refl _) HKc.out ho3)
          obtain ⟨w3, hw3⟩ : ∃ w3, w3 = ((w2.setCell ⟨X3, 0, none⟩ (.slice a3 n3 cap3)).setCell ⟨X3, 1, none⟩ (.int .i64 ((bendB pk.b (s - s' - step)).2 : Int))) := ⟨_, rfl⟩
          have hcell : ∀ (k o : Nat), k ≠ X3 → w3.cell? ⟨k, o, none⟩ = w2.cell? ⟨k, o, none⟩ := fun k o hk => by
            rw [hw3]
            unfold World.cell?
            rw [Below.heap_setCell _ _ _ _ (by simp only; omega), Below.heap_setCell _ _ _ _ (by simp only; omega)]
          have hheap : ∀ k, k ≠ X3 → w3.heap[k]? = w2.heap[k]? := fun k hk => by
            rw [hw3, Below.heap_setCell _ _ _ _ (by simp only; omega), Below.heap_setCell _ _ _ _ (by simp only; omega)]
          have HX8d := hid ((hheap wr.heap.size (by omega)).trans HX8c.out)
          have HX2d := hid ((hheap w.heap.size (by omega)).trans HX2c.out)
          have c1d := (hcell b (off + j * 2 + 1) (by omega)).trans c1c
          rw [← hw3] at HSE
          have HW3 := hid hw3
          have y0 := two0 HX3c.out
          have y1 := two1 HX3c.out
          have f0 := twof (o := 0) HX3c.out
          have f1 := twof (o := 1) HX3c.out
          have HBG := hid (bendB_G HOKG.out (s - s' - step))
          have hbs := bendB_size pk.b (s - s' - step)
          clear hcell hheap hk2 ho3 hw3 c1c c1b z0 z1 HX8b HX3b HX2b HKb HOb
          go_wp2
          rw [← HW3.out]
          clear HW3 y0 y1 f0 f1 HX8c HX3c HX2c HKc
          have x8 := two1 HX8d.out
          go_quiet (fail)
          obtain ⟨W4, hW4⟩ : ∃ W4, W4 = w3.drewN nq := ⟨_, rfl⟩
          rw [← hW4]
          obtain ⟨P, hP⟩ : ∃ P, P = bendB pk.b (s - s' - step) := ⟨_, rfl⟩
          rw [← hP] at HSE HBG hbs
          obtain ⟨T, hT⟩ : ∃ T, T = bits BinOp.xor IntKind.u64 (IntKind.u64.wrap t) (IntKind.u64.wrap t') := ⟨_, rfl⟩
          rw [← hT]
          have hTb := xor_bd t t'
          rw [show xorV t t' = T from hT.symm] at hTb
          obtain ⟨hTb0, hTb1⟩ := hTb
          have HNX : Hid (packK ls (j + 1 + 1) = ⟨(turnB P pk.f T).1, s, t, s - s', (turnB P pk.f T).2⟩) := by
            unfold Hid
            rw [HPK.out, nextC, HLt.out, HLv.out, ← HST.out]
            skip
            rw [← hP, show xorV t t' = T from hT.symm]
          have HX34 : Hid (W4.heap[X3]? = some (.cells #[.slice a3 n3 cap3, .int .i64 (P.2 : Int)] 26 (0, 0))) := by rw [hW4]; exact HSE.out.1
          have HX24 : Hid (W4.heap[w.heap.size]? = some (.cells #[.slice none 0 0, .int .i64 0] 26 (0, 0))) := by rw [hW4]; exact HX2d.out
          have HK4 : Hid (Keeps w.heap.size w W4) := by rw [hW4]; exact keeps_drewN HSE.out.2.2 nq
          have HO4 : Hid (OwnB W4 w.heap.size (.agg #[.slice a3 n3 cap3, .int .i64 (P.2 : Int)]) P) := ⟨a3, n3, cap3, rfl, row_heap HSE.out.2.1 (by rw [hW4]; rfl)⟩
          have z0 := two0 HX34.out
          have z1 := two1 HX34.out
          clear hW4 hP hT HSE HX8d HX2d c1d x8 nq HPK HST HLt HLv HS1
          have hPs : P.2 ≤ 20068 := by omega
          by_cases hz : T = 0
          · have hz' : (T == 0) = true := by simp [hz]
            have HE : Hid (turnB P pk.f T = (bAdd P 0 1, pk.f)) := by unfold Hid turnB; rw [if_pos hz]
            clear hz
            go_wp2_with fail
            refine (addO 0 1 HO4.out HBG.out (by omega) (by omega) HK4.out.below.size).mono ?_
            rw [show IntKind.u64.wrap 0 = 0 from rfl]
            rintro e w5 ⟨v5, rfl, ho5, hk5⟩
            have HX35 := hid (kbox HX34.out hk5 (by decide))
            have HX25 := hid (kbox HX24.out hk5 (by decide))
            have HK5 := hid (HK4.out.trans hk5)
            clear hk5 z0 z1
            obtain ⟨a9, n9, cap9, rfl, ho9⟩ := ho5
            have HSE9 := hid (store_end (sz := .int .i64 ((bAdd P 0 1).2 : Int)) HX35.out (by decide) (by omega) (Nat.le_refl _) HK5.out ho9)
            obtain ⟨w9, hw9⟩ : ∃ w9, w9 = ((w5.setCell ⟨X3, 0, none⟩ (.slice a9 n9 cap9)).setCell ⟨X3, 1, none⟩ (.int .i64 ((bAdd P 0 1).2 : Int))) := ⟨_, rfl⟩
            have HX29 : Hid (w9.heap[w.heap.size]? = some (.cells #[.slice none 0 0, .int .i64 0] 26 (0, 0))) := by
              unfold Hid
              rw [hw9, Below.heap_setCell _ _ _ _ (by simp only; omega), Below.heap_setCell _ _ _ _ (by simp only; omega)]
              exact HX25.out
            rw [← hw9] at HSE9
            have HW9 := hid hw9
            have HAT9 : Hid (At w ls X3 (j + 1 + 1) (lead) (trail) (s - s') w9) := by
              have e := HNX.out
              rw [HE.out] at e
              refine ⟨by rw [e]; exact HLT.out, by rw [e], ⟨a9, n9, cap9, by rw [e]; exact HSE9.out.1, by rw [e]; exact HSE9.out.2.1⟩, HX29.out, HSE9.out.2.2⟩
            have y0 := two0 HX35.out
            have y1 := two1 HX35.out
            have f0 := twof (o := 0) HX35.out
            have f1 := twof (o := 1) HX35.out
            clear hw9 ho9 HSE9 HX29
            go_wp2
            rw [← HW9.out]
            clear HW9
            go_roundw
            case rel => exact ⟨j + 1 + 1, _, _, _, by omega, by go_num, rfl, rfl, rfl, HAT9⟩
            case measure => simp [intOf]; omega
          have hz' : (T == 0) = false := by simp [hz]
          have hT0 : 0 < T := by omega
          clear hz
          go_wp2_with fail
          refine (f68 T _ hT0 hTb1).mono ?_
          rintro e w5 ⟨x, y, hzr, rfl, rfl⟩
          have HZ := hid hzr
          have hxy := zr_sum hzr
          have HZE := hid (zr_eq hzr)
          clear hzr
          rcases HLT.out with ⟨hf, hl, ht⟩ | ⟨l, tr, hf, hl, ht⟩
          · subst hl
            subst ht
            have HE : Hid (turnB P pk.f T = turnN P T) := by unfold Hid turnB; rw [if_neg (by omega), hf]
            clear HLT
            have HF : Hid (turnB P pk.f T = ((bAdd (bAdd (bAdd (bAdd P 3 2) (x : Int) 6) ((64 - x - y - 1 : Nat) : Int) 6) (T / 2 ^ y) (64 - x - y)), some (x, y))) := HE.out.trans (by unfold turnN; rw [HZE.out])
            clear HE HZE
            go_wp2_with fail
            have C := addO 3 2 HO4.out HBG.out (by first | omega | (simp only [bAdd_size]; omega)) (by omega) HK4.out.below.size
            refine C.mono ?_
            clear C
            rintro e w6 ⟨v6, rfl, ho6, hk6⟩
            rw [show IntKind.u64.wrap 3 = 3 from rfl] at ho6
            have HX36 := hid (kbox HX34.out hk6 (by decide))
            have HX26 := hid (kbox HX24.out hk6 (by decide))
            have HK6 := hid (HK4.out.trans hk6)
            clear hk6 HX34 HX24 HK4 HO4
            have HO6 := hid ho6
            clear ho6
            clear z0 z1
            go_wp2_with fail
            have C := addO (x : Int) 6 HO6.out (HBG.out.add _ _) (by first | omega | (simp only [bAdd_size]; omega)) (by omega) HK6.out.below.size
            refine C.mono ?_
            clear C
            rintro e w7 ⟨v7, rfl, ho7, hk7⟩
            rw [wrap_id (by omega) (by omega)] at ho7
            have HX37 := hid (kbox HX36.out hk7 (by decide))
            have HX27 := hid (kbox HX26.out hk7 (by decide))
            have HK7 := hid (HK6.out.trans hk7)
            clear hk7 HX36 HX26 HK6 HO6
            have HO7 := hid ho7
            clear ho7
            go_wp2_with fail
            have C := addO (64 - (x : Int) - (y : Int) - 1) 6 HO7.out ((HBG.out.add _ _).add _ _) (by first | omega | (simp only [bAdd_size]; omega)) (by omega) HK7.out.below.size
            refine C.mono ?_
            clear C
            rintro e w8 ⟨v8, rfl, ho8, hk8⟩
            rw [show IntKind.u64.wrap (64 - (x : Int) - (y : Int) - 1) = ((64 - x - y - 1 : Nat) : Int) by rw [wrap_id (by omega) (by omega)]; omega] at ho8
            have HX38 := hid (kbox HX37.out hk8 (by decide))
            have HX28 := hid (kbox HX27.out hk8 (by decide))
            have HK8 := hid (HK7.out.trans hk8)
            clear hk8 HX37 HX27 HK7 HO7
            have HO8 := hid ho8
            clear ho8
            go_wp2_with fail
            have C := addO (wrap64 (T / 2 ^ y)) (64 - x - y) HO8.out (((HBG.out.add _ _).add _ _).add _ _) (by first | omega | (simp only [bAdd_size]; omega)) (by omega) HK8.out.below.size
            rw [show ((64 - x - y : Nat) : Int) = 64 - (x : Int) - (y : Int) by omega] at C
            refine C.mono ?_
            clear C
            rintro e w10 ⟨v10, rfl, ho10, hk10⟩
            rw [u64_w64 (div_bd hTb0 hTb1 y).1 (div_bd hTb0 hTb1 y).2] at ho10
            have HX310 := hid (kbox HX38.out hk10 (by decide))
            have HX210 := hid (kbox HX28.out hk10 (by decide))
            have HK10 := hid (HK8.out.trans hk10)
            clear hk10 HX38 HX28 HK8 HO8
            obtain ⟨a9, n9, cap9, rfl, ho9⟩ := ho10
            have HSE9 := hid (store_end (sz := .int .i64 ((bAdd (bAdd (bAdd (bAdd P 3 2) (x : Int) 6) ((64 - x - y - 1 : Nat) : Int) 6) (T / 2 ^ y) (64 - x - y)).2 : Int)) HX310.out (by decide) (by omega) (Nat.le_refl _) HK10.out ho9)
            obtain ⟨w9, hw9⟩ : ∃ w9, w9 = ((w10.setCell ⟨X3, 0, none⟩ (.slice a9 n9 cap9)).setCell ⟨X3, 1, none⟩ (.int .i64 ((bAdd (bAdd (bAdd (bAdd P 3 2) (x : Int) 6) ((64 - x - y - 1 : Nat) : Int) 6) (T / 2 ^ y) (64 - x - y)).2 : Int))) := ⟨_, rfl⟩
            have HX29 : Hid (w9.heap[w.heap.size]? = some (.cells #[.slice none 0 0, .int .i64 0] 26 (0, 0))) := by
              unfold Hid
              rw [hw9, Below.heap_setCell _ _ _ _ (by simp only; omega), Below.heap_setCell _ _ _ _ (by simp only; omega)]
              exact HX210.out
            rw [← hw9] at HSE9
            have HW9 := hid hw9
            have HAT9 : Hid (At w ls X3 (j + 1 + 1) ((x : Int)) ((y : Int)) (s - s') w9) := by
              have e := HNX.out
              rw [HF.out] at e
              refine ⟨by rw [e]; exact .inr ⟨x, y, rfl, rfl, rfl⟩, by rw [e], ⟨a9, n9, cap9, by rw [e]; exact HSE9.out.1, by rw [e]; exact HSE9.out.2.1⟩, HX29.out, HSE9.out.2.2⟩
            have y0 := two0 HX310.out
            have y1 := two1 HX310.out
            have f0 := twof (o := 0) HX310.out
            have f1 := twof (o := 1) HX310.out
            clear hw9 ho9 HSE9 HX29
            go_wp2
            rw [← HW9.out]
            clear HW9
            go_roundw
            case rel => exact ⟨j + 1 + 1, _, _, _, by omega, by go_num, rfl, rfl, rfl, HAT9⟩
            case measure => simp [intOf]; omega
          · subst hl
            subst ht
            have hl0 : (0 : Int) ≤ (l : Int) := by omega
            have hlt3 := HOF.out l tr hf
            by_cases hc : l ≤ x ∧ tr ≤ y
            · have HE : Hid (turnB P pk.f T = ((bAdd (bAdd P 2 2) (T / 2 ^ tr) (64 - l - tr)), pk.f)) := by unfold Hid turnB; rw [if_neg (by omega), hf]; simp only; rw [HZE.out, if_pos hc]
              have hc1 : (l : Int) ≤ (x : Int) := by omega
              have hc2 : (tr : Int) ≤ (y : Int) := by omega
              go_wp2_with fail
              have C := addO 2 2 HO4.out HBG.out (by first | omega | (simp only [bAdd_size]; omega)) (by omega) HK4.out.below.size
              refine C.mono ?_
              clear C
              rintro e w6 ⟨v6, rfl, ho6, hk6⟩
              rw [show IntKind.u64.wrap 2 = 2 from rfl] at ho6
              have HX36 := hid (kbox HX34.out hk6 (by decide))
              have HX26 := hid (kbox HX24.out hk6 (by decide))
              have HK6 := hid (HK4.out.trans hk6)
              clear hk6 HX34 HX24 HK4 HO4
              have HO6 := hid ho6
              clear ho6
              clear z0 z1
              go_wp2_with fail
              have C := addO (wrap64 (T / 2 ^ tr)) (64 - l - tr) HO6.out (HBG.out.add _ _) (by first | omega | (simp only [bAdd_size]; omega)) (by omega) HK6.out.below.size
              rw [show ((64 - l - tr : Nat) : Int) = 64 - (l : Int) - (tr : Int) by omega] at C
              refine C.mono ?_
              clear C
              rintro e w7 ⟨v7, rfl, ho7, hk7⟩
              rw [u64_w64 (div_bd hTb0 hTb1 tr).1 (div_bd hTb0 hTb1 tr).2] at ho7
              have HX37 := hid (kbox HX36.out hk7 (by decide))
              have HX27 := hid (kbox HX26.out hk7 (by decide))
              have HK7 := hid (HK6.out.trans hk7)
              clear hk7 HX36 HX26 HK6 HO6
              obtain ⟨a9, n9, cap9, rfl, ho9⟩ := ho7
              have HSE9 := hid (store_end (sz := .int .i64 ((bAdd (bAdd P 2 2) (T / 2 ^ tr) (64 - l - tr)).2 : Int)) HX37.out (by decide) (by omega) (Nat.le_refl _) HK7.out ho9)
              obtain ⟨w9, hw9⟩ : ∃ w9, w9 = ((w7.setCell ⟨X3, 0, none⟩ (.slice a9 n9 cap9)).setCell ⟨X3, 1, none⟩ (.int .i64 ((bAdd (bAdd P 2 2) (T / 2 ^ tr) (64 - l - tr)).2 : Int))) := ⟨_, rfl⟩
              have HX29 : Hid (w9.heap[w.heap.size]? = some (.cells #[.slice none 0 0, .int .i64 0] 26 (0, 0))) := by
                unfold Hid
                rw [hw9, Below.heap_setCell _ _ _ _ (by simp only; omega), Below.heap_setCell _ _ _ _ (by simp only; omega)]
                exact HX27.out
              rw [← hw9] at HSE9
              have HW9 := hid hw9
              have HAT9 : Hid (At w ls X3 (j + 1 + 1) ((l : Int)) ((tr : Int)) (s - s') w9) := by
                have e := HNX.out
                rw [HE.out] at e
                refine ⟨by rw [e]; exact .inr ⟨l, tr, hf, rfl, rfl⟩, by rw [e], ⟨a9, n9, cap9, by rw [e]; exact HSE9.out.1, by rw [e]; exact HSE9.out.2.1⟩, HX29.out, HSE9.out.2.2⟩
              have y0 := two0 HX37.out
              have y1 := two1 HX37.out
              have f0 := twof (o := 0) HX37.out
              have f1 := twof (o := 1) HX37.out
              clear hw9 ho9 HSE9 HX29
              go_wp2
              rw [← HW9.out]
              clear HW9
              go_roundw
              case rel => exact ⟨j + 1 + 1, _, _, _, by omega, by go_num, rfl, rfl, rfl, HAT9⟩
              case measure => simp [intOf]; omega
            by_cases hd : l ≤ x
            · have hc1 : (l : Int) ≤ (x : Int) := by omega
              have hc2 : ¬ (tr : Int) ≤ (y : Int) := by omega
              have HE : Hid (turnB P pk.f T = turnN P T) := by unfold Hid turnB; rw [if_neg (by omega), hf]; simp only; rw [HZE.out, if_neg hc]
              clear HLT
              have HF : Hid (turnB P pk.f T = ((bAdd (bAdd (bAdd (bAdd P 3 2) (x : Int) 6) ((64 - x - y - 1 : Nat) : Int) 6) (T / 2 ^ y) (64 - x - y)), some (x, y))) := HE.out.trans (by unfold turnN; rw [HZE.out])
              clear HE HZE
              go_wp2_with fail
              have C := addO 3 2 HO4.out HBG.out (by first | omega | (simp only [bAdd_size]; omega)) (by omega) HK4.out.below.size
              refine C.mono ?_
              clear C
              rintro e w6 ⟨v6, rfl, ho6, hk6⟩
              rw [show IntKind.u64.wrap 3 = 3 from rfl] at ho6
              have HX36 := hid (kbox HX34.out hk6 (by decide))
              have HX26 := hid (kbox HX24.out hk6 (by decide))
              have HK6 := hid (HK4.out.trans hk6)
              clear hk6 HX34 HX24 HK4 HO4
              have HO6 := hid ho6
              clear ho6
              clear z0 z1
              go_wp2_with fail
              have C := addO (x : Int) 6 HO6.out (HBG.out.add _ _) (by first | omega | (simp only [bAdd_size]; omega)) (by omega) HK6.out.below.size
              refine C.mono ?_
              clear C
              rintro e w7 ⟨v7, rfl, ho7, hk7⟩
              rw [wrap_id (by omega) (by omega)] at ho7
              have HX37 := hid (kbox HX36.out hk7 (by decide))
              have HX27 := hid (kbox HX26.out hk7 (by decide))
              have HK7 := hid (HK6.out.trans hk7)
              clear hk7 HX36 HX26 HK6 HO6
              have HO7 := hid ho7
              clear ho7
              go_wp2_with fail
              have C := addO (64 - (x : Int) - (y : Int) - 1) 6 HO7.out ((HBG.out.add _ _).add _ _) (by first | omega | (simp only [bAdd_size]; omega)) (by omega) HK7.out.below.size
              refine C.mono ?_
              clear C
              rintro e w8 ⟨v8, rfl, ho8, hk8⟩
              rw [show IntKind.u64.wrap (64 - (x : Int) - (y : Int) - 1) = ((64 - x - y - 1 : Nat) : Int) by rw [wrap_id (by omega) (by omega)]; omega] at ho8
              have HX38 := hid (kbox HX37.out hk8 (by decide))
              have HX28 := hid (kbox HX27.out hk8 (by decide))
              have HK8 := hid (HK7.out.trans hk8)
              clear hk8 HX37 HX27 HK7 HO7
              have HO8 := hid ho8
              clear ho8
              go_wp2_with fail
              have C := addO (wrap64 (T / 2 ^ y)) (64 - x - y) HO8.out (((HBG.out.add _ _).add _ _).add _ _) (by first | omega | (simp only [bAdd_size]; omega)) (by omega) HK8.out.below.size
              rw [show ((64 - x - y : Nat) : Int) = 64 - (x : Int) - (y : Int) by omega] at C
              refine C.mono ?_
              clear C
              rintro e w10 ⟨v10, rfl, ho10, hk10⟩
              rw [u64_w64 (div_bd hTb0 hTb1 y).1 (div_bd hTb0 hTb1 y).2] at ho10
              have HX310 := hid (kbox HX38.out hk10 (by decide))
              have HX210 := hid (kbox HX28.out hk10 (by decide))
              have HK10 := hid (HK8.out.trans hk10)
              clear hk10 HX38 HX28 HK8 HO8
              obtain ⟨a9, n9, cap9, rfl, ho9⟩ := ho10
              have HSE9 := hid (store_end (sz := .int .i64 ((bAdd (bAdd (bAdd (bAdd P 3 2) (x : Int) 6) ((64 - x - y - 1 : Nat) : Int) 6) (T / 2 ^ y) (64 - x - y)).2 : Int)) HX310.out (by decide) (by omega) (Nat.le_refl _) HK10.out ho9)
              obtain ⟨w9, hw9⟩ : ∃ w9, w9 = ((w10.setCell ⟨X3, 0, none⟩ (.slice a9 n9 cap9)).setCell ⟨X3, 1, none⟩ (.int .i64 ((bAdd (bAdd (bAdd (bAdd P 3 2) (x : Int) 6) ((64 - x - y - 1 : Nat) : Int) 6) (T / 2 ^ y) (64 - x - y)).2 : Int))) := ⟨_, rfl⟩
              have HX29 : Hid (w9.heap[w.heap.size]? = some (.cells #[.slice none 0 0, .int .i64 0] 26 (0, 0))) := by
                unfold Hid
                rw [hw9, Below.heap_setCell _ _ _ _ (by simp only; omega), Below.heap_setCell _ _ _ _ (by simp only; omega)]
                exact HX210.out
              rw [← hw9] at HSE9
              have HW9 := hid hw9
              have HAT9 : Hid (At w ls X3 (j + 1 + 1) ((x : Int)) ((y : Int)) (s - s') w9) := by
                have e := HNX.out
                rw [HF.out] at e
                refine ⟨by rw [e]; exact .inr ⟨x, y, rfl, rfl, rfl⟩, by rw [e], ⟨a9, n9, cap9, by rw [e]; exact HSE9.out.1, by rw [e]; exact HSE9.out.2.1⟩, HX29.out, HSE9.out.2.2⟩
              have y0 := two0 HX310.out
              have y1 := two1 HX310.out
              have f0 := twof (o := 0) HX310.out
              have f1 := twof (o := 1) HX310.out
              clear hw9 ho9 HSE9 HX29
              go_wp2
              rw [← HW9.out]
              clear HW9
              go_roundw
              case rel => exact ⟨j + 1 + 1, _, _, _, by omega, by go_num, rfl, rfl, rfl, HAT9⟩
              case measure => simp [intOf]; omega
            · have hc1 : ¬ (l : Int) ≤ (x : Int) := by omega
              have HE : Hid (turnB P pk.f T = turnN P T) := by unfold Hid turnB; rw [if_neg (by omega), hf]; simp only; rw [HZE.out, if_neg hc]
              clear HLT
              have HF : Hid (turnB P pk.f T = ((bAdd (bAdd (bAdd (bAdd P 3 2) (x : Int) 6) ((64 - x - y - 1 : Nat) : Int) 6) (T / 2 ^ y) (64 - x - y)), some (x, y))) := HE.out.trans (by unfold turnN; rw [HZE.out])
              clear HE HZE
              go_wp2_with fail
              have C := addO 3 2 HO4.out HBG.out (by first | omega | (simp only [bAdd_size]; omega)) (by omega) HK4.out.below.size
              refine C.mono ?_
              clear C
              rintro e w6 ⟨v6, rfl, ho6, hk6⟩
              rw [show IntKind.u64.wrap 3 = 3 from rfl] at ho6
              have HX36 := hid (kbox HX34.out hk6 (by decide))
              have HX26 := hid (kbox HX24.out hk6 (by decide))
              have HK6 := hid (HK4.out.trans hk6)
              clear hk6 HX34 HX24 HK4 HO4
              have HO6 := hid ho6
              clear ho6
              clear z0 z1
              go_wp2_with fail
              have C := addO (x : Int) 6 HO6.out (HBG.out.add _ _) (by first | omega | (simp only [bAdd_size]; omega)) (by omega) HK6.out.below.size
              refine C.mono ?_
              clear C
              rintro e w7 ⟨v7, rfl, ho7, hk7⟩
              rw [wrap_id (by omega) (by omega)] at ho7
              have HX37 := hid (kbox HX36.out hk7 (by decide))
              have HX27 := hid (kbox HX26.out hk7 (by decide))
              have HK7 := hid (HK6.out.trans hk7)
              clear hk7 HX36 HX26 HK6 HO6
              have HO7 := hid ho7
              clear ho7
              go_wp2_with fail
              have C := addO (64 - (x : Int) - (y : Int) - 1) 6 HO7.out ((HBG.out.add _ _).add _ _) (by first | omega | (simp only [bAdd_size]; omega)) (by omega) HK7.out.below.size
              refine C.mono ?_
              clear C
              rintro e w8 ⟨v8, rfl, ho8, hk8⟩
              rw [show IntKind.u64.wrap (64 - (x : Int) - (y : Int) - 1) = ((64 - x - y - 1 : Nat) : Int) by rw [wrap_id (by omega) (by omega)]; omega] at ho8
              have HX38 := hid (kbox HX37.out hk8 (by decide))
              have HX28 := hid (kbox HX27.out hk8 (by decide))
              have HK8 := hid (HK7.out.trans hk8)
              clear hk8 HX37 HX27 HK7 HO7
              have HO8 := hid ho8
              clear ho8
              go_wp2_with fail
              have C := addO (wrap64 (T / 2 ^ y)) (64 - x - y) HO8.out (((HBG.out.add _ _).add _ _).add _ _) (by first | omega | (simp only [bAdd_size]; omega)) (by omega) HK8.out.below.size
              rw [show ((64 - x - y : Nat) : Int) = 64 - (x : Int) - (y : Int) by omega] at C
              refine C.mono ?_
              clear C
              rintro e w10 ⟨v10, rfl, ho10, hk10⟩
              rw [u64_w64 (div_bd hTb0 hTb1 y).1 (div_bd hTb0 hTb1 y).2] at ho10
              have HX310 := hid (kbox HX38.out hk10 (by decide))
              have HX210 := hid (kbox HX28.out hk10 (by decide))
              have HK10 := hid (HK8.out.trans hk10)
              clear hk10 HX38 HX28 HK8 HO8
              obtain ⟨a9, n9, cap9, rfl, ho9⟩ := ho10
              have HSE9 := hid (store_end (sz := .int .i64 ((bAdd (bAdd (bAdd (bAdd P 3 2) (x : Int) 6) ((64 - x - y - 1 : Nat) : Int) 6) (T / 2 ^ y) (64 - x - y)).2 : Int)) HX310.out (by decide) (by omega) (Nat.le_refl _) HK10.out ho9)
              obtain ⟨w9, hw9⟩ : ∃ w9, w9 = ((w10.setCell ⟨X3, 0, none⟩ (.slice a9 n9 cap9)).setCell ⟨X3, 1, none⟩ (.int .i64 ((bAdd (bAdd (bAdd (bAdd P 3 2) (x : Int) 6) ((64 - x - y - 1 : Nat) : Int) 6) (T / 2 ^ y) (64 - x - y)).2 : Int))) := ⟨_, rfl⟩
              have HX29 : Hid (w9.heap[w.heap.size]? = some (.cells #[.slice none 0 0, .int .i64 0] 26 (0, 0))) := by
                unfold Hid
                rw [hw9, Below.heap_setCell _ _ _ _ (by simp only; omega), Below.heap_setCell _ _ _ _ (by simp only; omega)]
                exact HX210.out
              rw [← hw9] at HSE9
              have HW9 := hid hw9
              have HAT9 : Hid (At w ls X3 (j + 1 + 1) ((x : Int)) ((y : Int)) (s - s') w9) := by
                have e := HNX.out
                rw [HF.out] at e
                refine ⟨by rw [e]; exact .inr ⟨x, y, rfl, rfl, rfl⟩, by rw [e], ⟨a9, n9, cap9, by rw [e]; exact HSE9.out.1, by rw [e]; exact HSE9.out.2.1⟩, HX29.out, HSE9.out.2.2⟩
              have y0 := two0 HX310.out
              have y1 := two1 HX310.out
              have f0 := twof (o := 0) HX310.out
              have f1 := twof (o := 1) HX310.out
              clear hw9 ho9 HSE9 HX29
              go_wp2
              rw [← HW9.out]
              clear HW9
              go_roundw
              case rel => exact ⟨j + 1 + 1, _, _, _, by omega, by go_num, rfl, rfl, rfl, HAT9⟩
              case measure => simp [intOf]; omega
    · obtain rfl : k = n := by omega
      have z0 := two0 hx3
      have z1 := two1 hx3
      have hx2 := hat.out.res
      have y0 := two0 hx2
      have y1 := two1 hx2
      have f0 := twof (o := 0) hx2
      have f1 := twof (o := 1) hx2
      have HSE := hid (store_end (sz := .int .i64 ((packK ls k).b.2 : Int)) hx2 (by decide) (Nat.le_refl _) (Nat.le_refl _) hat.out.keep ho3)
      clear hx2 hx3 ho3
      go_wp2
      obtain ⟨r1, r2, r3⟩ := HSE.out
      have q0 := two0 r1
      have q1 := two1 r1
      refine bodyPost_ret (v := .agg #[.slice a2 n2 cap2, .int .i64 ((packK ls k).b.2 : Int)]) (by simp [results, Tryd.results48, go_sem, q0, q1]) rfl ⟨_, rfl, ⟨a2, n2, cap2, rfl, r2⟩, r3.below⟩
end Go.Proofs.YteblbcbfaomdmaaDoor.Chk
