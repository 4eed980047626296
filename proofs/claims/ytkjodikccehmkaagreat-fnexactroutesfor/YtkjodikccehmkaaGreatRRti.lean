/- The program's tree of routes: routeTree, deep, goodRouteTree, GoodRoutes. -/
import Derived.Test.YtkjodikccehmkaaGreatRRF
import Derived.Laws.EntriesVeiled
namespace Go.Proofs.YtkjodikccehmkaaGreat.Rou
open Go.RowKit
open Go.Proofs.YtkjodikccehmkaaGreat.Rwc

theorem grow_ok : ∀ m, GrowOk m
  | 0 => by intro ts a c Bn Bl Bg k w0 w hm hk; omega
  | m + 1 => grow_step m (grow_ok m)
/-- What routeTree gives of a list. -/
def TreeR (w0 : World) (ts : List T) (w : World) (e : Ending) (w' : World) : Prop :=
  Below w.heap.size w w' ∧ ((e = .returned (.pointer none) ∧ ∀ d t, ts.map pl = rows t → ¬ Gt N0 d t) ∨
    ∃ t b, e = .returned (ptr b) ∧ ts.map pl = rows t ∧ Gt N0 0 t ∧ Nv w0 (fun b => w.heap.size ≤ b ∧ b < w'.heap.size) w' 0 t b)
set_option maxHeartbeats 4000000 in
theorem f44 (ts : List T) (a : Option Addr) (c : Nat) (w0 w : World) (h40 : ts.length ≤ 40) (hr : Has w0 a ts) (hrw : ∀ q ∈ ts, Rw w0 q ∧ 0 ≤ q.kd) (hb0 : Below w0.heap.size w0 w) :
    Calls Tryz.prog 44 #[.slice a ts.length c] w (TreeR w0 ts w) := by
  have HR := hid hr
  have HRW := hid hrw
  have HB00 := hid hb0
  have b1 := fun (W : World) o => (Below.refl W.heap.size W).alloc (Nat.le_refl _) o
  obtain ⟨W0, hW0⟩ : ∃ W, W = (((w.alloc (.cells #[.slice a ts.length c] 28)).alloc (.cells #[.int .i64 0] 3)).alloc (.cells #[.nilFunc] 97)) := ⟨_, rfl⟩
  have HL0 : Hid (W0.heap[w.heap.size]? = some (.cells #[.slice a ts.length c] 28)) := by
    rw [hW0]; exact kept (kept (heap_alloc_new w _) (b1 _ _)) (b1 _ _)
  have HN0 : Hid (W0.heap[w.heap.size + 1]? = some (.cells #[.int .i64 0] 3)) := by
    have := kept (heap_alloc_new (w.alloc (.cells #[.slice a ts.length c] 28)) (.cells #[.int .i64 0] 3)) (b1 _ (.cells #[.nilFunc] 97))
    rw [hW0]; unfold Hid; simpa using this
  have HG0 : Hid (W0.heap[w.heap.size + 1 + 1]? = some (.cells #[.nilFunc] 97)) := by
    have := heap_alloc_new ((w.alloc (.cells #[.slice a ts.length c] 28)).alloc (.cells #[.int .i64 0] 3)) (.cells #[.nilFunc] 97)
    rw [hW0]; unfold Hid; simpa using this
  have HB0 : Hid (Below w.heap.size w W0) := by rw [hW0]; exact ((b1 w _).alloc (by simp) _).alloc (by simp; omega) _
  have g0 : W0.cell? ⟨w.heap.size + 1 + 1, 0, none⟩ = some .nilFunc := cell_at HG0.out 0
  have g1 := froz_at HG0.out 0
  have HW0 := hid hW0
  clear hW0 hr hrw hb0 b1
  go_enter Tryz.func44, Tryz.ntmps44
  go_upto_region 3 with fail
  rw [← HW0.out]
  go_upto_region 4 with fail
  obtain ⟨B, hB⟩ : ∃ B, B = w.heap.size := ⟨_, rfl⟩
  rw [← hB] at HL0 HN0 HG0 g0 g1 ⊢
  have HBB := hid hB
  obtain ⟨W1, hW1⟩ : ∃ W, W = W0.setCell ⟨B + 1 + 1, 0, none⟩ (.func (.func 67) #[] #[ptr (B + 1), ptr B, ptr (B + 1 + 1)]) := ⟨_, rfl⟩
  have HV1 : Hid (Vars (B + 1) B (B + 1 + 1) a ts.length c 0 W1) := by
    rw [hW1]
    exact ⟨set_else HN0.out (by simp only; omega), set_else HL0.out (by simp only; omega), set_at HG0.out⟩
  have HB1 : Hid (Below w.heap.size w W1) := by rw [hW1]; exact HB0.out.setCell (by simp only; omega) _
  rw [← hW1]
  clear hW1 hB HL0 HN0 HG0 HB0 HW0 g0 g1
  have g0 : W1.cell? ⟨B + 1 + 1, 0, none⟩ = some (.func (.func 67) #[] #[ptr (B + 1), ptr B, ptr (B + 1 + 1)]) := cell_at HV1.out.grow 0
  have HC := hid (grow_ok (ts.length + 1) ts a c (B + 1) B (B + 1 + 1) 0 w0 W1 (by omega) (Nat.zero_le _) h40 HR.out HRW.out (HB00.out.trans (HB1.out.mono HB00.out.size)) (by have := HBB.out; have := HB00.out.size; omega) (by omega) (by omega) HV1.out)
  go_wp2_with fail
  refine HC.out.mono ?_
  rintro e w2 ⟨hf2, hk⟩
  have HF2 := hid hf2
  have hsz := HB1.out.size
  have HB2 : Hid (Below w.heap.size w w2) := Fb.below HB1.out hf2 (by have := HBB.out; omega) hsz
  have x1 : w2.cell? ⟨B, 0, none⟩ = some (.slice a ts.length c) := cell_at (hf2.kept HV1.out.list (by omega)) 0
  rcases hk with ⟨rfl, hn2, hno⟩ | ⟨t, b2, x, rfl, he2, hgt, hn2, hle, hnv⟩
  · have HNO := hid hno
    have x2 : w2.cell? ⟨B + 1, 0, none⟩ = some (.int .i64 ts.length) := cell_at hn2 0
    clear hno hn2 hf2 g0
    go_wp2
    go_ret
    exact ⟨HB2.out, .inl ⟨rfl, fun d t e => HNO.out d t [] (by simpa using e)⟩⟩
  · have HE2 := hid he2
    have HGT := hid hgt
    have HNV := hid hnv
    have x2 : w2.cell? ⟨B + 1, 0, none⟩ = some (.int .i64 ((0 + (rows t).length : Nat) : Int)) := cell_at hn2 0
    have HLN : Hid (ts.length = (rows t).length + x.length) := by unfold Hid; have := congrArg List.length he2; simpa using this
    clear he2 hgt hn2 hnv hf2 g0
    rw [Nat.zero_add] at x2 hle
    generalize hR : (rows t).length = R at *
    by_cases hlt : (R : Int) < (ts.length : Int)
    · go_wp2
      go_ret
      refine ⟨HB2.out, .inl ⟨rfl, fun d t' e => fun g => ?_⟩⟩
      have h1 : rows t ++ x = rows t' ++ [] := by rw [← HE2.out, List.append_nil]; simpa using e
      obtain ⟨rfl, rfl⟩ := rows_one N0 N0 t t' 0 d x [] HGT.out g h1
      have := HLN.out; simp at this; omega
    · go_wp2
      go_ret
      have hx : x = [] := List.length_eq_zero_iff.1 (by have := HLN.out; omega)
      refine ⟨HB2.out, .inr ⟨t, b2, rfl, by have := HE2.out; rw [hx] at this; simpa using this, HGT.out, ?_⟩⟩
      exact Nv.agr (S := fun b => W1.heap.size ≤ b ∧ b < w2.heap.size) ⟨Nat.le_refl _, fun _ _ _ => rfl, fun b hb => ⟨by omega, hb.2⟩⟩ t 0 b2 HNV.out
set_option maxHeartbeats 4000000 in
theorem walk_all (t : Tr) (w0 w : World) (S : Nat → Prop) (i b m Bm : Nat) (hn : Nv w0 S w i t b) (hS : ∀ x, S x → x ≠ Bm) (hd : dp t ≤ 1000) (hm : m ≤ 1000) (hz : (rows t).length ≤ 1000) (h : w.heap[Bm]? = some (.cells #[.int .i64 m] 3)) :
    Calls Tryz.prog 68 #[ptr b, .func (.func 69) #[] #[ptr Bm]] w fun e w' => e = .returned (.tuple #[]) ∧ Fb Bm w w' ∧ w'.heap[Bm]? = some (.cells #[.int .i64 ((max m (0 + dp t) : Nat) : Int)] 3) := by
  have b1 := fun (W : World) o => (Below.refl W.heap.size W).alloc (Nat.le_refl _) o
  have hbm := lt_at h
  obtain ⟨W0, hW0⟩ : ∃ W, W = ((w.alloc (.cells #[.func (.func 69) #[] #[ptr Bm]] 99)).alloc (.cells #[.nilFunc] 99)) := ⟨_, rfl⟩
  have HL0 : Hid (W0.heap[w.heap.size]? = some (.cells #[.func (.func 69) #[] #[ptr Bm]] 99)) := by
    rw [hW0]; exact kept (heap_alloc_new w _) (b1 _ _)
  have HG0 : Hid (W0.heap[w.heap.size + 1]? = some (.cells #[.nilFunc] 99)) := by
    have := heap_alloc_new (w.alloc (.cells #[.func (.func 69) #[] #[ptr Bm]] 99)) (.cells #[.nilFunc] 99)
    rw [hW0]; unfold Hid; simpa using this
  have HB0 : Hid (Below w.heap.size w W0) := by rw [hW0]; exact (b1 w _).alloc (by simp) _
  have g0 : W0.cell? ⟨w.heap.size + 1, 0, none⟩ = some .nilFunc := cell_at HG0.out 0
  have g1 := froz_at HG0.out 0
  have HW0 := hid hW0
  have HN := hid hn
  have HS := hid hS
  have HH := hid h
  clear hW0 hn hS h b1
  go_enter Tryz.func68, Tryz.ntmps68
  go_upto_region 2 with fail
  rw [← HW0.out]
  go_upto_region 3 with fail
  obtain ⟨B, hB⟩ : ∃ B, B = w.heap.size := ⟨_, rfl⟩
  rw [← hB] at HL0 HG0 g0 g1 ⊢
  have HBB := hid hB
  obtain ⟨W1, hW1⟩ : ∃ W, W = W0.setCell ⟨B + 1, 0, none⟩ (.func (.func 86) #[] #[ptr B, ptr (B + 1)]) := ⟨_, rfl⟩
  have HB1 : Hid (Below w.heap.size w W1) := by rw [hW1]; exact HB0.out.setCell (by simp only; omega) _
  have HV1 : Hid (DVars B (B + 1) Bm m W1) := by
    rw [hW1]
    exact ⟨set_else HL0.out (by simp only; omega), set_at HG0.out, set_else (kept HH.out HB0.out) (by simp only; omega)⟩
  rw [← hW1]
  clear hW1 HL0 HG0 HB0 HW0 g0 g1
  have g0 : W1.cell? ⟨B + 1, 0, none⟩ = some (.func (.func 86) #[] #[ptr B, ptr (B + 1)]) := cell_at HV1.out.step 0
  have HC := hid (walk_deep B (B + 1) Bm (by omega) (by omega) (dp t) t (Nat.le_refl _) w0 W1 S i b m 0 (Nv.agr (Agr.below HB1.out) t i b HN.out) HS.out (by omega) hm hz HV1.out)
  clear hB hd hm hz
  go_wp2_with fail
  refine HC.out.mono ?_
  rintro e w2 ⟨rfl, hf2, hm2⟩
  have HF2 : Hid (Fb Bm w w2) := (Fb.of HB1.out).trans hf2
  have HM2 := hid hm2
  clear hf2 hm2 g0 HC
  go_wp2
  exact bodyPost_end (results_none rfl _ _ _) rfl ⟨rfl, HF2.out, HM2.out⟩
set_option maxHeartbeats 4000000 in
theorem f45 (t : Tr) (w0 w : World) (S : Nat → Prop) (i b : Nat) (hn : Nv w0 S w i t b) (hS : ∀ x, S x → x < w.heap.size) (hd : dp t ≤ 1000) (hz : (rows t).length ≤ 1000) :
    Calls Tryz.prog 45 #[ptr b] w fun e w' => e = .returned (.int .i64 (dp t)) ∧ Below w.heap.size w w' := by
  have b1 := fun (W : World) o => (Below.refl W.heap.size W).alloc (Nat.le_refl _) o
  obtain ⟨W1, hW1⟩ : ∃ W, W = w.alloc (.cells #[.int .i64 0] 3) := ⟨_, rfl⟩
  have HM1 : Hid (W1.heap[w.heap.size]? = some (.cells #[.int .i64 ((0 : Nat) : Int)] 3)) := by rw [hW1]; exact heap_alloc_new w _
  have HB1 : Hid (Below w.heap.size w W1) := by rw [hW1]; exact b1 w _
  have HW1 := hid hW1
  have HC := hid (walk_all t w0 W1 S i b 0 w.heap.size (Nv.agr (Agr.below HB1.out) t i b hn) (fun x hx => by have := hS x hx; omega) hd (by omega) hz HM1.out)
  clear hW1 hn hS b1 hd hz
  go_enter Tryz.func45, Tryz.ntmps45
  go_upto_region 2 with fail
  rw [← HW1.out]
  go_wp2_with fail
  refine HC.out.mono ?_
  rintro e w2 ⟨rfl, hf2, hm2⟩
  have HB2 : Hid (Below w.heap.size w w2) := Fb.below HB1.out hf2 (Nat.le_refl _) HB1.out.size
  have hm3 : w2.heap[w.heap.size]? = some (.cells #[.int .i64 (dp t)] 3) := by rw [hm2]; simp
  have c0 : w2.cell? ⟨w.heap.size, 0, none⟩ = some (.int .i64 (dp t)) := cell_at hm3 0
  clear hf2 hm2 hm3 HC
  go_wp2
  go_ret
  exact ⟨rfl, HB2.out⟩
end Go.Proofs.YtkjodikccehmkaaGreat.Rou
