/- What the program asks of sub-questions, negations, operations. -/
import Derived.Test.YtbdlahhejfamhaaGreatDoorRC0
namespace Go.Proofs.YtbdlahhejfamhaaGreatDoor.Qry
open Go.RowKit
open Go.Proofs.YtbdlahhejfamhaaGreatDoor.Pat (Mt m0 nameL printL goodM HasM FitM ret_bool)
open Go.Proofs.YtbdlahhejfamhaaGreatDoor.Fil (HasT FitT)

set_option maxHeartbeats 8000000 in
set_option maxRecDepth 100000 in
theorem rightn_sub (q : R) (tt : TypeId) (x : Value) (w : World) (h : q.kd = 5) (ht : Tabs w) (hl : Lst w q) (hf : Ft q) (hs : wt q ≤ 1048576) :
    Calls Tryz.prog 105 #[vsubNode q (.iface tt x)] w fun e w' => e = .returned (.bool (right (pl q))) ∧ Below w.heap.size w w' := by
    have HT := hid ht
    have HL := hid hl
    have HF := hid hf
    have HS := hid hs
    clear ht hl hf hs
    have HK : Hid ((pl q).kd = 5) := h
    have HR := hid (right_5 (r := pl q) h)
    clear h
    have tnum := ty_sub_num
    have ttext := ty_sub_text
    have tsel := ty_sub_sel
    have trange := ty_sub_range
    have tsub := ty_sub_sub
    by_cases h0 : q.nu ≤ 1000000000000
    · by_cases h1 : 1 ≤ q.st
      · by_cases h2 : q.st ≤ q.nu
        · have HD := hid (r5_t HK.out ⟨h0, h1, h2⟩)
          go_enter Tryz.func105, Tryz.ntmps105
          go_wp2_with (go_at_call 144; refine (f144 q _).mono ?_; rintro e w1 ⟨rfl, hb1⟩; have HB1 := hid hb1; clear hb1)
          go_ret
          exact ⟨ret_bool (HD.out), (((Below.refl _ _).alloc (Nat.le_refl _) _).trans (HB1.out.mono (by simp)))⟩
        · have HD := hid (r5_f HK.out (by omega))
          go_enter Tryz.func105, Tryz.ntmps105
          go_wp2
          go_ret
          exact ⟨ret_bool (HD.out), (Below.refl _ _).alloc (Nat.le_refl _) _⟩
      · have HD := hid (r5_f HK.out (by omega))
        go_enter Tryz.func105, Tryz.ntmps105
        go_wp2
        go_ret
        exact ⟨ret_bool (HD.out), (Below.refl _ _).alloc (Nat.le_refl _) _⟩
    · have HD := hid (r5_f HK.out (by omega))
      go_enter Tryz.func105, Tryz.ntmps105
      go_wp2
      go_ret
      exact ⟨ret_bool (HD.out), (Below.refl _ _).alloc (Nat.le_refl _) _⟩

set_option maxHeartbeats 8000000 in
set_option maxRecDepth 100000 in
theorem rightn_neg (q : R) (tt : TypeId) (x : Value) (w : World) (h : q.kd = 6) (ht : Tabs w) (hl : Lst w q) (hf : Ft q) (hs : wt q ≤ 1048576) :
    Calls Tryz.prog 105 #[vnegNode q (.iface tt x)] w fun e w' => e = .returned (.bool (right (pl q))) ∧ Below w.heap.size w w' := by
    have HT := hid ht
    have HL := hid hl
    have HF := hid hf
    have HS := hid hs
    clear ht hl hf hs
    have HK : Hid ((pl q).kd = 6) := h
    have HR := hid (right_6 (r := pl q) h)
    clear h
    have tnum := ty_neg_num
    have ttext := ty_neg_text
    have tsel := ty_neg_sel
    have trange := ty_neg_range
    have tsub := ty_neg_sub
    have tneg := ty_neg_neg
    go_enter Tryz.func105, Tryz.ntmps105
    go_wp2
    go_ret
    exact ⟨ret_bool (HR.out.symm), (Below.refl _ _).alloc (Nat.le_refl _) _⟩

set_option maxHeartbeats 8000000 in
set_option maxRecDepth 100000 in
theorem rightn_op (q : R) (tt : TypeId) (x : Value) (uu : TypeId) (y : Value) (w : World) (h : q.kd = 7) (ht : Tabs w) (hl : Lst w q) (hf : Ft q) (hs : wt q ≤ 1048576) :
    Calls Tryz.prog 105 #[vopNode q (.iface tt x) (.iface uu y)] w fun e w' => e = .returned (.bool (right (pl q))) ∧ Below w.heap.size w w' := by
    have HT := hid ht
    have HL := hid hl
    have HF := hid hf
    have HS := hid hs
    clear ht hl hf hs
    have HK : Hid ((pl q).kd = 7) := h
    have HR := hid (right_7 (r := pl q) h)
    clear h
    have tnum := ty_op_num
    have ttext := ty_op_text
    have tsel := ty_op_sel
    have trange := ty_op_range
    have tsub := ty_op_sub
    have tneg := ty_op_neg
    have top := ty_op_op
    go_enter Tryz.func105, Tryz.ntmps105
    go_wp2_with (go_at_call 145; refine (f145 q _ (HT.out.below ((Below.refl _ _).alloc (Nat.le_refl _) _)) (HL.out.below ((Below.refl _ _).alloc (Nat.le_refl _) _)) HF.out HS.out).mono ?_; rintro e w1 ⟨rfl, hb1⟩; have HB1 := hid hb1; clear hb1)
    go_ret
    exact ⟨ret_bool (HR.out.symm), (((Below.refl _ _).alloc (Nat.le_refl _) _).trans (HB1.out.mono (by simp)))⟩
end Go.Proofs.YtbdlahhejfamhaaGreatDoor.Qry
/- What the program asks of aggregates and calls. -/
namespace Go.Proofs.YtbdlahhejfamhaaGreatDoor.Qry
open Go.RowKit
open Go.Proofs.YtbdlahhejfamhaaGreatDoor.Pat (Mt m0 nameL printL goodM HasM FitM ret_bool)
open Go.Proofs.YtbdlahhejfamhaaGreatDoor.Fil (HasT FitT)

set_option maxHeartbeats 8000000 in
set_option maxRecDepth 100000 in
theorem rightn_agg (q : R) (a : Option Addr) (n c : Nat) (w : World) (h : q.kd = 8) (ht : Tabs w) (hl : Lst w q) (hf : Ft q) (hs : wt q ≤ 1048576) :
    Calls Tryz.prog 105 #[vaggNode q a n c] w fun e w' => e = .returned (.bool (right (pl q))) ∧ Below w.heap.size w w' := by
    have HT := hid ht
    have HL := hid hl
    have HF := hid hf
    have HS := hid hs
    clear ht hl hf hs
    have HK : Hid ((pl q).kd = 8) := h
    have HR := hid (right_8 (r := pl q) h)
    clear h
    have tnum := ty_agg_num
    have ttext := ty_agg_text
    have tsel := ty_agg_sel
    have trange := ty_agg_range
    have tsub := ty_agg_sub
    have tneg := ty_agg_neg
    have top := ty_agg_op
    have tagg := ty_agg_agg
    go_enter Tryz.func105, Tryz.ntmps105
    go_wp2_with (go_at_call 146; refine (f146 q _ (HT.out.below ((Below.refl _ _).alloc (Nat.le_refl _) _)) (HL.out.below ((Below.refl _ _).alloc (Nat.le_refl _) _)) HF.out HS.out).mono ?_; rintro e w1 ⟨rfl, hb1⟩; have HB1 := hid hb1; clear hb1)
    go_ret
    exact ⟨ret_bool (HR.out.symm), (((Below.refl _ _).alloc (Nat.le_refl _) _).trans (HB1.out.mono (by simp)))⟩

set_option maxHeartbeats 8000000 in
set_option maxRecDepth 100000 in
theorem rightn_call (q : R) (a : Option Addr) (n c : Nat) (w : World) (h : q.kd = 9) (ht : Tabs w) (hl : Lst w q) (hf : Ft q) (hs : wt q ≤ 1048576) :
    Calls Tryz.prog 105 #[vcallNode q a n c] w fun e w' => e = .returned (.bool (right (pl q))) ∧ Below w.heap.size w w' := by
    have HT := hid ht
    have HL := hid hl
    have HF := hid hf
    have HS := hid hs
    clear ht hl hf hs
    have HK : Hid ((pl q).kd = 9) := h
    have HR := hid (right_9 (r := pl q) h)
    clear h
    have tnum := ty_call_num
    have ttext := ty_call_text
    have tsel := ty_call_sel
    have trange := ty_call_range
    have tsub := ty_call_sub
    have tneg := ty_call_neg
    have top := ty_call_op
    have tagg := ty_call_agg
    have tcall := ty_call_call
    rcases two (decide (q.tx ∈ fnN)) with hf | hf
    · by_cases h0 : q.kc ≤ 10
      · have HD := hid (r9_t HK.out hf h0)
        go_enter Tryz.func105, Tryz.ntmps105
        go_wp2_with (go_at_call 71; refine (f71 q.tx _ (HT.out.below ((Below.refl _ _).alloc (Nat.le_refl _) _)).fn).mono ?_; rintro e w1 ⟨⟨r, rfl, hr⟩, hb1⟩; have HB1 := hid hb1; have c14 := (hb1.cell (p := ⟨w.heap.size, 14, none⟩) (by simp)).trans (cell_new14 w q a _ c); have hsz : w.heap.size < w1.heap.size := (by have := hb1.size; simp at this; omega); have c14b : ∀ o, (w1.alloc o).cell? ⟨w.heap.size, 14, none⟩ = some (.int .i64 q.kc) := (fun o => (((Below.refl _ w1).alloc (Nat.le_refl _) o).cell (p := ⟨w.heap.size, 14, none⟩) hsz).trans c14); clear hb1 hr)
        go_ret
        exact ⟨ret_bool (HD.out), ((((Below.refl _ _).alloc (Nat.le_refl _) _).trans (HB1.out.mono (by simp))).alloc (by have := HB1.out.size; simp at this; omega) _)⟩
      · have HD := hid (r9_f1 HK.out h0)
        go_enter Tryz.func105, Tryz.ntmps105
        go_wp2_with (go_at_call 71; refine (f71 q.tx _ (HT.out.below ((Below.refl _ _).alloc (Nat.le_refl _) _)).fn).mono ?_; rintro e w1 ⟨⟨r, rfl, hr⟩, hb1⟩; have HB1 := hid hb1; have c14 := (hb1.cell (p := ⟨w.heap.size, 14, none⟩) (by simp)).trans (cell_new14 w q a _ c); have hsz : w.heap.size < w1.heap.size := (by have := hb1.size; simp at this; omega); have c14b : ∀ o, (w1.alloc o).cell? ⟨w.heap.size, 14, none⟩ = some (.int .i64 q.kc) := (fun o => (((Below.refl _ w1).alloc (Nat.le_refl _) o).cell (p := ⟨w.heap.size, 14, none⟩) hsz).trans c14); clear hb1 hr)
        go_ret
        exact ⟨ret_bool ((decide_eq_false (by omega)).trans HD.out), ((((Below.refl _ _).alloc (Nat.le_refl _) _).trans (HB1.out.mono (by simp))).alloc (by have := HB1.out.size; simp at this; omega) _)⟩
    · have HD := hid (r9_f2 HK.out hf)
      go_enter Tryz.func105, Tryz.ntmps105
      go_wp2_with (go_at_call 71; refine (f71 q.tx _ (HT.out.below ((Below.refl _ _).alloc (Nat.le_refl _) _)).fn).mono ?_; rintro e w1 ⟨⟨r, rfl, hr⟩, hb1⟩; have HB1 := hid hb1; have c14 := (hb1.cell (p := ⟨w.heap.size, 14, none⟩) (by simp)).trans (cell_new14 w q a _ c); have hsz : w.heap.size < w1.heap.size := (by have := hb1.size; simp at this; omega); have c14b : ∀ o, (w1.alloc o).cell? ⟨w.heap.size, 14, none⟩ = some (.int .i64 q.kc) := (fun o => (((Below.refl _ w1).alloc (Nat.le_refl _) o).cell (p := ⟨w.heap.size, 14, none⟩) hsz).trans c14); clear hb1 hr)
      go_ret
      exact ⟨ret_bool (HD.out), ((((Below.refl _ _).alloc (Nat.le_refl _) _).trans (HB1.out.mono (by simp))).alloc (by have := HB1.out.size; simp at this; omega) _)⟩
end Go.Proofs.YtbdlahhejfamhaaGreatDoor.Qry
