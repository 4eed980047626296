/- What the program asks of sub-questions, negations, operations. -/
import Derived.Test.YtolffofmmkihgaaGreatDoorRC0
namespace Go.Proofs.YtolffofmmkihgaaGreatDoor.Qry
open Go.RowKit
open Go.Proofs.YtolffofmmkihgaaGreatDoor.Pat (Mt m0 nameL printL goodM HasM FitM ret_bool)
open Go.Proofs.YtolffofmmkihgaaGreatDoor.Fil (HasT FitT)

set_option maxHeartbeats 8000000 in
set_option maxRecDepth 100000 in
theorem rightn_sub (q : R) (tt : TypeId) (x : Value) (w : World) (h : q.kd = 5) (ht : Tabs w) (hl : Lst w q) (hf : Ft q) (hs : wt q ≤ 1048576) :
    Calls Tryz.prog 64 #[vsubNode q (.iface tt x)] w fun e w' => e = .returned (.bool (right (pl q))) ∧ Below w.heap.size w w' := by
    have HT := hid ht
    have HL := hid hl
    have HF := hid hf
    have HS := hid hs
    clear ht hl hf hs
    have HK : Hid ((pl q).kd = 5) := h
    have HR := hid (right_5 (r := pl q) h)
    clear h
    have tnum := ty_sub_num
    have ttext := ty_sub_text
    have tsel := ty_sub_sel
    have trange := ty_sub_range
    have tsub := ty_sub_sub
    by_cases h0 : q.nu ≤ 1000000000000
    · by_cases h1 : 1 ≤ q.st
      · by_cases h2 : q.st ≤ q.nu
        · have HD := hid (r5_t HK.out ⟨h0, h1, h2⟩)
          go_enter Tryz.func64, Tryz.ntmps64
          go_wp2_with (go_at_call 95; refine (f95 q _).mono ?_; rintro e w1 ⟨rfl, hb1⟩; have HB1 := hid hb1; clear hb1)
          go_ret
          exact ⟨ret_bool (HD.out), (((Below.refl _ _).alloc (Nat.le_refl _) _).trans (HB1.out.mono (by simp)))⟩
        · have HD := hid (r5_f HK.out (by omega))
          go_enter Tryz.func64, Tryz.ntmps64
          go_wp2
          go_ret
          exact ⟨ret_bool (HD.out), (Below.refl _ _).alloc (Nat.le_refl _) _⟩
      · have HD := hid (r5_f HK.out (by omega))
        go_enter Tryz.func64, Tryz.ntmps64
        go_wp2
        go_ret
        exact ⟨ret_bool (HD.out), (Below.refl _ _).alloc (Nat.le_refl _) _⟩
    · have HD := hid (r5_f HK.out (by omega))
      go_enter Tryz.func64, Tryz.ntmps64
      go_wp2
      go_ret
      exact ⟨ret_bool (HD.out), (Below.refl _ _).alloc (Nat.le_refl _) _⟩

set_option maxHeartbeats 8000000 in
set_option maxRecDepth 100000 in
theorem rightn_neg (q : R) (tt : TypeId) (x : Value) (w : World) (h : q.kd = 6) (ht : Tabs w) (hl : Lst w q) (hf : Ft q) (hs : wt q ≤ 1048576) :
    Calls Tryz.prog 64 #[vnegNode q (.iface tt x)] w fun e w' => e = .returned (.bool (right (pl q))) ∧ Below w.heap.size w w' := by
    have HT := hid ht
    have HL := hid hl
    have HF := hid hf
    have HS := hid hs
    clear ht hl hf hs
    have HK : Hid ((pl q).kd = 6) := h
    have HR := hid (right_6 (r := pl q) h)
    clear h
    have tnum := ty_neg_num
    have ttext := ty_neg_text
    have tsel := ty_neg_sel
    have trange := ty_neg_range
    have tsub := ty_neg_sub
    have tneg := ty_neg_neg
    go_enter Tryz.func64, Tryz.ntmps64
    go_wp2
    go_ret
    exact ⟨ret_bool (HR.out.symm), (Below.refl _ _).alloc (Nat.le_refl _) _⟩

set_option maxHeartbeats 8000000 in
set_option maxRecDepth 100000 in
theorem rightn_op (q : R) (tt : TypeId) (x : Value) (uu : TypeId) (y : Value) (w : World) (h : q.kd = 7) (ht : Tabs w) (hl : Lst w q) (hf : Ft q) (hs : wt q ≤ 1048576) :
    Calls Tryz.prog 64 #[vopNode q (.iface tt x) (.iface uu y)] w fun e w' => e = .returned (.bool (right (pl q))) ∧ Below w.heap.size w w' := by
    have HT := hid ht
    have HL := hid hl
    have HF := hid hf
    have HS := hid hs
    clear ht hl hf hs
    have HK : Hid ((pl q).kd = 7) := h
    have HR := hid (right_7 (r := pl q) h)
    clear h
    have tnum := ty_op_num
    have ttext := ty_op_text
    have tsel := ty_op_sel
    have trange := ty_op_range
    have tsub := ty_op_sub
    have tneg := ty_op_neg
    have top := ty_op_op
    go_enter Tryz.func64, Tryz.ntmps64
    go_wp2_with (go_at_call 96; refine (f96 q _ (HT.out.below ((Below.refl _ _).alloc (Nat.le_refl _) _)) (HL.out.below ((Below.refl _ _).alloc (Nat.le_refl _) _)) HF.out HS.out).mono ?_; rintro e w1 ⟨rfl, hb1⟩; have HB1 := hid hb1; clear hb1)
    go_ret
    exact ⟨ret_bool (HR.out.symm), (((Below.refl _ _).alloc (Nat.le_refl _) _).trans (HB1.out.mono (by simp)))⟩
end Go.Proofs.YtolffofmmkihgaaGreatDoor.Qry
