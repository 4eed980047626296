/- What the program asks of a node by itself. -/
import Derived.Test.YtbdlahhejfamhaaGreatDoorRA8
namespace Go.Proofs.YtbdlahhejfamhaaGreatDoor.Qry
open Go.RowKit
open Go.Proofs.YtbdlahhejfamhaaGreatDoor.Pat (Mt m0 nameL printL goodM HasM FitM ret_bool)
open Go.Proofs.YtbdlahhejfamhaaGreatDoor.Fil (HasT FitT)

theorem right_1 {r : Pl} (h : r.kd = 1) : right r = decide (0 ≤ r.nu) := if_pos h
theorem right_2 {r : Pl} (h : r.kd = 2) : right r = (decide (r.tx.size ≤ 100) && printL r.tx.data.toList) := by unfold right; simp [h]
theorem right_3 {r : Pl} (h : r.kd = 3) : right r = rSel r := by unfold right; simp [h]
theorem right_4 {r : Pl} (h : r.kd = 4) : right r = decide (1 ≤ r.nu ∧ r.nu ≤ 1000000000000) := by unfold right; simp [h]
theorem right_5 {r : Pl} (h : r.kd = 5) : right r = (decide (r.nu ≤ 1000000000000 ∧ 1 ≤ r.st ∧ r.st ≤ r.nu) && moment r) := by unfold right; simp [h]
theorem right_6 {r : Pl} (h : r.kd = 6) : right r = true := by unfold right; simp [h]
theorem right_7 {r : Pl} (h : r.kd = 7) : right r = rOp r := by unfold right; simp [h]
theorem right_8 {r : Pl} (h : r.kd = 8) : right r = rAgg r := by unfold right; simp [h]
theorem right_9 {r : Pl} (h : r.kd = 9) : right r = (decide (r.tx ∈ fnN) && decide (r.kc ≤ 10)) := by unfold right; simp [h]
theorem r2_t {q : R} (h : (pl q).kd = 2) (h0 : q.tx.size ≤ 100) : printL q.tx.data.toList = right (pl q) := ((right_2 h).trans (by rw [decide_eq_true (p := (pl q).tx.size ≤ 100) h0]; rfl)).symm
theorem r2_f {q : R} (h : (pl q).kd = 2) (h0 : ¬ q.tx.size ≤ 100) : false = right (pl q) := ((right_2 h).trans (by rw [decide_eq_false (p := (pl q).tx.size ≤ 100) h0]; rfl)).symm
theorem r5_t {q : R} (h : (pl q).kd = 5) (h0 : q.nu ≤ 1000000000000 ∧ 1 ≤ q.st ∧ q.st ≤ q.nu) : moment (pl q) = right (pl q) := ((right_5 h).trans (by rw [decide_eq_true (p := (pl q).nu ≤ 1000000000000 ∧ 1 ≤ (pl q).st ∧ (pl q).st ≤ (pl q).nu) h0]; rfl)).symm
theorem r5_f {q : R} (h : (pl q).kd = 5) (h0 : ¬ (q.nu ≤ 1000000000000 ∧ 1 ≤ q.st ∧ q.st ≤ q.nu)) : false = right (pl q) := ((right_5 h).trans (by rw [decide_eq_false (p := (pl q).nu ≤ 1000000000000 ∧ 1 ≤ (pl q).st ∧ (pl q).st ≤ (pl q).nu) h0]; rfl)).symm
theorem r9_t {q : R} (h : (pl q).kd = 9) (h0 : decide (q.tx ∈ fnN) = true) (h1 : q.kc ≤ 10) : true = right (pl q) := ((right_9 h).trans (by rw [show decide ((pl q).tx ∈ fnN) = true from h0, decide_eq_true (p := (pl q).kc ≤ 10) h1]; rfl)).symm
theorem r9_f1 {q : R} (h : (pl q).kd = 9) (h1 : ¬ q.kc ≤ 10) : false = right (pl q) := ((right_9 h).trans (by rw [decide_eq_false (p := (pl q).kc ≤ 10) h1]; simp)).symm
theorem r9_f2 {q : R} (h : (pl q).kd = 9) (h0 : decide (q.tx ∈ fnN) = false) : false = right (pl q) := ((right_9 h).trans (by rw [show decide ((pl q).tx ∈ fnN) = false from h0]; rfl)).symm
theorem r1_t {q : R} (h : (pl q).kd = 1) (h0 : 0 ≤ q.nu) : true = right (pl q) := ((right_1 h).trans (decide_eq_true (p := 0 ≤ (pl q).nu) h0)).symm
theorem r1_f {q : R} (h : (pl q).kd = 1) (h0 : ¬ 0 ≤ q.nu) : false = right (pl q) := ((right_1 h).trans (decide_eq_false (p := 0 ≤ (pl q).nu) h0)).symm
theorem r4_t {q : R} (h : (pl q).kd = 4) (h0 : 1 ≤ q.nu ∧ q.nu ≤ 1000000000000) : true = right (pl q) := ((right_4 h).trans (decide_eq_true (p := 1 ≤ (pl q).nu ∧ (pl q).nu ≤ 1000000000000) h0)).symm
theorem r4_f {q : R} (h : (pl q).kd = 4) (h0 : ¬ (1 ≤ q.nu ∧ q.nu ≤ 1000000000000)) : false = right (pl q) := ((right_4 h).trans (decide_eq_false (p := 1 ≤ (pl q).nu ∧ (pl q).nu ≤ 1000000000000) h0)).symm
theorem cell_new14 (w : World) (q : R) (a : Option Addr) (n c : Nat) : (w.alloc (.cells #[.int .i64 q.kd, .int .i64 q.nu, .int .i64 q.st, .string q.tx, .int .i64 q.op, .slice q.ma q.ms.length q.mc, .int .i64 q.off, .bool q.fx, .int .i64 q.att, .bool q.bo, .int .i64 q.byy, .slice q.na q.ns.length q.nc, .int .i64 q.sd, .slice q.ea q.es.length q.ec, .int .i64 q.kc, .slice a n c] 128)).cell? ⟨w.heap.size, 14, none⟩ = some (.int .i64 q.kc) := by
  have h := heap_alloc_new w (.cells #[.int .i64 q.kd, .int .i64 q.nu, .int .i64 q.st, .string q.tx, .int .i64 q.op, .slice q.ma q.ms.length q.mc, .int .i64 q.off, .bool q.fx, .int .i64 q.att, .bool q.bo, .int .i64 q.byy, .slice q.na q.ns.length q.nc, .int .i64 q.sd, .slice q.ea q.es.length q.ec, .int .i64 q.kc, .slice a n c] 128)
  unfold World.cell?
  simp only [h]
  rfl
end Go.Proofs.YtbdlahhejfamhaaGreatDoor.Qry
/- What the program asks of numbers, texts, selections, ranges. -/
namespace Go.Proofs.YtbdlahhejfamhaaGreatDoor.Qry
open Go.RowKit
open Go.Proofs.YtbdlahhejfamhaaGreatDoor.Pat (Mt m0 nameL printL goodM HasM FitM ret_bool)
open Go.Proofs.YtbdlahhejfamhaaGreatDoor.Fil (HasT FitT)

set_option maxHeartbeats 8000000 in
set_option maxRecDepth 100000 in
theorem rightn_num (q : R) (w : World) (h : q.kd = 1) (ht : Tabs w) (hl : Lst w q) (hf : Ft q) (hs : wt q ≤ 1048576) :
    Calls Tryz.prog 105 #[vnumNode q] w fun e w' => e = .returned (.bool (right (pl q))) ∧ Below w.heap.size w w' := by
    have HT := hid ht
    have HL := hid hl
    have HF := hid hf
    have HS := hid hs
    clear ht hl hf hs
    have HK : Hid ((pl q).kd = 1) := h
    have HR := hid (right_1 (r := pl q) h)
    clear h
    have tnum := ty_num_num
    by_cases h0 : 0 ≤ q.nu
    · have HD := hid (r1_t HK.out h0)
      go_enter Tryz.func105, Tryz.ntmps105
      go_wp2
      go_ret
      exact ⟨ret_bool (HD.out), (Below.refl _ _).alloc (Nat.le_refl _) _⟩
    · have HD := hid (r1_f HK.out h0)
      go_enter Tryz.func105, Tryz.ntmps105
      go_wp2
      go_ret
      exact ⟨ret_bool (HD.out), (Below.refl _ _).alloc (Nat.le_refl _) _⟩

set_option maxHeartbeats 8000000 in
set_option maxRecDepth 100000 in
theorem rightn_text (q : R) (w : World) (h : q.kd = 2) (ht : Tabs w) (hl : Lst w q) (hf : Ft q) (hs : wt q ≤ 1048576) :
    Calls Tryz.prog 105 #[vtextNode q] w fun e w' => e = .returned (.bool (right (pl q))) ∧ Below w.heap.size w w' := by
    have HT := hid ht
    have HL := hid hl
    have HF := hid hf
    have HS := hid hs
    clear ht hl hf hs
    have HK : Hid ((pl q).kd = 2) := h
    have HR := hid (right_2 (r := pl q) h)
    clear h
    have tnum := ty_text_num
    have ttext := ty_text_text
    by_cases h0 : q.tx.size ≤ 100
    · have HD := hid (r2_t HK.out h0)
      go_enter Tryz.func105, Tryz.ntmps105
      go_wp2_with (go_at_call 142; refine (Pat.f142 q.tx _ HF.out.tx).mono ?_; rintro e w' ⟨rfl, hw'⟩; have hw2 := hw'.symm; clear hw'; subst hw2)
      go_ret
      exact ⟨ret_bool (HD.out), (Below.refl _ _).alloc (Nat.le_refl _) _⟩
    · have HD := hid (r2_f HK.out h0)
      go_enter Tryz.func105, Tryz.ntmps105
      go_wp2
      go_ret
      exact ⟨ret_bool (HD.out), (Below.refl _ _).alloc (Nat.le_refl _) _⟩

set_option maxHeartbeats 8000000 in
set_option maxRecDepth 100000 in
theorem rightn_sel (q : R) (w : World) (h : q.kd = 3) (ht : Tabs w) (hl : Lst w q) (hf : Ft q) (hs : wt q ≤ 1048576) :
    Calls Tryz.prog 105 #[vselectNode q] w fun e w' => e = .returned (.bool (right (pl q))) ∧ Below w.heap.size w w' := by
    have HT := hid ht
    have HL := hid hl
    have HF := hid hf
    have HS := hid hs
    clear ht hl hf hs
    have HK : Hid ((pl q).kd = 3) := h
    have HR := hid (right_3 (r := pl q) h)
    clear h
    have tnum := ty_sel_num
    have ttext := ty_sel_text
    have tsel := ty_sel_sel
    go_enter Tryz.func105, Tryz.ntmps105
    go_wp2_with (go_at_call 143; refine (f143 q _ (HT.out.below ((Below.refl _ _).alloc (Nat.le_refl _) _)) (HL.out.below ((Below.refl _ _).alloc (Nat.le_refl _) _)) HF.out).mono ?_; rintro e w1 ⟨rfl, hb1⟩; have HB1 := hid hb1; clear hb1)
    go_ret
    exact ⟨ret_bool (HR.out.symm), (((Below.refl _ _).alloc (Nat.le_refl _) _).trans (HB1.out.mono (by simp)))⟩
end Go.Proofs.YtbdlahhejfamhaaGreatDoor.Qry
