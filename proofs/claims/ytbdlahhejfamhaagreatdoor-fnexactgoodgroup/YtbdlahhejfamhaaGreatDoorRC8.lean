/- Whether two rows say the same, as the model asks it (off, fx). -/
import Derived.Test.YtbdlahhejfamhaaGreatDoorRQmv
namespace Go.Proofs.YtbdlahhejfamhaaGreatDoor.Qry
open Go.RowKit
open Go.Proofs.YtbdlahhejfamhaaGreatDoor.Pat (ret_bool Mt m0 HasM)
open Go.Proofs.YtbdlahhejfamhaaGreatDoor.Fil (HasT FitT)

set_option maxHeartbeats 16000000 in
set_option maxRecDepth 100000 in
theorem same_off (kd : Int) (nu : Int) (st : Int) (tx : ByteArray) (op : Int) (off : Int) (fx : Bool) (att : Int) (bo : Bool) (byy : Int) (sd : Int) (kc : Int) (off' : Int) (fx' : Bool) (att' : Int) (bo' : Bool) (byy' : Int) (sd' : Int) (kc' : Int) (ms : List Mt) (ns es : List ByteArray) (ma na ea ma' na' ea' : Option Addr) (mc nc ec mc' nc' ec' : Nat) (w : World) (lm : HasM w ma ms) (ln : HasT w na ns) (le : HasT w ea es) (lm' : HasM w ma' ms) (ln' : HasT w na' ns) (le' : HasT w ea' es) (i5 : ms.length ≤ 1048576) (i11 : ns.length ≤ 1048576) (i13 : es.length ≤ 1048576) (hd : off ≠ off') : Calls Tryz.prog 132 #[.agg #[.int .i64 kd, .int .i64 nu, .int .i64 st, .string tx, .int .i64 op, .slice ma ms.length mc, .int .i64 off, .bool fx, .int .i64 att, .bool bo, .int .i64 byy, .slice na ns.length nc, .int .i64 sd, .slice ea es.length ec, .int .i64 kc], .agg #[.int .i64 kd, .int .i64 nu, .int .i64 st, .string tx, .int .i64 op, .slice ma' ms.length mc', .int .i64 off', .bool fx', .int .i64 att', .bool bo', .int .i64 byy', .slice na' ns.length nc', .int .i64 sd', .slice ea' es.length ec', .int .i64 kc']] w fun e w' => e = .returned (.bool false) ∧ Below w.heap.size w w' := by
  have gd : (off == off') = false := by simp [hd]
  clear hd
  obtain ⟨X, hX⟩ : ∃ X, X = (w.alloc (.cells #[.int .i64 kd, .int .i64 nu, .int .i64 st, .string tx, .int .i64 op, .slice ma ms.length mc, .int .i64 off, .bool fx, .int .i64 att, .bool bo, .int .i64 byy, .slice na ns.length nc, .int .i64 sd, .slice ea es.length ec, .int .i64 kc] 55)).alloc (.cells #[.int .i64 kd, .int .i64 nu, .int .i64 st, .string tx, .int .i64 op, .slice ma' ms.length mc', .int .i64 off', .bool fx', .int .i64 att', .bool bo', .int .i64 byy', .slice na' ns.length nc', .int .i64 sd', .slice ea' es.length ec', .int .i64 kc'] 55) := ⟨_, rfl⟩
  have h1 : X.heap[w.heap.size]? = some (.cells #[.int .i64 kd, .int .i64 nu, .int .i64 st, .string tx, .int .i64 op, .slice ma ms.length mc, .int .i64 off, .bool fx, .int .i64 att, .bool bo, .int .i64 byy, .slice na ns.length nc, .int .i64 sd, .slice ea es.length ec, .int .i64 kc] 55) := by
    rw [hX]; exact kept (heap_alloc_new w _) ((Below.refl _ _).alloc (Nat.le_refl _) _)
  have h2 : X.heap[w.heap.size + 1]? = some (.cells #[.int .i64 kd, .int .i64 nu, .int .i64 st, .string tx, .int .i64 op, .slice ma' ms.length mc', .int .i64 off', .bool fx', .int .i64 att', .bool bo', .int .i64 byy', .slice na' ns.length nc', .int .i64 sd', .slice ea' es.length ec', .int .i64 kc'] 55) := by
    rw [hX]; have := heap_alloc_new (w.alloc (.cells #[.int .i64 kd, .int .i64 nu, .int .i64 st, .string tx, .int .i64 op, .slice ma ms.length mc, .int .i64 off, .bool fx, .int .i64 att, .bool bo, .int .i64 byy, .slice na ns.length nc, .int .i64 sd, .slice ea es.length ec, .int .i64 kc] 55)) (.cells #[.int .i64 kd, .int .i64 nu, .int .i64 st, .string tx, .int .i64 op, .slice ma' ms.length mc', .int .i64 off', .bool fx', .int .i64 att', .bool bo', .int .i64 byy', .slice na' ns.length nc', .int .i64 sd', .slice ea' es.length ec', .int .i64 kc'] 55); simpa only [World.size_alloc] using this
  have hbx : Below w.heap.size w X := by
    rw [hX]; exact ((Below.refl _ _).alloc (Nat.le_refl _) _).alloc (by simp) _
  have HX := hid hX
  have HBX := hid hbx
  have H1 := hid h1
  have H2 := hid h2
  have a5 := (fifteen h1).2.2.2.2.2.1
  have b5 := (fifteen h2).2.2.2.2.2.1
  have a11 := (fifteen h1).2.2.2.2.2.2.2.2.2.2.2.1
  have b11 := (fifteen h2).2.2.2.2.2.2.2.2.2.2.2.1
  clear hX hbx h1 h2
  have hq : ((ms.length : Int) != (ms.length : Int)) = false := by simp
  go_enter Tryz.func132, Tryz.ntmps132
  go_upto_region 1 with fail
  rw [← HX.out]
  go_wp2_with fail
  refine (f159 na na' ns.length ns.length nc nc' ns ns _ rfl rfl i11 i11 (ln.below HBX.out) (ln'.below HBX.out)).mono ?_
  rintro e w1 ⟨⟨b1, rfl, hb1⟩, hbb1⟩
  obtain rfl : b1 = true := hb1.2 rfl
  have HB1 := hid (HBX.out.trans (hbb1.mono HBX.out.size))
  have K1 := hid (kept H1.out hbb1)
  have K2 := hid (kept H2.out hbb1)
  have c13 := (fifteen K1.out).2.2.2.2.2.2.2.2.2.2.2.2.2.1
  have d13 := (fifteen K2.out).2.2.2.2.2.2.2.2.2.2.2.2.2.1
  clear hb1 hbb1 a5 b5 a11 b11
  go_wp2_with fail
  refine (f159 ea ea' es.length es.length ec ec' es es _ rfl rfl i13 i13 (le.below HB1.out) (le'.below HB1.out)).mono ?_
  rintro e w2 ⟨⟨b2, rfl, hb2⟩, hbb2⟩
  obtain rfl : b2 = true := hb2.2 rfl
  have HB2 := hid (HB1.out.trans (hbb2.mono HB1.out.size))
  have L1 := hid (kept K1.out hbb2)
  have L2 := hid (kept K2.out hbb2)
  clear hb2 hbb2 c13 d13
  have a5 := (fifteen L1.out).2.2.2.2.2.1
  have HLM := hid (lm.below HB2.out)
  have HLM' := hid (lm'.below HB2.out)
  clear lm lm' ln ln' le le'
  go_wp2
  go_loopw [32] (fun i wr => ∃ k : Nat, k ≤ ms.length ∧ i = .int .i64 k ∧ Hid (Below w2.heap.size w2 wr)) (fun i _ => ms.length - (intOf i).toNat)
  case atStart => exact ⟨0, Nat.zero_le _, rfl, Below.refl _ _⟩
  case round =>
    obtain ⟨k, hk, rfl, HX2⟩ := hrel
    have HB3 := hid (HB2.out.trans (HX2.out.mono HB2.out.size))
    by_cases hlt : k < ms.length
    · obtain ⟨b, off1, rfl, hbl, m0', m1', m2'⟩ := hasM_at2 HLM.out k hlt
      obtain ⟨b', off2, rfl, hbl', n0', n1', n2'⟩ := hasM_at2 HLM'.out k hlt
      have i1 : (k : Int) < (ms.length : Int) := by omega
      have HXD := hid HX2.out.drew
      have e0 : wr.drew.cell? ⟨b, off1 + k * 3, none⟩ = _ := (HXD.out.cell (p := ⟨b, off1 + k * 3, none⟩) hbl).trans m0'
      have e1 : wr.drew.cell? ⟨b, off1 + k * 3 + 1, none⟩ = _ := (HXD.out.cell (p := ⟨b, off1 + k * 3 + 1, none⟩) hbl).trans m1'
      have e2 : wr.drew.cell? ⟨b, off1 + k * 3 + 2, none⟩ = _ := (HXD.out.cell (p := ⟨b, off1 + k * 3 + 2, none⟩) hbl).trans m2'
      have e3 : wr.drew.cell? ⟨b', off2 + k * 3, none⟩ = _ := (HXD.out.cell (p := ⟨b', off2 + k * 3, none⟩) hbl').trans n0'
      have e4 : wr.drew.cell? ⟨b', off2 + k * 3 + 1, none⟩ = _ := (HXD.out.cell (p := ⟨b', off2 + k * 3 + 1, none⟩) hbl').trans n1'
      have e5 : wr.drew.cell? ⟨b', off2 + k * 3 + 2, none⟩ = _ := (HXD.out.cell (p := ⟨b', off2 + k * 3 + 2, none⟩) hbl').trans n2'
      have e6 := (fifteen (kept L1.out HXD.out)).2.2.2.2.2.1
      have e7 := (fifteen (kept L2.out HXD.out)).2.2.2.2.2.1
      have hnm := neqM (ms.getD k m0).1 (ms.getD k m0).2.2 (ms.getD k m0).2.1
      have hgm := g_mt
      clear m0' m1' m2' n0' n1' n2' a5
      generalize (ms.getD k m0).1 = x0 at *
      generalize (ms.getD k m0).2.1 = x1 at *
      generalize (ms.getD k m0).2.2 = x2 at *
      go_wp2_with fail
      go_region_held3 (fun w' => w'.cell? ⟨b, off1 + k * 3, none⟩ = some (.string x0) ∧ w'.cell? ⟨b, off1 + k * 3 + 1, none⟩ = some (.int .i64 x1) ∧ w'.cell? ⟨b, off1 + k * 3 + 2, none⟩ = some (.string x2) ∧ w'.cell? ⟨b', off2 + k * 3, none⟩ = some (.string x0) ∧ w'.cell? ⟨b', off2 + k * 3 + 1, none⟩ = some (.int .i64 x1) ∧ w'.cell? ⟨b', off2 + k * 3 + 2, none⟩ = some (.string x2) ∧ w'.cell? ⟨w.heap.size, 5, none⟩ = some (.slice (some ⟨b, off1, none⟩) ms.length mc) ∧ w'.cell? ⟨w.heap.size + 1, 5, none⟩ = some (.slice (some ⟨b', off2, none⟩) ms.length mc')) (first | exact ⟨e0, e1, e2, e3, e4, e5, e6, e7⟩ | assumption) (first | fail)
      go_wp2
      go_roundw
      case rel => exact ⟨k + 1, by omega, by go_num, HXD⟩
      case measure => simp [intOf]; omega
    · obtain ⟨x0, x1, x2, x3, x4, x5, x6, x7, x8, x9, x10, x11, x12, x13, x14⟩ := fifteen (kept L1.out HX2.out)
      obtain ⟨y0, y1, y2, y3, y4, y5, y6, y7, y8, y9, y10, y11, y12, y13, y14⟩ := fifteen (kept L2.out HX2.out)
      go_wp2
      go_ret
      exact ⟨rfl, HB3.out⟩

set_option maxHeartbeats 16000000 in
set_option maxRecDepth 100000 in
theorem same_fx (kd : Int) (nu : Int) (st : Int) (tx : ByteArray) (op : Int) (off : Int) (fx : Bool) (att : Int) (bo : Bool) (byy : Int) (sd : Int) (kc : Int) (fx' : Bool) (att' : Int) (bo' : Bool) (byy' : Int) (sd' : Int) (kc' : Int) (ms : List Mt) (ns es : List ByteArray) (ma na ea ma' na' ea' : Option Addr) (mc nc ec mc' nc' ec' : Nat) (w : World) (lm : HasM w ma ms) (ln : HasT w na ns) (le : HasT w ea es) (lm' : HasM w ma' ms) (ln' : HasT w na' ns) (le' : HasT w ea' es) (i5 : ms.length ≤ 1048576) (i11 : ns.length ≤ 1048576) (i13 : es.length ≤ 1048576) (hd : fx ≠ fx') : Calls Tryz.prog 132 #[.agg #[.int .i64 kd, .int .i64 nu, .int .i64 st, .string tx, .int .i64 op, .slice ma ms.length mc, .int .i64 off, .bool fx, .int .i64 att, .bool bo, .int .i64 byy, .slice na ns.length nc, .int .i64 sd, .slice ea es.length ec, .int .i64 kc], .agg #[.int .i64 kd, .int .i64 nu, .int .i64 st, .string tx, .int .i64 op, .slice ma' ms.length mc', .int .i64 off, .bool fx', .int .i64 att', .bool bo', .int .i64 byy', .slice na' ns.length nc', .int .i64 sd', .slice ea' es.length ec', .int .i64 kc']] w fun e w' => e = .returned (.bool false) ∧ Below w.heap.size w w' := by
  have gd : (fx == fx') = false := by cases fx <;> cases fx' <;> first | exact absurd rfl hd | rfl
  clear hd
  obtain ⟨X, hX⟩ : ∃ X, X = (w.alloc (.cells #[.int .i64 kd, .int .i64 nu, .int .i64 st, .string tx, .int .i64 op, .slice ma ms.length mc, .int .i64 off, .bool fx, .int .i64 att, .bool bo, .int .i64 byy, .slice na ns.length nc, .int .i64 sd, .slice ea es.length ec, .int .i64 kc] 55)).alloc (.cells #[.int .i64 kd, .int .i64 nu, .int .i64 st, .string tx, .int .i64 op, .slice ma' ms.length mc', .int .i64 off, .bool fx', .int .i64 att', .bool bo', .int .i64 byy', .slice na' ns.length nc', .int .i64 sd', .slice ea' es.length ec', .int .i64 kc'] 55) := ⟨_, rfl⟩
  have h1 : X.heap[w.heap.size]? = some (.cells #[.int .i64 kd, .int .i64 nu, .int .i64 st, .string tx, .int .i64 op, .slice ma ms.length mc, .int .i64 off, .bool fx, .int .i64 att, .bool bo, .int .i64 byy, .slice na ns.length nc, .int .i64 sd, .slice ea es.length ec, .int .i64 kc] 55) := by
    rw [hX]; exact kept (heap_alloc_new w _) ((Below.refl _ _).alloc (Nat.le_refl _) _)
  have h2 : X.heap[w.heap.size + 1]? = some (.cells #[.int .i64 kd, .int .i64 nu, .int .i64 st, .string tx, .int .i64 op, .slice ma' ms.length mc', .int .i64 off, .bool fx', .int .i64 att', .bool bo', .int .i64 byy', .slice na' ns.length nc', .int .i64 sd', .slice ea' es.length ec', .int .i64 kc'] 55) := by
    rw [hX]; have := heap_alloc_new (w.alloc (.cells #[.int .i64 kd, .int .i64 nu, .int .i64 st, .string tx, .int .i64 op, .slice ma ms.length mc, .int .i64 off, .bool fx, .int .i64 att, .bool bo, .int .i64 byy, .slice na ns.length nc, .int .i64 sd, .slice ea es.length ec, .int .i64 kc] 55)) (.cells #[.int .i64 kd, .int .i64 nu, .int .i64 st, .string tx, .int .i64 op, .slice ma' ms.length mc', .int .i64 off, .bool fx', .int .i64 att', .bool bo', .int .i64 byy', .slice na' ns.length nc', .int .i64 sd', .slice ea' es.length ec', .int .i64 kc'] 55); simpa only [World.size_alloc] using this
  have hbx : Below w.heap.size w X := by
    rw [hX]; exact ((Below.refl _ _).alloc (Nat.le_refl _) _).alloc (by simp) _
  have HX := hid hX
  have HBX := hid hbx
  have H1 := hid h1
  have H2 := hid h2
  have a5 := (fifteen h1).2.2.2.2.2.1
  have b5 := (fifteen h2).2.2.2.2.2.1
  have a11 := (fifteen h1).2.2.2.2.2.2.2.2.2.2.2.1
  have b11 := (fifteen h2).2.2.2.2.2.2.2.2.2.2.2.1
  clear hX hbx h1 h2
  have hq : ((ms.length : Int) != (ms.length : Int)) = false := by simp
  go_enter Tryz.func132, Tryz.ntmps132
  go_upto_region 1 with fail
  rw [← HX.out]
  go_wp2_with fail
  refine (f159 na na' ns.length ns.length nc nc' ns ns _ rfl rfl i11 i11 (ln.below HBX.out) (ln'.below HBX.out)).mono ?_
  rintro e w1 ⟨⟨b1, rfl, hb1⟩, hbb1⟩
  obtain rfl : b1 = true := hb1.2 rfl
  have HB1 := hid (HBX.out.trans (hbb1.mono HBX.out.size))
  have K1 := hid (kept H1.out hbb1)
  have K2 := hid (kept H2.out hbb1)
  have c13 := (fifteen K1.out).2.2.2.2.2.2.2.2.2.2.2.2.2.1
  have d13 := (fifteen K2.out).2.2.2.2.2.2.2.2.2.2.2.2.2.1
  clear hb1 hbb1 a5 b5 a11 b11
  go_wp2_with fail
  refine (f159 ea ea' es.length es.length ec ec' es es _ rfl rfl i13 i13 (le.below HB1.out) (le'.below HB1.out)).mono ?_
  rintro e w2 ⟨⟨b2, rfl, hb2⟩, hbb2⟩
  obtain rfl : b2 = true := hb2.2 rfl
  have HB2 := hid (HB1.out.trans (hbb2.mono HB1.out.size))
  have L1 := hid (kept K1.out hbb2)
  have L2 := hid (kept K2.out hbb2)
  clear hb2 hbb2 c13 d13
  have a5 := (fifteen L1.out).2.2.2.2.2.1
  have HLM := hid (lm.below HB2.out)
  have HLM' := hid (lm'.below HB2.out)
  clear lm lm' ln ln' le le'
  go_wp2
  go_loopw [32] (fun i wr => ∃ k : Nat, k ≤ ms.length ∧ i = .int .i64 k ∧ Hid (Below w2.heap.size w2 wr)) (fun i _ => ms.length - (intOf i).toNat)
  case atStart => exact ⟨0, Nat.zero_le _, rfl, Below.refl _ _⟩
  case round =>
    obtain ⟨k, hk, rfl, HX2⟩ := hrel
    have HB3 := hid (HB2.out.trans (HX2.out.mono HB2.out.size))
    by_cases hlt : k < ms.length
    · obtain ⟨b, off1, rfl, hbl, m0', m1', m2'⟩ := hasM_at2 HLM.out k hlt
      obtain ⟨b', off2, rfl, hbl', n0', n1', n2'⟩ := hasM_at2 HLM'.out k hlt
      have i1 : (k : Int) < (ms.length : Int) := by omega
      have HXD := hid HX2.out.drew
      have e0 : wr.drew.cell? ⟨b, off1 + k * 3, none⟩ = _ := (HXD.out.cell (p := ⟨b, off1 + k * 3, none⟩) hbl).trans m0'
      have e1 : wr.drew.cell? ⟨b, off1 + k * 3 + 1, none⟩ = _ := (HXD.out.cell (p := ⟨b, off1 + k * 3 + 1, none⟩) hbl).trans m1'
      have e2 : wr.drew.cell? ⟨b, off1 + k * 3 + 2, none⟩ = _ := (HXD.out.cell (p := ⟨b, off1 + k * 3 + 2, none⟩) hbl).trans m2'
      have e3 : wr.drew.cell? ⟨b', off2 + k * 3, none⟩ = _ := (HXD.out.cell (p := ⟨b', off2 + k * 3, none⟩) hbl').trans n0'
      have e4 : wr.drew.cell? ⟨b', off2 + k * 3 + 1, none⟩ = _ := (HXD.out.cell (p := ⟨b', off2 + k * 3 + 1, none⟩) hbl').trans n1'
      have e5 : wr.drew.cell? ⟨b', off2 + k * 3 + 2, none⟩ = _ := (HXD.out.cell (p := ⟨b', off2 + k * 3 + 2, none⟩) hbl').trans n2'
      have e6 := (fifteen (kept L1.out HXD.out)).2.2.2.2.2.1
      have e7 := (fifteen (kept L2.out HXD.out)).2.2.2.2.2.1
      have hnm := neqM (ms.getD k m0).1 (ms.getD k m0).2.2 (ms.getD k m0).2.1
      have hgm := g_mt
      clear m0' m1' m2' n0' n1' n2' a5
      generalize (ms.getD k m0).1 = x0 at *
      generalize (ms.getD k m0).2.1 = x1 at *
      generalize (ms.getD k m0).2.2 = x2 at *
      go_wp2_with fail
      go_region_held3 (fun w' => w'.cell? ⟨b, off1 + k * 3, none⟩ = some (.string x0) ∧ w'.cell? ⟨b, off1 + k * 3 + 1, none⟩ = some (.int .i64 x1) ∧ w'.cell? ⟨b, off1 + k * 3 + 2, none⟩ = some (.string x2) ∧ w'.cell? ⟨b', off2 + k * 3, none⟩ = some (.string x0) ∧ w'.cell? ⟨b', off2 + k * 3 + 1, none⟩ = some (.int .i64 x1) ∧ w'.cell? ⟨b', off2 + k * 3 + 2, none⟩ = some (.string x2) ∧ w'.cell? ⟨w.heap.size, 5, none⟩ = some (.slice (some ⟨b, off1, none⟩) ms.length mc) ∧ w'.cell? ⟨w.heap.size + 1, 5, none⟩ = some (.slice (some ⟨b', off2, none⟩) ms.length mc')) (first | exact ⟨e0, e1, e2, e3, e4, e5, e6, e7⟩ | assumption) (first | fail)
      go_wp2
      go_roundw
      case rel => exact ⟨k + 1, by omega, by go_num, HXD⟩
      case measure => simp [intOf]; omega
    · obtain ⟨x0, x1, x2, x3, x4, x5, x6, x7, x8, x9, x10, x11, x12, x13, x14⟩ := fifteen (kept L1.out HX2.out)
      obtain ⟨y0, y1, y2, y3, y4, y5, y6, y7, y8, y9, y10, y11, y12, y13, y14⟩ := fifteen (kept L2.out HX2.out)
      go_wp2
      go_ret
      exact ⟨rfl, HB3.out⟩
end Go.Proofs.YtbdlahhejfamhaaGreatDoor.Qry
/- Whether two rows say the same, as the model asks it (att, bo). -/
namespace Go.Proofs.YtbdlahhejfamhaaGreatDoor.Qry
open Go.RowKit
open Go.Proofs.YtbdlahhejfamhaaGreatDoor.Pat (ret_bool Mt m0 HasM)
open Go.Proofs.YtbdlahhejfamhaaGreatDoor.Fil (HasT FitT)

set_option maxHeartbeats 16000000 in
set_option maxRecDepth 100000 in
theorem same_att (kd : Int) (nu : Int) (st : Int) (tx : ByteArray) (op : Int) (off : Int) (fx : Bool) (att : Int) (bo : Bool) (byy : Int) (sd : Int) (kc : Int) (att' : Int) (bo' : Bool) (byy' : Int) (sd' : Int) (kc' : Int) (ms : List Mt) (ns es : List ByteArray) (ma na ea ma' na' ea' : Option Addr) (mc nc ec mc' nc' ec' : Nat) (w : World) (lm : HasM w ma ms) (ln : HasT w na ns) (le : HasT w ea es) (lm' : HasM w ma' ms) (ln' : HasT w na' ns) (le' : HasT w ea' es) (i5 : ms.length ≤ 1048576) (i11 : ns.length ≤ 1048576) (i13 : es.length ≤ 1048576) (hd : att ≠ att') : Calls Tryz.prog 132 #[.agg #[.int .i64 kd, .int .i64 nu, .int .i64 st, .string tx, .int .i64 op, .slice ma ms.length mc, .int .i64 off, .bool fx, .int .i64 att, .bool bo, .int .i64 byy, .slice na ns.length nc, .int .i64 sd, .slice ea es.length ec, .int .i64 kc], .agg #[.int .i64 kd, .int .i64 nu, .int .i64 st, .string tx, .int .i64 op, .slice ma' ms.length mc', .int .i64 off, .bool fx, .int .i64 att', .bool bo', .int .i64 byy', .slice na' ns.length nc', .int .i64 sd', .slice ea' es.length ec', .int .i64 kc']] w fun e w' => e = .returned (.bool false) ∧ Below w.heap.size w w' := by
  have gd : (att == att') = false := by simp [hd]
  clear hd
  obtain ⟨X, hX⟩ : ∃ X, X = (w.alloc (.cells #[.int .i64 kd, .int .i64 nu, .int .i64 st, .string tx, .int .i64 op, .slice ma ms.length mc, .int .i64 off, .bool fx, .int .i64 att, .bool bo, .int .i64 byy, .slice na ns.length nc, .int .i64 sd, .slice ea es.length ec, .int .i64 kc] 55)).alloc (.cells #[.int .i64 kd, .int .i64 nu, .int .i64 st, .string tx, .int .i64 op, .slice ma' ms.length mc', .int .i64 off, .bool fx, .int .i64 att', .bool bo', .int .i64 byy', .slice na' ns.length nc', .int .i64 sd', .slice ea' es.length ec', .int .i64 kc'] 55) := ⟨_, rfl⟩
  have h1 : X.heap[w.heap.size]? = some (.cells #[.int .i64 kd, .int .i64 nu, .int .i64 st, .string tx, .int .i64 op, .slice ma ms.length mc, .int .i64 off, .bool fx, .int .i64 att, .bool bo, .int .i64 byy, .slice na ns.length nc, .int .i64 sd, .slice ea es.length ec, .int .i64 kc] 55) := by
    rw [hX]; exact kept (heap_alloc_new w _) ((Below.refl _ _).alloc (Nat.le_refl _) _)
  have h2 : X.heap[w.heap.size + 1]? = some (.cells #[.int .i64 kd, .int .i64 nu, .int .i64 st, .string tx, .int .i64 op, .slice ma' ms.length mc', .int .i64 off, .bool fx, .int .i64 att', .bool bo', .int .i64 byy', .slice na' ns.length nc', .int .i64 sd', .slice ea' es.length ec', .int .i64 kc'] 55) := by
    rw [hX]; have := heap_alloc_new (w.alloc (.cells #[.int .i64 kd, .int .i64 nu, .int .i64 st, .string tx, .int .i64 op, .slice ma ms.length mc, .int .i64 off, .bool fx, .int .i64 att, .bool bo, .int .i64 byy, .slice na ns.length nc, .int .i64 sd, .slice ea es.length ec, .int .i64 kc] 55)) (.cells #[.int .i64 kd, .int .i64 nu, .int .i64 st, .string tx, .int .i64 op, .slice ma' ms.length mc', .int .i64 off, .bool fx, .int .i64 att', .bool bo', .int .i64 byy', .slice na' ns.length nc', .int .i64 sd', .slice ea' es.length ec', .int .i64 kc'] 55); simpa only [World.size_alloc] using this
  have hbx : Below w.heap.size w X := by
    rw [hX]; exact ((Below.refl _ _).alloc (Nat.le_refl _) _).alloc (by simp) _
  have HX := hid hX
  have HBX := hid hbx
  have H1 := hid h1
  have H2 := hid h2
  have a5 := (fifteen h1).2.2.2.2.2.1
  have b5 := (fifteen h2).2.2.2.2.2.1
  have a11 := (fifteen h1).2.2.2.2.2.2.2.2.2.2.2.1
  have b11 := (fifteen h2).2.2.2.2.2.2.2.2.2.2.2.1
  clear hX hbx h1 h2
  have hq : ((ms.length : Int) != (ms.length : Int)) = false := by simp
  go_enter Tryz.func132, Tryz.ntmps132
  go_upto_region 1 with fail
  rw [← HX.out]
  go_wp2_with fail
  refine (f159 na na' ns.length ns.length nc nc' ns ns _ rfl rfl i11 i11 (ln.below HBX.out) (ln'.below HBX.out)).mono ?_
  rintro e w1 ⟨⟨b1, rfl, hb1⟩, hbb1⟩
  obtain rfl : b1 = true := hb1.2 rfl
  have HB1 := hid (HBX.out.trans (hbb1.mono HBX.out.size))
  have K1 := hid (kept H1.out hbb1)
  have K2 := hid (kept H2.out hbb1)
  have c13 := (fifteen K1.out).2.2.2.2.2.2.2.2.2.2.2.2.2.1
  have d13 := (fifteen K2.out).2.2.2.2.2.2.2.2.2.2.2.2.2.1
  clear hb1 hbb1 a5 b5 a11 b11
  go_wp2_with fail
  refine (f159 ea ea' es.length es.length ec ec' es es _ rfl rfl i13 i13 (le.below HB1.out) (le'.below HB1.out)).mono ?_
  rintro e w2 ⟨⟨b2, rfl, hb2⟩, hbb2⟩
  obtain rfl : b2 = true := hb2.2 rfl
  have HB2 := hid (HB1.out.trans (hbb2.mono HB1.out.size))
  have L1 := hid (kept K1.out hbb2)
  have L2 := hid (kept K2.out hbb2)
  clear hb2 hbb2 c13 d13
  have a5 := (fifteen L1.out).2.2.2.2.2.1
  have HLM := hid (lm.below HB2.out)
  have HLM' := hid (lm'.below HB2.out)
  clear lm lm' ln ln' le le'
  go_wp2
  go_loopw [32] (fun i wr => ∃ k : Nat, k ≤ ms.length ∧ i = .int .i64 k ∧ Hid (Below w2.heap.size w2 wr)) (fun i _ => ms.length - (intOf i).toNat)
  case atStart => exact ⟨0, Nat.zero_le _, rfl, Below.refl _ _⟩
  case round =>
    obtain ⟨k, hk, rfl, HX2⟩ := hrel
    have HB3 := hid (HB2.out.trans (HX2.out.mono HB2.out.size))
    by_cases hlt : k < ms.length
    · obtain ⟨b, off1, rfl, hbl, m0', m1', m2'⟩ := hasM_at2 HLM.out k hlt
      obtain ⟨b', off2, rfl, hbl', n0', n1', n2'⟩ := hasM_at2 HLM'.out k hlt
      have i1 : (k : Int) < (ms.length : Int) := by omega
      have HXD := hid HX2.out.drew
      have e0 : wr.drew.cell? ⟨b, off1 + k * 3, none⟩ = _ := (HXD.out.cell (p := ⟨b, off1 + k * 3, none⟩) hbl).trans m0'
      have e1 : wr.drew.cell? ⟨b, off1 + k * 3 + 1, none⟩ = _ := (HXD.out.cell (p := ⟨b, off1 + k * 3 + 1, none⟩) hbl).trans m1'
      have e2 : wr.drew.cell? ⟨b, off1 + k * 3 + 2, none⟩ = _ := (HXD.out.cell (p := ⟨b, off1 + k * 3 + 2, none⟩) hbl).trans m2'
      have e3 : wr.drew.cell? ⟨b', off2 + k * 3, none⟩ = _ := (HXD.out.cell (p := ⟨b', off2 + k * 3, none⟩) hbl').trans n0'
      have e4 : wr.drew.cell? ⟨b', off2 + k * 3 + 1, none⟩ = _ := (HXD.out.cell (p := ⟨b', off2 + k * 3 + 1, none⟩) hbl').trans n1'
      have e5 : wr.drew.cell? ⟨b', off2 + k * 3 + 2, none⟩ = _ := (HXD.out.cell (p := ⟨b', off2 + k * 3 + 2, none⟩) hbl').trans n2'
      have e6 := (fifteen (kept L1.out HXD.out)).2.2.2.2.2.1
      have e7 := (fifteen (kept L2.out HXD.out)).2.2.2.2.2.1
      have hnm := neqM (ms.getD k m0).1 (ms.getD k m0).2.2 (ms.getD k m0).2.1
      have hgm := g_mt
      clear m0' m1' m2' n0' n1' n2' a5
      generalize (ms.getD k m0).1 = x0 at *
      generalize (ms.getD k m0).2.1 = x1 at *
      generalize (ms.getD k m0).2.2 = x2 at *
      go_wp2_with fail
      go_region_held3 (fun w' => w'.cell? ⟨b, off1 + k * 3, none⟩ = some (.string x0) ∧ w'.cell? ⟨b, off1 + k * 3 + 1, none⟩ = some (.int .i64 x1) ∧ w'.cell? ⟨b, off1 + k * 3 + 2, none⟩ = some (.string x2) ∧ w'.cell? ⟨b', off2 + k * 3, none⟩ = some (.string x0) ∧ w'.cell? ⟨b', off2 + k * 3 + 1, none⟩ = some (.int .i64 x1) ∧ w'.cell? ⟨b', off2 + k * 3 + 2, none⟩ = some (.string x2) ∧ w'.cell? ⟨w.heap.size, 5, none⟩ = some (.slice (some ⟨b, off1, none⟩) ms.length mc) ∧ w'.cell? ⟨w.heap.size + 1, 5, none⟩ = some (.slice (some ⟨b', off2, none⟩) ms.length mc')) (first | exact ⟨e0, e1, e2, e3, e4, e5, e6, e7⟩ | assumption) (first | fail)
      go_wp2
      go_roundw
      case rel => exact ⟨k + 1, by omega, by go_num, HXD⟩
      case measure => simp [intOf]; omega
    · obtain ⟨x0, x1, x2, x3, x4, x5, x6, x7, x8, x9, x10, x11, x12, x13, x14⟩ := fifteen (kept L1.out HX2.out)
      obtain ⟨y0, y1, y2, y3, y4, y5, y6, y7, y8, y9, y10, y11, y12, y13, y14⟩ := fifteen (kept L2.out HX2.out)
      go_wp2
      go_ret
      exact ⟨rfl, HB3.out⟩

set_option maxHeartbeats 16000000 in
set_option maxRecDepth 100000 in
theorem same_bo (kd : Int) (nu : Int) (st : Int) (tx : ByteArray) (op : Int) (off : Int) (fx : Bool) (att : Int) (bo : Bool) (byy : Int) (sd : Int) (kc : Int) (bo' : Bool) (byy' : Int) (sd' : Int) (kc' : Int) (ms : List Mt) (ns es : List ByteArray) (ma na ea ma' na' ea' : Option Addr) (mc nc ec mc' nc' ec' : Nat) (w : World) (lm : HasM w ma ms) (ln : HasT w na ns) (le : HasT w ea es) (lm' : HasM w ma' ms) (ln' : HasT w na' ns) (le' : HasT w ea' es) (i5 : ms.length ≤ 1048576) (i11 : ns.length ≤ 1048576) (i13 : es.length ≤ 1048576) (hd : bo ≠ bo') : Calls Tryz.prog 132 #[.agg #[.int .i64 kd, .int .i64 nu, .int .i64 st, .string tx, .int .i64 op, .slice ma ms.length mc, .int .i64 off, .bool fx, .int .i64 att, .bool bo, .int .i64 byy, .slice na ns.length nc, .int .i64 sd, .slice ea es.length ec, .int .i64 kc], .agg #[.int .i64 kd, .int .i64 nu, .int .i64 st, .string tx, .int .i64 op, .slice ma' ms.length mc', .int .i64 off, .bool fx, .int .i64 att, .bool bo', .int .i64 byy', .slice na' ns.length nc', .int .i64 sd', .slice ea' es.length ec', .int .i64 kc']] w fun e w' => e = .returned (.bool false) ∧ Below w.heap.size w w' := by
  have gd : (bo == bo') = false := by cases bo <;> cases bo' <;> first | exact absurd rfl hd | rfl
  clear hd
  obtain ⟨X, hX⟩ : ∃ X, X = (w.alloc (.cells #[.int .i64 kd, .int .i64 nu, .int .i64 st, .string tx, .int .i64 op, .slice ma ms.length mc, .int .i64 off, .bool fx, .int .i64 att, .bool bo, .int .i64 byy, .slice na ns.length nc, .int .i64 sd, .slice ea es.length ec, .int .i64 kc] 55)).alloc (.cells #[.int .i64 kd, .int .i64 nu, .int .i64 st, .string tx, .int .i64 op, .slice ma' ms.length mc', .int .i64 off, .bool fx, .int .i64 att, .bool bo', .int .i64 byy', .slice na' ns.length nc', .int .i64 sd', .slice ea' es.length ec', .int .i64 kc'] 55) := ⟨_, rfl⟩
  have h1 : X.heap[w.heap.size]? = some (.cells #[.int .i64 kd, .int .i64 nu, .int .i64 st, .string tx, .int .i64 op, .slice ma ms.length mc, .int .i64 off, .bool fx, .int .i64 att, .bool bo, .int .i64 byy, .slice na ns.length nc, .int .i64 sd, .slice ea es.length ec, .int .i64 kc] 55) := by
    rw [hX]; exact kept (heap_alloc_new w _) ((Below.refl _ _).alloc (Nat.le_refl _) _)
  have h2 : X.heap[w.heap.size + 1]? = some (.cells #[.int .i64 kd, .int .i64 nu, .int .i64 st, .string tx, .int .i64 op, .slice ma' ms.length mc', .int .i64 off, .bool fx, .int .i64 att, .bool bo', .int .i64 byy', .slice na' ns.length nc', .int .i64 sd', .slice ea' es.length ec', .int .i64 kc'] 55) := by
    rw [hX]; have := heap_alloc_new (w.alloc (.cells #[.int .i64 kd, .int .i64 nu, .int .i64 st, .string tx, .int .i64 op, .slice ma ms.length mc, .int .i64 off, .bool fx, .int .i64 att, .bool bo, .int .i64 byy, .slice na ns.length nc, .int .i64 sd, .slice ea es.length ec, .int .i64 kc] 55)) (.cells #[.int .i64 kd, .int .i64 nu, .int .i64 st, .string tx, .int .i64 op, .slice ma' ms.length mc', .int .i64 off, .bool fx, .int .i64 att, .bool bo', .int .i64 byy', .slice na' ns.length nc', .int .i64 sd', .slice ea' es.length ec', .int .i64 kc'] 55); simpa only [World.size_alloc] using this
  have hbx : Below w.heap.size w X := by
    rw [hX]; exact ((Below.refl _ _).alloc (Nat.le_refl _) _).alloc (by simp) _
  have HX := hid hX
  have HBX := hid hbx
  have H1 := hid h1
  have H2 := hid h2
  have a5 := (fifteen h1).2.2.2.2.2.1
  have b5 := (fifteen h2).2.2.2.2.2.1
  have a11 := (fifteen h1).2.2.2.2.2.2.2.2.2.2.2.1
  have b11 := (fifteen h2).2.2.2.2.2.2.2.2.2.2.2.1
  clear hX hbx h1 h2
  have hq : ((ms.length : Int) != (ms.length : Int)) = false := by simp
  go_enter Tryz.func132, Tryz.ntmps132
  go_upto_region 1 with fail
  rw [← HX.out]
  go_wp2_with fail
  refine (f159 na na' ns.length ns.length nc nc' ns ns _ rfl rfl i11 i11 (ln.below HBX.out) (ln'.below HBX.out)).mono ?_
  rintro e w1 ⟨⟨b1, rfl, hb1⟩, hbb1⟩
  obtain rfl : b1 = true := hb1.2 rfl
  have HB1 := hid (HBX.out.trans (hbb1.mono HBX.out.size))
  have K1 := hid (kept H1.out hbb1)
  have K2 := hid (kept H2.out hbb1)
  have c13 := (fifteen K1.out).2.2.2.2.2.2.2.2.2.2.2.2.2.1
  have d13 := (fifteen K2.out).2.2.2.2.2.2.2.2.2.2.2.2.2.1
  clear hb1 hbb1 a5 b5 a11 b11
  go_wp2_with fail
  refine (f159 ea ea' es.length es.length ec ec' es es _ rfl rfl i13 i13 (le.below HB1.out) (le'.below HB1.out)).mono ?_
  rintro e w2 ⟨⟨b2, rfl, hb2⟩, hbb2⟩
  obtain rfl : b2 = true := hb2.2 rfl
  have HB2 := hid (HB1.out.trans (hbb2.mono HB1.out.size))
  have L1 := hid (kept K1.out hbb2)
  have L2 := hid (kept K2.out hbb2)
  clear hb2 hbb2 c13 d13
  have a5 := (fifteen L1.out).2.2.2.2.2.1
  have HLM := hid (lm.below HB2.out)
  have HLM' := hid (lm'.below HB2.out)
  clear lm lm' ln ln' le le'
  go_wp2
  go_loopw [32] (fun i wr => ∃ k : Nat, k ≤ ms.length ∧ i = .int .i64 k ∧ Hid (Below w2.heap.size w2 wr)) (fun i _ => ms.length - (intOf i).toNat)
  case atStart => exact ⟨0, Nat.zero_le _, rfl, Below.refl _ _⟩
  case round =>
    obtain ⟨k, hk, rfl, HX2⟩ := hrel
    have HB3 := hid (HB2.out.trans (HX2.out.mono HB2.out.size))
    by_cases hlt : k < ms.length
    · obtain ⟨b, off1, rfl, hbl, m0', m1', m2'⟩ := hasM_at2 HLM.out k hlt
      obtain ⟨b', off2, rfl, hbl', n0', n1', n2'⟩ := hasM_at2 HLM'.out k hlt
      have i1 : (k : Int) < (ms.length : Int) := by omega
      have HXD := hid HX2.out.drew
      have e0 : wr.drew.cell? ⟨b, off1 + k * 3, none⟩ = _ := (HXD.out.cell (p := ⟨b, off1 + k * 3, none⟩) hbl).trans m0'
      have e1 : wr.drew.cell? ⟨b, off1 + k * 3 + 1, none⟩ = _ := (HXD.out.cell (p := ⟨b, off1 + k * 3 + 1, none⟩) hbl).trans m1'
      have e2 : wr.drew.cell? ⟨b, off1 + k * 3 + 2, none⟩ = _ := (HXD.out.cell (p := ⟨b, off1 + k * 3 + 2, none⟩) hbl).trans m2'
      have e3 : wr.drew.cell? ⟨b', off2 + k * 3, none⟩ = _ := (HXD.out.cell (p := ⟨b', off2 + k * 3, none⟩) hbl').trans n0'
      have e4 : wr.drew.cell? ⟨b', off2 + k * 3 + 1, none⟩ = _ := (HXD.out.cell (p := ⟨b', off2 + k * 3 + 1, none⟩) hbl').trans n1'
      have e5 : wr.drew.cell? ⟨b', off2 + k * 3 + 2, none⟩ = _ := (HXD.out.cell (p := ⟨b', off2 + k * 3 + 2, none⟩) hbl').trans n2'
      have e6 := (fifteen (kept L1.out HXD.out)).2.2.2.2.2.1
      have e7 := (fifteen (kept L2.out HXD.out)).2.2.2.2.2.1
      have hnm := neqM (ms.getD k m0).1 (ms.getD k m0).2.2 (ms.getD k m0).2.1
      have hgm := g_mt
      clear m0' m1' m2' n0' n1' n2' a5
      generalize (ms.getD k m0).1 = x0 at *
      generalize (ms.getD k m0).2.1 = x1 at *
      generalize (ms.getD k m0).2.2 = x2 at *
      go_wp2_with fail
      go_region_held3 (fun w' => w'.cell? ⟨b, off1 + k * 3, none⟩ = some (.string x0) ∧ w'.cell? ⟨b, off1 + k * 3 + 1, none⟩ = some (.int .i64 x1) ∧ w'.cell? ⟨b, off1 + k * 3 + 2, none⟩ = some (.string x2) ∧ w'.cell? ⟨b', off2 + k * 3, none⟩ = some (.string x0) ∧ w'.cell? ⟨b', off2 + k * 3 + 1, none⟩ = some (.int .i64 x1) ∧ w'.cell? ⟨b', off2 + k * 3 + 2, none⟩ = some (.string x2) ∧ w'.cell? ⟨w.heap.size, 5, none⟩ = some (.slice (some ⟨b, off1, none⟩) ms.length mc) ∧ w'.cell? ⟨w.heap.size + 1, 5, none⟩ = some (.slice (some ⟨b', off2, none⟩) ms.length mc')) (first | exact ⟨e0, e1, e2, e3, e4, e5, e6, e7⟩ | assumption) (first | fail)
      go_wp2
      go_roundw
      case rel => exact ⟨k + 1, by omega, by go_num, HXD⟩
      case measure => simp [intOf]; omega
    · obtain ⟨x0, x1, x2, x3, x4, x5, x6, x7, x8, x9, x10, x11, x12, x13, x14⟩ := fifteen (kept L1.out HX2.out)
      obtain ⟨y0, y1, y2, y3, y4, y5, y6, y7, y8, y9, y10, y11, y12, y13, y14⟩ := fifteen (kept L2.out HX2.out)
      go_wp2
      go_ret
      exact ⟨rfl, HB3.out⟩
end Go.Proofs.YtbdlahhejfamhaaGreatDoor.Qry
