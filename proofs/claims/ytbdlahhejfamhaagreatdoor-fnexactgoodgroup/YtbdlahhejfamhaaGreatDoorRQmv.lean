/- Whether two rows say the same, as the model asks it. -/
import Derived.Test.YtbdlahhejfamhaaGreatDoorRA6
import Derived.Test.YtbdlahhejfamhaaGreatDoorRA8
import Derived.Deep.RegionHeld3
namespace Go.Proofs.YtbdlahhejfamhaaGreatDoor.Qry
open Go.RowKit
open Go.Proofs.YtbdlahhejfamhaaGreatDoor.Pat (ret_bool Mt m0 HasM)
open Go.Proofs.YtbdlahhejfamhaaGreatDoor.Fil (HasT FitT)

theorem neqM (s t : ByteArray) (o : Int) (w : World) : (binOp .neq 138 (.agg #[.string s, .int .i64 o, .string t]) (.agg #[.string s, .int .i64 o, .string t])).run Tryz.prog w = .ok (.bool false) w := by
  rw [run_neq_struct, show (10000 : Nat) = 9999 + 1 from rfl, run_equalIn_agg w 9999 138 _ _ (by kernel_rfl) (by kernel_rfl)]
  have hu := Tryz.underlying138
  have h3 := Tryz.underlying3
  have h9 := Tryz.underlying9
  simp only [Program.fieldsOf, hu]
  simp [go_sem, h3, h9, Op.eqFields, part]
theorem g_mt : Tryz.prog.eqGuardType Tryz.prog.depth 138 = false := by kernel_rfl
theorem hasM_at2 {w : World} {a : Option Addr} {ms : List Mt} (h : HasM w a ms) (k : Nat) (hk : k < ms.length) : ∃ b off, a = some ⟨b, off, none⟩ ∧ b < w.heap.size ∧ w.cell? ⟨b, off + k * 3, none⟩ = some (.string (ms.getD k m0).1) ∧ w.cell? ⟨b, off + k * 3 + 1, none⟩ = some (.int .i64 (ms.getD k m0).2.1) ∧ w.cell? ⟨b, off + k * 3 + 2, none⟩ = some (.string (ms.getD k m0).2.2) := by
  rcases h with h | ⟨b, off, h1, h2, h3⟩
  · rw [h] at hk; simp at hk
  · exact ⟨b, off, h1, h2, h3 k hk⟩
set_option maxHeartbeats 16000000 in
set_option maxRecDepth 100000 in
theorem diffNode (q z : R) (w : World) (hm : z.ms = q.ms ∨ z.ms = []) (hne : ¬ (z.ms = q.ms ∧ z.ns = q.ns ∧ z.es = q.es)) (hl : Lst w q) (hl' : Lst w z) (hs : wt q ≤ 1048576) (hs' : wt z ≤ 1048576) : Calls Tryz.prog 132 #[agR q, agR z] w fun e w' => e = .returned (.bool false) ∧ Below w.heap.size w w' := by
  obtain ⟨kd, nu, st, tx, op, ms, ma, mc, off, fx, att, bo, byy, ns, na, nc, sd, es, ea, ec, kc⟩ := q
  obtain ⟨kd', nu', st', tx', op', ms', ma', mc', off', fx', att', bo', byy', ns', na', nc', sd', es', ea', ec', kc'⟩ := z
  obtain ⟨lm, ln, le⟩ := hl
  obtain ⟨lm', ln', le'⟩ := hl'
  simp only [wt] at hs hs' hm hne lm ln le lm' ln' le'
  obtain ⟨X, hX⟩ : ∃ X, X = (w.alloc (.cells #[.int .i64 kd, .int .i64 nu, .int .i64 st, .string tx, .int .i64 op, .slice ma ms.length mc, .int .i64 off, .bool fx, .int .i64 att, .bool bo, .int .i64 byy, .slice na ns.length nc, .int .i64 sd, .slice ea es.length ec, .int .i64 kc] 55)).alloc (.cells #[.int .i64 kd', .int .i64 nu', .int .i64 st', .string tx', .int .i64 op', .slice ma' ms'.length mc', .int .i64 off', .bool fx', .int .i64 att', .bool bo', .int .i64 byy', .slice na' ns'.length nc', .int .i64 sd', .slice ea' es'.length ec', .int .i64 kc'] 55) := ⟨_, rfl⟩
  have h1 : X.heap[w.heap.size]? = some (.cells #[.int .i64 kd, .int .i64 nu, .int .i64 st, .string tx, .int .i64 op, .slice ma ms.length mc, .int .i64 off, .bool fx, .int .i64 att, .bool bo, .int .i64 byy, .slice na ns.length nc, .int .i64 sd, .slice ea es.length ec, .int .i64 kc] 55) := by
    rw [hX]; exact kept (heap_alloc_new w _) ((Below.refl _ _).alloc (Nat.le_refl _) _)
  have h2 : X.heap[w.heap.size + 1]? = some (.cells #[.int .i64 kd', .int .i64 nu', .int .i64 st', .string tx', .int .i64 op', .slice ma' ms'.length mc', .int .i64 off', .bool fx', .int .i64 att', .bool bo', .int .i64 byy', .slice na' ns'.length nc', .int .i64 sd', .slice ea' es'.length ec', .int .i64 kc'] 55) := by
    rw [hX]; have := heap_alloc_new (w.alloc (.cells #[.int .i64 kd, .int .i64 nu, .int .i64 st, .string tx, .int .i64 op, .slice ma ms.length mc, .int .i64 off, .bool fx, .int .i64 att, .bool bo, .int .i64 byy, .slice na ns.length nc, .int .i64 sd, .slice ea es.length ec, .int .i64 kc] 55)) (.cells #[.int .i64 kd', .int .i64 nu', .int .i64 st', .string tx', .int .i64 op', .slice ma' ms'.length mc', .int .i64 off', .bool fx', .int .i64 att', .bool bo', .int .i64 byy', .slice na' ns'.length nc', .int .i64 sd', .slice ea' es'.length ec', .int .i64 kc'] 55); simpa only [World.size_alloc] using this
  have hbx : Below w.heap.size w X := by
    rw [hX]; exact ((Below.refl _ _).alloc (Nat.le_refl _) _).alloc (by simp) _
  have HX := hid hX
  have HBX := hid hbx
  have H1 := hid h1
  have H2 := hid h2
  have a5 := (fifteen h1).2.2.2.2.2.1
  have b5 := (fifteen h2).2.2.2.2.2.1
  have a11 := (fifteen h1).2.2.2.2.2.2.2.2.2.2.2.1
  have b11 := (fifteen h2).2.2.2.2.2.2.2.2.2.2.2.1
  have i11 : ns.length ≤ 1048576 := by omega
  have i11' : ns'.length ≤ 1048576 := by omega
  have i13 : es.length ≤ 1048576 := by omega
  have i13' : es'.length ≤ 1048576 := by omega
  have i5 : ms.length ≤ 1048576 := by omega
  clear hX hbx h1 h2
  by_cases hml : ms.length = ms'.length
  case neg =>
    have hq : ((ms.length : Int) != (ms'.length : Int)) = true := by rw [bne_iff_ne]; omega
    clear hml hne
    go_enter Tryz.func132, Tryz.ntmps132
    go_upto_region 1 with fail
    rw [← HX.out]
    go_wp2
    go_ret
    exact ⟨rfl, HBX.out⟩
  obtain rfl : ms' = ms := by
    rcases hm with h | h
    · exact h
    · rw [h] at hml; rw [h]; exact (List.length_eq_zero_iff.1 (by simpa using hml)).symm
  have hq : ((ms'.length : Int) != (ms'.length : Int)) = false := by simp
  have HNE := hid hne
  clear hm hml hne
  go_enter Tryz.func132, Tryz.ntmps132
  go_upto_region 1 with fail
  rw [← HX.out]
  go_wp2_with fail
  refine (f159 na na' ns.length ns'.length nc nc' ns ns' _ rfl rfl i11 i11' (ln.below HBX.out) (ln'.below HBX.out)).mono ?_
  rintro e w1 ⟨⟨b1, rfl, hb1⟩, hbb1⟩
  have HB1 := hid (HBX.out.trans (hbb1.mono HBX.out.size))
  have K1 := hid (kept H1.out hbb1)
  have K2 := hid (kept H2.out hbb1)
  have HQ1 := hid hb1
  have c13 := (fifteen K1.out).2.2.2.2.2.2.2.2.2.2.2.2.2.1
  have d13 := (fifteen K2.out).2.2.2.2.2.2.2.2.2.2.2.2.2.1
  clear hb1 hbb1 a5 b5 a11 b11
  cases b1
  · go_wp2
    go_ret
    exact ⟨rfl, HB1.out⟩
  go_wp2_with fail
  refine (f159 ea ea' es.length es'.length ec ec' es es' _ rfl rfl i13 i13' (le.below HB1.out) (le'.below HB1.out)).mono ?_
  rintro e w2 ⟨⟨b2, rfl, hb2⟩, hbb2⟩
  have HB2 := hid (HB1.out.trans (hbb2.mono HB1.out.size))
  have L1 := hid (kept K1.out hbb2)
  have L2 := hid (kept K2.out hbb2)
  have HQ2 := hid hb2
  clear hb2 hbb2 c13 d13
  cases b2
  · go_wp2
    go_ret
    exact ⟨rfl, HB2.out⟩
  exfalso
  have e1 := HQ1.out
  have e2 := HQ2.out
  have e3 := HNE.out
  simp at e1 e2
  subst e1 e2
  simp at e3
end Go.Proofs.YtbdlahhejfamhaaGreatDoor.Qry
