/- The model takes a tree off a list, whatever the list; its GoodQuery. -/
import Derived.Test.YtbdlahhejfamhaaGreatDoorRQmzd
namespace Go.Proofs.YtbdlahhejfamhaaGreatDoor.Qry
open Go.RowKit

theorem take_all : ∀ D, TakeOkQ D := by
  intro D
  induction D with
  | zero =>
    intro rs a c k d w0 w hD hd hk h60 hr hrs hb0
    obtain rfl : d = 13 := by omega
    by_cases h : k < rs.length
    · refine (take_deep a c k rs.length ((13 : Nat) : Int) w h (by omega)).mono ?_
      rintro e w' ⟨rfl, hb⟩
      exact ⟨hb, .inl ⟨_, rfl, fun t x he => no_deep (by omega) t x _ he⟩⟩
    · obtain rfl : k = rs.length := by omega
      refine (take_end a c rs.length rs.length ((13 : Nat) : Int) w (Nat.le_refl _)).mono ?_
      rintro e w' ⟨rfl, hb⟩
      exact ⟨hb, .inl ⟨_, rfl, by rw [List.drop_length]; exact no_rows⟩⟩
  | succ D ih =>
    intro rs a c k d w0 w hD hd hk h60 hr hrs hb0
    by_cases h : k < rs.length
    rotate_left
    · obtain rfl : k = rs.length := by omega
      refine (take_end a c rs.length rs.length (d : Int) w (Nat.le_refl _)).mono ?_
      rintro e w' ⟨rfl, hb⟩
      exact ⟨hb, .inl ⟨_, rfl, by rw [List.drop_length]; exact no_rows⟩⟩
    by_cases h13 : d = 13
    · subst h13
      refine (take_deep a c k rs.length ((13 : Nat) : Int) w h (by omega)).mono ?_
      rintro e w' ⟨rfl, hb⟩
      exact ⟨hb, .inl ⟨_, rfl, fun t x he => no_deep (by omega) t x _ he⟩⟩
    obtain ⟨b, off, rfl, hbl, hcl, hl⟩ := hr.at2 k h
    by_cases hn : told (pl (rs.getD k r0)) ∧ right (pl (rs.getD k r0)) = true ∧ kidsM (pl (rs.getD k r0))
    · exact take_step D ih rs b off c k d w0 w _ rfl (by omega) (by omega) h h60 hr hrs hb0 hbl hcl hn
    · refine (take_none (rs.getD k r0) b off c k rs.length d w w0 h (by omega) (hrs _ (mem_q h)) hb0 (Nat.lt_of_lt_of_le hbl hb0.size) (hcl.below hb0 hbl) hn).mono ?_
      rintro e w' ⟨rfl, hb⟩
      exact ⟨hb, .inl ⟨_, rfl, by rw [drop_q h]; exact no_nodeM hn⟩⟩

abbrev sixw (x : World) (b : Nat) (u0 u1 u2 u3 u4 u5 u6 u7 u8 u9 u10 u11 u12 u13 u14 u15 : Value) : World := ((((((((((((((((x.setCell ⟨b, 0, none⟩ u0).setCell ⟨b, 1, none⟩ u1).setCell ⟨b, 2, none⟩ u2).setCell ⟨b, 3, none⟩ u3).setCell ⟨b, 4, none⟩ u4).setCell ⟨b, 5, none⟩ u5).setCell ⟨b, 6, none⟩ u6).setCell ⟨b, 7, none⟩ u7).setCell ⟨b, 8, none⟩ u8).setCell ⟨b, 9, none⟩ u9).setCell ⟨b, 10, none⟩ u10).setCell ⟨b, 11, none⟩ u11).setCell ⟨b, 12, none⟩ u12).setCell ⟨b, 13, none⟩ u13).setCell ⟨b, 14, none⟩ u14).setCell ⟨b, 15, none⟩ u15)
theorem agr16 {x : World} {b : Nat} (u0 u1 u2 u3 u4 u5 u6 u7 u8 u9 u10 u11 u12 u13 u14 u15 : Value) : (∀ y, y ≠ b → (sixw x b u0 u1 u2 u3 u4 u5 u6 u7 u8 u9 u10 u11 u12 u13 u14 u15).heap[y]? = x.heap[y]?) ∧ (sixw x b u0 u1 u2 u3 u4 u5 u6 u7 u8 u9 u10 u11 u12 u13 u14 u15).heap.size = x.heap.size := by
  refine ⟨fun y hy => ?_, by simp⟩
  iterate 16 rw [Below.heap_setCell _ _ _ y hy]
/-- What l15Tree leaves: whether it is a tree, and the tree. -/
def TreeR (w0 : World) (rs : List R) (w : World) (e : Ending) (w' : World) : Prop :=
  Below w.heap.size w w' ∧ ∃ (z : E) (b : Bool), e = .returned (.tuple #[agX z, .bool b]) ∧ (b = true ↔ GoodQ (rs.map pl)) ∧
    (b = true → ∃ t, rs.map pl = rows t ∧ Gt NM 1 t ∧ Ev w0 (fun y => w.heap.size ≤ y ∧ y < w'.heap.size) w' t z)

set_option maxHeartbeats 8000000 in
set_option maxRecDepth 100000 in
theorem f30 (rs : List R) (a : Option Addr) (c : Nat) (w0 w : World) (hm : rs.length ≤ maxLen) (hr : HasR w0 a rs) (hrs : ∀ q ∈ rs, Rw w0 q) (hb0 : Below w0.heap.size w0 w) :
    Calls Tryz.prog 30 #[.slice a rs.length c] w (TreeR w0 rs w) := by
  unfold maxLen at hm
  obtain ⟨X, hX⟩ : ∃ X, X = w.alloc ZE := ⟨_, rfl⟩
  have h1 : X.heap[w.heap.size]? = some ZE := by rw [hX]; exact heap_alloc_new w _
  have hbx : Below w.heap.size w X := by rw [hX]; exact (Below.refl _ _).alloc (Nat.le_refl _) _
  have hw0 := hb0.size
  by_cases h60 : (rs.length : Int) > 60
  · have HB := hid (row_below hbx (Nat.le_refl _) arZ)
    have HV := hid (row_at (c := arZ) h1)
    have HN : Hid ¬ GoodQ (rs.map pl) := fun g => by have := g.1; simp at this; omega
    have HX := hid hX
    clear hX hbx hr hrs hb0
    go_enter Tryz.func30, Tryz.ntmps30
    go_upto_region 2 with fail
    rw [← HX.out]
    clear HX
    refine wp_region_lit ?_
    refine step_zeroE rfl rfl ?_
    try simp only [Act.put, List.setIfInBounds_toArray, List.set_cons_zero, List.set_cons_succ]
    refine step_storeE (c := arZ) rfl rfl rfl rfl h1 rfl rfl oneZ ?_
    try simp only [Act.put]
    obtain ⟨V, hV⟩ : ∃ V, V = X.setRow w.heap.size arZ := ⟨_, rfl⟩
    rw [← hV] at HB HV ⊢
    clear hV
    go_wp2
    refine bodyPost_ret (v := .tuple #[agX ⟨r0, none, 0, 0⟩, .bool false]) ((res_row (fn := Tryz.f30) (p := 2) (u := 3) rfl _ _ _ _ rfl HV.out rfl).trans rfl) rfl ?_
    exact ⟨HB.out, _, false, rfl, by simpa using HN.out, fun h => by cases h⟩
  have h60' : rs.length ≤ 60 := by omega
  have HT := hid (take_all 12 rs a c 0 1 w0 X (by omega) (by omega) (Nat.zero_le _) h60' hr hrs (hb0.trans (hbx.mono hw0)))
  have HX := hid hX
  have HX1 := hid h1
  have HBX := hid hbx
  clear hX h1 hbx hr hrs hb0
  go_enter Tryz.func30, Tryz.ntmps30
  go_upto_region 3 with fail
  rw [← HX.out]
  clear HX
  go_wp2_with fail
  refine HT.out.mono ?_
  rintro e w3 ⟨hb3, h3⟩
  clear HT
  have key : ∃ (z : E) (v : Int), e = .returned (.tuple #[agX z, .int .i64 v]) ∧ (v = (rs.length : Int) ↔ GoodQ (rs.map pl)) ∧ (v = (rs.length : Int) → ∃ t, rs.map pl = rows t ∧ Gt NM 1 t ∧ Ev w0 (fun y => X.heap.size ≤ y ∧ y < w3.heap.size) w3 t z) := by
    rcases h3 with ⟨z, rfl, hno⟩ | ⟨t, x, m, rfl, hm1, hm2, hps, hgt, hev⟩
    · refine ⟨z, -1, rfl, ⟨fun h => by omega, fun g => ?_⟩, fun h => by omega⟩
      obtain ⟨t, h, hg⟩ := g.2
      exact absurd hg (hno t [] (by simpa using h))
    · refine ⟨x, (m : Int), rfl, ?_, ?_⟩
      · constructor
        · intro h
          obtain rfl : m = rs.length := by omega
          rw [List.drop_zero, List.drop_length] at hps
          exact ⟨by simpa using h60', t, by simpa using hps, hgt⟩
        · intro g
          obtain ⟨t', h', hg'⟩ := g.2
          obtain ⟨_, h⟩ := rows_one NM NM t t' _ _ _ _ hgt hg' (show rows t ++ (rs.drop m).map pl = rows t' ++ [] by rw [← hps, List.append_nil, ← h', List.drop_zero])
          have := congrArg List.length h
          simp at this
          omega
      · intro h
        obtain rfl : m = rs.length := by omega
        rw [List.drop_zero, List.drop_length] at hps
        exact ⟨t, by simpa using hps, hgt, hev⟩
  obtain ⟨z, v, rfl, hv1, hv2⟩ := key
  clear h3
  have hal := (Below.refl w3.heap.size w3).alloc (Nat.le_refl _) (EO z.q z.a z.n z.c)
  obtain ⟨W4, hW4⟩ : ∃ W, W = w3.alloc (EO z.q z.a z.n z.c) := ⟨_, rfl⟩
  have h4 : W4.heap[w3.heap.size]? = some (EO z.q z.a z.n z.c) := by rw [hW4]; exact heap_alloc_new w3 _
  rw [← hW4] at hal
  have HR4 := kept (kept HX1.out hb3) hal
  have hb4 := (HBX.out.trans (hb3.mono HBX.out.size)).trans (hal.mono (HBX.out.trans (hb3.mono HBX.out.size)).size)
  have HV1 := hid hv1
  have HEV : Hid (v = (rs.length : Int) → ∃ t, rs.map pl = rows t ∧ Gt NM 1 t ∧ Ev w0 (fun y => X.heap.size ≤ y ∧ y < W4.heap.size) W4 t z) := by
    intro h
    obtain ⟨t, e1, e2, e3⟩ := hv2 h
    exact ⟨t, e1, e2, Ev.agr ⟨hal.size, fun y hy hlt => hal.block y hlt, fun y hy => ⟨hy.1, Nat.lt_of_lt_of_le hy.2 hal.size⟩⟩ t z e3⟩
  have hXs : w.heap.size < X.heap.size := (Array.getElem?_eq_some_iff.1 HX1.out).1
  have HW4 := hid hW4
  clear hv1 hv2 hW4 hal hb3 HX1 HBX
  go_upto_region 4 with fail
  rw [← HW4.out]
  clear HW4
  generalize w3.heap.size = B4 at *
  obtain ⟨z0, z1, z2, z3, z4, z5, z6, z7, z8, z9, z10, z11, z12, z13, z14, z15⟩ := sixteen HR4
  have f0 := fifteen_frz (o := 0) HR4
  have f1 := fifteen_frz (o := 1) HR4
  have f2 := fifteen_frz (o := 2) HR4
  have f3 := fifteen_frz (o := 3) HR4
  have f4 := fifteen_frz (o := 4) HR4
  have f5 := fifteen_frz (o := 5) HR4
  have f6 := fifteen_frz (o := 6) HR4
  have f7 := fifteen_frz (o := 7) HR4
  have f8 := fifteen_frz (o := 8) HR4
  have f9 := fifteen_frz (o := 9) HR4
  have f10 := fifteen_frz (o := 10) HR4
  have f11 := fifteen_frz (o := 11) HR4
  have f12 := fifteen_frz (o := 12) HR4
  have f13 := fifteen_frz (o := 13) HR4
  have f14 := fifteen_frz (o := 14) HR4
  have f15 := fifteen_frz (o := 15) HR4
  obtain ⟨y0, y1, y2, y3, y4, y5, y6, y7, y8, y9, y10, y11, y12, y13, y14, y15⟩ := sixteen (set16 HR4 (.int .i64 z.q.kd) (.int .i64 z.q.nu) (.int .i64 z.q.st) (.string z.q.tx) (.int .i64 z.q.op) (.slice z.q.ma z.q.ms.length z.q.mc) (.int .i64 z.q.off) (.bool z.q.fx) (.int .i64 z.q.att) (.bool z.q.bo) (.int .i64 z.q.byy) (.slice z.q.na z.q.ns.length z.q.nc) (.int .i64 z.q.sd) (.slice z.q.ea z.q.es.length z.q.ec) (.int .i64 z.q.kc) (.slice z.a z.n z.c))
  have HBP := hid (below16 hb4 (Nat.le_refl _) (.int .i64 z.q.kd) (.int .i64 z.q.nu) (.int .i64 z.q.st) (.string z.q.tx) (.int .i64 z.q.op) (.slice z.q.ma z.q.ms.length z.q.mc) (.int .i64 z.q.off) (.bool z.q.fx) (.int .i64 z.q.att) (.bool z.q.bo) (.int .i64 z.q.byy) (.slice z.q.na z.q.ns.length z.q.nc) (.int .i64 z.q.sd) (.slice z.q.ea z.q.es.length z.q.ec) (.int .i64 z.q.kc) (.slice z.a z.n z.c))
  have HA := agr16 (x := W4) (b := w.heap.size) (.int .i64 z.q.kd) (.int .i64 z.q.nu) (.int .i64 z.q.st) (.string z.q.tx) (.int .i64 z.q.op) (.slice z.q.ma z.q.ms.length z.q.mc) (.int .i64 z.q.off) (.bool z.q.fx) (.int .i64 z.q.att) (.bool z.q.bo) (.int .i64 z.q.byy) (.slice z.q.na z.q.ns.length z.q.nc) (.int .i64 z.q.sd) (.slice z.q.ea z.q.es.length z.q.ec) (.int .i64 z.q.kc) (.slice z.a z.n z.c)
  obtain ⟨z0, z1, z2, z3, z4, z5, z6, z7, z8, z9, z10, z11, z12, z13, z14, z15⟩ := sixteen h4
  obtain ⟨V, hV⟩ : ∃ V, V = sixw W4 w.heap.size (.int .i64 z.q.kd) (.int .i64 z.q.nu) (.int .i64 z.q.st) (.string z.q.tx) (.int .i64 z.q.op) (.slice z.q.ma z.q.ms.length z.q.mc) (.int .i64 z.q.off) (.bool z.q.fx) (.int .i64 z.q.att) (.bool z.q.bo) (.int .i64 z.q.byy) (.slice z.q.na z.q.ns.length z.q.nc) (.int .i64 z.q.sd) (.slice z.q.ea z.q.es.length z.q.ec) (.int .i64 z.q.kc) (.slice z.a z.n z.c) := ⟨_, rfl⟩
  rw [← hV] at HA
  have HAH := hid HA
  have HBP2 : Hid (Below w.heap.size w V) := by rw [hV]; exact HBP.out
  have hboxV : V.heap[w.heap.size]? = some (EO z.q z.a z.n z.c) := by rw [hV]; exact set16 HR4 (.int .i64 z.q.kd) (.int .i64 z.q.nu) (.int .i64 z.q.st) (.string z.q.tx) (.int .i64 z.q.op) (.slice z.q.ma z.q.ms.length z.q.mc) (.int .i64 z.q.off) (.bool z.q.fx) (.int .i64 z.q.att) (.bool z.q.bo) (.int .i64 z.q.byy) (.slice z.q.na z.q.ns.length z.q.nc) (.int .i64 z.q.sd) (.slice z.q.ea z.q.es.length z.q.ec) (.int .i64 z.q.kc) (.slice z.a z.n z.c)
  have HBV := hid hboxV
  have HE5 : Hid (v = (rs.length : Int) → ∃ t, rs.map pl = rows t ∧ Gt NM 1 t ∧ Ev w0 (fun y => w.heap.size ≤ y ∧ y < V.heap.size) V t z) := by
    intro h
    obtain ⟨t, e1, e2, e3⟩ := HEV.out h
    refine ⟨t, e1, e2, Ev.agr ⟨by rw [HAH.out.2]; exact Nat.le_refl _, fun y hy _ => HAH.out.1 y (by omega), fun y hy => ⟨by omega, by rw [HAH.out.2]; exact hy.2⟩⟩ t z e3⟩
  clear HA HBP hboxV HEV y0 y1 y2 y3 y4 y5 y6 y7 y8 y9 y10 y11 y12 y13 y14 y15 HR4 h4 hb4
  simp only [sixw] at hV
  have HV := hid hV
  clear hV
  have fin : ∀ b : Bool, (b = true ↔ v = (rs.length : Int)) → TreeR w0 rs w (.returned (.tuple #[agX z, .bool b])) V := fun b hb =>
    ⟨HBP2.out, z, b, rfl, hb.trans HV1.out, fun h => HE5.out (hb.1 h)⟩
  have FIN := hid fin
  clear fin HE5 HV1
  by_cases hv : v = (rs.length : Int)
  · have hq : (v == (rs.length : Int)) = true := by simp [hv]
    have HF := hid (FIN.out true ⟨fun _ => hv, fun _ => rfl⟩)
    clear hv FIN
    go_wp2
    rw [← HV.out]
    clear HV z0 z1 z2 z3 z4 z5 z6 z7 z8 z9 z10 z11 z12 z13 z14 z15 f0 f1 f2 f3 f4 f5 f6 f7 f8 f9 f10 f11 f12 f13 f14 f15
    refine bodyPost_ret (v := .tuple #[agX z, .bool true]) ((res_row (fn := Tryz.f30) (p := 2) (u := 3) rfl _ _ _ _ rfl HBV.out rfl).trans rfl) rfl HF.out
  · have hq : (v == (rs.length : Int)) = false := by simp [hv]
    have HF := hid (FIN.out false ⟨fun h => (by cases h), fun h => absurd h hv⟩)
    clear hv FIN
    go_wp2
    rw [← HV.out]
    clear HV z0 z1 z2 z3 z4 z5 z6 z7 z8 z9 z10 z11 z12 z13 z14 z15 f0 f1 f2 f3 f4 f5 f6 f7 f8 f9 f10 f11 f12 f13 f14 f15
    refine bodyPost_ret (v := .tuple #[agX z, .bool false]) ((res_row (fn := Tryz.f30) (p := 2) (u := 3) rfl _ _ _ _ rfl HBV.out rfl).trans rfl) rfl HF.out

end Go.Proofs.YtbdlahhejfamhaaGreatDoor.Qry
