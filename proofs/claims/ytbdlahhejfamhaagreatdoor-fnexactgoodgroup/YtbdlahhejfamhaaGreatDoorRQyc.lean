/- Questions: eqQuery, eqQueryS. -/
import Derived.Test.YtbdlahhejfamhaaGreatDoorRQyb
namespace Go.Proofs.YtbdlahhejfamhaaGreatDoor.Qry
open Go.RowKit
open Go.Proofs.YtbdlahhejfamhaaGreatDoor.Pat (Mt HasM)
open Go.Proofs.YtbdlahhejfamhaaGreatDoor.Fil (HasT)

set_option maxHeartbeats 4000000 in
set_option maxRecDepth 100000 in
theorem f35 (q q' : R) (w : World) (hp : pl q' = pl q) (n1 : wt q ≤ 1048576) (hl : Lst w q) (hl' : Lst w q') :
    Calls Tryz.prog 35 #[agR q, agR q'] w fun e w' => e = .returned (.bool true) ∧ Below w.heap.size w w' := by
  obtain ⟨kd, nu, st, tx, op, ms, ma, mc, off, fx, att, bo, byy, ns, na, nc, sd, es, ea, ec, kc⟩ := q
  obtain ⟨kd', nu', st', tx', op', ms', ma', mc', off', fx', att', bo', byy', ns', na', nc', sd', es', ea', ec', kc'⟩ := q'
  simp only [pl, Pl.mk.injEq] at hp
  obtain ⟨rfl, rfl, rfl, rfl, rfl, rfl, rfl, rfl, rfl, rfl, rfl, rfl, rfl, rfl, rfl⟩ := hp
  unfold wt at n1
  simp only at n1
  obtain ⟨m1, m2, m3⟩ := hl
  obtain ⟨k1, k2, k3⟩ := hl'
  simp only at m1 m2 m3 k1 k2 k3
  obtain ⟨W, hW⟩ : ∃ W, W = (w.alloc (.cells #[.int .i64 kd', .int .i64 nu', .int .i64 st', .string tx', .int .i64 op', .slice ma ms'.length mc, .int .i64 off', .bool fx', .int .i64 att', .bool bo', .int .i64 byy', .slice na ns'.length nc, .int .i64 sd', .slice ea es'.length ec, .int .i64 kc'] 55)).alloc (.cells #[.int .i64 kd', .int .i64 nu', .int .i64 st', .string tx', .int .i64 op', .slice ma' ms'.length mc', .int .i64 off', .bool fx', .int .i64 att', .bool bo', .int .i64 byy', .slice na' ns'.length nc', .int .i64 sd', .slice ea' es'.length ec', .int .i64 kc'] 55) := ⟨_, rfl⟩
  have HWb : Hid (Below w.heap.size w W ∧ W.heap[w.heap.size]? = some (.cells #[.int .i64 kd', .int .i64 nu', .int .i64 st', .string tx', .int .i64 op', .slice ma ms'.length mc, .int .i64 off', .bool fx', .int .i64 att', .bool bo', .int .i64 byy', .slice na ns'.length nc, .int .i64 sd', .slice ea es'.length ec, .int .i64 kc'] 55) ∧ W.heap[w.heap.size + 1]? = some (.cells #[.int .i64 kd', .int .i64 nu', .int .i64 st', .string tx', .int .i64 op', .slice ma' ms'.length mc', .int .i64 off', .bool fx', .int .i64 att', .bool bo', .int .i64 byy', .slice na' ns'.length nc', .int .i64 sd', .slice ea' es'.length ec', .int .i64 kc'] 55)) := by
    subst hW
    have h2 := heap_alloc_new (w.alloc (.cells #[.int .i64 kd', .int .i64 nu', .int .i64 st', .string tx', .int .i64 op', .slice ma ms'.length mc, .int .i64 off', .bool fx', .int .i64 att', .bool bo', .int .i64 byy', .slice na ns'.length nc, .int .i64 sd', .slice ea es'.length ec, .int .i64 kc'] 55)) (.cells #[.int .i64 kd', .int .i64 nu', .int .i64 st', .string tx', .int .i64 op', .slice ma' ms'.length mc', .int .i64 off', .bool fx', .int .i64 att', .bool bo', .int .i64 byy', .slice na' ns'.length nc', .int .i64 sd', .slice ea' es'.length ec', .int .i64 kc'] 55)
    simp only [World.size_alloc] at h2
    exact ⟨((Below.refl w.heap.size w).alloc (Nat.le_refl _) _).alloc (by simp) _, (Below.heap_alloc _ _ w.heap.size (by simp)).trans (heap_alloc_new w _), h2⟩
  have HM := hid (And.intro (m1.below HWb.out.1) (k1.below HWb.out.1))
  have HN := hid (And.intro (m2.below HWb.out.1) (k2.below HWb.out.1))
  have HE := hid (And.intro (m3.below HWb.out.1) (k3.below HWb.out.1))
  have q0 : (kd' != kd') = false := by simp
  have q1 : (nu' != nu') = false := by simp
  have q2 : (st' != st') = false := by simp
  have q3 : (tx'.toList == tx'.toList) = true := by simp
  have q4 : (op' != op') = false := by simp
  have q6 : (off' != off') = false := by simp
  have q7 : (fx' != fx') = false := by simp
  have q8 : (att' != att') = false := by simp
  have q9 : (bo' != bo') = false := by simp
  have q10 : (byy' != byy') = false := by simp
  have q12 : (sd' != sd') = false := by simp
  have q14 : (kc' != kc') = false := by simp
  clear m1 m2 m3 k1 k2 k3
  simp only [agR]
  go_enter Tryz.func35, Tryz.ntmps35
  go_wp2_with fail
  rw [← hW]
  refine (Pat.f72 ma ma' ms'.length mc mc' ms' _ rfl (by omega) HM.out.1 HM.out.2).mono ?_
  rintro e w1 ⟨rfl, hb1⟩
  have HB1 := hid (HWb.out.1.trans (hb1.mono HWb.out.1.size))
  have HX1 := hid (kept HWb.out.2.1 hb1)
  have HY1 := hid (kept HWb.out.2.2 hb1)
  have HN1 := hid (And.intro (HN.out.1.below hb1) (HN.out.2.below hb1))
  have HE1 := hid (And.intro (HE.out.1.below hb1) (HE.out.2.below hb1))
  clear hb1 HWb HM HN HE hW
  obtain ⟨b0, b1, b2, b3, b4, b5, b6, b7, b8, b9, b10, b11, b12, b13, b14⟩ := fifteen HX1.out
  obtain ⟨d0, d1, d2, d3, d4, d5, d6, d7, d8, d9, d10, d11, d12, d13, d14⟩ := fifteen HY1.out
  clear b0 b1 b2 b3 b4 b5 b12 b13 b14 d0 d1 d2 d3 d4 d5 d12 d13 d14
  go_wp2_with fail
  refine (Fil.f73 na na' ns'.length nc nc' ns' _ rfl (by omega) HN1.out.1 HN1.out.2).mono ?_
  rintro e w2 ⟨rfl, hb2⟩
  have HB2 := hid (HB1.out.trans (hb2.mono HB1.out.size))
  have HX2 := hid (kept HX1.out hb2)
  have HY2 := hid (kept HY1.out hb2)
  have HE2 := hid (And.intro (HE1.out.1.below hb2) (HE1.out.2.below hb2))
  clear hb2 HB1 HX1 HY1 HN1 HE1 b6 b7 b8 b9 b10 b11 d6 d7 d8 d9 d10 d11
  obtain ⟨b0, b1, b2, b3, b4, b5, b6, b7, b8, b9, b10, b11, b12, b13, b14⟩ := fifteen HX2.out
  obtain ⟨d0, d1, d2, d3, d4, d5, d6, d7, d8, d9, d10, d11, d12, d13, d14⟩ := fifteen HY2.out
  clear b0 b1 b2 b3 b4 b5 b6 b7 b8 b9 b10 b11 b14 d0 d1 d2 d3 d4 d5 d6 d7 d8 d9 d10 d11 d14
  go_wp2_with fail
  refine (Fil.f73 ea ea' es'.length ec ec' es' _ rfl (by omega) HE2.out.1 HE2.out.2).mono ?_
  rintro e w3 ⟨rfl, hb3⟩
  have HB3 := hid (HB2.out.trans (hb3.mono HB2.out.size))
  have HX3 := hid (kept HX2.out hb3)
  have HY3 := hid (kept HY2.out hb3)
  clear hb3 HB2 HX2 HY2 HE2 b12 b13 d12 d13
  obtain ⟨b0, b1, b2, b3, b4, b5, b6, b7, b8, b9, b10, b11, b12, b13, b14⟩ := fifteen HX3.out
  obtain ⟨d0, d1, d2, d3, d4, d5, d6, d7, d8, d9, d10, d11, d12, d13, d14⟩ := fifteen HY3.out
  clear b0 b1 b2 b3 b4 b5 b6 b7 b8 b9 b10 b11 b12 b13 d0 d1 d2 d3 d4 d5 d6 d7 d8 d9 d10 d11 d12 d13
  go_wp2
  go_ret
  exact ⟨rfl, HB3.out⟩
/-- Two rows' cells, and what they hold; all that was there is as it was. -/
abbrev EE (w : World) (q q' : R) (b o b' o' : Nat) (x : World) : Prop := Cells x b o q ∧ Cells x b' o' q' ∧ Lst x q ∧ Lst x q' ∧ b < x.heap.size ∧ b' < x.heap.size ∧ Below w.heap.size w x
theorem EE.below {w : World} {q q' : R} {b o b' o' : Nat} {x y : World} (h : EE w q q' b o b' o' x) (hb : Below x.heap.size x y) : EE w q q' b o b' o' y :=
  ⟨h.1.below hb h.2.2.2.2.1, h.2.1.below hb h.2.2.2.2.2.1, h.2.2.1.below hb, h.2.2.2.1.below hb, Nat.lt_of_lt_of_le h.2.2.2.2.1 hb.size, Nat.lt_of_lt_of_le h.2.2.2.2.2.1 hb.size, h.2.2.2.2.2.2.trans (hb.mono h.2.2.2.2.2.2.size)⟩
/-- The same, cell by cell. -/
abbrev Ec (w : World) (q q' : R) (b o b' o' : Nat) (x : World) : Prop := x.cell? ⟨b, o, none⟩ = some (.int .i64 q.kd) ∧ x.cell? ⟨b, o + 1, none⟩ = some (.int .i64 q.nu) ∧ x.cell? ⟨b, o + 2, none⟩ = some (.int .i64 q.st) ∧ x.cell? ⟨b, o + 3, none⟩ = some (.string q.tx) ∧ x.cell? ⟨b, o + 4, none⟩ = some (.int .i64 q.op) ∧ x.cell? ⟨b, o + 5, none⟩ = some (.slice q.ma q.ms.length q.mc) ∧ x.cell? ⟨b, o + 6, none⟩ = some (.int .i64 q.off) ∧ x.cell? ⟨b, o + 7, none⟩ = some (.bool q.fx) ∧ x.cell? ⟨b, o + 8, none⟩ = some (.int .i64 q.att) ∧ x.cell? ⟨b, o + 9, none⟩ = some (.bool q.bo) ∧ x.cell? ⟨b, o + 10, none⟩ = some (.int .i64 q.byy) ∧ x.cell? ⟨b, o + 11, none⟩ = some (.slice q.na q.ns.length q.nc) ∧ x.cell? ⟨b, o + 12, none⟩ = some (.int .i64 q.sd) ∧ x.cell? ⟨b, o + 13, none⟩ = some (.slice q.ea q.es.length q.ec) ∧ x.cell? ⟨b, o + 14, none⟩ = some (.int .i64 q.kc) ∧ x.cell? ⟨b', o', none⟩ = some (.int .i64 q'.kd) ∧ x.cell? ⟨b', o' + 1, none⟩ = some (.int .i64 q'.nu) ∧ x.cell? ⟨b', o' + 2, none⟩ = some (.int .i64 q'.st) ∧ x.cell? ⟨b', o' + 3, none⟩ = some (.string q'.tx) ∧ x.cell? ⟨b', o' + 4, none⟩ = some (.int .i64 q'.op) ∧ x.cell? ⟨b', o' + 5, none⟩ = some (.slice q'.ma q'.ms.length q'.mc) ∧ x.cell? ⟨b', o' + 6, none⟩ = some (.int .i64 q'.off) ∧ x.cell? ⟨b', o' + 7, none⟩ = some (.bool q'.fx) ∧ x.cell? ⟨b', o' + 8, none⟩ = some (.int .i64 q'.att) ∧ x.cell? ⟨b', o' + 9, none⟩ = some (.bool q'.bo) ∧ x.cell? ⟨b', o' + 10, none⟩ = some (.int .i64 q'.byy) ∧ x.cell? ⟨b', o' + 11, none⟩ = some (.slice q'.na q'.ns.length q'.nc) ∧ x.cell? ⟨b', o' + 12, none⟩ = some (.int .i64 q'.sd) ∧ x.cell? ⟨b', o' + 13, none⟩ = some (.slice q'.ea q'.es.length q'.ec) ∧ x.cell? ⟨b', o' + 14, none⟩ = some (.int .i64 q'.kc) ∧ EE w q q' b o b' o' x
theorem Ec.of {w : World} {q q' : R} {b o b' o' : Nat} {x : World} (h : EE w q q' b o b' o' x) : Ec w q q' b o b' o' x := by
  obtain ⟨c0, c1, c2, c3, c4, c5, c6, c7, c8, c9, c10, c11, c12, c13, c14⟩ := h.1.all
  obtain ⟨d0, d1, d2, d3, d4, d5, d6, d7, d8, d9, d10, d11, d12, d13, d14⟩ := h.2.1.all
  exact ⟨c0, c1, c2, c3, c4, c5, c6, c7, c8, c9, c10, c11, c12, c13, c14, d0, d1, d2, d3, d4, d5, d6, d7, d8, d9, d10, d11, d12, d13, d14, h⟩
theorem Ec.ee {w : World} {q q' : R} {b o b' o' : Nat} {x : World} (h : Ec w q q' b o b' o' x) : EE w q q' b o b' o' x := h.2.2.2.2.2.2.2.2.2.2.2.2.2.2.2.2.2.2.2.2.2.2.2.2.2.2.2.2.2.2
theorem Ec.below {w : World} {q q' : R} {b o b' o' : Nat} {x y : World} (h : Ec w q q' b o b' o' x) (hb : Below x.heap.size x y) : Ec w q q' b o b' o' y := Ec.of (EE.below h.ee hb)
theorem Ec.drew {w : World} {q q' : R} {b o b' o' : Nat} {x : World} (h : Ec w q q' b o b' o' x) : Ec w q q' b o b' o' x.drew := h.below (Below.refl _ x).drew
theorem Ec.t1 {w : World} {q q' : R} {b o b' o' : Nat} {x : World} (h : Ec w q q' b o b' o' x) : Lst x q := h.ee.2.2.1
theorem Ec.t3 {w : World} {q q' : R} {b o b' o' : Nat} {x : World} (h : Ec w q q' b o b' o' x) : Lst x q' := h.ee.2.2.2.1
theorem Ec.bel {w : World} {q q' : R} {b o b' o' : Nat} {x : World} (h : Ec w q q' b o b' o' x) : Below w.heap.size w x := h.ee.2.2.2.2.2.2
set_option maxHeartbeats 4000000 in
set_option maxRecDepth 100000 in
theorem f12 (a a' : Option Addr) (n c c' : Nat) (rs rs' : List R) (w : World) (hn : rs.length = n) (hn' : rs'.length = n) (hb : n ≤ 1048576) (hr : HasR w a rs) (hr' : HasR w a' rs') (hs : Same n rs rs') (hz : SmlR rs) :
    Calls Tryz.prog 12 #[.slice a n c, .slice a' n c'] w fun e w' => e = .returned (.bool true) ∧ Below w.heap.size w w' := by
  have HN := hid hn
  have HN' := hid hn'
  have HR := hid hr
  have HR' := hid hr'
  have HS := hid hs
  have HZ := hid hz
  clear hn hn' hr hr' hs hz
  go_enter Tryz.func12, Tryz.ntmps12
  go_wp2
  go_loopw [5] (fun i wr => ∃ k : Nat, k ≤ n ∧ i = .int .i64 k ∧ Hid (Below w.heap.size w wr)) (fun i _ => n - (intOf i).toNat)
  case atStart => exact ⟨0, Nat.zero_le _, rfl, Below.refl _ _⟩
  case round =>
    obtain ⟨k, hk, rfl, HX⟩ := hrel
    by_cases hlt : k < n
    · obtain ⟨b, off, rfl, hbl, hc, t1⟩ := (HR.out.below HX.out).at2 k (by rw [HN.out]; exact hlt)
      obtain ⟨b', off', rfl, hbl', hc', t1'⟩ := (HR'.out.below HX.out).at2 k (by rw [HN'.out]; exact hlt)
      have HP := hid (HS.out k hlt)
      have HL := hid (HZ.out k (by rw [HN.out]; exact hlt))
      generalize rs.getD k r0 = q at *
      generalize rs'.getD k r0 = q' at *
      have HE : Hid (Ec w q q' b (off + k * 15) b' (off' + k * 15) wr) := Ec.of ⟨hc, hc', t1, t1', hbl, hbl', HX.out⟩
      clear hc hc' t1 t1' hbl hbl'
      have i1 : (k : Int) < (n : Int) := by omega
      go_wp2_with fail
      go_region_held3 (fun x => Ec w q q' b (off + k * 15) b' (off' + k * 15) x) (first | exact HE.out.drew | assumption) (first | (go_at_call 35; refine (f35 q q' _ HP.out HL.out (Ec.t1 (by assumption)) (Ec.t3 (by assumption))).mono ?_; rintro e w2 ⟨rfl, hb2⟩; have hs2 := Ec.below (by assumption) hb2; clear hb2))
      have HX2 := hid hs2.bel
      clear hs2
      go_wp2
      go_roundw
      case rel => exact ⟨k + 1, by omega, by go_num, HX2.out⟩
      case measure => simp [intOf]; omega
    · go_wp2
      go_ret
      exact ⟨rfl, HX.out⟩
end Go.Proofs.YtbdlahhejfamhaaGreatDoor.Qry
