/- Lists of needs marked: only their own memory is written. -/
import Derived.Test.YtaekngadfajcaaaGreatRND
import Derived.Test.YtaekngadfajcaaaGreatRMx
import Derived.Test.YtaekngadfajcaaaGreatRMK
namespace Go.Proofs.YtaekngadfajcaaaGreat.Ned
open Go.RowKit
open Go.Proofs.YtaekngadfajcaaaGreat.Pat (Mt HasM)
open Go.Proofs.YtaekngadfajcaaaGreat.Srs (Fr)

theorem set_same {xs : List Value} {i : Nat} {v : Value} (h : xs[i]? = some v) : xs.set i v = xs := by
  apply List.ext_getElem?
  intro j
  by_cases e : i = j
  · subst e
    rw [List.getElem?_set_self (List.getElem?_eq_some_iff.1 h).1, h]
  · rw [List.getElem?_set_ne e]
theorem flat_ft (L : List T) (i : Nat) (q : T) (f t : Int) (hi : i < L.length) (hq : L.getD i t0 = q) : ((flat L).set (i * 3 + 1) (.int .i64 f)).set (i * 3 + 2) (.int .i64 t) = flat (L.set i ⟨q.l, q.a, q.c, f, t⟩) := by
  rw [← flat_set L i ⟨q.l, q.a, q.c, f, t⟩ hi]
  have h := (flat_get L i hi).1
  rw [hq] at h
  rw [set_same h]
theorem get_set_ne (L : List T) (i j : Nat) (q : T) (h : i ≠ j) : (L.set i q).getD j t0 = L.getD j t0 := by
  rw [List.getD_eq_getElem?_getD, List.getD_eq_getElem?_getD, List.getElem?_set_ne h]
theorem Own1.grown {X ga r : Nat} {q : T} {w x : World} (h : Own1 X ga q w) (hg : w.grownBy x (some r)) (h1 : ga ≠ r) : Own1 X ga q x := ⟨h.ha, own_grown h.lab hg h1⟩
theorem fr_set {X Y g o : Nat} {w x : World} {v : Value} (h : Fr X Y w x) (h1 : X ≤ g) (h2 : g < Y) : Fr X Y w (x.setCell ⟨g, o, none⟩ v) :=
  ⟨h.os, h.tape, h.output, by simpa using h.size, fun k hk hne => (Below.heap_setCell x ⟨g, o, none⟩ v k (by intro e; simp only at e; omega)).trans (h.block k hk hne)⟩
/-- The needs from i on are as they were; what was written lies from g to Y. -/
structure Mn (X g Y n i : Nat) (ts us : List T) (w x : World) : Prop where
  len : us.length = n
  row : x.ownsRow X 48 3 (.slice (some ⟨g, 0, none⟩) n n) n (flat us)
  same : ∀ j, i ≤ j → us.getD j t0 = ts.getD j t0
  own : ∀ j, i ≤ j → j < n → Own1 X (blk (ts.getD j t0).a) (ts.getD j t0) x
  fr : Fr g Y w x
set_option maxHeartbeats 4000000 in
theorem f13 (X g Y n k : Nat) (ts : List T) (w : World) (hb : n ≤ 1048576) (hk : k + 3 * tot ts n + 2 * n ≤ 100000000) (ho : OwnT X g n ts w) (hc : ∀ i, i < n → (ts.getD i t0).c = (ts.getD i t0).l.length) (hs : SmlT ts) (hg : g < Y) (hY : ∀ i, i < n → blk (ts.getD i t0).a < Y) :
    Calls Tryz.prog 13 #[.slice (some ⟨g, 0, none⟩) n n, .int .i64 k] w fun e w' => (∃ m : Nat, e = .returned (.int .i64 (m : Int))) ∧ Fr g Y w w' := by
  have HN := hid ho.kin.len
  have HY := hid hY
  have HC := hid hc
  have HK := hid hk
  have HSm := hid hs
  have HD := hid ho.kin.dis
  have HF := hid ho.kin.off
  have HG := hid hg
  have H0 : Hid (Mn X g Y n 0 ts ts w w) := ⟨ho.kin.len, ho.row, fun _ _ => rfl, fun j _ hj => ho.kin.own j hj, Fr.refl _ _ _⟩
  clear hY hc hk ho hg hs
  go_enter Tryz.func13, Tryz.ntmps13
  go_wp2
  go_loopw [1, 5] (fun sk si wr => ∃ (i m : Nat) (us : List T), i ≤ n ∧ si = .int .i64 i ∧ sk = .int .i64 (m : Int) ∧ Hid (m = k + 3 * tot ts i + 2 * i) ∧ Hid (Mn X g Y n i ts us w wr)) (fun _ si _ => n - (intOf si).toNat)
  case atStart => exact ⟨0, k, ts, Nat.zero_le _, rfl, rfl, rfl, H0.out⟩
  case round =>
    clear H0
    obtain ⟨i, m, us, hi, rfl, rfl, hm, HM⟩ := hrel
    by_cases hlt : i < n
    rotate_left
    · obtain rfl : i = n := by omega
      have HX := hid HM.out.fr
      go_wp2
      go_ret
      exact ⟨⟨m, rfl⟩, HX.out⟩
    have HO := hid (HM.out.own i (Nat.le_refl _) hlt)
    have HUi := hid (HM.out.same i (Nat.le_refl _))
    have hul : i < us.length := by rw [HM.out.len]; exact hlt
    obtain ⟨y0, y1, y2⟩ := flat_get us i hul
    have c0 := (HM.out.row.cellAt (i * 3) (by omega)).trans y0
    have HT : Hid (tot ts (i + 1) = tot ts i + (ts.getD i t0).l.length) := rfl
    have HTn := hid (tot_mono ts n (i + 1) hlt)
    have HDi := hid (fun j (h1 : i < j) (h2 : j < n) => HD.out i j h1 h2)
    have HFi := hid (HF.out i hlt)
    have HYi := hid (HY.out i hlt)
    have HCi := hid (HC.out i hlt)
    have hsi : (ts.getD i t0).l.length ≤ 1048576 := HSm.out i (by rw [HN.out]; exact hlt)
    rw [HUi.out, HO.out.ha, HCi.out] at c0
    obtain ⟨q, hq⟩ : ∃ q, q = ts.getD i t0 := ⟨_, rfl⟩
    rw [← hq] at c0 HO HT HDi HFi HYi HCi HUi hsi
    clear hq y0 y1 y2
    generalize blk q.a = ga at *
    have HOl : Hid (wr.ownsRow X 75 3 (.slice (some ⟨ga, 0, none⟩) q.l.length q.l.length) q.l.length (Pat.flatM q.l)) := by
      have := HO.out.lab
      rw [HCi.out] at this
      exact this
    have N1 : Hid (m + 3 * q.l.length + 2 ≤ 100000000) := by unfold Hid; have := hm.out; have := HK.out; have := HTn.out; have := HT.out; omega
    go_wp2_with fail
    refine (Srs.f31 ga q.l.length X m _ _ hsi (by have := N1.out; omega) HOl.out).mono ?_
    rintro e w2 ⟨rfl, hg2⟩
    have HR2 := hid (own_grown HM.out.row hg2 (by have := HFi.out; omega))
    have HA2 : Hid (∀ j, i + 1 ≤ j → j < n → Own1 X (blk (ts.getD j t0).a) (ts.getD j t0) w2) := fun j h1 h2 =>
      (HM.out.own j (by omega) h2).grown hg2 (by have := HDi.out j (by omega) h2; omega)
    have HF2 := hid (HM.out.fr.grown hg2 (by have := HFi.out; omega) HYi.out)
    obtain ⟨z0, z1, z2⟩ := flat_get us i hul
    have d1 := (HR2.out.cellAt (i * 3 + 1) (by omega)).trans z1
    have d2 := (HR2.out.cellAt (i * 3 + 2) (by omega)).trans z2
    have f1 := HR2.out.frozenAt (i * 3 + 1)
    have f2 := HR2.out.frozenAt (i * 3 + 2)
    obtain ⟨M, hM⟩ : ∃ M, M = m + 3 * q.l.length := ⟨_, rfl⟩
    have HE : Hid (M + 2 = k + 3 * tot ts (i + 1) + 2 * (i + 1)) := by unfold Hid; have := hm.out; have := HT.out; omega
    have hM1 : M ≤ 99999998 := by have := N1.out; omega
    rw [← hM]
    have HM3 : Hid (∀ x, x = (w2.setCell ⟨g, i * 3 + 1, none⟩ (.int .i64 (M : Int))).setCell ⟨g, i * 3 + 2, none⟩ (.int .i64 ((M : Int) + 1)) → Mn X g Y n (i + 1) ts (us.set i ⟨q.l, q.a, q.c, (M : Int), (M : Int) + 1⟩) w x) := by
      rintro x rfl
      have s1 := HR2.out.stored (i * 3 + 1) (.int .i64 (M : Int))
      have s2 := s1.1.stored (i * 3 + 2) (.int .i64 ((M : Int) + 1))
      refine ⟨by rw [List.length_set]; exact HM.out.len, ?_, fun j hj => ?_, fun j h1 h2 => ?_, fr_set (fr_set HF2.out (Nat.le_refl _) HG.out) (Nat.le_refl _) HG.out⟩
      · rw [← flat_ft us i q _ _ hul HUi.out]
        exact s2.1
      · rw [get_set_ne _ _ _ _ (by omega)]; exact HM.out.same j (by omega)
      · have hn : blk (ts.getD j t0).a ≠ g := by have := HF.out j h2; omega
        exact ((HA2.out j h1 h2).set (p := ⟨g, i * 3 + 1, none⟩) hn _).set (p := ⟨g, i * 3 + 2, none⟩) hn _
    clear hg2 z0 z1 z2 c0 HR2 HA2 HF2 hM
    go_wp2
    go_roundw
    case rel => exact ⟨i + 1, M + 2, _, by omega, by go_num, by go_num, HE.out, HM3.out _ rfl⟩
    case measure => simp [intOf]; omega
end Go.Proofs.YtaekngadfajcaaaGreat.Ned
