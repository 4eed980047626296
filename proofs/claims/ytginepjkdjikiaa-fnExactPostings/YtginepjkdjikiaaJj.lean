/- Stones and blocks marked: only their own memory is written. -/
import Derived.Test.YtginepjkdjikiaaJc
import Derived.Test.YtginepjkdjikiaaYe
namespace Go.Proofs.Ytginepjkdjikiaa.Stn
open Go.RowKit
open Go.Proofs.Ytginepjkdjikiaa.Lab (Lb HasL)
open Go.Proofs.Ytginepjkdjikiaa.Srs (hid blk Fr own_fr own_grown)

theorem set_same {xs : List Value} {i : Nat} {v : Value} (h : xs[i]? = some v) : xs.set i v = xs := by
  apply List.ext_getElem?
  intro j
  by_cases e : i = j
  · subst e
    rw [List.getElem?_set_self (List.getElem?_eq_some_iff.1 h).1, h]
  · rw [List.getElem?_set_ne e]
theorem flat_set2 (L : List T) (i : Nat) (f t : Int) (hi : i < L.length) : ((flat L).set (i * 3 + 1) (.int .i64 f)).set (i * 3 + 2) (.int .i64 t) = flat (L.set i ⟨(L.getD i t0).l, (L.getD i t0).a, (L.getD i t0).c, f, t⟩) := by
  rw [← flat_set L i ⟨(L.getD i t0).l, (L.getD i t0).a, (L.getD i t0).c, f, t⟩ hi, set_same (flat_get L i hi).1]
theorem getD_set (L : List T) (i j : Nat) (q : T) : (L.set i q).getD j t0 = if i = j ∧ i < L.length then q else L.getD j t0 := by
  rw [List.getD_eq_getElem?_getD, List.getD_eq_getElem?_getD]
  by_cases e : i = j
  · subst e
    by_cases h : i < L.length
    · rw [List.getElem?_set_self h, if_pos ⟨rfl, h⟩]; rfl
    · rw [if_neg (fun h' => h h'.2), List.getElem?_eq_none (by simp; omega), List.getElem?_eq_none (by omega)]
  · rw [List.getElem?_set_ne e, if_neg (fun h => e h.1)]
/-- The stones have the labels that they had. -/
def Kin (ts ts' : List T) : Prop := ts'.length = ts.length ∧ ∀ j, (ts'.getD j t0).l = (ts.getD j t0).l ∧ (ts'.getD j t0).a = (ts.getD j t0).a ∧ (ts'.getD j t0).c = (ts.getD j t0).c
theorem Kin.refl (ts : List T) : Kin ts ts := ⟨rfl, fun _ => ⟨rfl, rfl, rfl⟩⟩
theorem Kin.set {ts ts' : List T} (h : Kin ts ts') (i : Nat) (f t : Int) : Kin ts (ts'.set i ⟨(ts'.getD i t0).l, (ts'.getD i t0).a, (ts'.getD i t0).c, f, t⟩) := by
  refine ⟨by simpa using h.1, fun j => ?_⟩
  rw [getD_set]
  split
  · rename_i e; obtain ⟨rfl, -⟩ := e; exact h.2 i
  · exact h.2 j
theorem Own1.grown {X ga r : Nat} {q : T} {w x : World} (h : Own1 X ga q w) (hg : w.grownBy x (some r)) (h1 : ga ≠ r) : Own1 X ga q x := ⟨h.ha, own_grown h.lab hg h1⟩
/-- The stones from i on are as they were; what was written lies from g to Y. -/
structure Mk (X g Y n i : Nat) (ts : List T) (w x : World) : Prop where
  row : ∃ ts', Kin ts ts' ∧ x.ownsRow X 52 3 (.slice (some ⟨g, 0, none⟩) n n) n (flat ts')
  own : ∀ j, i ≤ j → j < n → Own1 X (blk (ts.getD j t0).a) (ts.getD j t0) x
  fr : Fr g Y w x
set_option maxHeartbeats 4000000 in
theorem f34 (X g Y n k : Nat) (ts : List T) (w : World) (hn : ts.length = n) (hb : n ≤ 1048576) (hk : k + 2 * tot ts n + 2 * n ≤ 100000000) (ho : OwnT X g n ts w) (hg : g < Y) (hY : ∀ i, i < n → blk (ts.getD i t0).a < Y) :
    Calls Try.prog 34 #[.slice (some ⟨g, 0, none⟩) n n, .int .i64 k] w fun e w' => e = .returned (.int .i64 ((k + 2 * tot ts n + 2 * n : Nat) : Int)) ∧ Fr g Y w w' := by
  have HN := hid hn
  have HY := hid hY
  have HK := hid hk
  have HD := hid ho.kin.dis
  have HF := hid ho.kin.off
  have H0 : Hid (Mk X g Y n 0 ts w w) := ⟨⟨ts, Kin.refl _, ho.row⟩, fun j _ hj => ho.kin.own j hj, Fr.refl _ _ _⟩
  clear hn hY hk ho
  go_enter Try.func34, Try.ntmps34
  go_wp2
  go_loopw [1, 5] (fun sk si wr => ∃ (i m : Nat), i ≤ n ∧ si = .int .i64 i ∧ sk = .int .i64 (m : Int) ∧ Hid (m = k + 2 * tot ts i + 2 * i) ∧ Hid (Mk X g Y n i ts w wr)) (fun _ si _ => n - (intOf si).toNat)
  case atStart => exact ⟨0, k, Nat.zero_le _, rfl, rfl, rfl, H0.out⟩
  case round =>
    obtain ⟨i, m, hi, rfl, rfl, hm, HM⟩ := hrel
    by_cases hlt : i < n
    rotate_left
    · obtain rfl : i = n := by omega
      have HX := hid HM.out.fr
      go_wp2
      go_ret
      exact ⟨by rw [← hm.out]; rfl, HX.out⟩
    have HO := hid (HM.out.own i (Nat.le_refl _) hlt)
    obtain ⟨ts', kin, row⟩ := HM.out.row
    have HL' : Hid (ts'.length = n) := by unfold Hid; rw [kin.1, HN.out]
    obtain ⟨y0, y1, y2⟩ := flat_get ts' i (by rw [HL'.out]; exact hlt)
    have c0 := (row.cellAt (i * 3) (by omega)).trans y0
    rw [(kin.2 i).1, (kin.2 i).2.1, (kin.2 i).2.2] at c0
    have HT : Hid (tot ts (i + 1) = tot ts i + (ts.getD i t0).l.length) := rfl
    have HTn := hid (tot_mono ts n (i + 1) hlt)
    have HDi := hid (fun j (h1 : i < j) (h2 : j < n) => HD.out i j h1 h2)
    have HFi := hid (HF.out i hlt)
    have HYi := hid (HY.out i hlt)
    rw [HO.out.ha] at c0
    obtain ⟨q, hq⟩ : ∃ q, q = ts.getD i t0 := ⟨_, rfl⟩
    rw [← hq] at c0 HO HT HDi HFi HYi
    have HKin := hid kin
    have HRow := hid row
    clear hq y0 y1 y2 kin row
    generalize blk q.a = ga at *
    have N1 : Hid (m + 2 * q.l.length + 2 ≤ 100000000) := by unfold Hid; have := hm.out; have := HK.out; have := HTn.out; have := HT.out; omega
    go_wp2_with fail
    refine (Lab.f56 ga q.l.length q.c X m q.l _ rfl (by have := N1.out; omega) HO.out.lab).mono ?_
    rintro e w2 ⟨rfl, _, hg2⟩
    have HR2 := hid (own_grown HRow.out hg2 (by have := HFi.out; omega))
    have HA2 : Hid (∀ j, i + 1 ≤ j → j < n → Own1 X (blk (ts.getD j t0).a) (ts.getD j t0) w2) := fun j h1 h2 =>
      (HM.out.own j (by omega) h2).grown hg2 (by have := HDi.out j (by omega) h2; omega)
    have HF2 := hid (HM.out.fr.grown hg2 (by have := HFi.out; omega) HYi.out)
    obtain ⟨z0, z1, z2⟩ := flat_get ts' i (by rw [HL'.out]; exact hlt)
    have d1 := (HR2.out.cellAt (i * 3 + 1) (by omega)).trans z1
    have d2 := (HR2.out.cellAt (i * 3 + 2) (by omega)).trans z2
    have f1 := HR2.out.frozenAt (i * 3 + 1)
    have f2 := HR2.out.frozenAt (i * 3 + 2)
    obtain ⟨M, hM⟩ : ∃ M, M = m + 2 * q.l.length := ⟨_, rfl⟩
    rw [← hM]
    have HE : Hid (M + 2 = k + 2 * tot ts (i + 1) + 2 * (i + 1)) := by unfold Hid; have := hm.out; have := HT.out; omega
    have hM1 : M ≤ 99999999 := by have := N1.out; omega
    have HM3 : Hid (∀ x, x = (w2.setCell ⟨g, i * 3 + 1, none⟩ (.int .i64 (M : Int))).setCell ⟨g, i * 3 + 2, none⟩ (.int .i64 ((M : Int) + 1)) → Mk X g Y n (i + 1) ts w x) := by
      rintro x rfl
      have s1 := HR2.out.stored (i * 3 + 1) (.int .i64 (M : Int))
      have s2 := s1.1.stored (i * 3 + 2) (.int .i64 ((M : Int) + 1))
      refine ⟨⟨_, HKin.out.set i (M : Int) ((M : Int) + 1), ?_⟩, fun j h1 h2 => ?_, ?_⟩
      · rw [← flat_set2 ts' i _ _ (by rw [HL'.out]; exact hlt)]; exact s2.1
      · have hj := HF.out j h2
        exact ((HA2.out j h1 h2).grown s1.2 (by omega)).grown s2.2 (by omega)
      · exact (HF2.out.grown s1.2 (Nat.le_refl _) hg).grown s2.2 (Nat.le_refl _) hg
    clear hg2 z0 z1 z2 c0 HM HR2 HA2 HF2 HRow hM N1
    go_wp2
    go_roundw
    case rel => exact ⟨i + 1, M + 2, by omega, by go_num, by go_num, HE.out, HM3.out _ rfl⟩
    case measure => simp [intOf]; omega
end Go.Proofs.Ytginepjkdjikiaa.Stn
