/- What the model's l2Rest comes to: the walk. -/
import Derived.Test.YtpobpanmkdjkjaaPi
namespace Go.Proofs.Ytpobpanmkdjkjaa.Pat
open Go.RowKit

theorem byte64 (c : UInt8) : wrap64 (c.toNat : Int) = (c.toNat : Int) := by
  have := c.toNat_lt
  unfold wrap64
  omega

set_option maxRecDepth 100000 in
set_option maxHeartbeats 8000000 in
theorem f56 (a : Option Addr) (n c : Nat) (zs : List Int) (s : ByteArray) (w : World) (hn : zs.length = n) (hn1 : n ≤ 1000) (hr : HasI w a zs) (hs : s.size ≤ 1000) :
    Calls Try.prog 56 #[.slice a n c, .string s] w fun e w' => (∃ g, e = .returned (.slice (some ⟨g, 0, none⟩) (s.size + 1) (s.size + 1)) ∧ w'.ownsRow w.heap.size 4 1 (.slice (some ⟨g, 0, none⟩) (s.size + 1) (s.size + 1)) (s.size + 1) (bRow (rst zs s.data.toList) (s.size + 1))) ∧ Below w.heap.size w w' := by
  obtain ⟨i0, hi, hz0, hz1, hz2⟩ := info_parts info4
  have HL : Hid (s.data.toList.length = s.size) := by unfold Hid; simp
  have HN := hid hn
  have HR := hid hr
  clear hn hr
  go_enter Try.func56, Try.ntmps56
  go_wp2_with (at_make; refine wpList_make_full _ rfl _ _ 86 rfl w.heap.size 4 i0 (.bool false) 1 Try.underlying86 hi hz0 hz1 _ _ _ _ (s.size + 1) rfl rfl (by omega) (by omega) ?b2 ?b3 (Nat.le_refl _) ?_)
  case b2 => rw [hz2]; omega
  case b3 => unfold maxLen; omega
  intro w1 hown1 hgr1
  have hown : w1.ownsRow w.heap.size 4 1 (.slice (some ⟨w.heap.size, 0, none⟩) (s.size + 1) (s.size + 1)) (s.size + 1) (bRow (fun _ => false) (s.size + 1)) := by
    rw [← bRow_made]; simpa [toList_madeCells_one, Value.cells] using hown1
  have HB1 := hid ((Below.refl w.heap.size w).grown hgr1 (Nat.le_refl _) (fun k h => by cases h))
  have hst := hown.stored s.size (.bool true)
  have fz := hown.frozenAt s.size
  have cz := (hown.cellAt s.size (by omega)).trans (bRow_get (f := fun _ => false) (n := s.size + 1) (i := s.size) (by omega))
  have HO2 : Hid ((w1.setCell ⟨w.heap.size, s.size, none⟩ (.bool true)).ownsRow w.heap.size 4 1 (.slice (some ⟨w.heap.size, 0, none⟩) (s.size + 1) (s.size + 1)) (s.size + 1) (bRow (rst (zs.drop n) s.data.toList) (s.size + 1))) := by
    unfold Hid
    have := hst.1
    rw [bRow_set] at this
    rw [List.drop_eq_nil_of_le (by rw [HN.out]; exact Nat.le_refl _)]
    rw [bRow_congr (g := fun j => if j = s.size then true else false)]
    · exact this
    · intro i hi; rw [rst_nil _ _ (by rw [HL.out]; exact hi), HL.out]
  have HB2 := hid (HB1.out.setCell (p := ⟨w.heap.size, s.size, none⟩) (Nat.le_refl _) (.bool true))
  clear hown1 hgr1 hown hst
  go_wp2
  go_loopw [5, 6] (fun so sk wr => ∃ (K g : Nat) (z : Int), so = .slice (some ⟨g, 0, none⟩) (s.size + 1) (s.size + 1) ∧ sk = .int .i64 z ∧ Hid (z = (K : Int) - 1) ∧ K ≤ n ∧ Hid (wr.ownsRow w.heap.size 4 1 (.slice (some ⟨g, 0, none⟩) (s.size + 1) (s.size + 1)) (s.size + 1) (bRow (rst (zs.drop K) s.data.toList) (s.size + 1))) ∧ Hid (Below w.heap.size w wr)) (fun _ sk _ => (intOf sk + 1).toNat)
  case atStart => exact ⟨n, w.heap.size, _, rfl, rfl, rfl, Nat.le_refl _, HO2, HB2⟩
  case round =>
    obtain ⟨K, g, z, rfl, rfl, HZ, hK, HO, HB⟩ := hrel
    cases K with
    | zero =>
      obtain rfl : z = -1 := by have := HZ.out; omega
      go_wp2
      go_ret
      exact ⟨⟨g, rfl, HO.out⟩, HB.out⟩
    | succ K =>
      obtain rfl : z = (K : Int) := by have := HZ.out; omega
      have HX : Hid (∃ x, x = zs.getD K 0) := ⟨_, rfl⟩
      obtain ⟨x, hx⟩ := HX.out
      have HD : Hid (zs.drop K = x :: zs.drop (K + 1)) := by
        unfold Hid
        rw [List.drop_eq_getElem_cons (by rw [HN.out]; omega), hx]
        simp [show K < zs.length from by rw [HN.out]; omega]
      have HXE := hid hx
      clear hx
      go_wp2_with (at_make; refine wpList_make_full _ rfl _ _ 86 rfl w.heap.size 4 i0 (.bool false) 1 Try.underlying86 hi hz0 hz1 _ _ _ _ (s.size + 1) rfl rfl (by omega) (by omega) ?b2 ?b3 ?b4 ?_)
      case b2 => rw [hz2]; omega
      case b3 => unfold maxLen; omega
      case b4 => exact HB.out.size
      intro w2 hown2 hgr2
      have HT2 : Hid (Two w.heap.size w w2 g wr.heap.size (s.size + 1) (rst (zs.drop (K + 1)) s.data.toList) (half (rst (zs.drop K) s.data.toList) (s.size + 1))) := by
        refine ⟨HO.out.kept hgr2 (.inr (by simp [Value.ownBlock])), ?_, ?_, HB.out.grown hgr2 HB.out.size (fun k h => by cases h)⟩
        · rw [half_top, ← bRow_made]; simpa [toList_madeCells_one, Value.cells] using hown2
        · have := (HO.out.lt g rfl).2; omega
      clear hown2 hgr2
      obtain ⟨h, hh⟩ : ∃ h, h = wr.heap.size := ⟨_, rfl⟩
      rw [← hh] at HT2 ⊢
      clear hh HO HB
      go_wp2
      go_loopw [8] (fun si wq => ∃ (I : Nat) (y : Int), si = .int .i64 y ∧ Hid (y = (I : Int) - 1) ∧ I ≤ s.size + 1 ∧ Hid (Two w.heap.size w wq g h (s.size + 1) (rst (zs.drop (K + 1)) s.data.toList) (half (rst (zs.drop K) s.data.toList) I))) (fun si _ => (intOf si + 1).toNat)
      case atStart => exact ⟨s.size + 1, _, rfl, by unfold Hid; omega, Nat.le_refl _, HT2⟩
      case round =>
        obtain ⟨I, y, rfl, HY, hI, HT⟩ := hrel
        cases I with
        | zero =>
          obtain rfl : y = -1 := by have := HY.out; omega
          have HO3 : Hid (wr.ownsRow w.heap.size 4 1 (.slice (some ⟨h, 0, none⟩) (s.size + 1) (s.size + 1)) (s.size + 1) (bRow (rst (zs.drop K) s.data.toList) (s.size + 1))) := by
            unfold Hid; rw [← half_zero]; exact HT.out.nxt
          have HB3 := hid HT.out.bel
          go_wp2
          go_roundw
          case rel => exact ⟨K, h, _, rfl, rfl, rfl, by omega, HO3, HB3⟩
          case measure => simp [intOf]
        | succ I =>
          obtain rfl : y = (I : Int) := by have := HY.out; omega
          rcases HR.out with hr | ⟨b, off, rfl, hbl, hc⟩
          · exact absurd HN.out (by rw [hr]; simp; omega)
          have ca := (HT.out.bel.cell (p := ⟨b, off + K, none⟩) hbl).trans (hc K (by rw [HN.out]; omega))
          rw [← HXE.out] at ca
          have cad : wr.drew.cell? ⟨b, off + K, none⟩ = some (.int .i64 x) := ca
          have fz := HT.out.nxt.frozenAt I
          have fzd : wr.drew.frozen? ⟨h, I, none⟩ = false := fz
          have cz := (HT.out.nxt.cellAt I (by omega)).trans (bRow_get (show I < s.size + 1 by omega))
          have czd : wr.drew.cell? ⟨h, I, none⟩ = _ := cz
          have iK : (K : Int) < (n : Int) := by omega
          have iI : (I : Int) < (s.size : Int) + 1 := by omega
          clear hc
          by_cases hend : I = s.size
          · have hlt : ¬ (I : Int) < (s.size : Int) := by omega
            have hnl : ¬ I < s.size := by omega
            have HE : Hid (I = s.data.toList.length) := by unfold Hid; rw [HL.out]; exact hend
            clear hend
            by_cases hx1 : x = -1
            · have e1 : (x == -1) = true := by simp [hx1]
              have HF : Hid (rst (zs.drop K) s.data.toList I = rst (zs.drop (K + 1)) s.data.toList I) := by unfold Hid; rw [HD.out, hx1, HE.out]; exact rst_star_end _ _
              have c0 := (HT.out.now.cellAt I (by omega)).trans (bRow_get (show I < s.size + 1 by omega))
              clear hx1
              cases h0 : rst (zs.drop (K + 1)) s.data.toList I with
              | true =>
                rw [h0] at c0
                have HS := hid (HT.out.set true (HF.out.trans h0))
                clear h0
                go_wp2
                go_roundw
                case rel => exact ⟨I, _, rfl, rfl, by omega, HS⟩
                case measure => simp [intOf]
              | false =>
                rw [h0] at c0
                have HS := hid (HT.out.set false (HF.out.trans h0))
                clear h0
                go_wp2
                go_roundw
                case rel => exact ⟨I, _, rfl, rfl, by omega, HS⟩
                case measure => simp [intOf]
            · have e1 : (x == -1) = false := by simp [hx1]
              have HS := hid (HT.out.drew.set false (by rw [HD.out, HE.out]; exact rst_item_end hx1 _ _))
              clear hx1
              go_wp2_with fail
              go_region
              all_goals
                go_wp2
                go_roundw
                case rel => exact ⟨I, _, rfl, rfl, by omega, HS⟩
                case measure => simp [intOf]
          · have hlt0 : I < s.size := by omega
            have hlt : (I : Int) < (s.size : Int) := by omega
            clear hend
            by_cases hx1 : x = -1
            · have e1 : (x == -1) = true := by simp [hx1]
              have HF : Hid (rst (zs.drop K) s.data.toList I = (rst (zs.drop (K + 1)) s.data.toList I || rst (zs.drop K) s.data.toList (I + 1))) := by unfold Hid; rw [HD.out, hx1]; exact rst_star _ _ _ (by rw [HL.out]; exact hlt0)
              have c0 := (HT.out.now.cellAt I (by omega)).trans (bRow_get (show I < s.size + 1 by omega))
              have c1 := (HT.out.nxt.cellAt (I + 1) (by omega)).trans (bRow_get (show I + 1 < s.size + 1 by omega))
              have eh : half (rst (zs.drop K) s.data.toList) (I + 1) (I + 1) = rst (zs.drop K) s.data.toList (I + 1) := by unfold half; rw [if_pos (Nat.le_refl _)]
              rw [eh] at c1
              clear hx1 eh
              cases h0 : rst (zs.drop (K + 1)) s.data.toList I with
              | true =>
                rw [h0] at c0
                have HS := hid (HT.out.set true (by rw [HF.out, h0]; rfl))
                clear h0
                go_wp2
                go_roundw
                case rel => exact ⟨I, _, rfl, rfl, by omega, HS⟩
                case measure => simp [intOf]
              | false =>
                rw [h0] at c0
                have HS := hid (HT.out.set (rst (zs.drop K) s.data.toList (I + 1)) (by rw [HF.out, h0]; rfl))
                clear h0
                go_wp2
                go_roundw
                case rel => exact ⟨I, _, rfl, rfl, by omega, HS⟩
                case measure => simp [intOf]
            · have e1 : (x == -1) = false := by simp [hx1]
              have HF : Hid (rst (zs.drop K) s.data.toList I = (rst (zs.drop (K + 1)) s.data.toList (I + 1) && fitI x s[I])) := by unfold Hid; rw [HD.out]; exact rst_item hx1 _ _ _ (by rw [HL.out]; exact hlt0)
              have c1 := (HT.out.now.cellAt (I + 1) (by omega)).trans (bRow_get (show I + 1 < s.size + 1 by omega))
              have c1d : wr.drew.cell? ⟨g, I + 1, none⟩ = _ := c1
              clear hx1
              cases h0 : rst (zs.drop (K + 1)) s.data.toList (I + 1) with
              | false =>
                rw [h0] at c1 c1d
                have HS := hid (HT.out.drew.set false (by rw [HF.out, h0]; rfl))
                clear h0
                go_wp2_with fail
                go_region
                all_goals
                  go_wp2
                  go_roundw
                  case rel => exact ⟨I, _, rfl, rfl, by omega, HS⟩
                  case measure => simp [intOf]
              | true =>
                rw [h0] at c1 c1d
                by_cases hx2 : x = -2
                · have e2 : (x == -2) = true := by simp [hx2]
                  have HS := hid (HT.out.drew.set true (by rw [HF.out, h0]; simp [fitI, hx2]))
                  clear h0 hx2
                  go_wp2_with fail
                  go_region
                  all_goals
                    go_wp2
                    go_roundw
                    case rel => exact ⟨I, _, rfl, rfl, by omega, HS⟩
                    case measure => simp [intOf]
                · have e2 : (x == -2) = false := by simp [hx2]
                  have HS := hid (HT.out.drew.set (x == wrap64 (s[I].toNat : Int)) (by rw [HF.out, h0, byte64 s[I]]; simp [fitI, hx2]))
                  clear h0 hx2
                  go_wp2_with fail
                  go_region
                  all_goals
                    go_wp2
                    go_roundw
                    case rel => exact ⟨I, _, rfl, rfl, by omega, HS⟩
                    case measure => simp [intOf]
end Go.Proofs.Ytpobpanmkdjkjaa.Pat
