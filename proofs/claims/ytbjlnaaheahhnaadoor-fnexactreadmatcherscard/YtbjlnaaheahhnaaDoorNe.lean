/- Rows of matchers marked and held: what markMatcherS and heldMatcherS come to. -/
import Derived.Test.YtbjlnaaheahhnaaDoorNd
namespace Go.Proofs.YtbjlnaaheahhnaaDoor.Lab
open Go.RowKit Go.Proofs.YtbjlnaaheahhnaaDoor.Str

def markN (k n : Nat) : List Pat.Mt := (List.range n).map fun i => (mkT (k + 3 * i), ((k + 3 * i + 1 : Nat) : Int), mkT (k + 3 * i + 2))
theorem markN_len (k n : Nat) : (markN k n).length = n := by simp [markN]
theorem markN_get (k n i : Nat) (h : i < n) : (markN k n).getD i Pat.m0 = (mkT (k + 3 * i), ((k + 3 * i + 1 : Nat) : Int), mkT (k + 3 * i + 2)) := by simp [markN, h]
def markV (k : Nat) (ls : List Pat.Mt) (i : Nat) : List Pat.Mt := (markN k i) ++ ls.drop i
theorem markV_zero (k : Nat) (ls : List Pat.Mt) : markV k ls 0 = ls := by simp [markV, markN]
theorem markV_end (k n : Nat) (ls : List Pat.Mt) (h : ls.length = n) : markV k ls n = markN k n := by simp [markV, ← h]
theorem markV_len (k n i : Nat) (ls : List Pat.Mt) (h : ls.length = n) (hi : i ≤ n) : (markV k ls i).length = n := by simp [markV, markN_len]; omega
theorem markV_set (k n i : Nat) (ls : List Pat.Mt) (h : ls.length = n) (hi : i < n) : (markV k ls i).set i (mkT (k + 3 * i), ((k + 3 * i + 1 : Nat) : Int), mkT (k + 3 * i + 2)) = markV k ls (i + 1) := by
  unfold markV
  rw [List.set_append_right _ _ (by rw [markN_len]; exact Nat.le_refl _), markN_len, Nat.sub_self, List.drop_eq_getElem_cons (by omega), List.set_cons_zero]
  have : markN k (i + 1) = markN k i ++ [(mkT (k + 3 * i), ((k + 3 * i + 1 : Nat) : Int), mkT (k + 3 * i + 2))] := by simp [markN, List.range_succ]
  rw [this, List.append_assoc]
  rfl

set_option maxHeartbeats 4000000 in
theorem f12 (g n c base k : Nat) (ls : List Pat.Mt) (w : World) (hn : ls.length = n) (hk : k + 3 * n ≤ 100000000) (hown : w.ownsRow base 37 3 (.slice (some ⟨g, 0, none⟩) n c) n (Pat.flatM ls)) :
    Calls Tryd.prog 12 #[.slice (some ⟨g, 0, none⟩) n c, .int .i64 k] w fun e w' => e = .returned (.int .i64 ((k + 3 * n : Nat) : Int)) ∧ w'.ownsRow base 37 3 (.slice (some ⟨g, 0, none⟩) n c) n (Pat.flatM (markN k n)) ∧ w.grownBy w' (some g) := by
  have HN := hid hn
  have HO0 := hid hown
  clear hn hown
  go_enter Tryd.func12, Tryd.ntmps12
  go_wp2
  go_loopw [1, 5] (fun sk si wr => ∃ (i m : Nat), i ≤ n ∧ si = .int .i64 i ∧ sk = .int .i64 (m : Int) ∧ Hid (m = k + 3 * i) ∧ wr.ownsRow base 37 3 (.slice (some ⟨g, 0, none⟩) n c) n (Pat.flatM (markV k ls i)) ∧ w.grownBy wr (some g)) (fun _ si _ => n - (intOf si).toNat)
  case atStart => exact ⟨0, k, Nat.zero_le _, rfl, rfl, rfl, by rw [markV_zero]; exact HO0.out, ⟨rfl, rfl, rfl, Nat.le_refl _, fun _ _ _ => rfl⟩⟩
  case round =>
    obtain ⟨i, m, hi, rfl, rfl, hm, hown, hgr⟩ := hrel
    have HO := hid hown
    have HG := hid hgr
    have HM := hid (markV_len k n i ls HN.out hi)
    clear hown hgr HO0
    by_cases hlt : i < n
    · have HS := hid (markV_set k n i ls HN.out hlt)
      have hm1 : m ≤ 99999997 := by have := hm.out; omega
      go_wp2_with fail
      refine (f25 m _ (by omega)).mono ?_
      rintro e w2 ⟨rfl, hb2⟩
      have HO2 := hid (own_below HO.out hb2)
      have HG2 := hid (grown_trans HG.out (grown_below (some g) hb2))
      have fz := HO2.out.frozenAt (i * 3)
      obtain ⟨y0, y1, y2⟩ := Pat.flatM_get (markV k ls i) i (by rw [HM.out]; exact hlt)
      have cz := (HO2.out.cellAt (i * 3) (by omega)).trans y0
      have HO3 := hid (HO2.out.stored (i * 3) (.string (mkT m))).1
      have HG3 := hid (grown_setRow (o := i * 3) HG2.out (.string (mkT m)))
      have fz3 := HO3.out.frozenAt (i * 3 + 1)
      have cz3 := (HO3.out.cellAt (i * 3 + 1) (by omega)).trans ((List.getElem?_set_ne (by omega)).trans y1)
      have HO4 := hid (HO3.out.stored (i * 3 + 1) (.int .i64 ((m : Int) + 1))).1
      have HG4 := hid (grown_setRow (o := i * 3 + 1) HG3.out (.int .i64 ((m : Int) + 1)))
      clear hb2 y0 y1 y2
      go_wp2_with fail
      refine (f25 (m + 2) _ (by omega)).mono ?_
      rintro e w3 ⟨rfl, hb3⟩
      have HO5 := hid (own_below HO4.out hb3)
      have HG5 := hid (grown_trans HG4.out (grown_below (some g) hb3))
      have fz5 := HO5.out.frozenAt (i * 3 + 2)
      obtain ⟨y0, y1, y2⟩ := Pat.flatM_get (markV k ls i) i (by rw [HM.out]; exact hlt)
      have cz5 := (HO5.out.cellAt (i * 3 + 2) (by omega)).trans ((List.getElem?_set_ne (by omega)).trans ((List.getElem?_set_ne (by omega)).trans y2))
      have HO6 := hid (HO5.out.stored (i * 3 + 2) (.string (mkT (m + 2)))).1
      have HG6 := hid (grown_setRow (o := i * 3 + 2) HG5.out (.string (mkT (m + 2))))
      have HO7 : Hid ((w3.setCell ⟨g, i * 3 + 2, none⟩ (.string (mkT (m + 2)))).ownsRow base 37 3 (.slice (some ⟨g, 0, none⟩) n c) n (Pat.flatM (markV k ls (i + 1)))) := by
        have := HO6.out
        have e1 : ((m : Int) + 1) = ((m + 1 : Nat) : Int) := by omega
        rw [e1, Pat.flatM_set _ i _ _ _ (by rw [HM.out]; exact hlt)] at this
        unfold Hid
        rw [← HS.out, ← hm.out]
        exact this
      clear hb3 y0 y1 y2 fz cz fz3 cz3
      go_wp2
      go_roundw
      case rel => exact ⟨i + 1, m + 3, by omega, by go_num, by go_num, by have := hm.out; unfold Hid; omega, HO7.out, HG6.out⟩
      case measure => simp [intOf]; omega
    · obtain rfl : i = n := by omega
      go_wp2
      go_ret
      exact ⟨by rw [← hm.out]; rfl, by rw [← markV_end k i ls HN.out]; exact HO.out, HG.out⟩
theorem f12n (k : Nat) (w : World) : Calls Tryd.prog 12 #[.slice none 0 0, .int .i64 k] w fun e w' => e = .returned (.int .i64 k) ∧ w' = w := by
  go_enter Tryd.func12, Tryd.ntmps12
  go_wp2
  go_loop [1, 5] (fun sk i => sk = .int .i64 k ∧ i = .int .i64 0) (fun _ _ => 0)
  case atStart => exact ⟨rfl, rfl⟩
  case round =>
    obtain ⟨rfl, rfl⟩ := hrel
    go_wp2
    go_ret
    exact ⟨rfl, rfl⟩
theorem f13n (k : Nat) (w : World) : Calls Tryd.prog 13 #[.slice none 0 0, .int .i64 k] w fun e w' => e = .returned (.int .i64 k) ∧ w' = w := by
  go_enter Tryd.func13, Tryd.ntmps13
  go_wp2
  go_loop [1, 5] (fun sk i => sk = .int .i64 k ∧ i = .int .i64 0) (fun _ _ => 0)
  case atStart => exact ⟨rfl, rfl⟩
  case round =>
    obtain ⟨rfl, rfl⟩ := hrel
    go_wp2
    go_ret
    exact ⟨rfl, rfl⟩

set_option maxHeartbeats 4000000 in
theorem f13 (g n c k : Nat) (w : World) (hk : k + 3 * n ≤ 100000000) (hr : Pat.HasM w (some ⟨g, 0, none⟩) (markN k n)) :
    Calls Tryd.prog 13 #[.slice (some ⟨g, 0, none⟩) n c, .int .i64 k] w fun e w' => e = .returned (.int .i64 ((k + 3 * n : Nat) : Int)) ∧ Below w.heap.size w w' := by
  go_enter Tryd.func13, Tryd.ntmps13
  go_wp2
  go_loopw [1, 5] (fun sk si wr => ∃ (i m : Nat), i ≤ n ∧ si = .int .i64 i ∧ sk = .int .i64 (m : Int) ∧ Hid (m = k + 3 * i) ∧ Below w.heap.size w wr) (fun _ si _ => n - (intOf si).toNat)
  case atStart => exact ⟨0, k, Nat.zero_le _, rfl, rfl, rfl, Below.refl _ _⟩
  case round =>
    obtain ⟨i, m, hi, rfl, rfl, hm, hnx⟩ := hrel
    have HX := hid hnx
    by_cases hlt : i < n
    · rcases hr with hr | ⟨b, off, hbo, hbl, hc⟩
      · have := markN_len k n; rw [hr] at this; simp at this; omega
      simp only [Option.some.injEq, Addr.mk.injEq, and_true] at hbo
      obtain ⟨rfl, rfl⟩ := hbo
      obtain ⟨c0, c1, c2⟩ := hc i (by rw [markN_len]; exact hlt)
      rw [markN_get k n i hlt, ← hm.out, Nat.zero_add] at c0 c1 c2
      have HS := hid (show UU w g (i * 3) (mkT m) wr from ⟨(hnx.cell (p := ⟨g, i * 3, none⟩) hbl).trans c0, Nat.lt_of_lt_of_le hbl hnx.size, hnx⟩)
      have HT1 := hid (show w.cell? ⟨g, i * 3 + 1, none⟩ = some (.int .i64 ((m + 1 : Nat) : Int)) from c1)
      have HT2 := hid (show w.cell? ⟨g, i * 3 + 2, none⟩ = some (.string (mkT (m + 2))) from c2)
      have HL := hid hbl
      have i1 : (i : Int) < (n : Int) := by omega
      have hm1 : m ≤ 99999997 := by have := hm.out; omega
      clear hc c0 c1 c2 hnx hbl
      go_wp2_with fail
      go_region_held3 (fun w' => UU w g (i * 3) (mkT m) w') (first | exact HS.out.drew | assumption) (first | (go_at_call 25; refine (f25 m _ (by omega)).mono ?_; rintro e w2 ⟨rfl, hb2⟩; have hs2 := UU.below (by assumption) hb2; clear hb2))
      have HX2 := hid hs2.2.2
      have d1 : w2.cell? ⟨g, i * 3 + 1, none⟩ = some (.int .i64 ((m : Int) + 1)) := (HX2.out.cell (p := ⟨g, i * 3 + 1, none⟩) HL.out).trans (by rw [HT1.out]; rfl)
      have hq : (((m : Int) + 1) != ((m : Int) + 1)) = false := by simp
      have HS2 := hid (show UU w g (i * 3 + 2) (mkT (m + 2)) w2 from ⟨(HX2.out.cell (p := ⟨g, i * 3 + 2, none⟩) HL.out).trans HT2.out, hs2.2.1, hs2.2.2⟩)
      clear hs2
      go_wp2_with fail
      go_region_held3 (fun w' => UU w g (i * 3 + 2) (mkT (m + 2)) w') (first | exact HS2.out.drew | assumption) (first | (go_at_call 25; refine (f25 (m + 2) _ (by omega)).mono ?_; rintro e w3 ⟨rfl, hb3⟩; have hs3 := UU.below (by assumption) hb3; clear hb3))
      have HX3 := hid hs3.2.2
      clear hs3
      go_wp2
      go_roundw
      case rel => exact ⟨i + 1, m + 3, by omega, by go_num, by go_num, by have := hm.out; unfold Hid; omega, HX3.out⟩
      case measure => simp [intOf]; omega
    · obtain rfl : i = n := by omega
      go_wp2
      go_ret
      exact ⟨by rw [← hm.out]; rfl, HX.out⟩
theorem f12o (a : Option Addr) (n c base k : Nat) (ls : List Pat.Mt) (w : World) (hn : ls.length = n) (hk : k + 3 * n ≤ 100000000) (hown : w.ownsRow base 37 3 (.slice a n c) n (Pat.flatM ls)) :
    Calls Tryd.prog 12 #[.slice a n c, .int .i64 k] w fun e w' => e = .returned (.int .i64 ((k + 3 * n : Nat) : Int)) ∧ w'.ownsRow base 37 3 (.slice a n c) n (Pat.flatM (markN k n)) ∧ w.grownBy w' (Value.slice a n c).ownBlock := by
  rcases own_cases hown with ⟨rfl, rfl, rfl⟩ | ⟨g, rfl⟩
  · refine (f12n k w).mono ?_
    rintro e w' ⟨rfl, rfl⟩
    exact ⟨rfl, World.ownsRow_nil _ _ _ _, grown_refl _ _⟩
  · exact f12 g n c base k ls w hn hk hown
theorem f13o (a : Option Addr) (n c base k : Nat) (w : World) (hk : k + 3 * n ≤ 100000000) (hown : w.ownsRow base 37 3 (.slice a n c) n (Pat.flatM (markN k n))) :
    Calls Tryd.prog 13 #[.slice a n c, .int .i64 k] w fun e w' => e = .returned (.int .i64 ((k + 3 * n : Nat) : Int)) ∧ Below w.heap.size w w' := by
  rcases own_cases hown with ⟨rfl, rfl, rfl⟩ | ⟨g, rfl⟩
  · refine (f13n k w).mono ?_
    rintro e w' ⟨rfl, rfl⟩
    exact ⟨rfl, Below.refl _ _⟩
  · exact f13 g n c k w hk (Pat.HasM.own hown)
end Go.Proofs.YtbjlnaaheahhnaaDoor.Lab
