/- Good rules: the program's GoodRelabel, action by action. -/
import Derived.Test.YtcknlidbjnmbjaaGreatDoorRQF
namespace Go.Proofs.YtcknlidbjnmbjaaGreatDoor.Rel
open Go.RowKit Go.Proofs.YtcknlidbjnmbjaaGreatDoor.Fil

set_option maxHeartbeats 4000000 in
theorem f8_3 (ss : List ByteArray) (sep pat tgt val : ByteArray) (md : Int) (a : Option Addr) (n c : Nat) (w : World) (hn : ss.length = n) (hr : HasT w a ss) (hz : SmlR ⟨3, ss, sep, pat, tgt, val, md⟩) (ht : Tab w) (hm0 : -9223372036854775808 ≤ md) (hm1 : md ≤ 9223372036854775807) :
    Calls Tryz.prog 57 #[agR ⟨3, ss, sep, pat, tgt, val, md⟩ a n c] w fun e w' => e = .returned (.bool (goodR ⟨3, ss, sep, pat, tgt, val, md⟩)) ∧ Below w.heap.size w w' := by
  obtain ⟨z1, z2, z3, z4, z5, z6⟩ := hz
  simp only at z1 z2 z3 z4 z5 z6
  have HN := hid hn
  have HZ : Hid (∀ i, i < n → (ss.getD i ByteArray.empty).size ≤ 1048576) := by rw [← hn]; exact z2
  have HX : Hid (Sx w ⟨3, ss, sep, pat, tgt, val, md⟩ n c a #[.string ⟨#[115, 101, 116]⟩, .bool true, .bool true, .bool true, .bool true, .bool false] _) := Sx.new _ hr
  have hnb : n ≤ 1048576 := by rw [← hn]; exact z1
  have h0 := ht.1
  have hbx := (Below.refl w.heap.size w).alloc (Nat.le_refl _) (.cells #[.int .i64 3, .slice a n c, .string sep, .string pat, .string tgt, .string val, .int .i64 md] 63)
  have htx := ht.below hbx
  have t0 : (w.alloc (.cells #[.int .i64 3, .slice a n c, .string sep, .string pat, .string tgt, .string val, .int .i64 md] 63)).cell? ⟨0, 18, none⟩ = some (.string ⟨#[115, 101, 116]⟩) := htx.2 18 (by omega)
  have t1 : (w.alloc (.cells #[.int .i64 3, .slice a n c, .string sep, .string pat, .string tgt, .string val, .int .i64 md] 63)).cell? ⟨0, 19, none⟩ = some (.bool true) := htx.2 19 (by omega)
  have t2 : (w.alloc (.cells #[.int .i64 3, .slice a n c, .string sep, .string pat, .string tgt, .string val, .int .i64 md] 63)).cell? ⟨0, 20, none⟩ = some (.bool true) := htx.2 20 (by omega)
  have t3 : (w.alloc (.cells #[.int .i64 3, .slice a n c, .string sep, .string pat, .string tgt, .string val, .int .i64 md] 63)).cell? ⟨0, 21, none⟩ = some (.bool true) := htx.2 21 (by omega)
  have t4 : (w.alloc (.cells #[.int .i64 3, .slice a n c, .string sep, .string pat, .string tgt, .string val, .int .i64 md] 63)).cell? ⟨0, 22, none⟩ = some (.bool true) := htx.2 22 (by omega)
  have t5 : (w.alloc (.cells #[.int .i64 3, .slice a n c, .string sep, .string pat, .string tgt, .string val, .int .i64 md] 63)).cell? ⟨0, 23, none⟩ = some (.bool false) := htx.2 23 (by omega)
  clear hn hr z1 z2 hbx htx ht
  simp only [agR]
  go_enter Tryz.func57, Tryz.ntmps57
  go_upto_region 3 with fail
  go_cut [3] from 12 to 15 (fun s3 wx => s3 = .pointer (some ⟨w.heap.size + 1, 0, none⟩) ∧ Hid (Sx w ⟨3, ss, sep, pat, tgt, val, md⟩ n c a #[.string ⟨#[115, 101, 116]⟩, .bool true, .bool true, .bool true, .bool true, .bool false] wx))
  case first =>
    go_wp2
    go_meet
    exact ⟨rfl, HX⟩
  case rest =>
  clear HX t0 t1 t2 t3 t4 t5
  obtain ⟨rfl, HX⟩ := hcut
  obtain ⟨b0, b1, b2, b3, b4, b5, b6⟩ := cells7 HX.out.one
  obtain ⟨g0, g1, g2, g3, g4, g5⟩ := cells6 HX.out.two
  clear g0 b0
  by_cases q6 : nm tgt = true
  rotate_left
  · have q6' : nm tgt = false := by simpa using q6
    have HE : Hid (nm tgt = false) := q6'
    clear q6
    unfold nm at q6'
    have HK : Hid (goodR ⟨3, ss, sep, pat, tgt, val, md⟩ = false) := good_nokind (by simp [kindB, HE.out])
    go_wp2_with (first | (go_at_call 40; refine (Pat.f40 tgt _ (by unfold maxLen; omega)).mono ?_; rintro e w' ⟨rfl, hw'⟩; have hw2 := hw'.symm; clear hw'; subst hw2))
    go_ret
    exact ⟨ret_bool HK.out.symm, HX.out.bel⟩
  have q6E : Hid (nm tgt = true) := q6
  unfold nm at q6
  by_cases q8 : md = 0
  rotate_left
  · have HK : Hid (goodR ⟨3, ss, sep, pat, tgt, val, md⟩ = false) := good_nokind (by simp [kindB, q8])
    have q8' : (md == 0) = false := by simp [q8]
    clear q8
    go_wp2_with (first | (go_at_call 40; refine (Pat.f40 tgt _ (by unfold maxLen; omega)).mono ?_; rintro e w' ⟨rfl, hw'⟩; have hw2 := hw'.symm; clear hw'; subst hw2))
    go_ret
    exact ⟨ret_bool HK.out.symm, HX.out.bel⟩
  have HG := hid (good_fin (r := ⟨3, ss, sep, pat, tgt, val, md⟩) (by simp) (by simp only; simp [kindB, q8, q6E.out]))
  simp only at HG
  subst q8
  by_cases p1 : srcB ss sep = true
  rotate_left
  · have p1' : srcB ss sep = false := by simpa using p1
    have P1 := hid p1'
    clear p1
    go_wp2_with (first | (go_at_call 40; refine (Pat.f40 tgt _ (by unfold maxLen; omega)).mono ?_; rintro e w' ⟨rfl, hw'⟩; have hw2 := hw'.symm; clear hw'; subst hw2) | (go_at_call 80; refine (f80 a n c ss sep _ HN.out hnb z3 HZ.out HX.out.txt).mono ?_; rintro e w' ⟨rfl, hw'⟩; have hw2 := hw'.symm; clear hw'; subst hw2))
    go_ret
    exact ⟨ret_bool (by rw [HG.out, P1.out]; rfl), HX.out.bel⟩
  have P1 := hid p1
  by_cases p2 : Pat.patB pat = true
  rotate_left
  · have p2' : Pat.patB pat = false := by simpa using p2
    have P2 := hid p2'
    clear p2
    go_wp2_with (first | (go_at_call 40; refine (Pat.f40 tgt _ (by unfold maxLen; omega)).mono ?_; rintro e w' ⟨rfl, hw'⟩; have hw2 := hw'.symm; clear hw'; subst hw2) | (go_at_call 80; refine (f80 a n c ss sep _ HN.out hnb z3 HZ.out HX.out.txt).mono ?_; rintro e w' ⟨rfl, hw'⟩; have hw2 := hw'.symm; clear hw'; subst hw2) | (go_at_call 81; refine (Pat.f81 pat _ (by unfold maxLen; omega)).mono ?_; rintro e w2 ⟨rfl, hb2⟩; have HX2 := hid (HX.out.below hb2); clear hb2; obtain ⟨y0, y1, y2, y3, y4, y5, y6⟩ := cells7 HX2.out.one; clear y0 y1 y2 y3 y4 y6) | (go_at_call 82; refine (f82 val _ (by unfold maxLen; omega)).mono ?_; rintro e w' ⟨rfl, hw'⟩; have hw2 := hw'.symm; clear hw'; subst hw2))
    go_ret
    exact ⟨ret_bool (by rw [HG.out, P1.out, P2.out]; rfl), HX2.out.bel⟩
  have P2 := hid p2
  go_wp2_with (first | (go_at_call 40; refine (Pat.f40 tgt _ (by unfold maxLen; omega)).mono ?_; rintro e w' ⟨rfl, hw'⟩; have hw2 := hw'.symm; clear hw'; subst hw2) | (go_at_call 80; refine (f80 a n c ss sep _ HN.out hnb z3 HZ.out HX.out.txt).mono ?_; rintro e w' ⟨rfl, hw'⟩; have hw2 := hw'.symm; clear hw'; subst hw2) | (go_at_call 81; refine (Pat.f81 pat _ (by unfold maxLen; omega)).mono ?_; rintro e w2 ⟨rfl, hb2⟩; have HX2 := hid (HX.out.below hb2); clear hb2; obtain ⟨y0, y1, y2, y3, y4, y5, y6⟩ := cells7 HX2.out.one; clear y0 y1 y2 y3 y4 y6) | (go_at_call 82; refine (f82 val _ (by unfold maxLen; omega)).mono ?_; rintro e w' ⟨rfl, hw'⟩; have hw2 := hw'.symm; clear hw'; subst hw2))
  go_ret
  exact ⟨ret_bool (by rw [HG.out, P1.out, P2.out]; rfl), HX2.out.bel⟩

set_option maxHeartbeats 4000000 in
theorem f8_4 (ss : List ByteArray) (sep pat tgt val : ByteArray) (md : Int) (a : Option Addr) (n c : Nat) (w : World) (hn : ss.length = n) (hr : HasT w a ss) (hz : SmlR ⟨4, ss, sep, pat, tgt, val, md⟩) (ht : Tab w) (hm0 : -9223372036854775808 ≤ md) (hm1 : md ≤ 9223372036854775807) :
    Calls Tryz.prog 57 #[agR ⟨4, ss, sep, pat, tgt, val, md⟩ a n c] w fun e w' => e = .returned (.bool (goodR ⟨4, ss, sep, pat, tgt, val, md⟩)) ∧ Below w.heap.size w w' := by
  obtain ⟨z1, z2, z3, z4, z5, z6⟩ := hz
  simp only at z1 z2 z3 z4 z5 z6
  have HN := hid hn
  have HZ : Hid (∀ i, i < n → (ss.getD i ByteArray.empty).size ≤ 1048576) := by rw [← hn]; exact z2
  have HX : Hid (Sx w ⟨4, ss, sep, pat, tgt, val, md⟩ n c a #[.string ⟨#[109, 111, 100]⟩, .bool true, .bool false, .bool true, .bool false, .bool true] _) := Sx.new _ hr
  have hnb : n ≤ 1048576 := by rw [← hn]; exact z1
  have h0 := ht.1
  have hbx := (Below.refl w.heap.size w).alloc (Nat.le_refl _) (.cells #[.int .i64 4, .slice a n c, .string sep, .string pat, .string tgt, .string val, .int .i64 md] 63)
  have htx := ht.below hbx
  have t0 : (w.alloc (.cells #[.int .i64 4, .slice a n c, .string sep, .string pat, .string tgt, .string val, .int .i64 md] 63)).cell? ⟨0, 24, none⟩ = some (.string ⟨#[109, 111, 100]⟩) := htx.2 24 (by omega)
  have t1 : (w.alloc (.cells #[.int .i64 4, .slice a n c, .string sep, .string pat, .string tgt, .string val, .int .i64 md] 63)).cell? ⟨0, 25, none⟩ = some (.bool true) := htx.2 25 (by omega)
  have t2 : (w.alloc (.cells #[.int .i64 4, .slice a n c, .string sep, .string pat, .string tgt, .string val, .int .i64 md] 63)).cell? ⟨0, 26, none⟩ = some (.bool false) := htx.2 26 (by omega)
  have t3 : (w.alloc (.cells #[.int .i64 4, .slice a n c, .string sep, .string pat, .string tgt, .string val, .int .i64 md] 63)).cell? ⟨0, 27, none⟩ = some (.bool true) := htx.2 27 (by omega)
  have t4 : (w.alloc (.cells #[.int .i64 4, .slice a n c, .string sep, .string pat, .string tgt, .string val, .int .i64 md] 63)).cell? ⟨0, 28, none⟩ = some (.bool false) := htx.2 28 (by omega)
  have t5 : (w.alloc (.cells #[.int .i64 4, .slice a n c, .string sep, .string pat, .string tgt, .string val, .int .i64 md] 63)).cell? ⟨0, 29, none⟩ = some (.bool true) := htx.2 29 (by omega)
  clear hn hr z1 z2 hbx htx ht
  simp only [agR]
  go_enter Tryz.func57, Tryz.ntmps57
  go_upto_region 3 with fail
  go_cut [3] from 12 to 15 (fun s3 wx => s3 = .pointer (some ⟨w.heap.size + 1, 0, none⟩) ∧ Hid (Sx w ⟨4, ss, sep, pat, tgt, val, md⟩ n c a #[.string ⟨#[109, 111, 100]⟩, .bool true, .bool false, .bool true, .bool false, .bool true] wx))
  case first =>
    go_wp2
    go_meet
    exact ⟨rfl, HX⟩
  case rest =>
  clear HX t0 t1 t2 t3 t4 t5
  obtain ⟨rfl, HX⟩ := hcut
  obtain ⟨b0, b1, b2, b3, b4, b5, b6⟩ := cells7 HX.out.one
  obtain ⟨g0, g1, g2, g3, g4, g5⟩ := cells6 HX.out.two
  clear g0 b0
  by_cases q3 : pat.toList.isEmpty = true
  rotate_left
  · have q3' : pat.toList.isEmpty = false := by simpa using q3
    have HE : Hid (em pat = false) := q3'
    clear q3
    have HK : Hid (goodR ⟨4, ss, sep, pat, tgt, val, md⟩ = false) := good_nokind (by simp [kindB, HE.out])
    go_wp2
    go_ret
    exact ⟨ret_bool HK.out.symm, HX.out.bel⟩
  have q3E : Hid (em pat = true) := q3
  by_cases q5 : val.toList.isEmpty = true
  rotate_left
  · have q5' : val.toList.isEmpty = false := by simpa using q5
    have HE : Hid (em val = false) := q5'
    clear q5
    have HK : Hid (goodR ⟨4, ss, sep, pat, tgt, val, md⟩ = false) := good_nokind (by simp [kindB, HE.out])
    go_wp2
    go_ret
    exact ⟨ret_bool HK.out.symm, HX.out.bel⟩
  have q5E : Hid (em val = true) := q5
  by_cases q6 : nm tgt = true
  rotate_left
  · have q6' : nm tgt = false := by simpa using q6
    have HE : Hid (nm tgt = false) := q6'
    clear q6
    unfold nm at q6'
    have HK : Hid (goodR ⟨4, ss, sep, pat, tgt, val, md⟩ = false) := good_nokind (by simp [kindB, HE.out])
    go_wp2_with (first | (go_at_call 40; refine (Pat.f40 tgt _ (by unfold maxLen; omega)).mono ?_; rintro e w' ⟨rfl, hw'⟩; have hw2 := hw'.symm; clear hw'; subst hw2))
    go_ret
    exact ⟨ret_bool HK.out.symm, HX.out.bel⟩
  have q6E : Hid (nm tgt = true) := q6
  unfold nm at q6
  by_cases q9 : md < 1
  · have HK : Hid (goodR ⟨4, ss, sep, pat, tgt, val, md⟩ = false) := good_nokind (by simp only [kindB]; rw [decide_eq_false (p := 1 ≤ md ∧ md ≤ 1000) (by omega)]; simp)
    go_wp2_with (first | (go_at_call 40; refine (Pat.f40 tgt _ (by unfold maxLen; omega)).mono ?_; rintro e w' ⟨rfl, hw'⟩; have hw2 := hw'.symm; clear hw'; subst hw2))
    go_ret
    exact ⟨ret_bool HK.out.symm, HX.out.bel⟩
  by_cases q10 : 1000 < md
  · have HK : Hid (goodR ⟨4, ss, sep, pat, tgt, val, md⟩ = false) := good_nokind (by simp only [kindB]; rw [decide_eq_false (p := 1 ≤ md ∧ md ≤ 1000) (by omega)]; simp)
    go_wp2_with (first | (go_at_call 40; refine (Pat.f40 tgt _ (by unfold maxLen; omega)).mono ?_; rintro e w' ⟨rfl, hw'⟩; have hw2 := hw'.symm; clear hw'; subst hw2))
    go_ret
    exact ⟨ret_bool HK.out.symm, HX.out.bel⟩
  have HG := hid (good_fin (r := ⟨4, ss, sep, pat, tgt, val, md⟩) (by simp) (by simp only; rw [em_fil q5E.out]; simp only [kindB]; rw [decide_eq_true (p := 1 ≤ md ∧ md ≤ 1000) (by omega)]; simp [q3E.out, q5E.out, q6E.out]))
  simp only at HG
  by_cases p1 : srcB ss sep = true
  rotate_left
  · have p1' : srcB ss sep = false := by simpa using p1
    have P1 := hid p1'
    clear p1
    go_wp2_with (first | (go_at_call 40; refine (Pat.f40 tgt _ (by unfold maxLen; omega)).mono ?_; rintro e w' ⟨rfl, hw'⟩; have hw2 := hw'.symm; clear hw'; subst hw2) | (go_at_call 80; refine (f80 a n c ss sep _ HN.out hnb z3 HZ.out HX.out.txt).mono ?_; rintro e w' ⟨rfl, hw'⟩; have hw2 := hw'.symm; clear hw'; subst hw2))
    go_ret
    exact ⟨ret_bool (by rw [HG.out, P1.out]; rfl), HX.out.bel⟩
  have P1 := hid p1
  by_cases p2 : Pat.patB pat = true
  rotate_left
  · have p2' : Pat.patB pat = false := by simpa using p2
    have P2 := hid p2'
    clear p2
    go_wp2_with (first | (go_at_call 40; refine (Pat.f40 tgt _ (by unfold maxLen; omega)).mono ?_; rintro e w' ⟨rfl, hw'⟩; have hw2 := hw'.symm; clear hw'; subst hw2) | (go_at_call 80; refine (f80 a n c ss sep _ HN.out hnb z3 HZ.out HX.out.txt).mono ?_; rintro e w' ⟨rfl, hw'⟩; have hw2 := hw'.symm; clear hw'; subst hw2) | (go_at_call 81; refine (Pat.f81 pat _ (by unfold maxLen; omega)).mono ?_; rintro e w2 ⟨rfl, hb2⟩; have HX2 := hid (HX.out.below hb2); clear hb2; obtain ⟨y0, y1, y2, y3, y4, y5, y6⟩ := cells7 HX2.out.one; clear y0 y1 y2 y3 y4 y6) | (go_at_call 82; refine (f82 val _ (by unfold maxLen; omega)).mono ?_; rintro e w' ⟨rfl, hw'⟩; have hw2 := hw'.symm; clear hw'; subst hw2))
    go_ret
    exact ⟨ret_bool (by rw [HG.out, P1.out, P2.out]; rfl), HX2.out.bel⟩
  have P2 := hid p2
  go_wp2_with (first | (go_at_call 40; refine (Pat.f40 tgt _ (by unfold maxLen; omega)).mono ?_; rintro e w' ⟨rfl, hw'⟩; have hw2 := hw'.symm; clear hw'; subst hw2) | (go_at_call 80; refine (f80 a n c ss sep _ HN.out hnb z3 HZ.out HX.out.txt).mono ?_; rintro e w' ⟨rfl, hw'⟩; have hw2 := hw'.symm; clear hw'; subst hw2) | (go_at_call 81; refine (Pat.f81 pat _ (by unfold maxLen; omega)).mono ?_; rintro e w2 ⟨rfl, hb2⟩; have HX2 := hid (HX.out.below hb2); clear hb2; obtain ⟨y0, y1, y2, y3, y4, y5, y6⟩ := cells7 HX2.out.one; clear y0 y1 y2 y3 y4 y6) | (go_at_call 82; refine (f82 val _ (by unfold maxLen; omega)).mono ?_; rintro e w' ⟨rfl, hw'⟩; have hw2 := hw'.symm; clear hw'; subst hw2))
  go_ret
  exact ⟨ret_bool (by rw [HG.out, P1.out, P2.out]; rfl), HX2.out.bel⟩
end Go.Proofs.YtcknlidbjnmbjaaGreatDoor.Rel
