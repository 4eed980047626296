/- Good rules: the program's GoodRelabel, action by action. -/
import Derived.Test.YtcknlidbjnmbjaaGreatDoorRQF
namespace Go.Proofs.YtcknlidbjnmbjaaGreatDoor.Rel
open Go.RowKit Go.Proofs.YtcknlidbjnmbjaaGreatDoor.Fil

set_option maxHeartbeats 4000000 in
theorem f8_1 (ss : List ByteArray) (sep pat tgt val : ByteArray) (md : Int) (a : Option Addr) (n c : Nat) (w : World) (hn : ss.length = n) (hr : HasT w a ss) (hz : SmlR ⟨1, ss, sep, pat, tgt, val, md⟩) (ht : Tab w) (hm0 : -9223372036854775808 ≤ md) (hm1 : md ≤ 9223372036854775807) :
    Calls Tryz.prog 57 #[agR ⟨1, ss, sep, pat, tgt, val, md⟩ a n c] w fun e w' => e = .returned (.bool (goodR ⟨1, ss, sep, pat, tgt, val, md⟩)) ∧ Below w.heap.size w w' := by
  obtain ⟨z1, z2, z3, z4, z5, z6⟩ := hz
  simp only at z1 z2 z3 z4 z5 z6
  have HN := hid hn
  have HZ : Hid (∀ i, i < n → (ss.getD i ByteArray.empty).size ≤ 1048576) := by rw [← hn]; exact z2
  have HX : Hid (Sx w ⟨1, ss, sep, pat, tgt, val, md⟩ n c a #[.string ⟨#[107, 101, 101, 112]⟩, .bool true, .bool true, .bool false, .bool false, .bool false] _) := Sx.new _ hr
  have hnb : n ≤ 1048576 := by rw [← hn]; exact z1
  have h0 := ht.1
  have hbx := (Below.refl w.heap.size w).alloc (Nat.le_refl _) (.cells #[.int .i64 1, .slice a n c, .string sep, .string pat, .string tgt, .string val, .int .i64 md] 63)
  have htx := ht.below hbx
  have t0 : (w.alloc (.cells #[.int .i64 1, .slice a n c, .string sep, .string pat, .string tgt, .string val, .int .i64 md] 63)).cell? ⟨0, 6, none⟩ = some (.string ⟨#[107, 101, 101, 112]⟩) := htx.2 6 (by omega)
  have t1 : (w.alloc (.cells #[.int .i64 1, .slice a n c, .string sep, .string pat, .string tgt, .string val, .int .i64 md] 63)).cell? ⟨0, 7, none⟩ = some (.bool true) := htx.2 7 (by omega)
  have t2 : (w.alloc (.cells #[.int .i64 1, .slice a n c, .string sep, .string pat, .string tgt, .string val, .int .i64 md] 63)).cell? ⟨0, 8, none⟩ = some (.bool true) := htx.2 8 (by omega)
  have t3 : (w.alloc (.cells #[.int .i64 1, .slice a n c, .string sep, .string pat, .string tgt, .string val, .int .i64 md] 63)).cell? ⟨0, 9, none⟩ = some (.bool false) := htx.2 9 (by omega)
  have t4 : (w.alloc (.cells #[.int .i64 1, .slice a n c, .string sep, .string pat, .string tgt, .string val, .int .i64 md] 63)).cell? ⟨0, 10, none⟩ = some (.bool false) := htx.2 10 (by omega)
  have t5 : (w.alloc (.cells #[.int .i64 1, .slice a n c, .string sep, .string pat, .string tgt, .string val, .int .i64 md] 63)).cell? ⟨0, 11, none⟩ = some (.bool false) := htx.2 11 (by omega)
  clear hn hr z1 z2 hbx htx ht
  simp only [agR]
  go_enter Tryz.func57, Tryz.ntmps57
  go_upto_region 3 with fail
  go_cut [3] from 12 to 15 (fun s3 wx => s3 = .pointer (some ⟨w.heap.size + 1, 0, none⟩) ∧ Hid (Sx w ⟨1, ss, sep, pat, tgt, val, md⟩ n c a #[.string ⟨#[107, 101, 101, 112]⟩, .bool true, .bool true, .bool false, .bool false, .bool false] wx))
  case first =>
    go_wp2
    go_meet
    exact ⟨rfl, HX⟩
  case rest =>
  clear HX t0 t1 t2 t3 t4 t5
  obtain ⟨rfl, HX⟩ := hcut
  obtain ⟨b0, b1, b2, b3, b4, b5, b6⟩ := cells7 HX.out.one
  obtain ⟨g0, g1, g2, g3, g4, g5⟩ := cells6 HX.out.two
  clear g0 b0
  by_cases q5 : val.toList.isEmpty = true
  rotate_left
  · have q5' : val.toList.isEmpty = false := by simpa using q5
    have HE : Hid (em val = false) := q5'
    clear q5
    have HK : Hid (goodR ⟨1, ss, sep, pat, tgt, val, md⟩ = false) := good_nokind (by simp [kindB, HE.out])
    go_wp2
    go_ret
    exact ⟨ret_bool HK.out.symm, HX.out.bel⟩
  have q5E : Hid (em val = true) := q5
  by_cases q4 : tgt.toList.isEmpty = true
  rotate_left
  · have q4' : tgt.toList.isEmpty = false := by simpa using q4
    have HE : Hid (em tgt = false) := q4'
    clear q4
    have HK : Hid (goodR ⟨1, ss, sep, pat, tgt, val, md⟩ = false) := good_nokind (by simp [kindB, HE.out])
    go_wp2
    go_ret
    exact ⟨ret_bool HK.out.symm, HX.out.bel⟩
  have q4E : Hid (em tgt = true) := q4
  by_cases q8 : md = 0
  rotate_left
  · have HK : Hid (goodR ⟨1, ss, sep, pat, tgt, val, md⟩ = false) := good_nokind (by simp [kindB, q8])
    have q8' : (md == 0) = false := by simp [q8]
    clear q8
    go_wp2
    go_ret
    exact ⟨ret_bool HK.out.symm, HX.out.bel⟩
  have HG := hid (good_fin (r := ⟨1, ss, sep, pat, tgt, val, md⟩) (by simp) (by simp only; rw [em_fil q5E.out]; simp [kindB, q8, q5E.out, q4E.out]))
  simp only at HG
  subst q8
  by_cases p1 : srcB ss sep = true
  rotate_left
  · have p1' : srcB ss sep = false := by simpa using p1
    have P1 := hid p1'
    clear p1
    go_wp2_with (first | (go_at_call 80; refine (f80 a n c ss sep _ HN.out hnb z3 HZ.out HX.out.txt).mono ?_; rintro e w' ⟨rfl, hw'⟩; have hw2 := hw'.symm; clear hw'; subst hw2))
    go_ret
    exact ⟨ret_bool (by rw [HG.out, P1.out]; rfl), HX.out.bel⟩
  have P1 := hid p1
  by_cases p2 : Pat.patB pat = true
  rotate_left
  · have p2' : Pat.patB pat = false := by simpa using p2
    have P2 := hid p2'
    clear p2
    go_wp2_with (first | (go_at_call 80; refine (f80 a n c ss sep _ HN.out hnb z3 HZ.out HX.out.txt).mono ?_; rintro e w' ⟨rfl, hw'⟩; have hw2 := hw'.symm; clear hw'; subst hw2) | (go_at_call 81; refine (Pat.f81 pat _ (by unfold maxLen; omega)).mono ?_; rintro e w2 ⟨rfl, hb2⟩; have HX2 := hid (HX.out.below hb2); clear hb2; obtain ⟨y0, y1, y2, y3, y4, y5, y6⟩ := cells7 HX2.out.one; clear y0 y1 y2 y3 y4 y6) | (go_at_call 82; refine (f82 val _ (by unfold maxLen; omega)).mono ?_; rintro e w' ⟨rfl, hw'⟩; have hw2 := hw'.symm; clear hw'; subst hw2))
    go_ret
    exact ⟨ret_bool (by rw [HG.out, P1.out, P2.out]; rfl), HX2.out.bel⟩
  have P2 := hid p2
  go_wp2_with (first | (go_at_call 80; refine (f80 a n c ss sep _ HN.out hnb z3 HZ.out HX.out.txt).mono ?_; rintro e w' ⟨rfl, hw'⟩; have hw2 := hw'.symm; clear hw'; subst hw2) | (go_at_call 81; refine (Pat.f81 pat _ (by unfold maxLen; omega)).mono ?_; rintro e w2 ⟨rfl, hb2⟩; have HX2 := hid (HX.out.below hb2); clear hb2; obtain ⟨y0, y1, y2, y3, y4, y5, y6⟩ := cells7 HX2.out.one; clear y0 y1 y2 y3 y4 y6) | (go_at_call 82; refine (f82 val _ (by unfold maxLen; omega)).mono ?_; rintro e w' ⟨rfl, hw'⟩; have hw2 := hw'.symm; clear hw'; subst hw2))
  go_ret
  exact ⟨ret_bool (by rw [HG.out, P1.out, P2.out]; rfl), HX2.out.bel⟩

set_option maxHeartbeats 4000000 in
theorem f8_2 (ss : List ByteArray) (sep pat tgt val : ByteArray) (md : Int) (a : Option Addr) (n c : Nat) (w : World) (hn : ss.length = n) (hr : HasT w a ss) (hz : SmlR ⟨2, ss, sep, pat, tgt, val, md⟩) (ht : Tab w) (hm0 : -9223372036854775808 ≤ md) (hm1 : md ≤ 9223372036854775807) :
    Calls Tryz.prog 57 #[agR ⟨2, ss, sep, pat, tgt, val, md⟩ a n c] w fun e w' => e = .returned (.bool (goodR ⟨2, ss, sep, pat, tgt, val, md⟩)) ∧ Below w.heap.size w w' := by
  obtain ⟨z1, z2, z3, z4, z5, z6⟩ := hz
  simp only at z1 z2 z3 z4 z5 z6
  have HN := hid hn
  have HZ : Hid (∀ i, i < n → (ss.getD i ByteArray.empty).size ≤ 1048576) := by rw [← hn]; exact z2
  have HX : Hid (Sx w ⟨2, ss, sep, pat, tgt, val, md⟩ n c a #[.string ⟨#[100, 114, 111, 112]⟩, .bool true, .bool true, .bool false, .bool false, .bool false] _) := Sx.new _ hr
  have hnb : n ≤ 1048576 := by rw [← hn]; exact z1
  have h0 := ht.1
  have hbx := (Below.refl w.heap.size w).alloc (Nat.le_refl _) (.cells #[.int .i64 2, .slice a n c, .string sep, .string pat, .string tgt, .string val, .int .i64 md] 63)
  have htx := ht.below hbx
  have t0 : (w.alloc (.cells #[.int .i64 2, .slice a n c, .string sep, .string pat, .string tgt, .string val, .int .i64 md] 63)).cell? ⟨0, 12, none⟩ = some (.string ⟨#[100, 114, 111, 112]⟩) := htx.2 12 (by omega)
  have t1 : (w.alloc (.cells #[.int .i64 2, .slice a n c, .string sep, .string pat, .string tgt, .string val, .int .i64 md] 63)).cell? ⟨0, 13, none⟩ = some (.bool true) := htx.2 13 (by omega)
  have t2 : (w.alloc (.cells #[.int .i64 2, .slice a n c, .string sep, .string pat, .string tgt, .string val, .int .i64 md] 63)).cell? ⟨0, 14, none⟩ = some (.bool true) := htx.2 14 (by omega)
  have t3 : (w.alloc (.cells #[.int .i64 2, .slice a n c, .string sep, .string pat, .string tgt, .string val, .int .i64 md] 63)).cell? ⟨0, 15, none⟩ = some (.bool false) := htx.2 15 (by omega)
  have t4 : (w.alloc (.cells #[.int .i64 2, .slice a n c, .string sep, .string pat, .string tgt, .string val, .int .i64 md] 63)).cell? ⟨0, 16, none⟩ = some (.bool false) := htx.2 16 (by omega)
  have t5 : (w.alloc (.cells #[.int .i64 2, .slice a n c, .string sep, .string pat, .string tgt, .string val, .int .i64 md] 63)).cell? ⟨0, 17, none⟩ = some (.bool false) := htx.2 17 (by omega)
  clear hn hr z1 z2 hbx htx ht
  simp only [agR]
  go_enter Tryz.func57, Tryz.ntmps57
  go_upto_region 3 with fail
  go_cut [3] from 12 to 15 (fun s3 wx => s3 = .pointer (some ⟨w.heap.size + 1, 0, none⟩) ∧ Hid (Sx w ⟨2, ss, sep, pat, tgt, val, md⟩ n c a #[.string ⟨#[100, 114, 111, 112]⟩, .bool true, .bool true, .bool false, .bool false, .bool false] wx))
  case first =>
    go_wp2
    go_meet
    exact ⟨rfl, HX⟩
  case rest =>
  clear HX t0 t1 t2 t3 t4 t5
  obtain ⟨rfl, HX⟩ := hcut
  obtain ⟨b0, b1, b2, b3, b4, b5, b6⟩ := cells7 HX.out.one
  obtain ⟨g0, g1, g2, g3, g4, g5⟩ := cells6 HX.out.two
  clear g0 b0
  by_cases q5 : val.toList.isEmpty = true
  rotate_left
  · have q5' : val.toList.isEmpty = false := by simpa using q5
    have HE : Hid (em val = false) := q5'
    clear q5
    have HK : Hid (goodR ⟨2, ss, sep, pat, tgt, val, md⟩ = false) := good_nokind (by simp [kindB, HE.out])
    go_wp2
    go_ret
    exact ⟨ret_bool HK.out.symm, HX.out.bel⟩
  have q5E : Hid (em val = true) := q5
  by_cases q4 : tgt.toList.isEmpty = true
  rotate_left
  · have q4' : tgt.toList.isEmpty = false := by simpa using q4
    have HE : Hid (em tgt = false) := q4'
    clear q4
    have HK : Hid (goodR ⟨2, ss, sep, pat, tgt, val, md⟩ = false) := good_nokind (by simp [kindB, HE.out])
    go_wp2
    go_ret
    exact ⟨ret_bool HK.out.symm, HX.out.bel⟩
  have q4E : Hid (em tgt = true) := q4
  by_cases q8 : md = 0
  rotate_left
  · have HK : Hid (goodR ⟨2, ss, sep, pat, tgt, val, md⟩ = false) := good_nokind (by simp [kindB, q8])
    have q8' : (md == 0) = false := by simp [q8]
    clear q8
    go_wp2
    go_ret
    exact ⟨ret_bool HK.out.symm, HX.out.bel⟩
  have HG := hid (good_fin (r := ⟨2, ss, sep, pat, tgt, val, md⟩) (by simp) (by simp only; rw [em_fil q5E.out]; simp [kindB, q8, q5E.out, q4E.out]))
  simp only at HG
  subst q8
  by_cases p1 : srcB ss sep = true
  rotate_left
  · have p1' : srcB ss sep = false := by simpa using p1
    have P1 := hid p1'
    clear p1
    go_wp2_with (first | (go_at_call 80; refine (f80 a n c ss sep _ HN.out hnb z3 HZ.out HX.out.txt).mono ?_; rintro e w' ⟨rfl, hw'⟩; have hw2 := hw'.symm; clear hw'; subst hw2))
    go_ret
    exact ⟨ret_bool (by rw [HG.out, P1.out]; rfl), HX.out.bel⟩
  have P1 := hid p1
  by_cases p2 : Pat.patB pat = true
  rotate_left
  · have p2' : Pat.patB pat = false := by simpa using p2
    have P2 := hid p2'
    clear p2
    go_wp2_with (first | (go_at_call 80; refine (f80 a n c ss sep _ HN.out hnb z3 HZ.out HX.out.txt).mono ?_; rintro e w' ⟨rfl, hw'⟩; have hw2 := hw'.symm; clear hw'; subst hw2) | (go_at_call 81; refine (Pat.f81 pat _ (by unfold maxLen; omega)).mono ?_; rintro e w2 ⟨rfl, hb2⟩; have HX2 := hid (HX.out.below hb2); clear hb2; obtain ⟨y0, y1, y2, y3, y4, y5, y6⟩ := cells7 HX2.out.one; clear y0 y1 y2 y3 y4 y6) | (go_at_call 82; refine (f82 val _ (by unfold maxLen; omega)).mono ?_; rintro e w' ⟨rfl, hw'⟩; have hw2 := hw'.symm; clear hw'; subst hw2))
    go_ret
    exact ⟨ret_bool (by rw [HG.out, P1.out, P2.out]; rfl), HX2.out.bel⟩
  have P2 := hid p2
  go_wp2_with (first | (go_at_call 80; refine (f80 a n c ss sep _ HN.out hnb z3 HZ.out HX.out.txt).mono ?_; rintro e w' ⟨rfl, hw'⟩; have hw2 := hw'.symm; clear hw'; subst hw2) | (go_at_call 81; refine (Pat.f81 pat _ (by unfold maxLen; omega)).mono ?_; rintro e w2 ⟨rfl, hb2⟩; have HX2 := hid (HX.out.below hb2); clear hb2; obtain ⟨y0, y1, y2, y3, y4, y5, y6⟩ := cells7 HX2.out.one; clear y0 y1 y2 y3 y4 y6) | (go_at_call 82; refine (f82 val _ (by unfold maxLen; omega)).mono ?_; rintro e w' ⟨rfl, hw'⟩; have hw2 := hw'.symm; clear hw'; subst hw2))
  go_ret
  exact ⟨ret_bool (by rw [HG.out, P1.out, P2.out]; rfl), HX2.out.bel⟩
end Go.Proofs.YtcknlidbjnmbjaaGreatDoor.Rel
