/- Good rules: the program's GoodRelabel, action by action. -/
import Derived.Test.YtcknlidbjnmbjaaGreatDoorRQF
namespace Go.Proofs.YtcknlidbjnmbjaaGreatDoor.Rel
open Go.RowKit Go.Proofs.YtcknlidbjnmbjaaGreatDoor.Fil

set_option maxHeartbeats 4000000 in
theorem f8_7 (ss : List ByteArray) (sep pat tgt val : ByteArray) (md : Int) (a : Option Addr) (n c : Nat) (w : World) (hn : ss.length = n) (hr : HasT w a ss) (hz : SmlR ⟨7, ss, sep, pat, tgt, val, md⟩) (ht : Tab w) (hm0 : -9223372036854775808 ≤ md) (hm1 : md ≤ 9223372036854775807) :
    Calls Tryz.prog 57 #[agR ⟨7, ss, sep, pat, tgt, val, md⟩ a n c] w fun e w' => e = .returned (.bool (goodR ⟨7, ss, sep, pat, tgt, val, md⟩)) ∧ Below w.heap.size w w' := by
  obtain ⟨z1, z2, z3, z4, z5, z6⟩ := hz
  simp only at z1 z2 z3 z4 z5 z6
  have HN := hid hn
  have HZ : Hid (∀ i, i < n → (ss.getD i ByteArray.empty).size ≤ 1048576) := by rw [← hn]; exact z2
  have HX : Hid (Sx w ⟨7, ss, sep, pat, tgt, val, md⟩ n c a #[.string ⟨#[100, 114, 111, 112, 110, 97, 109, 101, 115]⟩, .bool false, .bool true, .bool false, .bool false, .bool false] _) := Sx.new _ hr
  have hnb : n ≤ 1048576 := by rw [← hn]; exact z1
  have h0 := ht.1
  have hbx := (Below.refl w.heap.size w).alloc (Nat.le_refl _) (.cells #[.int .i64 7, .slice a n c, .string sep, .string pat, .string tgt, .string val, .int .i64 md] 63)
  have htx := ht.below hbx
  have t0 : (w.alloc (.cells #[.int .i64 7, .slice a n c, .string sep, .string pat, .string tgt, .string val, .int .i64 md] 63)).cell? ⟨0, 42, none⟩ = some (.string ⟨#[100, 114, 111, 112, 110, 97, 109, 101, 115]⟩) := htx.2 42 (by omega)
  have t1 : (w.alloc (.cells #[.int .i64 7, .slice a n c, .string sep, .string pat, .string tgt, .string val, .int .i64 md] 63)).cell? ⟨0, 43, none⟩ = some (.bool false) := htx.2 43 (by omega)
  have t2 : (w.alloc (.cells #[.int .i64 7, .slice a n c, .string sep, .string pat, .string tgt, .string val, .int .i64 md] 63)).cell? ⟨0, 44, none⟩ = some (.bool true) := htx.2 44 (by omega)
  have t3 : (w.alloc (.cells #[.int .i64 7, .slice a n c, .string sep, .string pat, .string tgt, .string val, .int .i64 md] 63)).cell? ⟨0, 45, none⟩ = some (.bool false) := htx.2 45 (by omega)
  have t4 : (w.alloc (.cells #[.int .i64 7, .slice a n c, .string sep, .string pat, .string tgt, .string val, .int .i64 md] 63)).cell? ⟨0, 46, none⟩ = some (.bool false) := htx.2 46 (by omega)
  have t5 : (w.alloc (.cells #[.int .i64 7, .slice a n c, .string sep, .string pat, .string tgt, .string val, .int .i64 md] 63)).cell? ⟨0, 47, none⟩ = some (.bool false) := htx.2 47 (by omega)
  clear hn hr z1 z2 hbx htx ht
  simp only [agR]
  go_enter Tryz.func57, Tryz.ntmps57
  go_upto_region 3 with fail
  go_cut [3] from 12 to 15 (fun s3 wx => s3 = .pointer (some ⟨w.heap.size + 1, 0, none⟩) ∧ Hid (Sx w ⟨7, ss, sep, pat, tgt, val, md⟩ n c a #[.string ⟨#[100, 114, 111, 112, 110, 97, 109, 101, 115]⟩, .bool false, .bool true, .bool false, .bool false, .bool false] wx))
  case first =>
    go_wp2
    go_meet
    exact ⟨rfl, HX⟩
  case rest =>
  clear HX t0 t1 t2 t3 t4 t5
  obtain ⟨rfl, HX⟩ := hcut
  obtain ⟨b0, b1, b2, b3, b4, b5, b6⟩ := cells7 HX.out.one
  obtain ⟨g0, g1, g2, g3, g4, g5⟩ := cells6 HX.out.two
  clear g0 b0
  by_cases q1 : n = 0
  rotate_left
  · have q1p : 0 < (n : Int) := by omega
    have HK : Hid (goodR ⟨7, ss, sep, pat, tgt, val, md⟩ = false) := good_nokind (by simp only [kindB]; simp; intro h; exact absurd HN.out (by simp only [h]; simp; omega))
    go_wp2
    go_ret
    exact ⟨ret_bool HK.out.symm, HX.out.bel⟩
  subst q1
  obtain rfl : ss = [] := List.length_eq_zero_iff.1 HN.out
  by_cases q2 : sep.toList.isEmpty = true
  rotate_left
  · have q2' : sep.toList.isEmpty = false := by simpa using q2
    have HE : Hid (em sep = false) := q2'
    clear q2
    have HK : Hid (goodR ⟨7, [], sep, pat, tgt, val, md⟩ = false) := good_nokind (by simp [kindB, HE.out])
    go_wp2
    go_ret
    exact ⟨ret_bool HK.out.symm, HX.out.bel⟩
  have q2E : Hid (em sep = true) := q2
  by_cases q5 : val.toList.isEmpty = true
  rotate_left
  · have q5' : val.toList.isEmpty = false := by simpa using q5
    have HE : Hid (em val = false) := q5'
    clear q5
    have HK : Hid (goodR ⟨7, [], sep, pat, tgt, val, md⟩ = false) := good_nokind (by simp [kindB, HE.out])
    go_wp2
    go_ret
    exact ⟨ret_bool HK.out.symm, HX.out.bel⟩
  have q5E : Hid (em val = true) := q5
  by_cases q4 : tgt.toList.isEmpty = true
  rotate_left
  · have q4' : tgt.toList.isEmpty = false := by simpa using q4
    have HE : Hid (em tgt = false) := q4'
    clear q4
    have HK : Hid (goodR ⟨7, [], sep, pat, tgt, val, md⟩ = false) := good_nokind (by simp [kindB, HE.out])
    go_wp2
    go_ret
    exact ⟨ret_bool HK.out.symm, HX.out.bel⟩
  have q4E : Hid (em tgt = true) := q4
  by_cases q8 : md = 0
  rotate_left
  · have HK : Hid (goodR ⟨7, [], sep, pat, tgt, val, md⟩ = false) := good_nokind (by simp [kindB, q8])
    have q8' : (md == 0) = false := by simp [q8]
    clear q8
    go_wp2
    go_ret
    exact ⟨ret_bool HK.out.symm, HX.out.bel⟩
  have HG := hid (good_fin (r := ⟨7, [], sep, pat, tgt, val, md⟩) (by simp) (by simp only; rw [em_fil q5E.out]; simp [kindB, q8, q2E.out, q5E.out, q4E.out]))
  simp only at HG
  subst q8
  by_cases p1 : srcB [] sep = true
  rotate_left
  · have p1' : srcB [] sep = false := by simpa using p1
    have P1 := hid p1'
    clear p1
    go_wp2_with (first | (go_at_call 80; refine (f80 a 0 c [] sep _ HN.out hnb z3 HZ.out HX.out.txt).mono ?_; rintro e w' ⟨rfl, hw'⟩; have hw2 := hw'.symm; clear hw'; subst hw2))
    go_ret
    exact ⟨ret_bool (by rw [HG.out, P1.out]; rfl), HX.out.bel⟩
  have P1 := hid p1
  by_cases p2 : Pat.patB pat = true
  rotate_left
  · have p2' : Pat.patB pat = false := by simpa using p2
    have P2 := hid p2'
    clear p2
    go_wp2_with (first | (go_at_call 80; refine (f80 a 0 c [] sep _ HN.out hnb z3 HZ.out HX.out.txt).mono ?_; rintro e w' ⟨rfl, hw'⟩; have hw2 := hw'.symm; clear hw'; subst hw2) | (go_at_call 81; refine (Pat.f81 pat _ (by unfold maxLen; omega)).mono ?_; rintro e w2 ⟨rfl, hb2⟩; have HX2 := hid (HX.out.below hb2); clear hb2; obtain ⟨y0, y1, y2, y3, y4, y5, y6⟩ := cells7 HX2.out.one; clear y0 y1 y2 y3 y4 y6) | (go_at_call 82; refine (f82 val _ (by unfold maxLen; omega)).mono ?_; rintro e w' ⟨rfl, hw'⟩; have hw2 := hw'.symm; clear hw'; subst hw2))
    go_ret
    exact ⟨ret_bool (by rw [HG.out, P1.out, P2.out]; rfl), HX2.out.bel⟩
  have P2 := hid p2
  go_wp2_with (first | (go_at_call 80; refine (f80 a 0 c [] sep _ HN.out hnb z3 HZ.out HX.out.txt).mono ?_; rintro e w' ⟨rfl, hw'⟩; have hw2 := hw'.symm; clear hw'; subst hw2) | (go_at_call 81; refine (Pat.f81 pat _ (by unfold maxLen; omega)).mono ?_; rintro e w2 ⟨rfl, hb2⟩; have HX2 := hid (HX.out.below hb2); clear hb2; obtain ⟨y0, y1, y2, y3, y4, y5, y6⟩ := cells7 HX2.out.one; clear y0 y1 y2 y3 y4 y6) | (go_at_call 82; refine (f82 val _ (by unfold maxLen; omega)).mono ?_; rintro e w' ⟨rfl, hw'⟩; have hw2 := hw'.symm; clear hw'; subst hw2))
  go_ret
  exact ⟨ret_bool (by rw [HG.out, P1.out, P2.out]; rfl), HX2.out.bel⟩

set_option maxHeartbeats 4000000 in
theorem f8_8 (ss : List ByteArray) (sep pat tgt val : ByteArray) (md : Int) (a : Option Addr) (n c : Nat) (w : World) (hn : ss.length = n) (hr : HasT w a ss) (hz : SmlR ⟨8, ss, sep, pat, tgt, val, md⟩) (ht : Tab w) (hm0 : -9223372036854775808 ≤ md) (hm1 : md ≤ 9223372036854775807) :
    Calls Tryz.prog 57 #[agR ⟨8, ss, sep, pat, tgt, val, md⟩ a n c] w fun e w' => e = .returned (.bool (goodR ⟨8, ss, sep, pat, tgt, val, md⟩)) ∧ Below w.heap.size w w' := by
  obtain ⟨z1, z2, z3, z4, z5, z6⟩ := hz
  simp only at z1 z2 z3 z4 z5 z6
  have HN := hid hn
  have HZ : Hid (∀ i, i < n → (ss.getD i ByteArray.empty).size ≤ 1048576) := by rw [← hn]; exact z2
  have HX : Hid (Sx w ⟨8, ss, sep, pat, tgt, val, md⟩ n c a #[.string ⟨#[108, 111, 119, 101, 114]⟩, .bool true, .bool false, .bool true, .bool false, .bool false] _) := Sx.new _ hr
  have hnb : n ≤ 1048576 := by rw [← hn]; exact z1
  have h0 := ht.1
  have hbx := (Below.refl w.heap.size w).alloc (Nat.le_refl _) (.cells #[.int .i64 8, .slice a n c, .string sep, .string pat, .string tgt, .string val, .int .i64 md] 63)
  have htx := ht.below hbx
  have t0 : (w.alloc (.cells #[.int .i64 8, .slice a n c, .string sep, .string pat, .string tgt, .string val, .int .i64 md] 63)).cell? ⟨0, 48, none⟩ = some (.string ⟨#[108, 111, 119, 101, 114]⟩) := htx.2 48 (by omega)
  have t1 : (w.alloc (.cells #[.int .i64 8, .slice a n c, .string sep, .string pat, .string tgt, .string val, .int .i64 md] 63)).cell? ⟨0, 49, none⟩ = some (.bool true) := htx.2 49 (by omega)
  have t2 : (w.alloc (.cells #[.int .i64 8, .slice a n c, .string sep, .string pat, .string tgt, .string val, .int .i64 md] 63)).cell? ⟨0, 50, none⟩ = some (.bool false) := htx.2 50 (by omega)
  have t3 : (w.alloc (.cells #[.int .i64 8, .slice a n c, .string sep, .string pat, .string tgt, .string val, .int .i64 md] 63)).cell? ⟨0, 51, none⟩ = some (.bool true) := htx.2 51 (by omega)
  have t4 : (w.alloc (.cells #[.int .i64 8, .slice a n c, .string sep, .string pat, .string tgt, .string val, .int .i64 md] 63)).cell? ⟨0, 52, none⟩ = some (.bool false) := htx.2 52 (by omega)
  have t5 : (w.alloc (.cells #[.int .i64 8, .slice a n c, .string sep, .string pat, .string tgt, .string val, .int .i64 md] 63)).cell? ⟨0, 53, none⟩ = some (.bool false) := htx.2 53 (by omega)
  clear hn hr z1 z2 hbx htx ht
  simp only [agR]
  go_enter Tryz.func57, Tryz.ntmps57
  go_upto_region 3 with fail
  go_cut [3] from 12 to 15 (fun s3 wx => s3 = .pointer (some ⟨w.heap.size + 1, 0, none⟩) ∧ Hid (Sx w ⟨8, ss, sep, pat, tgt, val, md⟩ n c a #[.string ⟨#[108, 111, 119, 101, 114]⟩, .bool true, .bool false, .bool true, .bool false, .bool false] wx))
  case first =>
    go_wp2
    go_meet
    exact ⟨rfl, HX⟩
  case rest =>
  clear HX t0 t1 t2 t3 t4 t5
  obtain ⟨rfl, HX⟩ := hcut
  obtain ⟨b0, b1, b2, b3, b4, b5, b6⟩ := cells7 HX.out.one
  obtain ⟨g0, g1, g2, g3, g4, g5⟩ := cells6 HX.out.two
  clear g0 b0
  by_cases q3 : pat.toList.isEmpty = true
  rotate_left
  · have q3' : pat.toList.isEmpty = false := by simpa using q3
    have HE : Hid (em pat = false) := q3'
    clear q3
    have HK : Hid (goodR ⟨8, ss, sep, pat, tgt, val, md⟩ = false) := good_nokind (by simp [kindB, HE.out])
    go_wp2
    go_ret
    exact ⟨ret_bool HK.out.symm, HX.out.bel⟩
  have q3E : Hid (em pat = true) := q3
  by_cases q5 : val.toList.isEmpty = true
  rotate_left
  · have q5' : val.toList.isEmpty = false := by simpa using q5
    have HE : Hid (em val = false) := q5'
    clear q5
    have HK : Hid (goodR ⟨8, ss, sep, pat, tgt, val, md⟩ = false) := good_nokind (by simp [kindB, HE.out])
    go_wp2
    go_ret
    exact ⟨ret_bool HK.out.symm, HX.out.bel⟩
  have q5E : Hid (em val = true) := q5
  by_cases q6 : nm tgt = true
  rotate_left
  · have q6' : nm tgt = false := by simpa using q6
    have HE : Hid (nm tgt = false) := q6'
    clear q6
    unfold nm at q6'
    have HK : Hid (goodR ⟨8, ss, sep, pat, tgt, val, md⟩ = false) := good_nokind (by simp [kindB, HE.out])
    go_wp2_with (first | (go_at_call 40; refine (Pat.f40 tgt _ (by unfold maxLen; omega)).mono ?_; rintro e w' ⟨rfl, hw'⟩; have hw2 := hw'.symm; clear hw'; subst hw2))
    go_ret
    exact ⟨ret_bool HK.out.symm, HX.out.bel⟩
  have q6E : Hid (nm tgt = true) := q6
  unfold nm at q6
  by_cases q8 : md = 0
  rotate_left
  · have HK : Hid (goodR ⟨8, ss, sep, pat, tgt, val, md⟩ = false) := good_nokind (by simp [kindB, q8])
    have q8' : (md == 0) = false := by simp [q8]
    clear q8
    go_wp2_with (first | (go_at_call 40; refine (Pat.f40 tgt _ (by unfold maxLen; omega)).mono ?_; rintro e w' ⟨rfl, hw'⟩; have hw2 := hw'.symm; clear hw'; subst hw2))
    go_ret
    exact ⟨ret_bool HK.out.symm, HX.out.bel⟩
  have HG := hid (good_fin (r := ⟨8, ss, sep, pat, tgt, val, md⟩) (by simp) (by simp only; rw [em_fil q5E.out]; simp [kindB, q8, q3E.out, q5E.out, q6E.out]))
  simp only at HG
  subst q8
  by_cases p1 : srcB ss sep = true
  rotate_left
  · have p1' : srcB ss sep = false := by simpa using p1
    have P1 := hid p1'
    clear p1
    go_wp2_with (first | (go_at_call 40; refine (Pat.f40 tgt _ (by unfold maxLen; omega)).mono ?_; rintro e w' ⟨rfl, hw'⟩; have hw2 := hw'.symm; clear hw'; subst hw2) | (go_at_call 80; refine (f80 a n c ss sep _ HN.out hnb z3 HZ.out HX.out.txt).mono ?_; rintro e w' ⟨rfl, hw'⟩; have hw2 := hw'.symm; clear hw'; subst hw2))
    go_ret
    exact ⟨ret_bool (by rw [HG.out, P1.out]; rfl), HX.out.bel⟩
  have P1 := hid p1
  by_cases p2 : Pat.patB pat = true
  rotate_left
  · have p2' : Pat.patB pat = false := by simpa using p2
    have P2 := hid p2'
    clear p2
    go_wp2_with (first | (go_at_call 40; refine (Pat.f40 tgt _ (by unfold maxLen; omega)).mono ?_; rintro e w' ⟨rfl, hw'⟩; have hw2 := hw'.symm; clear hw'; subst hw2) | (go_at_call 80; refine (f80 a n c ss sep _ HN.out hnb z3 HZ.out HX.out.txt).mono ?_; rintro e w' ⟨rfl, hw'⟩; have hw2 := hw'.symm; clear hw'; subst hw2) | (go_at_call 81; refine (Pat.f81 pat _ (by unfold maxLen; omega)).mono ?_; rintro e w2 ⟨rfl, hb2⟩; have HX2 := hid (HX.out.below hb2); clear hb2; obtain ⟨y0, y1, y2, y3, y4, y5, y6⟩ := cells7 HX2.out.one; clear y0 y1 y2 y3 y4 y6) | (go_at_call 82; refine (f82 val _ (by unfold maxLen; omega)).mono ?_; rintro e w' ⟨rfl, hw'⟩; have hw2 := hw'.symm; clear hw'; subst hw2))
    go_ret
    exact ⟨ret_bool (by rw [HG.out, P1.out, P2.out]; rfl), HX2.out.bel⟩
  have P2 := hid p2
  go_wp2_with (first | (go_at_call 40; refine (Pat.f40 tgt _ (by unfold maxLen; omega)).mono ?_; rintro e w' ⟨rfl, hw'⟩; have hw2 := hw'.symm; clear hw'; subst hw2) | (go_at_call 80; refine (f80 a n c ss sep _ HN.out hnb z3 HZ.out HX.out.txt).mono ?_; rintro e w' ⟨rfl, hw'⟩; have hw2 := hw'.symm; clear hw'; subst hw2) | (go_at_call 81; refine (Pat.f81 pat _ (by unfold maxLen; omega)).mono ?_; rintro e w2 ⟨rfl, hb2⟩; have HX2 := hid (HX.out.below hb2); clear hb2; obtain ⟨y0, y1, y2, y3, y4, y5, y6⟩ := cells7 HX2.out.one; clear y0 y1 y2 y3 y4 y6) | (go_at_call 82; refine (f82 val _ (by unfold maxLen; omega)).mono ?_; rintro e w' ⟨rfl, hw'⟩; have hw2 := hw'.symm; clear hw'; subst hw2))
  go_ret
  exact ⟨ret_bool (by rw [HG.out, P1.out, P2.out]; rfl), HX2.out.bel⟩
end Go.Proofs.YtcknlidbjnmbjaaGreatDoor.Rel
