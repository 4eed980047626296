/- What a row of its kind has (num range). -/
import Derived.Test.YtbdlahhejfamhaaGreatDoorRA8
namespace Go.Proofs.YtbdlahhejfamhaaGreatDoor.Qry
open Go.RowKit
open Go.Proofs.YtbdlahhejfamhaaGreatDoor.Pat (ret_bool)

set_option maxHeartbeats 8000000 in
set_option maxRecDepth 100000 in
theorem told_num (q : R) (w : World) : Calls Tryz.prog 104 #[vnumNode q] w fun e w' => e = .returned (agR (tq1 q)) ∧ Below w.heap.size w w' := by
  have tnum := ty_num_num
  have trange := ty_num_range
  have hbq := bdq_num q
  have HZ := hid (heap_alloc_new w Z15)
  have HB0 := hid ((Below.refl w.heap.size w).alloc (Nat.le_refl _) Z15)
  have hmr := mr_num q
  have hfd := fdq_num q
  go_enter Tryz.func104, Tryz.ntmps104
  go_wp2_with (first | (go_at_call 212; refine (f212 q _).mono ?_; rintro e w1 ⟨rfl, hb1⟩; have hz1 := kept HZ.out hb1; have hbw := HB0.out.trans (hb1.mono HB0.out.size); obtain ⟨z0, z1, z2, z3, z4, z5, z6, z7, z8, z9, z10, z11, z12, z13, z14⟩ := fifteen hz1; have f0 := fifteen_frz (o := 0) hz1; have f1 := fifteen_frz (o := 1) hz1; have f2 := fifteen_frz (o := 2) hz1; have f3 := fifteen_frz (o := 3) hz1; have f4 := fifteen_frz (o := 4) hz1; have f5 := fifteen_frz (o := 5) hz1; have f6 := fifteen_frz (o := 6) hz1; have f7 := fifteen_frz (o := 7) hz1; have f8 := fifteen_frz (o := 8) hz1; have f9 := fifteen_frz (o := 9) hz1; have f10 := fifteen_frz (o := 10) hz1; have f11 := fifteen_frz (o := 11) hz1; have f12 := fifteen_frz (o := 12) hz1; have f13 := fifteen_frz (o := 13) hz1; have f14 := fifteen_frz (o := 14) hz1; obtain ⟨y0, y1, y2, y3, y4, y5, y6, y7, y8, y9, y10, y11, y12, y13, y14⟩ := fifteen (set15 hz1 (.int .i64 0) (.int .i64 q.nu) (.int .i64 0) (.string ⟨#[]⟩) (.int .i64 0) (.slice none 0 0) (.int .i64 0) (.bool false) (.int .i64 0) (.bool false) (.int .i64 0) (.slice none 0 0) (.int .i64 0) (.slice none 0 0) (.int .i64 0)); have HBP := hid (below15 hbw (Nat.le_refl _) (.int .i64 0) (.int .i64 q.nu) (.int .i64 0) (.string ⟨#[]⟩) (.int .i64 0) (.slice none 0 0) (.int .i64 0) (.bool false) (.int .i64 0) (.bool false) (.int .i64 0) (.slice none 0 0) (.int .i64 0) (.slice none 0 0) (.int .i64 0)); clear hb1 hz1 hbw))
  (try simp only [Exit.inBlock, Exit.then])
  refine bodyPost_ret (v := agR (tq1 q)) (by simp [results, Tryz.results104, go_sem, tq1, y0, y1, y2, y3, y4, y5, y6, y7, y8, y9, y10, y11, y12, y13, y14]) rfl ⟨rfl, HBP.out⟩

set_option maxHeartbeats 8000000 in
set_option maxRecDepth 100000 in
theorem told_range (q : R) (p : R) (w : World) : Calls Tryz.prog 104 #[vrangeNode q p] w fun e w' => e = .returned (agR (tq4 q)) ∧ Below w.heap.size w w' := by
  have tnum := ty_range_num
  have trange := ty_range_range
  have hbq := bdq_range q
  have HZ := hid (heap_alloc_new w Z15)
  have HB0 := hid ((Below.refl w.heap.size w).alloc (Nat.le_refl _) Z15)
  have hmr := mr_range q p
  have hfd := fdq_range q
  go_enter Tryz.func104, Tryz.ntmps104
  go_wp2_with (first | (go_at_call 212; refine (f212 q _).mono ?_; rintro e w1 ⟨rfl, hb1⟩; have hz1 := kept HZ.out hb1; have hbw := HB0.out.trans (hb1.mono HB0.out.size); obtain ⟨z0, z1, z2, z3, z4, z5, z6, z7, z8, z9, z10, z11, z12, z13, z14⟩ := fifteen hz1; have f0 := fifteen_frz (o := 0) hz1; have f1 := fifteen_frz (o := 1) hz1; have f2 := fifteen_frz (o := 2) hz1; have f3 := fifteen_frz (o := 3) hz1; have f4 := fifteen_frz (o := 4) hz1; have f5 := fifteen_frz (o := 5) hz1; have f6 := fifteen_frz (o := 6) hz1; have f7 := fifteen_frz (o := 7) hz1; have f8 := fifteen_frz (o := 8) hz1; have f9 := fifteen_frz (o := 9) hz1; have f10 := fifteen_frz (o := 10) hz1; have f11 := fifteen_frz (o := 11) hz1; have f12 := fifteen_frz (o := 12) hz1; have f13 := fifteen_frz (o := 13) hz1; have f14 := fifteen_frz (o := 14) hz1; obtain ⟨y0, y1, y2, y3, y4, y5, y6, y7, y8, y9, y10, y11, y12, y13, y14⟩ := fifteen (set15 hz1 (.int .i64 0) (.int .i64 q.nu) (.int .i64 0) (.string ⟨#[]⟩) (.int .i64 0) (.slice none 0 0) (.int .i64 0) (.bool false) (.int .i64 0) (.bool false) (.int .i64 0) (.slice none 0 0) (.int .i64 0) (.slice none 0 0) (.int .i64 0)); have HBP := hid (below15 hbw (Nat.le_refl _) (.int .i64 0) (.int .i64 q.nu) (.int .i64 0) (.string ⟨#[]⟩) (.int .i64 0) (.slice none 0 0) (.int .i64 0) (.bool false) (.int .i64 0) (.bool false) (.int .i64 0) (.slice none 0 0) (.int .i64 0) (.slice none 0 0) (.int .i64 0)); clear hb1 hz1 hbw))
  (try simp only [Exit.inBlock, Exit.then])
  refine bodyPost_ret (v := agR (tq4 q)) (by simp [results, Tryz.results104, go_sem, tq4, y0, y1, y2, y3, y4, y5, y6, y7, y8, y9, y10, y11, y12, y13, y14]) rfl ⟨rfl, HBP.out⟩
end Go.Proofs.YtbdlahhejfamhaaGreatDoor.Qry
/- What a row of its kind has (text call). -/
namespace Go.Proofs.YtbdlahhejfamhaaGreatDoor.Qry
open Go.RowKit
open Go.Proofs.YtbdlahhejfamhaaGreatDoor.Pat (ret_bool)

set_option maxHeartbeats 8000000 in
set_option maxRecDepth 100000 in
theorem told_text (q : R) (w : World) : Calls Tryz.prog 104 #[vtextNode q] w fun e w' => e = .returned (agR (tq2 q)) ∧ Below w.heap.size w w' := by
  have tnum := ty_text_num
  have trange := ty_text_range
  have ttext := ty_text_text
  have tcall := ty_text_call
  have hbq := bdq_text q
  have HZ := hid (heap_alloc_new w Z15)
  have HB0 := hid ((Below.refl w.heap.size w).alloc (Nat.le_refl _) Z15)
  have hmr := mr_text q
  have hfd := fdq_text q
  go_enter Tryz.func104, Tryz.ntmps104
  go_wp2_with (first | (go_at_call 212; refine (f212 q _).mono ?_; rintro e w1 ⟨rfl, hb1⟩; have hz1 := kept HZ.out hb1; have hbw := HB0.out.trans (hb1.mono HB0.out.size); obtain ⟨z0, z1, z2, z3, z4, z5, z6, z7, z8, z9, z10, z11, z12, z13, z14⟩ := fifteen hz1; have f0 := fifteen_frz (o := 0) hz1; have f1 := fifteen_frz (o := 1) hz1; have f2 := fifteen_frz (o := 2) hz1; have f3 := fifteen_frz (o := 3) hz1; have f4 := fifteen_frz (o := 4) hz1; have f5 := fifteen_frz (o := 5) hz1; have f6 := fifteen_frz (o := 6) hz1; have f7 := fifteen_frz (o := 7) hz1; have f8 := fifteen_frz (o := 8) hz1; have f9 := fifteen_frz (o := 9) hz1; have f10 := fifteen_frz (o := 10) hz1; have f11 := fifteen_frz (o := 11) hz1; have f12 := fifteen_frz (o := 12) hz1; have f13 := fifteen_frz (o := 13) hz1; have f14 := fifteen_frz (o := 14) hz1; obtain ⟨y0, y1, y2, y3, y4, y5, y6, y7, y8, y9, y10, y11, y12, y13, y14⟩ := fifteen (set15 hz1 (.int .i64 0) (.int .i64 0) (.int .i64 0) (.string q.tx) (.int .i64 0) (.slice none 0 0) (.int .i64 0) (.bool false) (.int .i64 0) (.bool false) (.int .i64 0) (.slice none 0 0) (.int .i64 0) (.slice none 0 0) (.int .i64 0)); have HBP := hid (below15 hbw (Nat.le_refl _) (.int .i64 0) (.int .i64 0) (.int .i64 0) (.string q.tx) (.int .i64 0) (.slice none 0 0) (.int .i64 0) (.bool false) (.int .i64 0) (.bool false) (.int .i64 0) (.slice none 0 0) (.int .i64 0) (.slice none 0 0) (.int .i64 0)); clear hb1 hz1 hbw))
  (try simp only [Exit.inBlock, Exit.then])
  refine bodyPost_ret (v := agR (tq2 q)) (by simp [results, Tryz.results104, go_sem, tq2, y0, y1, y2, y3, y4, y5, y6, y7, y8, y9, y10, y11, y12, y13, y14]) rfl ⟨rfl, HBP.out⟩

set_option maxHeartbeats 8000000 in
set_option maxRecDepth 100000 in
theorem told_call (q : R) (a : Option Addr) (n c : Nat) (w : World) : Calls Tryz.prog 104 #[vcallNode q a n c] w fun e w' => e = .returned (agR (tq9 q)) ∧ Below w.heap.size w w' := by
  have tnum := ty_call_num
  have trange := ty_call_range
  have ttext := ty_call_text
  have tcall := ty_call_call
  have hbq := bdq_call q
  have HZ := hid (heap_alloc_new w Z15)
  have HB0 := hid ((Below.refl w.heap.size w).alloc (Nat.le_refl _) Z15)
  have hmr := mr_call q a n c
  have hfd := fdq_call q
  go_enter Tryz.func104, Tryz.ntmps104
  go_wp2_with (first | (go_at_call 212; refine (f212 q _).mono ?_; rintro e w1 ⟨rfl, hb1⟩; have hz1 := kept HZ.out hb1; have hbw := HB0.out.trans (hb1.mono HB0.out.size); obtain ⟨z0, z1, z2, z3, z4, z5, z6, z7, z8, z9, z10, z11, z12, z13, z14⟩ := fifteen hz1; have f0 := fifteen_frz (o := 0) hz1; have f1 := fifteen_frz (o := 1) hz1; have f2 := fifteen_frz (o := 2) hz1; have f3 := fifteen_frz (o := 3) hz1; have f4 := fifteen_frz (o := 4) hz1; have f5 := fifteen_frz (o := 5) hz1; have f6 := fifteen_frz (o := 6) hz1; have f7 := fifteen_frz (o := 7) hz1; have f8 := fifteen_frz (o := 8) hz1; have f9 := fifteen_frz (o := 9) hz1; have f10 := fifteen_frz (o := 10) hz1; have f11 := fifteen_frz (o := 11) hz1; have f12 := fifteen_frz (o := 12) hz1; have f13 := fifteen_frz (o := 13) hz1; have f14 := fifteen_frz (o := 14) hz1; obtain ⟨y0, y1, y2, y3, y4, y5, y6, y7, y8, y9, y10, y11, y12, y13, y14⟩ := fifteen (set15 hz1 (.int .i64 0) (.int .i64 0) (.int .i64 0) (.string q.tx) (.int .i64 0) (.slice none 0 0) (.int .i64 0) (.bool false) (.int .i64 0) (.bool false) (.int .i64 0) (.slice none 0 0) (.int .i64 0) (.slice none 0 0) (.int .i64 0)); have HBP := hid (below15 hbw (Nat.le_refl _) (.int .i64 0) (.int .i64 0) (.int .i64 0) (.string q.tx) (.int .i64 0) (.slice none 0 0) (.int .i64 0) (.bool false) (.int .i64 0) (.bool false) (.int .i64 0) (.slice none 0 0) (.int .i64 0) (.slice none 0 0) (.int .i64 0)); clear hb1 hz1 hbw))
  (try simp only [Exit.inBlock, Exit.then])
  refine bodyPost_ret (v := agR (tq9 q)) (by simp [results, Tryz.results104, go_sem, tq9, y0, y1, y2, y3, y4, y5, y6, y7, y8, y9, y10, y11, y12, y13, y14]) rfl ⟨rfl, HBP.out⟩
end Go.Proofs.YtbdlahhejfamhaaGreatDoor.Qry
