/- The walk of FnExactAppendChunk. -/
import Derived.Test.YteblbcbfaomdmaaDoorZh
import Derived.Test.YteblbcbfaomdmaaDoorMark
namespace Go.Proofs.YteblbcbfaomdmaaDoor.Chk
open Go.RowKit Go.Proofs.YteblbcbfaomdmaaDoor.Bts
open Go.Proofs.YteblbcbfaomdmaaDoor.Smp hiding hid ret_int below_drewN

abbrev S4c (B : Nat) (a : Option Addr) (n c : Nat) (s t v : Int) (w' : World) : Prop :=
  w'.cell? ⟨B, 0, none⟩ = some (.slice a n c) ∧ w'.cell? ⟨B, 1, none⟩ = some (.int .i64 s) ∧ w'.cell? ⟨B + 1, 0, none⟩ = some (.int .i64 t) ∧ w'.cell? ⟨B + 1, 1, none⟩ = some (.int .i64 v)
theorem s4c_of {B n c : Nat} {a : Option Addr} {s x y : Int} {w' : World} {t t' : TypeId} (h : w'.heap[B]? = some (.cells #[.slice a n c, .int .i64 s] t (0, 0))) (h' : w'.heap[B + 1]? = some (.cells #[.int .i64 x, .int .i64 y] t' (0, 0))) : S4c B a n c s x y w' :=
  ⟨cell_at h 0, cell_at h 1, cell_at h' 0, cell_at h' 1⟩
theorem s4c_b {B n c : Nat} {a : Option Addr} {s x y : Int} {w1 w' : World} {t t' : TypeId} (h : w1.heap[B]? = some (.cells #[.slice a n c, .int .i64 s] t (0, 0))) (h' : w1.heap[B + 1]? = some (.cells #[.int .i64 x, .int .i64 y] t' (0, 0))) (hb : Below w1.heap.size w1 w') : S4c B a n c s x y w' := s4c_of (box_below h hb) (box_below h' hb)
abbrev S4d (X B g n : Nat) (s t v : Int) (w' : World) : Prop :=
  w'.cell? ⟨X, 0, none⟩ = some (.slice (some ⟨g, 0, none⟩) n n) ∧ w'.cell? ⟨X, 1, none⟩ = some (.int .i64 s) ∧ w'.cell? ⟨B + 1, 0, none⟩ = some (.int .i64 t) ∧ w'.cell? ⟨B + 1, 1, none⟩ = some (.int .i64 v)
theorem s4d_of {X B n g : Nat} {s x y : Int} {w' : World} {t t' : TypeId} (h : w'.heap[X]? = some (.cells #[.slice (some ⟨g, 0, none⟩) n n, .int .i64 s] t (0, 0))) (h' : w'.heap[B + 1]? = some (.cells #[.int .i64 x, .int .i64 y] t' (0, 0))) : S4d X B g n s x y w' :=
  ⟨cell_at h 0, cell_at h 1, cell_at h' 0, cell_at h' 1⟩
theorem s4d_b {X B n g : Nat} {s x y : Int} {w1 w' : World} {t t' : TypeId} (h : w1.heap[X]? = some (.cells #[.slice (some ⟨g, 0, none⟩) n n, .int .i64 s] t (0, 0))) (h' : w1.heap[B + 1]? = some (.cells #[.int .i64 x, .int .i64 y] t' (0, 0))) (hb : Below w1.heap.size w1 w') : S4d X B g n s x y w' := s4d_of (box_below h hb) (box_below h' hb)
/-- Bits that a call gave, in their box at X: all of it made behind w1. -/
structure App (w1 : World) (X : Nat) (a : Option Addr) (n c : Nat) (p : Bt) (wx : World) : Prop where
  bel : Below w1.heap.size w1 wx
  x : wx.heap[X]? = some (.cells #[.slice a n c, .int .i64 (p.2 : Int)] 26 (0, 0))
  lo : w1.heap.size ≤ X
  row : wx.ownsRow w1.heap.size 5 1 (.slice a n c) n (p.1.map (Value.int .u8))
theorem app_new {w1 W : World} {a : Option Addr} {n c : Nat} {p : Bt} (hb : Below w1.heap.size w1 W) (ho : W.ownsRow w1.heap.size 5 1 (.slice a n c) n (p.1.map (Value.int .u8))) :
    App w1 W.heap.size a n c p (W.alloc (.cells #[.slice a n c, .int .i64 (p.2 : Int)] 26)) :=
  ⟨hb.trans (((Below.refl _ W).alloc (Nat.le_refl _) _).mono hb.size), heap_alloc_new W _, hb.size, own_below ho ((Below.refl _ W).alloc (Nat.le_refl _) _)⟩
theorem app_set {w1 W : World} {X : Nat} {a : Option Addr} {n c : Nat} {p : Bt} {u0 u1 : Value} (hX : W.heap[X]? = some (.cells #[u0, u1] 26 (0, 0))) (hR : w1.heap.size ≤ X) (hb : Below w1.heap.size w1 W) (ho : W.ownsRow w1.heap.size 5 1 (.slice a n c) n (p.1.map (Value.int .u8))) :
    App w1 X a n c p ((W.setCell ⟨X, 0, none⟩ (.slice a n c)).setCell ⟨X, 1, none⟩ (.int .i64 (p.2 : Int))) := by
  obtain ⟨z1, z2, z3⟩ := fin2 (sz := .int .i64 (p.2 : Int)) hX (by decide) hR hb ho
  exact ⟨z3, z1, hR, z2⟩

set_option maxRecDepth 100000 in
set_option maxHeartbeats 8000000 in
theorem walkAppend (a : Option Addr) (n c : Nat) (s t v : Int) (zs : List Int) (w : World) (hn : zs.length = n) (hlen : n ≤ 9223372036854775807) (h255 : ∀ j, 0 ≤ zs.getD j 0 ∧ zs.getD j 0 ≤ 255) (hr : Byt.Has w a zs) (hc : Cls w) (ht : Tab w) :
    Calls Tryd.prog 6 #[.agg #[.slice a n c, .int .i64 s], .agg #[.int .i64 t, .int .i64 v]] w fun e w' => e = .returned (.bool true) ∧ Below w.heap.size w w' := by
  have hw2 : 2 ≤ w.heap.size := World.block_lt_of_cell? w _ (ht 0 (by decide))
  have hA0 := heap_alloc_new w (.cells #[.slice a n c, .int .i64 s] 46)
  have hA1 := heap_alloc_new (w.alloc (.cells #[.slice a n c, .int .i64 s] 46)) (.cells #[.int .i64 t, .int .i64 v] 50)
  obtain ⟨w0, hw0⟩ : ∃ w0, w0 = (w.alloc (.cells #[.slice a n c, .int .i64 s] 46)).alloc (.cells #[.int .i64 t, .int .i64 v] 50) := ⟨_, rfl⟩
  have HBA : Hid (Below w.heap.size w w0) := by unfold Hid; rw [hw0]; exact ((Below.refl w.heap.size w).alloc (Nat.le_refl _) _).alloc (by simp) _
  have HXA : Hid (w0.heap[w.heap.size]? = some (.cells #[.slice a n c, .int .i64 s] 46 (0, 0))) := by
    unfold Hid; rw [hw0]; exact box_below hA0 ((Below.refl _ _).alloc (Nat.le_refl _) _)
  have HZA : Hid (w0.heap[w.heap.size + 1]? = some (.cells #[.int .i64 t, .int .i64 v] 50 (0, 0))) := by
    unfold Hid; rw [hw0]; rwa [World.size_alloc] at hA1
  have HW0 := hid hw0
  have HR := hid hr
  have HC := hid hc
  have HT := hid ht
  have HN := hid hn
  clear hr hc ht hA0 hA1
  by_cases hbig : n ≤ 1048576
  · have HK : Hid (Dk n zs) := ⟨hn, hbig, h255⟩
    have hif : (if n ≤ 1048576 then 1048576 - (n : Int) else -1) = 1048576 - (n : Int) := if_pos hbig
    have hap := appB_len zs s (t, v)
    obtain ⟨p, hp⟩ : ∃ p, p = appB zs s (t, v) := ⟨_, rfl⟩
    rw [← hp] at hap
    have HM := hid (fun (W : World) (g m : Nat) (hh : Byt.Has W (some ⟨g, 0, none⟩) zs) => f31 (some ⟨g, 0, none⟩) n m s zs t v W HK.out hh)
    have HP := hid (fun (W : World) (g m : Nat) (hh : Byt.Has W (some ⟨g, 0, none⟩) zs) (hb : Below w.heap.size w W) => f15 (some ⟨g, 0, none⟩) n m s zs t v W HK.out hh (HC.out.below hb) (HT.out.bel hb hw2) (Nat.le_trans hw2 hb.size))
    rw [← hp] at HM HP
    clear hn h255 hw0 hp
    go_enter Tryd.func6, Tryd.ntmps6
    go_wp2_with fail
    rw [← HW0.out]
    refine (f27 a n c s _ hlen).mono ?_
    rw [hif]
    rintro e w1 ⟨rfl, hb1⟩
    have HX1 := hid (box_below HXA.out hb1)
    have HZ1 := hid (box_below HZA.out hb1)
    have HB1 := hid (HBA.out.trans (hb1.mono HBA.out.size))
    clear hb1 hif HW0 HXA HZA HBA
    have HS1 := hid (s4c_of HX1.out HZ1.out)
    -- the model
    go_upto_region 5 with fail
    go_cut [6] from 18 to 22 (fun s6 wx => ∃ X va vn vc, s6 = .pointer (some ⟨X, 0, none⟩) ∧ Hid (App w1 X va vn vc p wx))
    case first =>
      go_wp2_with fail
      go_region_held3 (fun w' => S4c w.heap.size a n c s t v w') (first | exact HS1.out | assumption | exact s4c_b HX1.out HZ1.out ((Below.refl _ w1).alloc (Nat.le_refl _) _) | exact s4c_b HX1.out HZ1.out ((Below.refl _ w1).alloc (Nat.le_refl _) _).drew | exact s4c_b HX1.out HZ1.out (hbW.alloc hbW.size _) | exact s4c_b HX1.out HZ1.out (hb13.alloc hb13.size _) | exact s4c_b HX1.out HZ1.out (hb14.alloc hb14.size _) | exact s4c_b HX1.out HZ1.out (hb14.setCell (p := ⟨_, 0, none⟩) hXl _) | exact s4c_b HX1.out HZ1.out ((hb14.setCell (p := ⟨_, 0, none⟩) hXl _).setCell (p := ⟨_, 1, none⟩) hXl _)) (first | (go_at_call 29; refine (f29 a n c s zs (World.drew _) HN.out (by omega) (HR.out.below HB1.out.drew)).mono ?_; rintro e w2 ⟨g2, rfl, _, ho2, hb2⟩; have hbW : Below w1.heap.size w1 w2 := Bts.below_drew hb2; have hs2 := s4c_b HX1.out HZ1.out hbW) | (go_at_call 29; refine (f29 a n c s zs (World.drew _) HN.out (by omega) (HR.out.below (HB1.out.alloc HB1.out.size (.cells #[.slice none 0 0, .int .i64 0] 26)).drew)).mono ?_; rintro e w2 ⟨g2, rfl, _, ho2, hb2⟩; have hbA := (Below.refl _ w1).alloc (Nat.le_refl _) (.cells #[.slice none 0 0, .int .i64 0] 26); have hbW : Below w1.heap.size w1 w2 := hbA.trans ((Bts.below_drew hb2).mono hbA.size); have hs2 := s4c_b HX1.out HZ1.out hbW; have hX2 := box_below (heap_alloc_new w1 (.cells #[.slice none 0 0, .int .i64 0] 26)) (Bts.below_drew hb2)) | (go_at_call 32; refine (f32 t v w2).mono ?_; rintro e w3 ⟨rfl, hb3⟩; have hb13 : Below w1.heap.size w1 w3 := hbW.trans (hb3.mono hbW.size); have hb23 : Below w2.heap.size w2 w3 := hb3; have hs3 := s4c_b HX1.out HZ1.out hb13; try (have hX3 := box_below hX2 hb3; have hXl := Nat.le_refl w1.heap.size)) | (go_at_call 32; refine (f32 t v (w2.alloc (.cells #[.slice none 0 0, .int .i64 0] 26))).mono ?_; rintro e w3 ⟨rfl, hb3⟩; have hal2 := (Below.refl _ w2).alloc (Nat.le_refl _) (.cells #[.slice none 0 0, .int .i64 0] 26); have hb23 : Below w2.heap.size w2 w3 := hal2.trans (hb3.mono hal2.size); have hb13 : Below w1.heap.size w1 w3 := hbW.trans (hb23.mono hbW.size); have hs3 := s4c_b HX1.out HZ1.out hb13; have hX3 := box_below (heap_alloc_new w2 (.cells #[.slice none 0 0, .int .i64 0] 26)) hb3; have hXl := hbW.size) | (go_at_call 31; have hX3' := hX3; refine (HM.out w3 g2 n (Byt.Has.own (own_below ho2 hb23))).mono ?_; rintro e w4 ⟨u, rfl, ho4, hb4⟩; obtain ⟨va, vn, vc, rfl, how⟩ := ho4; have hb14 : Below w1.heap.size w1 w4 := hb13.trans (hb4.mono hb13.size); have hs4 := s4c_b HX1.out HZ1.out hb14; have hXl := hXl; have hX4 := box_below hX3 hb4; have hx0 := cell_at hX4 0; have hx1 := cell_at hX4 1; have hf0 := froz_at hX4 0; have hf1 := froz_at hX4 1; have HAP := hid (app_set hX4 hXl hb14 (own_base how hb13.size))) | (go_at_call 31; refine (HM.out w3 g2 n (Byt.Has.own (own_below ho2 hb23))).mono ?_; rintro e w4 ⟨u, rfl, ho4, hb4⟩; obtain ⟨va, vn, vc, rfl, how⟩ := ho4; have hb14 : Below w1.heap.size w1 w4 := hb13.trans (hb4.mono hb13.size); have hs4 := s4c_b HX1.out HZ1.out hb14; have HAP := hid (app_new hb14 (own_base how hb13.size))) | (go_at_call 31; have hal3 := (Below.refl _ w3).alloc (Nat.le_refl _) (.cells #[.slice none 0 0, .int .i64 0] 26); have hb1A := hb13.alloc hb13.size (.cells #[.slice none 0 0, .int .i64 0] 26); refine (HM.out (w3.alloc (.cells #[.slice none 0 0, .int .i64 0] 26)) g2 n (Byt.Has.own (own_below (own_below ho2 hb23) hal3))).mono ?_; rintro e w4 ⟨u, rfl, ho4, hb4⟩; obtain ⟨va, vn, vc, rfl, how⟩ := ho4; have hb14 : Below w1.heap.size w1 w4 := hb1A.trans (hb4.mono hb1A.size); have hs4 := s4c_b HX1.out HZ1.out hb14; have hXl := hb13.size; have hX4 := box_below (heap_alloc_new w3 (.cells #[.slice none 0 0, .int .i64 0] 26)) hb4; have hx0 := cell_at hX4 0; have hx1 := cell_at hX4 1; have hf0 := froz_at hX4 0; have hf1 := froz_at hX4 1; have HAP := hid (app_set hX4 hXl hb14 (own_base how hb1A.size))))
      all_goals (go_wp2; go_meet; exact ⟨_, _, _, _, rfl, HAP⟩)
    case rest =>
    obtain ⟨xv, va, vn, vc, rfl, HAP⟩ := hcut
    rename World => w5
    have hvn := row_len HAP.out.row
    have HX5 := hid (box_below HX1.out HAP.out.bel)
    have HZ5 := hid (box_below HZ1.out HAP.out.bel)
    have HB5 := hid (HB1.out.trans (HAP.out.bel.mono HB1.out.size))
    have BV5 := hid HAP.out.x
    have V5 := hid HAP.out.row
    have BV : Hid (∀ k, (Value.slice va vn vc).ownBlock = some k → k < w5.heap.size) := fun k hk => (V5.out.lt k hk).2
    have lxv : xv < w5.heap.size := lt_of_block BV5.out
    have l15 : w.heap.size ≤ w5.heap.size := HB5.out.size
    have LB5 : w.heap.size + 1 < w5.heap.size := lt_of_block HZ5.out
    have x0 : w5.cell? ⟨w.heap.size, 0, none⟩ = some (.slice a n c) := cell_at HX5.out 0
    have x1 : w5.cell? ⟨w.heap.size, 1, none⟩ = some (.int .i64 s) := cell_at HX5.out 1
    clear HAP HS1 HX1 HZ1 HB1
    -- the argument
    go_wp2_with fail
    refine (f29 a n c s zs _ HN.out (by omega) (HR.out.below HB5.out)).mono ?_
    rintro e w6' ⟨g6, rfl, hg6, ho6, hb6⟩
    have hg6l : g6 < w6'.heap.size := (ho6.lt g6 rfl).2
    have hal := (Below.refl w6'.heap.size w6').alloc (Nat.le_refl _) (.cells #[.slice (some ⟨g6, 0, none⟩) n n, .int .i64 s] 26)
    obtain ⟨w6, hw6⟩ : ∃ w6, w6 = w6'.alloc (.cells #[.slice (some ⟨g6, 0, none⟩) n n, .int .i64 s] 26) := ⟨_, rfl⟩
    obtain ⟨xx, hxx⟩ : ∃ xx, xx = w6'.heap.size := ⟨_, rfl⟩
    have hb56 : Below w5.heap.size w5 w6 := by rw [hw6]; exact hb6.trans (hal.mono hb6.size)
    have HX6 := hid (box_below HX5.out hb56)
    have HZ6 := hid (box_below HZ5.out hb56)
    have HB6 := hid (HB5.out.trans (hb56.mono HB5.out.size))
    have BV6 := hid (box_below BV5.out hb56)
    have V6 := hid (own_below V5.out hb56)
    have HY6 : Hid (w6.heap[xx]? = some (.cells #[.slice (some ⟨g6, 0, none⟩) n n, .int .i64 s] 26 (0, 0))) := by unfold Hid; rw [hw6, hxx]; exact heap_alloc_new _ _
    have X6 : Hid (w6.ownsRow w5.heap.size 5 1 (.slice (some ⟨g6, 0, none⟩) n n) n (zs.map (Value.int .u8))) := by unfold Hid; rw [hw6]; exact own_below ho6 hal
    have lxx : g6 < xx := by omega
    have lx6 : xx < w6.heap.size := lt_of_block HY6.out
    have l56 : w5.heap.size ≤ w6.heap.size := hb56.size
    have HS6 := hid (s4d_of HY6.out HZ6.out)
    have HW6 := hid hw6
    have HXX := hid hxx
    clear hb6 ho6 hal hb56 hg6l hw6 hxx x0 x1 HX5 HZ5 HB5 BV5 V5
    -- the program
    go_upto_region 7 with fail
    rw [← HW6.out, ← HXX.out]
    clear HW6 HXX
    go_cut [8] from 25 to 28 (fun s8 wx => ∃ X ga gn gc, s8 = .pointer (some ⟨X, 0, none⟩) ∧ Hid (App w6 X ga gn gc p wx))
    case first =>
      go_wp2_with fail
      go_region_held3 (fun w' => S4d xx w.heap.size g6 n s t v w') (first | exact HS6.out | assumption | exact s4d_b HY6.out HZ6.out ((Below.refl _ w6).alloc (Nat.le_refl _) _) | exact s4d_b HY6.out HZ6.out ((Below.refl _ w6).alloc (Nat.le_refl _) _).drew | exact s4d_b HY6.out HZ6.out (hb13.alloc hb13.size _) | exact s4d_b HY6.out HZ6.out (hb14.alloc hb14.size _) | exact s4d_b HY6.out HZ6.out (hb14.setCell (p := ⟨_, 0, none⟩) hXl _) | exact s4d_b HY6.out HZ6.out ((hb14.setCell (p := ⟨_, 0, none⟩) hXl _).setCell (p := ⟨_, 1, none⟩) hXl _)) (first | (go_at_call 32; refine (f32 t v (World.drew _)).mono ?_; rintro e w3 ⟨rfl, hb3⟩; have hb13 : Below w6.heap.size w6 w3 := Bts.below_drew hb3; have hs3 := s4d_b HY6.out HZ6.out hb13) | (go_at_call 32; refine (f32 t v (World.drew _)).mono ?_; rintro e w3 ⟨rfl, hb3⟩; have hbA := (Below.refl _ w6).alloc (Nat.le_refl _) (.cells #[.slice none 0 0, .int .i64 0] 26); have hb13 : Below w6.heap.size w6 w3 := hbA.trans ((Bts.below_drew hb3).mono hbA.size); have hs3 := s4d_b HY6.out HZ6.out hb13; have hX3 := box_below (heap_alloc_new w6 (.cells #[.slice none 0 0, .int .i64 0] 26)) (Bts.below_drew hb3); have hXl := Nat.le_refl w6.heap.size) | (go_at_call 15; have hX3' := hX3; refine (HP.out w3 g6 n (Byt.Has.own (own_below X6.out hb13)) (HB6.out.trans (hb13.mono HB6.out.size))).mono ?_; rintro e w4 ⟨u, rfl, ho4, hb4⟩; obtain ⟨va, vn, vc, rfl, how⟩ := ho4; have hb14 : Below w6.heap.size w6 w4 := hb13.trans (hb4.mono hb13.size); have hs4 := s4d_b HY6.out HZ6.out hb14; have hXl := hXl; have hX4 := box_below hX3 hb4; have hx0 := cell_at hX4 0; have hx1 := cell_at hX4 1; have hf0 := froz_at hX4 0; have hf1 := froz_at hX4 1; have HAP := hid (app_set hX4 hXl hb14 (own_base how hb13.size))) | (go_at_call 15; refine (HP.out w3 g6 n (Byt.Has.own (own_below X6.out hb13)) (HB6.out.trans (hb13.mono HB6.out.size))).mono ?_; rintro e w4 ⟨u, rfl, ho4, hb4⟩; obtain ⟨va, vn, vc, rfl, how⟩ := ho4; have hb14 : Below w6.heap.size w6 w4 := hb13.trans (hb4.mono hb13.size); have hs4 := s4d_b HY6.out HZ6.out hb14; have HAP := hid (app_new hb14 (own_base how hb13.size))) | (go_at_call 15; have hal3 := (Below.refl _ w3).alloc (Nat.le_refl _) (.cells #[.slice none 0 0, .int .i64 0] 26); have hb1A := hb13.alloc hb13.size (.cells #[.slice none 0 0, .int .i64 0] 26); refine (HP.out (w3.alloc (.cells #[.slice none 0 0, .int .i64 0] 26)) g6 n (Byt.Has.own (own_below X6.out hb1A)) (HB6.out.trans (hb1A.mono HB6.out.size))).mono ?_; rintro e w4 ⟨u, rfl, ho4, hb4⟩; obtain ⟨va, vn, vc, rfl, how⟩ := ho4; have hb14 : Below w6.heap.size w6 w4 := hb1A.trans (hb4.mono hb1A.size); have hs4 := s4d_b HY6.out HZ6.out hb14; have hXl := hb13.size; have hX4 := box_below (heap_alloc_new w3 (.cells #[.slice none 0 0, .int .i64 0] 26)) hb4; have hx0 := cell_at hX4 0; have hx1 := cell_at hX4 1; have hf0 := froz_at hX4 0; have hf1 := froz_at hX4 1; have HAP := hid (app_set hX4 hXl hb14 (own_base how hb1A.size))))
      all_goals (go_wp2; go_meet; exact ⟨_, _, _, _, rfl, HAP⟩)
    case rest =>
    obtain ⟨xg, ga, gn, gc, rfl, HAP⟩ := hcut
    rename World => w7
    have hgn := row_len HAP.out.row
    obtain rfl : vn = gn := by omega
    have hb67 := HAP.out.bel
    have HX7 := hid (box_below HX6.out hb67)
    have HZ7 := hid (box_below HZ6.out hb67)
    have HY7 := hid (box_below HY6.out hb67)
    have HB7 := hid (HB6.out.trans (hb67.mono HB6.out.size))
    have BV7 := hid (box_below BV6.out hb67)
    have V7 := hid (own_below V6.out hb67)
    have X7 := hid (own_below X6.out hb67)
    have BG7 := hid HAP.out.x
    have G7 := hid HAP.out.row
    have BG : Hid (∀ k, (Value.slice ga vn gc).ownBlock = some k → w6.heap.size ≤ k ∧ k ≠ xg) := fun k hk => ⟨(G7.out.lt k hk).1, fun e => own_ne' G7.out BG7.out (by decide) (by rw [← e]; exact hk)⟩
    have lxg : w6.heap.size ≤ xg := HAP.out.lo
    have i0 := Smp.two0 BV7.out
    have i1 := Smp.two1 BV7.out
    have j0 := Smp.two0 BG7.out
    have j1 := Smp.two1 BG7.out
    clear HAP hb67 HX6 HZ6 HY6 HB6 BV6 V6 X6 HS6
    go_wp2_with fail
    clear i0 i1 j0 j1
    refine (f22 ga va vn gc vc (p.2 : Int) p.1 _ hgn (by omega) (row_has G7.out) (row_has V7.out)).mono ?_
    rintro e w8 ⟨rfl, hb8⟩
    have HX8 := hid (box_below HX7.out hb8)
    have HZ8 := hid (box_below HZ7.out hb8)
    have HY8 := hid (box_below HY7.out hb8)
    have HB8 := hid (HB7.out.trans (hb8.mono HB7.out.size))
    have BV8 := hid (box_below BV7.out hb8)
    have BG8 := hid (box_below BG7.out hb8)
    have V8 := hid (own_below V7.out hb8)
    have X8 := hid (own_below X7.out hb8)
    have G8 := hid (own_below G7.out hb8)
    clear HX7 HZ7 HY7 HB7 BV7 BG7 V7 X7 G7
    clear hb8
    have HS := hid (s4b_of HX8.out HY8.out)
    -- the argument stays
    go_wp2_with fail
    go_region_held3 (fun w' => S4b w.heap.size xx a n c s g6 w') (first | exact HS.out | assumption) (first | (go_at_call 29; refine (f29 a n c s zs (World.drew _) HN.out (by omega) ((HR.out.below HB8.out).below (Below.refl _ _).drew)).mono ?_; rintro e w8' ⟨g8, rfl, _, ho8, hb8⟩; have hs8 := s4b_of (box_below (w := World.drew _) HX8.out hb8) (box_below (w := World.drew _) HY8.out hb8)) | (go_at_call 22; refine (f22 _ _ n _ _ s zs _ HN.out (by omega) (((Byt.Has.own X8.out).below (Below.refl _ _).drew).below hb8) (Byt.Has.own ho8)).mono ?_; rintro e w9 ⟨rfl, hb9⟩; have hs9 := s4b_of (box_below (box_below (w := World.drew _) HX8.out hb8) hb9) (box_below (box_below (w := World.drew _) HY8.out hb8) hb9)))
    have hb89 := (Bts.below_drew hb8).trans (hb9.mono hb8.size)
    clear hb8 hb9 hs8 hs9 ho8 HS
    have HX9 := hid (box_below HX8.out hb89)
    have HZ9 := hid (box_below HZ8.out hb89)
    have HY9 := hid (box_below HY8.out hb89)
    have HB9 := hid (HB8.out.trans (hb89.mono HB8.out.size))
    have BV9 := hid (box_below BV8.out hb89)
    have BG9 := hid (box_below BG8.out hb89)
    have V9 := hid (own_below V8.out hb89)
    have X9 := hid (own_below X8.out hb89)
    have G9 := hid (own_below G8.out hb89)
    clear HX8 HZ8 HY8 HB8 BV8 BG8 V8 X8 G8
    clear hb89
    have y0 : w9.cell? ⟨xx, 0, none⟩ = some (.slice (some ⟨g6, 0, none⟩) n n) := cell_at HY9.out 0
    have y1 : w9.cell? ⟨xx, 1, none⟩ = some (.int .i64 s) := cell_at HY9.out 1
    -- marks in the argument
    go_wp2_with fail
    refine (f25 (some ⟨g6, 0, none⟩) n n _ s zs _ hbig X9.out).mono ?_
    rintro e w10 ⟨rfl, _, hg10⟩
    have hg10' : w9.grownBy w10 (some g6) := hg10
    have lB : w.heap.size + 1 < w5.heap.size := LB5
    have HX10 := hid (boxk HX9.out hg10' (by omega))
    have HZ10 := hid (boxk HZ9.out hg10' (by omega))
    have HB10 := hid (HB9.out.grown hg10' HB9.out.size (by intro k hk; cases hk; omega))
    have BV10 := hid (boxk BV9.out hg10' (by omega))
    have BG10 := hid (boxk BG9.out hg10' (by omega))
    have V10 := hid (row_kept V9.out hg10' (fun k hk e => by cases e; have := BV.out _ hk; omega))
    have G10 := hid (row_kept G9.out hg10' (fun k hk e => by cases e; have := (BG.out _ hk).1; omega))
    clear hg10 hg10' y0 y1 HX9 HZ9 HB9 BV9 BG9 V9 G9 X9 HY9
    have i0 := Smp.two0 BV10.out
    have i1 := Smp.two1 BV10.out
    have j0 := Smp.two0 BG10.out
    have j1 := Smp.two1 BG10.out
    go_wp2_with fail
    clear i0 i1 j0 j1
    refine (f22 ga va vn gc vc (p.2 : Int) p.1 _ hgn (by omega) (row_has G10.out) (row_has V10.out)).mono ?_
    rintro e w11 ⟨rfl, hb11⟩
    have HX11 := hid (box_below HX10.out hb11)
    have HZ11 := hid (box_below HZ10.out hb11)
    have HB11 := hid (HB10.out.trans (hb11.mono HB10.out.size))
    have BV11 := hid (box_below BV10.out hb11)
    have BG11 := hid (box_below BG10.out hb11)
    have V11 := hid (own_below V10.out hb11)
    have G11 := hid (own_below G10.out hb11)
    clear HX10 HZ10 HB10 BV10 BG10 V10 G10
    clear hb11
    -- marks in the answer
    have j0 := Smp.two0 BG11.out
    have j1 := Smp.two1 BG11.out
    go_wp2_with fail
    clear j0 j1
    refine (f25 ga vn gc _ (p.2 : Int) p.1 _ (by omega) G11.out).mono ?_
    rintro e w12 ⟨rfl, ho12, hg12⟩
    have HX12 := hid (box_grown HX11.out hg12 (fun e => by have := (BG.out _ e).1; omega))
    have HZ12 := hid (box_grown HZ11.out hg12 (fun e => by have := (BG.out _ e).1; omega))
    have HB12 := hid (HB11.out.grown hg12 HB11.out.size (fun k hk => by have := (BG.out k hk).1; omega))
    have V12 := hid (row_kept V11.out hg12 (fun k hk e => by have h1 := (BG.out _ e).1; have h2 := BV.out _ hk; omega))
    have G12 := hid ho12
    have BV12 := hid (box_grown BV11.out hg12 (fun e => by have := (BG.out _ e).1; omega))
    have BG12 := hid (box_grown BG11.out hg12 (fun e => (BG.out _ e).2 rfl))
    clear ho12 hg12 HX11 HZ11 HB11 V11 G11 BV11 BG11
    have j0 := Smp.two0 BG12.out
    have j1 := Smp.two1 BG12.out
    go_wp2_with fail
    clear j0 j1
    refine (f26 ga vn gc (p.2 : Int) _ (by omega) (row_nil G12.out) (row_has G12.out)).mono ?_
    rintro e w13 ⟨rfl, hb13⟩
    have HX13 := hid (box_below HX12.out hb13)
    have HZ13 := hid (box_below HZ12.out hb13)
    have HB13 := hid (HB12.out.trans (hb13.mono HB12.out.size))
    have BV13 := hid (box_below BV12.out hb13)
    have BG13 := hid (box_below BG12.out hb13)
    have V13 := hid (own_below V12.out hb13)
    have G13 := hid (own_below G12.out hb13)
    clear HX12 HZ12 HB12 BV12 BG12 V12 G12
    clear hb13
    have HS13 := hid (s4c_of HX13.out HZ13.out)
    -- once more
    go_upto_region 24 with fail
    go_cut [12] from 60 to 64 (fun s12 wx => ∃ X ha hn hc, s12 = .pointer (some ⟨X, 0, none⟩) ∧ Hid (App w13 X ha hn hc p wx))
    case first =>
      go_wp2_with fail
      go_region_held3 (fun w' => S4c w.heap.size a n c s t v w') (first | exact HS13.out | assumption | exact s4c_b HX13.out HZ13.out ((Below.refl _ w13).alloc (Nat.le_refl _) _) | exact s4c_b HX13.out HZ13.out ((Below.refl _ w13).alloc (Nat.le_refl _) _).drew | exact s4c_b HX13.out HZ13.out (hbW.alloc hbW.size _) | exact s4c_b HX13.out HZ13.out (hb13.alloc hb13.size _) | exact s4c_b HX13.out HZ13.out (hb14.alloc hb14.size _) | exact s4c_b HX13.out HZ13.out (hb14.setCell (p := ⟨_, 0, none⟩) hXl _) | exact s4c_b HX13.out HZ13.out ((hb14.setCell (p := ⟨_, 0, none⟩) hXl _).setCell (p := ⟨_, 1, none⟩) hXl _)) (first | (go_at_call 29; refine (f29 a n c s zs (World.drew _) HN.out (by omega) (HR.out.below HB13.out.drew)).mono ?_; rintro e w2 ⟨g2, rfl, _, ho2, hb2⟩; have hbW : Below w13.heap.size w13 w2 := Bts.below_drew hb2; have hs2 := s4c_b HX13.out HZ13.out hbW) | (go_at_call 29; refine (f29 a n c s zs (World.drew _) HN.out (by omega) (HR.out.below (HB13.out.alloc HB13.out.size (.cells #[.slice none 0 0, .int .i64 0] 26)).drew)).mono ?_; rintro e w2 ⟨g2, rfl, _, ho2, hb2⟩; have hbA := (Below.refl _ w13).alloc (Nat.le_refl _) (.cells #[.slice none 0 0, .int .i64 0] 26); have hbW : Below w13.heap.size w13 w2 := hbA.trans ((Bts.below_drew hb2).mono hbA.size); have hs2 := s4c_b HX13.out HZ13.out hbW; have hX2 := box_below (heap_alloc_new w13 (.cells #[.slice none 0 0, .int .i64 0] 26)) (Bts.below_drew hb2)) | (go_at_call 32; refine (f32 t v w2).mono ?_; rintro e w3 ⟨rfl, hb3⟩; have hb13 : Below w13.heap.size w13 w3 := hbW.trans (hb3.mono hbW.size); have hb23 : Below w2.heap.size w2 w3 := hb3; have hs3 := s4c_b HX13.out HZ13.out hb13; try (have hX3 := box_below hX2 hb3; have hXl := Nat.le_refl w13.heap.size)) | (go_at_call 32; refine (f32 t v (w2.alloc (.cells #[.slice none 0 0, .int .i64 0] 26))).mono ?_; rintro e w3 ⟨rfl, hb3⟩; have hal2 := (Below.refl _ w2).alloc (Nat.le_refl _) (.cells #[.slice none 0 0, .int .i64 0] 26); have hb23 : Below w2.heap.size w2 w3 := hal2.trans (hb3.mono hal2.size); have hb13 : Below w13.heap.size w13 w3 := hbW.trans (hb23.mono hbW.size); have hs3 := s4c_b HX13.out HZ13.out hb13; have hX3 := box_below (heap_alloc_new w2 (.cells #[.slice none 0 0, .int .i64 0] 26)) hb3; have hXl := hbW.size) | (go_at_call 15; have hX3' := hX3; refine (HP.out w3 g2 n (Byt.Has.own (own_below ho2 hb23)) (HB13.out.trans (hb13.mono HB13.out.size))).mono ?_; rintro e w4 ⟨u, rfl, ho4, hb4⟩; obtain ⟨va, vn, vc, rfl, how⟩ := ho4; have hb14 : Below w13.heap.size w13 w4 := hb13.trans (hb4.mono hb13.size); have hs4 := s4c_b HX13.out HZ13.out hb14; have hXl := hXl; have hX4 := box_below hX3 hb4; have hx0 := cell_at hX4 0; have hx1 := cell_at hX4 1; have hf0 := froz_at hX4 0; have hf1 := froz_at hX4 1; have HAP := hid (app_set hX4 hXl hb14 (own_base how hb13.size))) | (go_at_call 15; refine (HP.out w3 g2 n (Byt.Has.own (own_below ho2 hb23)) (HB13.out.trans (hb13.mono HB13.out.size))).mono ?_; rintro e w4 ⟨u, rfl, ho4, hb4⟩; obtain ⟨va, vn, vc, rfl, how⟩ := ho4; have hb14 : Below w13.heap.size w13 w4 := hb13.trans (hb4.mono hb13.size); have hs4 := s4c_b HX13.out HZ13.out hb14; have HAP := hid (app_new hb14 (own_base how hb13.size))) | (go_at_call 15; have hal3 := (Below.refl _ w3).alloc (Nat.le_refl _) (.cells #[.slice none 0 0, .int .i64 0] 26); have hb1A := hb13.alloc hb13.size (.cells #[.slice none 0 0, .int .i64 0] 26); refine (HP.out (w3.alloc (.cells #[.slice none 0 0, .int .i64 0] 26)) g2 n (Byt.Has.own (own_below (own_below ho2 hb23) hal3)) (HB13.out.trans (hb1A.mono HB13.out.size))).mono ?_; rintro e w4 ⟨u, rfl, ho4, hb4⟩; obtain ⟨va, vn, vc, rfl, how⟩ := ho4; have hb14 : Below w13.heap.size w13 w4 := hb1A.trans (hb4.mono hb1A.size); have hs4 := s4c_b HX13.out HZ13.out hb14; have hXl := hb13.size; have hX4 := box_below (heap_alloc_new w3 (.cells #[.slice none 0 0, .int .i64 0] 26)) hb4; have hx0 := cell_at hX4 0; have hx1 := cell_at hX4 1; have hf0 := froz_at hX4 0; have hf1 := froz_at hX4 1; have HAP := hid (app_set hX4 hXl hb14 (own_base how hb1A.size))))
      all_goals (go_wp2; go_meet; exact ⟨_, _, _, _, rfl, HAP⟩)
    case rest =>
    obtain ⟨xh, ha, hn, hcp, rfl, HAP⟩ := hcut
    rename World => w14
    have hhn := row_len HAP.out.row
    obtain rfl : vn = hn := by omega
    have hb14 := HAP.out.bel
    have BH14 := hid HAP.out.x
    have R14 := hid HAP.out.row
    have HB14 := hid (HB13.out.trans (hb14.mono HB13.out.size))
    have BV14 := hid (box_below BV13.out hb14)
    have BG14 := hid (box_below BG13.out hb14)
    have V14 := hid (own_below V13.out hb14)
    have G14 := hid (own_below G13.out hb14)
    clear HB13 BV13 BG13 V13 G13
    have i0 := Smp.two0 BV14.out
    have i1 := Smp.two1 BV14.out
    have j0 := Smp.two0 BH14.out
    have j1 := Smp.two1 BH14.out
    clear HAP hb14 HX13 HZ13 HS13
    go_wp2_with fail
    clear i0 i1 j0 j1
    refine (f22 ha va vn hcp vc (p.2 : Int) p.1 _ hgn (by omega) (row_has R14.out) (row_has V14.out)).mono ?_
    rintro e w15 ⟨rfl, hb15⟩
    have HB15 := hid (HB14.out.trans (hb15.mono HB14.out.size))
    have BG15 := hid (box_below BG14.out hb15)
    have G15 := hid (own_below G14.out hb15)
    clear hb15 R14 V14 G14 BV14 BG14 BH14
    have j0 := Smp.two0 BG15.out
    have j1 := Smp.two1 BG15.out
    go_wp2_with fail
    clear j0 j1
    refine (f26 ga vn gc (p.2 : Int) _ (by omega) (row_nil G15.out) (row_has G15.out)).mono ?_
    rintro e w16 ⟨rfl, hb16⟩
    have HB16 := hid (HB15.out.trans (hb16.mono HB15.out.size))
    clear hb16
    go_wp2
    go_ret
    exact ⟨rfl, HB16.out⟩
  · have hif : (if n ≤ 1048576 then 1048576 - (n : Int) else -1) = -1 := if_neg hbig
    clear hn h255 hw0
    go_enter Tryd.func6, Tryd.ntmps6
    go_wp2_with fail
    rw [← HW0.out]
    refine (f27 a n c s _ hlen).mono ?_
    rw [hif]
    rintro e w1 ⟨rfl, hb1⟩
    have HB1 := hid (HBA.out.trans (hb1.mono HBA.out.size))
    clear hb1
    go_wp2
    go_ret
    exact ⟨rfl, HB1.out⟩
end Go.Proofs.YteblbcbfaomdmaaDoor.Chk
