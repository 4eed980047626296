/- Both AppendChunks. -/
import Derived.Test.YteblbcbfaomdmaaDoorUcF
import Derived.Test.YteblbcbfaomdmaaDoorVm
namespace Go.Proofs.YteblbcbfaomdmaaDoor.Chk
open Go.RowKit Go.Proofs.YteblbcbfaomdmaaDoor.Bts
open Go.Proofs.YteblbcbfaomdmaaDoor.Smp hiding hid ret_int below_drewN

/-- What AppendChunk gives. -/
noncomputable def appB (zs : List Int) (s : Int) (p : Sm) : Bt := if (unpB zs s).2 = true then packOf ((unpB zs s).1 ++ [p]) else ([], 0)
theorem appB_len (zs : List Int) (s : Int) (p : Sm) : (appB zs s p).1.length ≤ 10000 := by
  unfold appB
  split
  · exact packOf_len _
  · simp
theorem ownB_nil (w : World) (B : Nat) : OwnB w B (.agg #[.slice none 0 0, .int .i64 0]) ([], 0) := ⟨none, 0, 0, rfl, World.ownsRow_nil _ _ _ _⟩

theorem fin2 {w W : World} {R n cap : Nat} {a : Option Addr} {sz u0 u1 : Value} {t : TypeId} {xs : List Value} (hX : W.heap[R]? = some (.cells #[u0, u1] t (0, 0))) (ht : t ≠ 5) (hR : w.heap.size ≤ R) (hb : Below w.heap.size w W) (ho : W.ownsRow w.heap.size 5 1 (.slice a n cap) n xs) :
    ((W.setCell ⟨R, 0, none⟩ (.slice a n cap)).setCell ⟨R, 1, none⟩ sz).heap[R]? = some (.cells #[.slice a n cap, sz] t (0, 0)) ∧ ((W.setCell ⟨R, 0, none⟩ (.slice a n cap)).setCell ⟨R, 1, none⟩ sz).ownsRow w.heap.size 5 1 (.slice a n cap) n xs ∧ Below w.heap.size w ((W.setCell ⟨R, 0, none⟩ (.slice a n cap)).setCell ⟨R, 1, none⟩ sz) := by
  have h1 : (W.setCell ⟨R, 0, none⟩ (.slice a n cap)).heap[R]? = some (.cells #[.slice a n cap, u1] t (0, 0)) := two_set0 hX
  have o1 := ownsRow_setCell_other (a := ⟨R, 0, none⟩) ho (own_ne' ho hX ht) (.slice a n cap)
  exact ⟨two_set1 h1, ownsRow_setCell_other o1 (own_ne' o1 h1 ht) _, (hb.setCell (p := ⟨R, 0, none⟩) hR _).setCell (p := ⟨R, 1, none⟩) hR _⟩

set_option maxRecDepth 100000 in
set_option maxHeartbeats 4000000 in
theorem f31 (a : Option Addr) (n c : Nat) (s : Int) (zs : List Int) (t v : Int) (w : World) (hk : Dk n zs) (hr : Byt.Has w a zs) :
    Calls Tryd.prog 31 #[.agg #[.slice a n c, .int .i64 s], .agg #[.int .i64 t, .int .i64 v]] w fun e w' => ∃ u, e = .returned u ∧ OwnB w' w.heap.size u (appB zs s (t, v)) ∧ Below w.heap.size w w' := by
  obtain ⟨i0, hi, hz0, hz1, hz2⟩ := info_parts infoS
  obtain ⟨W, hW⟩ : ∃ W, W = ((w.alloc (.cells #[.slice a n c, .int .i64 s] 26)).alloc (.cells #[.int .i64 t, .int .i64 v] 36)).alloc (.cells #[.slice none 0 0, .int .i64 0] 26) := ⟨_, rfl⟩
  have HBA : Hid (Below w.heap.size w W) := by unfold Hid; rw [hW]; exact (((Below.refl w.heap.size w).alloc (Nat.le_refl _) _).alloc (by simp) _).alloc (by simp; omega) _
  have hsz : W.heap.size = w.heap.size + 3 := by rw [hW]; simp
  have HX1 : Hid (W.heap[w.heap.size + 1]? = some (.cells #[.int .i64 t, .int .i64 v] 36 (0, 0))) := by
    unfold Hid; rw [hW]
    have := heap_alloc_new (w.alloc (.cells #[.slice a n c, .int .i64 s] 26)) (.cells #[.int .i64 t, .int .i64 v] 36)
    rw [World.size_alloc] at this
    exact (Below.heap_alloc _ _ _ (by simp)).trans this
  have HX2 : Hid (W.heap[w.heap.size + 1 + 1]? = some (.cells #[.slice none 0 0, .int .i64 0] 26 (0, 0))) := by
    unfold Hid; rw [hW]
    have := heap_alloc_new ((w.alloc (.cells #[.slice a n c, .int .i64 s] 26)).alloc (.cells #[.int .i64 t, .int .i64 v] 36)) (.cells #[.slice none 0 0, .int .i64 0] 26)
    rwa [World.size_alloc, World.size_alloc] at this
  have hu := f28 a n c s zs W hk (hr.below HBA.out)
  have hlen := unpB_len zs s
  unfold appB
  obtain ⟨L, b, hLb⟩ : ∃ L b, unpB zs s = (L, b) := ⟨_, _, rfl⟩
  rw [hLb] at hu hlen ⊢
  have HU := hid hu
  have HWE := hid hW
  have HSZ := hid hsz
  clear hu hLb hk hr hW hsz
  simp only at hlen ⊢
  go_enter Tryd.func31, Tryd.ntmps31
  go_wp2_with fail
  rw [← HWE.out]
  refine HU.out.mono ?_
  rintro e w1 ⟨u, rfl, ho, hb⟩
  obtain ⟨av, cv', rfl⟩ := own_form ho
  have HB := hid (HBA.out.trans (hb.mono HBA.out.size))
  have HY1 := hid (box_below HX1.out hb)
  have HY2 := hid (box_below HX2.out hb)
  have HO := hid ho
  have hsz1 : w.heap.size + 3 ≤ w1.heap.size := by have := hb.size; rw [HSZ.out] at this; exact this
  have x0 : w1.cell? ⟨w.heap.size + 1, 0, none⟩ = some (.int .i64 t) := cell_at HY1.out 0
  have x1 : w1.cell? ⟨w.heap.size + 1, 1, none⟩ = some (.int .i64 v) := cell_at HY1.out 1
  have y0 : w1.cell? ⟨w.heap.size + 1 + 1, 0, none⟩ = some (.slice none 0 0) := cell_at HY2.out 0
  have y1 : w1.cell? ⟨w.heap.size + 1 + 1, 1, none⟩ = some (.int .i64 0) := cell_at HY2.out 1
  have f0 := froz_at HY2.out 0
  have f1 := froz_at HY2.out 1
  clear ho hb
  cases b with
  | false =>
    obtain ⟨z1, z2, z3⟩ := fin2 (sz := .int .i64 0) HY2.out (by decide) (by omega) HB.out (World.ownsRow_nil w1 w.heap.size 5 1)
    have q0 := cell_at z1 0
    have q1 := cell_at z1 1
    simp at q0 q1
    have HZ3 := hid z3
    clear z1 z2 z3
    go_wp2
    refine bodyPost_ret (v := .agg #[.slice none 0 0, .int .i64 0]) (by simp [results, Tryd.results31, go_sem, q0, q1]) rfl ⟨_, rfl, ownB_nil _ _, HZ3.out⟩
  | true =>
    go_wp2_with (at_builtin; refine wpList_append_own _ rfl (.tmp 15) (.tmp 17) 23 rfl W.heap.size 36 i0 (.agg #[.int .i64 0, .int .i64 0]) 2 16 Tryd.underlying23 hi hz0 hz1 hz2 rfl (by decide) _ _ _ rfl (World.ownsRow.alloc HO.out _) ⟨w1.heap.size, 0, none⟩ 1 1 [.int .i64 t, .int .i64 v] rfl rfl ?d1 ?d2 ?d3 ?d4 ?d5 ?_)
    case d1 => exact two_new w1 (.int .i64 t) (.int .i64 v) 36
    case d2 => intro u hu; simp at hu; rcases hu with rfl | rfl <;> rfl
    case d3 => unfold maxLen; omega
    case d4 => omega
    case d5 => have := HSZ.out; simp; omega
    intro v1 w3 hown1 hgr1 _
    have hbA := (Below.refl _ w1).alloc (Nat.le_refl _) (.cells #[.int .i64 t, .int .i64 v] 36)
    have ho' : Smp.Own w3 W.heap.size v1 (L ++ [(t, v)]) := by unfold Smp.Own; rw [flat_append, List.length_append]; exact hown1
    have HB3 := hid ((HB.out.trans (hbA.mono HB.out.size)).grown hgr1 (HB.out.trans (hbA.mono HB.out.size)).size (fun k hk => by have := (HO.out.lt k hk).1; have := HSZ.out; omega))
    have HY3 : Hid (w3.heap[w.heap.size + 1 + 1]? = some (.cells #[.slice none 0 0, .int .i64 0] 26 (0, 0))) := by
      have h1 := box_below HY2.out hbA
      have hlt := (Array.getElem?_eq_some_iff.1 h1).1
      unfold Hid
      rw [hgr1.block _ hlt (fun e => by have := (HO.out.lt _ e.symm).1; have := HSZ.out; omega)]; exact h1
    obtain ⟨LL, hLL⟩ : ∃ LL, LL = L ++ [(t, v)] := ⟨_, rfl⟩
    rw [← hLL] at ho'
    have hl1 : LL.length ≤ 121 := by rw [hLL, List.length_append]; simp; omega
    have HLE := hid hLL
    clear hLL
    obtain ⟨a1, c1, rfl⟩ := own_form ho'
    have HH := hid ((Smp.Own.has ho').2)
    clear hown1 hgr1 ho' hbA x0 x1 y0 y1 f0 f1
    go_wp2_with fail
    refine (f20 a1 c1 LL _ (by omega) HH.out).mono ?_
    rintro e w4 ⟨u, rfl, ho4, hb4⟩
    obtain ⟨ua, un, uc, rfl, how⟩ := ho4
    have HY4 := hid (box_below HY3.out hb4)
    have hB4 := HB3.out.trans (hb4.mono HB3.out.size)
    have how' := own_base how HB3.out.size
    obtain ⟨z1, z2, z3⟩ := fin2 (sz := .int .i64 ((packOf LL).2 : Int)) HY4.out (by decide) (by omega) hB4 how'
    have y0 : w4.cell? ⟨w.heap.size + 1 + 1, 0, none⟩ = some (.slice none 0 0) := cell_at HY4.out 0
    have y1 : w4.cell? ⟨w.heap.size + 1 + 1, 1, none⟩ = some (.int .i64 0) := cell_at HY4.out 1
    have f0 := froz_at HY4.out 0
    have f1 := froz_at HY4.out 1
    have q0 := cell_at z1 0
    have q1 := cell_at z1 1
    simp at q0 q1
    have HZ2 := hid z2
    have HZ3 := hid z3
    clear z1 z2 z3 how how' hb4 hB4
    go_wp2
    refine bodyPost_ret (v := .agg #[.slice ua un uc, .int .i64 ((packOf LL).2 : Int)]) (by simp [results, Tryd.results31, go_sem, q0, q1]) rfl ⟨_, rfl, by rw [← HLE.out]; exact ⟨ua, un, uc, rfl, HZ2.out⟩, HZ3.out⟩
set_option maxRecDepth 100000 in
set_option maxHeartbeats 4000000 in
theorem f15 (a : Option Addr) (n c : Nat) (s : Int) (zs : List Int) (t v : Int) (w : World) (hk : Dk n zs) (hr : Byt.Has w a zs) (hc : Cls w) (ht : Tab w) (h2 : 2 ≤ w.heap.size) :
    Calls Tryd.prog 15 #[.agg #[.slice a n c, .int .i64 s], .agg #[.int .i64 t, .int .i64 v]] w fun e w' => ∃ u, e = .returned u ∧ OwnB w' w.heap.size u (appB zs s (t, v)) ∧ Below w.heap.size w w' := by
  obtain ⟨i0, hi, hz0, hz1, hz2⟩ := info_parts infoS
  obtain ⟨W, hW⟩ : ∃ W, W = ((w.alloc (.cells #[.slice a n c, .int .i64 s] 26)).alloc (.cells #[.int .i64 t, .int .i64 v] 36)).alloc (.cells #[.slice none 0 0, .int .i64 0] 26) := ⟨_, rfl⟩
  have HBA : Hid (Below w.heap.size w W) := by unfold Hid; rw [hW]; exact (((Below.refl w.heap.size w).alloc (Nat.le_refl _) _).alloc (by simp) _).alloc (by simp; omega) _
  have hsz : W.heap.size = w.heap.size + 3 := by rw [hW]; simp
  have HX1 : Hid (W.heap[w.heap.size + 1]? = some (.cells #[.int .i64 t, .int .i64 v] 36 (0, 0))) := by
    unfold Hid; rw [hW]
    have := heap_alloc_new (w.alloc (.cells #[.slice a n c, .int .i64 s] 26)) (.cells #[.int .i64 t, .int .i64 v] 36)
    rw [World.size_alloc] at this
    exact (Below.heap_alloc _ _ _ (by simp)).trans this
  have HX2 : Hid (W.heap[w.heap.size + 1 + 1]? = some (.cells #[.slice none 0 0, .int .i64 0] 26 (0, 0))) := by
    unfold Hid; rw [hW]
    have := heap_alloc_new ((w.alloc (.cells #[.slice a n c, .int .i64 s] 26)).alloc (.cells #[.int .i64 t, .int .i64 v] 36)) (.cells #[.slice none 0 0, .int .i64 0] 26)
    rwa [World.size_alloc, World.size_alloc] at this
  have HC := hid hc
  have HT := hid ht
  have hu := f11a a n c s zs W hk (hr.below HBA.out) (hc.below HBA.out) (ht.bel HBA.out h2) (Nat.le_trans h2 HBA.out.size)
  have hlen := unpB_len zs s
  unfold appB
  obtain ⟨L, b, hLb⟩ : ∃ L b, unpB zs s = (L, b) := ⟨_, _, rfl⟩
  rw [hLb] at hu hlen ⊢
  have HU := hid hu
  have HWE := hid hW
  have HSZ := hid hsz
  clear hu hLb hk hr hW hsz hc ht
  simp only at hlen ⊢
  go_enter Tryd.func15, Tryd.ntmps15
  go_wp2_with fail
  rw [← HWE.out]
  refine HU.out.mono ?_
  rintro e w1 ⟨u, rfl, ho, hb⟩
  obtain ⟨av, cv', rfl⟩ := own_form ho
  have HB := hid (HBA.out.trans (hb.mono HBA.out.size))
  have HY1 := hid (box_below HX1.out hb)
  have HY2 := hid (box_below HX2.out hb)
  have HO := hid ho
  have hsz1 : w.heap.size + 3 ≤ w1.heap.size := by have := hb.size; rw [HSZ.out] at this; exact this
  have x0 : w1.cell? ⟨w.heap.size + 1, 0, none⟩ = some (.int .i64 t) := cell_at HY1.out 0
  have x1 : w1.cell? ⟨w.heap.size + 1, 1, none⟩ = some (.int .i64 v) := cell_at HY1.out 1
  have y0 : w1.cell? ⟨w.heap.size + 1 + 1, 0, none⟩ = some (.slice none 0 0) := cell_at HY2.out 0
  have y1 : w1.cell? ⟨w.heap.size + 1 + 1, 1, none⟩ = some (.int .i64 0) := cell_at HY2.out 1
  have f0 := froz_at HY2.out 0
  have f1 := froz_at HY2.out 1
  clear ho hb
  cases b with
  | false =>
    obtain ⟨z1, z2, z3⟩ := fin2 (sz := .int .i64 0) HY2.out (by decide) (by omega) HB.out (World.ownsRow_nil w1 w.heap.size 5 1)
    have q0 := cell_at z1 0
    have q1 := cell_at z1 1
    simp at q0 q1
    have HZ3 := hid z3
    clear z1 z2 z3
    go_wp2
    refine bodyPost_ret (v := .agg #[.slice none 0 0, .int .i64 0]) (by simp [results, Tryd.results15, go_sem, q0, q1]) rfl ⟨_, rfl, ownB_nil _ _, HZ3.out⟩
  | true =>
    go_wp2_with (at_builtin; refine wpList_append_own _ rfl (.tmp 15) (.tmp 17) 23 rfl W.heap.size 36 i0 (.agg #[.int .i64 0, .int .i64 0]) 2 16 Tryd.underlying23 hi hz0 hz1 hz2 rfl (by decide) _ _ _ rfl (World.ownsRow.alloc HO.out _) ⟨w1.heap.size, 0, none⟩ 1 1 [.int .i64 t, .int .i64 v] rfl rfl ?d1 ?d2 ?d3 ?d4 ?d5 ?_)
    case d1 => exact two_new w1 (.int .i64 t) (.int .i64 v) 36
    case d2 => intro u hu; simp at hu; rcases hu with rfl | rfl <;> rfl
    case d3 => unfold maxLen; omega
    case d4 => omega
    case d5 => have := HSZ.out; simp; omega
    intro v1 w3 hown1 hgr1 _
    have hbA := (Below.refl _ w1).alloc (Nat.le_refl _) (.cells #[.int .i64 t, .int .i64 v] 36)
    have ho' : Smp.Own w3 W.heap.size v1 (L ++ [(t, v)]) := by unfold Smp.Own; rw [flat_append, List.length_append]; exact hown1
    have HB3 := hid ((HB.out.trans (hbA.mono HB.out.size)).grown hgr1 (HB.out.trans (hbA.mono HB.out.size)).size (fun k hk => by have := (HO.out.lt k hk).1; have := HSZ.out; omega))
    have HY3 : Hid (w3.heap[w.heap.size + 1 + 1]? = some (.cells #[.slice none 0 0, .int .i64 0] 26 (0, 0))) := by
      have h1 := box_below HY2.out hbA
      have hlt := (Array.getElem?_eq_some_iff.1 h1).1
      unfold Hid
      rw [hgr1.block _ hlt (fun e => by have := (HO.out.lt _ e.symm).1; have := HSZ.out; omega)]; exact h1
    obtain ⟨LL, hLL⟩ : ∃ LL, LL = L ++ [(t, v)] := ⟨_, rfl⟩
    rw [← hLL] at ho'
    have hl1 : LL.length ≤ 121 := by rw [hLL, List.length_append]; simp; omega
    have HLE := hid hLL
    clear hLL
    obtain ⟨a1, c1, rfl⟩ := own_form ho'
    have HH := hid ((Smp.Own.has ho').2)
    clear hown1 hgr1 ho' hbA x0 x1 y0 y1 f0 f1
    go_wp2_with fail
    refine (f9 a1 c1 LL _ (by omega) HH.out (HC.out.below HB3.out) (HT.out.bel HB3.out h2) (Nat.le_trans h2 HB3.out.size)).mono ?_
    rintro e w4 ⟨u, rfl, ho4, hb4⟩
    obtain ⟨ua, un, uc, rfl, how⟩ := ho4
    have HY4 := hid (box_below HY3.out hb4)
    have hB4 := HB3.out.trans (hb4.mono HB3.out.size)
    have how' := own_base how HB3.out.size
    obtain ⟨z1, z2, z3⟩ := fin2 (sz := .int .i64 ((packOf LL).2 : Int)) HY4.out (by decide) (by omega) hB4 how'
    have y0 : w4.cell? ⟨w.heap.size + 1 + 1, 0, none⟩ = some (.slice none 0 0) := cell_at HY4.out 0
    have y1 : w4.cell? ⟨w.heap.size + 1 + 1, 1, none⟩ = some (.int .i64 0) := cell_at HY4.out 1
    have f0 := froz_at HY4.out 0
    have f1 := froz_at HY4.out 1
    have q0 := cell_at z1 0
    have q1 := cell_at z1 1
    simp at q0 q1
    have HZ2 := hid z2
    have HZ3 := hid z3
    clear z1 z2 z3 how how' hb4 hB4
    go_wp2
    refine bodyPost_ret (v := .agg #[.slice ua un uc, .int .i64 ((packOf LL).2 : Int)]) (by simp [results, Tryd.results15, go_sem, q0, q1]) rfl ⟨_, rfl, by rw [← HLE.out]; exact ⟨ua, un, uc, rfl, HZ2.out⟩, HZ3.out⟩
end Go.Proofs.YteblbcbfaomdmaaDoor.Chk
