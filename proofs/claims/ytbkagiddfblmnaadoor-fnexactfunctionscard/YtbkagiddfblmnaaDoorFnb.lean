/- Both Functions; the walk. -/
import Derived.Test.YtbkagiddfblmnaaDoorFna
namespace Go.Proofs.YtbkagiddfblmnaaDoor.Fns
open Go.RowKit
open Go.Proofs.YtbkagiddfblmnaaDoor.Pat

/-- Cells, one behind the other, loaded. -/
theorem load_from {P : Program} (w : World) (b : Nat) : ∀ (n i : Nat) (L : List Value) (acc : Array Value), L.length = n → (∀ j, j < n → w.cell? ⟨b, i + j, none⟩ = L[j]?) → (loadCellsFrom ⟨b, 0, none⟩ i n acc).run P w = .ok (acc ++ L.toArray) w
  | 0, i, L, acc, hl, _ => by
    obtain rfl : L = [] := List.eq_nil_of_length_eq_zero hl
    simp [loadCellsFrom, go_sem]
  | n + 1, i, L, acc, hl, h => by
    match L, hl with
    | v :: L, hl =>
      have h0 := h 0 (by omega)
      simp only [Nat.add_zero, List.getElem?_cons_zero] at h0
      have ih := load_from (P := P) w b n (i + 1) L (acc.push v) (by simpa using hl) (fun j hj => by
        have := h (j + 1) (by omega)
        rw [List.getElem?_cons_succ] at this
        rw [← this, show i + 1 + j = i + (j + 1) by omega])
      simp only [loadCellsFrom, go_sem]
      simp [h0, ih]
theorem load_tab {w : World} (h : Tab w) : (loadCells ⟨0, 0, none⟩ 92).run Tryd.prog w = .ok tabL.toArray w := by
  have := load_from (P := Tryd.prog) w 0 92 0 tabL #[] rfl (fun j hj => by rw [Nat.zero_add]; exact h.2 j hj)
  simpa [loadCells] using this
theorem size_tab (w : World) : (sizeOf 29).run Tryd.prog w = .ok 92 w := by kernel_rfl
theorem agg_tab (w : World) : (isAgg 29).run Tryd.prog w = .ok true w := by kernel_rfl
theorem loadAt_tab {w : World} (h : Tab w) : (Instr.loadAt 29 (.pointer (some ⟨0, 0, none⟩))).run Tryd.prog w = .ok (.agg tabL.toArray) w := by
  unfold Instr.loadAt loadVar
  simp only [Instr.sureAddr, Sem.run_bind, Sem.run_pure, agg_tab, size_tab, load_tab h, if_true, Result.andThen]
theorem exec_tab {w : World} (h : Tab w) (a : Act) (o : Oper) (ho : o.op = .load 29 (.global 0)) : (execOp a.eval o).run Tryd.prog w = .ok (.value (.agg tabL.toArray)) w := by
  have e : a.eval (.global 0) = .pointer (some ⟨0, 0, none⟩) := rfl
  unfold execOp
  simp only [ho, e, Sem.run_bind, Sem.run_pure, loadAt_tab h, Result.andThen]
/-- A row of the table. -/
def rowA (k : Nat) : Array Value := (rowV (shs.getD k ([], [], [], false))).toArray
theorem index_tab : ∀ k : Nat, k < 23 → ∀ w : World, (Instr.index 29 (.agg tabL.toArray) (.int .i64 (k : Int))).run Tryd.prog w = .ok (.agg (rowA k)) w := by
  intro k hk
  match k, hk with
  | 0, _ => exact fun _ => by kernel_rfl
  | 1, _ => exact fun _ => by kernel_rfl
  | 2, _ => exact fun _ => by kernel_rfl
  | 3, _ => exact fun _ => by kernel_rfl
  | 4, _ => exact fun _ => by kernel_rfl
  | 5, _ => exact fun _ => by kernel_rfl
  | 6, _ => exact fun _ => by kernel_rfl
  | 7, _ => exact fun _ => by kernel_rfl
  | 8, _ => exact fun _ => by kernel_rfl
  | 9, _ => exact fun _ => by kernel_rfl
  | 10, _ => exact fun _ => by kernel_rfl
  | 11, _ => exact fun _ => by kernel_rfl
  | 12, _ => exact fun _ => by kernel_rfl
  | 13, _ => exact fun _ => by kernel_rfl
  | 14, _ => exact fun _ => by kernel_rfl
  | 15, _ => exact fun _ => by kernel_rfl
  | 16, _ => exact fun _ => by kernel_rfl
  | 17, _ => exact fun _ => by kernel_rfl
  | 18, _ => exact fun _ => by kernel_rfl
  | 19, _ => exact fun _ => by kernel_rfl
  | 20, _ => exact fun _ => by kernel_rfl
  | 21, _ => exact fun _ => by kernel_rfl
  | 22, _ => exact fun _ => by kernel_rfl
  | (n + 23), h => omega
theorem nms_shs : ∀ k, k < 23 → nms.take (k + 1) = nms.take k ++ [⟨(shs.getD k ([], [], [], false)).1.toArray⟩] := by
  intro k hk
  match k, hk with
  | 0, _ => rfl
  | 1, _ => rfl
  | 2, _ => rfl
  | 3, _ => rfl
  | 4, _ => rfl
  | 5, _ => rfl
  | 6, _ => rfl
  | 7, _ => rfl
  | 8, _ => rfl
  | 9, _ => rfl
  | 10, _ => rfl
  | 11, _ => rfl
  | 12, _ => rfl
  | 13, _ => rfl
  | 14, _ => rfl
  | 15, _ => rfl
  | 16, _ => rfl
  | 17, _ => rfl
  | 18, _ => rfl
  | 19, _ => rfl
  | 20, _ => rfl
  | 21, _ => rfl
  | 22, _ => rfl
  | (n + 23), h => omega
theorem own_formS {w : World} {base e size n : Nat} {v : Value} {xs : List Value} (h : w.ownsRow base e size v n xs) : ∃ a c, v = .slice a n c := by
  rcases h.2 with ⟨h1, h2⟩ | ⟨g, cap, cur, h1, _⟩
  · exact ⟨none, 0, by rw [h1, h2]⟩
  · exact ⟨_, _, h1⟩
theorem one_cells (w : World) (x : Value) (t : TypeId) : ∀ j u, [x][j]? = some u → (w.alloc (.cells #[x] t)).cell? ((⟨w.heap.size, 0, none⟩ : Addr).add j) = some u := by
  intro j u hj
  match j, hj with
  | 0, hj => simp at hj; subst hj; exact one_new w x t
  | (n + 1), hj => simp at hj
theorem infoT : (Tryd.prog.info? 9).map (fun i => (i.zero, i.size, i.bytes)) = some (some (.string ByteArray.empty), 1, 16) := by kernel_rfl
theorem f5 (w : World) (ht : Tab w) : Calls Tryd.prog 5 #[] w fun e w' => ∃ a c, e = .returned (.slice a 23 c) ∧ w'.ownsRow w.heap.size 9 1 (.slice a 23 c) 23 (nms.map Value.string) ∧ Below w.heap.size w w' := by
  obtain ⟨i0, hi, hz0, hz1, hz2⟩ := info_parts infoT
  go_enter Tryd.func5, Tryd.ntmps5
  go_wp2_with (at_make; refine wpList_make_own _ rfl _ _ 22 rfl w.heap.size 9 i0 (.string ByteArray.empty) 1 Tryd.underlying22 hi hz0 hz1 _ _ _ 23 rfl rfl (by omega) ?b2 ?b3 (Nat.le_refl _) ?_)
  case b2 => rw [hz2]; omega
  case b3 => unfold maxLen; omega
  intro w3 hown0 hgrow0
  have HB3 := hid ((Below.refl w.heap.size w).grown hgrow0 (Nat.le_refl _) (fun k h => by cases h))
  have HT3 : Hid (Tab w3) := ht.below HB3.out
  have HO0 := hid hown0
  clear hown0 hgrow0
  go_upto_region 2 with fail
  refine wp_region_lit ?_
  refine wpList_plain rfl (fun K hK => ?_)
  unfold Oper.wp
  rw [exec_tab HT3.out _ _ rfl]
  have HI := hid index_tab
  have HNS := hid nms_shs
  generalize tabL.toArray = T at *
  refine hK _ _ ?_
  clear hK K
  go_wp2
  go_loopw [1, 6] (fun so si wr => ∃ (k c' : Nat) (a' : Option Addr), k ≤ 23 ∧ si = .int .i64 k ∧ so = .slice a' k c' ∧ Hid (wr.ownsRow w.heap.size 9 1 (.slice a' k c') k ((nms.take k).map Value.string)) ∧ Hid (Below w.heap.size w wr)) (fun _ si _ => 23 - (intOf si).toNat)
  case atStart => exact ⟨0, 23, _, by omega, rfl, rfl, HO0.out, HB3.out⟩
  case round =>
    clear HO0 HB3 HT3
    obtain ⟨k, c', a', hk, rfl, rfl, HO, HB⟩ := hrel
    by_cases hlt : k < 23
    · have q := HI.out k hlt
      have HN := hid (HNS.out k hlt)
      unfold rowA rowV at q
      generalize shs.getD k ([], [], [], false) = r at *
      obtain ⟨r1, r2, r3, r4⟩ := r
      simp only at q HN
      have HOA := hid (World.ownsRow.alloc HO.out (.cells #[.string ⟨r1.toArray⟩, .string ⟨r2.toArray⟩, .string ⟨r3.toArray⟩, .bool r4] 28))
      have HBA := hid (HB.out.alloc HB.out.size (.cells #[.string ⟨r1.toArray⟩, .string ⟨r2.toArray⟩, .string ⟨r3.toArray⟩, .bool r4] 28))
      generalize (⟨r1.toArray⟩ : ByteArray) = s1 at *
      have HNB := hid (heap_alloc_new wr (.cells #[.string s1, .string ⟨r2.toArray⟩, .string ⟨r3.toArray⟩, .bool r4] 28))
      obtain ⟨X, hX⟩ : ∃ X, X = wr.alloc (.cells #[.string s1, .string ⟨r2.toArray⟩, .string ⟨r3.toArray⟩, .bool r4] 28) := ⟨_, rfl⟩
      rw [← hX] at HOA HBA HNB
      have x0 : X.cell? ⟨wr.heap.size, 0, none⟩ = some (.string s1) := by
        unfold World.cell?
        simp only [HNB.out]
        rfl
      go_upto_region 5 with fail
      rw [← hX]
      clear hX q HI
      go_wp2_with (at_builtin; refine wpList_append_own _ rfl (.tmp 9) (.tmp 12) 22 rfl w.heap.size 9 i0 (.string ByteArray.empty) 1 16 Tryd.underlying22 hi hz0 hz1 hz2 rfl (by decide) _ _ _ rfl (World.ownsRow.alloc HOA.out _) ⟨X.heap.size, 0, none⟩ 1 1 [.string s1] rfl rfl ?d1 ?d2 ?d3 ?d4 ?d5 ?_)
      case d1 => exact one_cells X (.string s1) 9
      case d2 => intro u hu; simp at hu; rcases hu with rfl; rfl
      case d3 => unfold maxLen; omega
      case d4 => omega
      case d5 => have := HBA.out.size; simp; omega
      intro v1 w4 hown1 hgr1 _
      have HB4 := hid ((HBA.out.alloc HBA.out.size (.cells #[.string s1] 9)).grown hgr1 (by have := HBA.out.size; simp; omega) (fun j hj => (World.ownsRow.lt HOA.out j hj).1))
      obtain ⟨a1, c1, rfl⟩ := own_formS hown1
      have HO4 : Hid (w4.ownsRow w.heap.size 9 1 (.slice a1 (k + 1) c1) (k + 1) ((nms.take (k + 1)).map Value.string)) := by
        unfold Hid; rw [HN.out, List.map_append, List.map_take]; exact hown1
      clear hown1 hgr1
      go_wp2
      go_roundw
      case rel => exact ⟨k + 1, c1, a1, by omega, by go_num, rfl, HO4.out, HB4.out⟩
      case measure => simp [intOf]; omega
    · obtain rfl : k = 23 := by omega
      go_wp2
      go_ret
      exact ⟨a', c', rfl, HO.out, HB.out⟩
theorem f9 (w : World) : Calls Tryd.prog 9 #[] w fun e w' => ∃ a c, e = .returned (.slice a 23 c) ∧ w'.ownsRow w.heap.size 9 1 (.slice a 23 c) 23 (nms.map Value.string) ∧ Below w.heap.size w w' := by
  have HO : Hid ((w.alloc (.cells (nms.map Value.string).toArray 9)).ownsRow w.heap.size 9 1 (.slice (some ⟨w.heap.size, 0, none⟩) 23 23) 23 (nms.map Value.string)) := ⟨rfl, .inr ⟨w.heap.size, 23, (nms.map Value.string).toArray, rfl, Nat.le_refl _, heap_alloc_new w _, Nat.le_refl _, by unfold maxLen; omega, rfl, rfl⟩⟩
  have HB := hid ((Below.refl w.heap.size w).alloc (Nat.le_refl _) (.cells (nms.map Value.string).toArray 9))
  go_enter Tryd.func9, Tryd.ntmps9
  go_wp2
  go_ret
  exact ⟨some ⟨w.heap.size, 0, none⟩, 23, rfl, HO.out, HB.out⟩
theorem f4 (w : World) : Calls Tryd.prog 4 #[] w fun e w' => ∃ a c, e = .returned (.slice a 23 c) ∧ w'.ownsRow w.heap.size 9 1 (.slice a 23 c) 23 (nms.map Value.string) ∧ Below w.heap.size w w' := by
  go_enter Tryd.func4, Tryd.ntmps4
  go_wp2_with fail
  refine (f9 w).mono ?_
  rintro e w2 ⟨a, c, rfl, ho, hb⟩
  have HO := hid ho
  go_wp2
  go_ret
  exact ⟨a, c, rfl, HO.out, hb⟩
theorem own_someS {w : World} {base e size n c : Nat} {a : Option Addr} {xs : List Value} (h : w.ownsRow base e size (.slice a n c) n xs) (hn : 0 < n) : ∃ g, a = some ⟨g, 0, none⟩ ∧ base ≤ g ∧ g < w.heap.size := by
  rcases h.2 with ⟨h1, h2⟩ | ⟨g, cap, cur, h1, _⟩
  · omega
  · have e1 : a = some ⟨g, 0, none⟩ := by injection h1
    subst e1
    exact ⟨g, rfl, h.lt g rfl⟩
set_option maxHeartbeats 1000000 in
theorem walkFn (w : World) (ht : Tab w) : Calls Tryd.prog 3 #[] w fun e w' => e = .returned (.bool true) ∧ Below w.heap.size w w' := by
  have HT := hid ht
  clear ht
  go_enter Tryd.func3, Tryd.ntmps3
  go_wp2_with fail
  refine (f4 w).mono ?_
  rintro e w1 ⟨a1, c1, rfl, ho1, hb1⟩
  obtain ⟨g1, rfl, hg1, hg1'⟩ := own_someS ho1 (by omega)
  have HO1 := hid ho1
  have HB1 := hid hb1
  have HC2 := hid (f5 w1 (HT.out.below hb1))
  clear ho1 hb1
  go_wp2_with fail
  refine HC2.out.mono ?_
  rintro e w2 ⟨a2, c2, rfl, ho2, hb2⟩
  obtain ⟨g2, rfl, hg2, hg2'⟩ := own_someS ho2 (by omega)
  have HO2 := hid ho2
  have HO1b := hid (own_below HO1.out hb2)
  have HB2 := hid (HB1.out.trans (hb2.mono HB1.out.size))
  have HC3 := hid (f6 (some ⟨g2, 0, none⟩) (some ⟨g1, 0, none⟩) 23 c2 c1 nms w2 rfl (by omega) (HasT.own HO2.out) (HasT.own HO1b.out))
  clear HC2 ho2 hb2 HO1
  go_wp2_with fail
  refine HC3.out.mono ?_
  rintro e w3 ⟨rfl, hb3⟩
  have HO2c := hid (own_below HO2.out hb3)
  have HO1c := hid (own_below HO1b.out hb3)
  have HB3 := hid (HB2.out.trans (hb3.mono HB2.out.size))
  have HC4 := hid (f7 g2 23 c2 w1.heap.size 1 nms w3 rfl (by omega) HO2c.out)
  clear HC3 hb3 HO2 HO1b
  go_wp2_with fail
  refine HC4.out.mono ?_
  rintro e w4 ⟨rfl, ho4, hgr4⟩
  have HO4 := hid ho4
  have HO1d := hid (World.ownsRow.kept HO1c.out hgr4 (.inr (by intro e; have e2 : g1 = g2 := Option.some.inj e; omega)))
  have HB4 := hid (HB3.out.grown hgr4 HB3.out.size (by intro k hk; have := Option.some.inj hk; have := HB1.out.size; omega))
  have HC5 := hid (f8 g2 23 c2 1 w4 (by omega) (HasT.own HO4.out))
  clear HC4 ho4 hgr4 HO2c HO1c
  go_wp2_with fail
  refine HC5.out.mono ?_
  rintro e w5 ⟨rfl, hb5⟩
  have HO5 := hid (own_below HO4.out hb5)
  have HO1e := hid (own_below HO1d.out hb5)
  have HB5 := hid (HB4.out.trans (hb5.mono HB4.out.size))
  have HC6 := hid (f5 w5 (HT.out.below HB5.out))
  clear HC5 hb5 HO4 HO1d
  go_wp2_with fail
  refine HC6.out.mono ?_
  rintro e w6 ⟨a6, c6, rfl, ho6, hb6⟩
  have HO6 := hid ho6
  have HO1f := hid (own_below HO1e.out hb6)
  have HO5f := hid (own_below HO5.out hb6)
  have HB6 := hid (HB5.out.trans (hb6.mono HB5.out.size))
  have HC7 := hid (f6 a6 (some ⟨g1, 0, none⟩) 23 c6 c1 nms w6 rfl (by omega) (HasT.own HO6.out) (HasT.own HO1f.out))
  clear HC6 ho6 hb6 HO5 HO1e
  go_wp2_with fail
  refine HC7.out.mono ?_
  rintro e w7 ⟨rfl, hb7⟩
  have HO5g := hid (own_below HO5f.out hb7)
  have HB7 := hid (HB6.out.trans (hb7.mono HB6.out.size))
  have HC8 := hid (f8 g2 23 c2 1 w7 (by omega) (HasT.own HO5g.out))
  clear HC7 hb7 HO5f
  go_wp2_with fail
  refine HC8.out.mono ?_
  rintro e w8 ⟨rfl, hb8⟩
  have HB8 := hid (HB7.out.trans (hb8.mono HB7.out.size))
  go_wp2
  go_ret
  exact ⟨rfl, HB8.out⟩
end Go.Proofs.YtbkagiddfblmnaaDoor.Fns
