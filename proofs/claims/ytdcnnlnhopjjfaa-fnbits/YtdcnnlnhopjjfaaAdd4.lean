/- What AddBits of the program comes to. -/
import Derived.Test.YtdcnnlnhopjjfaaAdd3
import Derived.Laws.CopyOwn
namespace Go.Proofs.Ytdcnnlnhopjjfaa.Bts
open Go.RowKit Go.Proofs.Ytdcnnlnhopjjfaa.Byt

/-- make of a slice of n bytes with room for k. -/
theorem wpList_make_len {P : Program} (w : World) {ops : Array Oper} {rest : List Oper} {o : Oper} {a : Act} {Q : Exit → Act → World → Prop}
    (hg : o.guard = none) (l c : Operand) (t : TypeId) (hop : o.op = Op.makeSlice t l c)
    (e : TypeId) (i : TypeInfo) (z : Value) (h1 : P.underlying t = some (.slice e)) (h2 : P.info? e = some i) (h3 : i.zero = some z) (h4 : i.size = 1) (h5 : i.bytes = 1)
    (kl kc : IntKind) (L C : Int) (n k : Nat) (hl : a.eval l = .int kl L) (hc : a.eval c = .int kc C) (hL : L = (n : Int)) (hC : C = (k : Int)) (hnk : n ≤ k) (hk : k ≤ 281474976710656)
    (hK : wpList P ops Q rest (a.put o.dst (.slice (some ⟨w.heap.size, 0, none⟩) n k)) (w.alloc (.cells (madeCells z.cells k) e))) :
    wpList P ops Q (o :: rest) a w := by
  refine wpList_plain hg fun K hK' => ?_
  have hrun := run_make (P := P) w t e i z h1 h2 h3 kl kc L C (by omega) (by omega) (by rw [h5]; omega) (by omega)
  subst hL
  subst hC
  rw [h4, Int.toNat_natCast, Int.toNat_natCast, Nat.mul_one] at hrun
  unfold Oper.wp
  simp [execOp, hop, hl, hc, hrun, Result.andThen]
  exact hK' _ _ hK

theorem f49 (a : Option Addr) (n cap R : Nat) (s : Int) (w : World) (hR : w.heap[R]? = some (.cells #[.slice a n cap, .int .i64 s] 60 (0, 0))) :
    Calls Try.prog 49 #[.pointer (some ⟨R, 0, none⟩)] w fun e w' => e = .returned (.agg #[.slice a n cap, .int .i64 s]) ∧ ∃ u, w' = (w.alloc (.cells u 24)).drew := by
  have r0 := two0 hR
  have r1 := two1 hR
  have hl := lt_of_block hR
  clear hR
  go_enter Try.func49, Try.ntmps49
  go_wp2
  go_region
  all_goals go_wp2
  all_goals exact bodyPost_ret (v := .agg #[.slice a n cap, .int .i64 s]) (by simp [results, Try.results49, go_sem]) rfl ⟨rfl, _, rfl⟩

theorem own_of_heap {w : World} {B g n k : Nat} {xs cur : List Value} (hg : w.heap[g]? = some (.cells cur.toArray 5 (0, 0))) (hB : B ≤ g) (hn : xs.length = n) (hnk : n ≤ k) (hk : k ≤ 281474976710656) (hc : cur.length = k) (ht : cur.take n = xs) :
    w.ownsRow B 5 1 (.slice (some ⟨g, 0, none⟩) n k) n xs :=
  ⟨by rw [hn, Nat.mul_one], .inr ⟨g, k, cur.toArray, rfl, hB, hg, hnk, by unfold maxLen; omega, by simp [hc], by simpa using ht⟩⟩

set_option maxHeartbeats 4000000 in
theorem f14_in (a : Option Addr) (n c s m : Nat) (v : Int) (zs : List Int) (w : World) (hn : zs.length = n) (hb : n ≤ 1048576) (hr : Has w a zs) (h255 : ∀ j, 0 ≤ zs.getD j 0 ∧ zs.getD j 0 ≤ 255) (hg : good zs s = true) (hm : m ≤ 64) (hsm : s + m ≤ 80000) (hnil : a = none → n = 0) :
    Calls Try.prog 14 #[.agg #[.slice a n c, .int .i64 s], .int .i64 v, .int .i64 m] w fun e w' =>
      ∃ a' n' cap', e = .returned (.agg #[.slice a' n' cap', .int .i64 ((s + m : Nat) : Int)]) ∧ w'.ownsRow w.heap.size 5 1 (.slice a' n' cap') n' ((addL zs s (IntKind.u64.wrap v) m m).map (Value.int .u8)) ∧ Below w.heap.size w w' := by
  have hU0 : 0 ≤ IntKind.u64.wrap v := by rw [IntKind.wrap_u64]; omega
  have hU1 : IntKind.u64.wrap v ≤ 18446744073709551615 := by rw [IntKind.wrap_u64]; omega
  have HN := hid hn
  have HF := hid h255
  have HGG := hid (G_of_good zs s hg h255)
  have hns : n = (s + 7) / 8 := by have := HGG.out.len; omega
  have HNS := hid hns
  have hnk : n ≤ (s + m + 7) / 8 := by omega
  have hn10 : n ≤ 10000 := by omega
  obtain ⟨i0, hi, hz0, hz1, hz2⟩ := info_parts info5
  clear hn h255 hns
  go_enter Try.func14, Try.ntmps14
  go_wp2_with fail
  refine (f17 _ _ _ _ zs _ HN.out hb (has_alloc (has_alloc hr _) _) HF.out).mono ?_
  rw [hg]
  rintro e w1 ⟨rfl, hb1⟩
  simp only [World.size_alloc] at hb1
  have hX1 : w1.heap[w.heap.size]? = some (.cells #[.slice a n c, .int .i64 s] 24 (0, 0)) := by
    rw [hb1.block _ (by omega), Below.heap_alloc _ _ _ (by simp)]; exact heap_alloc_new w _
  have hY1 : w1.heap[w.heap.size + 1]? = some (.cells #[.slice none 0 0, .int .i64 0] 24 (0, 0)) := by
    rw [hb1.block _ (by omega)]
    have := heap_alloc_new (w.alloc (.cells #[.slice a n c, .int .i64 s] 24)) (.cells #[.slice none 0 0, .int .i64 0] 24)
    simpa only [World.size_alloc] using this
  have hr1 : Has w1 a zs := has_below (has_alloc (has_alloc hr _) _) (by simpa only [World.size_alloc] using hb1)
  have hsz1 : w.heap.size + 1 < w1.heap.size := lt_of_block hY1
  have hsz0 : w.heap.size < w1.heap.size := by omega
  have x0 := two0 hX1
  have x1 := two1 hX1
  have HB1 : Hid (Below w.heap.size w w1) := ((((Below.refl _ _).alloc (Nat.le_refl _) _).alloc (by simp) _).trans (hb1.mono (by omega)))
  have HX1 := hid hX1
  have HY1 := hid hY1
  have HR1 := hid hr1
  clear hX1 hY1 hb1 hr hr1
  go_wp2_with (first | (at_make; refine wpList_make_len _ rfl _ _ 22 rfl 5 i0 (.int .u8 0) Try.underlying22 hi hz0 hz1 hz2 _ _ _ _ n ((s + m + 7) / 8) rfl rfl rfl (by omega) hnk (by omega) ?_) | (refine wpList_copy_splice rfl (.tmp 38) (.tmp 40) 22 22 rfl 5 Try.underlying22 ?s1 _ _ _ _ _ _ rfl rfl w1.heap.size 0 (madeCells (Value.int .u8 0).cells ((s + m + 7) / 8)).toList 5 ?s2 (zs.map (Value.int .u8)) ?s3 ?s4 ?s5 (one_all zs) w1.heap.size w1 ?s6 (Nat.le_refl _) ?_))
  case s1 => kernel_rfl
  case s2 =>
    have h := heap_alloc_new w1 (.cells (madeCells #[Value.int .u8 0] ((s + m + 7) / 8)) 5)
    simpa [Value.cells] using h
  case s3 => simp [HN.out]
  case s4 =>
    intro h0
    rcases HR1.out with h | ⟨b, off, h1, h2, h3⟩
    · rw [h] at h0; simp at h0
    · refine ⟨⟨b, off, none⟩, h1, fun j x hx => ?_⟩
      subst h1
      exact cells_of_has (has_alloc HR1.out _) j _ (by rw [List.getElem?_map, hx]; rfl)
  case s5 => simp [size_madeCells, HN.out]; omega
  case s6 => exact (Below.refl _ _).alloc (Nat.le_refl _) _
  intro w3 H3 hb3
  have hl3 : w1.heap.size < w3.heap.size := lt_of_block H3.out
  have ho3 : w3.ownsRow w.heap.size 5 1 (.slice (some ⟨w1.heap.size, 0, none⟩) n ((s + m + 7) / 8)) n (zs.map (Value.int .u8)) := by
    refine own_of_heap H3.out (by omega) (by rw [List.length_map]; exact HN.out) hnk (by omega) ?_ ?_
    · rw [length_splice _ _ _ (by simp [size_madeCells, HN.out]; omega)]; simp [size_madeCells]
    · unfold splice
      rw [List.take_zero, List.nil_append, List.take_append_of_le_length (by simp [HN.out])]
      exact List.take_of_length_le (by simp [HN.out])
  have hX3 : w3.heap[w.heap.size]? = some (.cells #[.slice a n c, .int .i64 s] 24 (0, 0)) := by rw [hb3.block _ hsz0]; exact HX1.out
  have hY3 : w3.heap[w.heap.size + 1]? = some (.cells #[.slice none 0 0, .int .i64 0] 24 (0, 0)) := by rw [hb3.block _ hsz1]; exact HY1.out
  have x31 := two1 hX3
  have HO3 := hid ho3
  have HY3 := hid hY3
  have HB3 := hid (HB1.out.trans (hb3.mono (by omega)))
  have hw3 : w.heap.size < w3.heap.size := by omega
  have hw3' : w.heap.size + 1 < w3.heap.size := by omega
  clear ho3 hX3 hY3 hb3 x0 x1
  generalize hcap : (s + m + 7) / 8 = cap at *
  clear hcap
  go_wp2_with fail
  refine (f48 (some ⟨w1.heap.size, 0, none⟩) n cap s m w.heap.size w3.heap.size (IntKind.u64.wrap v) zs _ (HO3.out.alloc _) HGG.out hsm hm (by omega) hU0 hU1 (heap_alloc_new w3 _)).mono ?_
  rintro e w4 ⟨rfl, a4, n4, cap4, hR4, ho4, hk4⟩
  have hY4 := hk4.other (w.heap.size + 1) _ _ _ (by decide) (by omega) ((Below.heap_alloc w3 _ _ hw3').trans HY3.out)
  have HY4 := hid hY4
  have HO4 := hid ho4
  have HB4 := hid ((HB3.out.alloc (by omega) _).trans hk4.below)
  have hl4 := lt_of_block hY4
  clear hY4 ho4 hk4
  go_wp2_with fail
  refine (f49 a4 n4 cap4 w3.heap.size _ _ hR4).mono ?_
  rintro e w5 ⟨rfl, u5, rfl⟩
  have hY5 : ((w4.alloc (.cells u5 24)).drew).heap[w.heap.size + 1]? = some (.cells #[.slice none 0 0, .int .i64 0] 24 (0, 0)) := (Below.heap_alloc w4 _ _ hl4).trans HY4.out
  have y0 := two0 hY5
  have y1 := two1 hY5
  have yf0 := twof (o := 0) hY5
  have yf1 := twof (o := 1) hY5
  have ho5 : ((w4.alloc (.cells u5 24)).drew).ownsRow w.heap.size 5 1 (.slice a4 n4 cap4) n4 ((addL zs s (IntKind.u64.wrap v) m m).map (Value.int .u8)) := (HO4.out.alloc _).drew
  have hb5 : Below w.heap.size w ((w4.alloc (.cells u5 24)).drew) := (HB4.out.alloc (by omega) _).drew
  have HO5 := hid ho5
  have HB5 := hid hb5
  have HY5 := hid hY5
  clear ho5 hb5 hY5
  generalize ((w4.alloc (.cells u5 24)).drew) = w6 at *
  go_wp2
  refine bodyPost_ret (v := .agg #[.slice a4 n4 cap4, .int .i64 ((s + m : Nat) : Int)]) (by simp [results, Try.results14, go_sem, y0, y1]) rfl ⟨a4, n4, cap4, rfl, ?_, ?_⟩
  · exact ownsRow_setCell_other (ownsRow_setCell_other HO5.out (own_ne' HO5.out HY5.out (by decide)) _) (own_ne' HO5.out HY5.out (by decide)) _
  · exact (HB5.out.setCell (by simp) _).setCell (by simp) _

set_option maxHeartbeats 2000000 in
theorem f14_out (a : Option Addr) (n c : Nat) (s v m : Int) (zs : List Int) (w : World) (hn : zs.length = n) (hb : n ≤ 1048576) (hr : Has w a zs) (h255 : ∀ j, 0 ≤ zs.getD j 0 ∧ zs.getD j 0 ≤ 255)
    (hm0 : -9223372036854775808 ≤ m) (hm1 : m ≤ 9223372036854775807) (hout : ¬ (good zs s = true ∧ 0 ≤ m ∧ m ≤ 64 ∧ s + m ≤ 80000)) :
    Calls Try.prog 14 #[.agg #[.slice a n c, .int .i64 s], .int .i64 v, .int .i64 m] w fun e w' => e = .returned (.agg #[.slice none 0 0, .int .i64 0]) ∧ Below w.heap.size w w' := by
  have HN := hid hn
  have HF := hid h255
  clear hn h255
  have fin : ∀ w1 : World, Below (w.heap.size + 1 + 1) ((w.alloc (.cells #[.slice a n c, .int .i64 s] 24)).alloc (.cells #[.slice none 0 0, .int .i64 0] 24)) w1 →
      w1.heap[w.heap.size]? = some (.cells #[.slice a n c, .int .i64 s] 24 (0, 0)) ∧ w1.heap[w.heap.size + 1]? = some (.cells #[.slice none 0 0, .int .i64 0] 24 (0, 0)) ∧ Below w.heap.size w w1 := by
    intro w1 hb1
    refine ⟨?_, ?_, ((((Below.refl _ _).alloc (Nat.le_refl _) _).alloc (by simp) _).trans (hb1.mono (by omega)))⟩
    · rw [hb1.block _ (by omega), Below.heap_alloc _ _ _ (by simp)]; exact heap_alloc_new w _
    · rw [hb1.block _ (by omega)]
      have := heap_alloc_new (w.alloc (.cells #[.slice a n c, .int .i64 s] 24)) (.cells #[.slice none 0 0, .int .i64 0] 24)
      simpa only [World.size_alloc] using this
  have HFIN := hid fin
  clear fin
  go_enter Try.func14, Try.ntmps14
  go_wp2_with fail
  refine (f17 _ _ _ _ zs _ HN.out hb (has_alloc (has_alloc hr _) _) HF.out).mono ?_
  cases hg : good zs s
  · rintro e w1 ⟨rfl, hb1⟩
    simp only [World.size_alloc] at hb1
    obtain ⟨hX1, hY1, hB1⟩ := HFIN.out w1 hb1
    have y0 := two0 hY1
    have y1 := two1 hY1
    have yf0 := twof (o := 0) hY1
    have yf1 := twof (o := 1) hY1
    clear hX1 hY1 hb1
    go_wp2
    exact bodyPost_ret (v := .agg #[.slice none 0 0, .int .i64 0]) (by simp [results, Try.results14, go_sem, y0, y1]) rfl ⟨rfl, (hB1.setCell (by simp) _).setCell (by simp) _⟩
  · rintro e w1 ⟨rfl, hb1⟩
    simp only [World.size_alloc] at hb1
    obtain ⟨hX1, hY1, hB1⟩ := HFIN.out w1 hb1
    obtain ⟨q0, q1, _, _⟩ := good_bd zs s hg
    have x1 := two1 hX1
    have y0 := two0 hY1
    have y1 := two1 hY1
    have yf0 := twof (o := 0) hY1
    have yf1 := twof (o := 1) hY1
    rw [hg] at hout
    have hsz1 : w.heap.size + 1 < w1.heap.size := lt_of_block hY1
    have hsz0 : w.heap.size < w1.heap.size := by omega
    clear hX1 hY1 hb1
    by_cases h1 : m < 0
    · clear hout
      go_wp2
      exact bodyPost_ret (v := .agg #[.slice none 0 0, .int .i64 0]) (by simp [results, Try.results14, go_sem, y0, y1]) rfl ⟨rfl, (hB1.setCell (by simp) _).setCell (by simp) _⟩
    · by_cases h2 : 64 < m
      · clear hout
        go_wp2
        exact bodyPost_ret (v := .agg #[.slice none 0 0, .int .i64 0]) (by simp [results, Try.results14, go_sem, y0, y1]) rfl ⟨rfl, (hB1.setCell (by simp) _).setCell (by simp) _⟩
      · have h3 : 80000 < s + m := by
          have : ¬ (0 ≤ m ∧ m ≤ 64 ∧ s + m ≤ 80000) := fun h => hout ⟨rfl, h⟩
          omega
        clear hout
        go_wp2
        exact bodyPost_ret (v := .agg #[.slice none 0 0, .int .i64 0]) (by simp [results, Try.results14, go_sem, y0, y1]) rfl ⟨rfl, (hB1.setCell (by simp) _).setCell (by simp) _⟩

theorem f14 (a : Option Addr) (n c : Nat) (s v m : Int) (zs : List Int) (w : World) (hn : zs.length = n) (hb : n ≤ 1048576) (hr : Has w a zs) (hnil : a = none → n = 0 ∧ c = 0) (h255 : ∀ j, 0 ≤ zs.getD j 0 ∧ zs.getD j 0 ≤ 255)
    (hm0 : -9223372036854775808 ≤ m) (hm1 : m ≤ 9223372036854775807) :
    Calls Try.prog 14 #[.agg #[.slice a n c, .int .i64 s], .int .i64 v, .int .i64 m] w fun e w' =>
      ∃ a' n' cap', e = .returned (.agg #[.slice a' n' cap', .int .i64 (addR zs s v m).2]) ∧ w'.ownsRow w.heap.size 5 1 (.slice a' n' cap') n' ((addR zs s v m).1.map (Value.int .u8)) ∧ Below w.heap.size w w' := by
  by_cases hin : good zs s = true ∧ 0 ≤ m ∧ m ≤ 64 ∧ s + m ≤ 80000
  · obtain ⟨hg, h1, h2, h3⟩ := hin
    obtain ⟨q0, _⟩ := good_bd zs s hg
    obtain ⟨t, rfl⟩ := Int.eq_ofNat_of_zero_le q0
    obtain ⟨k, rfl⟩ := Int.eq_ofNat_of_zero_le h1
    rw [addR_in zs t k v hg (by omega) (by omega)]
    exact f14_in a n c t k v zs w hn hb hr h255 hg (by omega) (by omega) (fun h => (hnil h).1)
  · rw [addR_out zs s v m hin]
    refine (f14_out a n c s v m zs w hn hb hr h255 hm0 hm1 hin).mono ?_
    rintro e w' ⟨h1, h2⟩
    exact ⟨none, 0, 0, h1, World.ownsRow_nil _ _ _ _, h2⟩
end Go.Proofs.Ytdcnnlnhopjjfaa.Bts
