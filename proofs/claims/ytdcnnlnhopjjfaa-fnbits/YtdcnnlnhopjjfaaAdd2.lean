/- What AddBits of the model comes to. -/
import Derived.Test.YtdcnnlnhopjjfaaAdd1
namespace Go.Proofs.Ytdcnnlnhopjjfaa.Bts
open Go.RowKit Go.Proofs.Ytdcnnlnhopjjfaa.Byt

/-- What AddBits answers: its bytes and its size. -/
def addR (zs : List Int) (s v m : Int) : List Int × Int :=
  if good zs s = true ∧ 0 ≤ m ∧ m ≤ 64 ∧ s + m ≤ 80000 then (addL zs s.toNat (IntKind.u64.wrap v) m.toNat m.toNat, s + m) else ([], 0)
theorem addR_in (zs : List Int) (s m : Nat) (v : Int) (hg : good zs s = true) (h1 : m ≤ 64) (h2 : s + m ≤ 80000) : addR zs s v m = (addL zs s (IntKind.u64.wrap v) m m, ((s + m : Nat) : Int)) := by
  unfold addR; rw [if_pos ⟨hg, by omega, by omega, by omega⟩, Int.toNat_natCast, Int.toNat_natCast]; rfl
theorem addR_out (zs : List Int) (s v m : Int) (h : ¬ (good zs s = true ∧ 0 ≤ m ∧ m ≤ 64 ∧ s + m ≤ 80000)) : addR zs s v m = ([], 0) := by unfold addR; rw [if_neg h]

theorem G_of_good (zs : List Int) (s : Nat) (h : good zs s = true) (h255 : ∀ j, 0 ≤ zs.getD j 0 ∧ zs.getD j 0 ≤ 255) : G zs s := by
  unfold good at h
  rw [decide_eq_true_iff] at h
  obtain ⟨h1, h2, h3, h4⟩ := h
  refine ⟨by omega, ?_, ?_⟩
  · intro z hz
    obtain ⟨j, hj, rfl⟩ := List.getElem_of_mem hz
    simpa [hj] using h255 j
  · intro h8
    rcases h4 with h4 | h4
    · omega
    · rw [show s / 8 = zs.length - 1 from by omega]
      rw [show ((s : Int) % 8).toNat = s % 8 from by omega] at h4
      exact h4

theorem cells_of_has {w : World} {ad : Addr} {zs : List Int} (h : Has w (some ad) zs) : ∀ j u, (zs.map (Value.int .u8))[j]? = some u → w.cell? (ad.add j) = some u := by
  intro j u hu
  rcases h with h | ⟨b, off, h1, h2, h3⟩
  · subst h; simp at hu
  · simp only [Option.some.injEq] at h1
    subst h1
    have hj : j < zs.length := by
      by_cases hj : j < zs.length
      · exact hj
      · rw [List.getElem?_eq_none (by simpa using hj)] at hu; simp at hu
    rw [List.getElem?_map, List.getElem?_eq_getElem hj] at hu
    simp at hu
    have := h3 j hj
    simp [hj, hu] at this
    by_cases hj0 : j = 0
    · subst hj0; simpa [Addr.add] using this
    · simpa [Addr.add, hj0] using this
theorem one_all (zs : List Int) : ∀ u ∈ zs.map (Value.int .u8), u.oneCell' = true := by
  intro u hu
  obtain ⟨z, _, rfl⟩ := List.mem_map.1 hu
  rfl

theorem own_slice {w : World} {base n : Nat} {v : Value} {xs : List Value} (h : w.ownsRow base 5 1 v n xs) : ∃ a cap, v = .slice a n cap := by
  rcases h.2 with ⟨h1, h2⟩ | ⟨g, cap, cur, h1, _⟩
  · exact ⟨none, 0, by rw [h1, h2]⟩
  · exact ⟨_, _, h1⟩

set_option maxHeartbeats 2000000 in
theorem f28_some (ad : Addr) (n c s m : Nat) (v : Int) (zs : List Int) (w : World) (hn : zs.length = n) (hb : n ≤ 1048576) (hr : Has w (some ad) zs) (h255 : ∀ j, 0 ≤ zs.getD j 0 ∧ zs.getD j 0 ≤ 255) (hg : good zs s = true) (hm : m ≤ 64) (hsm : s + m ≤ 80000) :
    Calls Try.prog 28 #[.agg #[.slice (some ad) n c, .int .i64 s], .int .i64 v, .int .i64 m] w fun e w' =>
      ∃ a' n' cap', e = .returned (.agg #[.slice a' n' cap', .int .i64 ((s + m : Nat) : Int)]) ∧ w'.ownsRow w.heap.size 5 1 (.slice a' n' cap') n' ((addL zs s (IntKind.u64.wrap v) m m).map (Value.int .u8)) ∧ Below w.heap.size w w' := by
  have HN := hid hn
  have HF := hid h255
  have HGG := hid (G_of_good zs s hg h255)
  obtain ⟨i0, hi, hz0, hz1, hz2⟩ := info_parts info5
  clear hn h255
  go_enter Try.func28, Try.ntmps28
  go_wp2_with fail
  refine (f15 _ _ _ _ zs _ HN.out hb (has_alloc (has_alloc hr _) _) HF.out).mono ?_
  rw [hg]
  rintro e w1 ⟨rfl, hb1⟩
  simp only [World.size_alloc] at hb1
  have hX1 : w1.heap[w.heap.size]? = some (.cells #[.slice (some ad) n c, .int .i64 s] 24 (0, 0)) := by
    rw [hb1.block _ (by omega), Below.heap_alloc _ _ _ (by simp)]; exact heap_alloc_new w _
  have hY1 : w1.heap[w.heap.size + 1]? = some (.cells #[.slice none 0 0, .int .i64 0] 24 (0, 0)) := by
    rw [hb1.block _ (by omega)]
    have := heap_alloc_new (w.alloc (.cells #[.slice (some ad) n c, .int .i64 s] 24)) (.cells #[.slice none 0 0, .int .i64 0] 24)
    simpa only [World.size_alloc] using this
  have hr1 : Has w1 (some ad) zs := has_below (has_alloc (has_alloc hr _) _) (by simpa only [World.size_alloc] using hb1)
  have hsz1 : w.heap.size + 1 < w1.heap.size := lt_of_block hY1
  have hsz0 : w.heap.size < w1.heap.size := by omega
  have x0 := two0 hX1
  have x1 := two1 hX1
  have HK1 : Hid (Keeps w.heap.size w1 w1) := Keeps.refl _ _
  have HB1 : Hid (Below w.heap.size w w1) := ((((Below.refl _ _).alloc (Nat.le_refl _) _).alloc (by simp) _).trans (hb1.mono (by omega)))
  have HX1 := hid hX1
  have HY1 := hid hY1
  clear hX1 hY1 hb1 hr
  go_wp2_with (at_builtin; refine wpList_append_own _ rfl (.tmp 31) (.tmp 33) 22 rfl w.heap.size 5 i0 (.int .u8 0) 1 1 Try.underlying22 hi hz0 hz1 hz2 rfl (by decide) _ _ _ rfl (World.ownsRow_nil _ _ _ _) ad n c (zs.map (Value.int .u8)) rfl ?a1 ?a2 ?a3 ?a4 ?a5 ?a6 ?_)
  case a1 => rw [List.length_map, HN.out, Nat.mul_one]
  case a2 => exact cells_of_has (has_alloc hr1 _)
  case a3 => exact one_all zs
  case a4 => unfold maxLen; omega
  case a5 => omega
  case a6 => simp; omega
  intro v2 w2 hown2 hgr2 _
  obtain ⟨a2, cap2, rfl⟩ := own_slice hown2
  have hZ2 : w2.heap[w1.heap.size]? = some (.cells #[.slice none 0 0, .int .i64 s] 24 (0, 0)) := by
    rw [hgr2.block _ (by simp) (by intro e; cases e)]; exact heap_alloc_new w1 _
  have hY2 : w2.heap[w.heap.size + 1]? = some (.cells #[.slice none 0 0, .int .i64 0] 24 (0, 0)) := by
    rw [hgr2.block _ (by simp; omega) (by intro e; cases e), Below.heap_alloc _ _ _ (by omega)]; exact HY1.out
  have hb2 : Below w.heap.size w w2 := (HB1.out.alloc (by omega) _).grown hgr2 (by simp; omega) (by intro k hk; cases hk)
  have z0 := two0 hZ2
  have z1 := two1 hZ2
  have zf0 := twof (o := 0) hZ2
  have hsz2 : w1.heap.size < w2.heap.size := lt_of_block hZ2
  have ho3 : (w2.setCell ⟨w1.heap.size, 0, none⟩ (.slice a2 n cap2)).ownsRow w.heap.size 5 1 (.slice a2 n cap2) n (zs.map (Value.int .u8)) := ownsRow_setCell_other hown2 (own_ne' hown2 hZ2 (by decide)) _
  have hY3 : (w2.setCell ⟨w1.heap.size, 0, none⟩ (.slice a2 n cap2)).heap[w.heap.size + 1]? = some (.cells #[.slice none 0 0, .int .i64 0] 24 (0, 0)) := heap_other _ (by simp; omega) hY2
  have hb3 : Below w.heap.size w (w2.setCell ⟨w1.heap.size, 0, none⟩ (.slice a2 n cap2)) := hb2.setCell (by simp; omega) _
  have HO3 := hid ho3
  have HY3 := hid hY3
  have HB3 := hid hb3
  clear hown2 hgr2 hZ2 hY2 hb2 ho3 hY3 hb3
  go_wp2_with fail
  refine (f55 a2 n cap2 s m w.heap.size v zs _ HO3.out HGG.out hsm hm (by simp; omega)).mono ?_
  rintro e w4 ⟨a4, n4, cap4, rfl, ho4, hk4⟩
  have hY4 := hk4.other _ _ _ _ (by decide) HY3.out
  have y0 := two0 hY4
  have y1 := two1 hY4
  have yf0 := twof (o := 0) hY4
  have yf1 := twof (o := 1) hY4
  go_wp2
  refine bodyPost_ret (v := .agg #[.slice a4 n4 cap4, .int .i64 ((s + m : Nat) : Int)]) (by simp [results, Try.results28, go_sem, y0, y1]) rfl ⟨a4, n4, cap4, rfl, ?_, ?_⟩
  · exact ownsRow_setCell_other (ownsRow_setCell_other ho4 (own_ne' ho4 hY4 (by decide)) _) (own_ne' ho4 hY4 (by decide)) _
  · exact ((HB3.out.trans hk4.below).setCell (by simp) _).setCell (by simp) _

set_option maxHeartbeats 2000000 in
theorem f28_nil (s m : Nat) (v : Int) (w : World) (hg : good [] s = true) (hm : m ≤ 64) (hsm : s + m ≤ 80000) :
    Calls Try.prog 28 #[.agg #[.slice none 0 0, .int .i64 s], .int .i64 v, .int .i64 m] w fun e w' =>
      ∃ a' n' cap', e = .returned (.agg #[.slice a' n' cap', .int .i64 ((s + m : Nat) : Int)]) ∧ w'.ownsRow w.heap.size 5 1 (.slice a' n' cap') n' ((addL [] s (IntKind.u64.wrap v) m m).map (Value.int .u8)) ∧ Below w.heap.size w w' := by
  have HF : Hid (∀ j, 0 ≤ ([] : List Int).getD j 0 ∧ ([] : List Int).getD j 0 ≤ 255) := by intro j; simp
  have HGG := hid (G_of_good [] s hg HF.out)
  have hr : Has w none [] := .inl rfl
  obtain ⟨i0, hi, hz0, hz1, hz2⟩ := info_parts info5
  go_enter Try.func28, Try.ntmps28
  go_wp2_with fail
  refine (f15 _ _ _ _ [] _ rfl (Nat.zero_le _) (has_alloc (has_alloc hr _) _) HF.out).mono ?_
  rw [hg]
  rintro e w1 ⟨rfl, hb1⟩
  simp only [World.size_alloc] at hb1
  have hX1 : w1.heap[w.heap.size]? = some (.cells #[.slice none 0 0, .int .i64 s] 24 (0, 0)) := by
    rw [hb1.block _ (by omega), Below.heap_alloc _ _ _ (by simp)]; exact heap_alloc_new w _
  have hY1 : w1.heap[w.heap.size + 1]? = some (.cells #[.slice none 0 0, .int .i64 0] 24 (0, 0)) := by
    rw [hb1.block _ (by omega)]
    have := heap_alloc_new (w.alloc (.cells #[.slice none 0 0, .int .i64 s] 24)) (.cells #[.slice none 0 0, .int .i64 0] 24)
    simpa only [World.size_alloc] using this
  have hr1 : Has w1 none [] := has_below (has_alloc (has_alloc hr _) _) (by simpa only [World.size_alloc] using hb1)
  have hsz1 : w.heap.size + 1 < w1.heap.size := lt_of_block hY1
  have hsz0 : w.heap.size < w1.heap.size := by omega
  have x0 := two0 hX1
  have x1 := two1 hX1
  have HK1 : Hid (Keeps w.heap.size w1 w1) := Keeps.refl _ _
  have HB1 : Hid (Below w.heap.size w w1) := ((((Below.refl _ _).alloc (Nat.le_refl _) _).alloc (by simp) _).trans (hb1.mono (by omega)))
  have HX1 := hid hX1
  have HY1 := hid hY1
  clear hX1 hY1 hb1 hr
  have hown2 : (w1.alloc (.cells #[.slice none 0 0, .int .i64 s] 24)).ownsRow w.heap.size 5 1 (.slice none 0 0) 0 [] := World.ownsRow_nil _ _ _ _
  have hZ2 : (w1.alloc (.cells #[.slice none 0 0, .int .i64 s] 24)).heap[w1.heap.size]? = some (.cells #[.slice none 0 0, .int .i64 s] 24 (0, 0)) := heap_alloc_new w1 _
  have hY2 : (w1.alloc (.cells #[.slice none 0 0, .int .i64 s] 24)).heap[w.heap.size + 1]? = some (.cells #[.slice none 0 0, .int .i64 0] 24 (0, 0)) := by
    rw [Below.heap_alloc _ _ _ (by omega)]; exact HY1.out
  have hb2 : Below w.heap.size w (w1.alloc (.cells #[.slice none 0 0, .int .i64 s] 24)) := HB1.out.alloc (by omega) _
  have HO3 := hid hown2
  have HY3 := hid hY2
  have HB3 := hid hb2
  clear hown2 hZ2 hY2 hb2
  go_wp2_with (at_builtin; refine wpList_append_own_none rfl (.tmp 31) (.tmp 33) 22 rfl w.heap.size 5 i0 1 Try.underlying22 hi _ _ _ rfl HO3.out rfl ?_)
  refine (f55 none 0 0 s m w.heap.size v [] _ HO3.out HGG.out hsm hm (by simp; omega)).mono ?_
  rintro e w4 ⟨a4, n4, cap4, rfl, ho4, hk4⟩
  have hY4 := hk4.other _ _ _ _ (by decide) HY3.out
  have y0 := two0 hY4
  have y1 := two1 hY4
  have yf0 := twof (o := 0) hY4
  have yf1 := twof (o := 1) hY4
  go_wp2
  refine bodyPost_ret (v := .agg #[.slice a4 n4 cap4, .int .i64 ((s + m : Nat) : Int)]) (by simp [results, Try.results28, go_sem, y0, y1]) rfl ⟨a4, n4, cap4, rfl, ?_, ?_⟩
  · exact ownsRow_setCell_other (ownsRow_setCell_other ho4 (own_ne' ho4 hY4 (by decide)) _) (own_ne' ho4 hY4 (by decide)) _
  · exact ((HB3.out.trans hk4.below).setCell (by simp) _).setCell (by simp) _

set_option maxHeartbeats 2000000 in
theorem f28_out (a : Option Addr) (n c : Nat) (s v m : Int) (zs : List Int) (w : World) (hn : zs.length = n) (hb : n ≤ 1048576) (hr : Has w a zs) (h255 : ∀ j, 0 ≤ zs.getD j 0 ∧ zs.getD j 0 ≤ 255)
    (hm0 : -9223372036854775808 ≤ m) (hm1 : m ≤ 9223372036854775807) (hout : ¬ (good zs s = true ∧ 0 ≤ m ∧ m ≤ 64 ∧ s + m ≤ 80000)) :
    Calls Try.prog 28 #[.agg #[.slice a n c, .int .i64 s], .int .i64 v, .int .i64 m] w fun e w' => e = .returned (.agg #[.slice none 0 0, .int .i64 0]) ∧ Below w.heap.size w w' := by
  have HN := hid hn
  have HF := hid h255
  clear hn h255
  have fin : ∀ w1 : World, Below (w.heap.size + 1 + 1) ((w.alloc (.cells #[.slice a n c, .int .i64 s] 24)).alloc (.cells #[.slice none 0 0, .int .i64 0] 24)) w1 →
      w1.heap[w.heap.size]? = some (.cells #[.slice a n c, .int .i64 s] 24 (0, 0)) ∧ w1.heap[w.heap.size + 1]? = some (.cells #[.slice none 0 0, .int .i64 0] 24 (0, 0)) ∧ Below w.heap.size w w1 := by
    intro w1 hb1
    refine ⟨?_, ?_, ((((Below.refl _ _).alloc (Nat.le_refl _) _).alloc (by simp) _).trans (hb1.mono (by omega)))⟩
    · rw [hb1.block _ (by omega), Below.heap_alloc _ _ _ (by simp)]; exact heap_alloc_new w _
    · rw [hb1.block _ (by omega)]
      have := heap_alloc_new (w.alloc (.cells #[.slice a n c, .int .i64 s] 24)) (.cells #[.slice none 0 0, .int .i64 0] 24)
      simpa only [World.size_alloc] using this
  have HFIN := hid fin
  clear fin
  go_enter Try.func28, Try.ntmps28
  go_wp2_with fail
  refine (f15 _ _ _ _ zs _ HN.out hb (has_alloc (has_alloc hr _) _) HF.out).mono ?_
  cases hg : good zs s
  · rintro e w1 ⟨rfl, hb1⟩
    simp only [World.size_alloc] at hb1
    obtain ⟨hX1, hY1, hB1⟩ := HFIN.out w1 hb1
    have y0 := two0 hY1
    have y1 := two1 hY1
    have yf0 := twof (o := 0) hY1
    have yf1 := twof (o := 1) hY1
    clear hX1 hY1 hb1
    go_wp2
    exact bodyPost_ret (v := .agg #[.slice none 0 0, .int .i64 0]) (by simp [results, Try.results28, go_sem, y0, y1]) rfl ⟨rfl, (hB1.setCell (by simp) _).setCell (by simp) _⟩
  · rintro e w1 ⟨rfl, hb1⟩
    simp only [World.size_alloc] at hb1
    obtain ⟨hX1, hY1, hB1⟩ := HFIN.out w1 hb1
    obtain ⟨q0, q1, _, _⟩ := good_bd zs s hg
    have x1 := two1 hX1
    have y0 := two0 hY1
    have y1 := two1 hY1
    have yf0 := twof (o := 0) hY1
    have yf1 := twof (o := 1) hY1
    rw [hg] at hout
    have hsz1 : w.heap.size + 1 < w1.heap.size := lt_of_block hY1
    have hsz0 : w.heap.size < w1.heap.size := by omega
    clear hX1 hY1 hb1
    by_cases h1 : m < 0
    · clear hout
      go_wp2
      exact bodyPost_ret (v := .agg #[.slice none 0 0, .int .i64 0]) (by simp [results, Try.results28, go_sem, y0, y1]) rfl ⟨rfl, (hB1.setCell (by simp) _).setCell (by simp) _⟩
    · by_cases h2 : 64 < m
      · clear hout
        go_wp2
        exact bodyPost_ret (v := .agg #[.slice none 0 0, .int .i64 0]) (by simp [results, Try.results28, go_sem, y0, y1]) rfl ⟨rfl, (hB1.setCell (by simp) _).setCell (by simp) _⟩
      · have h3 : 80000 < s + m := by
          have : ¬ (0 ≤ m ∧ m ≤ 64 ∧ s + m ≤ 80000) := fun h => hout ⟨rfl, h⟩
          omega
        clear hout
        go_wp2
        exact bodyPost_ret (v := .agg #[.slice none 0 0, .int .i64 0]) (by simp [results, Try.results28, go_sem, y0, y1]) rfl ⟨rfl, (hB1.setCell (by simp) _).setCell (by simp) _⟩

theorem f28 (a : Option Addr) (n c : Nat) (s v m : Int) (zs : List Int) (w : World) (hn : zs.length = n) (hb : n ≤ 1048576) (hr : Has w a zs) (hnil : a = none → n = 0 ∧ c = 0) (h255 : ∀ j, 0 ≤ zs.getD j 0 ∧ zs.getD j 0 ≤ 255)
    (hm0 : -9223372036854775808 ≤ m) (hm1 : m ≤ 9223372036854775807) :
    Calls Try.prog 28 #[.agg #[.slice a n c, .int .i64 s], .int .i64 v, .int .i64 m] w fun e w' =>
      ∃ a' n' cap', e = .returned (.agg #[.slice a' n' cap', .int .i64 (addR zs s v m).2]) ∧ w'.ownsRow w.heap.size 5 1 (.slice a' n' cap') n' ((addR zs s v m).1.map (Value.int .u8)) ∧ Below w.heap.size w w' := by
  by_cases hin : good zs s = true ∧ 0 ≤ m ∧ m ≤ 64 ∧ s + m ≤ 80000
  · obtain ⟨hg, h1, h2, h3⟩ := hin
    obtain ⟨q0, _⟩ := good_bd zs s hg
    obtain ⟨t, rfl⟩ := Int.eq_ofNat_of_zero_le q0
    obtain ⟨k, rfl⟩ := Int.eq_ofNat_of_zero_le h1
    rw [addR_in zs t k v hg (by omega) (by omega)]
    cases a with
    | none =>
      obtain ⟨rfl, rfl⟩ := hnil rfl
      obtain rfl : zs = [] := List.eq_nil_of_length_eq_zero hn
      exact f28_nil t k v w hg (by omega) (by omega)
    | some ad => exact f28_some ad n c t k v zs w hn hb hr h255 hg (by omega) (by omega)
  · rw [addR_out zs s v m hin]
    refine (f28_out a n c s v m zs w hn hb hr h255 hm0 hm1 hin).mono ?_
    rintro e w' ⟨h1, h2⟩
    exact ⟨none, 0, 0, h1, World.ownsRow_nil _ _ _ _, h2⟩
end Go.Proofs.Ytdcnnlnhopjjfaa.Bts
