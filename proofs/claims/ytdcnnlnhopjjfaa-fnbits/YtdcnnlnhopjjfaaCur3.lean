/- The cursor's bits and fullBits. -/
import Derived.Test.YtdcnnlnhopjjfaaCur2
import Derived.Deep.RegionWith
namespace Go.Proofs.Ytdcnnlnhopjjfaa.Cur
open Go.RowKit Go.Proofs.Ytdcnnlnhopjjfaa.Byt Go.Proofs.Ytdcnnlnhopjjfaa.Bts

theorem Cu.drew {B0 R n c lim : Nat} {a : Option Addr} {w : World} (h : Cu B0 R a n c lim w) : Cu B0 R a n c lim w.drew := ⟨h.box, h.data, h.le⟩
theorem grown_undrew1 {w w' : World} {r : Option Nat} (h : w.drew.grownBy w' r) : w.grownBy w' r := ⟨h.os, h.tape, h.output, h.size, h.block⟩
theorem grown_keeps {w a b : World} {r : Option Nat} (h : w.grownBy a r) (hk : Keeps w.heap.size a b) : w.grownBy b r :=
  ⟨hk.below.os.trans h.os, hk.below.tape.trans h.tape, hk.below.output.trans h.output, Nat.le_trans h.size hk.below.size, fun k hk1 hne => (hk.below.block k hk1).trans (h.block k hk1 hne)⟩
theorem Cu.alloc {B0 R n c lim : Nat} {a : Option Addr} {w : World} (h : Cu B0 R a n c lim w) (o : Obj) : Cu B0 R a n c lim (w.alloc o) := by
  obtain ⟨t, seed, _, _, _, hR⟩ := h.box
  have := lt_of_block hR
  exact h.keeps ((Keeps.refl B0 w).alloc (by have := h.le; omega) o) (Nat.le_refl _)
theorem Cu.lt {B0 R n c lim : Nat} {a : Option Addr} {w : World} (h : Cu B0 R a n c lim w) : R < w.heap.size := by
  obtain ⟨t, seed, _, _, _, hR⟩ := h.box
  exact lt_of_block hR
theorem Cu.set_other {B0 R n c lim : Nat} {a : Option Addr} {w : World} (h : Cu B0 R a n c lim w) {p : Addr} (hp : R < p.block) (u : Value) : Cu B0 R a n c lim (w.setCell p u) := by
  refine ⟨?_, ?_, h.le⟩
  · obtain ⟨t, seed, h1, h2, h3, h4⟩ := h.box
    exact ⟨t, seed, h1, h2, h3, heap_other _ (by omega) h4⟩
  · rcases h.data with h0 | ⟨b, off, h1, h2, h3, h4⟩
    · exact .inl h0
    · refine .inr ⟨b, off, h1, h2, by simpa using h3, fun i hi => ?_⟩
      obtain ⟨z, z0, z1, hz⟩ := h4 i hi
      exact ⟨z, z0, z1, (World.cell?_of_block (Below.heap_setCell w p u b (by have := h.le; omega))).trans hz⟩

theorem f55i (a : Option Addr) (n cap s B : Nat) (v m : Int) (zs : List Int) (w : World) (hown : w.ownsRow B 5 1 (.slice a n cap) n (zs.map (Value.int .u8))) (hG : G zs s) (hm0 : 0 ≤ m) (hm : m ≤ 64) (hs : s + m.toNat ≤ 80000) (hB : B ≤ w.heap.size) :
    Calls Try.prog 55 #[.agg #[.slice a n cap, .int .i64 s], .int .i64 v, .int .i64 m] w fun e w' =>
      ∃ a' n' cap', e = .returned (.agg #[.slice a' n' cap', .int .i64 ((s + m.toNat : Nat) : Int)]) ∧ w'.ownsRow B 5 1 (.slice a' n' cap') n' ((addL zs s (IntKind.u64.wrap v) m.toNat m.toNat).map (Value.int .u8)) ∧ Keeps B w w' := by
  obtain ⟨k, rfl⟩ := Int.eq_ofNat_of_zero_le hm0
  rw [Int.toNat_natCast] at hs ⊢
  exact f55 a n cap s k B v zs w hown hG hs (by omega) hB

theorem wrap_small (y : Int) (h0 : 0 ≤ y) (h1 : y ≤ 7) : 1 ≤ IntKind.i64.wrap (1 + y) ∧ IntKind.i64.wrap (1 + y) ≤ 8 := by rw [IntKind.wrap_i64]; omega
theorem G_nil : G [] 0 := ⟨rfl, by simp, by simp⟩

set_option maxHeartbeats 4000000 in
theorem f42 (B0 R n c lim : Nat) (a : Option Addr) (w : World) (h : Cu B0 R a n c lim w) (hl : lim ≤ 4503599627360000) (hn : n ≤ 1048576) :
    Calls Try.prog 42 #[.pointer (some ⟨R, 0, none⟩), .int .i64 12] w fun e w' => ∃ (a' : Option Addr) (n' c' s : Nat) (zs : List Int), e = .returned (.agg #[.slice a' n' c', .int .i64 s]) ∧ s ≤ 88 ∧ G zs s ∧
      w'.ownsRow w.heap.size 5 1 (.slice a' n' c') n' (zs.map (Value.int .u8)) ∧ Cu B0 R a n c (lim + 40) w' ∧ w.grownBy w' (some R) := by
  have hRl := h.lt
  have HC := Bts.hid h
  have hle := h.le
  clear h
  go_enter Try.func42, Try.ntmps42
  go_wp2_with fail
  refine (f46 B0 R n c lim a 12 _ ((HC.out.alloc _).alloc _) (by omega) hn (by omega) (by omega)).mono ?_
  rintro e w1 ⟨x, rfl, x0, x1, hc1, hg1⟩
  have x11 : x ≤ 11 := by omega
  have hY1 : w1.heap[w.heap.size]? = some (.cells #[.slice none 0 0, .int .i64 0] 24 (0, 0)) := by
    rw [hg1.block _ (by simp; omega) (by intro e; simp at e; omega), Below.heap_alloc _ _ _ (by simp)]; exact heap_alloc_new w _
  have hX1 : w1.heap[w.heap.size + 1]? = some (.cells #[.slice none 0 0, .int .i64 0] 24 (0, 0)) := by
    rw [hg1.block _ (by simp) (by intro e; simp at e; omega)]
    have := heap_alloc_new (w.alloc (.cells #[.slice none 0 0, .int .i64 0] 24)) (.cells #[.slice none 0 0, .int .i64 0] 24)
    simpa only [World.size_alloc] using this
  have HC1 := Bts.hid hc1
  have HG1 := Bts.hid (Byt.grownBy_trans (grown_alloc (grown_alloc (World.grownBy.refl w (some R)) _) _) hg1)
  have HY1 := Bts.hid hY1
  have HX1 := Bts.hid hX1
  clear hc1 hg1 hY1 hX1 x1
  go_wp2
  go_loopw [6] (fun sk wr => ∃ (k s n' c' : Nat) (a' : Option Addr) (zs : List Int), k ≤ 11 ∧ sk = .int .i64 k ∧ s + 8 * k ≤ 88 ∧ wr.heap[w.heap.size + 1]? = some (.cells #[.slice a' n' c', .int .i64 (s : Int)] 24 (0, 0)) ∧ wr.heap[w.heap.size]? = some (.cells #[.slice none 0 0, .int .i64 0] 24 (0, 0)) ∧
      G zs s ∧ wr.ownsRow w.heap.size 5 1 (.slice a' n' c') n' (zs.map (Value.int .u8)) ∧ Cu B0 R a n c (lim + 38 - 3 * k) wr ∧ w.grownBy wr (some R))
    (fun sk _ => (intOf sk).toNat)
  case atStart =>
    obtain ⟨k, rfl⟩ := Int.eq_ofNat_of_zero_le x0
    exact ⟨k, 0, 0, 0, none, [], by omega, rfl, by omega, HX1.out, HY1.out, G_nil, World.ownsRow_nil _ _ _ _, HC1.out.mono (by omega), HG1.out⟩
  case round =>
    obtain ⟨k, s, n', c', a', zs, hk, rfl, hsk, hX, hY, hG, hown, hcu, hgr⟩ := hrel
    have b0 := two0 hX
    have b1 := two1 hX
    have bf0 := twof (o := 0) hX
    have bf1 := twof (o := 1) hX
    have y0 := two0 hY
    have y1 := two1 hY
    have yf0 := twof (o := 0) hY
    have yf1 := twof (o := 1) hY
    have HX := Bts.hid hX
    have HY := Bts.hid hY
    have HGz := Bts.hid hG
    have HO := Bts.hid hown
    have HCU := Bts.hid hcu
    have HGR := Bts.hid hgr
    clear hX hY hG hown hcu hgr
    by_cases hk0 : 0 < k
    · have hlim : lim + 38 - 3 * k ≤ 4503599627370496 := by omega
      have hlim2 : lim + 38 - 3 * k + 1 ≤ 4503599627370000 := by omega
      have nX : some (w.heap.size + 1) ≠ some R := by simp; omega
      have nY : some (w.heap.size) ≠ some R := by simp; omega
      go_wp2_with fail
      go_region_with (first | (go_at_call 56; refine (f56 B0 R n c (lim + 38 - 3 * k) a _ ?_ hlim hn).mono ?_; (exact HCU.out.drew); rintro e w3 ⟨z, rfl, z0, z1, hc3, hg3'⟩; have hg3 := grown_undrew1 hg3'; clear hg3'; have b30 := hg3.cell b0 nX; have b31 := hg3.cell b1 nX; have HC3 := Bts.hid hc3; have HG3 := Bts.hid hg3; clear hc3 hg3) | (go_at_call 46; refine (f46 B0 R n c (lim + 38 - 3 * k + 1) a 8 _ HC3.out hlim2 hn (by decide) (by decide)).mono ?_; rintro e w4 ⟨y, rfl, y00, y01, hc4, hg4⟩; have b40 := hg4.cell b30 nX; have b41 := hg4.cell b31 nX; have y7 : y ≤ 7 := (by omega); have HC4 := Bts.hid hc4; have HG4 := Bts.hid hg4; have HW := Bts.hid (wrap_small y y00 y7); have HO4 := Bts.hid ((HO.out.kept HG3.out (.inr (by intro e; have := (HO.out.lt _ e).1; omega))).kept HG4.out (.inr (by intro e; have := (HO.out.lt _ e).1; omega))); have hsz4 : w.heap.size ≤ w4.heap.size := (Nat.le_trans HGR.out.size (Nat.le_trans HG3.out.size HG4.out.size)); have HX4 := Bts.hid ((HG4.out.block _ (Nat.lt_of_lt_of_le (lt_of_block HX.out) HG3.out.size) nX).trans ((HG3.out.block _ (lt_of_block HX.out) nX).trans HX.out)); have HY4 := Bts.hid ((HG4.out.block _ (Nat.lt_of_lt_of_le (lt_of_block HY.out) HG3.out.size) nY).trans ((HG3.out.block _ (lt_of_block HY.out) nY).trans HY.out)); clear hc4 hg4 y01) | (go_at_call 55; refine (f55i a' n' c' s w.heap.size z _ zs _ HO4.out HGz.out ?_ ?_ ?_ hsz4).mono ?_; (have := HW.out.1; omega); (have := HW.out.2; omega); (have := HW.out.2; omega); rintro e w5 ⟨a5, n5, c5, rfl, ho5, hk5⟩; have b50 := two0 (hk5.other _ _ _ _ (by decide) HX4.out); have b51 := two1 (hk5.other _ _ _ _ (by decide) HX4.out); have bf50 := twof (o := 0) (hk5.other _ _ _ _ (by decide) HX4.out); have bf51 := twof (o := 1) (hk5.other _ _ _ _ (by decide) HX4.out); have HO5 := Bts.hid ho5; have HK5 := Bts.hid hk5; clear ho5 hk5))
      all_goals
        have HX5 := Bts.hid (HK5.out.other _ _ _ _ (by decide) HX4.out)
        have HY5 := Bts.hid (HK5.out.other _ _ _ _ (by decide) HY4.out)
        have HMX : Hid (max (1 + y) 0 = ((IntKind.i64.wrap (1 + y)).toNat : Int)) := by unfold Hid; rw [IntKind.wrap_i64]; omega
        go_wp2
        go_roundw
        case rel =>
          refine ⟨k - 1, s + (IntKind.i64.wrap (1 + y)).toNat, n5, c5, a5, _, by omega, by go_num, by have := HW.out.2; omega, ?_, ?_, HGz.out.addL (IntKind.u64.wrap z) (IntKind.i64.wrap (1 + y)).toNat (IntKind.i64.wrap (1 + y)).toNat, ?_, ?_, ?_⟩
          · rw [HMX.out]
            have := two_set1 (v' := .int .i64 ((s : Int) + ((IntKind.i64.wrap (1 + y)).toNat : Int))) (two_set0 (u' := .slice a5 n5 c5) HX5.out)
            rw [Int.natCast_add]; exact this
          · exact heap_other _ (by simp) (heap_other _ (by simp) HY5.out)
          · exact ownsRow_setCell_other (ownsRow_setCell_other HO5.out (own_ne' HO5.out HX5.out (by decide)) _) (own_ne' HO5.out HX5.out (by decide)) _
          · exact ((((HC4.out.keeps HK5.out (by omega)).set_other (by simp; omega) _).set_other (by simp; omega) _).mono (by omega))
          · exact grown_setCell (grown_setCell (grown_keeps (Byt.grownBy_trans (Byt.grownBy_trans HGR.out HG3.out) HG4.out) HK5.out) (by simp) _) (by simp) _
        case measure => simp [intOf]; omega
    · obtain rfl : k = 0 := by omega
      go_wp2
      refine bodyPost_ret (v := .agg #[.slice a' n' c', .int .i64 (s : Int)]) (by simp [results, Try.results42, go_sem, y0, y1]) rfl ⟨a', n', c', s, zs, rfl, by omega, HGz.out, ?_, ?_, ?_⟩
      · exact ownsRow_setCell_other (ownsRow_setCell_other HO.out (own_ne' HO.out HY.out (by decide)) _) (own_ne' HO.out HY.out (by decide)) _
      · exact (((HCU.out.set_other (by simpa using hRl) _).set_other (by simpa using hRl) _).mono (by omega))
      · exact grown_setCell (grown_setCell HGR.out (by simp) _) (by simp) _

set_option maxHeartbeats 2000000 in
theorem f44 (B0 R n c lim : Nat) (a : Option Addr) (w : World) (h : Cu B0 R a n c lim w) (hl : lim ≤ 4503599627360000) (hn : n ≤ 1048576) :
    Calls Try.prog 44 #[.pointer (some ⟨R, 0, none⟩)] w fun e w' => ∃ (a' : Option Addr) (n' c' : Nat) (s : Int) (zs : List Int), e = .returned (.agg #[.slice a' n' c', .int .i64 s]) ∧ 0 ≤ s ∧ s ≤ 80002 ∧ n' ≤ 10001 ∧ (∀ z ∈ zs, 0 ≤ z ∧ z ≤ 255) ∧
      w'.ownsRow w.heap.size 5 1 (.slice a' n' c') n' (zs.map (Value.int .u8)) ∧ Cu B0 R a n c (lim + 2) w' ∧ w.grownBy w' (some R) := by
  have hRl := h.lt
  have HC := Bts.hid h
  have hle := h.le
  obtain ⟨i0, hi, hz0, hz1, hz2⟩ := info_parts info5
  clear h
  go_enter Try.func44, Try.ntmps44
  go_wp2_with fail
  refine (f46 B0 R n c lim a 72 _ (HC.out.alloc _) (by omega) hn (by omega) (by omega)).mono ?_
  rintro e w1 ⟨x, rfl, x0, x1, hc1, hg1⟩
  have x71 : x ≤ 71 := by omega
  obtain ⟨k, rfl⟩ := Int.eq_ofNat_of_zero_le x0
  have hY1 : w1.heap[w.heap.size]? = some (.cells #[.slice none 0 0, .int .i64 0] 24 (0, 0)) := by
    rw [hg1.block _ (by simp) (by intro e; simp at e; omega)]; exact heap_alloc_new w _
  have HC1 := Bts.hid hc1
  have HG1 := Bts.hid (Byt.grownBy_trans (grown_alloc (World.grownBy.refl w (some R)) _) hg1)
  have y0 := two0 hY1
  have y1 := two1 hY1
  have yf0 := twof (o := 0) hY1
  have yf1 := twof (o := 1) hY1
  have HY1 := Bts.hid hY1
  have hsz1 := lt_of_block hY1
  clear hc1 hg1 hY1 x1 x0
  go_wp2_with (at_make; refine wpList_make_full _ rfl _ _ 22 rfl w.heap.size 5 i0 (.int .u8 0) 1 Try.underlying22 hi hz0 hz1 _ _ _ _ ((79930 + k + 7) / 8) rfl rfl (by omega) (by omega) ?b2 ?b3 (by omega) ?_)
  case b2 => rw [hz2]; omega
  case b3 => unfold maxLen; omega
  intro w2 ho2 hg2
  have hK2 : Keeps w.heap.size w1 w2 := ⟨(Below.refl _ _).grown hg2 (by omega) (by intro k hk; cases hk), fun k cs t f _ hk => (hg2.block k (lt_of_block hk) (by simp)).trans hk⟩
  have hY2 := hK2.other _ _ _ _ (by decide) HY1.out
  have z0 := two0 hY2
  have z1 := two1 hY2
  have zf0 := twof (o := 0) hY2
  have zf1 := twof (o := 1) hY2
  have HO2 := Bts.hid ho2
  have HK2 := Bts.hid hK2
  have HY2 := Bts.hid hY2
  clear ho2 hg2 hK2 hY2 y0 y1 yf0 yf1
  generalize hcap : (79930 + k + 7) / 8 = cap at *
  have hcap2 : cap ≤ 10001 := by omega
  clear hcap
  go_wp2
  refine bodyPost_ret (v := .agg #[.slice (some ⟨w1.heap.size, 0, none⟩) cap cap, .int .i64 (79930 + (k : Int))]) (by simp [results, Try.results44, go_sem, z0, z1]) rfl ⟨some ⟨w1.heap.size, 0, none⟩, cap, cap, 79930 + (k : Int), List.replicate cap 0, rfl, by omega, by omega, hcap2, ?_, ?_, ?_, ?_⟩
  · intro z hz; rw [List.eq_of_mem_replicate hz]; omega
  · have h := HO2.out
    rw [show (madeCells #[Value.int .u8 0] cap).toList = (List.replicate cap (0 : Int)).map (Value.int .u8) from by rw [toList_madeCells_one]; simp] at h
    exact ownsRow_setCell_other (ownsRow_setCell_other h (own_ne' h HY2.out (by decide)) _) (own_ne' h HY2.out (by decide)) _
  · exact ((HC1.out.keeps HK2.out (by omega)).set_other (by simpa using hRl) _).set_other (by simpa using hRl) _
  · exact grown_setCell (grown_setCell (grown_keeps HG1.out HK2.out) (by simp) _) (by simp) _
end Go.Proofs.Ytdcnnlnhopjjfaa.Cur
