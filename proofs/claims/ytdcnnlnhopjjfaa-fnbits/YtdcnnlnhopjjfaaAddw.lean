/- The walk of FnExactAddBits: it returns true and writes nothing that was there. -/
import Derived.Test.YtdcnnlnhopjjfaaMark
import Derived.Test.YtdcnnlnhopjjfaaTakew
import Derived.Deep.RegionWith
namespace Go.Proofs.Ytdcnnlnhopjjfaa.Bts
open Go.RowKit Go.Proofs.Ytdcnnlnhopjjfaa.Byt

theorem has_own {w : World} {base n c : Nat} {a : Option Addr} {zs : List Int} (h : w.ownsRow base 5 1 (.slice a n c) n (zs.map (Value.int .u8))) : Has w a zs := by
  have hl := h.1
  rcases h.2 with ⟨h1, h2⟩ | ⟨g, cap, cur, h1, _⟩
  · subst h2
    rw [List.length_map] at hl
    exact .inl (List.eq_nil_of_length_eq_zero (by omega))
  · simp only [Value.slice.injEq, true_and] at h1
    obtain ⟨rfl, rfl⟩ := h1
    exact Has.own h
theorem own_len {w : World} {base n c : Nat} {a : Option Addr} {zs : List Int} (h : w.ownsRow base 5 1 (.slice a n c) n (zs.map (Value.int .u8))) : zs.length = n := by
  have h := h.1; rw [List.length_map, Nat.mul_one] at h; exact h
theorem own_form {w : World} {base n c : Nat} {a : Option Addr} {xs : List Value} (h : w.ownsRow base 5 1 (.slice a n c) n xs) : (a = none ∧ n = 0 ∧ c = 0) ∨ ∃ g, a = some ⟨g, 0, none⟩ := by
  rcases h.2 with ⟨h1, h2⟩ | ⟨g, cap, cur, h1, _⟩
  · simp only [Value.slice.injEq] at h1; exact .inl h1
  · simp only [Value.slice.injEq, true_and] at h1; exact .inr ⟨g, h1.1⟩
theorem own_below {w w' : World} {base n : Nat} {v : Value} {xs : List Value} (h : w.ownsRow base 5 1 v n xs) (hb : Below w.heap.size w w') : w'.ownsRow base 5 1 v n xs := by
  refine h.kept (row := none) ⟨hb.os, hb.tape, hb.output, hb.size, fun k hk _ => hb.block k hk⟩ ?_
  cases h : v.ownBlock
  · exact .inl rfl
  · exact .inr (by simp)
theorem has_grown' {w w' : World} {a : Option Addr} {zs : List Int} {r : Option Nat} (h : Has w a zs) (hg : w.grownBy w' r) (hne : ∀ ad : Addr, a = some ad → some ad.block ≠ r) : Has w' a zs := by
  rcases h with h | ⟨b, off, h1, h2, h3⟩
  · exact .inl h
  · exact .inr ⟨b, off, h1, Nat.lt_of_lt_of_le h2 hg.size, fun i hi => hg.cell (h3 i hi) (by have := hne _ h1; exact this)⟩
theorem box_below {w w' : World} {k t : Nat} {cs : Array Value} {f : Nat × Nat} (h : w.heap[k]? = some (.cells cs t f)) (hb : Below w.heap.size w w') : w'.heap[k]? = some (.cells cs t f) := (hb.block k (lt_of_block h)).trans h
theorem box_alloc {w : World} {k t : Nat} {cs : Array Value} {f : Nat × Nat} (h : w.heap[k]? = some (.cells cs t f)) (o : Obj) : (w.alloc o).heap[k]? = some (.cells cs t f) := (Below.heap_alloc w o k (lt_of_block h)).trans h
theorem box_grown {w w' : World} {k t n base : Nat} {v : Value} {xs : List Value} {cs : Array Value} {f : Nat × Nat} (h : w.heap[k]? = some (.cells cs t f)) (ht : t ≠ 5) (hown : w.ownsRow base 5 1 v n xs) (hg : w.grownBy w' v.ownBlock) : w'.heap[k]? = some (.cells cs t f) :=
  (hg.block k (lt_of_block h) (fun e => own_ne' hown h ht e.symm)).trans h
theorem alloc_below (w : World) (o : Obj) : Below w.heap.size w (w.alloc o) := (Below.refl _ _).alloc (Nat.le_refl _) o

theorem addR_len (zs : List Int) (s v m : Int) (h255 : ∀ j, 0 ≤ zs.getD j 0 ∧ zs.getD j 0 ≤ 255) : (addR zs s v m).1.length ≤ 10000 := by
  by_cases hin : good zs s = true ∧ 0 ≤ m ∧ m ≤ 64 ∧ s + m ≤ 80000
  · obtain ⟨hg, h1, h2, h3⟩ := hin
    obtain ⟨q0, _⟩ := good_bd zs s hg
    obtain ⟨t, rfl⟩ := Int.eq_ofNat_of_zero_le q0
    obtain ⟨k, rfl⟩ := Int.eq_ofNat_of_zero_le h1
    rw [addR_in zs t k v hg (by omega) (by omega)]
    have := ((G_of_good zs t hg h255).addL (IntKind.u64.wrap v) k k).len
    show (addL zs t (IntKind.u64.wrap v) k k).length ≤ 10000
    omega
  · rw [addR_out zs s v m hin]; simp

set_option maxHeartbeats 4000000 in
theorem walk6 (a : Option Addr) (n c : Nat) (s v m : Int) (zs : List Int) (w : World) (hn : zs.length = n) (hmax : n ≤ 9223372036854775807) (hr : Has w a zs) (h255 : ∀ j, 0 ≤ zs.getD j 0 ∧ zs.getD j 0 ≤ 255)
    (hm0 : -9223372036854775808 ≤ m) (hm1 : m ≤ 9223372036854775807) (hbig : n ≤ 1048576) :
    Calls Try.prog 6 #[.agg #[.slice a n c, .int .i64 s], .int .i64 v, .int .i64 m] w fun e w' => e = .returned (.bool true) ∧ Below w.heap.size w w' := by
  have hb0 : n ≤ 140737488351232 := by omega
  have HN := hid hn
  have HF := hid h255
  obtain ⟨L, hL⟩ : ∃ L, L = (addR zs s v m).1 := ⟨_, rfl⟩
  obtain ⟨S, hS⟩ : ∃ S, S = (addR zs s v m).2 := ⟨_, rfl⟩
  have hl0 := addR_len zs s v m h255
  have h28 := fun a n c w (hn : zs.length = n) hb hr hnil => f28 a n c s v m zs w hn hb hr hnil h255 hm0 hm1
  have h14 := fun a n c w (hn : zs.length = n) hb hr hnil => f14 a n c s v m zs w hn hb hr hnil h255 hm0 hm1
  rw [← hL, ← hS] at h28 h14
  rw [← hL] at hl0
  have H28 := hid h28
  have H14 := hid h14
  clear hn h255 hL hS h28 h14
  go_enter Try.func6, Try.ntmps6
  go_wp2_with fail
  refine (f25 a n c s _ hmax).mono ?_
  rw [if_pos hbig]
  rintro e w1 ⟨rfl, hb1⟩
  have A1 : w1.heap[w.heap.size]? = some (.cells #[.slice a n c, .int .i64 s] 38 (0, 0)) := box_below (heap_alloc_new w _) hb1
  have hr1 := has_below (has_alloc hr _) hb1
  have HB1 : Hid (Below w.heap.size w w1) := (alloc_below w _).trans (hb1.mono (by simp))
  have a10 := two0 A1
  have a11 := two1 A1
  have l1 : w.heap.size < w1.heap.size := lt_of_block A1
  clear hb1
  go_wp2_with fail
  refine (f26 a n c s zs _ HN.out hb0 hr1).mono ?_
  rintro e w2 ⟨g2, rfl, hg2, ho2, hb2⟩
  go_wp2_with fail
  refine (H28.out _ n n _ HN.out hbig (Has.own ho2) (by intro h; cases h)).mono ?_
  rintro e w3 ⟨a8, n8, c8, rfl, ho8, hb3⟩
  have A3 := box_below (box_below A1 hb2) hb3
  have hr3 := has_below (has_below hr1 hb2) hb3
  have HB3 : Hid (Below w.heap.size w w3) := (HB1.out.trans (hb2.mono (by omega))).trans (hb3.mono (by have := hb2.size; omega))
  have a30 := two0 A3
  have a31 := two1 A3
  have l3 : w.heap.size < w3.heap.size := lt_of_block A3
  obtain rfl := own_len ho8
  have b8 : ∀ k, (Value.slice a8 L.length c8).ownBlock = some k → k < w3.heap.size := fun k hk => (ho8.lt k hk).2
  clear a10 a11 ho2 hr1 hb2 hb3 A1
  go_wp2_with fail
  refine (f26 a n c s zs _ HN.out hb0 (has_alloc hr3 _)).mono ?_
  rintro e w4 ⟨g4, rfl, hg4, ho9, hb4⟩
  simp only [World.size_alloc] at hg4
  have A4 := box_below (box_alloc A3 _) hb4
  have B4 := box_below (heap_alloc_new w3 (.cells #[.slice a8 L.length c8, .int .i64 S] 24)) hb4
  have o84 := own_below (ho8.alloc _) hb4
  have hl4 : g4 < w4.heap.size := (ho9.lt g4 rfl).2
  have HB4 : Hid (Below w.heap.size w w4) := (HB3.out.alloc (by omega) _).trans (hb4.mono (by simp; omega))
  have l4 : w.heap.size < w4.heap.size := lt_of_block A4
  have l34 : w3.heap.size < w4.heap.size := lt_of_block B4
  clear a30 a31 hr3 hb4 A3 ho8
  go_wp2_with fail
  refine (H14.out _ n n _ HN.out hbig (Has.own (ho9.alloc _)) (by intro h; cases h)).mono ?_
  rintro e w5 ⟨a10, n10, c10, rfl, ho10, hb5⟩
  obtain rfl := own_len ho10
  have b10 : ∀ k, (Value.slice a10 L.length c10).ownBlock = some k → w4.heap.size < k := fun k hk => by have := (ho10.lt k hk).1; simp at this; omega
  have A5 := box_below (box_alloc A4 _) hb5
  have B5 := box_below (box_alloc B4 _) hb5
  have C5 := box_below (heap_alloc_new w4 (.cells #[.slice (some ⟨g4, 0, none⟩) n n, .int .i64 s] 24)) hb5
  have o85 := own_below (o84.alloc _) hb5
  have o95 := own_below (ho9.alloc _) hb5
  have HB5 : Hid (Below w.heap.size w w5) := (HB4.out.alloc (by omega) _).trans (hb5.mono (by simp; omega))
  have b50 := two0 B5
  have b51 := two1 B5
  have l5 : w.heap.size < w5.heap.size := lt_of_block A5
  have l35 : w3.heap.size < w5.heap.size := lt_of_block B5
  have l45 : w4.heap.size < w5.heap.size := lt_of_block C5
  clear hb5 A4 B4 o84 ho9
  go_wp2_with fail
  refine (f27 _ _ L.length c10 c8 S L _ rfl (by omega) (has_own (ho10.alloc _)) (has_own (o85.alloc _))).mono ?_
  rintro e w6 ⟨rfl, hb6⟩
  have A6 := box_below (box_alloc A5 _) hb6
  have B6 := box_below (box_alloc B5 _) hb6
  have C6 := box_below (box_alloc C5 _) hb6
  have D6 := box_below (heap_alloc_new w5 (.cells #[.slice a10 L.length c10, .int .i64 S] 24)) hb6
  have o86 := own_below (o85.alloc _) hb6
  have o96 := own_below (o95.alloc _) hb6
  have o106 := own_below (ho10.alloc _) hb6
  have HB6 : Hid (Below w.heap.size w w6) := (HB5.out.alloc (by omega) _).trans (hb6.mono (by simp; omega))
  have hr6 := has_below hr HB6.out
  have hx6 := has_own o96
  have a60 := two0 A6
  have a61 := two1 A6
  have c60 := two0 C6
  have c61 := two1 C6
  have l6 : w.heap.size < w6.heap.size := lt_of_block A6
  have l46 : w4.heap.size < w6.heap.size := lt_of_block C6
  have l56 : w5.heap.size < w6.heap.size := lt_of_block D6
  clear b50 b51 hb6 A5 B5 C5 o85 o95 ho10
  have HA6 := hid A6
  have HB6' := hid B6
  have HC6 := hid C6
  have HD6 := hid D6
  clear A6 B6 C6 D6
  go_wp2_with fail
  go_region_with (first | (go_at_call 26; refine (f26 a n c s zs _ HN.out hb0 ?_).mono ?_; (exact hr6); rintro e w7 ⟨g7, rfl, hg7, ho7, hb7'⟩; have hb7 := below_drew hb7'; clear hb7'; have x60 := (hb7.cell (p := ⟨w4.heap.size, 0, none⟩) l46).trans c60; have x61 := (hb7.cell (p := ⟨w4.heap.size, 1, none⟩) l46).trans c61; have hx7 := has_below hx6 hb7; have hy7 := Has.own ho7) | (go_at_call 27; refine (f27 _ _ n n n s zs _ HN.out hb0 ?_ ?_).mono ?_; (exact hx7); (exact hy7); rintro e w8 ⟨rfl, hb8⟩))
  all_goals
    have hb7 : Below w6.heap.size w6 w7 := hb7
    have l67 : w6.heap.size ≤ w7.heap.size := hb7.size
    have l78 : w7.heap.size ≤ w8.heap.size := hb8.size
    have A8 := box_below (box_below HA6.out hb7) hb8
    have B8 := box_below (box_below HB6'.out hb7) hb8
    have C8 := box_below (box_below HC6.out hb7) hb8
    have D8 := box_below (box_below HD6.out hb7) hb8
    have o88 := own_below (own_below o86 hb7) hb8
    have o98 := own_below (own_below o96 hb7) hb8
    have o108 := own_below (own_below o106 hb7) hb8
    have HB8 : Hid (Below w.heap.size w w8) := (HB6.out.trans (hb7.mono (by omega))).trans (hb8.mono (by omega))
    have c80 := two0 C8
    have c81 := two1 C8
    clear a60 a61 c60 c61 x60 x61 hx7 hy7 ho7 hb7 hb8 o86 o96 o106 hr6 hx6
    go_wp2_with fail
    refine (f29 (some ⟨g4, 0, none⟩) n n _ s zs _ hbig o98).mono ?_
    rintro e w9 ⟨rfl, o99, hg9⟩
    have A9 := box_grown A8 (by decide) o98 hg9
    have B9 := box_grown B8 (by decide) o98 hg9
    have D9 := box_grown D8 (by decide) o98 hg9
    have o89 := o88.kept hg9 (.inr (by intro e; have := b8 g4 e; omega))
    have o109 := o108.kept hg9 (.inr (by intro e; have := b10 g4 e; omega))
    have HB9 : Hid (Below w.heap.size w w9) := HB8.out.grown hg9 HB8.out.size (by intro k hk; cases hk; show w.heap.size ≤ g4; omega)
    have b90 := two0 B9
    have b91 := two1 B9
    have d90 := two0 D9
    have d91 := two1 D9
    clear c80 c81 A8 B8 C8 D8 o88 o98 o108 o99 hg9
    go_wp2_with fail
    refine (f27 _ _ L.length c10 c8 S L _ rfl (by omega) (has_own o109) (has_own o89)).mono ?_
    rintro e w10 ⟨rfl, hb10⟩
    have A10 := box_below A9 hb10
    have B10 := box_below B9 hb10
    have D10 := box_below D9 hb10
    have o810 := own_below o89 hb10
    have o1010 := own_below o109 hb10
    have HB10 : Hid (Below w.heap.size w w10) := HB9.out.trans (hb10.mono HB9.out.size)
    have d100 := two0 D10
    have d101 := two1 D10
    clear b90 b91 d90 d91 hb10 A9 B9 D9 o89 o109
    go_wp2_with fail
    refine (f29 a10 L.length c10 _ S L _ (by omega) o1010).mono ?_
    rintro e w11 ⟨rfl, o1011, hg11⟩
    have A11 := box_grown A10 (by decide) o1010 hg11
    have B11 := box_grown B10 (by decide) o1010 hg11
    have D11 := box_grown D10 (by decide) o1010 hg11
    have o811 := o810.kept hg11 (by
      cases h8 : (Value.slice a8 L.length c8).ownBlock with
      | none => exact .inl rfl
      | some k8 =>
        right
        intro e
        have h1 := b8 k8 h8
        have h2 := b10 k8 e.symm
        omega)
    have HB11 : Hid (Below w.heap.size w w11) := HB10.out.grown hg11 HB10.out.size (by intro k hk; have := b10 k hk; omega)
    have d110 := two0 D11
    have d111 := two1 D11
    have hform := own_form o1011
    clear d100 d101 A10 B10 D10 o810 o1010 hg11
    go_wp2_with fail
    refine (f30 a10 L.length c10 S _ (by omega) hform (has_own o1011)).mono ?_
    rintro e w12 ⟨rfl, hb12⟩
    have A12 := box_below A11 hb12
    have B12 := box_below B11 hb12
    have D12 := box_below D11 hb12
    have o812 := own_below o811 hb12
    have o1012 := own_below o1011 hb12
    have HB12 : Hid (Below w.heap.size w w12) := HB11.out.trans (hb12.mono HB11.out.size)
    have hr12 := has_below hr HB12.out
    have a120 := two0 A12
    have a121 := two1 A12
    have hqm : ((1 + (L.length : Int)) != 1 + (L.length : Int)) = false := by simp
    clear d110 d111 hb12 A11 B11 D11 o811 o1011
    go_wp2_with fail
    refine (f26 a n c s zs _ HN.out hb0 hr12).mono ?_
    rintro e w13 ⟨g13, rfl, hg13, ho13, hb13⟩
    go_wp2_with fail
    refine (H14.out _ n n _ HN.out hbig (Has.own ho13) (by intro h; cases h)).mono ?_
    rintro e w14 ⟨a14, n14, c14, rfl, ho14, hb14⟩
    obtain rfl := own_len ho14
    have B14 := box_below (box_below B12 hb13) hb14
    have D14 := box_below (box_below D12 hb13) hb14
    have o814 := own_below (own_below o812 hb13) hb14
    have o1014 := own_below (own_below o1012 hb13) hb14
    have HB14 : Hid (Below w.heap.size w w14) := (HB12.out.trans (hb13.mono HB12.out.size)).trans (hb14.mono (Nat.le_trans HB12.out.size hb13.size))
    have b140 := two0 B14
    have b141 := two1 B14
    have lb14 := lt_of_block B14
    have ld14 := lt_of_block D14
    clear a120 a121 hr12 hb13 hb14 A12 B12 D12 o812 o1012 ho13
    go_wp2_with fail
    refine (f27 _ _ L.length c14 c8 S L _ rfl (by omega) (has_own (ho14.alloc _)) (has_own (o814.alloc _))).mono ?_
    rintro e w15 ⟨rfl, hb15⟩
    have D15 := box_below (box_alloc D14 _) hb15
    have o1015 := own_below (o1014.alloc _) hb15
    have HB15 : Hid (Below w.heap.size w w15) := (HB14.out.alloc HB14.out.size _).trans (hb15.mono (by have := HB14.out.size; simp; omega))
    have d150 := two0 D15
    have d151 := two1 D15
    clear b140 b141 hb15 B14 D14 o814 o1014 ho14
    go_wp2_with fail
    refine (f30 a10 L.length c10 S _ (by omega) hform (has_own o1015)).mono ?_
    rintro e w16 ⟨rfl, hb16⟩
    go_wp2
    go_ret
    exact ⟨rfl, HB15.out.trans (hb16.mono HB15.out.size)⟩
end Go.Proofs.Ytdcnnlnhopjjfaa.Bts
