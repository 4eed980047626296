/- The walk of FnVar: it returns true and writes nothing that was there. -/
import Derived.Test.YtdcnnlnhopjjfaaBack
import Derived.Test.YtdcnnlnhopjjfaaPutw
import Derived.Test.YtdcnnlnhopjjfaaZint
import Derived.Test.YtdcnnlnhopjjfaaZig
import Derived.Test.YtdcnnlnhopjjfaaVarb
import Derived.Laws.AppendOwnNone
namespace Go.Proofs.Ytdcnnlnhopjjfaa.FnVarW
open Go.RowKit Go.Proofs.Ytdcnnlnhopjjfaa.Byt Go.Proofs.Ytdcnnlnhopjjfaa.Put

theorem shr_bd (x : Int) (j : Nat) (h0 : -9223372036854775808 ≤ x) (h1 : x ≤ 9223372036854775807) : -9223372036854775808 ≤ x / 2 ^ j ∧ x / 2 ^ j ≤ 9223372036854775807 := by
  have hp : (1 : Int) ≤ 2 ^ j := by
    have h : (0 : Int) < 2 ^ j := Int.pow_pos (by decide)
    omega
  generalize (2 : Int) ^ j = p at *
  constructor
  · rw [Int.le_ediv_iff_mul_le (by omega)]
    have : (-9223372036854775808) * p ≤ (-9223372036854775808) * 1 := Int.mul_le_mul_of_nonpos_left (by omega) hp
    omega
  · have : x / p ≤ 9223372036854775807 / p := Int.ediv_le_ediv (by omega) h1
    have h2 : (9223372036854775807 : Int) / p ≤ 9223372036854775807 := Int.ediv_le_self _ (by omega)
    omega

theorem cells_of_has {w : World} {ad : Addr} {zs : List Int} (h : Has w (some ad) zs) : ∀ j u, (zs.map (Value.int .u8))[j]? = some u → w.cell? (ad.add j) = some u := by
  intro j u hu
  rcases h with h | ⟨b, off, h1, h2, h3⟩
  · subst h; simp at hu
  · simp only [Option.some.injEq] at h1
    subst h1
    have hj : j < zs.length := by
      by_cases hj : j < zs.length
      · exact hj
      · rw [List.getElem?_eq_none (by simpa using hj)] at hu; simp at hu
    rw [List.getElem?_map, List.getElem?_eq_getElem hj] at hu
    simp at hu
    have := h3 j hj
    simp [hj, hu] at this
    by_cases hj0 : j = 0
    · subst hj0; simpa [Addr.add] using this
    · simpa [Addr.add, hj0] using this
theorem one_all (zs : List Int) : ∀ u ∈ zs.map (Value.int .u8), u.oneCell' = true := by
  intro u hu
  obtain ⟨z, _, rfl⟩ := List.mem_map.1 hu
  rfl
theorem has_alloc {w : World} {a : Option Addr} {zs : List Int} (h : Has w a zs) (o : Obj) : Has (w.alloc o) a zs :=
  h.below ((Below.refl _ _).alloc (Nat.le_refl _) o)
/-- What lay below the row that is written reads as before. -/
theorem has_grown {w w' : World} {b g : Nat} {zs : List Int} (h : Has w (some ⟨b, 0, none⟩) zs) (hg : w.grownBy w' (some g)) (hne : b ≠ g) : Has w' (some ⟨b, 0, none⟩) zs := Put.Has.other h hg hne

set_option maxHeartbeats 2000000 in
theorem walk_some (ad : Addr) (len cap : Nat) (zs : List Int) (w : World) (hn : zs.length = len) (hr : Has w (some ad) zs) (h255 : ∀ j, 0 ≤ zs.getD j 0 ∧ zs.getD j 0 ≤ 255) (hbig : len ≤ 1048576) :
    Calls Try.prog 4 #[.slice (some ad) len cap] w fun e w' => e = .returned (.bool true) ∧ Below w.heap.size w w' := by
  have hb : len ≤ 140737488351232 := by omega
  have HN := Put.hid hn
  have HF := Put.hid h255
  clear hn h255
  obtain ⟨i0, hi, hz0, hz1, hz2⟩ := info_parts info5
  go_enter Try.func4, Try.ntmps4
  go_wp2_with fail
  refine (Zint.f19 _ _ _ zs _ HN.out hr HF.out).mono ?_
  rintro e w' ⟨x, rfl, hx0, hx1, rfl⟩
  go_wp2_with fail
  refine (Zint.f20 _ _ _ _ zs _ HN.out (by omega) hr HF.out).mono ?_
  rintro e w' ⟨s, rfl, hs0, hs1, rfl⟩
  go_wp2_with fail
  obtain ⟨n0, n1⟩ := shr_bd x (s % 64).toNat hx0 hx1
  generalize x / 2 ^ (s % 64).toNat = n at *
  clear hx0 hx1
  refine (f21 n _).mono ?_
  rintro e w1 ⟨v, rfl, ho1, hb1⟩
  have hr1 := hr.below hb1
  obtain ⟨p1, p2⟩ := put_len n
  have HR : Hid (Var.tv (zs ++ put n ++ [7]) (len : Nat) = (n, ((len : Nat) : Int) + ((put n).length : Int))) := by
    have := read_back zs [7] n n0 n1
    rw [HN.out] at this
    exact this
  have HB : Hid (∀ j, 0 ≤ (zs ++ put n ++ [7]).getD j 0 ∧ (zs ++ put n ++ [7]).getD j 0 ≤ 255) := by
    refine bytes_getD (fun z hz => ?_)
    simp only [List.mem_append, List.mem_singleton] at hz
    rcases hz with (hz | hz) | hz
    · exact getD_bytes HF.out z hz
    · exact put_byte n z hz
    · omega
  generalize hbs : put n = bs at *
  clear hbs
  obtain ⟨m, hm⟩ : ∃ m, m = bs.length := ⟨_, rfl⟩
  rw [← hm] at p1 p2 ho1 HR
  have HM := Put.hid hm
  clear hm
  obtain ⟨g1, c1, rfl, hg1, hg1', -⟩ := own_shape ho1 p1
  have hP1 := Has.own ho1
  clear ho1 hr
  go_wp2_with (at_builtin; refine wpList_append_own _ rfl (.tmp 20) (.tmp 21) 22 rfl w1.heap.size 5 i0 (.int .u8 0) 1 1 Try.underlying22 hi hz0 hz1 hz2 rfl (by decide) _ _ _ rfl (World.ownsRow_made w1 #[] 0 (Nat.le_refl _) (by decide) rfl) ad len cap (zs.map (Value.int .u8)) rfl ?a1 ?a2 ?a3 ?a4 ?a5 ?a6 ?_)
  case a1 => rw [List.length_map, HN.out, Nat.mul_one]
  case a2 => exact cells_of_has (has_alloc hr1 _)
  case a3 => exact one_all zs
  case a4 => unfold maxLen; omega
  case a5 => omega
  case a6 => simp
  intro v2 w2 hown2 hgr2 _
  have hle2 : w1.heap.size + 1 ≤ w2.heap.size := by have := hgr2.size; simpa using this
  have hP2 := has_grown (g := w1.heap.size) (has_alloc hP1 (.cells #[] 5)) hgr2 (by omega)
  have hb2 : Below w1.heap.size w1 w2 := ((Below.refl _ _).alloc (Nat.le_refl _) _).grown hgr2 (by simp) (by intro k hk; cases hk; exact Nat.le_refl _)
  have HO2 := hown2.lt
  go_wp2_with (at_builtin; refine wpList_append_own _ rfl (.tmp 22) (.tmp 23) 22 rfl w1.heap.size 5 i0 (.int .u8 0) 1 1 Try.underlying22 hi hz0 hz1 hz2 rfl (by decide) _ _ _ rfl hown2 ⟨g1, 0, none⟩ m c1 (bs.map (Value.int .u8)) rfl ?b1 ?b2 ?b3 ?b4 ?b5 ?b6 ?_)
  case b1 => rw [List.length_map, ← HM.out, Nat.mul_one]
  case b2 => exact cells_of_has hP2
  case b3 => exact one_all bs
  case b4 => unfold maxLen; omega
  case b5 => omega
  case b6 => omega
  intro v3 w3 hown3 hgr3 _
  have hb3 : Below w1.heap.size w1 w3 := hb2.grown hgr3 (by omega) (fun k hk => (HO2 k hk).1)
  have HO3 := hown3.lt
  clear hown2 hgr2 hgr3 hP2
  go_wp2_with (at_builtin; refine wpList_append_own _ rfl (.tmp 25) (.tmp 26) 22 rfl w1.heap.size 5 i0 (.int .u8 0) 1 1 Try.underlying22 hi hz0 hz1 hz2 rfl (by decide) _ _ _ rfl (hown3.alloc _) ⟨w3.heap.size, 0, none⟩ 1 1 [.int .u8 7] rfl rfl ?d1 ?d2 ?d3 ?d4 ?d5 ?_)
  case d1 => exact one_new _ _ _
  case d2 => first | rfl | (intro u hu; simp at hu; subst hu; rfl)
  case d3 => unfold maxLen; omega
  case d4 => omega
  case d5 => have := hb3.size; simp; omega
  intro v4 w4 hown4 hgr4 _
  have hb4 : Below w1.heap.size w1 w4 := (hb3.alloc hb3.size _).grown hgr4 (by have := hb3.size; simp; omega) (fun k hk => (HO3 k hk).1)
  obtain ⟨g4, c4, rfl, hg4, hg4', hc4⟩ := own_shape hown4 (by omega)
  have hD : Has w4 (some ⟨g4, 0, none⟩) (zs ++ bs ++ [7]) := by
    refine Has.own (base := w1.heap.size) (n := len + m + 1) (c := c4) ?_
    rw [List.map_append, List.map_append, List.append_assoc]
    exact hown4
  have HL : Hid ((zs ++ bs ++ [7]).length = len + m + 1) := by
    unfold Hid; rw [List.length_append, List.length_append, HN.out, ← HM.out]; rfl
  clear hown3 hgr4 hown4
  go_wp2_with fail
  refine (Var.f22 _ _ _ _ (zs ++ bs ++ [7]) _ HL.out hc4 (by omega) hD HB.out).mono ?_
  rw [HR.out]
  rintro e w5 ⟨rfl, rfl⟩
  have hq : ((((len : Nat) : Int) + (m : Int)) == (((len : Nat) : Int) + (m : Int))) = true := by simp
  have hq2 : (n == n) = true := by simp
  have hq3 : (Zig.un (Zig.zz n) == n) = true := by rw [Zig.un_zz n n0 n1]; simp
  have hq4 : (Zig.zz (Zig.un n) == n) = true := by rw [Zig.zz_un n n0 n1]; simp
  obtain ⟨z0, z1⟩ := Zig.zz_wf n
  obtain ⟨u0, u1⟩ := Zig.un_wf n
  go_wp2_with fail
  refine (Zig.f24 _ _ n0 n1).mono ?_
  rintro e w6 ⟨rfl, rfl⟩
  go_wp2_with fail
  refine (Zig.f23 _ _).mono ?_
  rintro e w6 ⟨rfl, rfl⟩
  go_wp2_with fail
  refine (Zig.f23 _ _).mono ?_
  rintro e w6 ⟨rfl, rfl⟩
  go_wp2_with fail
  refine (Zig.f24 _ _ u0 u1).mono ?_
  rintro e w6 ⟨rfl, rfl⟩
  go_wp2
  go_ret
  exact ⟨rfl, hb1.trans (hb4.mono hb1.size)⟩
set_option maxHeartbeats 2000000 in
theorem walk_nil (w : World) :
    Calls Try.prog 4 #[.slice none 0 0] w fun e w' => e = .returned (.bool true) ∧ Below w.heap.size w w' := by
  have HF : Hid (∀ j, 0 ≤ ([] : List Int).getD j 0 ∧ ([] : List Int).getD j 0 ≤ 255) := by intro j; simp
  have hr : Has w none [] := .inl rfl
  obtain ⟨i0, hi, hz0, hz1, hz2⟩ := info_parts info5
  go_enter Try.func4, Try.ntmps4
  go_wp2_with fail
  refine (Zint.f19 _ _ _ [] _ rfl hr HF.out).mono ?_
  rintro e w' ⟨x, rfl, hx0, hx1, rfl⟩
  go_wp2_with fail
  refine (Zint.f20 _ _ _ _ [] _ rfl (by omega) hr HF.out).mono ?_
  rintro e w' ⟨s, rfl, hs0, hs1, rfl⟩
  go_wp2_with fail
  obtain ⟨n0, n1⟩ := shr_bd x (s % 64).toNat hx0 hx1
  generalize x / 2 ^ (s % 64).toNat = n at *
  clear hx0 hx1
  refine (f21 n _).mono ?_
  rintro e w1 ⟨v, rfl, ho1, hb1⟩
  have hr1 := hr.below hb1
  obtain ⟨p1, p2⟩ := put_len n
  have HR : Hid (Var.tv (put n ++ [7]) 0 = (n, ((put n).length : Int))) := by
    have := read_back [] [7] n n0 n1
    simpa [Hid] using this
  have HB : Hid (∀ j, 0 ≤ (put n ++ [7]).getD j 0 ∧ (put n ++ [7]).getD j 0 ≤ 255) := by
    refine bytes_getD (fun z hz => ?_)
    simp only [List.mem_append, List.mem_singleton] at hz
    rcases hz with hz | hz
    · exact put_byte n z hz
    · omega
  generalize hbs : put n = bs at *
  clear hbs
  obtain ⟨m, hm⟩ : ∃ m, m = bs.length := ⟨_, rfl⟩
  rw [← hm] at p1 p2 ho1 HR
  have HM := Put.hid hm
  clear hm
  obtain ⟨g1, c1, rfl, hg1, hg1', -⟩ := own_shape ho1 p1
  have hP1 := Has.own ho1
  clear ho1 hr
  have hP2 := has_alloc hP1 (.cells #[] 5)
  have hb2 : Below w1.heap.size w1 (w1.alloc (.cells #[] 5)) := (Below.refl _ _).alloc (Nat.le_refl _) _
  have hown2 : (w1.alloc (.cells #[] 5)).ownsRow w1.heap.size 5 1 (.slice (some ⟨w1.heap.size, 0, none⟩) 0 0) 0 [] := World.ownsRow_made w1 #[] 0 (Nat.le_refl _) (by decide) rfl
  have hle2 : w1.heap.size ≤ (w1.alloc (.cells #[] 5)).heap.size := by simp
  have HO2 := hown2.lt
  go_wp2_with (first | (at_builtin; refine wpList_append_own_none rfl (.tmp 20) (.tmp 21) 22 rfl w1.heap.size 5 i0 1 Try.underlying22 hi _ _ _ rfl hown2 rfl ?_) | (at_builtin; refine wpList_append_own _ rfl (.tmp 22) (.tmp 23) 22 rfl w1.heap.size 5 i0 (.int .u8 0) 1 1 Try.underlying22 hi hz0 hz1 hz2 rfl (by decide) _ _ _ rfl hown2 ⟨g1, 0, none⟩ m c1 (bs.map (Value.int .u8)) rfl ?b1 ?b2 ?b3 ?b4 ?b5 ?b6 ?_))
  case b1 => rw [List.length_map, ← HM.out, Nat.mul_one]
  case b2 => exact cells_of_has hP2
  case b3 => exact one_all bs
  case b4 => unfold maxLen; omega
  case b5 => omega
  case b6 => exact hle2
  intro v3 w3 hown3 hgr3 _
  have hb3 : Below w1.heap.size w1 w3 := hb2.grown hgr3 hle2 (fun k hk => (HO2 k hk).1)
  have HO3 := hown3.lt
  clear hown2 hgr3 hP2
  go_wp2_with (at_builtin; refine wpList_append_own _ rfl (.tmp 25) (.tmp 26) 22 rfl w1.heap.size 5 i0 (.int .u8 0) 1 1 Try.underlying22 hi hz0 hz1 hz2 rfl (by decide) _ _ _ rfl (hown3.alloc _) ⟨w3.heap.size, 0, none⟩ 1 1 [.int .u8 7] rfl rfl ?d1 ?d2 ?d3 ?d4 ?d5 ?_)
  case d1 => exact one_new _ _ _
  case d2 => first | rfl | (intro u hu; simp at hu; subst hu; rfl)
  case d3 => unfold maxLen; omega
  case d4 => omega
  case d5 => have := hb3.size; simp; omega
  intro v4 w4 hown4 hgr4 _
  have hb4 : Below w1.heap.size w1 w4 := (hb3.alloc hb3.size _).grown hgr4 (by have := hb3.size; simp; omega) (fun k hk => (HO3 k hk).1)
  obtain ⟨g4, c4, rfl, hg4, hg4', hc4⟩ := own_shape hown4 (by omega)
  have hD : Has w4 (some ⟨g4, 0, none⟩) (bs ++ [7]) := by
    refine Has.own (base := w1.heap.size) (n := m + 1) (c := c4) ?_
    rw [List.map_append]
    exact hown4
  have HL : Hid ((bs ++ [7]).length = m + 1) := by
    unfold Hid; rw [List.length_append, ← HM.out]; rfl
  clear hown3 hgr4 hown4
  go_wp2_with fail
  refine (Var.f22 _ _ _ _ (bs ++ [7]) _ HL.out hc4 (by omega) hD HB.out).mono ?_
  rw [HR.out]
  rintro e w5 ⟨rfl, rfl⟩
  have hq : (((m : Int)) == ((m : Int))) = true := by simp
  have hq2 : (n == n) = true := by simp
  have hq3 : (Zig.un (Zig.zz n) == n) = true := by rw [Zig.un_zz n n0 n1]; simp
  have hq4 : (Zig.zz (Zig.un n) == n) = true := by rw [Zig.zz_un n n0 n1]; simp
  obtain ⟨z0, z1⟩ := Zig.zz_wf n
  obtain ⟨u0, u1⟩ := Zig.un_wf n
  go_wp2_with fail
  refine (Zig.f24 _ _ n0 n1).mono ?_
  rintro e w6 ⟨rfl, rfl⟩
  go_wp2_with fail
  refine (Zig.f23 _ _).mono ?_
  rintro e w6 ⟨rfl, rfl⟩
  go_wp2_with fail
  refine (Zig.f23 _ _).mono ?_
  rintro e w6 ⟨rfl, rfl⟩
  go_wp2_with fail
  refine (Zig.f24 _ _ u0 u1).mono ?_
  rintro e w6 ⟨rfl, rfl⟩
  go_wp2
  go_ret
  exact ⟨rfl, hb1.trans (hb4.mono hb1.size)⟩
end Go.Proofs.Ytdcnnlnhopjjfaa.FnVarW
