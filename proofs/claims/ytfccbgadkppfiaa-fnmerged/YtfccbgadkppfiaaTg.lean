/- Rows of the call's own: compared, marked, held; the walk of FnExactCutSamples. -/
import Derived.Test.YtfccbgadkppfiaaTf
namespace Go.Proofs.Ytfccbgadkppfiaa.Smp
open Go.RowKit

theorem Own.cases {w : World} {base : Nat} {v : Value} {L : List Sm} (h : Own w base v L) : (L = [] ∧ v = .slice none 0 0) ∨ ∃ g c, v = .slice (some ⟨g, 0, none⟩) L.length c := by
  unfold Own at h
  rcases h.2 with ⟨h1, h2⟩ | ⟨g, cap, cur, h1, _⟩
  · exact .inl ⟨List.eq_nil_of_length_eq_zero h2, h1⟩
  · exact .inr ⟨g, cap, h1⟩
theorem Own.has {w : World} {base : Nat} {a : Option Addr} {n c : Nat} {L : List Sm} (h : Own w base (.slice a n c) L) : n = L.length ∧ HasS w a L := by
  obtain ⟨a', c', h1⟩ := own_form h
  simp only [Value.slice.injEq] at h1
  obtain ⟨rfl, rfl, rfl⟩ := h1
  exact ⟨rfl, HasS.own h⟩
theorem Own.kept {w w' : World} {base : Nat} {r : Option Nat} {v : Value} {L : List Sm} (h : Own w base v L) (hg : w.grownBy w' r) (hne : ∀ k, v.ownBlock = some k → r ≠ some k) : Own w' base v L :=
  World.ownsRow.kept h hg (by
    cases hv : v.ownBlock with
    | none => exact .inl rfl
    | some k => exact .inr (fun e => hne k hv e.symm))
theorem Own.lt {w : World} {base : Nat} {v : Value} {L : List Sm} (h : Own w base v L) : ∀ k, v.ownBlock = some k → base ≤ k ∧ k < w.heap.size := World.ownsRow.lt h
theorem Own.mono {w : World} {base base' : Nat} {v : Value} {L : List Sm} (h : Own w base v L) (hb : base' ≤ base) : Own w base' v L := World.ownsRow.mono h hb
theorem grown_refl (w : World) (r : Option Nat) : w.grownBy w r := ⟨rfl, rfl, rfl, Nat.le_refl _, fun _ _ _ => rfl⟩

theorem eqO {w : World} {b b' : Nat} {v v' : Value} {L : List Sm} (hb : L.length ≤ 1048576) (h : Own w b v L) (h' : Own w b' v' L) :
    Calls Try.prog 16 #[v, v'] w fun e w' => e = .returned (.bool true) ∧ Below w.heap.size w w' := by
  obtain ⟨a, c, rfl⟩ := own_form h
  obtain ⟨a', c', rfl⟩ := own_form h'
  exact f16 a a' c c' L w hb h.has.2 h'.has.2
theorem markO {w : World} {base : Nat} {v : Value} {L : List Sm} (k : Nat) (hk : k + 2 * L.length ≤ 100000000) (h : Own w base v L) :
    Calls Try.prog 18 #[v, .int .i64 k] w fun e w' => e = .returned (.int .i64 ((k + 2 * L.length : Nat) : Int)) ∧ Own w' base v (markL k L.length) ∧ w.grownBy w' v.ownBlock := by
  rcases h.cases with ⟨rfl, rfl⟩ | ⟨g, c, rfl⟩
  · refine (f18n k w).mono ?_
    rintro e w' ⟨rfl, rfl⟩
    exact ⟨rfl, Own.nil _ _, grown_refl _ _⟩
  · refine (f18 g c base k L w hk h).mono ?_
    rintro e w' ⟨rfl, ho, hg⟩
    exact ⟨rfl, by unfold Own; rw [markL_len]; exact ho, hg⟩
theorem heldO {w : World} {base n : Nat} {v : Value} (k : Nat) (hk : k + 2 * n ≤ 100000000) (h : Own w base v (markL k n)) :
    Calls Try.prog 19 #[v, .int .i64 k] w fun e w' => e = .returned (.int .i64 ((k + 2 * n : Nat) : Int)) ∧ w' = w := by
  obtain ⟨a, c, rfl⟩ := own_form h
  rw [markL_len] at h ⊢
  exact f19 a n c k w hk h.has.2
theorem Own.to {w : World} {g : Nat} {ls : List Sm} (h : w.ownsRow g 30 2 (.slice (some ⟨g, 0, none⟩) ls.length ls.length) ls.length (flat ls)) : Own w g (.slice (some ⟨g, 0, none⟩) ls.length ls.length) ls := h
theorem cutA_len (ls : List Sm) (x y : Int) : (cutA ls x y).length ≤ ls.length := by
  unfold cutA
  split
  · exact cut_len _ _ _
  · simp

set_option maxHeartbeats 4000000 in
theorem walkCut (a : Option Addr) (c : Nat) (ls : List Sm) (x y : Int) (w : World) (hmax : ls.length ≤ maxLen) (hr : HasS w a ls) :
    Calls Try.prog 6 #[.slice a ls.length c, .int .i64 x, .int .i64 y] w fun e w' => e = .returned (.bool true) ∧ Below w.heap.size w w' := by
  have HM := hid hmax
  have HR := hid hr
  clear hmax hr
  by_cases hbig : ls.length ≤ 1048576
  · have hif : (if (1048576 : Int) < (ls.length : Int) then (-1 : Int) else 1048576 - (ls.length : Int)) = 1048576 - (ls.length : Int) := if_neg (by omega)
    have hsl := Nat.le_trans (cutA_len ls x y) hbig
    go_enter Try.func6, Try.ntmps6
    go_wp2_with fail
    refine (f13 a ls.length c 1048576 _ HM.out (by omega) (by omega)).mono ?_
    rw [hif]
    rintro e w1 ⟨rfl, rfl⟩
    clear hif
    -- the model
    go_wp2_with fail
    refine (f14 a c ls _ hbig HR.out).mono ?_
    rintro e w2 ⟨rfl, ho2, hb2⟩
    have HB2 := hid hb2
    have A2 := hid (Own.to ho2).has.2
    clear hb2 ho2
    go_wp2_with fail
    refine (f20 _ _ ls x y _ hbig A2.out).mono ?_
    rintro e w3 ⟨v0, rfl, ho3, hb3⟩
    generalize hsel : cutA ls x y = sel at *
    have HS := hid hsel
    clear hsel
    have HB3 := hid (HB2.out.trans (hb3.mono HB2.out.size))
    have V3 := hid ho3
    have BV : Hid (∀ k, v0.ownBlock = some k → k < w3.heap.size) := fun k hk => (V3.out.lt k hk).2
    clear hb3 ho3 A2
    -- the program
    go_wp2_with fail
    refine (f14 a c ls _ hbig (HR.out.below HB3.out)).mono ?_
    rintro e w4 ⟨rfl, ho4, hb4⟩
    have HB4 := hid (HB3.out.trans (hb4.mono HB3.out.size))
    have V4 := hid (V3.out.below hb4)
    have X4 := hid (Own.to ho4)
    have l34 : w3.heap.size < w4.heap.size := (ho4.lt _ rfl).2
    clear hb4 ho4 V3
    go_wp2_with fail
    refine (f12 _ _ ls x y _ hbig X4.out.has.2 (Nat.le_refl _)).mono ?_
    rintro e w5 ⟨g0, rfl, ho5, hb5⟩
    rw [HS.out] at ho5
    have HB5 := hid (HB4.out.trans (hb5.mono HB4.out.size))
    have V5 := hid (V4.out.below hb5)
    have X5 := hid (X4.out.below hb5)
    have G5 := hid ho5
    have BG : Hid (∀ k, g0.ownBlock = some k → w4.heap.size ≤ k) := fun k hk => (G5.out.lt k hk).1
    clear hb5 ho5 V4 X4
    go_wp2_with fail
    refine (eqO (by omega) G5.out V5.out).mono ?_
    rintro e w6 ⟨rfl, hb6⟩
    have HB6 := hid (HB5.out.trans (hb6.mono HB5.out.size))
    have V6 := hid (V5.out.below hb6)
    have X6 := hid (X5.out.below hb6)
    have G6 := hid (G5.out.below hb6)
    clear hb6 V5 X5 G5
    -- the argument stays
    go_wp2_with fail
    refine (f14 a c ls _ hbig (HR.out.below HB6.out)).mono ?_
    rintro e w7 ⟨rfl, ho7, hb7⟩
    have HB7 := hid (HB6.out.trans (hb7.mono HB6.out.size))
    have V7 := hid (V6.out.below hb7)
    have X7 := hid (X6.out.below hb7)
    have G7 := hid (G6.out.below hb7)
    have T7 := hid (Own.to ho7)
    clear hb7 ho7 V6 X6 G6
    go_wp2_with fail
    refine (eqO hbig X7.out T7.out).mono ?_
    rintro e w8 ⟨rfl, hb8⟩
    have HB8 := hid (HB7.out.trans (hb8.mono HB7.out.size))
    have V8 := hid (V7.out.below hb8)
    have X8 := hid (X7.out.below hb8)
    have G8 := hid (G7.out.below hb8)
    clear hb8 V7 X7 G7 T7
    -- marks in the argument
    go_wp2_with fail
    refine (markO 1 (by omega) X8.out).mono ?_
    rintro e w9 ⟨rfl, _, hg9⟩
    have hg9' : w8.grownBy w9 (some w3.heap.size) := hg9
    have HB9 := hid (below_grown HB8.out hg9' HB8.out.size HB3.out.size)
    have V9 := hid (V8.out.kept hg9' (fun k hk e => by cases e; have := BV.out _ hk; omega))
    have G9 := hid (G8.out.kept hg9' (fun k hk e => by cases e; have := BG.out _ hk; omega))
    clear hg9 hg9' V8 X8 G8
    go_wp2_with fail
    refine (eqO (by omega) G9.out V9.out).mono ?_
    rintro e w10 ⟨rfl, hb10⟩
    have HB10 := hid (HB9.out.trans (hb10.mono HB9.out.size))
    have V10 := hid (V9.out.below hb10)
    have G10 := hid (G9.out.below hb10)
    clear hb10 V9 G9
    -- marks in the answer
    go_wp2_with fail
    refine (markO 1 (by omega) G10.out).mono ?_
    rintro e w11 ⟨rfl, ho11, hg11⟩
    have HB11 := hid (HB10.out.grown hg11 HB10.out.size (fun k hk => Nat.le_trans HB4.out.size (BG.out k hk)))
    have V11 := hid (V10.out.kept hg11 (fun k hk e => by have h1 := BG.out _ e; have h2 := BV.out _ hk; omega))
    have G11 := hid ho11
    clear ho11 hg11 V10 G10
    go_wp2_with fail
    refine (heldO 1 (by omega) G11.out).mono ?_
    rintro e w12 ⟨rfl, rfl⟩
    -- once more
    go_wp2_with fail
    refine (f14 a c ls _ hbig (HR.out.below HB11.out)).mono ?_
    rintro e w13 ⟨rfl, ho13, hb13⟩
    have HB13 := hid (HB11.out.trans (hb13.mono HB11.out.size))
    have V13 := hid (V11.out.below hb13)
    have G13 := hid (G11.out.below hb13)
    have T13 := hid (Own.to ho13).has.2
    clear hb13 ho13 V11 G11
    go_wp2_with fail
    refine (f12 _ _ ls x y _ hbig T13.out (Nat.le_refl _)).mono ?_
    rintro e w14 ⟨h0, rfl, ho14, hb14⟩
    rw [HS.out] at ho14
    have HB14 := hid (HB13.out.trans (hb14.mono HB13.out.size))
    have V14 := hid (V13.out.below hb14)
    have G14 := hid (G13.out.below hb14)
    have H14 := hid ho14
    clear hb14 ho14 V13 G13
    go_wp2_with fail
    refine (eqO (by omega) H14.out V14.out).mono ?_
    rintro e w15 ⟨rfl, hb15⟩
    have HB15 := hid (HB14.out.trans (hb15.mono HB14.out.size))
    have G15 := hid (G14.out.below hb15)
    clear hb15 H14 V14 G14
    go_wp2_with fail
    refine (heldO 1 (by omega) G15.out).mono ?_
    rintro e w16 ⟨rfl, rfl⟩
    go_wp2
    go_ret
    exact ⟨rfl, HB15.out⟩
  · have hif : (if (1048576 : Int) < (ls.length : Int) then (-1 : Int) else 1048576 - (ls.length : Int)) = -1 := if_pos (by omega)
    go_enter Try.func6, Try.ntmps6
    go_wp2_with fail
    refine (f13 a ls.length c 1048576 _ HM.out (by omega) (by omega)).mono ?_
    rw [hif]
    rintro e w1 ⟨rfl, rfl⟩
    go_wp2
    go_ret
    exact ⟨rfl, Below.refl _ _⟩
end Go.Proofs.Ytfccbgadkppfiaa.Smp
