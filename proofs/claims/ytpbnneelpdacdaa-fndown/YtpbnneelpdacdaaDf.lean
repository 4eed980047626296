/- slices.Values at aggs, an iterator; the program's DownAggs. -/
import Derived.Test.YtpbnneelpdacdaaDe
namespace Go.Proofs.Ytpbnneelpdacdaa.Agl
open Go.RowKit Go.Shelf
attribute [local go_sem] Oper.semAt_some

set_option maxRecDepth 100000 in
set_option maxHeartbeats 4000000 in
theorem vals_in (l B0 n₀ : Nat) (a : Option Addr) (c : Nat) (ls : List Ag) (J Jx : List Ag → World → Prop) (W : World) (hJ : AbidesFrom W.heap.size J)
    (hY : ∀ pre x W1, J pre W1 → pre.length < ls.length → YieldAt Fence.wide (2 - 1) Try.prog l #[valA x] W1 fun e W' => (e = .returned (.bool true) ∧ J (pre ++ [x]) W' ∧ Below n₀ W1 W') ∨ (e = .returned (.bool false) ∧ Jx (pre ++ [x]) W'))
    (hl : ls.length ≤ 1048576) (hn : n₀ ≤ W.heap.size) (h0 : B0 < n₀) (c0 : W.cell? ⟨B0, 0, none⟩ = some (.slice a ls.length c))
    (hr : ls = [] ∨ ∃ b off, a = some ⟨b, off, none⟩ ∧ b < n₀ ∧ ∀ i, i < ls.length → AtA W b (off + i * 8) (ls.getD i a0)) (hs : J [] W) :
    CallsIn Fence.wide 2 Try.prog 63 #[.func (.yield l) #[] #[], .pointer (some ⟨B0, 0, none⟩)] W fun e W' => (∃ v, e = .returned v) ∧ ((∃ ys, ys = ls ∧ J ys W') ∨ (∃ pre, pre <+: ls ∧ Jx pre W')) := by
  generalize hn' : ls.length = n at *
  have HN := hid hn'
  clear hn'
  have HY := hid hY
  have HJ := hid hJ
  have HR := hid hr
  clear hY hJ hr
  refine callsIn_of_wp Try.func63 rfl trivial ?_ rfl
  simp only [Try.ntmps63, List.size_toArray, List.length_cons, List.length_nil, Nat.reduceAdd, Nat.reduceSub, Array.replicate_succ, Array.replicate_zero, List.push_toArray, List.append_toArray, List.nil_append, List.cons_append]
  gi_wp2
  gi_loopw [7] (fun si wr => ∃ k : Nat, k ≤ n ∧ si = .int .i64 k ∧ Hid (J (ls.take k) wr) ∧ Hid (Below n₀ W wr)) (fun si _ => n - (intOf si).toNat)
  case atStart => exact ⟨0, Nat.zero_le _, rfl, hs, Below.refl _ _⟩
  case round =>
    obtain ⟨k, hk, rfl, HJs, HX⟩ := hrel
    by_cases hlt : k < n
    rotate_left
    · obtain rfl : k = n := by omega
      have HE : Hid (J (ls) wr) := by
        have h := HJs.out
        rw [List.take_of_length_le (by rw [HN.out]; exact Nat.le_refl _)] at h
        exact h
      gi_wp2
      go_end0
      exact ⟨⟨_, rfl⟩, .inl ⟨_, rfl, HE.out⟩⟩
    rcases HR.out with hr | ⟨b, off, rfl, hbl, hc⟩
    · exact absurd HN.out (by rw [hr]; simp; omega)
    obtain ⟨d0, d1, d2, d3, d4, d5, d6, d7⟩ := (hc k hlt).below HX.out hbl
    have HH : Hid (ls.take (k + 1) = ls.take k ++ [ls.getD k a0]) := by
      unfold Hid
      rw [List.take_succ_eq_append_getElem (by rw [HN.out]; exact hlt)]
      congr 2
      simp [HN.out, hlt]
    have HLt : Hid ((ls.take k).length < n) := by unfold Hid; rw [List.length_take, HN.out]; omega
    have HPre : Hid (ls.take (k + 1) <+: ls) := List.take_prefix _ _
    clear hc
    generalize ls.getD k a0 = p at *
    obtain ⟨x0, x1, x2, x3, x4, x5, x6, x7⟩ := p
    simp only at d0 d1 d2 d3 d4 d5 d6 d7
    have i1 : (k : Int) < (n : Int) := by omega
    have hsz := HX.out.size
    have l0 : B0 < wr.heap.size := by omega
    have lb : b < wr.heap.size := by omega
    have HJa := hid (HJ.out _ wr _ none HJs.out (World.grownBy_alloc wr (.cells #[.int .i64 x0, .int .i64 x1, .int .i64 x2, .int .i64 x3, .int .i64 x4, .int .i64 x5, .int .i64 x6, .int .i64 x7] 33) none) (fun r e => by cases e))
    have HXa := hid (HX.out.alloc (by omega) (.cells #[.int .i64 x0, .int .i64 x1, .int .i64 x2, .int .i64 x3, .int .i64 x4, .int .i64 x5, .int .i64 x6, .int .i64 x7] 33))
    clear HJs
    obtain ⟨fn, tmps, assign, body, hy, hR⟩ := HY.out _ ⟨x0, x1, x2, x3, x4, x5, x6, x7⟩ _ HJa.out HLt.out
    simp only [valA] at hy
    have HRd := hid hR
    clear hR HLt HJa
    gi_wp2
    refine HRd.out.mono ?_
    rintro e W3 (⟨rfl, hJ3, hk3⟩ | ⟨rfl, hJx3⟩)
    · have HJ3 := hid hJ3
      have HX3 := hid (HXa.out.trans hk3)
      clear hJ3 hk3
      gi_wp2
      go_roundw
      case rel => exact ⟨k + 1, by omega, by go_num, by unfold Hid; rw [HH.out]; exact HJ3.out, HX3⟩
      case measure => simp [intOf]; omega
    · have HJ3 := hid hJx3
      clear hJx3
      gi_wp2
      refine bodyPost_ret (results_none rfl _ _ _) rfl ?_
      exact ⟨⟨_, rfl⟩, .inr ⟨_, by rw [← HH.out]; exact HPre.out, HJ3.out⟩⟩

theorem f37 (a : Option Addr) (n c : Nat) (w : World) :
    Calls Try.prog 37 #[.slice a n c] w fun e w' => e = .returned (.func (.func 63) #[] #[.pointer (some ⟨w.heap.size, 0, none⟩)]) ∧ w' = w.alloc (.cells #[.slice a n c] 28) := by
  go_enter Try.func37, Try.ntmps37
  go_wp2
  go_ret
  exact ⟨rfl, rfl⟩
theorem vals_stops {w w' : World} {a : Option Addr} {c : Nat} {ls : List Ag} (hl : ls.length ≤ 1048576) (hr : HasA w a ls) (hw : w' = w.alloc (.cells #[.slice a ls.length c] 28)) :
    Below w.heap.size w w' ∧ SeqStopsK Fence.wide 2 Try.prog 63 #[.pointer (some ⟨w.heap.size, 0, none⟩)] (fun p : Ag => #[valA p]) (Below w'.heap.size) (fun ys => ys = ls) (fun pre => pre <+: ls) ls.length w' := by
  have hb : Below w.heap.size w w' := by rw [hw]; exact (Below.refl w.heap.size w).alloc (Nat.le_refl _) _
  have hs : w'.heap.size = w.heap.size + 1 := by rw [hw]; simp
  have c0 : w'.cell? ⟨w.heap.size, 0, none⟩ = some (.slice a ls.length c) := by rw [hw]; go_simp
  refine ⟨hb, fun l J Jx W hW hJ _ hY h0 => ?_⟩
  refine vals_in l _ w'.heap.size a c ls J Jx W hJ hY hl hW.size (by omega) ((hW.cell (p := ⟨w.heap.size, 0, none⟩) (by simp only; omega)).trans c0) ?_ h0
  rcases hr with h | ⟨b, off, h1, h2, h3⟩
  · exact .inl h
  · exact .inr ⟨b, off, h1, by omega, fun i hi => ((h3 i hi).below hb h2).below hW (by omega)⟩
def TimesP (res k : Int) : Prop := 1 ≤ k ∧ k ≤ 1000 ∧ ResP (res * k)
instance (res k : Int) : Decidable (TimesP res k) := by unfold TimesP; infer_instance
/-- What DownAggs of the program comes to. -/
def dwnA (res k : Int) (ls : List Ag) : List Ag := if goodA res ls = true ∧ TimesP res k then (if goodA (res * k) (fw (winOf (res * k)) ls) = true then fw (winOf (res * k)) ls else []) else []

set_option maxRecDepth 100000 in
set_option maxHeartbeats 4000000 in
theorem f12 (a : Option Addr) (c : Nat) (res k : Int) (ls : List Ag) (w : World) (hmax : ls.length ≤ 1048576) (hr : HasA w a ls) :
    Calls Try.prog 12 #[.slice a ls.length c, .int .i64 res, .int .i64 k] w fun e w' => ∃ v, e = .returned v ∧ OwnA w' w.heap.size v (dwnA res k ls) ∧ Below w.heap.size w w' := by
  have HGd := hid (f36 a c res ls w hmax hr)
  have HR := hid hr
  clear hr
  by_cases hg : goodA res ls = true
  rotate_left
  · have hg' : goodA res ls = false := by simpa using hg
    have HA : Hid (dwnA res k ls = []) := if_neg fun h => hg h.1
    rw [hg'] at HGd
    go_enter Try.func12, Try.ntmps12
    go_wp2_with (go_at_call 36; refine HGd.out.mono ?_; rintro e w2 ⟨rfl, hb2⟩)
    go_ret
    exact ⟨_, rfl, by rw [HA.out]; exact OwnA.nil _ _, hb2⟩
  have HGood := hid hg
  rw [hg] at HGd
  obtain ⟨hn2, ⟨r1, r2⟩, -⟩ := good_n hg
  clear hg
  by_cases h1 : k < 1
  · have HA : Hid (dwnA res k ls = []) := if_neg fun h => absurd h.2.1 (by omega)
    go_enter Try.func12, Try.ntmps12
    go_wp2_with (go_at_call 36; refine HGd.out.mono ?_; rintro e w2 ⟨rfl, hb2⟩)
    go_ret
    exact ⟨_, rfl, by rw [HA.out]; exact OwnA.nil _ _, hb2⟩
  by_cases h2 : 1000 < k
  · have HA : Hid (dwnA res k ls = []) := if_neg fun h => absurd h.2.2.1 (by omega)
    go_enter Try.func12, Try.ntmps12
    go_wp2_with (go_at_call 36; refine HGd.out.mono ?_; rintro e w2 ⟨rfl, hb2⟩)
    go_ret
    exact ⟨_, rfl, by rw [HA.out]; exact OwnA.nil _ _, hb2⟩
  have hm1 : res * k ≤ 1000000 * k := Int.mul_le_mul_of_nonneg_right r2 (by omega)
  have hm2 : 1 * k ≤ res * k := Int.mul_le_mul_of_nonneg_right r1 (by omega)
  have hwm : wrap64 (res * k) = res * k := by
    generalize res * k = x at *
    unfold wrap64
    omega
  by_cases hs : ResP (res * k)
  rotate_left
  · have HSp := hid (decide_eq_false hs)
    have HA : Hid (dwnA res k ls = []) := if_neg fun h => hs h.2.2.2
    clear hs hm1 hm2
    go_enter Try.func12, Try.ntmps12
    go_wp2_with (first | (go_at_call 36; refine HGd.out.mono ?_; rintro e w2 ⟨rfl, hb2⟩) | (go_at_call 30; refine (f30 (res * k) _).mono ?_; rw [HSp.out]; rintro e w3 ⟨rfl, rfl⟩))
    go_ret
    exact ⟨_, rfl, by rw [HA.out]; exact OwnA.nil _ _, hb2⟩
  have HSp := hid (decide_eq_true hs)
  have HA : Hid (dwnA res k ls = if goodA (res * k) (fw (winOf (res * k)) ls) = true then fw (winOf (res * k)) ls else []) := if_pos ⟨HGood.out, by omega, by omega, hs⟩
  have hres : res * k ≠ 0 := by have := hs.1; omega
  have hfl := fw_len (winOf (res * k)) ls
  have HG2 := fun (x : World) (v : Value) (hv : OwnA x x.heap.size v (fw (winOf (res * k)) ls)) => hv
  clear hs hm1 hm2 HG2
  by_cases hgo : goodA (res * k) (fw (winOf (res * k)) ls) = true
  · rw [if_pos hgo] at HA
    have HGo := hid hgo
    clear hgo
    go_enter Try.func12, Try.ntmps12
    go_wp2_with (first | (go_at_call 30; refine (f30 (res * k) _).mono ?_; rw [HSp.out]; rintro e w3 ⟨rfl, rfl⟩) | (go_at_call 37; refine (f37 _ _ _ _).mono ?_; rintro e w5 ⟨rfl, hw5⟩; obtain ⟨hb5, hseq⟩ := vals_stops hmax (HR.out.below hb2) hw5; have HSq := hid hseq; clear hw5 hseq) | (go_at_call 33; refine (f33 _ _).mono ?_; rintro e w6 ⟨rfl, hw6⟩; obtain ⟨hb6, hc6, hl6⟩ := win_box hw6; have HC6 := hid (And.intro hc6 hl6); clear hw6 hc6 hl6) | (go_at_call 31; refine (foldW (winOf (res * k)) w5.heap.size ls w6 hmax (fun t W hW => f59 t (res * k) _ W hres ((hW.cell (p := ⟨w5.heap.size, 0, none⟩) HC6.out.2).trans HC6.out.1)) (enters_of Try.func63 (by kernel_rfl) rfl) (stops_below HSq.out hb6)).mono ?_; rintro e w7 ⟨v7, rfl, ho7, hn7, hb7⟩; obtain ⟨a7, c7, hv7⟩ := form_a ho7; subst hv7; have HO7 : Hid (OwnA w7 w6.heap.size (.slice a7 (fw (winOf (res * k)) ls).length c7) (fw (winOf (res * k)) ls)) := ho7; clear ho7 hn7) | (have hnot : (w : World) = w := rfl; go_at_call 36; refine HGd.out.mono ?_; rintro e w2 ⟨rfl, hb2⟩; clear HGd))
    have HB7 := hid (hb2.trans ((hb5.trans ((hb6.trans (hb7.mono hb6.size)).mono hb5.size)).mono hb2.size))
    have HW6 : Hid (w.heap.size ≤ w6.heap.size) := Nat.le_trans hb2.size (Nat.le_trans hb5.size hb6.size)
    clear hb2 hb5 hb6 hb7
    refine (f36 a7 c7 (res * k) _ w7 (by omega) (OwnA.has (L := fw (winOf (res * k)) ls) HO7.out).2).mono ?_
    rw [HGo.out]
    rintro e w8 ⟨rfl, hb8⟩
    have HO8 := hid (OwnA.below HO7.out hb8)
    have HB8 := hid (HB7.out.trans (hb8.mono HB7.out.size))
    clear hb8 HO7
    go_wp2
    go_ret
    exact ⟨_, rfl, by rw [HA.out]; exact World.ownsRow.mono HO8.out HW6.out, HB8.out⟩
  · rw [if_neg hgo] at HA
    have HGo : Hid (goodA (res * k) (fw (winOf (res * k)) ls) = false) := by simpa [Hid] using hgo
    clear hgo
    go_enter Try.func12, Try.ntmps12
    go_wp2_with (first | (go_at_call 30; refine (f30 (res * k) _).mono ?_; rw [HSp.out]; rintro e w3 ⟨rfl, rfl⟩) | (go_at_call 37; refine (f37 _ _ _ _).mono ?_; rintro e w5 ⟨rfl, hw5⟩; obtain ⟨hb5, hseq⟩ := vals_stops hmax (HR.out.below hb2) hw5; have HSq := hid hseq; clear hw5 hseq) | (go_at_call 33; refine (f33 _ _).mono ?_; rintro e w6 ⟨rfl, hw6⟩; obtain ⟨hb6, hc6, hl6⟩ := win_box hw6; have HC6 := hid (And.intro hc6 hl6); clear hw6 hc6 hl6) | (go_at_call 31; refine (foldW (winOf (res * k)) w5.heap.size ls w6 hmax (fun t W hW => f59 t (res * k) _ W hres ((hW.cell (p := ⟨w5.heap.size, 0, none⟩) HC6.out.2).trans HC6.out.1)) (enters_of Try.func63 (by kernel_rfl) rfl) (stops_below HSq.out hb6)).mono ?_; rintro e w7 ⟨v7, rfl, ho7, hn7, hb7⟩; obtain ⟨a7, c7, hv7⟩ := form_a ho7; subst hv7; have HO7 : Hid (OwnA w7 w6.heap.size (.slice a7 (fw (winOf (res * k)) ls).length c7) (fw (winOf (res * k)) ls)) := ho7; clear ho7 hn7) | (have hnot : (w : World) = w := rfl; go_at_call 36; refine HGd.out.mono ?_; rintro e w2 ⟨rfl, hb2⟩; clear HGd))
    have HB7 := hid (hb2.trans ((hb5.trans ((hb6.trans (hb7.mono hb6.size)).mono hb5.size)).mono hb2.size))
    have HW6 : Hid (w.heap.size ≤ w6.heap.size) := Nat.le_trans hb2.size (Nat.le_trans hb5.size hb6.size)
    clear hb2 hb5 hb6 hb7
    refine (f36 a7 c7 (res * k) _ w7 (by omega) (OwnA.has (L := fw (winOf (res * k)) ls) HO7.out).2).mono ?_
    rw [HGo.out]
    rintro e w8 ⟨rfl, hb8⟩
    have HB8 := hid (HB7.out.trans (hb8.mono HB7.out.size))
    clear hb8 HO7
    go_wp2
    go_ret
    exact ⟨_, rfl, by rw [HA.out]; exact OwnA.nil _ _, HB8.out⟩
end Go.Proofs.Ytpbnneelpdacdaa.Agl
