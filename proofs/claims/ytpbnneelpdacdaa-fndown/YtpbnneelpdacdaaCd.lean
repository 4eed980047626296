/- Both SampleOvers; the walk of FnExactSampleOver. -/
import Derived.Test.YtpbnneelpdacdaaCc
import Derived.Test.YtpbnneelpdacdaaBg
namespace Go.Proofs.Ytpbnneelpdacdaa.Agl
open Go.RowKit Go.Shelf
open Go.Proofs.Ytpbnneelpdacdaa.Smp (Sm HasS goodS)

def val (L : List Sm) (i : Nat) : Int := (L.getD i Smp.e0).2
/-- The first k, put together. -/
def al (L : List Sm) (k : Nat) : Ag := allM ((L.take k).map one)
theorem al_succ {L : List Sm} {k : Nat} (hk : k < L.length) : al L (k + 1) = if (al L k).n = 0 then one (L.getD k Smp.e0) else mrg (al L k) (one (L.getD k Smp.e0)) := by
  have e : L[k] = L.getD k Smp.e0 := by simp [hk]
  unfold al
  rw [List.take_succ_eq_append_getElem hk, List.map_append, List.map_singleton, allM_snoc, e]
theorem al_acc {T : Int} {L : List Sm} (h2 : L.length ≤ 2000) (hf : ∀ p ∈ L, Smp.In64 p.2) : ∀ k, 1 ≤ k → k ≤ L.length → (al L k).n = (k : Int) ∧ (al L k).s = (acc T L k).s ∧ (al L k).mi = (acc T L k).mi ∧ (al L k).ma = (acc T L k).ma ∧ (al L k).f = val L 0 ∧ (al L k).l = val L (k - 1) ∧ (al L k).r = (acc T L k).r := by
  intro k
  induction k with
  | zero => intro h; omega
  | succ k ih =>
    intro _ hk
    have hlt : k < L.length := by omega
    rw [al_succ hlt]
    cases k with
    | zero =>
      have e0 : (al L 0).n = 0 := rfl
      rw [if_pos e0]
      refine ⟨rfl, ?_, ?_, ?_, rfl, rfl, rfl⟩
      · show val L 0 = wrap64 (0 + val L 0)
        have h := hf (L.getD 0 Smp.e0) (by rw [show L.getD 0 Smp.e0 = L[0] by simp [hlt]]; exact List.getElem_mem _)
        have h' : -9223372036854775808 ≤ val L 0 ∧ val L 0 ≤ 9223372036854775807 := h
        unfold wrap64
        omega
      · show val L 0 = if val L 0 < val L 0 then val L 0 else val L 0
        simp
      · show val L 0 = if val L 0 < val L 0 then val L 0 else val L 0
        simp
    | succ j =>
      obtain ⟨i1, i2, i3, i4, i5, i6, i7⟩ := ih (by omega) (by omega)
      rw [if_neg (by rw [i1]; omega), acc_succ]
      refine ⟨?_, ?_, ?_, ?_, i5, rfl, ?_⟩
      · show wrap64 ((al L (j + 1)).n + 1) = _
        rw [i1]
        unfold wrap64
        omega
      · show wrap64 ((al L (j + 1)).s + val L (j + 1)) = wrap64 ((acc T L (j + 1)).s + val L (j + 1))
        rw [i2]
      · show min (al L (j + 1)).mi (val L (j + 1)) = if val L (j + 1) < (acc T L (j + 1)).mi then val L (j + 1) else (acc T L (j + 1)).mi
        rw [i3]
        generalize (acc T L (j + 1)).mi = x
        generalize val L (j + 1) = y
        split <;> omega
      · show max (al L (j + 1)).ma (val L (j + 1)) = if (acc T L (j + 1)).ma < val L (j + 1) then val L (j + 1) else (acc T L (j + 1)).ma
        rw [i4]
        generalize (acc T L (j + 1)).ma = x
        generalize val L (j + 1) = y
        split <;> omega
      · show wrap64 ((al L (j + 1)).r + 0 + rise (al L (j + 1)).l (val L (j + 1))) = if 0 < j + 1 then wrap64 ((acc T L (j + 1)).r + rise (val L (j + 1 - 1)) (val L (j + 1))) else (acc T L (j + 1)).r
        rw [if_pos (by omega), i7, i6, Int.add_zero]
theorem acc_same (T : Int) (L : List Sm) : ∀ k, (acc T L k).n = (L.length : Int) ∧ (acc T L k).f = val L 0 ∧ (acc T L k).l = val L (L.length - 1) := by
  intro k
  induction k with
  | zero => exact ⟨rfl, rfl, rfl⟩
  | succ k ih => exact ih
theorem telM_same {o : Int} {p q : Ag} (h1 : p.n = q.n) (h2 : p.s = q.s) (h3 : p.mi = q.mi) (h4 : p.ma = q.ma) (h5 : p.f = q.f) (h6 : p.l = q.l) (h7 : p.r = q.r) : telM o p = telM o q := by
  obtain ⟨a0, a1, a2, a3, a4, a5, a6, a7⟩ := p
  obtain ⟨b0, b1, b2, b3, b4, b5, b6, b7⟩ := q
  simp only at h1 h2 h3 h4 h5 h6 h7
  subst h1 h2 h3 h4 h5 h6 h7
  rfl
theorem tel_acc {o T : Int} {L : List Sm} (h2 : L.length ≤ 2000) (hf : ∀ p ∈ L, Smp.In64 p.2) (hp : 0 < L.length) : telM o (allM (L.map one)) = telM o (acc T L L.length) := by
  have h := al_acc (T := T) h2 hf L.length (by omega) (Nat.le_refl _)
  unfold al at h
  rw [List.take_of_length_le (Nat.le_refl _)] at h
  obtain ⟨i1, i2, i3, i4, i5, i6, i7⟩ := h
  obtain ⟨j1, j2, j3⟩ := acc_same T L L.length
  exact telM_same (i1.trans j1.symm) i2 i3 i4 (i5.trans j2.symm) (i6.trans j3.symm) i7
theorem fit_cut {ls : List Sm} {x y : Int} (h : Smp.Fit ls) : ∀ p ∈ real (Smp.cut ls x y), Smp.In64 p.2 := by
  intro p hp
  have h1 : p ∈ ls := (List.mem_filter.1 (List.mem_filter.1 hp).1).1
  obtain ⟨i, hi, rfl⟩ := List.mem_iff_getElem.1 h1
  have := (h i).2
  rw [show ls.getD i Smp.e0 = ls[i] by simp [hi]] at this
  exact this
theorem piece_has {w : World} {L : List Sm} {v : Value} (h : Smp.Piece w L v) : ∃ a c, v = .slice a L.length c ∧ HasS w a L := by
  rcases h with ⟨rfl, rfl⟩ | ⟨_, b, off, rfl, h⟩
  · exact ⟨none, 0, rfl, .inl rfl⟩
  · exact ⟨_, _, rfl, h⟩
def smpOv (ls : List Sm) (fr to_ o : Int) : Int × Bool := if goodS ls = true ∧ SpanP fr to_ then telM o (allM (ones (Smp.cut ls (fr + 1) to_))) else (0, false)
theorem good_s {ls : List Sm} (h : goodS ls = true) : Smp.GoodP ls := of_decide_eq_true h
theorem ones_n (L : List Sm) : ∀ p ∈ ones L, 1 ≤ p.n ∧ p.n ≤ 2000 := by
  intro p hp
  unfold ones at hp
  obtain ⟨q, _, rfl⟩ := List.mem_map.1 hp
  exact ⟨by show (1 : Int) ≤ 1; omega, by show (1 : Int) ≤ 2000; omega⟩
theorem ones_len (L : List Sm) : (ones L).length ≤ L.length := by unfold ones real; rw [List.length_map]; exact List.length_filter_le _ _

set_option maxRecDepth 100000 in
set_option maxHeartbeats 4000000 in
theorem f13 (a : Option Addr) (c : Nat) (fr to_ o : Int) (ls : List Sm) (w : World) (hmax : ls.length ≤ 1048576) (hr : HasS w a ls) (hcap : ls.length ≤ c) :
    Calls Try.prog 13 #[.slice a ls.length c, .int .i64 fr, .int .i64 to_, .int .i64 o] w fun e w' => e = .returned (.tuple #[.int .i64 (smpOv ls fr to_ o).1, .bool (smpOv ls fr to_ o).2]) ∧ Below w.heap.size w w' := by
  have HGd := hid (Smp.f29 a c ls w (by unfold maxLen; omega) hr)
  have HR := hid hr
  clear hr
  by_cases hg : goodS ls = true
  rotate_left
  · have hg' : goodS ls = false := by simpa using hg
    have HA : Hid (smpOv ls fr to_ o = (0, false)) := if_neg fun h => hg h.1
    have HSp : Hid (decide (SpanP fr to_) = decide (SpanP fr to_)) := rfl
    rw [hg'] at HGd
    go_enter Try.func13, Try.ntmps13
    go_wp2_with (first | (go_at_call 29; refine HGd.out.mono ?_; rintro e w2 ⟨rfl, hb2⟩) | (go_at_call 38; refine (f38 fr to_ _).mono ?_; rw [HSp.out]; rintro e w3 ⟨rfl, rfl⟩))
    refine bodyPost_ret (v := .tuple #[.int .i64 0, .bool false]) (by simp [results, Try.results13, go_sem]) rfl ⟨by rw [HA.out], hb2⟩
  have HGood := hid hg
  rw [hg] at HGd
  clear hg
  by_cases hs : SpanP fr to_
  rotate_left
  · have HSp := hid (decide_eq_false hs)
    have HA : Hid (smpOv ls fr to_ o = (0, false)) := if_neg fun h => hs h.2
    clear hs
    go_enter Try.func13, Try.ntmps13
    go_wp2_with (first | (go_at_call 29; refine HGd.out.mono ?_; rintro e w2 ⟨rfl, hb2⟩) | (go_at_call 38; refine (f38 fr to_ _).mono ?_; rw [HSp.out]; rintro e w3 ⟨rfl, rfl⟩))
    refine bodyPost_ret (v := .tuple #[.int .i64 0, .bool false]) (by simp [results, Try.results13, go_sem]) rfl ⟨by rw [HA.out], hb2⟩
  have HSp := hid (decide_eq_true hs)
  have HSpan := hid hs
  obtain ⟨s1, s2, s3⟩ := hs
  have HA : Hid (smpOv ls fr to_ o = telM o (allM (ones (Smp.cut ls (fr + 1) to_)))) := if_pos ⟨HGood.out, HSpan.out⟩
  have hc2 : (Smp.cut ls (fr + 1) to_).length ≤ 2000 := Nat.le_trans (Smp.cut_len _ _ _) (good_s HGood.out).1
  have HRl := hid (tel_all (xs := ones (Smp.cut ls (fr + 1) to_)) o (ones_n _) (Nat.le_trans (ones_len _) hc2))
  have HLn : Hid ((ones (Smp.cut ls (fr + 1) to_)).length ≤ 1048576) := Nat.le_trans (ones_len _) (by omega)
  have HC2 := hid hc2
  have HW := fun x (hx : HasS x a ls) => hid (Smp.f40 a c ls (fr + 1) to_ x (good_s HGood.out) hx hcap)
  have hw1 : wrap64 (fr + 1) = fr + 1 := by unfold wrap64; omega
  clear hc2
  generalize Smp.cut ls (fr + 1) to_ = L at *
  go_enter Try.func13, Try.ntmps13
  go_wp2_with (first | (go_at_call 29; refine HGd.out.mono ?_; rintro e w2 ⟨rfl, hb2⟩) | (go_at_call 38; refine (f38 fr to_ _).mono ?_; rw [HSp.out]; rintro e w3 ⟨rfl, rfl⟩) | (go_at_call 40; refine (HW _ (HR.out.below hb2)).out.mono ?_; rintro e w4 ⟨v4, rfl, hp4, hb4⟩; obtain ⟨a4, c4, hv4, hr4⟩ := piece_has hp4; subst hv4; have HR4 := hid hr4; clear hp4 hr4) | (go_at_call 32; refine (f32 _ _ _ _).mono ?_; rintro e w5 ⟨rfl, hw5⟩; have HW5 := hid hw5; clear hw5) | (go_at_call 39; obtain ⟨hb5, hseq⟩ := ones_stops (by have := HC2.out; omega) HR4.out HW5.out; refine (f39 o _ _ HLn.out (enters_of Try.func57 (by kernel_rfl) rfl) hseq HRl.out.1).mono ?_; rw [HRl.out.2]; rintro e w6 ⟨rfl, hb6⟩))
  have HB6 := hid (hb2.trans ((hb4.trans ((hb5.trans (hb6.mono hb5.size)).mono hb4.size)).mono hb2.size))
  refine bodyPost_ret (v := .tuple #[.int .i64 (telM o (allM (ones L))).1, .bool (telM o (allM (ones L))).2]) (by simp [results, Try.results13, go_sem]) rfl ⟨by rw [HA.out], HB6.out⟩

set_option maxRecDepth 100000 in
set_option maxHeartbeats 4000000 in
theorem f16 (a : Option Addr) (c : Nat) (fr to_ o : Int) (ls : List Sm) (w : World) (hmax : ls.length ≤ 1048576) (hr : HasS w a ls) (hfit : Smp.Fit ls) :
    Calls Try.prog 16 #[.slice a ls.length c, .int .i64 fr, .int .i64 to_, .int .i64 o] w fun e w' => e = .returned (.tuple #[.int .i64 (smpOv ls fr to_ o).1, .bool (smpOv ls fr to_ o).2]) ∧ Below w.heap.size w w' := by
  have HGd := hid (Smp.f8 a c ls w hmax hr)
  have HR := hid hr
  clear hr
  by_cases hg : goodS ls = true
  rotate_left
  · have hg' : goodS ls = false := by simpa using hg
    have HA : Hid (smpOv ls fr to_ o = (0, false)) := if_neg fun h => hg h.1
    have HSp : Hid (decide (SpanP fr to_) = decide (SpanP fr to_)) := rfl
    rw [hg'] at HGd
    go_enter Try.func16, Try.ntmps16
    go_wp2_with (first | (go_at_call 8; refine HGd.out.mono ?_; rintro e w2 ⟨rfl, hb2⟩) | (go_at_call 42; refine (f42 fr to_ _).mono ?_; rw [HSp.out]; rintro e w3 ⟨rfl, rfl⟩))
    refine bodyPost_ret (v := .tuple #[.int .i64 0, .bool false]) (by simp [results, Try.results16, go_sem]) rfl ⟨by rw [HA.out], hb2⟩
  have HGood := hid hg
  rw [hg] at HGd
  clear hg
  by_cases hs : SpanP fr to_
  rotate_left
  · have HSp := hid (decide_eq_false hs)
    have HA : Hid (smpOv ls fr to_ o = (0, false)) := if_neg fun h => hs h.2
    clear hs
    go_enter Try.func16, Try.ntmps16
    go_wp2_with (first | (go_at_call 8; refine HGd.out.mono ?_; rintro e w2 ⟨rfl, hb2⟩) | (go_at_call 42; refine (f42 fr to_ _).mono ?_; rw [HSp.out]; rintro e w3 ⟨rfl, rfl⟩))
    refine bodyPost_ret (v := .tuple #[.int .i64 0, .bool false]) (by simp [results, Try.results16, go_sem]) rfl ⟨by rw [HA.out], hb2⟩
  have HSp := hid (decide_eq_true hs)
  have HSpan := hid hs
  obtain ⟨s1, s2, s3⟩ := hs
  have HA : Hid (smpOv ls fr to_ o = telM o (allM (ones (Smp.cut ls (fr + 1) to_)))) := if_pos ⟨HGood.out, HSpan.out⟩
  have hc2 : (Smp.cut ls (fr + 1) to_).length ≤ 2000 := Nat.le_trans (Smp.cut_len _ _ _) (good_s HGood.out).1
  have HW := fun x (hx : HasS x a ls) => hid (Smp.f44 a c ls (fr + 1) to_ x hmax hx)
  have hw1 : wrap64 (fr + 1) = fr + 1 := by unfold wrap64; omega
  have HFt := hid (fit_cut (x := fr + 1) (y := to_) hfit)
  clear hfit
  generalize Smp.cut ls (fr + 1) to_ = L at *
  have hl2 : (real L).length ≤ 2000 := Nat.le_trans (List.length_filter_le _ _) hc2
  have HO : Hid (ones L = (real L).map one) := rfl
  rw [HO.out] at HA
  go_enter Try.func16, Try.ntmps16
  go_wp2_with (first | (go_at_call 8; refine HGd.out.mono ?_; rintro e w2 ⟨rfl, hb2⟩) | (go_at_call 42; refine (f42 fr to_ _).mono ?_; rw [HSp.out]; rintro e w3 ⟨rfl, rfl⟩))
  refine (HW _ (HR.out.below hb2)).out.mono ?_
  rintro e w4 ⟨v4, rfl, ho4, hb4⟩
  obtain ⟨a4, c4, rfl⟩ := Smp.own_form ho4
  have hr4 := HasS.own ho4
  go_wp2_with fail
  refine (Smp.f43 a4 c4 L _ (by omega) hr4).mono ?_
  rintro e w5 ⟨v5, rfl, ho5, hb5⟩
  have HB5 := hid (hb2.trans ((hb4.trans (hb5.mono hb4.size)).mono hb2.size))
  have HO5 := hid ho5
  clear hb5 hb4 ho4 hr4 HW HR HGd HSp hb2 ho5
  by_cases hz : real L = []
  · have hv5 : v5 = .slice none 0 0 ∨ ∃ g c, v5 = .slice (some ⟨g, 0, none⟩) 0 c := by
      have h := HO5.out
      unfold Smp.Own at h
      rw [hz] at h
      rcases h.2 with ⟨h1, _⟩ | ⟨g, cap, cur, h1, _⟩
      · exact .inl h1
      · exact .inr ⟨g, cap, h1⟩
    have HM : Hid (telM o (allM ((real L).map one)) = (0, false)) := by unfold Hid; rw [hz]; rfl
    clear hz
    rcases hv5 with rfl | ⟨g, c5, rfl⟩
    · go_wp2
      refine bodyPost_ret (v := .tuple #[.int .i64 0, .bool false]) (by simp [results, Try.results16, go_sem]) rfl ⟨by rw [HA.out, HM.out], HB5.out⟩
    · go_wp2
      refine bodyPost_ret (v := .tuple #[.int .i64 0, .bool false]) (by simp [results, Try.results16, go_sem]) rfl ⟨by rw [HA.out, HM.out], HB5.out⟩
  · have hp : 0 < (real L).length := List.length_pos_iff.2 hz
    obtain ⟨g, c5, hv5⟩ : ∃ g c, v5 = .slice (some ⟨g, 0, none⟩) (real L).length c := by
      have h := HO5.out
      unfold Smp.Own at h
      rcases h.2 with ⟨_, h1⟩ | ⟨g, cap, cur, h1, _⟩
      · omega
      · exact ⟨g, cap, h1⟩
    subst hv5
    have HS5 := hid (HasS.own HO5.out)
    have HAc := fun x (hx : HasS x (some ⟨g, 0, none⟩) (real L)) => hid (f46 g 0 c5 to_ (real L) x hp (by omega) hx)
    have HTl := hid (tel_acc (o := o) (T := to_) hl2 HFt.out hp)
    have hn : 0 < (acc to_ (real L) (real L).length).n := by rw [(acc_same to_ (real L) (real L).length).1]; omega
    have HOv := fun x => hid (f45 (acc to_ (real L) (real L).length) o x hn)
    rw [HTl.out] at HA
    clear hn hz HTl HO5
    generalize acc to_ (real L) (real L).length = q at *
    have hne : (((real L).length : Int) == 0) = false := by rw [beq_eq_false_iff_ne]; omega
    generalize (real L).length = n at *
    go_wp2_with (first | (go_at_call 46; refine (HAc _ HS5.out).out.mono ?_; rintro e w6 ⟨rfl, hb6⟩) | (go_at_call 45; refine (HOv _).out.mono ?_; rintro e w7 ⟨rfl, hb7⟩))
    have HB7 := hid (HB5.out.trans ((hb6.trans (hb7.mono hb6.size)).mono HB5.out.size))
    refine bodyPost_ret (v := .tuple #[.int .i64 (telM o q).1, .bool (telM o q).2]) (by simp [results, Try.results16, go_sem]) rfl ⟨by rw [HA.out], HB7.out⟩

set_option maxHeartbeats 1000000 in
theorem walkSOver (a : Option Addr) (c : Nat) (fr to_ o : Int) (ls : List Sm) (w : World) (hmax : ls.length ≤ maxLen) (hr : HasS w a ls) (hfit : Smp.Fit ls) :
    Calls Try.prog 4 #[.slice a ls.length c, .int .i64 fr, .int .i64 to_, .int .i64 o] w fun e w' => e = .returned (.bool true) ∧ Below w.heap.size w w' := by
  have HM := hid hmax
  obtain ⟨v, hv⟩ : ∃ v, v = smpOv ls fr to_ o := ⟨_, rfl⟩
  have HV := hid hv
  clear hv
  by_cases hbig : ls.length ≤ 1048576
  · have hif : (if (1048576 : Int) < (ls.length : Int) then (-1 : Int) else 1048576 - (ls.length : Int)) = 1048576 - (ls.length : Int) := if_neg (by omega)
    go_enter Try.func4, Try.ntmps4
    go_wp2_with fail
    refine (Smp.f15 a ls.length c 1048576 _ HM.out (by omega) (by omega)).mono ?_
    rw [hif]
    rintro e w1 ⟨rfl, rfl⟩
    go_wp2_with fail
    refine (Smp.f17 a c ls _ hbig hr).mono ?_
    rintro e w2 ⟨rfl, ho2, hb2⟩
    have HB2 := hid hb2
    have hr2 := hr.below hb2
    clear hb2
    go_wp2_with fail
    refine (f16 _ _ fr to_ o ls _ hbig (Smp.HasS.own ho2) hfit).mono ?_
    rintro e w3 ⟨rfl, hb3⟩
    have HB3 := hid (HB2.out.trans (hb3.mono HB2.out.size))
    have hr3 := hr2.below hb3
    clear hb3 ho2
    go_wp2_with fail
    refine (Smp.f17 a c ls _ hbig hr3).mono ?_
    rintro e w4 ⟨rfl, ho4, hb4⟩
    have HB4 := hid (HB3.out.trans (hb4.mono HB3.out.size))
    have hr4 := hr3.below hb4
    clear hb4
    go_wp2_with fail
    refine (f13 _ _ fr to_ o ls _ hbig (Smp.HasS.own ho4) (Nat.le_refl _)).mono ?_
    rintro e w5 ⟨rfl, hb5⟩
    have HB5 := hid (HB4.out.trans (hb5.mono HB4.out.size))
    have hr5 := hr4.below hb5
    have hx5 := (Smp.HasS.own ho4).below hb5
    clear hb5 ho4
    rw [← HV.out]
    obtain ⟨g0, g1⟩ := v
    simp only
    go_wp2_with fail
    refine (Smp.f17 a c ls _ hbig hr5).mono ?_
    rintro e w6 ⟨rfl, ho6, hb6⟩
    have HB6 := hid (HB5.out.trans (hb6.mono HB5.out.size))
    have hx6 := hx5.below hb6
    clear hb6
    go_wp2_with fail
    refine (Smp.f18 _ _ _ _ ls _ hbig hx6 (Smp.HasS.own ho6)).mono ?_
    rintro e w7 ⟨rfl, hb7⟩
    have HB7 := hid (HB6.out.trans (hb7.mono HB6.out.size))
    clear hb7 ho6
    go_wp2
    go_ret
    exact ⟨rfl, HB7.out⟩
  · have hif : (if (1048576 : Int) < (ls.length : Int) then (-1 : Int) else 1048576 - (ls.length : Int)) = -1 := if_pos (by omega)
    go_enter Try.func4, Try.ntmps4
    go_wp2_with fail
    refine (Smp.f15 a ls.length c 1048576 _ HM.out (by omega) (by omega)).mono ?_
    rw [hif]
    rintro e w1 ⟨rfl, rfl⟩
    go_wp2
    go_ret
    exact ⟨rfl, Below.refl _ _⟩
end Go.Proofs.Ytpbnneelpdacdaa.Agl
