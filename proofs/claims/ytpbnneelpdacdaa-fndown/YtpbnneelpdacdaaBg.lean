/- The program's AggOver; the walk of FnExactAggOver. -/
import Derived.Test.YtpbnneelpdacdaaBf
namespace Go.Proofs.Ytpbnneelpdacdaa.Agl
open Go.RowKit Go.Shelf

theorem at_mrg (m p : Ag) : mrg (at_ z0 m) (at_ z0 p) = at_ z0 (mrg m p) := rfl
theorem ovr_at (o : Int) (m : Ag) : ovr o (at_ z0 m) = ovr o m := rfl
def Rel (M : List Ag) (m : Ag) (c : Nat) : Prop := (M = [] ∧ m = a0) ∨ (M = [at_ z0 m] ∧ 1 ≤ m.n ∧ m.n ≤ 2000 * (c : Int))
theorem rel_step {M : List Ag} {m p : Ag} {c : Nat} (h : Rel M m c) (hp : 1 ≤ p.n ∧ p.n ≤ 2000) (hc : c + 1 ≤ 2000) : Rel (stepW z0 M p) (if m.n = 0 then p else mrg m p) (c + 1) := by
  rcases h with ⟨rfl, rfl⟩ | ⟨rfl, h1, h2⟩
  · rw [step_new (fun h => h.1 rfl), if_pos (by rfl)]
    exact .inr ⟨rfl, hp.1, by omega⟩
  · rw [step_old ⟨by simp, rfl⟩, if_neg (by omega)]
    refine .inr ⟨?_, ?_⟩
    · show [mrg (at_ z0 m) (at_ z0 p)] = _
      rw [at_mrg]
    · show 1 ≤ wrap64 (m.n + p.n) ∧ wrap64 (m.n + p.n) ≤ _
      have hw : wrap64 (m.n + p.n) = m.n + p.n := by unfold wrap64; omega
      rw [hw]
      omega
theorem rel_all : ∀ (K M : List Ag) (m : Ag) (c : Nat), (∀ p ∈ K, 1 ≤ p.n ∧ p.n ≤ 2000) → c + K.length ≤ 2000 → Rel M m c → Rel (K.foldl (stepW z0) M) (K.foldl (fun m p => if m.n = 0 then p else mrg m p) m) (c + K.length) := by
  intro K
  induction K with
  | nil => intro M m c _ _ h; exact h
  | cons p K ih =>
    intro M m c hK hc h
    simp only [List.length_cons] at hc
    have := ih _ _ (c + 1) (fun q hq => hK q (List.mem_cons_of_mem _ hq)) (by omega) (rel_step h (hK p List.mem_cons_self) (by omega))
    simp only [List.foldl_cons, List.length_cons]
    rw [show c + (K.length + 1) = c + 1 + K.length by omega]
    exact this
theorem tel_all {xs : List Ag} (o : Int) (h : ∀ p ∈ xs, 1 ≤ p.n ∧ p.n ≤ 2000) (hl : xs.length ≤ 2000) : (∀ p ∈ fw z0 xs, 0 < p.n) ∧ tel o (fw z0 xs) = telM o (allM xs) := by
  have hr := rel_all xs [] a0 0 h (by omega) (.inl ⟨rfl, rfl⟩)
  have e1 : xs.foldl (stepW z0) [] = fw z0 xs := rfl
  have e2 : xs.foldl (fun m p => if m.n = 0 then p else mrg m p) a0 = allM xs := rfl
  rw [e1, e2] at hr
  rcases hr with ⟨h1, h2⟩ | ⟨h1, h2, _⟩
  · rw [h1, h2]
    exact ⟨fun p hp => by simp at hp, rfl⟩
  · rw [h1]
    refine ⟨fun p hp => ?_, ?_⟩
    · rw [List.mem_singleton.1 hp]
      show 0 < (allM xs).n
      omega
    · unfold telM
      rw [if_neg (by omega)]
      show (match ovr o (at_ z0 (allM xs)) with | some v => (v, true) | none => (0, false)) = _
      rw [ovr_at]
      cases ovr o (allM xs) <;> rfl

set_option maxRecDepth 100000 in
set_option maxHeartbeats 4000000 in
theorem f14 (a : Option Addr) (c : Nat) (res fr to_ o : Int) (ls : List Ag) (w : World) (hmax : ls.length ≤ 1048576) (hr : HasA w a ls) :
    Calls Try.prog 14 #[.slice a ls.length c, .int .i64 res, .int .i64 fr, .int .i64 to_, .int .i64 o] w fun e w' => e = .returned (.tuple #[.int .i64 (aggOv res ls fr to_ o).1, .bool (aggOv res ls fr to_ o).2]) ∧ Below w.heap.size w w' := by
  have HGd := hid (f36 a c res ls w hmax hr)
  have HR := hid hr
  clear hr
  by_cases hg : goodA res ls = true
  rotate_left
  · have hg' : goodA res ls = false := by simpa using hg
    have HA : Hid (aggOv res ls fr to_ o = (0, false)) := if_neg fun h => hg h.1
    have HSp : Hid (decide (SpanP fr to_) = decide (SpanP fr to_)) := rfl
    rw [hg'] at HGd
    go_enter Try.func14, Try.ntmps14
    go_wp2_with (first | (go_at_call 36; refine HGd.out.mono ?_; rintro e w2 ⟨rfl, hb2⟩) | (go_at_call 38; refine (f38 fr to_ _).mono ?_; rw [HSp.out]; rintro e w3 ⟨rfl, rfl⟩))
    refine bodyPost_ret (v := .tuple #[.int .i64 0, .bool false]) (by simp [results, Try.results14, go_sem]) rfl ⟨by rw [HA.out], hb2⟩
  have HGood := hid hg
  rw [hg] at HGd
  obtain ⟨hn2, ⟨r1, r2⟩, -⟩ := good_n hg
  have hn0 : res ≠ 0 := by omega
  clear hg
  by_cases hs : SpanP fr to_
  rotate_left
  · have HSp := hid (decide_eq_false hs)
    have HA : Hid (aggOv res ls fr to_ o = (0, false)) := if_neg fun h => hs h.2.1
    clear hs
    go_enter Try.func14, Try.ntmps14
    go_wp2_with (first | (go_at_call 36; refine HGd.out.mono ?_; rintro e w2 ⟨rfl, hb2⟩) | (go_at_call 38; refine (f38 fr to_ _).mono ?_; rw [HSp.out]; rintro e w3 ⟨rfl, rfl⟩))
    refine bodyPost_ret (v := .tuple #[.int .i64 0, .bool false]) (by simp [results, Try.results14, go_sem]) rfl ⟨by rw [HA.out], hb2⟩
  have HSp := hid (decide_eq_true hs)
  have HSpan := hid hs
  obtain ⟨s1, s2, s3⟩ := hs
  have hm1 : 0 ≤ fr → (fr != -1) = true := fun h => by rw [bne_iff_ne]; omega
  have hm2 : ¬ 0 ≤ fr → (fr != -1) = false := fun h => by rw [show fr = -1 by omega]; rfl
  have HM1 := hid hm1
  have HM2 := hid hm2
  clear hm1 hm2
  by_cases he : 0 ≤ fr → fr % res = 0
  rotate_left
  · have HA : Hid (aggOv res ls fr to_ o = (0, false)) := if_neg fun h => he h.2.2.1
    have hf0 : 0 ≤ fr := by
      by_cases h : 0 ≤ fr
      · exact h
      · exact absurd (fun h' => absurd h' h) he
    have n1 : (fr % res != 0) = true := by rw [bne_iff_ne]; exact fun h => he fun _ => h
    have et : fr.tmod res = fr % res := Int.tmod_eq_emod_of_nonneg hf0
    have n0 := HM1.out hf0
    clear he
    go_enter Try.func14, Try.ntmps14
    go_wp2_with (first | (go_at_call 36; refine HGd.out.mono ?_; rintro e w2 ⟨rfl, hb2⟩) | (go_at_call 38; refine (f38 fr to_ _).mono ?_; rw [HSp.out]; rintro e w3 ⟨rfl, rfl⟩))
    refine bodyPost_ret (v := .tuple #[.int .i64 0, .bool false]) (by simp [results, Try.results14, go_sem]) rfl ⟨by rw [HA.out], hb2⟩
  have HFr := hid he
  clear he
  by_cases ht : to_.tmod res = 0
  rotate_left
  · have HA : Hid (aggOv res ls fr to_ o = (0, false)) := if_neg fun h => ht h.2.2.2
    have n2 : (to_.tmod res != 0) = true := by rw [bne_iff_ne]; exact ht
    clear ht
    by_cases hf0 : 0 ≤ fr
    · have ht0 : to_.tmod res = to_ % res := Int.tmod_eq_emod_of_nonneg (by omega)
      have n1 : (fr % res != 0) = false := by rw [HFr.out hf0]; rfl
      have et : fr.tmod res = fr % res := Int.tmod_eq_emod_of_nonneg hf0
      rw [ht0] at n2
      have n0 := HM1.out hf0
      go_enter Try.func14, Try.ntmps14
      go_wp2_with (first | (go_at_call 36; refine HGd.out.mono ?_; rintro e w2 ⟨rfl, hb2⟩) | (go_at_call 38; refine (f38 fr to_ _).mono ?_; rw [HSp.out]; rintro e w3 ⟨rfl, rfl⟩))
      refine bodyPost_ret (v := .tuple #[.int .i64 0, .bool false]) (by simp [results, Try.results14, go_sem]) rfl ⟨by rw [HA.out], hb2⟩
    · have n0 := HM2.out hf0
      go_enter Try.func14, Try.ntmps14
      go_wp2_with (first | (go_at_call 36; refine HGd.out.mono ?_; rintro e w2 ⟨rfl, hb2⟩) | (go_at_call 38; refine (f38 fr to_ _).mono ?_; rw [HSp.out]; rintro e w3 ⟨rfl, rfl⟩))
      refine bodyPost_ret (v := .tuple #[.int .i64 0, .bool false]) (by simp [results, Try.results14, go_sem]) rfl ⟨by rw [HA.out], hb2⟩
  have HTo := hid ht
  have n2 : (to_.tmod res != 0) = false := by rw [ht]; rfl
  clear ht
  have HA : Hid (aggOv res ls fr to_ o = telM o (allM (within fr to_ ls))) := if_pos ⟨HGood.out, HSpan.out, HFr.out, HTo.out⟩
  have HRl := hid (tel_all (xs := within fr to_ ls) o (within_n HGood.out).2 (within_n HGood.out).1)
  have HLn : Hid ((within fr to_ ls).length ≤ 1048576) := Nat.le_trans (within_n HGood.out (fr := fr) (to_ := to_)).1 (by omega)
  by_cases hf0 : 0 ≤ fr
  · have ht0 : to_.tmod res = to_ % res := Int.tmod_eq_emod_of_nonneg (by omega)
    have n1 : (fr % res != 0) = false := by rw [HFr.out hf0]; rfl
    have et : fr.tmod res = fr % res := Int.tmod_eq_emod_of_nonneg hf0
    rw [ht0] at n2
    have n0 := HM1.out hf0
    go_enter Try.func14, Try.ntmps14
    go_wp2_with (first | (go_at_call 36; refine HGd.out.mono ?_; rintro e w2 ⟨rfl, hb2⟩) | (go_at_call 38; refine (f38 fr to_ _).mono ?_; rw [HSp.out]; rintro e w3 ⟨rfl, rfl⟩) | (go_at_call 41; refine (f41 a ls.length c fr to_ _).mono ?_; rintro e w4 ⟨rfl, hw4⟩; have HW4 := hid hw4; clear hw4) | (go_at_call 39; (obtain ⟨hb4, hseq⟩ := within_stops hmax (HR.out.below hb2) HW4.out; refine (f39 o _ _ HLn.out (enters_of Try.func67 (by kernel_rfl) rfl) hseq HRl.out.1).mono ?_; rw [HRl.out.2]; rintro e w5 ⟨rfl, hb5⟩)))
    have HB5 := hid (hb2.trans ((hb4.trans (hb5.mono hb4.size)).mono hb2.size))
    refine bodyPost_ret (v := .tuple #[.int .i64 (telM o (allM (within fr to_ ls))).1, .bool (telM o (allM (within fr to_ ls))).2]) (by simp [results, Try.results14, go_sem]) rfl ⟨by rw [HA.out], HB5.out⟩
  · have n0 := HM2.out hf0
    go_enter Try.func14, Try.ntmps14
    go_wp2_with (first | (go_at_call 36; refine HGd.out.mono ?_; rintro e w2 ⟨rfl, hb2⟩) | (go_at_call 38; refine (f38 fr to_ _).mono ?_; rw [HSp.out]; rintro e w3 ⟨rfl, rfl⟩) | (go_at_call 41; refine (f41 a ls.length c fr to_ _).mono ?_; rintro e w4 ⟨rfl, hw4⟩; have HW4 := hid hw4; clear hw4) | (go_at_call 39; (obtain ⟨hb4, hseq⟩ := within_stops hmax (HR.out.below hb2) HW4.out; refine (f39 o _ _ HLn.out (enters_of Try.func67 (by kernel_rfl) rfl) hseq HRl.out.1).mono ?_; rw [HRl.out.2]; rintro e w5 ⟨rfl, hb5⟩)))
    have HB5 := hid (hb2.trans ((hb4.trans (hb5.mono hb4.size)).mono hb2.size))
    refine bodyPost_ret (v := .tuple #[.int .i64 (telM o (allM (within fr to_ ls))).1, .bool (telM o (allM (within fr to_ ls))).2]) (by simp [results, Try.results14, go_sem]) rfl ⟨by rw [HA.out], HB5.out⟩

set_option maxHeartbeats 1000000 in
theorem walkOver (a : Option Addr) (c : Nat) (res fr to_ o : Int) (ls : List Ag) (w : World) (hmax : ls.length ≤ maxLen) (hr : HasA w a ls) :
    Calls Try.prog 5 #[.slice a ls.length c, .int .i64 res, .int .i64 fr, .int .i64 to_, .int .i64 o] w fun e w' => e = .returned (.bool true) ∧ Below w.heap.size w w' := by
  have HM := hid hmax
  obtain ⟨v, hv⟩ : ∃ v, v = aggOv res ls fr to_ o := ⟨_, rfl⟩
  have HV := hid hv
  clear hv
  by_cases hbig : ls.length ≤ 1048576
  · have hif : (if (1048576 : Int) < (ls.length : Int) then (-1 : Int) else 1048576 - (ls.length : Int)) = 1048576 - (ls.length : Int) := if_neg (by omega)
    go_enter Try.func5, Try.ntmps5
    go_wp2_with fail
    refine (f19 a ls.length c 1048576 _ HM.out (by omega) (by omega)).mono ?_
    rw [hif]
    rintro e w1 ⟨rfl, rfl⟩
    go_wp2_with fail
    refine (f21 a c ls _ hbig hr).mono ?_
    rintro e w2 ⟨rfl, ho2, hb2⟩
    have HB2 := hid hb2
    have hr2 := hr.below hb2
    clear hb2
    go_wp2_with fail
    refine (f20 _ _ res fr to_ o ls _ hbig (HasA.own ho2)).mono ?_
    rintro e w3 ⟨rfl, hb3⟩
    have HB3 := hid (HB2.out.trans (hb3.mono HB2.out.size))
    have hr3 := hr2.below hb3
    clear hb3 ho2
    go_wp2_with fail
    refine (f21 a c ls _ hbig hr3).mono ?_
    rintro e w4 ⟨rfl, ho4, hb4⟩
    have HB4 := hid (HB3.out.trans (hb4.mono HB3.out.size))
    have hr4 := hr3.below hb4
    clear hb4
    go_wp2_with fail
    refine (f14 _ _ res fr to_ o ls _ hbig (HasA.own ho4)).mono ?_
    rintro e w5 ⟨rfl, hb5⟩
    have HB5 := hid (HB4.out.trans (hb5.mono HB4.out.size))
    have hr5 := hr4.below hb5
    have hx5 := (HasA.own ho4).below hb5
    clear hb5 ho4
    rw [← HV.out]
    obtain ⟨g0, g1⟩ := v
    simp only
    go_wp2_with fail
    refine (f21 a c ls _ hbig hr5).mono ?_
    rintro e w6 ⟨rfl, ho6, hb6⟩
    have HB6 := hid (HB5.out.trans (hb6.mono HB5.out.size))
    have hx6 := hx5.below hb6
    clear hb6
    go_wp2_with fail
    refine (f22 _ _ _ _ ls _ hbig hx6 (HasA.own ho6)).mono ?_
    rintro e w7 ⟨rfl, hb7⟩
    have HB7 := hid (HB6.out.trans (hb7.mono HB6.out.size))
    clear hb7 ho6
    go_wp2
    go_ret
    exact ⟨rfl, HB7.out⟩
  · have hif : (if (1048576 : Int) < (ls.length : Int) then (-1 : Int) else 1048576 - (ls.length : Int)) = -1 := if_pos (by omega)
    go_enter Try.func5, Try.ntmps5
    go_wp2_with fail
    refine (f19 a ls.length c 1048576 _ HM.out (by omega) (by omega)).mono ?_
    rw [hif]
    rintro e w1 ⟨rfl, rfl⟩
    go_wp2
    go_ret
    exact ⟨rfl, Below.refl _ _⟩
end Go.Proofs.Ytpbnneelpdacdaa.Agl
