/- Steps split into spans: the plain facts; both SplitSpans. -/
import Derived.Test.YtkkmaombeifdnaaSpa
namespace Go.Proofs.Ytkkmaombeifdnaa.Spn
open Go.RowKit

def TimeP (t : Int) : Prop := 0 ≤ t ∧ t ≤ 1000000000000
instance (t : Int) : Decidable (TimeP t) := by unfold TimeP; infer_instance
/-- Times from f to t by s are steps. -/
def StepsP (f t s : Int) : Prop := TimeP f ∧ TimeP t ∧ f ≤ t ∧ 1 ≤ s ∧ s ≤ 1000000000000 ∧ (t - f).tdiv s < 500
instance (f t s : Int) : Decidable (StepsP f t s) := by unfold StepsP; infer_instance
/-- A step more. -/
def put (e : Int) (L : List Sm) (t : Int) : List Sm :=
  match L.getLast? with
  | none => [(t, t)]
  | some p => if p.1.tdiv e = t.tdiv e then L.dropLast ++ [(p.1, t)] else L ++ [(t, t)]
theorem put_nil (e t : Int) : put e [] t = [(t, t)] := rfl
theorem put_same {e t a b : Int} (M : List Sm) (h : a.tdiv e = t.tdiv e) : put e (M ++ [(a, b)]) t = M ++ [(a, t)] := by
  unfold put; simp [h]
theorem put_new {e t a b : Int} (M : List Sm) (h : ¬ a.tdiv e = t.tdiv e) : put e (M ++ [(a, b)]) t = (M ++ [(a, b)]) ++ [(t, t)] := by
  unfold put; simp [h]
/-- The spans of the first k steps. -/
def runs (f s e : Int) : Nat → List Sm
  | 0 => []
  | k + 1 => put e (runs f s e k) (f + k * s)
theorem put_len (e : Int) (L : List Sm) (t : Int) : (put e L t).length ≤ L.length + 1 := by
  rcases List.eq_nil_or_concat L with rfl | ⟨M, p, rfl⟩
  · simp [put_nil]
  · obtain ⟨a, b⟩ := p
    rw [List.concat_eq_append]
    by_cases h : a.tdiv e = t.tdiv e
    · rw [put_same M h]; simp
    · rw [put_new M h]; simp
theorem runs_len (f s e : Int) : ∀ k, (runs f s e k).length ≤ k
  | 0 => Nat.le_refl _
  | k + 1 => Nat.le_trans (put_len _ _ _) (Nat.succ_le_succ (runs_len f s e k))
def cnt (f t s : Int) : Nat := ((t - f).tdiv s + 1).toNat
theorem cnt_lt {f t s : Int} (h : StepsP f t s) (k : Nat) : f + k * s ≤ t ↔ k < cnt f t s := by
  obtain ⟨h1, h2, h3, h4, h5, h6⟩ := h
  have e : (t - f).tdiv s = (t - f) / s := Int.tdiv_eq_ediv_of_nonneg (by omega)
  have h7 : 0 ≤ (t - f) / s := Int.ediv_nonneg (by omega) (by omega)
  have h8 : (k : Int) ≤ (t - f) / s ↔ (k : Int) * s ≤ t - f := Int.le_ediv_iff_mul_le (by omega)
  unfold cnt
  rw [e]
  constructor
  · intro h
    have := h8.2 (by omega)
    omega
  · intro h
    have := h8.1 (by omega)
    omega
theorem cnt_max {f t s : Int} (h : StepsP f t s) : cnt f t s ≤ 500 := by
  have := h.2.2.2.2.2
  unfold cnt; omega
theorem next_step (f s : Int) (k : Nat) : f + k * s + s = f + ((k + 1 : Nat) : Int) * s := by
  rw [Int.natCast_add, Int.add_mul]; omega
theorem div_in {a e : Int} (h : 0 ≤ a) (h1 : a ≤ 2000000000000) (he : 1 ≤ e) : 0 ≤ a.tdiv e ∧ a.tdiv e ≤ 2000000000000 := by
  have e1 : a.tdiv e = a / e := Int.tdiv_eq_ediv_of_nonneg h
  rw [e1]
  exact ⟨Int.ediv_nonneg h (by omega), Int.le_trans (Int.ediv_le_self e h) h1⟩
def OkE (f t s e : Int) : Prop := StepsP f t s ∧ 1 ≤ e ∧ e ≤ 1000000000000
instance (f t s e : Int) : Decidable (OkE f t s e) := by unfold OkE; infer_instance
/-- The spans of steps. -/
def spl (f t s e : Int) : List Sm := if OkE f t s e then runs f s e (cnt f t s) else []
theorem spl_len (f t s e : Int) : (spl f t s e).length ≤ 500 := by
  unfold spl
  split
  · rename_i h; exact Nat.le_trans (runs_len _ _ _ _) (cnt_max h.1)
  · simp

theorem Own.empty {w : World} {base : Nat} {v : Value} (h : Own w base v []) : ∃ a c, v = .slice a 0 c := own_form h
theorem Own.last {w : World} {base : Nat} {v : Value} {M : List Sm} {p : Sm} (h : Own w base v (M ++ [p])) :
    ∃ g c, v = .slice (some ⟨g, 0, none⟩) (M.length + 1) c ∧ w.ownsRow base 29 2 (.slice (some ⟨g, 0, none⟩) (M.length + 1) c) (M.length + 1) (flat (M ++ [p])) := by
  have hl : (M ++ [p]).length = M.length + 1 := by simp
  rcases h.cases with ⟨hc, _⟩ | ⟨g, c, rfl⟩
  · simp at hc
  · unfold Own at h
    rw [hl] at h
    exact ⟨g, c, by rw [hl], h⟩
theorem set_last (M : List Sm) (a b x : Int) : (flat (M ++ [(a, b)])).set (M.length * 2 + 1) (.int .i64 x) = flat (M ++ [(a, x)]) := by
  rw [flat_append, flat_append, List.set_append_right _ _ (by rw [flat_len]; omega), flat_len, show M.length * 2 + 1 - M.length * 2 = 1 from by omega]
  rfl
theorem Own.put {w : World} {base : Nat} {v : Value} {M : List Sm} {p : Sm} (h : w.ownsRow base 29 2 v (M.length + 1) (flat (M ++ [p]))) : Own w base v (M ++ [p]) := by
  unfold Own; rw [List.length_append]; exact h

theorem f13 (t : Int) (w : World) : Calls Try.prog 13 #[.int .i64 t] w fun e w' => e = .returned (.bool (decide (TimeP t))) ∧ w' = w := by
  by_cases h1 : 0 ≤ t
  · go_enter Try.func13, Try.ntmps13
    go_wp2
    go_ret
    exact ⟨ret_bool (by unfold TimeP; rw [Bool.eq_iff_iff]; simp [h1]), rfl⟩
  · go_enter Try.func13, Try.ntmps13
    go_wp2
    go_ret
    exact ⟨ret_bool (by symm; exact decide_eq_false fun h => absurd h.1 (by omega)), rfl⟩
theorem f14 (t : Int) (w : World) : Calls Try.prog 14 #[.int .i64 t] w fun e w' => e = .returned (.bool (decide (TimeP t))) ∧ w' = w := by
  by_cases h1 : 0 ≤ t
  · go_enter Try.func14, Try.ntmps14
    go_wp2
    go_ret
    exact ⟨ret_bool (by unfold TimeP; rw [Bool.eq_iff_iff]; simp [h1]), rfl⟩
  · go_enter Try.func14, Try.ntmps14
    go_wp2
    go_ret
    exact ⟨ret_bool (by symm; exact decide_eq_false fun h => absurd h.1 (by omega)), rfl⟩
theorem f11 (t : Int) (w : World) : Calls Try.prog 11 #[.int .i64 t] w fun e w' => e = .returned (.bool (decide (1 ≤ t ∧ t ≤ 1000000000000))) ∧ w' = w := by
  by_cases h1 : 1 ≤ t
  · go_enter Try.func11, Try.ntmps11
    go_wp2
    go_ret
    exact ⟨ret_bool (by rw [Bool.eq_iff_iff]; simp [h1]), rfl⟩
  · go_enter Try.func11, Try.ntmps11
    go_wp2
    go_ret
    exact ⟨ret_bool (by rw [Bool.eq_iff_iff]; simp; omega), rfl⟩
set_option maxHeartbeats 1000000 in
theorem f9 (f t s : Int) (w : World) : Calls Try.prog 9 #[.int .i64 f, .int .i64 t, .int .i64 s] w fun e w' => e = .returned (.bool (decide (StepsP f t s))) ∧ w' = w := by
  by_cases h1 : TimeP f
  · have g1 := hid (decide_eq_true h1)
    by_cases h2 : TimeP t
    · have g2 := hid (decide_eq_true h2)
      have H1 := hid h1
      have H2 := hid h2
      obtain ⟨a1, a2⟩ := h1
      obtain ⟨b1, b2⟩ := h2
      by_cases h3 : f ≤ t
      · by_cases h4 : 1 ≤ s
        · by_cases h5 : s ≤ 1000000000000
          · have q0 : 0 ≤ (t - f).tdiv s ∧ (t - f).tdiv s ≤ 2000000000000 := div_in (by omega) (by omega) h4
            obtain ⟨q1, q2⟩ := q0
            have hs : ¬ s = 0 := by omega
            have HE : Hid (decide (StepsP f t s) = decide ((t - f).tdiv s < 500)) := by
              unfold Hid; rw [decide_eq_decide]; exact ⟨fun h => h.2.2.2.2.2, fun h => ⟨H1.out, H2.out, h3, h4, h5, h⟩⟩
            go_enter Try.func9, Try.ntmps9
            go_wp2_with fail
            refine (f13 f _).mono ?_
            rw [g1.out]
            rintro e w1 ⟨rfl, rfl⟩
            go_wp2_with fail
            refine (f13 t _).mono ?_
            rw [g2.out]
            rintro e w2 ⟨rfl, rfl⟩
            go_wp2
            go_ret
            exact ⟨ret_bool (by first | exact HE.out.symm | (rw [HE.out, decide_eq_decide]; omega)), rfl⟩
          · have HE : Hid (decide (StepsP f t s) = false) := decide_eq_false fun h => h5 h.2.2.2.2.1
            go_enter Try.func9, Try.ntmps9
            go_wp2_with fail
            refine (f13 f _).mono ?_
            rw [g1.out]
            rintro e w1 ⟨rfl, rfl⟩
            go_wp2_with fail
            refine (f13 t _).mono ?_
            rw [g2.out]
            rintro e w2 ⟨rfl, rfl⟩
            go_wp2
            go_ret
            exact ⟨ret_bool HE.out.symm, rfl⟩
        · have HE : Hid (decide (StepsP f t s) = false) := decide_eq_false fun h => h4 h.2.2.2.1
          go_enter Try.func9, Try.ntmps9
          go_wp2_with fail
          refine (f13 f _).mono ?_
          rw [g1.out]
          rintro e w1 ⟨rfl, rfl⟩
          go_wp2_with fail
          refine (f13 t _).mono ?_
          rw [g2.out]
          rintro e w2 ⟨rfl, rfl⟩
          go_wp2
          go_ret
          exact ⟨ret_bool HE.out.symm, rfl⟩
      · have HE : Hid (decide (StepsP f t s) = false) := decide_eq_false fun h => h3 h.2.2.1
        go_enter Try.func9, Try.ntmps9
        go_wp2_with fail
        refine (f13 f _).mono ?_
        rw [g1.out]
        rintro e w1 ⟨rfl, rfl⟩
        go_wp2_with fail
        refine (f13 t _).mono ?_
        rw [g2.out]
        rintro e w2 ⟨rfl, rfl⟩
        go_wp2
        go_ret
        exact ⟨ret_bool HE.out.symm, rfl⟩
    · have g2 := hid (decide_eq_false h2)
      have HE : Hid (decide (StepsP f t s) = false) := decide_eq_false fun h => h2 h.2.1
      clear h1 h2
      go_enter Try.func9, Try.ntmps9
      go_wp2_with fail
      refine (f13 f _).mono ?_
      rw [g1.out]
      rintro e w1 ⟨rfl, rfl⟩
      go_wp2_with fail
      refine (f13 t _).mono ?_
      rw [g2.out]
      rintro e w2 ⟨rfl, rfl⟩
      go_wp2
      go_ret
      exact ⟨ret_bool HE.out.symm, rfl⟩
  · have g1 := hid (decide_eq_false h1)
    have HE : Hid (decide (StepsP f t s) = false) := decide_eq_false fun h => h1 h.1
    clear h1
    go_enter Try.func9, Try.ntmps9
    go_wp2_with fail
    refine (f13 f _).mono ?_
    rw [g1.out]
    rintro e w1 ⟨rfl, rfl⟩
    go_wp2
    go_ret
    exact ⟨ret_bool HE.out.symm, rfl⟩

set_option maxHeartbeats 1000000 in
theorem f10 (f t s : Int) (w : World) : Calls Try.prog 10 #[.int .i64 f, .int .i64 t, .int .i64 s] w fun e w' => e = .returned (.bool (decide (StepsP f t s))) ∧ w' = w := by
  by_cases h1 : TimeP f
  · have g1 := hid (decide_eq_true h1)
    by_cases h2 : TimeP t
    · have g2 := hid (decide_eq_true h2)
      have H1 := hid h1
      have H2 := hid h2
      obtain ⟨a1, a2⟩ := h1
      obtain ⟨b1, b2⟩ := h2
      by_cases h3 : f ≤ t
      · by_cases h4 : 1 ≤ s
        · by_cases h5 : s ≤ 1000000000000
          · have q0 : 0 ≤ (t - f).tdiv s ∧ (t - f).tdiv s ≤ 2000000000000 := div_in (by omega) (by omega) h4
            obtain ⟨q1, q2⟩ := q0
            have hs : ¬ s = 0 := by omega
            have HE : Hid (decide (StepsP f t s) = decide ((t - f).tdiv s < 500)) := by
              unfold Hid; rw [decide_eq_decide]; exact ⟨fun h => h.2.2.2.2.2, fun h => ⟨H1.out, H2.out, h3, h4, h5, h⟩⟩
            go_enter Try.func10, Try.ntmps10
            go_wp2_with fail
            refine (f14 f _).mono ?_
            rw [g1.out]
            rintro e w1 ⟨rfl, rfl⟩
            go_wp2_with fail
            refine (f14 t _).mono ?_
            rw [g2.out]
            rintro e w2 ⟨rfl, rfl⟩
            go_wp2
            go_ret
            exact ⟨ret_bool (by first | exact HE.out.symm | (rw [HE.out, decide_eq_decide]; omega)), rfl⟩
          · have HE : Hid (decide (StepsP f t s) = false) := decide_eq_false fun h => h5 h.2.2.2.2.1
            go_enter Try.func10, Try.ntmps10
            go_wp2_with fail
            refine (f14 f _).mono ?_
            rw [g1.out]
            rintro e w1 ⟨rfl, rfl⟩
            go_wp2_with fail
            refine (f14 t _).mono ?_
            rw [g2.out]
            rintro e w2 ⟨rfl, rfl⟩
            go_wp2
            go_ret
            exact ⟨ret_bool HE.out.symm, rfl⟩
        · have HE : Hid (decide (StepsP f t s) = false) := decide_eq_false fun h => h4 h.2.2.2.1
          go_enter Try.func10, Try.ntmps10
          go_wp2_with fail
          refine (f14 f _).mono ?_
          rw [g1.out]
          rintro e w1 ⟨rfl, rfl⟩
          go_wp2_with fail
          refine (f14 t _).mono ?_
          rw [g2.out]
          rintro e w2 ⟨rfl, rfl⟩
          go_wp2
          go_ret
          exact ⟨ret_bool HE.out.symm, rfl⟩
      · have HE : Hid (decide (StepsP f t s) = false) := decide_eq_false fun h => h3 h.2.2.1
        go_enter Try.func10, Try.ntmps10
        go_wp2_with fail
        refine (f14 f _).mono ?_
        rw [g1.out]
        rintro e w1 ⟨rfl, rfl⟩
        go_wp2_with fail
        refine (f14 t _).mono ?_
        rw [g2.out]
        rintro e w2 ⟨rfl, rfl⟩
        go_wp2
        go_ret
        exact ⟨ret_bool HE.out.symm, rfl⟩
    · have g2 := hid (decide_eq_false h2)
      have HE : Hid (decide (StepsP f t s) = false) := decide_eq_false fun h => h2 h.2.1
      clear h1 h2
      go_enter Try.func10, Try.ntmps10
      go_wp2_with fail
      refine (f14 f _).mono ?_
      rw [g1.out]
      rintro e w1 ⟨rfl, rfl⟩
      go_wp2_with fail
      refine (f14 t _).mono ?_
      rw [g2.out]
      rintro e w2 ⟨rfl, rfl⟩
      go_wp2
      go_ret
      exact ⟨ret_bool HE.out.symm, rfl⟩
  · have g1 := hid (decide_eq_false h1)
    have HE : Hid (decide (StepsP f t s) = false) := decide_eq_false fun h => h1 h.1
    clear h1
    go_enter Try.func10, Try.ntmps10
    go_wp2_with fail
    refine (f14 f _).mono ?_
    rw [g1.out]
    rintro e w1 ⟨rfl, rfl⟩
    go_wp2
    go_ret
    exact ⟨ret_bool HE.out.symm, rfl⟩

set_option maxHeartbeats 4000000 in
set_option maxRecDepth 10000 in
theorem f4 (f t s e : Int) (w : World) : Calls Try.prog 4 #[.int .i64 f, .int .i64 t, .int .i64 s, .int .i64 e] w fun r w' => ∃ v, r = .returned v ∧ Own w' w.heap.size v (spl f t s e) ∧ Below w.heap.size w w' := by
  obtain ⟨i0, hi, hz0, hz1, hz2⟩ := info_parts infoS
  by_cases hst : StepsP f t s
  · have g1 := hid (decide_eq_true hst)
    by_cases he1 : 1 ≤ e
    · by_cases he2 : e ≤ 1000000000000
      · have g2 := hid (decide_eq_true (show 1 ≤ e ∧ e ≤ 1000000000000 from ⟨he1, he2⟩))
        have HSP : Hid (spl f t s e = runs f s e (cnt f t s)) := if_pos ⟨hst, he1, he2⟩
        have HC := hid (cnt_lt hst)
        have HM := hid (cnt_max hst)
        obtain ⟨⟨a1, a2⟩, ⟨b1, b2⟩, h3, h4, h5, h6⟩ := hst
        have hne : ¬ e = 0 := by omega
        clear h6
        go_enter Try.func4, Try.ntmps4
        go_wp2_with fail
        refine (f9 f t s _).mono ?_
        rw [g1.out]
        rintro e1 w1 ⟨rfl, hw1⟩
        have hw1 := hw1.symm
        subst hw1
        go_wp2
        go_loopw [9, 10] (fun so sx wr => ∃ (k : Nat) (x : Int) (L : List Sm), Own wr w.heap.size so L ∧ sx = .int .i64 x ∧ 0 ≤ x ∧ x ≤ 2000000000000 ∧ Hid (x = f + k * s) ∧ Hid (L = runs f s e k) ∧ k ≤ cnt f t s ∧ Hid (∀ p ∈ L, 0 ≤ p.1 ∧ p.1 ≤ 2000000000000) ∧ Below w.heap.size w wr) (fun _ sx _ => (2000000000001 - intOf sx).toNat)
        case atStart => exact ⟨0, f, [], Own.nil _ _, rfl, by omega, by omega, by unfold Hid; simp, rfl, Nat.zero_le _, fun p hp => (by cases hp), Below.refl _ _⟩
        case round =>
          obtain ⟨k, x, L, hown, rfl, x0, x1, hx, hL, hk, hin, hnx⟩ := hrel
          have HX := hid hnx
          have HO := hid hown
          clear hnx hown
          have HLN : Hid (L.length ≤ 500) := by unfold Hid; rw [hL.out]; exact Nat.le_trans (runs_len _ _ _ _) (Nat.le_trans hk HM.out)
          have hx2 := div_in x0 x1 he1
          obtain ⟨x2, x3⟩ := hx2
          by_cases hle : x ≤ t
          · have hkc : Hid (k < cnt f t s) := (HC.out k).1 (by rw [← hx.out]; exact hle)
            have HXN : Hid (x + s = f + ((k + 1 : Nat) : Int) * s) := by unfold Hid; rw [hx.out]; exact next_step f s k
            rcases List.eq_nil_or_concat L with rfl | ⟨M, p, rfl⟩
            · obtain ⟨ao, co, hv⟩ := HO.out.empty
              subst hv
              go_wp2
              go_quiet (fail)
              go_wp2_with (at_builtin; (refine wpList_append_own _ rfl (.tmp 56) (.tmp 60) 22 rfl w.heap.size 29 i0 (.agg #[.int .i64 0, .int .i64 0]) 2 16 Try.underlying22 hi hz0 hz1 hz2 rfl (by decide) _ _ _ rfl (World.ownsRow.alloc (own_drewN HO.out _) _) ⟨wr.heap.size, 0, none⟩ 1 1 [.int .i64 x, .int .i64 x] rfl rfl ?d1a ?d2a ?d3a ?d4a ?d5a ?_))
              case d1a => exact two_new _ _ _ _
              case d2a => intro u hu; simp at hu; subst hu; rfl
              case d3a => unfold maxLen; simp
              case d4a => simp only [List.length_nil]; omega
              case d5a => have := HX.out.size; simp; omega
              intro v1 w3 hown1 hgr1 _
              have HO2 := hid (Own.snoc (p := (x, x)) hown1)
              have HX2 := hid ((Below.alloc (below_drewN HX.out _) HX.out.size (.cells #[.int .i64 x, .int .i64 x] 29)).grown hgr1 (by have := HX.out.size; simp; omega) (fun k hk => (World.ownsRow.lt HO.out k hk).1))
              clear hown1 hgr1
              go_wp2
              go_roundw
              case rel => exact ⟨k + 1, x + s, _, HO2.out, by go_num, by omega, by omega, HXN.out, (by unfold Hid; rw [runs, ← hL.out, ← hx.out, put_nil]; rfl), hkc.out, (fun p hp => by simp at hp; subst hp; exact ⟨x0, x1⟩), HX2.out⟩
              case measure => simp [intOf]; omega
            · obtain ⟨a, b⟩ := p
              rw [List.concat_eq_append] at *
              have hab := hin.out (a, b) (by simp)
              obtain ⟨aa0, aa1⟩ := hab
              simp only at aa0 aa1
              have haq := div_in aa0 aa1 he1
              obtain ⟨aq0, aq1⟩ := haq
              obtain ⟨g, c, hv, hro⟩ := HO.out.last
              · subst hv
                have HR := hid hro
                clear hro
                have hm : M.length ≤ 500 := by have := HLN.out; simp at this; omega
                obtain ⟨y0, y1⟩ := flat_get (M ++ [(a, b)]) M.length (by simp)
                have yg : (M ++ [(a, b)]).getD M.length e0 = (a, b) := by simp
                rw [yg] at y0 y1
                have c0 := (HR.out.cellAt (M.length * 2) (by omega)).trans y0
                have c1 := (HR.out.cellAt (M.length * 2 + 1) (by omega)).trans y1
                have fz := HR.out.frozenAt (M.length * 2 + 1)
                clear y0 y1 yg
                by_cases heq : a.tdiv e = x.tdiv e
                · have hq : (a.tdiv e == x.tdiv e) = true := by simp [heq]
                  have HX2 := hid (fun (nq : Nat) => (below_drewN HX.out nq).setCell (p := ⟨g, M.length * 2 + 1, none⟩) (HR.out.lt g rfl).1 (.int .i64 x))
                  have HEQ := hid heq
                  clear heq
                  go_wp2
                  go_quiet (fail)
                  go_wp2
                  go_roundw
                  case rel =>
                    refine ⟨k + 1, x + s, M ++ [(a, x)], ?_, by go_num, by omega, by omega, HXN.out, (by unfold Hid; rw [runs, ← hL.out, ← hx.out, put_same M HEQ.out]), hkc.out, ?_, HX2.out _⟩
                    · refine Own.put ?_
                      rw [← set_last M a b x]
                      exact ((own_drewN HR.out _).stored (M.length * 2 + 1) (.int .i64 x)).1
                    · intro p hp
                      simp at hp
                      rcases hp with hp | rfl
                      · exact hin.out p (by simp [hp])
                      · exact ⟨aa0, aa1⟩
                  case measure => simp [intOf]; omega
                · have hq : (a.tdiv e == x.tdiv e) = false := beq_eq_false_iff_ne.2 heq
                  have HEQ := hid heq
                  clear heq
                  go_wp2
                  go_quiet (fail)
                  go_wp2_with (at_builtin; refine wpList_append_own _ rfl (.tmp 56) (.tmp 60) 22 rfl w.heap.size 29 i0 (.agg #[.int .i64 0, .int .i64 0]) 2 16 Try.underlying22 hi hz0 hz1 hz2 rfl (by decide) _ _ _ rfl (World.ownsRow.alloc (own_drewN HO.out _) _) ⟨wr.heap.size, 0, none⟩ 1 1 [.int .i64 x, .int .i64 x] rfl rfl ?d1b ?d2b ?d3b ?d4b ?d5b ?_)
                  case d1b => exact two_new _ _ _ _
                  case d2b => intro u hu; simp at hu; subst hu; rfl
                  case d3b => unfold maxLen; have := HLN.out; simp at *; omega
                  case d4b => have h9 : (M ++ [(a, b)]).length = M.length + 1 := (by simp); omega
                  case d5b => have := HX.out.size; simp; omega
                  intro v1 w3 hown1 hgr1 _
                  have HO2 := hid (Own.snoc (O := M ++ [(a, b)]) (p := (x, x)) (by rw [List.length_append]; exact hown1))
                  have HX2 := hid ((Below.alloc (below_drewN HX.out _) HX.out.size (.cells #[.int .i64 x, .int .i64 x] 29)).grown hgr1 (by have := HX.out.size; simp; omega) (fun k hk => (World.ownsRow.lt HO.out k hk).1))
                  clear hown1 hgr1
                  go_wp2
                  go_roundw
                  case rel => exact ⟨k + 1, x + s, _, HO2.out, by go_num, by omega, by omega, HXN.out, (by unfold Hid; rw [runs, ← hL.out, ← hx.out, put_new M HEQ.out]), hkc.out, (fun p hp => by rcases List.mem_append.1 hp with h | h; exact hin.out p h; simp at h; subst h; exact ⟨x0, x1⟩), HX2.out⟩
                  case measure => simp [intOf]; omega
          · have hkc : Hid (k = cnt f t s) := by
              unfold Hid
              have h7 : ¬ k < cnt f t s := fun h => hle (by rw [hx.out]; exact (HC.out k).2 h)
              omega
            obtain ⟨ao, co, hv⟩ := own_form HO.out
            subst hv
            go_wp2
            go_ret
            exact ⟨_, rfl, by rw [HSP.out, ← hkc.out, ← hL.out]; exact HO.out, HX.out⟩
      · have g2 := hid (decide_eq_false (show ¬ (1 ≤ e ∧ e ≤ 1000000000000) from fun h => he2 h.2))
        have HSP : Hid (spl f t s e = []) := if_neg fun h => he2 h.2.2
        go_enter Try.func4, Try.ntmps4
        go_wp2_with fail
        refine (f9 f t s _).mono ?_
        rw [g1.out]
        rintro e1 w1 ⟨rfl, hw1⟩
        have hw1 := hw1.symm
        subst hw1
        go_wp2
        go_ret
        exact ⟨_, rfl, by rw [HSP.out]; exact Own.nil _ _, Below.refl _ _⟩
    · have g2 := hid (decide_eq_false (show ¬ (1 ≤ e ∧ e ≤ 1000000000000) from fun h => he1 h.1))
      have HSP : Hid (spl f t s e = []) := if_neg fun h => he1 h.2.1
      go_enter Try.func4, Try.ntmps4
      go_wp2_with fail
      refine (f9 f t s _).mono ?_
      rw [g1.out]
      rintro e1 w1 ⟨rfl, hw1⟩
      have hw1 := hw1.symm
      subst hw1
      go_wp2
      go_ret
      exact ⟨_, rfl, by rw [HSP.out]; exact Own.nil _ _, Below.refl _ _⟩
  · have g1 := hid (decide_eq_false hst)
    have HSP : Hid (spl f t s e = []) := if_neg fun h => hst h.1
    clear hst
    go_enter Try.func4, Try.ntmps4
    go_wp2_with fail
    refine (f9 f t s _).mono ?_
    rw [g1.out]
    rintro e1 w1 ⟨rfl, hw1⟩
    have hw1 := hw1.symm
    subst hw1
    go_wp2
    go_ret
    exact ⟨_, rfl, by rw [HSP.out]; exact Own.nil _ _, Below.refl _ _⟩

set_option maxHeartbeats 4000000 in
set_option maxRecDepth 10000 in
theorem f5 (f t s e : Int) (w : World) : Calls Try.prog 5 #[.int .i64 f, .int .i64 t, .int .i64 s, .int .i64 e] w fun r w' => ∃ v, r = .returned v ∧ Own w' w.heap.size v (spl f t s e) ∧ Below w.heap.size w w' := by
  obtain ⟨i0, hi, hz0, hz1, hz2⟩ := info_parts infoS
  by_cases hst : StepsP f t s
  · have g1 := hid (decide_eq_true hst)
    by_cases he1 : 1 ≤ e
    · by_cases he2 : e ≤ 1000000000000
      · have g2 := hid (decide_eq_true (show 1 ≤ e ∧ e ≤ 1000000000000 from ⟨he1, he2⟩))
        have HSP : Hid (spl f t s e = runs f s e (cnt f t s)) := if_pos ⟨hst, he1, he2⟩
        have HC := hid (cnt_lt hst)
        have HM := hid (cnt_max hst)
        obtain ⟨⟨a1, a2⟩, ⟨b1, b2⟩, h3, h4, h5, h6⟩ := hst
        have hne : ¬ e = 0 := by omega
        clear h6
        go_enter Try.func5, Try.ntmps5
        go_wp2_with fail
        refine (f10 f t s _).mono ?_
        rw [g1.out]
        rintro e1 w1 ⟨rfl, hw1⟩
        have hw1 := hw1.symm
        subst hw1
        go_wp2_with fail
        refine (f11 e _).mono ?_
        rw [g2.out]
        rintro e2 w2 ⟨rfl, hw2⟩
        have hw2 := hw2.symm
        subst hw2
        go_wp2
        go_loopw [9, 10] (fun so sx wr => ∃ (k : Nat) (x : Int) (L : List Sm), Own wr w.heap.size so L ∧ sx = .int .i64 x ∧ 0 ≤ x ∧ x ≤ 2000000000000 ∧ Hid (x = f + k * s) ∧ Hid (L = runs f s e k) ∧ k ≤ cnt f t s ∧ Hid (∀ p ∈ L, 0 ≤ p.1 ∧ p.1 ≤ 2000000000000) ∧ Below w.heap.size w wr) (fun _ sx _ => (2000000000001 - intOf sx).toNat)
        case atStart => exact ⟨0, f, [], Own.nil _ _, rfl, by omega, by omega, by unfold Hid; simp, rfl, Nat.zero_le _, fun p hp => (by cases hp), Below.refl _ _⟩
        case round =>
          obtain ⟨k, x, L, hown, rfl, x0, x1, hx, hL, hk, hin, hnx⟩ := hrel
          have HX := hid hnx
          have HO := hid hown
          clear hnx hown
          have HLN : Hid (L.length ≤ 500) := by unfold Hid; rw [hL.out]; exact Nat.le_trans (runs_len _ _ _ _) (Nat.le_trans hk HM.out)
          have hx2 := div_in x0 x1 he1
          obtain ⟨x2, x3⟩ := hx2
          by_cases hle : x ≤ t
          · have hkc : Hid (k < cnt f t s) := (HC.out k).1 (by rw [← hx.out]; exact hle)
            have HXN : Hid (x + s = f + ((k + 1 : Nat) : Int) * s) := by unfold Hid; rw [hx.out]; exact next_step f s k
            rcases List.eq_nil_or_concat L with rfl | ⟨M, p, rfl⟩
            · obtain ⟨ao, co, hv⟩ := HO.out.empty
              subst hv
              go_wp2
              go_quiet (fail)
              go_wp2_with (at_builtin; (refine wpList_append_own _ rfl (.tmp 52) (.tmp 56) 22 rfl w.heap.size 29 i0 (.agg #[.int .i64 0, .int .i64 0]) 2 16 Try.underlying22 hi hz0 hz1 hz2 rfl (by decide) _ _ _ rfl (World.ownsRow.alloc (own_drewN HO.out _) _) ⟨wr.heap.size, 0, none⟩ 1 1 [.int .i64 x, .int .i64 x] rfl rfl ?d1a ?d2a ?d3a ?d4a ?d5a ?_))
              case d1a => exact two_new _ _ _ _
              case d2a => intro u hu; simp at hu; subst hu; rfl
              case d3a => unfold maxLen; simp
              case d4a => simp only [List.length_nil]; omega
              case d5a => have := HX.out.size; simp; omega
              intro v1 w3 hown1 hgr1 _
              have HO2 := hid (Own.snoc (p := (x, x)) hown1)
              have HX2 := hid ((Below.alloc (below_drewN HX.out _) HX.out.size (.cells #[.int .i64 x, .int .i64 x] 29)).grown hgr1 (by have := HX.out.size; simp; omega) (fun k hk => (World.ownsRow.lt HO.out k hk).1))
              clear hown1 hgr1
              go_wp2
              go_roundw
              case rel => exact ⟨k + 1, x + s, _, HO2.out, by go_num, by omega, by omega, HXN.out, (by unfold Hid; rw [runs, ← hL.out, ← hx.out, put_nil]; rfl), hkc.out, (fun p hp => by simp at hp; subst hp; exact ⟨x0, x1⟩), HX2.out⟩
              case measure => simp [intOf]; omega
            · obtain ⟨a, b⟩ := p
              rw [List.concat_eq_append] at *
              have hab := hin.out (a, b) (by simp)
              obtain ⟨aa0, aa1⟩ := hab
              simp only at aa0 aa1
              have haq := div_in aa0 aa1 he1
              obtain ⟨aq0, aq1⟩ := haq
              obtain ⟨g, c, hv, hro⟩ := HO.out.last
              · subst hv
                have HR := hid hro
                clear hro
                have hm : M.length ≤ 500 := by have := HLN.out; simp at this; omega
                obtain ⟨y0, y1⟩ := flat_get (M ++ [(a, b)]) M.length (by simp)
                have yg : (M ++ [(a, b)]).getD M.length e0 = (a, b) := by simp
                rw [yg] at y0 y1
                have c0 := (HR.out.cellAt (M.length * 2) (by omega)).trans y0
                have c1 := (HR.out.cellAt (M.length * 2 + 1) (by omega)).trans y1
                have fz := HR.out.frozenAt (M.length * 2 + 1)
                clear y0 y1 yg
                by_cases heq : a.tdiv e = x.tdiv e
                · have hq : (a.tdiv e == x.tdiv e) = true := by simp [heq]
                  have HX2 := hid (fun (nq : Nat) => (below_drewN HX.out nq).setCell (p := ⟨g, M.length * 2 + 1, none⟩) (HR.out.lt g rfl).1 (.int .i64 x))
                  have HEQ := hid heq
                  clear heq
                  go_wp2
                  go_quiet (fail)
                  go_wp2
                  go_roundw
                  case rel =>
                    refine ⟨k + 1, x + s, M ++ [(a, x)], ?_, by go_num, by omega, by omega, HXN.out, (by unfold Hid; rw [runs, ← hL.out, ← hx.out, put_same M HEQ.out]), hkc.out, ?_, HX2.out _⟩
                    · refine Own.put ?_
                      rw [← set_last M a b x]
                      exact ((own_drewN HR.out _).stored (M.length * 2 + 1) (.int .i64 x)).1
                    · intro p hp
                      simp at hp
                      rcases hp with hp | rfl
                      · exact hin.out p (by simp [hp])
                      · exact ⟨aa0, aa1⟩
                  case measure => simp [intOf]; omega
                · have hq : (a.tdiv e == x.tdiv e) = false := beq_eq_false_iff_ne.2 heq
                  have HEQ := hid heq
                  clear heq
                  go_wp2
                  go_quiet (fail)
                  go_wp2_with (at_builtin; refine wpList_append_own _ rfl (.tmp 52) (.tmp 56) 22 rfl w.heap.size 29 i0 (.agg #[.int .i64 0, .int .i64 0]) 2 16 Try.underlying22 hi hz0 hz1 hz2 rfl (by decide) _ _ _ rfl (World.ownsRow.alloc (own_drewN HO.out _) _) ⟨wr.heap.size, 0, none⟩ 1 1 [.int .i64 x, .int .i64 x] rfl rfl ?d1b ?d2b ?d3b ?d4b ?d5b ?_)
                  case d1b => exact two_new _ _ _ _
                  case d2b => intro u hu; simp at hu; subst hu; rfl
                  case d3b => unfold maxLen; have := HLN.out; simp at *; omega
                  case d4b => have h9 : (M ++ [(a, b)]).length = M.length + 1 := (by simp); omega
                  case d5b => have := HX.out.size; simp; omega
                  intro v1 w3 hown1 hgr1 _
                  have HO2 := hid (Own.snoc (O := M ++ [(a, b)]) (p := (x, x)) (by rw [List.length_append]; exact hown1))
                  have HX2 := hid ((Below.alloc (below_drewN HX.out _) HX.out.size (.cells #[.int .i64 x, .int .i64 x] 29)).grown hgr1 (by have := HX.out.size; simp; omega) (fun k hk => (World.ownsRow.lt HO.out k hk).1))
                  clear hown1 hgr1
                  go_wp2
                  go_roundw
                  case rel => exact ⟨k + 1, x + s, _, HO2.out, by go_num, by omega, by omega, HXN.out, (by unfold Hid; rw [runs, ← hL.out, ← hx.out, put_new M HEQ.out]), hkc.out, (fun p hp => by rcases List.mem_append.1 hp with h | h; exact hin.out p h; simp at h; subst h; exact ⟨x0, x1⟩), HX2.out⟩
                  case measure => simp [intOf]; omega
          · have hkc : Hid (k = cnt f t s) := by
              unfold Hid
              have h7 : ¬ k < cnt f t s := fun h => hle (by rw [hx.out]; exact (HC.out k).2 h)
              omega
            obtain ⟨ao, co, hv⟩ := own_form HO.out
            subst hv
            go_wp2
            go_ret
            exact ⟨_, rfl, by rw [HSP.out, ← hkc.out, ← hL.out]; exact HO.out, HX.out⟩
      · have g2 := hid (decide_eq_false (show ¬ (1 ≤ e ∧ e ≤ 1000000000000) from fun h => he2 h.2))
        have HSP : Hid (spl f t s e = []) := if_neg fun h => he2 h.2.2
        go_enter Try.func5, Try.ntmps5
        go_wp2_with fail
        refine (f10 f t s _).mono ?_
        rw [g1.out]
        rintro e1 w1 ⟨rfl, hw1⟩
        have hw1 := hw1.symm
        subst hw1
        go_wp2_with fail
        refine (f11 e _).mono ?_
        rw [g2.out]
        rintro e2 w2 ⟨rfl, hw2⟩
        have hw2 := hw2.symm
        subst hw2
        go_wp2
        go_ret
        exact ⟨_, rfl, by rw [HSP.out]; exact Own.nil _ _, Below.refl _ _⟩
    · have g2 := hid (decide_eq_false (show ¬ (1 ≤ e ∧ e ≤ 1000000000000) from fun h => he1 h.1))
      have HSP : Hid (spl f t s e = []) := if_neg fun h => he1 h.2.1
      go_enter Try.func5, Try.ntmps5
      go_wp2_with fail
      refine (f10 f t s _).mono ?_
      rw [g1.out]
      rintro e1 w1 ⟨rfl, hw1⟩
      have hw1 := hw1.symm
      subst hw1
      go_wp2_with fail
      refine (f11 e _).mono ?_
      rw [g2.out]
      rintro e2 w2 ⟨rfl, hw2⟩
      have hw2 := hw2.symm
      subst hw2
      go_wp2
      go_ret
      exact ⟨_, rfl, by rw [HSP.out]; exact Own.nil _ _, Below.refl _ _⟩
  · have g1 := hid (decide_eq_false hst)
    have HSP : Hid (spl f t s e = []) := if_neg fun h => hst h.1
    clear hst
    go_enter Try.func5, Try.ntmps5
    go_wp2_with fail
    refine (f10 f t s _).mono ?_
    rw [g1.out]
    rintro e1 w1 ⟨rfl, hw1⟩
    have hw1 := hw1.symm
    subst hw1
    go_wp2
    go_ret
    exact ⟨_, rfl, by rw [HSP.out]; exact Own.nil _ _, Below.refl _ _⟩

end Go.Proofs.Ytkkmaombeifdnaa.Spn
