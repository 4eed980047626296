/- Merged samples: the plain facts; the model's l6Merge. -/
import Derived.Test.YtammlhkdcdhfkaaRTg
namespace Go.Proofs.Ytammlhkdcdhfkaa.Smp
open Go.RowKit

/-- All of both, rising; a's counts. -/
def mrg : List Sm → List Sm → List Sm
  | [], b => b
  | a :: A, [] => a :: A
  | a :: A, b :: B => if b.1 < a.1 then b :: mrg (a :: A) B else if a.1 = b.1 then a :: mrg A B else a :: mrg A (b :: B)
termination_by a b => a.length + b.length
theorem mrg_nil_left (b : List Sm) : mrg [] b = b := by unfold mrg; rfl
theorem mrg_nil_right (a : List Sm) : mrg a [] = a := by cases a <;> (unfold mrg; rfl)
theorem mrg_cons (p q : Sm) (A B : List Sm) : mrg (p :: A) (q :: B) = if q.1 < p.1 then q :: mrg (p :: A) B else if p.1 = q.1 then p :: mrg A B else p :: mrg A (q :: B) := by rw [mrg]
theorem mrg_len : ∀ (a b : List Sm), (mrg a b).length ≤ a.length + b.length := by
  intro a b
  induction a generalizing b with
  | nil => rw [mrg_nil_left]; simp
  | cons p A iha =>
    induction b with
    | nil => rw [mrg_nil_right]; simp
    | cons q B ihb =>
      rw [mrg_cons]
      split
      · simp at *; omega
      · split
        · have := iha B; simp at *; omega
        · have := iha (q :: B); simp at *; omega
theorem drop_cons {L : List Sm} {k : Nat} (h : k < L.length) : L.drop k = L.getD k e0 :: L.drop (k + 1) := by
  rw [List.drop_eq_getElem_cons h]; simp [h]
/-- What has been told, and what is left of both. -/
def Mrg (xs ys O : List Sm) (i k : Nat) : Prop := mrg xs ys = O ++ mrg (xs.drop i) (ys.drop k) ∧ O.length ≤ i + k
theorem Mrg.init (xs ys : List Sm) : Mrg xs ys [] 0 0 := ⟨by simp, by simp⟩
theorem Mrg.right {xs ys O : List Sm} {i k : Nat} (h : Mrg xs ys O i k) (hk : k < ys.length) (hi : i < xs.length → (ys.getD k e0).1 < (xs.getD i e0).1) : Mrg xs ys (O ++ [ys.getD k e0]) i (k + 1) := by
  refine ⟨?_, by have := h.2; simp; omega⟩
  rw [h.1, List.append_assoc]
  congr 1
  by_cases hi' : i < xs.length
  · rw [drop_cons hi', drop_cons hk, mrg_cons, if_pos (hi hi')]; rfl
  · rw [List.drop_eq_nil_of_le (by omega), mrg_nil_left, mrg_nil_left, drop_cons hk]; rfl
theorem Mrg.left {xs ys O : List Sm} {i k : Nat} (h : Mrg xs ys O i k) (hi : i < xs.length) (hk : k < ys.length → (xs.getD i e0).1 < (ys.getD k e0).1) : Mrg xs ys (O ++ [xs.getD i e0]) (i + 1) k := by
  refine ⟨?_, by have := h.2; simp; omega⟩
  rw [h.1, List.append_assoc]
  congr 1
  by_cases hk' : k < ys.length
  · have := hk hk'
    rw [drop_cons hi, drop_cons hk', mrg_cons, if_neg (by omega), if_neg (by omega)]; rfl
  · rw [show ys.drop k = [] from List.drop_eq_nil_of_le (by omega), mrg_nil_right, mrg_nil_right, drop_cons hi]; rfl
theorem Mrg.both {xs ys O : List Sm} {i k : Nat} (h : Mrg xs ys O i k) (hi : i < xs.length) (hk : k < ys.length) (he : (xs.getD i e0).1 = (ys.getD k e0).1) : Mrg xs ys (O ++ [xs.getD i e0]) (i + 1) (k + 1) := by
  refine ⟨?_, by have := h.2; simp; omega⟩
  rw [h.1, List.append_assoc]
  congr 1
  rw [drop_cons hi, drop_cons hk, mrg_cons, if_neg (by omega), if_pos he]; rfl
theorem Mrg.done {xs ys O : List Sm} {i k : Nat} (h : Mrg xs ys O i k) (hi : xs.length ≤ i) : mrg xs ys = O ++ ys.drop k := by
  rw [h.1, List.drop_eq_nil_of_le hi, mrg_nil_left]

theorem own_drewN {w : World} {base e size n : Nat} {v : Value} {xs : List Value} (h : w.ownsRow base e size v n xs) (q : Nat) : (w.drewN q).ownsRow base e size v n xs :=
  h.kept (row := none) ⟨rfl, rfl, rfl, Nat.le_refl _, fun _ _ _ => rfl⟩ (by cases hv : v.ownBlock <;> simp)
theorem Own.snoc {w : World} {base : Nat} {v : Value} {O : List Sm} {p : Sm} (h : w.ownsRow base 55 2 v (O.length + 1) (flat O ++ [.int .i64 p.1, .int .i64 p.2])) : Own w base v (O ++ [p]) := by
  unfold Own; rw [flat_append, List.length_append]; exact h

set_option maxHeartbeats 4000000 in
set_option maxRecDepth 10000 in
theorem f62 (a b : Option Addr) (c d : Nat) (xs ys : List Sm) (w : World) (h20 : xs.length ≤ 1048576) (h21 : ys.length ≤ 1048576) (hr : HasS w a xs) (hs : HasS w b ys) :
    Calls Try.prog 62 #[.slice a xs.length c, .slice b ys.length d] w fun e w' => ∃ v, e = .returned v ∧ Own w' w.heap.size v (mrg xs ys) ∧ Below w.heap.size w w' := by
  obtain ⟨i0, hi, hz0, hz1, hz2⟩ := info_parts infoS
  generalize hn : xs.length = n at *
  have HN := hid hn
  generalize hm : ys.length = m at *
  have HM := hid hm
  clear hn hm
  go_enter Try.func62, Try.ntmps62
  go_wp2
  go_loopw [5, 6, 7] (fun so si sk wr => ∃ (i k : Nat) (O : List Sm), i ≤ n ∧ k ≤ m ∧ si = .int .i64 i ∧ sk = .int .i64 k ∧ Own wr w.heap.size so O ∧ Hid (Mrg xs ys O i k) ∧ O.length ≤ i + k ∧ Below w.heap.size w wr) (fun _ si sk _ => n + m - (intOf si).toNat - (intOf sk).toNat)
  case atStart => exact ⟨0, 0, [], Nat.zero_le _, Nat.zero_le _, rfl, rfl, Own.nil _ _, Mrg.init xs ys, by simp, Below.refl _ _⟩
  case round =>
    obtain ⟨i, k, O, hin, hkm, rfl, rfl, hown, hmr, hol, hnx⟩ := hrel
    have HX := hid hnx
    have HO := hid hown
    obtain ⟨ao, co, rfl⟩ := own_form hown
    have HMR := hid hmr.out.right
    have HML := hid hmr.out.left
    have HMB := hid hmr.out.both
    have HMD := hid hmr.out.done
    rw [HN.out, HM.out] at HMR
    rw [HN.out, HM.out] at HML
    rw [HN.out, HM.out] at HMB
    rw [HN.out] at HMD
    clear hown hnx
    by_cases hlt : i < n
    · rcases hr with hr | ⟨ba, oa, rfl, hba, hca⟩
      · exact absurd HN.out (by rw [hr]; simp; omega)
      obtain ⟨c0, c1⟩ := hca i (by rw [HN.out]; exact hlt)
      have d0 := (HX.out.cell (p := ⟨ba, oa + i * 2, none⟩) hba).trans c0
      have d1 := (HX.out.cell (p := ⟨ba, oa + i * 2 + 1, none⟩) hba).trans c1
      have i1 : (i : Int) < (n : Int) := by omega
      clear c0 c1 hca
      generalize hp : xs.getD i e0 = p at *
      obtain ⟨s, t⟩ := p
      simp only at d0 d1
      clear hp
      by_cases hkt : k < m
      · rcases hs with hs | ⟨bb, ob, rfl, hbb, hcb⟩
        · exact absurd HM.out (by rw [hs]; simp; omega)
        obtain ⟨c0, c1⟩ := hcb k (by rw [HM.out]; exact hkt)
        have g0 := (HX.out.cell (p := ⟨bb, ob + k * 2, none⟩) hbb).trans c0
        have g1 := (HX.out.cell (p := ⟨bb, ob + k * 2 + 1, none⟩) hbb).trans c1
        have k1 : (k : Int) < (m : Int) := by omega
        have k2 : ((k : Int) == (m : Int)) = false := beq_eq_false_iff_ne.2 (by omega)
        clear c0 c1 hcb
        generalize hq : ys.getD k e0 = q at *
        obtain ⟨s', t'⟩ := q
        simp only at g0 g1
        clear hq
        by_cases h1 : s < s'
        · have h2 : (s == s') = false := beq_eq_false_iff_ne.2 (by omega)
          go_wp2
          go_quiet (fail)
          go_wp2
          go_quiet (fail)
          go_wp2_with (at_builtin; refine wpList_append_own _ rfl (.tmp 60) (.tmp 65) 40 rfl w.heap.size 55 i0 (.agg #[.int .i64 0, .int .i64 0]) 2 16 Try.underlying40 hi hz0 hz1 hz2 rfl (by decide) _ _ _ rfl (World.ownsRow.alloc (own_drewN HO.out _) _) ⟨wr.heap.size, 0, none⟩ 1 1 [.int .i64 s, .int .i64 t] rfl rfl ?d1 ?d2 ?d3 ?d4 ?d5 ?_)
          case d1 => exact two_new _ _ _ _
          case d2 => intro u hu; simp at hu; rcases hu with rfl | rfl <;> rfl
          case d3 => unfold maxLen; omega
          case d4 => omega
          case d5 => have := HX.out.size; simp; omega
          intro v1 w3 hown1 hgr1 _
          have HO2 := hid (Own.snoc (p := (s, t)) hown1)
          have HX2 := hid ((Below.alloc (below_drewN HX.out _) HX.out.size (.cells #[.int .i64 s, .int .i64 t] 55)).grown hgr1 (by have := HX.out.size; simp; omega) (fun k hk => (World.ownsRow.lt HO.out k hk).1))
          clear hown1 hgr1
          go_wp2
          go_roundw
          case rel => exact ⟨i + 1, k, O ++ [(s, t)], by omega, by omega, by go_num, by go_num, HO2.out, HML.out hlt (fun _ => h1), by simp; omega, HX2.out⟩
          case measure => simp [intOf]; omega
        · by_cases h3 : s = s'
          · have h2 : (s == s') = true := by simp [h3]
            have HEQ := hid h3
            have h4 : s ≤ s' := by omega
            clear h3
            go_wp2
            go_quiet (fail)
            go_wp2
            go_quiet (fail)
            go_wp2_with (at_builtin; refine wpList_append_own _ rfl (.tmp 60) (.tmp 65) 40 rfl w.heap.size 55 i0 (.agg #[.int .i64 0, .int .i64 0]) 2 16 Try.underlying40 hi hz0 hz1 hz2 rfl (by decide) _ _ _ rfl (World.ownsRow.alloc (own_drewN HO.out _) _) ⟨wr.heap.size, 0, none⟩ 1 1 [.int .i64 s, .int .i64 t] rfl rfl ?d1 ?d2 ?d3 ?d4 ?d5 ?_)
            case d1 => exact two_new _ _ _ _
            case d2 => intro u hu; simp at hu; rcases hu with rfl | rfl <;> rfl
            case d3 => unfold maxLen; omega
            case d4 => omega
            case d5 => have := HX.out.size; simp; omega
            intro v1 w3 hown1 hgr1 _
            have HO2 := hid (Own.snoc (p := (s, t)) hown1)
            have HX2 := hid ((Below.alloc (below_drewN HX.out _) HX.out.size (.cells #[.int .i64 s, .int .i64 t] 55)).grown hgr1 (by have := HX.out.size; simp; omega) (fun k hk => (World.ownsRow.lt HO.out k hk).1))
            clear hown1 hgr1
            go_wp2
            go_roundw
            case rel => exact ⟨i + 1, k + 1, O ++ [(s, t)], by omega, by omega, by go_num, by go_num, HO2.out, HMB.out hlt hkt HEQ.out, by simp; omega, HX2.out⟩
            case measure => simp [intOf]; omega
          · have h4 : ¬ s ≤ s' := by omega
            go_wp2
            go_quiet (fail)
            go_wp2_with (at_builtin; refine wpList_append_own _ rfl (.tmp 69) (.tmp 74) 40 rfl w.heap.size 55 i0 (.agg #[.int .i64 0, .int .i64 0]) 2 16 Try.underlying40 hi hz0 hz1 hz2 rfl (by decide) _ _ _ rfl (World.ownsRow.alloc (own_drewN HO.out _) _) ⟨wr.heap.size, 0, none⟩ 1 1 [.int .i64 s', .int .i64 t'] rfl rfl ?d1 ?d2 ?d3 ?d4 ?d5 ?_)
            case d1 => exact two_new _ _ _ _
            case d2 => intro u hu; simp at hu; rcases hu with rfl | rfl <;> rfl
            case d3 => unfold maxLen; omega
            case d4 => omega
            case d5 => have := HX.out.size; simp; omega
            intro v1 w3 hown1 hgr1 _
            have HO2 := hid (Own.snoc (p := (s', t')) hown1)
            have HX2 := hid ((Below.alloc (below_drewN HX.out _) HX.out.size (.cells #[.int .i64 s', .int .i64 t'] 55)).grown hgr1 (by have := HX.out.size; simp; omega) (fun k hk => (World.ownsRow.lt HO.out k hk).1))
            clear hown1 hgr1
            go_wp2
            go_roundw
            case rel => exact ⟨i, k + 1, O ++ [(s', t')], by omega, by omega, by go_num, by go_num, HO2.out, HMR.out hkt (fun _ => by omega), by simp; omega, HX2.out⟩
            case measure => simp [intOf]; omega
      · have hkm' : k = m := by omega
        have k1 : ¬ (k : Int) < (m : Int) := by omega
        have k2 : ((k : Int) == (m : Int)) = true := by simp; omega
        have HKM := hid hkm'
        clear hkm'
        go_wp2
        go_quiet (fail)
        go_wp2
        go_quiet (fail)
        go_wp2_with (at_builtin; refine wpList_append_own _ rfl (.tmp 60) (.tmp 65) 40 rfl w.heap.size 55 i0 (.agg #[.int .i64 0, .int .i64 0]) 2 16 Try.underlying40 hi hz0 hz1 hz2 rfl (by decide) _ _ _ rfl (World.ownsRow.alloc (own_drewN HO.out _) _) ⟨wr.heap.size, 0, none⟩ 1 1 [.int .i64 s, .int .i64 t] rfl rfl ?d1 ?d2 ?d3 ?d4 ?d5 ?_)
        case d1 => exact two_new _ _ _ _
        case d2 => intro u hu; simp at hu; rcases hu with rfl | rfl <;> rfl
        case d3 => unfold maxLen; omega
        case d4 => omega
        case d5 => have := HX.out.size; simp; omega
        intro v1 w3 hown1 hgr1 _
        have HO2 := hid (Own.snoc (p := (s, t)) hown1)
        have HX2 := hid ((Below.alloc (below_drewN HX.out _) HX.out.size (.cells #[.int .i64 s, .int .i64 t] 55)).grown hgr1 (by have := HX.out.size; simp; omega) (fun k hk => (World.ownsRow.lt HO.out k hk).1))
        clear hown1 hgr1
        go_wp2
        go_roundw
        case rel => exact ⟨i + 1, k, O ++ [(s, t)], by omega, by omega, by go_num, by go_num, HO2.out, HML.out hlt (fun h => absurd h hkt), by simp; omega, HX2.out⟩
        case measure => simp [intOf]; omega
    · have i1 : ¬ (i : Int) < (n : Int) := by omega
      by_cases hkt : k < m
      · rcases hs with hs | ⟨bb, ob, rfl, hbb, hcb⟩
        · exact absurd HM.out (by rw [hs]; simp; omega)
        obtain ⟨c0, c1⟩ := hcb k (by rw [HM.out]; exact hkt)
        have g0 := (HX.out.cell (p := ⟨bb, ob + k * 2, none⟩) hbb).trans c0
        have g1 := (HX.out.cell (p := ⟨bb, ob + k * 2 + 1, none⟩) hbb).trans c1
        have k1 : (k : Int) < (m : Int) := by omega
        have k2 : ((k : Int) == (m : Int)) = false := beq_eq_false_iff_ne.2 (by omega)
        clear c0 c1 hcb
        generalize hq : ys.getD k e0 = q at *
        obtain ⟨s', t'⟩ := q
        simp only at g0 g1
        clear hq
        go_wp2
        go_quiet (fail)
        go_wp2_with (at_builtin; refine wpList_append_own _ rfl (.tmp 69) (.tmp 74) 40 rfl w.heap.size 55 i0 (.agg #[.int .i64 0, .int .i64 0]) 2 16 Try.underlying40 hi hz0 hz1 hz2 rfl (by decide) _ _ _ rfl (World.ownsRow.alloc (own_drewN HO.out _) _) ⟨wr.heap.size, 0, none⟩ 1 1 [.int .i64 s', .int .i64 t'] rfl rfl ?d1 ?d2 ?d3 ?d4 ?d5 ?_)
        case d1 => exact two_new _ _ _ _
        case d2 => intro u hu; simp at hu; rcases hu with rfl | rfl <;> rfl
        case d3 => unfold maxLen; omega
        case d4 => omega
        case d5 => have := HX.out.size; simp; omega
        intro v1 w3 hown1 hgr1 _
        have HO2 := hid (Own.snoc (p := (s', t')) hown1)
        have HX2 := hid ((Below.alloc (below_drewN HX.out _) HX.out.size (.cells #[.int .i64 s', .int .i64 t'] 55)).grown hgr1 (by have := HX.out.size; simp; omega) (fun k hk => (World.ownsRow.lt HO.out k hk).1))
        clear hown1 hgr1
        go_wp2
        go_roundw
        case rel => exact ⟨i, k + 1, O ++ [(s', t')], by omega, by omega, by go_num, by go_num, HO2.out, HMR.out hkt (fun h => absurd h hlt), by simp; omega, HX2.out⟩
        case measure => simp [intOf]; omega
      · have k1 : ¬ (k : Int) < (m : Int) := by omega
        have HF : Hid (mrg xs ys = O) := by
          unfold Hid
          rw [HMD.out (by omega), List.drop_eq_nil_of_le (by rw [HM.out]; omega), List.append_nil]
        go_wp2
        go_ret
        exact ⟨_, rfl, by rw [HF.out]; exact HO.out, HX.out⟩
end Go.Proofs.Ytammlhkdcdhfkaa.Smp
