/- Merged samples: the plain facts; the model's l6Merge. -/
import Derived.Test.YtjhdmghpklagkaaGreatD23
import Derived.Deep.QuietTactic
import Derived.Test.YtjhdmghpklagkaaGreatD20
import Derived.Test.YtjhdmghpklagkaaGreatD04
namespace Go.Proofs.YtjhdmghpklagkaaGreat.Smp
open Go.RowKit

def mrg : List Sm → List Sm → List Sm
  | [], b => b
  | a :: A, [] => a :: A
  | a :: A, b :: B => if b.1 < a.1 then b :: mrg (a :: A) B else if a.1 = b.1 then a :: mrg A B else a :: mrg A (b :: B)
termination_by a b => a.length + b.length
theorem mrg_nil_left (b : List Sm) : mrg [] b = b := by unfold mrg; rfl
theorem mrg_nil_right (a : List Sm) : mrg a [] = a := by cases a <;> (unfold mrg; rfl)
theorem mrg_cons (p q : Sm) (A B : List Sm) : mrg (p :: A) (q :: B) = if q.1 < p.1 then q :: mrg (p :: A) B else if p.1 = q.1 then p :: mrg A B else p :: mrg A (q :: B) := by rw [mrg]
theorem mrg_len : ∀ (a b : List Sm), (mrg a b).length ≤ a.length + b.length := by
  intro a b
  induction a generalizing b with
  | nil => rw [mrg_nil_left]; simp
  | cons p A iha =>
    induction b with
    | nil => rw [mrg_nil_right]; simp
    | cons q B ihb =>
      rw [mrg_cons]
      split
      · simp at *; omega
      · split
        · have := iha B; simp at *; omega
        · have := iha (q :: B); simp at *; omega
theorem drop_cons {L : List Sm} {k : Nat} (h : k < L.length) : L.drop k = L.getD k e0 :: L.drop (k + 1) := by
  rw [List.drop_eq_getElem_cons h]; simp [h]
def Mrg (xs ys O : List Sm) (i k : Nat) : Prop := mrg xs ys = O ++ mrg (xs.drop i) (ys.drop k) ∧ O.length ≤ i + k
theorem Mrg.init (xs ys : List Sm) : Mrg xs ys [] 0 0 := ⟨by simp, by simp⟩
theorem Mrg.right {xs ys O : List Sm} {i k : Nat} (h : Mrg xs ys O i k) (hk : k < ys.length) (hi : i < xs.length → (ys.getD k e0).1 < (xs.getD i e0).1) : Mrg xs ys (O ++ [ys.getD k e0]) i (k + 1) := by
  refine ⟨?_, by have := h.2; simp; omega⟩
  rw [h.1, List.append_assoc]
  congr 1
  by_cases hi' : i < xs.length
  · rw [drop_cons hi', drop_cons hk, mrg_cons, if_pos (hi hi')]; rfl
  · rw [List.drop_eq_nil_of_le (by omega), mrg_nil_left, mrg_nil_left, drop_cons hk]; rfl
theorem Mrg.left {xs ys O : List Sm} {i k : Nat} (h : Mrg xs ys O i k) (hi : i < xs.length) (hk : k < ys.length → (xs.getD i e0).1 < (ys.getD k e0).1) : Mrg xs ys (O ++ [xs.getD i e0]) (i + 1) k := by
  refine ⟨?_, by have := h.2; simp; omega⟩
  rw [h.1, List.append_assoc]
  congr 1
  by_cases hk' : k < ys.length
  · have := hk hk'
    rw [drop_cons hi, drop_cons hk', mrg_cons, if_neg (by omega), if_neg (by omega)]; rfl
  · rw [show ys.drop k = [] from List.drop_eq_nil_of_le (by omega), mrg_nil_right, mrg_nil_right, drop_cons hi]; rfl
theorem Mrg.both {xs ys O : List Sm} {i k : Nat} (h : Mrg xs ys O i k) (hi : i < xs.length) (hk : k < ys.length) (he : (xs.getD i e0).1 = (ys.getD k e0).1) : Mrg xs ys (O ++ [xs.getD i e0]) (i + 1) (k + 1) := by
  refine ⟨?_, by have := h.2; simp; omega⟩
  rw [h.1, List.append_assoc]
  congr 1
  rw [drop_cons hi, drop_cons hk, mrg_cons, if_neg (by omega), if_pos he]; rfl
theorem Mrg.done {xs ys O : List Sm} {i k : Nat} (h : Mrg xs ys O i k) (hi : xs.length ≤ i) : mrg xs ys = O ++ ys.drop k := by
  rw [h.1, List.drop_eq_nil_of_le hi, mrg_nil_left]

theorem own_drewN {w : World} {base e size n : Nat} {v : Value} {xs : List Value} (h : w.ownsRow base e size v n xs) (q : Nat) : (w.drewN q).ownsRow base e size v n xs :=
  h.kept (row := none) ⟨rfl, rfl, rfl, Nat.le_refl _, fun _ _ _ => rfl⟩ (by cases hv : v.ownBlock <;> simp)
theorem Own.snoc {w : World} {base : Nat} {v : Value} {O : List Sm} {p : Sm} (h : w.ownsRow base 119 2 v (O.length + 1) (flat O ++ [.int .i64 p.1, .int .i64 p.2])) : Own w base v (O ++ [p]) := by
  unfold Own; rw [flat_append, List.length_append]; exact h

set_option maxHeartbeats 4000000 in
set_option maxRecDepth 10000 in
theorem f110 (a b : Option Addr) (c d : Nat) (xs ys : List Sm) (w : World) (h20 : xs.length ≤ 1048576) (h21 : ys.length ≤ 1048576) (hr : HasS w a xs) (hs : HasS w b ys) :
    Calls Tryz.prog 110 #[.slice a xs.length c, .slice b ys.length d] w fun e w' => ∃ v, e = .returned v ∧ Own w' w.heap.size v (mrg xs ys) ∧ Below w.heap.size w w' := by
  obtain ⟨i0, hi, hz0, hz1, hz2⟩ := info_parts infoS
  generalize hn : xs.length = n at *
  have HN := hid hn
  generalize hm : ys.length = m at *
  have HM := hid hm
  clear hn hm
  go_enter Tryz.func110, Tryz.ntmps110
  go_wp2
  go_loopw [5, 6, 7] (fun so si sk wr => ∃ (i k : Nat) (O : List Sm), i ≤ n ∧ k ≤ m ∧ si = .int .i64 i ∧ sk = .int .i64 k ∧ Own wr w.heap.size so O ∧ Hid (Mrg xs ys O i k) ∧ O.length ≤ i + k ∧ Below w.heap.size w wr) (fun _ si sk _ => n + m - (intOf si).toNat - (intOf sk).toNat)
  case atStart => exact ⟨0, 0, [], Nat.zero_le _, Nat.zero_le _, rfl, rfl, Own.nil _ _, Mrg.init xs ys, by simp, Below.refl _ _⟩
  case round =>
    obtain ⟨i, k, O, hin, hkm, rfl, rfl, hown, hmr, hol, hnx⟩ := hrel
    have HX := hid hnx
    have HO := hid hown
    obtain ⟨ao, co, rfl⟩ := own_form hown
    have HMR := hid hmr.out.right
    have HML := hid hmr.out.left
    have HMB := hid hmr.out.both
    have HMD := hid hmr.out.done
    rw [HN.out, HM.out] at HMR
    rw [HN.out, HM.out] at HML
    rw [HN.out, HM.out] at HMB
    rw [HN.out] at HMD
    clear hown hnx
    by_cases hlt : i < n
    · rcases hr with hr | ⟨ba, oa, rfl, hba, hca⟩
      · exact absurd HN.out (by rw [hr]; simp; omega)
      obtain ⟨c0, c1⟩ := hca i (by rw [HN.out]; exact hlt)
      have d0 := (HX.out.cell (p := ⟨ba, oa + i * 2, none⟩) hba).trans c0
      have d1 := (HX.out.cell (p := ⟨ba, oa + i * 2 + 1, none⟩) hba).trans c1
      have i1 : (i : Int) < (n : Int) := by omega
      clear c0 c1 hca
      generalize hp : xs.getD i e0 = p at *
      obtain ⟨s, t⟩ := p
      simp only at d0 d1
      clear hp
      by_cases hkt : k < m
      · rcases hs with hs | ⟨bb, ob, rfl, hbb, hcb⟩
        · exact absurd HM.out (by rw [hs]; simp; omega)
        obtain ⟨c0, c1⟩ := hcb k (by rw [HM.out]; exact hkt)
        have g0 := (HX.out.cell (p := ⟨bb, ob + k * 2, none⟩) hbb).trans c0
        have g1 := (HX.out.cell (p := ⟨bb, ob + k * 2 + 1, none⟩) hbb).trans c1
        have k1 : (k : Int) < (m : Int) := by omega
        have k2 : ((k : Int) == (m : Int)) = false := beq_eq_false_iff_ne.2 (by omega)
        clear c0 c1 hcb
        generalize hq : ys.getD k e0 = q at *
        obtain ⟨s', t'⟩ := q
        simp only at g0 g1
        clear hq
        by_cases h1 : s < s'
        · have h2 : (s == s') = false := beq_eq_false_iff_ne.2 (by omega)
          go_wp2
          go_quiet (fail)
          go_wp2
          go_quiet (fail)
          go_wp2_with (at_builtin; refine wpList_append_own _ rfl (.tmp 60) (.tmp 65) 78 rfl w.heap.size 119 i0 (.agg #[.int .i64 0, .int .i64 0]) 2 16 Tryz.underlying78 hi hz0 hz1 hz2 rfl (by decide) _ _ _ rfl (World.ownsRow.alloc (own_drewN HO.out _) _) ⟨wr.heap.size, 0, none⟩ 1 1 [.int .i64 s, .int .i64 t] rfl rfl ?d1 ?d2 ?d3 ?d4 ?d5 ?_)
          case d1 => exact two_new _ _ _ _
          case d2 => intro u hu; simp at hu; rcases hu with rfl | rfl <;> rfl
          case d3 => unfold maxLen; omega
          case d4 => omega
          case d5 => have := HX.out.size; simp; omega
          intro v1 w3 hown1 hgr1 _
          have HO2 := hid (Own.snoc (p := (s, t)) hown1)
          have HX2 := hid ((Below.alloc (below_drewN HX.out _) HX.out.size (.cells #[.int .i64 s, .int .i64 t] 119)).grown hgr1 (by have := HX.out.size; simp; omega) (fun k hk => (World.ownsRow.lt HO.out k hk).1))
          clear hown1 hgr1
          go_wp2
          go_roundw
          case rel => exact ⟨i + 1, k, O ++ [(s, t)], by omega, by omega, by go_num, by go_num, HO2.out, HML.out hlt (fun _ => h1), by simp; omega, HX2.out⟩
          case measure => simp [intOf]; omega
        · by_cases h3 : s = s'
          · have h2 : (s == s') = true := by simp [h3]
            have HEQ := hid h3
            have h4 : s ≤ s' := by omega
            clear h3
            go_wp2
            go_quiet (fail)
            go_wp2
            go_quiet (fail)
            go_wp2_with (at_builtin; refine wpList_append_own _ rfl (.tmp 60) (.tmp 65) 78 rfl w.heap.size 119 i0 (.agg #[.int .i64 0, .int .i64 0]) 2 16 Tryz.underlying78 hi hz0 hz1 hz2 rfl (by decide) _ _ _ rfl (World.ownsRow.alloc (own_drewN HO.out _) _) ⟨wr.heap.size, 0, none⟩ 1 1 [.int .i64 s, .int .i64 t] rfl rfl ?d1 ?d2 ?d3 ?d4 ?d5 ?_)
            case d1 => exact two_new _ _ _ _
            case d2 => intro u hu; simp at hu; rcases hu with rfl | rfl <;> rfl
            case d3 => unfold maxLen; omega
            case d4 => omega
            case d5 => have := HX.out.size; simp; omega
            intro v1 w3 hown1 hgr1 _
            have HO2 := hid (Own.snoc (p := (s, t)) hown1)
            have HX2 := hid ((Below.alloc (below_drewN HX.out _) HX.out.size (.cells #[.int .i64 s, .int .i64 t] 119)).grown hgr1 (by have := HX.out.size; simp; omega) (fun k hk => (World.ownsRow.lt HO.out k hk).1))
            clear hown1 hgr1
            go_wp2
            go_roundw
            case rel => exact ⟨i + 1, k + 1, O ++ [(s, t)], by omega, by omega, by go_num, by go_num, HO2.out, HMB.out hlt hkt HEQ.out, by simp; omega, HX2.out⟩
            case measure => simp [intOf]; omega
          · have h4 : ¬ s ≤ s' := by omega
            go_wp2
            go_quiet (fail)
            go_wp2_with (at_builtin; refine wpList_append_own _ rfl (.tmp 69) (.tmp 74) 78 rfl w.heap.size 119 i0 (.agg #[.int .i64 0, .int .i64 0]) 2 16 Tryz.underlying78 hi hz0 hz1 hz2 rfl (by decide) _ _ _ rfl (World.ownsRow.alloc (own_drewN HO.out _) _) ⟨wr.heap.size, 0, none⟩ 1 1 [.int .i64 s', .int .i64 t'] rfl rfl ?d1 ?d2 ?d3 ?d4 ?d5 ?_)
            case d1 => exact two_new _ _ _ _
            case d2 => intro u hu; simp at hu; rcases hu with rfl | rfl <;> rfl
            case d3 => unfold maxLen; omega
            case d4 => omega
            case d5 => have := HX.out.size; simp; omega
            intro v1 w3 hown1 hgr1 _
            have HO2 := hid (Own.snoc (p := (s', t')) hown1)
            have HX2 := hid ((Below.alloc (below_drewN HX.out _) HX.out.size (.cells #[.int .i64 s', .int .i64 t'] 119)).grown hgr1 (by have := HX.out.size; simp; omega) (fun k hk => (World.ownsRow.lt HO.out k hk).1))
            clear hown1 hgr1
            go_wp2
            go_roundw
            case rel => exact ⟨i, k + 1, O ++ [(s', t')], by omega, by omega, by go_num, by go_num, HO2.out, HMR.out hkt (fun _ => by omega), by simp; omega, HX2.out⟩
            case measure => simp [intOf]; omega
      · have hkm' : k = m := by omega
        have k1 : ¬ (k : Int) < (m : Int) := by omega
        have k2 : ((k : Int) == (m : Int)) = true := by simp; omega
        have HKM := hid hkm'
        clear hkm'
        go_wp2
        go_quiet (fail)
        go_wp2
        go_quiet (fail)
        go_wp2_with (at_builtin; refine wpList_append_own _ rfl (.tmp 60) (.tmp 65) 78 rfl w.heap.size 119 i0 (.agg #[.int .i64 0, .int .i64 0]) 2 16 Tryz.underlying78 hi hz0 hz1 hz2 rfl (by decide) _ _ _ rfl (World.ownsRow.alloc (own_drewN HO.out _) _) ⟨wr.heap.size, 0, none⟩ 1 1 [.int .i64 s, .int .i64 t] rfl rfl ?d1 ?d2 ?d3 ?d4 ?d5 ?_)
        case d1 => exact two_new _ _ _ _
        case d2 => intro u hu; simp at hu; rcases hu with rfl | rfl <;> rfl
        case d3 => unfold maxLen; omega
        case d4 => omega
        case d5 => have := HX.out.size; simp; omega
        intro v1 w3 hown1 hgr1 _
        have HO2 := hid (Own.snoc (p := (s, t)) hown1)
        have HX2 := hid ((Below.alloc (below_drewN HX.out _) HX.out.size (.cells #[.int .i64 s, .int .i64 t] 119)).grown hgr1 (by have := HX.out.size; simp; omega) (fun k hk => (World.ownsRow.lt HO.out k hk).1))
        clear hown1 hgr1
        go_wp2
        go_roundw
        case rel => exact ⟨i + 1, k, O ++ [(s, t)], by omega, by omega, by go_num, by go_num, HO2.out, HML.out hlt (fun h => absurd h hkt), by simp; omega, HX2.out⟩
        case measure => simp [intOf]; omega
    · have i1 : ¬ (i : Int) < (n : Int) := by omega
      by_cases hkt : k < m
      · rcases hs with hs | ⟨bb, ob, rfl, hbb, hcb⟩
        · exact absurd HM.out (by rw [hs]; simp; omega)
        obtain ⟨c0, c1⟩ := hcb k (by rw [HM.out]; exact hkt)
        have g0 := (HX.out.cell (p := ⟨bb, ob + k * 2, none⟩) hbb).trans c0
        have g1 := (HX.out.cell (p := ⟨bb, ob + k * 2 + 1, none⟩) hbb).trans c1
        have k1 : (k : Int) < (m : Int) := by omega
        have k2 : ((k : Int) == (m : Int)) = false := beq_eq_false_iff_ne.2 (by omega)
        clear c0 c1 hcb
        generalize hq : ys.getD k e0 = q at *
        obtain ⟨s', t'⟩ := q
        simp only at g0 g1
        clear hq
        go_wp2
        go_quiet (fail)
        go_wp2_with (at_builtin; refine wpList_append_own _ rfl (.tmp 69) (.tmp 74) 78 rfl w.heap.size 119 i0 (.agg #[.int .i64 0, .int .i64 0]) 2 16 Tryz.underlying78 hi hz0 hz1 hz2 rfl (by decide) _ _ _ rfl (World.ownsRow.alloc (own_drewN HO.out _) _) ⟨wr.heap.size, 0, none⟩ 1 1 [.int .i64 s', .int .i64 t'] rfl rfl ?d1 ?d2 ?d3 ?d4 ?d5 ?_)
        case d1 => exact two_new _ _ _ _
        case d2 => intro u hu; simp at hu; rcases hu with rfl | rfl <;> rfl
        case d3 => unfold maxLen; omega
        case d4 => omega
        case d5 => have := HX.out.size; simp; omega
        intro v1 w3 hown1 hgr1 _
        have HO2 := hid (Own.snoc (p := (s', t')) hown1)
        have HX2 := hid ((Below.alloc (below_drewN HX.out _) HX.out.size (.cells #[.int .i64 s', .int .i64 t'] 119)).grown hgr1 (by have := HX.out.size; simp; omega) (fun k hk => (World.ownsRow.lt HO.out k hk).1))
        clear hown1 hgr1
        go_wp2
        go_roundw
        case rel => exact ⟨i, k + 1, O ++ [(s', t')], by omega, by omega, by go_num, by go_num, HO2.out, HMR.out hkt (fun h => absurd h hlt), by simp; omega, HX2.out⟩
        case measure => simp [intOf]; omega
      · have k1 : ¬ (k : Int) < (m : Int) := by omega
        have HF : Hid (mrg xs ys = O) := by
          unfold Hid
          rw [HMD.out (by omega), List.drop_eq_nil_of_le (by rw [HM.out]; omega), List.append_nil]
        go_wp2
        go_ret
        exact ⟨_, rfl, by rw [HF.out]; exact HO.out, HX.out⟩
end Go.Proofs.YtjhdmghpklagkaaGreat.Smp
namespace Go.Proofs.YtjhdmghpklagkaaGreat.Smp
open Go.RowKit

end Go.Proofs.YtjhdmghpklagkaaGreat.Smp
namespace Go.Proofs.YtjhdmghpklagkaaGreat.Smp
open Go.RowKit

def lenOf (v : Value) : Nat := match v with | .slice _ n _ => n | _ => 0
end Go.Proofs.YtjhdmghpklagkaaGreat.Smp
namespace Go.Proofs.YtjhdmghpklagkaaGreat.Srs
open Go.RowKit
open Go.Proofs.YtjhdmghpklagkaaGreat.Lab (Lb HasL)
open Go.Proofs.YtjhdmghpklagkaaGreat.Smp (Sm HasS)

theorem flat_last (R : List Q) (q q' : Q) (h : q'.a = q.a ∧ q'.l = q.l ∧ q'.c = q.c) : (flat (R ++ [q])).set (R.length * 2 + 1) (.slice q'.b q'.s.length q'.d) = flat (R ++ [q']) := by
  rw [flat_append, flat_append, List.set_append_right _ _ (by rw [flat_len]; omega), flat_len, show R.length * 2 + 1 - R.length * 2 = 1 by omega]
  obtain ⟨h1, h2, h3⟩ := h
  show flat R ++ List.set [Value.slice q.a q.l.length q.c, Value.slice q.b q.s.length q.d] 1 _ = flat R ++ [Value.slice q'.a q'.l.length q'.c, Value.slice q'.b q'.s.length q'.d]
  rw [h1, h2, h3]
  rfl
end Go.Proofs.YtjhdmghpklagkaaGreat.Srs
namespace Go.Proofs.YtjhdmghpklagkaaGreat.Srs
open Go.RowKit
open Go.Proofs.YtjhdmghpklagkaaGreat.Lab (Lb HasL cmpList)
open Go.Proofs.YtjhdmghpklagkaaGreat.Smp (Sm HasS mrg)
open Go.Proofs.YtjhdmghpklagkaaGreat.Stb (isort ltP ltQ runs upd eqv isort_mem isortQ foldl_runs)

def jF (x y : Pl) : Pl := (x.1, mrg x.2 y.2)
theorem mrg_pos {xs ys : List Sm} (h : xs ≠ []) : mrg xs ys ≠ [] := by
  cases xs with
  | nil => exact absurd rfl h
  | cons p A =>
    cases ys with
    | nil => rw [Smp.mrg_nil_right]; simp
    | cons q B =>
      rw [Smp.mrg_cons]
      split
      · simp
      · split <;> simp
theorem take_get {S : List Q} {k : Nat} (h : k < S.length) : S.take (k + 1) = S.take k ++ [S.getD k q0] := by
  rw [List.take_succ_eq_append_getElem h]; simp [h]
theorem get_mem' {S : List Q} {k : Nat} (h : k < S.length) : S.getD k q0 ∈ S := by
  have e : S.getD k q0 = S[k] := by simp [h]
  rw [e]; exact List.getElem_mem h
def jb (R : List Q) (q : Q) : Bool := match R.getLast? with | none => false | some p => decide (cmpList p.l q.l = 0)
theorem jb_snoc (R : List Q) (p q : Q) : jb (R ++ [p]) q = decide (cmpList p.l q.l = 0) := by simp [jb]
theorem snoc_of {R : List Q} {m : Nat} (h : R.length = m + 1) : ∃ R' p, R = R' ++ [p] ∧ R'.length = m := by
  have hne : R ≠ [] := by intro e; rw [e] at h; simp at h
  exact ⟨R.dropLast, R.getLast hne, (List.dropLast_concat_getLast hne).symm, by simp [h]⟩
theorem step_append_j {P : Program} {ops : Array Oper} {o : Oper} {a : Act} {w : World} {K : Act → World → Prop} {Q : Exit → Act → World → Prop} {E : Prop}
    (hg : o.guard = none) (s x : Operand) (t : TypeId) (hop : o.op = Op.call { callee := Callee.builtin Builtin.append, args := #[s, x], argTypes := #[t, t] })
    (base : Nat) (e : TypeId) (i : TypeInfo) (z : Value) (size bytes : Nat) (h1 : P.underlying t = some (.slice e)) (h2 : P.info? e = some i) (h3 : i.zero = some z) (h4 : i.size = size) (h5 : i.bytes = bytes) (h6 : z.cells.size = size) (h7 : 0 < size)
    (ao : Option Addr) (n cap : Nat) (olds : List Value) (hs : a.eval s = .slice ao n cap) (hown : w.ownsRow base e size (.slice ao n cap) n olds)
    (ad : Addr) (m c : Nat) (news : List Value) (hx : a.eval x = .slice (some ad) m c) (hn : news.length = m * size) (hc : ∀ j u, news[j]? = some u → w.cell? (ad.add j) = some u) (h1c : ∀ u ∈ news, u.oneCell' = true)
    (b1 : n + m ≤ maxLen) (b2 : (n + m) * bytes ≤ 140737488355328) (hbase : base ≤ w.heap.size)
    (hK : ∀ v' w', w'.ownsRow base e size v' (n + m) (olds ++ news) → w.grownBy w' (Value.slice ao n cap).ownBlock → (v'.ownBlock = (Value.slice ao n cap).ownBlock ∨ v'.ownBlock = some w.heap.size) → K (a.put o.dst v') w') :
    if Region.wanted o (yielded ops a.tmps) = true then Oper.wp P o a w K Q else E := by
  have hw : Region.wanted o (yielded ops a.tmps) = true := by simp [Region.wanted, hg]
  rw [if_pos hw]
  obtain ⟨v', w', hrun, r1, r2, _, r4⟩ := run_append_own_at (P := P) w base t o.type e i z size bytes h1 h2 h3 h4 h5 h6 h7 (.slice ao n cap) n olds hown ad m c news hn hc h1c b1 b2 hbase
  unfold Oper.wp
  simp [execOp, hop, resolve, invoke, builtin, hs, hx, hrun, Result.andThen]
  exact hK v' w' r1 r2 r4
abbrev SB (q : Q) (B : Nat) (x : World) : Prop := x.cell? ⟨B, 0, none⟩ = some (.slice q.a q.l.length q.c) ∧ x.cell? ⟨B, 1, none⟩ = some (.slice q.b q.s.length q.d)
theorem own_formP {w : World} {base e size n : Nat} {v : Value} {xs : List Value} (h : w.ownsRow base e size v n xs) (hp : 0 < n) : ∃ g c, v = .slice (some ⟨g, 0, none⟩) n c := by
  rcases h.2 with ⟨_, h2⟩ | ⟨g, cap, cur, h1, _⟩
  · omega
  · exact ⟨g, cap, h1⟩
end Go.Proofs.YtjhdmghpklagkaaGreat.Srs
namespace Go.Proofs.YtjhdmghpklagkaaGreat.Srs
open Go.RowKit
open Go.Proofs.YtjhdmghpklagkaaGreat.Lab (Lb HasL)
open Go.Proofs.YtjhdmghpklagkaaGreat.Smp (Sm HasS)

def Dsj (p q : Q) : Prop := blk p.a ≠ blk q.a ∧ blk p.a ≠ blk q.b ∧ blk p.b ≠ blk q.a ∧ blk p.b ≠ blk q.b
theorem Dsj.symm {p q : Q} (h : Dsj p q) : Dsj q p := ⟨h.1.symm, h.2.2.1.symm, h.2.1.symm, h.2.2.2.symm⟩
structure Kin (X : Nat) (a : Option Addr) (qs : List Q) (w : World) : Prop where
  own : ∀ q ∈ qs, Own2 X q w
  nea : ∀ g, a = some ⟨g, 0, none⟩ → ∀ q ∈ qs, blk q.a ≠ g ∧ blk q.b ≠ g
  dis : qs.Pairwise Dsj
theorem OwnO.kin {X n c : Nat} {a : Option Addr} {qs : List Q} {w : World} (h : OwnO X a n c qs w) : Kin X a qs w := by
  have hl := h.len
  have hg : ∀ i, (hi : i < qs.length) → qs.getD i q0 = qs[i] := fun i hi => by simp [hi]
  refine ⟨fun q hq => ?_, fun g hgg q hq => ?_, List.pairwise_iff_getElem.2 fun i j hi hj hij => ?_⟩
  · obtain ⟨i, hi, rfl⟩ := List.getElem_of_mem hq
    have := h.own i (by omega)
    rw [hg i hi] at this; exact this
  · obtain ⟨i, hi, rfl⟩ := List.getElem_of_mem hq
    have := h.nea g hgg i (by omega)
    rw [hg i hi] at this; exact this
  · have := h.dis i j (by omega) (by omega) (by omega)
    rw [hg i hi, hg j hj] at this; exact this
theorem Kin.ownO {X n c : Nat} {a : Option Addr} {qs : List Q} {w : World} (h : Kin X a qs w) (hn : qs.length = n) (hr : w.ownsRow X 80 2 (.slice a n c) n (flat qs)) : OwnO X a n c qs w := by
  have hg : ∀ i, (hi : i < qs.length) → qs.getD i q0 = qs[i] := fun i hi => by simp [hi]
  refine ⟨hn, hr, fun i hi => ?_, fun g hgg i hi => ?_, fun i j hi hj hij => ?_⟩
  · rw [hg i (by omega)]; exact h.own _ (List.getElem_mem _)
  · rw [hg i (by omega)]; exact h.nea g hgg _ (List.getElem_mem _)
  · rw [hg i (by omega), hg j (by omega)]
    rcases Nat.lt_or_gt_of_ne hij with e | e
    · exact List.pairwise_iff_getElem.1 h.dis i j (by omega) (by omega) e
    · exact (List.pairwise_iff_getElem.1 h.dis j i (by omega) (by omega) e).symm
theorem Kin.perm {X : Nat} {a : Option Addr} {L K : List Q} {w : World} (h : Kin X a L w) (hp : L.Perm K) : Kin X a K w :=
  ⟨fun q hq => h.own q (hp.mem_iff.2 hq), fun g hg q hq => h.nea g hg q (hp.mem_iff.2 hq), (hp.pairwise_iff (fun h => Dsj.symm h)).1 h.dis⟩
theorem Kin.cons {X : Nat} {a : Option Addr} {L : List Q} {q : Q} {w : World} (h : Kin X a L w) (h1 : Own2 X q w) (h2 : ∀ g, a = some ⟨g, 0, none⟩ → blk q.a ≠ g ∧ blk q.b ≠ g) (h3 : ∀ p ∈ L, Dsj q p) : Kin X a (q :: L) w := by
  refine ⟨fun p hp => ?_, fun g hg p hp => ?_, List.pairwise_cons.2 ⟨h3, h.dis⟩⟩
  · rcases List.mem_cons.1 hp with e | e
    · rw [e]; exact h1
    · exact h.own p e
  · rcases List.mem_cons.1 hp with e | e
    · rw [e]; exact h2 g hg
    · exact h.nea g hg p e
theorem Kin.tail {X : Nat} {a : Option Addr} {L : List Q} {q : Q} {w : World} (h : Kin X a (q :: L) w) : Kin X a L w := ⟨fun p hp => h.own p (by simp [hp]), fun g hg p hp => h.nea g hg p (by simp [hp]), (List.pairwise_cons.1 h.dis).2⟩
theorem Kin.below {X : Nat} {a : Option Addr} {L : List Q} {w w' : World} (h : Kin X a L w) (hb : Below w.heap.size w w') : Kin X a L w' := ⟨fun p hp => (h.own p hp).below hb, h.nea, h.dis⟩
theorem Kin.moved {X : Nat} {a a' : Option Addr} {L : List Q} {w w' : World} {r : Option Nat} (h : Kin X a L w) (hg : w.grownBy w' r) (hr : ∀ g, r = some g → a = some ⟨g, 0, none⟩) (ha : ∀ g, a' = some ⟨g, 0, none⟩ → a = some ⟨g, 0, none⟩ ∨ w.heap.size ≤ g) : Kin X a' L w' := by
  refine ⟨fun p hp => ?_, fun g hg' p hp => ?_, h.dis⟩
  · refine (h.own p hp).kept hg (fun e => ?_) (fun e => ?_)
    · exact (h.nea _ (hr _ e.symm) p hp).1 rfl
    · exact (h.nea _ (hr _ e.symm) p hp).2 rfl
  · rcases ha g hg' with e | e
    · exact h.nea g e p hp
    · have := (h.own p hp).hi; constructor <;> omega
theorem perm_mid (A B : List Q) (q : Q) : (q :: (A ++ B)).Perm (A ++ q :: B) := List.perm_middle.symm
theorem flat_mid (A B : List Q) (q : Q) : flat (A ++ q :: B) = flat A ++ ([.slice q.a q.l.length q.c, .slice q.b q.s.length q.d] ++ flat B) := by rw [flat_append, flat_cons]; rfl
theorem OwnO.setAt {X g m c gb d' : Nat} {A B : List Q} {q : Q} {s' : List Sm} {w W : World} (h : OwnO X (some ⟨g, 0, none⟩) m c (A ++ q :: B) w) (hb : Below w.heap.size w W) (hX : X ≤ w.heap.size) (hs : W.ownsRow w.heap.size 119 2 (.slice (some ⟨gb, 0, none⟩) s'.length d') s'.length (Smp.flat s')) :
    OwnO X (some ⟨g, 0, none⟩) m c (A ++ ⟨q.l, q.a, q.c, s', some ⟨gb, 0, none⟩, d'⟩ :: B) (W.setCell ⟨g, A.length * 2 + 1, none⟩ (.slice (some ⟨gb, 0, none⟩) s'.length d')) := by
  have hst := (own_below h.row hb).stored (A.length * 2 + 1) (.slice (some ⟨gb, 0, none⟩) s'.length d')
  have hg : g < w.heap.size := (h.row.lt g rfl).2
  have hgb : w.heap.size ≤ gb := (hs.lt gb rfl).1
  have hk := h.kin.perm (perm_mid A B q).symm
  have hq := hk.own q (by simp)
  have hqn := hk.nea g rfl q (by simp)
  have hqa := hq.hi
  have hq' : Own2 X ⟨q.l, q.a, q.c, s', some ⟨gb, 0, none⟩, d'⟩ W := ⟨hq.ha, rfl, own_below hq.lab hb, own_base hs hX, by show blk q.a ≠ gb; omega⟩
  have hk2 : Kin X (some ⟨g, 0, none⟩) (⟨q.l, q.a, q.c, s', some ⟨gb, 0, none⟩, d'⟩ :: (A ++ B)) W := by
    refine (hk.tail.below hb).cons hq' (fun g' hg' => by cases hg'; exact ⟨hqn.1, by show gb ≠ g; omega⟩) (fun p hp => ?_)
    have h1 := (List.pairwise_cons.1 hk.dis).1 p hp
    have h2 := (hk.tail.own p hp).hi
    exact ⟨h1.1, h1.2.1, by show gb ≠ _; omega, by show gb ≠ _; omega⟩
  have hk3 := (hk2.moved (a' := some ⟨g, 0, none⟩) hst.2 (fun g' e => by cases e; rfl) (fun g' e => .inl e)).perm (perm_mid A B _)
  refine hk3.ownO (by have := h.len; simp at this ⊢; exact this) ?_
  have e : (flat (A ++ q :: B)).set (A.length * 2 + 1) (.slice (some ⟨gb, 0, none⟩) s'.length d') = flat (A ++ ⟨q.l, q.a, q.c, s', some ⟨gb, 0, none⟩, d'⟩ :: B) := by
    rw [flat_mid, flat_mid, List.set_append_right _ _ (by rw [flat_len]; omega), flat_len, show A.length * 2 + 1 - A.length * 2 = 1 by omega]
    rfl
  rw [← e]
  exact hst.1
end Go.Proofs.YtjhdmghpklagkaaGreat.Srs
namespace Go.Proofs.YtjhdmghpklagkaaGreat.Hpl
open Go.Proofs.YtjhdmghpklagkaaGreat.Stb
open Go.Proofs.YtjhdmghpklagkaaGreat.Smp (Sm mrg mrg_nil_left mrg_nil_right mrg_cons)

theorem mrg_behind : ∀ (a b : List Sm), (∀ p ∈ a, ∀ q ∈ b, p.1 < q.1) → mrg a b = a ++ b
  | [], b, _ => mrg_nil_left b
  | p :: a, [], _ => by rw [mrg_nil_right, List.append_nil]
  | p :: a, q :: b, h => by
    have hpq : p.1 < q.1 := h p (by simp) q (by simp)
    have ih := mrg_behind a (q :: b) (fun x hx y hy => h x (by simp [hx]) y hy)
    rw [mrg_cons, if_neg (by omega), if_neg (by omega), ih]
    rfl
variable {κ : Type}
def jMrg (x y : κ × List Sm) : κ × List Sm := (x.1, mrg x.2 y.2)
def jCat (x y : κ × List Sm) : κ × List Sm := (x.1, x.2 ++ y.2)
abbrev Then (y s : κ × List Sm) : Prop := y.1 = s.1 → ∀ p ∈ y.2, ∀ q ∈ s.2, p.1 < q.1
def Put (A o : List (κ × List Sm)) : Prop := ∀ x ∈ o, ∀ p ∈ x.2, ∃ y ∈ A, y.1 = x.1 ∧ p ∈ y.2
theorem put_same {lt : κ × List Sm → κ × List Sm → Bool} (hz : ∀ x s, eqv lt x s = true → x.1 = s.1) {A : List (κ × List Sm)} {s : κ × List Sm} (hs : ∀ y ∈ A, Then y s) : ∀ o : List (κ × List Sm), Put A o → put lt jMrg s o = put lt jCat s o
  | [], _ => rfl
  | x :: o, h => by
    have ih := put_same hz hs o (fun y hy => h y (by simp [hy]))
    unfold put
    by_cases he : eqv lt x s = true
    · have hk := hz x s he
      have hm : mrg x.2 s.2 = x.2 ++ s.2 := mrg_behind _ _ (fun p hp q hq => by
        obtain ⟨y, hy, e, hpy⟩ := h x (by simp) p hp
        exact hs y hy (e.trans hk) p hpy q hq)
      rw [if_pos he, if_pos he]
      show (x.1, mrg x.2 s.2) :: o = _
      rw [hm]; rfl
    · rw [if_neg he, if_neg he, ih]
theorem put_put {lt : κ × List Sm → κ × List Sm → Bool} (hz : ∀ x s, eqv lt x s = true → x.1 = s.1) {A : List (κ × List Sm)} {s : κ × List Sm} : ∀ o : List (κ × List Sm), Put A o → Put (A ++ [s]) (put lt jCat s o)
  | [], _ => by
    intro x hx p hp
    have : x = s := by simpa [put] using hx
    subst this
    exact ⟨x, by simp, rfl, hp⟩
  | x :: o, h => by
    have up : ∀ y ∈ x :: o, ∀ p ∈ y.2, ∃ z ∈ A ++ [s], z.1 = y.1 ∧ p ∈ z.2 := fun y hy p hp => by
      obtain ⟨z, hzA, e⟩ := h y hy p hp
      exact ⟨z, by simp [hzA], e⟩
    have me : ∀ p ∈ s.2, ∃ z ∈ A ++ [s], z.1 = s.1 ∧ p ∈ z.2 := fun p hp => ⟨s, by simp, rfl, hp⟩
    unfold put
    by_cases he : eqv lt x s = true
    · rw [if_pos he]
      intro y hy p hp
      rcases List.mem_cons.1 hy with rfl | hy
      · rcases List.mem_append.1 hp with hp | hp
        · exact up x (by simp) p hp
        · obtain ⟨z, h1, h2, h3⟩ := me p hp
          exact ⟨z, h1, h2.trans (hz x s he).symm, h3⟩
      · exact up y (by simp [hy]) p hp
    · rw [if_neg he]
      by_cases hl : lt s x = true
      · rw [if_pos hl]
        intro y hy p hp
        rcases List.mem_cons.1 hy with rfl | hy
        · exact me p hp
        · exact up y hy p hp
      · rw [if_neg hl]
        have ih := put_put hz o (fun y hy => h y (by simp [hy])) (A := A) (s := s)
        intro y hy p hp
        rcases List.mem_cons.1 hy with rfl | hy
        · exact up y (by simp) p hp
        · exact ih y hy p hp
theorem puts_same {lt : κ × List Sm → κ × List Sm → Bool} (hz : ∀ x s, eqv lt x s = true → x.1 = s.1) : ∀ (B A o : List (κ × List Sm)), Put A o → (A ++ B).Pairwise Then → puts lt jMrg o B = puts lt jCat o B
  | [], _, _, _, _ => rfl
  | s :: B, A, o, h, hp => by
    have hs : ∀ y ∈ A, Then y s := fun y hy => (List.pairwise_append.1 hp).2.2 y hy s (by simp)
    have h1 := put_same hz hs o h
    have h2 := puts_same hz B (A ++ [s]) (put lt jCat s o) (put_put hz o h) (by simpa using hp)
    show puts lt jMrg (put lt jMrg s o) B = puts lt jCat (put lt jCat s o) B
    rw [h1]; exact h2
theorem join_same {lt : κ × List Sm → κ × List Sm → Bool} (O : Ord lt) (J : Jn lt (jCat (κ := κ))) (hz : ∀ x s, eqv lt x s = true → x.1 = s.1) (L : List (κ × List Sm)) (hp : L.Pairwise Then) : runs lt jCat (isort lt L) = puts lt jMrg [] L := by
  rw [runs_isort O J, puts_same hz L [] [] (fun x hx => by simp at hx) (by simpa using hp)]
end Go.Proofs.YtjhdmghpklagkaaGreat.Hpl
