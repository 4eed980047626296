/- What l2With comes to. -/
import Derived.Test.YtigakbhficoonaaWl
namespace Go.Proofs.Ytigakbhficoonaa.Lab
open Go.RowKit Go.Proofs.Ytigakbhficoonaa.Str

theorem box_grown {w w' : World} {k : Nat} {o : Obj} {r : Option Nat} (h : w.heap[k]? = some o) (hg : w.grownBy w' r) (hne : some k ≠ r) : w'.heap[k]? = some o := (hg.block k (lt_block h) hne).trans h
def stW (ls : List Lb) (x v : ByteArray) (k : Nat) : List Lb × Bool := (ls.take k).foldl (stepW x v) ([], decide (v = ByteArray.empty))
theorem stW_succ {ls : List Lb} {x v : ByteArray} {k : Nat} (hk : k < ls.length) : stW ls x v (k + 1) = stepW x v (stW ls x v k) (ls.getD k e0) := by
  unfold stW
  rw [List.take_succ_eq_append_getElem hk, List.foldl_append, getD_mem_lt hk]
  rfl
theorem st_eq1 {x v : ByteArray} {out : List Lb} {p : Lb} (h : p.1 = x) : stepW x v (out, true) p = (out, true) := by
  unfold stepW add1; rw [if_pos h, if_neg (by simp)]
theorem st_ne1 {x v : ByteArray} {out : List Lb} {p : Lb} (h : p.1 ≠ x) : stepW x v (out, true) p = (out ++ [p], true) := by
  unfold stepW add1; rw [if_neg h, if_neg (by simp)]
theorem st_eq2 {x v : ByteArray} {out : List Lb} {p : Lb} (hc : cmpX x p ≤ 0) (h : p.1 = x) : stepW x v (out, false) p = (out ++ [(x, v)], true) := by
  unfold stepW add1; rw [if_pos h, if_pos ⟨rfl, hc⟩]
theorem st_ne2 {x v : ByteArray} {out : List Lb} {p : Lb} (hc : cmpX x p ≤ 0) (h : p.1 ≠ x) : stepW x v (out, false) p = (out ++ [(x, v)] ++ [p], true) := by
  unfold stepW add1; rw [if_neg h, if_pos ⟨rfl, hc⟩]
theorem st_eq3 {x v : ByteArray} {out : List Lb} {p : Lb} (hc : ¬ cmpX x p ≤ 0) (h : p.1 = x) : stepW x v (out, false) p = (out, false) := by
  unfold stepW add1; rw [if_pos h, if_neg (fun g => hc g.2)]
theorem st_ne3 {x v : ByteArray} {out : List Lb} {p : Lb} (hc : ¬ cmpX x p ≤ 0) (h : p.1 ≠ x) : stepW x v (out, false) p = (out ++ [p], false) := by
  unfold stepW add1; rw [if_neg h, if_neg (fun g => hc g.2)]
theorem flat_snoc (A : List Lb) (p : Lb) : flat (A ++ [p]) = flat A ++ [.string p.1, .string p.2] := by rw [flat_append]; rfl
theorem str_empty (v : ByteArray) : v.toList.isEmpty = decide (v = ByteArray.empty) := by
  rw [Bool.eq_iff_iff, List.isEmpty_iff, decide_eq_true_iff, ByteArray.toList_eq]
  exact ⟨fun h => WideShapes.bytes_inj (by rw [h]; rfl), fun h => by rw [h]; rfl⟩
theorem str_eq' {a b : ByteArray} (h : a = b) : (a.toList != b.toList) = false := by rw [h]; simp
theorem str_ne' {a b : ByteArray} (h : a ≠ b) : (a.toList != b.toList) = true := by
  rw [bne, str_ne h]; rfl

set_option maxHeartbeats 8000000 in
set_option maxRecDepth 100000 in
theorem f30 (a : Option Addr) (n c : Nat) (ls : List Lb) (x v : ByteArray) (w : World) (hn : ls.length = n) (h20 : n ≤ 1048576) (hr : HasL w a ls) (hx : x.size ≤ maxLen) :
    Calls Try.prog 30 #[.slice a n c, .string x, .string v] w fun e w' => ∃ a' m c', e = .returned (.slice a' m c') ∧ w'.ownsRow w.heap.size 33 2 (.slice a' m c') m (flat (withF ls x v)) ∧ Below w.heap.size w w' := by
  obtain ⟨i0, hi, hz0, hz1, hz2⟩ := info_parts info50
  have HN := hid hn
  clear hn
  obtain ⟨d0, hd0⟩ : ∃ d0, d0 = decide (v = ByteArray.empty) := ⟨_, rfl⟩
  have hd1 : v.toList.isEmpty = d0 := by rw [hd0]; exact str_empty v
  have HD := hid hd0
  clear hd0
  go_enter Try.func30, Try.ntmps30
  go_wp2
  go_loopw [7, 8, 15] (fun so sd si wr => ∃ (k m c' : Nat) (a' : Option Addr) (out : List Lb) (d : Bool), k ≤ n ∧ m ≤ 2 * k ∧ si = .int .i64 k ∧ so = .slice a' m c' ∧ sd = .bool d ∧ Hid (stW ls x v k = (out, d)) ∧ wr.ownsRow w.heap.size 33 2 (.slice a' m c') m (flat out) ∧ Below w.heap.size w wr) (fun _ _ si _ => n - (intOf si).toNat)
  case atStart => exact ⟨0, 0, 0, none, [], d0, Nat.zero_le _, Nat.le_refl _, rfl, rfl, rfl, by unfold Hid stW; rw [HD.out]; rfl, World.ownsRow_nil _ _ _ _, Below.refl _ _⟩
  case round =>
    obtain ⟨k, m, c', a', out, d, hk, hm, rfl, rfl, rfl, hst, hown, hnx⟩ := hrel
    have HX := hid hnx
    have HO := hid hown
    by_cases hlt : k < n
    · rcases hr with hr | ⟨b, off, rfl, hbl, hc⟩
      · exact absurd HN.out (by rw [hr]; simp; omega)
      obtain ⟨c0, c1⟩ := hc k (by rw [HN.out]; exact hlt)
      have d0' := (hnx.cell (p := ⟨b, off + k * 2, none⟩) hbl).trans c0
      have d1' := (hnx.cell (p := ⟨b, off + k * 2 + 1, none⟩) hbl).trans c1
      have HSU : Hid (stW ls x v (k + 1) = stepW x v (out, d) (ls.getD k e0)) := by unfold Hid; rw [stW_succ (by rw [HN.out]; exact hlt), hst.out]
      have BO : Hid (∀ j, (Value.slice a' m c').ownBlock = some j → j < wr.heap.size) := fun j hj => (HO.out.lt j hj).2
      clear hc c0 c1 hnx hown
      generalize ls.getD k e0 = p at *
      have HB1 := hid (heap_alloc_new wr (.cells #[.string p.1, .string p.2] 33))
      have HO1 := hid (HO.out.alloc (.cells #[.string p.1, .string p.2] 33))
      have HX1 := hid (HX.out.alloc HX.out.size (.cells #[.string p.1, .string p.2] 33))
      by_cases he : p.1 = x
      · have he' : (p.1.toList != x.toList) = false := str_eq' he
        have he2 : (p.1.toList == x.toList) = true := str_eq he
        have HE := hid he
        clear he
        cases d with
        | true =>
          go_wp2
          go_roundw
          case rel => exact ⟨k + 1, m, c', a', out, true, by omega, by omega, by go_num, rfl, rfl, by unfold Hid; rw [HSU.out]; exact st_eq1 HE.out, HO1.out, HX1.out⟩
          case measure => simp [intOf]; omega
        | false =>
          go_wp2_with fail
          refine (f48 x p.1 _ hx).mono ?_
          rintro e w2 ⟨rfl, q, hw2⟩
          have hb2 : Below (wr.alloc (.cells #[.string p.1, .string p.2] 33)).heap.size (wr.alloc (.cells #[.string p.1, .string p.2] 33)) w2 := by rw [hw2]; exact below_drewN (Below.refl _ _) q
          have HB2 := hid (box_below HB1.out hb2)
          have HO2 := hid (own_below HO1.out hb2)
          have HX2 := hid (HX1.out.trans (hb2.mono (by have := HX.out.size; simp; omega)))
          have q0 := two0 HB2.out
          have q1 := two1 HB2.out
          have l2 := lt_block HB2.out
          have hs2 := HX2.out.size
          clear hb2 hw2
          by_cases hcx : cmpX x p ≤ 0
          · have hcx' : Lib.compareBytes x.data.toList p.1.data.toList ≤ 0 := hcx
            go_wp2_with (at_builtin; refine wpList_append_own _ rfl (.tmp 28) (.tmp 32) 22 rfl w.heap.size 33 i0 (.agg #[.string ByteArray.empty, .string ByteArray.empty]) 2 32 Try.underlying22 hi hz0 hz1 hz2 rfl (by decide) _ _ _ rfl (HO2.out.alloc _) ⟨w2.heap.size, 0, none⟩ 1 1 [.string x, .string v] rfl rfl ?d1 ?d2 ?d3 ?d4 ?d5 ?_)
            case d1 =>
              have := two_new w2 (.string x) (.string v) 33
              try simp only [World.size_alloc] at this
              exact this
            case d2 => intro u hu; simp at hu; rcases hu with rfl | rfl <;> rfl
            case d3 => unfold maxLen; omega
            case d4 => omega
            case d5 => have := HX2.out.size; simp; omega
            intro v3 w3 hown3 hgr3 _
            obtain ⟨a3, c3, rfl⟩ := own_form hown3
            have HO3 : Hid (w3.ownsRow w.heap.size 33 2 (.slice a3 (m + 1) c3) (m + 1) (flat (out ++ [(x, v)]))) := by unfold Hid; rw [flat_snoc]; exact hown3
            have HX3 := hid ((HX2.out.alloc HX2.out.size (.cells #[.string x, .string v] 33)).grown hgr3 (by simp; omega) (fun j hj => (HO.out.lt j hj).1))
            have HB3 := hid (box_grown (box_alloc HB2.out (.cells #[.string x, .string v] 33)) hgr3 (fun e => by have := BO.out _ e.symm; omega))
            have q30 := two0 HB3.out
            have q31 := two1 HB3.out
            have l3 := lt_block HB3.out
            have hs3 := HX3.out.size
            clear hown3 hgr3 q0 q1
            go_wp2
            go_roundw
            case rel => exact ⟨k + 1, m + 1, c3, a3, out ++ [(x, v)], true, by omega, by omega, by go_num, rfl, rfl, by unfold Hid; rw [HSU.out]; exact st_eq2 hcx HE.out, HO3.out, HX3.out⟩
            case measure => simp [intOf]; omega
          · have hcx' : ¬ Lib.compareBytes x.data.toList p.1.data.toList ≤ 0 := hcx
            go_wp2
            go_roundw
            case rel => exact ⟨k + 1, m, c', a', out, false, by omega, by omega, by go_num, rfl, rfl, by unfold Hid; rw [HSU.out]; exact st_eq3 (by omega) HE.out, HO2.out, HX2.out⟩
            case measure => simp [intOf]; omega
      · have he' : (p.1.toList != x.toList) = true := str_ne' he
        have he2 : (p.1.toList == x.toList) = false := str_ne he
        have HE := hid he
        clear he
        cases d with
        | true =>
          go_wp2_with (at_builtin; refine wpList_append_own _ rfl (.tmp 38) (.tmp 40) 22 rfl w.heap.size 33 i0 (.agg #[.string ByteArray.empty, .string ByteArray.empty]) 2 32 Try.underlying22 hi hz0 hz1 hz2 rfl (by decide) _ _ _ rfl (HO1.out.alloc _) ⟨wr.heap.size + 1, 0, none⟩ 1 1 [.string p.1, .string p.2] rfl rfl ?d1 ?d2 ?d3 ?d4 ?d5 ?_)
          case d1 =>
            have := two_new (wr.alloc (.cells #[.string p.1, .string p.2] 33)) (.string p.1) (.string p.2) 33
            try simp only [World.size_alloc] at this
            exact this
          case d2 => intro u hu; simp at hu; rcases hu with rfl | rfl <;> rfl
          case d3 => unfold maxLen; omega
          case d4 => omega
          case d5 => have := HX.out.size; simp; omega
          intro v3 w3 hown3 hgr3 _
          obtain ⟨a3, c3, rfl⟩ := own_form hown3
          have HO3 : Hid (w3.ownsRow w.heap.size 33 2 (.slice a3 (m + 1) c3) (m + 1) (flat (out ++ [p]))) := by unfold Hid; rw [flat_snoc]; exact hown3
          have HX3 := hid ((HX1.out.alloc (by have := HX.out.size; simp; omega) (.cells #[.string p.1, .string p.2] 33)).grown hgr3 (by have := HX.out.size; simp; omega) (fun j hj => (HO.out.lt j hj).1))
          clear hown3 hgr3
          go_wp2
          go_roundw
          case rel => exact ⟨k + 1, m + 1, c3, a3, out ++ [p], true, by omega, by omega, by go_num, rfl, rfl, by unfold Hid; rw [HSU.out]; exact st_ne1 HE.out, HO3.out, HX3.out⟩
          case measure => simp [intOf]; omega
        | false =>
          go_wp2_with fail
          refine (f48 x p.1 _ hx).mono ?_
          rintro e w2 ⟨rfl, q, hw2⟩
          have hb2 : Below (wr.alloc (.cells #[.string p.1, .string p.2] 33)).heap.size (wr.alloc (.cells #[.string p.1, .string p.2] 33)) w2 := by rw [hw2]; exact below_drewN (Below.refl _ _) q
          have HB2 := hid (box_below HB1.out hb2)
          have HO2 := hid (own_below HO1.out hb2)
          have HX2 := hid (HX1.out.trans (hb2.mono (by have := HX.out.size; simp; omega)))
          have q0 := two0 HB2.out
          have q1 := two1 HB2.out
          have l2 := lt_block HB2.out
          have hs2 := HX2.out.size
          clear hb2 hw2
          by_cases hcx : cmpX x p ≤ 0
          · have hcx' : Lib.compareBytes x.data.toList p.1.data.toList ≤ 0 := hcx
            go_wp2_with (at_builtin; refine wpList_append_own _ rfl (.tmp 28) (.tmp 32) 22 rfl w.heap.size 33 i0 (.agg #[.string ByteArray.empty, .string ByteArray.empty]) 2 32 Try.underlying22 hi hz0 hz1 hz2 rfl (by decide) _ _ _ rfl (HO2.out.alloc _) ⟨w2.heap.size, 0, none⟩ 1 1 [.string x, .string v] rfl rfl ?d1 ?d2 ?d3 ?d4 ?d5 ?_)
            case d1 =>
              have := two_new w2 (.string x) (.string v) 33
              try simp only [World.size_alloc] at this
              exact this
            case d2 => intro u hu; simp at hu; rcases hu with rfl | rfl <;> rfl
            case d3 => unfold maxLen; omega
            case d4 => omega
            case d5 => have := HX2.out.size; simp; omega
            intro v3 w3 hown3 hgr3 _
            obtain ⟨a3, c3, rfl⟩ := own_form hown3
            have HO3 : Hid (w3.ownsRow w.heap.size 33 2 (.slice a3 (m + 1) c3) (m + 1) (flat (out ++ [(x, v)]))) := by unfold Hid; rw [flat_snoc]; exact hown3
            have HX3 := hid ((HX2.out.alloc HX2.out.size (.cells #[.string x, .string v] 33)).grown hgr3 (by simp; omega) (fun j hj => (HO.out.lt j hj).1))
            have HB3 := hid (box_grown (box_alloc HB2.out (.cells #[.string x, .string v] 33)) hgr3 (fun e => by have := BO.out _ e.symm; omega))
            have q30 := two0 HB3.out
            have q31 := two1 HB3.out
            have l3 := lt_block HB3.out
            have hs3 := HX3.out.size
            clear hown3 hgr3 q0 q1
            go_wp2_with (at_builtin; refine wpList_append_own _ rfl (.tmp 38) (.tmp 40) 22 rfl w.heap.size 33 i0 (.agg #[.string ByteArray.empty, .string ByteArray.empty]) 2 32 Try.underlying22 hi hz0 hz1 hz2 rfl (by decide) _ _ _ rfl (HO3.out.alloc _) ⟨w3.heap.size, 0, none⟩ 1 1 [.string p.1, .string p.2] rfl rfl ?d1 ?d2 ?d3 ?d4 ?d5 ?_)
            case d1 =>
              have := two_new w3 (.string p.1) (.string p.2) 33
              try simp only [World.size_alloc] at this
              exact this
            case d2 => intro u hu; simp at hu; rcases hu with rfl | rfl <;> rfl
            case d3 => unfold maxLen; omega
            case d4 => omega
            case d5 => have := HX3.out.size; simp; omega
            intro v4 w4 hown4 hgr4 _
            obtain ⟨a4, c4, rfl⟩ := own_form hown4
            have HO4 : Hid (w4.ownsRow w.heap.size 33 2 (.slice a4 (m + 1 + 1) c4) (m + 1 + 1) (flat (out ++ [(x, v)] ++ [p]))) := by unfold Hid; rw [flat_snoc]; exact hown4
            have HX4 := hid ((HX3.out.alloc HX3.out.size (.cells #[.string p.1, .string p.2] 33)).grown hgr4 (by simp; omega) (fun j hj => (HO3.out.lt j hj).1))
            clear hown4 hgr4
            go_wp2
            go_roundw
            case rel => exact ⟨k + 1, m + 1 + 1, c4, a4, out ++ [(x, v)] ++ [p], true, by omega, by omega, by go_num, rfl, rfl, by unfold Hid; rw [HSU.out]; exact st_ne2 hcx HE.out, HO4.out, HX4.out⟩
            case measure => simp [intOf]; omega
          · have hcx' : ¬ Lib.compareBytes x.data.toList p.1.data.toList ≤ 0 := hcx
            go_wp2_with (at_builtin; refine wpList_append_own _ rfl (.tmp 38) (.tmp 40) 22 rfl w.heap.size 33 i0 (.agg #[.string ByteArray.empty, .string ByteArray.empty]) 2 32 Try.underlying22 hi hz0 hz1 hz2 rfl (by decide) _ _ _ rfl (HO2.out.alloc _) ⟨w2.heap.size, 0, none⟩ 1 1 [.string p.1, .string p.2] rfl rfl ?d1 ?d2 ?d3 ?d4 ?d5 ?_)
            case d1 =>
              have := two_new w2 (.string p.1) (.string p.2) 33
              try simp only [World.size_alloc] at this
              exact this
            case d2 => intro u hu; simp at hu; rcases hu with rfl | rfl <;> rfl
            case d3 => unfold maxLen; omega
            case d4 => omega
            case d5 => have := HX2.out.size; simp; omega
            intro v3 w3 hown3 hgr3 _
            obtain ⟨a3, c3, rfl⟩ := own_form hown3
            have HO3 : Hid (w3.ownsRow w.heap.size 33 2 (.slice a3 (m + 1) c3) (m + 1) (flat (out ++ [p]))) := by unfold Hid; rw [flat_snoc]; exact hown3
            have HX3 := hid ((HX2.out.alloc HX2.out.size (.cells #[.string p.1, .string p.2] 33)).grown hgr3 (by simp; omega) (fun j hj => (HO.out.lt j hj).1))
            clear hown3 hgr3
            go_wp2
            go_roundw
            case rel => exact ⟨k + 1, m + 1, c3, a3, out ++ [p], false, by omega, by omega, by go_num, rfl, rfl, by unfold Hid; rw [HSU.out]; exact st_ne3 (by omega) HE.out, HO3.out, HX3.out⟩
            case measure => simp [intOf]; omega
    · have hkn : k = n := by omega
      have HEND : Hid (withF ls x v = endW x v (out, d)) := by
        unfold Hid withF
        have := hst.out
        unfold stW at this
        rw [List.take_of_length_le (by rw [HN.out]; omega)] at this
        rw [this]
      cases d with
      | true =>
        go_wp2
        go_ret
        exact ⟨a', m, c', rfl, by rw [HEND.out]; exact HO.out, HX.out⟩
      | false =>
        go_wp2_with (at_builtin; refine wpList_append_own _ rfl (.tmp 45) (.tmp 49) 22 rfl w.heap.size 33 i0 (.agg #[.string ByteArray.empty, .string ByteArray.empty]) 2 32 Try.underlying22 hi hz0 hz1 hz2 rfl (by decide) _ _ _ rfl (HO.out.alloc _) ⟨wr.heap.size, 0, none⟩ 1 1 [.string x, .string v] rfl rfl ?d1 ?d2 ?d3 ?d4 ?d5 ?_)
        case d1 =>
          have := two_new wr (.string x) (.string v) 33
          try simp only [World.size_alloc] at this
          exact this
        case d2 => intro u hu; simp at hu; rcases hu with rfl | rfl <;> rfl
        case d3 => unfold maxLen; omega
        case d4 => omega
        case d5 => have := HX.out.size; simp; omega
        intro v3 w3 hown3 hgr3 _
        obtain ⟨a3, c3, rfl⟩ := own_form hown3
        have HO3 : Hid (w3.ownsRow w.heap.size 33 2 (.slice a3 (m + 1) c3) (m + 1) (flat (out ++ [(x, v)]))) := by unfold Hid; rw [flat_snoc]; exact hown3
        have HX3 := hid ((HX.out.alloc HX.out.size (.cells #[.string x, .string v] 33)).grown hgr3 (by have := HX.out.size; simp; omega) (fun j hj => (HO.out.lt j hj).1))
        clear hown3 hgr3
        go_wp2
        go_ret
        exact ⟨a3, m + 1, c3, rfl, by rw [HEND.out]; exact HO3.out, HX3.out⟩
end Go.Proofs.Ytigakbhficoonaa.Lab
