/- Questions: the program's look-ups in its tables; words of the language. -/
import Derived.Test.YtbdlahhejfamhaaGreatDoorRQpt
import Derived.OwnWalk
import Derived.Shelf.Small.Strs
import Derived.Shelf.Strings.Fields
import Derived.Test.YtbdlahhejfamhaaGreatDoorChecked
namespace Go.Proofs.YtbdlahhejfamhaaGreatDoor.Qry
open Go.RowKit
open Go.Proofs.YtbdlahhejfamhaaGreatDoor.Pat (ret_bool)

theorem str_eq {a b : ByteArray} (h : a = b) : (a.toList == b.toList) = true := by rw [h]; simp
theorem str_ne {a b : ByteArray} (h : a ≠ b) : (a.toList == b.toList) = false := by
  rw [beq_eq_false_iff_ne]
  intro e
  rw [ByteArray.toList_eq, ByteArray.toList_eq] at e
  exact h (WideShapes.bytes_inj e)
theorem str_empty (v : ByteArray) : v.toList.isEmpty = decide (v.size = 0) := by
  rw [Bool.eq_iff_iff, List.isEmpty_iff, decide_eq_true_iff, ByteArray.toList_eq]
  constructor
  · intro h
    have := congrArg List.length h
    simpa using this
  · intro h
    have : v.data.toList.length = 0 := by simpa using h
    exact List.eq_nil_of_length_eq_zero this
theorem lit_eq {s : ByteArray} {l : List UInt8} (h : s = ⟨l.toArray⟩) : (s.toList == l) = true := by rw [h, ByteArray.toList_eq]; simp
theorem lit_ne {s : ByteArray} {l : List UInt8} (h : s ≠ ⟨l.toArray⟩) : (s.toList == l) = false := by
  rw [beq_eq_false_iff_ne]
  intro e
  rw [ByteArray.toList_eq] at e
  exact h (WideShapes.bytes_inj (by rw [e]))
def nmC (r : Cs) : ByteArray := ⟨r.1.toArray⟩
def nmO (r : Os) : ByteArray := ⟨r.1.toArray⟩
theorem fn_names : rowFn.map nmC = fnN := rfl
theorem ag_names : rowAg.map nmC = ByteArray.empty :: agN := rfl
theorem op_names : rowOp.map nmO = ByteArray.empty :: sgN := rfl
theorem mem_at {α : Type} {l : List α} {k : Nat} {d : α} (hk : k < l.length) : l.getD k d ∈ l := by
  rw [List.getD_eq_getElem?_getD, List.getElem?_eq_getElem hk]
  exact List.getElem_mem hk
theorem not_mem_of {α : Type} {l : List α} {f : α → ByteArray} {d : α} {s : ByteArray} {n : Nat} (hn : l.length = n) (h : ∀ i, i < n → f (l.getD i d) ≠ s) : s ∉ l.map f := by
  intro hm
  obtain ⟨x, hx, rfl⟩ := List.mem_map.1 hm
  obtain ⟨i, hi, rfl⟩ := List.getElem_of_mem hx
  have := h i (by omega)
  rw [List.getD_eq_getElem?_getD, List.getElem?_eq_getElem hi] at this
  exact this rfl

set_option maxHeartbeats 4000000 in
set_option maxRecDepth 100000 in
theorem f174 (s : ByteArray) (w : World) (ht : TabAg w) : Calls Tryz.prog 174 #[.string s] w fun e w' => (∃ z : Int, e = .returned (.int .i64 z) ∧ 0 ≤ z ∧ (0 < z ↔ s ∈ agN)) ∧ Below w.heap.size w w' := by
  have HT := hid ht
  have HL := hid (show rowAg.length = 9 from rfl)
  have HB0 := hid (Below.refl w.heap.size w)
  clear ht
  go_enter Tryz.func174, Tryz.ntmps174
  go_upto_region 1 with fail
  have HI := hid indexAg
  refine wp_region_lit ?_
  refine wpList_plain rfl (fun K hK => ?_)
  unfold Oper.wp
  rw [execTAg HT.out _ _ rfl]
  generalize tabAg.toArray = T at *
  refine hK _ _ ?_
  clear hK K
  go_wp2
  go_loopw [6] (fun si wr => ∃ k : Nat, k ≤ 9 ∧ si = .int .i64 k ∧ Hid (∀ i, i < k → nmC (rowAg.getD i cs0) ≠ s) ∧ Hid (Below w.heap.size w wr)) (fun si _ => 9 - (intOf si).toNat)
  case atStart => exact ⟨0, by omega, rfl, fun i hi => by omega, HB0.out⟩
  case round =>
    obtain ⟨k, hk, rfl, HU, HB⟩ := hrel
    by_cases hlt : k < 9
    · have q := HI.out k hlt
      unfold arrAg csV at q
      have HM := hid (mem_at (l := rowAg) (d := cs0) (k := k) (by rw [HL.out]; exact hlt))
      have HY : Hid (nmC (rowAg.getD k cs0) ≠ s → ∀ i, i < k + 1 → nmC (rowAg.getD i cs0) ≠ s) := by
        intro h i hi
        by_cases e : i = k
        · rw [e]; exact h
        · exact HU.out i (by omega)
      have HK := hid (show rowAg.getD k cs0 = rowAg.getD k cs0 from rfl)
      generalize hrr : rowAg.getD k cs0 = r at q HM HY
      have HRR := hid hrr
      clear hrr HK
      obtain ⟨r1, r2, r3, r4⟩ := r
      simp only at q
      unfold nmC at HY
      simp only at HY
      have HBA := hid (HB.out.alloc HB.out.size (.cells #[.string ⟨r1.toArray⟩, .string ⟨r2.toArray⟩, .string ⟨r3.toArray⟩, .bool r4] 125))
      by_cases he : (⟨r1.toArray⟩ : ByteArray) = s
      · have HZ : Hid (0 < (k : Int) ↔ s ∈ agN) := by
          have hm : (⟨r1.toArray⟩ : ByteArray) ∈ rowAg.map nmC := List.mem_map.2 ⟨_, HM.out, rfl⟩
          rw [he, ag_names] at hm
          constructor
          · intro h0
            rcases List.mem_cons.1 hm with h | h
            · exact absurd h (by
                intro h
                have h1 := HU.out 0 (by omega)
                exact h1 h.symm)
            · exact h
          · intro h0
            by_cases e : k = 0
            · subst e
              exfalso
              have h1 : (⟨r1.toArray⟩ : ByteArray) = ByteArray.empty := by
                have := HRR.out
                have h2 := congrArg nmC this
                exact h2.symm
              rw [h1] at he
              rw [← he] at h0
              revert h0
              decide
            · omega
        have he' := str_eq he
        clear he HY HI HU HM HRR
        generalize (⟨r1.toArray⟩ : ByteArray) = s1 at *
        go_wp2
        go_ret
        exact ⟨⟨_, rfl, by omega, HZ.out⟩, HBA.out⟩
      · have he' := str_ne he
        have HYN := hid (HY.out he)
        clear he HY HI
        generalize (⟨r1.toArray⟩ : ByteArray) = s1 at *
        go_wp2
        go_roundw
        case rel => exact ⟨k + 1, by omega, by go_num, HYN.out, HBA.out⟩
        case measure => simp [intOf]; omega
    · obtain rfl : k = 9 := by omega
      have HN := hid (not_mem_of HL.out HU.out)
      go_wp2
      go_ret
      exact ⟨⟨0, rfl, by omega, fun h => by omega, fun h => absurd (List.mem_cons_of_mem _ h) (by have := HN.out; rw [ag_names] at this; exact this)⟩, HB.out⟩

set_option maxHeartbeats 4000000 in
set_option maxRecDepth 100000 in
theorem f175 (s : ByteArray) (w : World) (ht : TabOp w) : Calls Tryz.prog 175 #[.string s] w fun e w' => (∃ z : Int, e = .returned (.int .i64 z) ∧ 0 ≤ z ∧ (0 < z ↔ s ∈ sgN)) ∧ Below w.heap.size w w' := by
  have HT := hid ht
  have HL := hid (show rowOp.length = 15 from rfl)
  have HB0 := hid (Below.refl w.heap.size w)
  clear ht
  go_enter Tryz.func175, Tryz.ntmps175
  go_upto_region 1 with fail
  have HI := hid indexOp
  refine wp_region_lit ?_
  refine wpList_plain rfl (fun K hK => ?_)
  unfold Oper.wp
  rw [execTOp HT.out _ _ rfl]
  generalize tabOp.toArray = T at *
  refine hK _ _ ?_
  clear hK K
  go_wp2
  go_loopw [6] (fun si wr => ∃ k : Nat, k ≤ 15 ∧ si = .int .i64 k ∧ Hid (∀ i, i < k → nmO (rowOp.getD i os0) ≠ s) ∧ Hid (Below w.heap.size w wr)) (fun si _ => 15 - (intOf si).toNat)
  case atStart => exact ⟨0, by omega, rfl, fun i hi => by omega, HB0.out⟩
  case round =>
    obtain ⟨k, hk, rfl, HU, HB⟩ := hrel
    by_cases hlt : k < 15
    · have q := HI.out k hlt
      unfold arrOp osV at q
      have HM := hid (mem_at (l := rowOp) (d := os0) (k := k) (by rw [HL.out]; exact hlt))
      have HY : Hid (nmO (rowOp.getD k os0) ≠ s → ∀ i, i < k + 1 → nmO (rowOp.getD i os0) ≠ s) := by
        intro h i hi
        by_cases e : i = k
        · rw [e]; exact h
        · exact HU.out i (by omega)
      have HK := hid (show rowOp.getD k os0 = rowOp.getD k os0 from rfl)
      generalize hrr : rowOp.getD k os0 = r at q HM HY
      have HRR := hid hrr
      clear hrr HK
      obtain ⟨r1, r2⟩ := r
      simp only at q
      unfold nmO at HY
      simp only at HY
      have HBA := hid (HB.out.alloc HB.out.size (.cells #[.string ⟨r1.toArray⟩, .int .i64 r2] 166))
      by_cases he : (⟨r1.toArray⟩ : ByteArray) = s
      · have HZ : Hid (0 < (k : Int) ↔ s ∈ sgN) := by
          have hm : (⟨r1.toArray⟩ : ByteArray) ∈ rowOp.map nmO := List.mem_map.2 ⟨_, HM.out, rfl⟩
          rw [he, op_names] at hm
          constructor
          · intro h0
            rcases List.mem_cons.1 hm with h | h
            · exact absurd h (by
                intro h
                have h1 := HU.out 0 (by omega)
                exact h1 h.symm)
            · exact h
          · intro h0
            by_cases e : k = 0
            · subst e
              exfalso
              have h1 : (⟨r1.toArray⟩ : ByteArray) = ByteArray.empty := by
                have := HRR.out
                have h2 := congrArg nmO this
                exact h2.symm
              rw [h1] at he
              rw [← he] at h0
              revert h0
              decide
            · omega
        have he' := str_eq he
        clear he HY HI HU HM HRR
        generalize (⟨r1.toArray⟩ : ByteArray) = s1 at *
        go_wp2
        go_ret
        exact ⟨⟨_, rfl, by omega, HZ.out⟩, HBA.out⟩
      · have he' := str_ne he
        have HYN := hid (HY.out he)
        clear he HY HI
        generalize (⟨r1.toArray⟩ : ByteArray) = s1 at *
        go_wp2
        go_roundw
        case rel => exact ⟨k + 1, by omega, by go_num, HYN.out, HBA.out⟩
        case measure => simp [intOf]; omega
    · obtain rfl : k = 15 := by omega
      have HN := hid (not_mem_of HL.out HU.out)
      go_wp2
      go_ret
      exact ⟨⟨0, rfl, by omega, fun h => by omega, fun h => absurd (List.mem_cons_of_mem _ h) (by have := HN.out; rw [op_names] at this; exact this)⟩, HB.out⟩

end Go.Proofs.YtbdlahhejfamhaaGreatDoor.Qry
/- The program's look-up of a function. -/
namespace Go.Proofs.YtbdlahhejfamhaaGreatDoor.Qry
open Go.RowKit
open Go.Proofs.YtbdlahhejfamhaaGreatDoor.Pat (ret_bool)

theorem four {x : World} {b : Nat} {v0 v1 v2 v3 : Value} {t : TypeId} (h : x.heap[b]? = some (.cells #[v0, v1, v2, v3] t)) : x.cell? ⟨b, 0, none⟩ = some v0 ∧ x.cell? ⟨b, 1, none⟩ = some v1 ∧ x.cell? ⟨b, 2, none⟩ = some v2 ∧ x.cell? ⟨b, 3, none⟩ = some v3 := by
  refine ⟨?_, ?_, ?_, ?_⟩ <;> simp [World.cell?, h]
def put4 (x : World) (B : Nat) (v0 v1 v2 v3 : Value) : World := (((x.setCell ⟨B, 0, none⟩ v0).setCell ⟨B, 1, none⟩ v1).setCell ⟨B, 2, none⟩ v2).setCell ⟨B, 3, none⟩ v3
theorem put4_at {x : World} {B : Nat} {v0 v1 v2 v3 u0 u1 u2 u3 : Value} {t : TypeId} (h : x.heap[B]? = some (.cells #[u0, u1, u2, u3] t)) : (put4 x B v0 v1 v2 v3).heap[B]? = some (.cells #[v0, v1, v2, v3] t) :=
  set_at (i := 3) (set_at (i := 2) (set_at (i := 1) (set_at (i := 0) h)))
theorem put4_below {N : Nat} {w x : World} {B : Nat} {v0 v1 v2 v3 : Value} (hb : Below N w x) (hB : N ≤ B) : Below N w (put4 x B v0 v1 v2 v3) :=
  Below.setCell (p := ⟨B, 3, none⟩) (Below.setCell (p := ⟨B, 2, none⟩) (Below.setCell (p := ⟨B, 1, none⟩) (Below.setCell (p := ⟨B, 0, none⟩) hb hB _) hB _) hB _) hB _

set_option maxHeartbeats 4000000 in
set_option maxRecDepth 100000 in
theorem f71 (s : ByteArray) (w : World) (ht : TabFn w) : Calls Tryz.prog 71 #[.string s] w fun e w' => (∃ r : Cs, e = .returned (.tuple #[.agg #[.string ⟨r.1.toArray⟩, .string ⟨r.2.1.toArray⟩, .string ⟨r.2.2.1.toArray⟩, .bool r.2.2.2], .bool (decide (s ∈ fnN))]) ∧ (s ∈ fnN → r ∈ rowFn ∧ nmC r = s)) ∧ Below w.heap.size w w' := by
  have HT := hid ht
  have HL := hid (show rowFn.length = 23 from rfl)
  have HB0 := hid ((Below.refl w.heap.size w).alloc (Nat.le_refl _) (.cells #[.string ⟨#[]⟩, .string ⟨#[]⟩, .string ⟨#[]⟩, .bool false] 125))
  replace HT := hid (HT.out.below HB0.out)
  have HBX := hid (heap_alloc_new w (.cells #[.string ⟨#[]⟩, .string ⟨#[]⟩, .string ⟨#[]⟩, .bool false] 125))
  clear ht
  go_enter Tryz.func71, Tryz.ntmps71
  go_upto_region 1 with fail
  have HI := hid indexFn
  refine wp_region_lit ?_
  refine wpList_plain rfl (fun K hK => ?_)
  unfold Oper.wp
  rw [execTFn HT.out _ _ rfl]
  generalize tabFn.toArray = T at *
  refine hK _ _ ?_
  clear hK K
  go_wp2
  go_loopw [7] (fun si wr => ∃ k : Nat, k ≤ 23 ∧ si = .int .i64 k ∧ Hid (∀ i, i < k → nmC (rowFn.getD i cs0) ≠ s) ∧ Hid (Below w.heap.size w wr) ∧ Hid (wr.heap[w.heap.size]? = some (.cells #[.string ⟨#[]⟩, .string ⟨#[]⟩, .string ⟨#[]⟩, .bool false] 125))) (fun si _ => 23 - (intOf si).toNat)
  case atStart => exact ⟨0, by omega, rfl, fun i hi => by omega, HB0.out, HBX.out⟩
  case round =>
    obtain ⟨k, hk, rfl, HU, HB, HX⟩ := hrel
    by_cases hlt : k < 23
    · have q := HI.out k hlt
      unfold arrFn csV at q
      have HM := hid (mem_at (l := rowFn) (d := cs0) (k := k) (by rw [HL.out]; exact hlt))
      have HY : Hid (nmC (rowFn.getD k cs0) ≠ s → ∀ i, i < k + 1 → nmC (rowFn.getD i cs0) ≠ s) := by
        intro h i hi
        by_cases e : i = k
        · rw [e]; exact h
        · exact HU.out i (by omega)
      have HK := hid (show rowFn.getD k cs0 = rowFn.getD k cs0 from rfl)
      generalize hrr : rowFn.getD k cs0 = r at q HM HY
      have HRR := hid hrr
      clear hrr HK
      obtain ⟨r1, r2, r3, r4⟩ := r
      simp only at q
      unfold nmC at HY
      simp only at HY
      have HBA := hid (HB.out.alloc HB.out.size (.cells #[.string ⟨r1.toArray⟩, .string ⟨r2.toArray⟩, .string ⟨r3.toArray⟩, .bool r4] 125))
      by_cases he : (⟨r1.toArray⟩ : ByteArray) = s
      · have HR : Hid (⟨r1, r2, r3, r4⟩ ∈ rowFn ∧ s ∈ fnN) := by
          refine ⟨HM.out, ?_⟩
          rw [← he, ← fn_names]
          exact List.mem_map.2 ⟨_, HM.out, rfl⟩
        have HE : Hid (nmC (r1, r2, r3, r4) = s) := he
        obtain ⟨s1, hs1⟩ : ∃ s1 : ByteArray, s1 = ⟨r1.toArray⟩ := ⟨_, rfl⟩
        have HS1 := hid hs1
        rw [← hs1] at he q HBA
        clear hs1
        have HD := hid (decide_eq_true HR.out.2)
        have he' := str_eq he
        clear he HY HI HU HM HRR
        obtain ⟨X, hX⟩ : ∃ X, X = wr.alloc (.cells #[.string s1, .string ⟨r2.toArray⟩, .string ⟨r3.toArray⟩, .bool r4] 125) := ⟨_, rfl⟩
        have hXB : X.heap[w.heap.size]? = some (.cells #[.string ⟨#[]⟩, .string ⟨#[]⟩, .string ⟨#[]⟩, .bool false] 125) := by
          rw [hX]; exact kept HX.out ((Below.refl _ wr).alloc (Nat.le_refl _) _)
        have hXN : X.heap[wr.heap.size]? = some (.cells #[.string s1, .string ⟨r2.toArray⟩, .string ⟨r3.toArray⟩, .bool r4] 125) := by
          rw [hX]; exact heap_alloc_new _ _
        rw [← hX] at HBA
        have HXz := hid hX
        obtain ⟨x0, x1, x2, x3⟩ := four hXN
        obtain ⟨b0, b1, b2, b3⟩ := four hXB
        have z0 := fifteen_frz (o := 0) hXB
        have z1 := fifteen_frz (o := 1) hXB
        have z2 := fifteen_frz (o := 2) hXB
        have z3 := fifteen_frz (o := 3) hXB
        obtain ⟨y0, y1, y2, y3⟩ := four (put4_at (v0 := .string s1) (v1 := .string ⟨r2.toArray⟩) (v2 := .string ⟨r3.toArray⟩) (v3 := .bool r4) hXB)
        have HBP := hid (put4_below (v0 := .string s1) (v1 := .string ⟨r2.toArray⟩) (v2 := .string ⟨r3.toArray⟩) (v3 := .bool r4) HBA.out (Nat.le_refl _))
        unfold put4 at y0 y1 y2 y3 HBP
        clear hXN hXB HX HB hX
        go_upto_region 4 with fail
        rw [← HXz.out]
        clear q HXz
        go_wp2
        (try simp only [Exit.inBlock, Exit.then])
        refine bodyPost_ret (v := .tuple #[.agg #[.string s1, .string ⟨r2.toArray⟩, .string ⟨r3.toArray⟩, .bool r4], .bool true]) (by simp [results, Tryz.results71, go_sem, y0, y1, y2, y3]) rfl ⟨⟨(r1, r2, r3, r4), ?_, fun _ => ⟨HR.out.1, HE.out⟩⟩, HBP.out⟩
        rw [HD.out, HS1.out]
      · have he' := str_ne he
        have HYN := hid (HY.out he)
        clear he HY HI
        generalize (⟨r1.toArray⟩ : ByteArray) = s1 at *
        go_wp2
        go_roundw
        case rel => exact ⟨k + 1, by omega, by go_num, HYN.out, HBA.out, kept HX.out ((Below.refl _ wr).alloc (Nat.le_refl _) _)⟩
        case measure => simp [intOf]; omega
    · obtain rfl : k = 23 := by omega
      have HN := hid (not_mem_of HL.out HU.out)
      have HD : Hid (decide (s ∈ fnN) = false) := decide_eq_false (by rw [← fn_names]; exact HN.out)
      obtain ⟨b0, b1, b2, b3⟩ := four HX.out
      have z0 := fifteen_frz (o := 0) HX.out
      have z1 := fifteen_frz (o := 1) HX.out
      have z2 := fifteen_frz (o := 2) HX.out
      have z3 := fifteen_frz (o := 3) HX.out
      obtain ⟨y0, y1, y2, y3⟩ := four (put4_at (v0 := .string ⟨#[]⟩) (v1 := .string ⟨#[]⟩) (v2 := .string ⟨#[]⟩) (v3 := .bool false) HX.out)
      have HBP := hid (put4_below (v0 := .string ⟨#[]⟩) (v1 := .string ⟨#[]⟩) (v2 := .string ⟨#[]⟩) (v3 := .bool false) HB.out (Nat.le_refl _))
      unfold put4 at y0 y1 y2 y3 HBP
      clear HX HB HI
      go_wp2
      (try simp only [Exit.inBlock, Exit.then])
      refine bodyPost_ret (v := .tuple #[.agg #[.string ⟨#[]⟩, .string ⟨#[]⟩, .string ⟨#[]⟩, .bool false], .bool false]) (by simp [results, Tryz.results71, go_sem, y0, y1, y2, y3]) rfl ⟨⟨cs0, ?_, fun h => absurd h (of_decide_eq_false HD.out)⟩, HBP.out⟩
      rw [HD.out]
      rfl

end Go.Proofs.YtbdlahhejfamhaaGreatDoor.Qry
/- Words of the language, the program's. -/
namespace Go.Proofs.YtbdlahhejfamhaaGreatDoor.Qry
open Go.RowKit
open Go.Proofs.YtbdlahhejfamhaaGreatDoor.Pat (ret_bool)

set_option maxHeartbeats 8000000 in
set_option maxRecDepth 100000 in
theorem f163 (s : ByteArray) (w : World) (ht : Tabs w) : Calls Tryz.prog 163 #[.string s] w fun e w' => e = .returned (.bool (wordI s)) ∧ Below w.heap.size w w' := by
  have HT := hid ht
  have HB0 := hid (Below.refl w.heap.size w)
  clear ht
  by_cases h0 : s = ⟨#[98, 111, 111, 108]⟩
  · have HW : Hid (wordI s = true) := by unfold Hid; rw [h0]; decide
    have g0 : (s.toList == [98, 111, 111, 108]) = true := lit_eq h0
    clear h0
    go_enter Tryz.func163, Tryz.ntmps163
    go_wp2
    go_ret
    exact ⟨ret_bool HW.out.symm, HB0.out⟩
  have g0 : (s.toList == [98, 111, 111, 108]) = false := lit_ne h0
  by_cases h1 : s = ⟨#[98, 121]⟩
  · have HW : Hid (wordI s = true) := by unfold Hid; rw [h1]; decide
    have g1 : (s.toList == [98, 121]) = true := lit_eq h1
    clear h1
    go_enter Tryz.func163, Tryz.ntmps163
    go_wp2
    go_ret
    exact ⟨ret_bool HW.out.symm, HB0.out⟩
  have g1 : (s.toList == [98, 121]) = false := lit_ne h1
  by_cases h2 : s = ⟨#[103, 114, 111, 117, 112, 95, 108, 101, 102, 116]⟩
  · have HW : Hid (wordI s = true) := by unfold Hid; rw [h2]; decide
    have g2 : (s.toList == [103, 114, 111, 117, 112, 95, 108, 101, 102, 116]) = true := lit_eq h2
    clear h2
    go_enter Tryz.func163, Tryz.ntmps163
    go_wp2
    go_ret
    exact ⟨ret_bool HW.out.symm, HB0.out⟩
  have g2 : (s.toList == [103, 114, 111, 117, 112, 95, 108, 101, 102, 116]) = false := lit_ne h2
  by_cases h3 : s = ⟨#[103, 114, 111, 117, 112, 95, 114, 105, 103, 104, 116]⟩
  · have HW : Hid (wordI s = true) := by unfold Hid; rw [h3]; decide
    have g3 : (s.toList == [103, 114, 111, 117, 112, 95, 114, 105, 103, 104, 116]) = true := lit_eq h3
    clear h3
    go_enter Tryz.func163, Tryz.ntmps163
    go_wp2
    go_ret
    exact ⟨ret_bool HW.out.symm, HB0.out⟩
  have g3 : (s.toList == [103, 114, 111, 117, 112, 95, 114, 105, 103, 104, 116]) = false := lit_ne h3
  by_cases h4 : s = ⟨#[105, 103, 110, 111, 114, 105, 110, 103]⟩
  · have HW : Hid (wordI s = true) := by unfold Hid; rw [h4]; decide
    have g4 : (s.toList == [105, 103, 110, 111, 114, 105, 110, 103]) = true := lit_eq h4
    clear h4
    go_enter Tryz.func163, Tryz.ntmps163
    go_wp2
    go_ret
    exact ⟨ret_bool HW.out.symm, HB0.out⟩
  have g4 : (s.toList == [105, 103, 110, 111, 114, 105, 110, 103]) = false := lit_ne h4
  by_cases h5 : s = ⟨#[111, 102, 102, 115, 101, 116]⟩
  · have HW : Hid (wordI s = true) := by unfold Hid; rw [h5]; decide
    have g5 : (s.toList == [111, 102, 102, 115, 101, 116]) = true := lit_eq h5
    clear h5
    go_enter Tryz.func163, Tryz.ntmps163
    go_wp2
    go_ret
    exact ⟨ret_bool HW.out.symm, HB0.out⟩
  have g5 : (s.toList == [111, 102, 102, 115, 101, 116]) = false := lit_ne h5
  by_cases h6 : s = ⟨#[111, 110]⟩
  · have HW : Hid (wordI s = true) := by unfold Hid; rw [h6]; decide
    have g6 : (s.toList == [111, 110]) = true := lit_eq h6
    clear h6
    go_enter Tryz.func163, Tryz.ntmps163
    go_wp2
    go_ret
    exact ⟨ret_bool HW.out.symm, HB0.out⟩
  have g6 : (s.toList == [111, 110]) = false := lit_ne h6
  by_cases h7 : s = ⟨#[119, 105, 116, 104, 111, 117, 116]⟩
  · have HW : Hid (wordI s = true) := by unfold Hid; rw [h7]; decide
    have g7 : (s.toList == [119, 105, 116, 104, 111, 117, 116]) = true := lit_eq h7
    clear h7
    go_enter Tryz.func163, Tryz.ntmps163
    go_wp2
    go_ret
    exact ⟨ret_bool HW.out.symm, HB0.out⟩
  have g7 : (s.toList == [119, 105, 116, 104, 111, 117, 116]) = false := lit_ne h7
  have HW : Hid (wordI s = (decide (s ∈ fnN) || (decide (s ∈ agN) || decide (s ∈ sgN)))) := by
    unfold Hid wordI
    rw [decide_eq_false (p := s ∈ wd8) (by simp only [wd8, List.mem_cons, List.not_mem_nil, or_false]; rintro (h | h | h | h | h | h | h | h) <;> contradiction)]
    rfl
  clear h0 h1 h2 h3 h4 h5 h6 h7
  rcases two (decide (s ∈ fnN)) with d1 | d1
  · go_enter Tryz.func163, Tryz.ntmps163
    go_wp2_with (first | (go_at_call 71; refine (f71 s _ HT.out.fn).mono ?_; rintro e w1 ⟨⟨r, rfl, hr⟩, hb1⟩; have HB1 := hid hb1; clear hb1 hr) | (go_at_call 174; refine (f174 s _ (HT.out.ag.below (HB1.out.alloc HB1.out.size _))).mono ?_; rintro e w2 ⟨⟨z, rfl, hz0, hz⟩, hb2⟩; have HB2 := hid hb2; clear hb2) | (go_at_call 175; refine (f175 s _ ((HT.out.op.below (HB1.out.alloc HB1.out.size _)).below HB2.out)).mono ?_; rintro e w3 ⟨⟨y, rfl, hy0, hy⟩, hb3⟩; have HB3 := hid hb3; clear hb3))
    go_ret
    exact ⟨ret_bool (by rw [HW.out, d1]; rfl), HB1.out.alloc HB1.out.size _⟩
  · rcases two (decide (s ∈ agN)) with d2 | d2
    · go_enter Tryz.func163, Tryz.ntmps163
      go_wp2_with ((first | (go_at_call 71; refine (f71 s _ HT.out.fn).mono ?_; rintro e w1 ⟨⟨r, rfl, hr⟩, hb1⟩; have HB1 := hid hb1; clear hb1 hr) | (go_at_call 174; refine (f174 s _ (HT.out.ag.below (HB1.out.alloc HB1.out.size _))).mono ?_; rintro e w2 ⟨⟨z, rfl, hz0, hz⟩, hb2⟩; have HB2 := hid hb2; clear hb2) | (go_at_call 175; refine (f175 s _ ((HT.out.op.below (HB1.out.alloc HB1.out.size _)).below HB2.out)).mono ?_; rintro e w3 ⟨⟨y, rfl, hy0, hy⟩, hb3⟩; have HB3 := hid hb3; clear hb3)); try (have hzz : 0 < z := hz.2 (of_decide_eq_true d2)))
      go_ret
      exact ⟨ret_bool (by rw [HW.out, d1, d2]; rfl), (HB1.out.alloc HB1.out.size _).trans (HB2.out.mono (HB1.out.alloc HB1.out.size _).size)⟩
    · rcases two (decide (s ∈ sgN)) with d3 | d3
      · go_enter Tryz.func163, Tryz.ntmps163
        go_wp2_with ((first | (go_at_call 71; refine (f71 s _ HT.out.fn).mono ?_; rintro e w1 ⟨⟨r, rfl, hr⟩, hb1⟩; have HB1 := hid hb1; clear hb1 hr) | (go_at_call 174; refine (f174 s _ (HT.out.ag.below (HB1.out.alloc HB1.out.size _))).mono ?_; rintro e w2 ⟨⟨z, rfl, hz0, hz⟩, hb2⟩; have HB2 := hid hb2; clear hb2) | (go_at_call 175; refine (f175 s _ ((HT.out.op.below (HB1.out.alloc HB1.out.size _)).below HB2.out)).mono ?_; rintro e w3 ⟨⟨y, rfl, hy0, hy⟩, hb3⟩; have HB3 := hid hb3; clear hb3)); try (have hzz : ¬ 0 < z := fun h => of_decide_eq_false d2 (hz.1 h)); try (have hyy : 0 < y := hy.2 (of_decide_eq_true d3)))
        go_ret
        exact ⟨ret_bool (by rw [HW.out, d1, d2, d3]; rfl), ((HB1.out.alloc HB1.out.size _).trans (HB2.out.mono (HB1.out.alloc HB1.out.size _).size)).trans (HB3.out.mono ((HB1.out.alloc HB1.out.size _).trans (HB2.out.mono (HB1.out.alloc HB1.out.size _).size)).size)⟩
      · go_enter Tryz.func163, Tryz.ntmps163
        go_wp2_with ((first | (go_at_call 71; refine (f71 s _ HT.out.fn).mono ?_; rintro e w1 ⟨⟨r, rfl, hr⟩, hb1⟩; have HB1 := hid hb1; clear hb1 hr) | (go_at_call 174; refine (f174 s _ (HT.out.ag.below (HB1.out.alloc HB1.out.size _))).mono ?_; rintro e w2 ⟨⟨z, rfl, hz0, hz⟩, hb2⟩; have HB2 := hid hb2; clear hb2) | (go_at_call 175; refine (f175 s _ ((HT.out.op.below (HB1.out.alloc HB1.out.size _)).below HB2.out)).mono ?_; rintro e w3 ⟨⟨y, rfl, hy0, hy⟩, hb3⟩; have HB3 := hid hb3; clear hb3)); try (have hzz : ¬ 0 < z := fun h => of_decide_eq_false d2 (hz.1 h)); try (have hyy : ¬ 0 < y := fun h => of_decide_eq_false d3 (hy.1 h)))
        go_ret
        exact ⟨ret_bool (by rw [HW.out, d1, d2, d3]; rfl), ((HB1.out.alloc HB1.out.size _).trans (HB2.out.mono (HB1.out.alloc HB1.out.size _).size)).trans (HB3.out.mono ((HB1.out.alloc HB1.out.size _).trans (HB2.out.mono (HB1.out.alloc HB1.out.size _).size)).size)⟩

end Go.Proofs.YtbdlahhejfamhaaGreatDoor.Qry
/- The library's contract of strings.Fields, laid at this program's numbers in plain words. -/
namespace Go.Proofs
open Go.Shelf
def Tryz.lays157_ren : Go.Shelf.Ren := ⟨fun | 157 => 147 | 229 => 167 | 199 => 168 | 261 => 178 | 311 => 185 | 312 => 186 | n => n, fun | 9 => 9 | 31 => 50 | 3 => 3 | 5 => 5 | 4 => 4 | 119 => 215 | 0 => 0 | 40 => 217 | 152 => 225 | 21 => 21 | 154 => 227 | 51 => 228 | 141 => 230 | 196 => 237 | 193 => 234 | 198 => 240 | 49 => 238 | 194 => 235 | 201 => 243 | 226 => 248 | 46 => 218 | 227 => 249 | n => n, fun | 0 => 3 | 6 => 4 | n => n⟩
theorem Tryz.lays157 : Go.Proofs.Lays.n157 Tryz.prog Tryz.lays157_ren := {
  mixed := by kernel_rfl
  f157 := Tryz.func147.trans (congrArg some (by kernel_rfl))
  f199 := Tryz.func168.trans (congrArg some (by kernel_rfl))
  f229 := Tryz.func167.trans (congrArg some (by kernel_rfl))
  f261 := Tryz.func178.trans (congrArg some (by kernel_rfl))
  f311 := Tryz.func185.trans (congrArg some (by kernel_rfl))
  f312 := Tryz.func186.trans (congrArg some (by kernel_rfl))
  t0 := Tryz.underlying0
  a0 := Tryz.isAgg0
  z0 := Tryz.sizeOf0
  v0 := Tryz.zeroValue0
  t3 := Tryz.underlying3
  a3 := Tryz.isAgg3
  z3 := Tryz.sizeOf3
  v3 := Tryz.zeroValue3
  t4 := Tryz.underlying4
  a4 := Tryz.isAgg4
  z4 := Tryz.sizeOf4
  v4 := Tryz.zeroValue4
  t5 := Tryz.underlying5
  a5 := Tryz.isAgg5
  z5 := Tryz.sizeOf5
  v5 := Tryz.zeroValue5
  t9 := Tryz.underlying9
  a9 := Tryz.isAgg9
  z9 := Tryz.sizeOf9
  v9 := Tryz.zeroValue9
  t21 := Tryz.underlying21
  a21 := Tryz.isAgg21
  z21 := Tryz.sizeOf21
  v21 := Tryz.zeroValue21
  t31 := Tryz.underlying50
  a31 := Tryz.isAgg50
  z31 := Tryz.sizeOf50
  v31 := Tryz.zeroValue50
  t40 := Tryz.underlying217
  a40 := Tryz.isAgg217
  z40 := Tryz.sizeOf217
  v40 := Tryz.zeroValue217
  t46 := Tryz.underlying218
  a46 := Tryz.isAgg218
  z46 := Tryz.sizeOf218
  v46 := Tryz.zeroValue218
  t49 := Tryz.underlying238
  a49 := Tryz.isAgg238
  z49 := Tryz.sizeOf238
  v49 := Tryz.zeroValue238
  t51 := Tryz.underlying228
  a51 := Tryz.isAgg228
  z51 := Tryz.sizeOf228
  v51 := Tryz.zeroValue228
  t119 := Tryz.underlying215
  a119 := Tryz.isAgg215
  z119 := Tryz.sizeOf215
  t141 := Tryz.underlying230
  a141 := Tryz.isAgg230
  z141 := Tryz.sizeOf230
  v141 := Tryz.zeroValue230
  t152 := Tryz.underlying225
  a152 := Tryz.isAgg225
  z152 := Tryz.sizeOf225
  v152 := Tryz.zeroValue225
  t154 := Tryz.underlying227
  a154 := Tryz.isAgg227
  z154 := Tryz.sizeOf227
  v154 := Tryz.zeroValue227
  t193 := Tryz.underlying234
  a193 := Tryz.isAgg234
  z193 := Tryz.sizeOf234
  v193 := Tryz.zeroValue234
  t194 := Tryz.underlying235
  a194 := Tryz.isAgg235
  z194 := Tryz.sizeOf235
  v194 := Tryz.zeroValue235
  t196 := Tryz.underlying237
  a196 := Tryz.isAgg237
  z196 := Tryz.sizeOf237
  v196 := Tryz.zeroValue237
  t198 := Tryz.underlying240
  a198 := Tryz.isAgg240
  z198 := Tryz.sizeOf240
  v198 := Tryz.zeroValue240
  t201 := Tryz.underlying243
  a201 := Tryz.isAgg243
  z201 := Tryz.sizeOf243
  v201 := Tryz.zeroValue243
  t226 := Tryz.underlying248
  a226 := Tryz.isAgg248
  z226 := Tryz.sizeOf248
  v226 := Tryz.zeroValue248
  t227 := Tryz.underlying249
  a227 := Tryz.isAgg249
  z227 := Tryz.sizeOf249
  v227 := Tryz.zeroValue249
  g0 := by kernel_rfl
  g6 := by kernel_rfl }
open Go.RowKit Go.Lib in
theorem Tryz.strings_Fields (s : ByteArray) (w : World) (hs : s.size < 4294967281) (hascii : ∀ (j : Nat) b, s.data.toList[j]? = some b → b.toNat < 128) (htab : Lib.TabIs Tryz.prog w "strings.asciiSpace" .u8 Lib.asciiSpaceTab) :
    Calls Tryz.prog 147 #[.string s] w fun e w' =>
      e = .returned (.slice (some ⟨w.heap.size, 0, none⟩) (Lib.fields s.data.toList).length (Lib.fields s.data.toList).length) ∧ w' = w.alloc (.cells ((Lib.fields s.data.toList).map fun l => Value.string ⟨l.toArray⟩).toArray 9) := Any.strings_Fields Tryz.lays157 (by kernel_rfl) (by kernel_rfl) s w hs hascii htab
end Go.Proofs
/- Questions: what the program asks of a node by itself: selections, operations, aggregates. -/
namespace Go.Proofs.YtbdlahhejfamhaaGreatDoor.Qry
open Go.RowKit
open Go.Proofs.YtbdlahhejfamhaaGreatDoor.Pat (Mt m0 nameL printL goodM HasM FitM ret_bool)
open Go.Proofs.YtbdlahhejfamhaaGreatDoor.Fil (HasT FitT)

def fld (s : ByteArray) : List ByteArray := (Lib.fields s.data.toList).map fun l => ⟨l.toArray⟩
theorem fld_len (s : ByteArray) : (fld s).length = (Lib.fields s.data.toList).length := by unfold fld; rw [List.length_map]
def Asc (s : ByteArray) : Prop := s.size < 4294967281 ∧ ∀ (j : Nat) b, s.data.toList[j]? = some b → b.toNat < 128
theorem f106 (s1 s2 s3 : ByteArray) (b : Bool) (w : World) (ht : TabSp w) (ha : Asc s2) :
    Calls Tryz.prog 106 #[.agg #[.string s1, .string s2, .string s3, .bool b]] w fun e w' => ∃ a, e = .returned (.slice a (fld s2).length (fld s2).length) ∧ HasT w' a (fld s2) ∧ Below w.heap.size w w' := by
  have hb := hid ((Below.refl w.heap.size w).alloc (Nat.le_refl _) (.cells #[.string s1, .string s2, .string s3, .bool b] 125))
  have HT := hid (ht.below hb.out)
  have HA := hid ha
  clear ht ha
  go_enter Tryz.func106, Tryz.ntmps106
  go_wp2_with (go_at_call 147; refine (Tryz.strings_Fields s2 _ HA.out.1 HA.out.2 HT.out.2).mono ?_; rintro e w1 ⟨rfl, hw1⟩; have HW := hid hw1; clear hw1)
  go_ret
  refine ⟨some ⟨(w.alloc (.cells #[.string s1, .string s2, .string s3, .bool b] 125)).heap.size, 0, none⟩, ?_, ?_, ?_⟩
  · rw [fld_len, World.size_alloc]
    rfl
  · rw [HW.out]
    refine .inr ⟨_, 0, rfl, by simp, fun i hi => ?_⟩
    rw [fld_len] at hi
    have hnew := heap_alloc_new (w.alloc (.cells #[.string s1, .string s2, .string s3, .bool b] 125)) (.cells ((Lib.fields s2.data.toList).map fun l => Value.string ⟨l.toArray⟩).toArray 9)
    unfold World.cell?
    simp only [hnew]
    unfold fld
    simp [List.getD_eq_getElem?_getD, hi]
  · rw [HW.out]
    exact hb.out.alloc hb.out.size _
theorem f166 (s1 s2 s3 : ByteArray) (b : Bool) (w : World) (ht : TabSp w) (ha : Asc s2) :
    Calls Tryz.prog 166 #[.agg #[.string s1, .string s2, .string s3, .bool b]] w fun e w' => e = .returned (.int .i64 ((fld s2).length : Nat)) ∧ Below w.heap.size w w' := by
  have hb := hid ((Below.refl w.heap.size w).alloc (Nat.le_refl _) (.cells #[.string s1, .string s2, .string s3, .bool b] 125))
  have HT := hid (ht.below hb.out)
  have HA := hid ha
  clear ht ha
  go_enter Tryz.func166, Tryz.ntmps166
  go_wp2_with (go_at_call 106; refine (f106 s1 s2 s3 b _ HT.out HA.out).mono ?_; rintro e w1 ⟨a, rfl, _, hb1⟩; have HB1 := hid hb1; clear hb1)
  go_ret
  exact ⟨rfl, hb.out.trans (HB1.out.mono hb.out.size)⟩
/-- What is told of an aggregate's row. -/
structure AgR (k : Nat) (r : Cs) : Prop where
  asc : Asc ⟨r.2.1.toArray⟩
  len : (fld ⟨r.2.1.toArray⟩).length = if 6 ≤ k then 2 else 1
theorem asc_of {s : ByteArray} (h1 : s.size < 4294967281) (h2 : (s.data.toList.all fun b => decide (b.toNat < 128)) = true) : Asc s := by
  refine ⟨h1, fun j b hb => ?_⟩
  have := List.all_eq_true.1 h2 b (List.mem_of_getElem? hb)
  simpa using this
theorem ag_row : ∀ k, 1 ≤ k → k ≤ 8 → AgR k (rowAg.getD k cs0) := by
  intro k h1 h8
  match k, h1, h8 with
  | 1, _, _ => exact ⟨asc_of (by decide) (by decide), by decide⟩
  | 2, _, _ => exact ⟨asc_of (by decide) (by decide), by decide⟩
  | 3, _, _ => exact ⟨asc_of (by decide) (by decide), by decide⟩
  | 4, _, _ => exact ⟨asc_of (by decide) (by decide), by decide⟩
  | 5, _, _ => exact ⟨asc_of (by decide) (by decide), by decide⟩
  | 6, _, _ => exact ⟨asc_of (by decide) (by decide), by decide⟩
  | 7, _, _ => exact ⟨asc_of (by decide) (by decide), by decide⟩
  | 8, _, _ => exact ⟨asc_of (by decide) (by decide), by decide⟩
  | n + 9, _, h => omega
theorem tabAg_at {w : World} (h : TabAg w) (k : Nat) (hk : k < 9) : w.cell? ⟨0, k * 4, none⟩ = some (.string ⟨(rowAg.getD k cs0).1.toArray⟩) ∧ w.cell? ⟨0, k * 4 + 1, none⟩ = some (.string ⟨(rowAg.getD k cs0).2.1.toArray⟩) ∧ w.cell? ⟨0, k * 4 + 2, none⟩ = some (.string ⟨(rowAg.getD k cs0).2.2.1.toArray⟩) ∧ w.cell? ⟨0, k * 4 + 3, none⟩ = some (.bool (rowAg.getD k cs0).2.2.2) := by
  have hr := tabAg_rows k hk
  have hc : ∀ j, j < 4 → w.cell? ⟨0, k * 4 + j, none⟩ = (csV (rowAg.getD k cs0))[j]? := by
    intro j hj
    rw [h.2 (k * 4 + j) (by omega), ← hr, List.getElem?_take, if_pos hj, List.getElem?_drop]
  exact ⟨hc 0 (by omega), hc 1 (by omega), hc 2 (by omega), hc 3 (by omega)⟩
def bd (k : Nat) : Int := (rowOp.getD k os0).2
theorem tabOp_at {w : World} (h : TabOp w) (k : Nat) (hk : k < 15) : w.cell? ⟨1, k * 2 + 1, none⟩ = some (.int .i64 (bd k)) := by
  have hr := tabOp_rows k hk
  rw [h.2 (k * 2 + 1) (by omega)]
  have : (osV (rowOp.getD k os0))[1]? = some (.int .i64 (bd k)) := rfl
  rw [← this, ← hr, List.getElem?_take, if_pos (by omega), List.getElem?_drop]
theorem bd_facts : ∀ k, 1 ≤ k → k ≤ 14 → (bd k = 3 ↔ (6 ≤ k ∧ k ≤ 11)) ∧ (3 ≤ bd k ↔ k ≤ 11) := by
  intro k h1 h2
  match k, h1, h2 with
  | 1, _, _ => decide
  | 2, _, _ => decide
  | 3, _, _ => decide
  | 4, _, _ => decide
  | 5, _, _ => decide
  | 6, _, _ => decide
  | 7, _, _ => decide
  | 8, _, _ => decide
  | 9, _, _ => decide
  | 10, _, _ => decide
  | 11, _, _ => decide
  | 12, _, _ => decide
  | 13, _, _ => decide
  | 14, _, _ => decide
  | n + 15, _, h => omega
end Go.Proofs.YtbdlahhejfamhaaGreatDoor.Qry
