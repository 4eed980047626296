/- Values: the model's l7Insert. -/
import Derived.Test.YtnhikdlhjdjmdaaYa
import Derived.Test.YtnhikdlhjdjmdaaVo
import Derived.Sort.EncStr
import Derived.Laws.CopyOwn
import Derived.Deep.RegionLaw
namespace Go.Proofs.Ytnhikdlhjdjmdaa.Val
open Go.Lib Go.RowKit

theorem hid {p : Prop} (h : p) : Hid p := h
theorem infoT : (Try.prog.info? 9).map (fun i => (i.zero, i.size, i.bytes)) = some (some (.string ByteArray.empty), 1, 16) := by kernel_rfl
theorem sizeT : (Try.prog.info? 9).map (·.size) = some 1 := by kernel_rfl
/-- A row of texts of the call's own. -/
abbrev Row (w : World) (base : Nat) (a : Option Addr) (m c : Nat) (D : List Tx) : Prop := w.ownsRow base 9 1 (.slice a m c) m (D.map encStr)
theorem own_below {w w' : World} {base e size n : Nat} {v : Value} {xs : List Value} (h : w.ownsRow base e size v n xs) (hb : Below w.heap.size w w') : w'.ownsRow base e size v n xs := Lab.own_below h hb
theorem own_form {w : World} {base e size n : Nat} {v : Value} {xs : List Value} (h : w.ownsRow base e size v n xs) : ∃ a c, v = .slice a n c := by
  rcases h.2 with ⟨h1, h2⟩ | ⟨g, cap, cur, h1, _⟩
  · exact ⟨none, 0, by rw [h1, h2]⟩
  · exact ⟨_, _, h1⟩
theorem row_at {w : World} {base m c : Nat} {a : Option Addr} {D : List Tx} (h : Row w base a m c D) (k : Nat) (hk : k < m) : ∃ g, a = some ⟨g, 0, none⟩ ∧ g < w.heap.size ∧ base ≤ g ∧ w.cell? ⟨g, k, none⟩ = some (encStr (D.getD k [])) := by
  have hl : D.length = m := by have := h.1; simpa using this
  rcases h.2 with ⟨_, h2⟩ | ⟨g, cap, cur, h1, _⟩
  · omega
  · cases h1
    have h2 := h.lt g rfl
    refine ⟨g, rfl, h2.2, h2.1, ?_⟩
    rw [h.cellAt k (by omega)]
    simp [hl, hk]
theorem one_new (w : World) (v : Value) (t : TypeId) : ∀ j u, ([v] : List Value)[j]? = some u → (w.alloc (.cells #[v] t)).cell? ((⟨w.heap.size, 0, none⟩ : Addr).add j) = some u := by
  intro j u h
  cases j with
  | zero =>
    simp at h
    subst h
    have h := heap_alloc_new w (.cells #[v] t)
    show (w.alloc (.cells #[v] t)).cell? ⟨w.heap.size, 0, none⟩ = some v
    unfold World.cell?
    simp only [h]
    rfl
  | succ j => simp at h
/-- What the row is behind the append, the copy and the store. -/
theorem spliced {D : List Tx} {s : Tx} {k m : Nat} {cur : List Value} (hD : D.length = m) (hk : k ≤ m) (hc : cur.take (m + 1) = D.map encStr ++ [.string ByteArray.empty]) (hl : m + 1 ≤ cur.length) :
    ((splice cur (k + 1) ((D.drop k).map encStr)).set k (encStr s)).take (m + 1) = (D.take k ++ s :: D.drop k).map encStr := by
  have hd : ((D.drop k).map encStr).length = m - k := by simp [hD]
  have hlen : (splice cur (k + 1) ((D.drop k).map encStr)).length = cur.length := length_splice _ _ _ (by rw [hd]; omega)
  refine List.ext_getElem? fun j => ?_
  by_cases hj : j < m + 1
  · rw [List.getElem?_take_of_lt hj, List.getElem?_set]
    by_cases e : k = j
    · subst e
      rw [if_pos rfl, if_pos (by rw [hlen]; omega)]
      rw [List.getElem?_map, List.getElem?_append_right (by simp; omega)]
      simp [hD, Nat.min_eq_left hk]
    · rw [if_neg e]
      by_cases h1 : j < k
      · have h2 : (splice cur (k + 1) ((D.drop k).map encStr))[j]? = cur[j]? := by
          unfold splice
          rw [List.getElem?_append_left (by simp; omega), List.getElem?_take_of_lt (by omega)]
        have h3 : cur[j]? = (D.map encStr)[j]? := by
          rw [← List.getElem?_take_of_lt hj, hc, List.getElem?_append_left (by simp; omega)]
        rw [h2, h3, List.getElem?_map, List.getElem?_map, List.getElem?_append_left (by simp; omega), List.getElem?_take_of_lt h1]
      · have h2 : (splice cur (k + 1) ((D.drop k).map encStr))[j]? = ((D.drop k).map encStr)[j - (k + 1)]? := by
          unfold splice
          have ht : (cur.take (k + 1)).length = k + 1 := by simp; omega
          rw [List.getElem?_append_right (by rw [ht]; omega), ht, List.getElem?_append_left (by rw [hd]; omega)]
        have h3 : (D.take k).length = k := by simp; omega
        rw [h2, List.getElem?_map, List.getElem?_map, List.getElem?_append_right (by rw [h3]; omega), h3, show j - k = (j - (k + 1)) + 1 by omega, List.getElem?_cons_succ]
  · rw [List.getElem?_eq_none (by simp; omega), List.getElem?_eq_none (by simp [hD]; omega)]
theorem put_row {w : World} {base g m c k : Nat} {cur : List Value} {D : List Tx} {s : Tx} (hg : w.heap[g]? = some (.cells (splice cur (k + 1) ((D.drop k).map encStr)).toArray 9 (0, 0))) (hb : base ≤ g) (hD : D.length = m) (hk : k ≤ m) (hc : cur.take (m + 1) = D.map encStr ++ [.string ByteArray.empty]) (hm : m + 1 ≤ c) (hx : c ≤ maxLen) (hl : cur.length = c) :
    Row (w.setCell ⟨g, k, none⟩ (encStr s)) base (some ⟨g, 0, none⟩) (m + 1) c (D.take k ++ s :: D.drop k) := by
  have hd : ((D.drop k).map encStr).length = m - k := by simp [hD]
  have hlen : (splice cur (k + 1) ((D.drop k).map encStr)).length = c := (length_splice _ _ _ (by rw [hd]; omega)).trans hl
  have h1 : (w.setCell ⟨g, k, none⟩ (encStr s)).heap[g]? = some (.cells ((splice cur (k + 1) ((D.drop k).map encStr)).toArray.setIfInBounds k (encStr s)) 9 (0, 0)) := by
    have hlt := (Array.getElem?_eq_some_iff.1 hg).1
    have h' : w.heap[g] = .cells (splice cur (k + 1) ((D.drop k).map encStr)).toArray 9 (0, 0) := by simpa [Array.getElem?_eq_getElem hlt] using hg
    show (w.heap.modify g _)[g]? = _
    rw [Array.getElem?_eq_getElem (by simpa using hlt), Array.getElem_modify_self, h']
    rfl
  refine ⟨by simp [hD]; omega, .inr ⟨g, c, _, rfl, hb, h1, hm, hx, by rw [Array.size_setIfInBounds, List.size_toArray, Nat.mul_one]; exact hlen, ?_⟩⟩
  rw [Nat.mul_one, ← spliced (s := s) hD hk hc (by omega)]
  simp
theorem enc_s (s : ByteArray) : encStr s.data.toList = .string s := by simp [encStr]
theorem cell_some {w : World} {g k : Nat} {xs : List Value} {t : TypeId} (hg : w.heap[g]? = some (.cells xs.toArray t (0, 0))) (hk : k < xs.length) : ∃ x, w.cell? ⟨g, k, none⟩ = some x := by
  refine ⟨xs[k], ?_⟩
  unfold World.cell?
  simp only [hg]
  simp [hk]
theorem cell_frz {w : World} {g k : Nat} {xs : Array Value} {t : TypeId} (hg : w.heap[g]? = some (.cells xs t (0, 0))) : w.frozen? ⟨g, k, none⟩ = false := by
  simp [World.frozen?, hg]
theorem src_at {w : World} {g k m : Nat} {cur : Array Value} {t : TypeId} {D : List Tx} (hg : w.heap[g]? = some (.cells cur t (0, 0))) (hD : D.length = m) (hct : cur.toList.take (m + 1) = D.map encStr ++ [.string ByteArray.empty]) : ∀ j v, ((D.drop k).map encStr)[j]? = some v → w.cell? ((⟨g, k, none⟩ : Addr).add j) = some v := by
  intro j v h
  have hj : j < D.length - k := by
    have := List.getElem?_eq_some_iff.1 h
    obtain ⟨h1, _⟩ := this
    simpa using h1
  have e : (⟨g, k, none⟩ : Addr).add j = ⟨g, k + j, none⟩ := by simp [Addr.add]
  rw [e]
  unfold World.cell?
  simp only [hg]
  have h2 : cur.toList[k + j]? = some v := by
    rw [← List.getElem?_take_of_lt (show k + j < m + 1 by omega), hct, List.getElem?_append_left (by simp; omega)]
    rw [List.getElem?_map] at h ⊢
    rw [List.getElem?_drop] at h
    exact h
  simpa using h2
theorem ret_len {a b : List Tx} (h : a = b) : a.length = b.length := by rw [h]
set_option maxHeartbeats 4000000 in
set_option maxRecDepth 100000 in
theorem f63 (a : Option Addr) (m c base : Nat) (D : List Tx) (s : ByteArray) (w : World) (hb : base ≤ w.heap.size) (hn : D.length = m) (hm : m ≤ 1000) (hf : ∀ i, (D.getD i []).length ≤ maxLen) (ho : Row w base a m c D) :
    Calls Try.prog 63 #[.slice a m c, .string s] w fun e w' => ∃ a' m' c', e = .returned (.slice a' m' c') ∧ Row w' base a' m' c' (insF D s.data.toList) ∧ Below base w w' := by
  obtain ⟨i0, hi, hz0, hz1, hz2⟩ := info_parts infoT
  have HO := hid ho
  have HN := hid hn
  have HF := hid hf
  have HB := hid hb
  clear ho hn hf hb
  go_enter Try.func63, Try.ntmps63
  go_wp2
  go_loopw [5] (fun i wr => ∃ (k q : Nat), k ≤ m ∧ i = .int .i64 k ∧ Hid (∀ i, i < k → compareBytes (D.getD i []) s.data.toList < 0) ∧ Hid (wr = w.drewN q)) (fun i _ => m - (intOf i).toNat)
  case atStart => exact ⟨0, 0, Nat.zero_le _, rfl, fun i hi => by omega, rfl⟩
  case round =>
    obtain ⟨k, q, hk, rfl, HU, HW⟩ := hrel
    have HO1 : Hid (Row wr base a m c D) := by unfold Hid; rw [HW.out]; exact HO.out
    have HB1 : Hid (Below base w wr) := by unfold Hid; rw [HW.out]; exact Lab.below_drewN (Below.refl _ _) q
    by_cases hlt : k < m
    · obtain ⟨g, rfl, hgl, hgb, c0⟩ := row_at HO1.out k hlt
      have HFk := HF.out k
      obtain ⟨t, hT⟩ : ∃ t, t = D.getD k [] := ⟨_, rfl⟩
      rw [← hT] at c0 HFk
      have HT := hid hT.symm
      clear hT
      have HSk : Hid ((⟨t.toArray⟩ : ByteArray).size ≤ maxLen) := by unfold Hid; show t.toArray.size ≤ _; simpa using HFk
      have i1 : (k : Int) < (m : Int) := by omega
      have i2 : (0 : Int) ≤ (k : Int) := by omega
      go_wp2_with fail
      refine (Str.f74 ⟨t.toArray⟩ s _ HSk.out).mono ?_
      rw [show (⟨t.toArray⟩ : ByteArray).data.toList = t from List.toList_toArray]
      rintro e w2 ⟨rfl, q2, hw2⟩
      have HW2 : Hid (w2 = w.drewN (q + q2)) := by unfold Hid; rw [hw2, HW.out, World.drewN_drewN]
      have HO2 : Hid (Row w2 base (some ⟨g, 0, none⟩) m c D) := by unfold Hid; rw [hw2]; exact HO1.out
      have HB2 : Hid (Below base w w2) := by unfold Hid; rw [hw2]; exact Lab.below_drewN HB1.out q2
      have d0 : w2.cell? ⟨g, k, none⟩ = some (encStr t) := by rw [hw2]; exact c0
      clear hw2 c0
      by_cases hc : compareBytes t s.data.toList < 0
      · have HU2 : Hid (∀ i, i < k + 1 → compareBytes (D.getD i []) s.data.toList < 0) := by
          intro i hi
          by_cases e : i = k
          · rw [e, HT.out]; exact hc
          · exact HU.out i (by omega)
        go_wp2
        go_roundw
        case rel => exact ⟨k + 1, q + q2, by omega, by go_num, HU2.out, HW2.out⟩
        case measure => simp [intOf]; omega
      have HNL := hid hc
      by_cases he : t = s.data.toList
      · have HE := hid (ins_same HU.out (by rw [HN.out]; exact hlt) (HT.out.trans he))
        have he2 : (t == s.toList) = true := by rw [he]; simp [ByteArray.toList_eq]
        clear he
        go_wp2
        go_ret
        exact ⟨_, _, _, rfl, by rw [HE.out]; exact HO2.out, HB2.out⟩
      · have HE := hid (ins_new (s := s.data.toList) HU.out (by rw [HN.out]; exact hk) (fun _ => by rw [HT.out]; exact ⟨HNL.out, he⟩))
        have he2 : (t == s.toList) = false := by
          rw [ByteArray.toList_eq]; simpa using he
        clear he
        go_wp2_with (at_builtin; refine wpList_append_own _ rfl (.tmp 34) (.tmp 35) 53 rfl base 9 i0 (.string ByteArray.empty) 1 16 Try.underlying53 hi hz0 hz1 hz2 rfl (by decide) _ _ _ rfl (HO2.out.alloc _) ⟨w2.heap.size, 0, none⟩ 1 1 [.string ByteArray.empty] rfl rfl ?d1 ?d2 ?d3 ?d4 ?d5 ?_)
        case d1 => first | exact one_new w2 _ _ | exact fun j u h => h
        case d2 => first | (intro u hu; simp at hu; subst hu; rfl) | rfl
        case d3 => unfold maxLen; omega
        case d4 => omega
        case d5 => have := HB.out; have := HB2.out.size; simp; omega
        intro v3 w3 hown3 hgr3 _
        obtain ⟨a3, c3, rfl⟩ := own_form hown3
        have HB3 := hid ((HB2.out.alloc (by have := HB.out; have := HB2.out.size; omega) (.cells #[.string ByteArray.empty] 9)).grown hgr3 (by have := HB.out; have := HB2.out.size; simp; omega) (fun j hj => (HO2.out.lt j hj).1))
        obtain ⟨g3, cur, rfl, hb3, hg3, hmc, hcx, hcs, hct⟩ : ∃ g cur, a3 = some ⟨g, 0, none⟩ ∧ base ≤ g ∧ w3.heap[g]? = some (.cells cur 9 (0, 0)) ∧ m + 1 ≤ c3 ∧ c3 ≤ maxLen ∧ cur.size = c3 ∧ cur.toList.take (m + 1) = D.map encStr ++ [.string ByteArray.empty] := by
          rcases hown3.2 with ⟨_, h2⟩ | ⟨g, cap, cur, h1, h2, h3, h4, h5, h6, h7⟩
          · omega
          · cases h1
            exact ⟨g, cur, rfl, h2, h3, h4, h5, by simpa using h6, by simpa using h7⟩
        have HG3 := hid hg3
        have HCS := hid hcs
        have HCT := hid hct
        have hcx2 : c3 ≤ 9223372036854775807 := hcx
        have j1 : (k : Int) + 1 ≤ (m : Int) + 1 := by omega
        have j2 : (m : Int) + 1 ≤ (c3 : Int) := by omega
        have j3 : (k : Int) ≤ (m : Int) + 1 := by omega
        have HDL : Hid (((D.drop k).map encStr).length = m - k) := by unfold Hid; simp [HN.out]
        clear hown3 hgr3 hg3 hcs hct
        by_cases hcap : k + 1 < c3
        · have j7 : ¬ c3 = k + 1 := by omega
          have j5 : IntKind.i64.wrap ((k : Int) + 1) = (k : Int) + 1 := by rw [IntKind.wrap_i64]; omega
          have j6 : ((k : Int) + 1).toNat = k + 1 := by omega
          have j9 : (0 : Int) ≤ (k : Int) + 1 := by omega
          have j8 : ¬ c3 = k := by omega
          go_wp2_with fail
          refine wp_region_held_drew (S := fun _ => True) rfl trivial (fun hHeld => ?_)
          refine wpAnyH_take (i := 0) (oi := { dst := some 37, op := Op.move (Operand.tmp 0), type := 53, pos := "l7_head.go:172", after := #[], guard := none }) (v := .slice (some ⟨g3, 0, none⟩) (m + 1) c3) rfl (by kernel_rfl) (by kernel_rfl) (by kernel_rfl) (fun _ _ _ h => h) (Or.inl ⟨by rfl, fun w hSw => by go_simp⟩) (by assumption) ?_
          simp only [Act.put, List.setIfInBounds_toArray, List.set_cons_zero, List.set_cons_succ]
          refine wpAnyH_take (i := 1) (oi := { dst := some 38, op := Op.move (Operand.tmp 5), type := 3, pos := "l7_head.go:172", after := #[], guard := none }) (v := .int .i64 (k : Int)) rfl (by kernel_rfl) (by kernel_rfl) (by kernel_rfl) (fun _ _ _ h => h) (Or.inl ⟨by rfl, fun w hSw => by go_simp⟩) (by assumption) ?_
          simp only [Act.put, List.setIfInBounds_toArray, List.set_cons_zero, List.set_cons_succ]
          refine wpAnyH_take (i := 2) (oi := { dst := some 39, op := Op.binOp BinOp.add 3 (Operand.tmp 38) (Operand.const (Value.int IntKind.i64 1)) 3, type := 3, pos := "l7_head.go:172", after := #[{ on := 1, ground := Ground.data }], guard := none }) (v := .int .i64 ((k : Int) + 1)) rfl (by kernel_rfl) (by kernel_rfl) (by kernel_rfl) (fun _ _ _ h => h) (Or.inl ⟨by rfl, fun w hSw => by go_simp⟩) (by assumption) ?_
          simp only [Act.put, List.setIfInBounds_toArray, List.set_cons_zero, List.set_cons_succ]
          refine wpAnyH_take (i := 3) (oi := { dst := some 40, op := Op.slice 53 (Operand.tmp 37) (some (Operand.tmp 39)) none none, type := 53, pos := "l7_head.go:172", after := #[{ on := 0, ground := Ground.data }, { on := 2, ground := Ground.data }], guard := none }) (v := .slice (some ⟨g3, k + 1, none⟩) (m + 1 - (k + 1)) (c3 - (k + 1))) rfl (by kernel_rfl) (by kernel_rfl) (by kernel_rfl) (fun _ _ _ h => h) (Or.inl ⟨by rfl, fun w hSw => by go_simp⟩) (by assumption) ?_
          simp only [Act.put, List.setIfInBounds_toArray, List.set_cons_zero, List.set_cons_succ]
          refine wpAnyH_take (i := 4) (oi := { dst := some 41, op := Op.move (Operand.tmp 0), type := 53, pos := "l7_head.go:172", after := #[], guard := none }) (v := .slice (some ⟨g3, 0, none⟩) (m + 1) c3) rfl (by kernel_rfl) (by kernel_rfl) (by kernel_rfl) (fun _ _ _ h => h) (Or.inl ⟨by rfl, fun w hSw => by go_simp⟩) (by assumption) ?_
          simp only [Act.put, List.setIfInBounds_toArray, List.set_cons_zero, List.set_cons_succ]
          refine wpAnyH_take (i := 5) (oi := { dst := some 42, op := Op.move (Operand.tmp 5), type := 3, pos := "l7_head.go:172", after := #[], guard := none }) (v := .int .i64 (k : Int)) rfl (by kernel_rfl) (by kernel_rfl) (by kernel_rfl) (fun _ _ _ h => h) (Or.inl ⟨by rfl, fun w hSw => by go_simp⟩) (by assumption) ?_
          simp only [Act.put, List.setIfInBounds_toArray, List.set_cons_zero, List.set_cons_succ]
          refine wpAnyH_take (i := 6) (oi := { dst := some 43, op := Op.slice 53 (Operand.tmp 41) (some (Operand.tmp 42)) none none, type := 53, pos := "l7_head.go:172", after := #[{ on := 4, ground := Ground.data }, { on := 5, ground := Ground.data }], guard := none }) (v := .slice (some ⟨g3, k, none⟩) (m + 1 - k) (c3 - k)) rfl (by kernel_rfl) (by kernel_rfl) (by kernel_rfl) (fun _ _ _ h => h) (Or.inl ⟨by rfl, fun w hSw => by go_simp⟩) (by assumption) ?_
          simp only [Act.put, List.setIfInBounds_toArray, List.set_cons_zero, List.set_cons_succ]
          refine wpAnyH_ready (rs := [7]) (by kernel_rfl) (by simp) (AllReadyH.cons (o := { dst := some 44, op := Op.call { callee := Callee.builtin Builtin.copy, args := #[Operand.tmp 40, Operand.tmp 43], argTypes := #[53, 53] }, type := 3, pos := "l7_head.go:172", after := #[{ on := 3, ground := Ground.data }, { on := 6, ground := Ground.data }], guard := none }) rfl ?_ AllReadyH.nil)
          intro K7 hK7
          refine step_copy_splice rfl (.tmp 40) (.tmp 43) 53 53 rfl 9 Try.underlying53 sizeT (some ⟨g3, k + 1, none⟩) (some ⟨g3, k, none⟩) (m + 1 - (k + 1)) (c3 - (k + 1)) (m + 1 - k) (c3 - k) rfl rfl g3 (k + 1) cur.toList 9 (by rw [Array.toArray_toList]; exact HG3.out) ((D.drop k).map encStr) (by rw [HDL.out]; show _ = min _ _; omega) (fun hp => ⟨rfl, ⟨g3, k, none⟩, rfl, src_at HG3.out HN.out HCT.out⟩) (by rw [HDL.out, Array.length_toList, HCS.out]; omega) (by intro v hv; obtain ⟨x, _, rfl⟩ := List.mem_map.1 hv; rfl) base w HB3.out.drew hb3 ?_
          intro w4 HG4 hb4
          refine hK7.out _ _ trivial (fun _ => ?_)
          clear hK7 K7
          refine wpAnyH_done (by kernel_rfl) ?_ _
          have HB4 := hid hb4
          have hsl : k < (splice cur.toList (k + 1) ((D.drop k).map encStr)).length := by rw [length_splice _ _ _ (by rw [HDL.out, Array.length_toList, HCS.out]; omega), Array.length_toList, HCS.out]; omega
          obtain ⟨x4, hx4⟩ := cell_some HG4.out hsl
          have fz4 := cell_frz (k := k) HG4.out
          have HR4 := hid (put_row (s := s.data.toList) HG4.out hb3 HN.out hk HCT.out hmc hcx (by rw [Array.length_toList]; exact HCS.out))
          clear hb4 HG4 hsl hHeld j7
          go_wp2
          go_ret
          refine ⟨_, _, _, rfl, ?_, HB4.out.setCell hb3 _⟩
          have := HR4.out
          rw [enc_s] at this
          rw [HE.out]
          exact this
        · exact absurd hcap (by omega)
    · have HE := hid (ins_new (s := s.data.toList) HU.out (by rw [HN.out]; exact hk) (fun h => by have := HN.out; omega))
      have i1 : ¬ (k : Int) < (m : Int) := by omega
      go_wp2_with (at_builtin; refine wpList_append_own _ rfl (.tmp 34) (.tmp 35) 53 rfl base 9 i0 (.string ByteArray.empty) 1 16 Try.underlying53 hi hz0 hz1 hz2 rfl (by decide) _ _ _ rfl (HO1.out.alloc _) ⟨wr.heap.size, 0, none⟩ 1 1 [.string ByteArray.empty] rfl rfl ?d1 ?d2 ?d3 ?d4 ?d5 ?_)
      case d1 => first | exact one_new wr _ _ | exact fun j u h => h
      case d2 => first | (intro u hu; simp at hu; subst hu; rfl) | rfl
      case d3 => unfold maxLen; omega
      case d4 => omega
      case d5 => have := HB.out; have := HB1.out.size; simp; omega
      intro v3 w3 hown3 hgr3 _
      obtain ⟨a3, c3, rfl⟩ := own_form hown3
      have HB3 := hid ((HB1.out.alloc (by have := HB.out; have := HB1.out.size; omega) (.cells #[.string ByteArray.empty] 9)).grown hgr3 (by have := HB.out; have := HB1.out.size; simp; omega) (fun j hj => (HO1.out.lt j hj).1))
      obtain ⟨g3, cur, rfl, hb3, hg3, hmc, hcx, hcs, hct⟩ : ∃ g cur, a3 = some ⟨g, 0, none⟩ ∧ base ≤ g ∧ w3.heap[g]? = some (.cells cur 9 (0, 0)) ∧ m + 1 ≤ c3 ∧ c3 ≤ maxLen ∧ cur.size = c3 ∧ cur.toList.take (m + 1) = D.map encStr ++ [.string ByteArray.empty] := by
        rcases hown3.2 with ⟨_, h2⟩ | ⟨g, cap, cur, h1, h2, h3, h4, h5, h6, h7⟩
        · omega
        · cases h1
          exact ⟨g, cur, rfl, h2, h3, h4, h5, by simpa using h6, by simpa using h7⟩
      have HG3 := hid hg3
      have HCS := hid hcs
      have HCT := hid hct
      have hcx2 : c3 ≤ 9223372036854775807 := hcx
      have j1 : (k : Int) + 1 ≤ (m : Int) + 1 := by omega
      have j2 : (m : Int) + 1 ≤ (c3 : Int) := by omega
      have j3 : (k : Int) ≤ (m : Int) + 1 := by omega
      have HDL : Hid (((D.drop k).map encStr).length = m - k) := by unfold Hid; simp [HN.out]
      clear hown3 hgr3 hg3 hcs hct
      by_cases hcap : k + 1 < c3
      · have j7 : ¬ c3 = k + 1 := by omega
        have j5 : IntKind.i64.wrap ((k : Int) + 1) = (k : Int) + 1 := by rw [IntKind.wrap_i64]; omega
        have j6 : ((k : Int) + 1).toNat = k + 1 := by omega
        have j9 : (0 : Int) ≤ (k : Int) + 1 := by omega
        have j8 : ¬ c3 = k := by omega
        go_wp2_with fail
        refine wp_region_held_drew (S := fun _ => True) rfl trivial (fun hHeld => ?_)
        refine wpAnyH_take (i := 0) (oi := { dst := some 37, op := Op.move (Operand.tmp 0), type := 53, pos := "l7_head.go:172", after := #[], guard := none }) (v := .slice (some ⟨g3, 0, none⟩) (m + 1) c3) rfl (by kernel_rfl) (by kernel_rfl) (by kernel_rfl) (fun _ _ _ h => h) (Or.inl ⟨by rfl, fun w hSw => by go_simp⟩) (by assumption) ?_
        simp only [Act.put, List.setIfInBounds_toArray, List.set_cons_zero, List.set_cons_succ]
        refine wpAnyH_take (i := 1) (oi := { dst := some 38, op := Op.move (Operand.tmp 5), type := 3, pos := "l7_head.go:172", after := #[], guard := none }) (v := .int .i64 (k : Int)) rfl (by kernel_rfl) (by kernel_rfl) (by kernel_rfl) (fun _ _ _ h => h) (Or.inl ⟨by rfl, fun w hSw => by go_simp⟩) (by assumption) ?_
        simp only [Act.put, List.setIfInBounds_toArray, List.set_cons_zero, List.set_cons_succ]
        refine wpAnyH_take (i := 2) (oi := { dst := some 39, op := Op.binOp BinOp.add 3 (Operand.tmp 38) (Operand.const (Value.int IntKind.i64 1)) 3, type := 3, pos := "l7_head.go:172", after := #[{ on := 1, ground := Ground.data }], guard := none }) (v := .int .i64 ((k : Int) + 1)) rfl (by kernel_rfl) (by kernel_rfl) (by kernel_rfl) (fun _ _ _ h => h) (Or.inl ⟨by rfl, fun w hSw => by go_simp⟩) (by assumption) ?_
        simp only [Act.put, List.setIfInBounds_toArray, List.set_cons_zero, List.set_cons_succ]
        refine wpAnyH_take (i := 3) (oi := { dst := some 40, op := Op.slice 53 (Operand.tmp 37) (some (Operand.tmp 39)) none none, type := 53, pos := "l7_head.go:172", after := #[{ on := 0, ground := Ground.data }, { on := 2, ground := Ground.data }], guard := none }) (v := .slice (some ⟨g3, k + 1, none⟩) (m + 1 - (k + 1)) (c3 - (k + 1))) rfl (by kernel_rfl) (by kernel_rfl) (by kernel_rfl) (fun _ _ _ h => h) (Or.inl ⟨by rfl, fun w hSw => by go_simp⟩) (by assumption) ?_
        simp only [Act.put, List.setIfInBounds_toArray, List.set_cons_zero, List.set_cons_succ]
        refine wpAnyH_take (i := 4) (oi := { dst := some 41, op := Op.move (Operand.tmp 0), type := 53, pos := "l7_head.go:172", after := #[], guard := none }) (v := .slice (some ⟨g3, 0, none⟩) (m + 1) c3) rfl (by kernel_rfl) (by kernel_rfl) (by kernel_rfl) (fun _ _ _ h => h) (Or.inl ⟨by rfl, fun w hSw => by go_simp⟩) (by assumption) ?_
        simp only [Act.put, List.setIfInBounds_toArray, List.set_cons_zero, List.set_cons_succ]
        refine wpAnyH_take (i := 5) (oi := { dst := some 42, op := Op.move (Operand.tmp 5), type := 3, pos := "l7_head.go:172", after := #[], guard := none }) (v := .int .i64 (k : Int)) rfl (by kernel_rfl) (by kernel_rfl) (by kernel_rfl) (fun _ _ _ h => h) (Or.inl ⟨by rfl, fun w hSw => by go_simp⟩) (by assumption) ?_
        simp only [Act.put, List.setIfInBounds_toArray, List.set_cons_zero, List.set_cons_succ]
        refine wpAnyH_take (i := 6) (oi := { dst := some 43, op := Op.slice 53 (Operand.tmp 41) (some (Operand.tmp 42)) none none, type := 53, pos := "l7_head.go:172", after := #[{ on := 4, ground := Ground.data }, { on := 5, ground := Ground.data }], guard := none }) (v := .slice (some ⟨g3, k, none⟩) (m + 1 - k) (c3 - k)) rfl (by kernel_rfl) (by kernel_rfl) (by kernel_rfl) (fun _ _ _ h => h) (Or.inl ⟨by rfl, fun w hSw => by go_simp⟩) (by assumption) ?_
        simp only [Act.put, List.setIfInBounds_toArray, List.set_cons_zero, List.set_cons_succ]
        refine wpAnyH_ready (rs := [7]) (by kernel_rfl) (by simp) (AllReadyH.cons (o := { dst := some 44, op := Op.call { callee := Callee.builtin Builtin.copy, args := #[Operand.tmp 40, Operand.tmp 43], argTypes := #[53, 53] }, type := 3, pos := "l7_head.go:172", after := #[{ on := 3, ground := Ground.data }, { on := 6, ground := Ground.data }], guard := none }) rfl ?_ AllReadyH.nil)
        intro K7 hK7
        refine step_copy_splice rfl (.tmp 40) (.tmp 43) 53 53 rfl 9 Try.underlying53 sizeT (some ⟨g3, k + 1, none⟩) (some ⟨g3, k, none⟩) (m + 1 - (k + 1)) (c3 - (k + 1)) (m + 1 - k) (c3 - k) rfl rfl g3 (k + 1) cur.toList 9 (by rw [Array.toArray_toList]; exact HG3.out) ((D.drop k).map encStr) (by rw [HDL.out]; show _ = min _ _; omega) (fun hp => ⟨rfl, ⟨g3, k, none⟩, rfl, src_at HG3.out HN.out HCT.out⟩) (by rw [HDL.out, Array.length_toList, HCS.out]; omega) (by intro v hv; obtain ⟨x, _, rfl⟩ := List.mem_map.1 hv; rfl) base w HB3.out.drew hb3 ?_
        intro w4 HG4 hb4
        refine hK7.out _ _ trivial (fun _ => ?_)
        clear hK7 K7
        refine wpAnyH_done (by kernel_rfl) ?_ _
        have HB4 := hid hb4
        have hsl : k < (splice cur.toList (k + 1) ((D.drop k).map encStr)).length := by rw [length_splice _ _ _ (by rw [HDL.out, Array.length_toList, HCS.out]; omega), Array.length_toList, HCS.out]; omega
        obtain ⟨x4, hx4⟩ := cell_some HG4.out hsl
        have fz4 := cell_frz (k := k) HG4.out
        have HR4 := hid (put_row (s := s.data.toList) HG4.out hb3 HN.out hk HCT.out hmc hcx (by rw [Array.length_toList]; exact HCS.out))
        clear hb4 HG4 hsl hHeld j7
        go_wp2
        go_ret
        refine ⟨_, _, _, rfl, ?_, HB4.out.setCell hb3 _⟩
        have := HR4.out
        rw [enc_s] at this
        rw [HE.out]
        exact this
      · have j7 : c3 = k + 1 := by omega
        have j5 : IntKind.i64.wrap ((k : Int) + 1) = (k : Int) + 1 := by rw [IntKind.wrap_i64]; omega
        have j6 : ((k : Int) + 1).toNat = k + 1 := by omega
        have j9 : (0 : Int) ≤ (k : Int) + 1 := by omega
        have j8 : ¬ c3 = k := by omega
        go_wp2_with fail
        refine wp_region_held_drew (S := fun _ => True) rfl trivial (fun hHeld => ?_)
        refine wpAnyH_take (i := 0) (oi := { dst := some 37, op := Op.move (Operand.tmp 0), type := 53, pos := "l7_head.go:172", after := #[], guard := none }) (v := .slice (some ⟨g3, 0, none⟩) (m + 1) c3) rfl (by kernel_rfl) (by kernel_rfl) (by kernel_rfl) (fun _ _ _ h => h) (Or.inl ⟨by rfl, fun w hSw => by go_simp⟩) (by assumption) ?_
        simp only [Act.put, List.setIfInBounds_toArray, List.set_cons_zero, List.set_cons_succ]
        refine wpAnyH_take (i := 1) (oi := { dst := some 38, op := Op.move (Operand.tmp 5), type := 3, pos := "l7_head.go:172", after := #[], guard := none }) (v := .int .i64 (k : Int)) rfl (by kernel_rfl) (by kernel_rfl) (by kernel_rfl) (fun _ _ _ h => h) (Or.inl ⟨by rfl, fun w hSw => by go_simp⟩) (by assumption) ?_
        simp only [Act.put, List.setIfInBounds_toArray, List.set_cons_zero, List.set_cons_succ]
        refine wpAnyH_take (i := 2) (oi := { dst := some 39, op := Op.binOp BinOp.add 3 (Operand.tmp 38) (Operand.const (Value.int IntKind.i64 1)) 3, type := 3, pos := "l7_head.go:172", after := #[{ on := 1, ground := Ground.data }], guard := none }) (v := .int .i64 ((k : Int) + 1)) rfl (by kernel_rfl) (by kernel_rfl) (by kernel_rfl) (fun _ _ _ h => h) (Or.inl ⟨by rfl, fun w hSw => by go_simp⟩) (by assumption) ?_
        simp only [Act.put, List.setIfInBounds_toArray, List.set_cons_zero, List.set_cons_succ]
        refine wpAnyH_take (i := 3) (oi := { dst := some 40, op := Op.slice 53 (Operand.tmp 37) (some (Operand.tmp 39)) none none, type := 53, pos := "l7_head.go:172", after := #[{ on := 0, ground := Ground.data }, { on := 2, ground := Ground.data }], guard := none }) (v := .slice (some ⟨g3, 0, none⟩) (m + 1 - (k + 1)) (c3 - (k + 1))) rfl (by kernel_rfl) (by kernel_rfl) (by kernel_rfl) (fun _ _ _ h => h) (Or.inl ⟨by rfl, fun w hSw => by go_simp⟩) (by assumption) ?_
        simp only [Act.put, List.setIfInBounds_toArray, List.set_cons_zero, List.set_cons_succ]
        refine wpAnyH_take (i := 4) (oi := { dst := some 41, op := Op.move (Operand.tmp 0), type := 53, pos := "l7_head.go:172", after := #[], guard := none }) (v := .slice (some ⟨g3, 0, none⟩) (m + 1) c3) rfl (by kernel_rfl) (by kernel_rfl) (by kernel_rfl) (fun _ _ _ h => h) (Or.inl ⟨by rfl, fun w hSw => by go_simp⟩) (by assumption) ?_
        simp only [Act.put, List.setIfInBounds_toArray, List.set_cons_zero, List.set_cons_succ]
        refine wpAnyH_take (i := 5) (oi := { dst := some 42, op := Op.move (Operand.tmp 5), type := 3, pos := "l7_head.go:172", after := #[], guard := none }) (v := .int .i64 (k : Int)) rfl (by kernel_rfl) (by kernel_rfl) (by kernel_rfl) (fun _ _ _ h => h) (Or.inl ⟨by rfl, fun w hSw => by go_simp⟩) (by assumption) ?_
        simp only [Act.put, List.setIfInBounds_toArray, List.set_cons_zero, List.set_cons_succ]
        refine wpAnyH_take (i := 6) (oi := { dst := some 43, op := Op.slice 53 (Operand.tmp 41) (some (Operand.tmp 42)) none none, type := 53, pos := "l7_head.go:172", after := #[{ on := 4, ground := Ground.data }, { on := 5, ground := Ground.data }], guard := none }) (v := .slice (some ⟨g3, k, none⟩) (m + 1 - k) (c3 - k)) rfl (by kernel_rfl) (by kernel_rfl) (by kernel_rfl) (fun _ _ _ h => h) (Or.inl ⟨by rfl, fun w hSw => by go_simp⟩) (by assumption) ?_
        simp only [Act.put, List.setIfInBounds_toArray, List.set_cons_zero, List.set_cons_succ]
        refine wpAnyH_ready (rs := [7]) (by kernel_rfl) (by simp) (AllReadyH.cons (o := { dst := some 44, op := Op.call { callee := Callee.builtin Builtin.copy, args := #[Operand.tmp 40, Operand.tmp 43], argTypes := #[53, 53] }, type := 3, pos := "l7_head.go:172", after := #[{ on := 3, ground := Ground.data }, { on := 6, ground := Ground.data }], guard := none }) rfl ?_ AllReadyH.nil)
        intro K7 hK7
        refine step_copy_splice rfl (.tmp 40) (.tmp 43) 53 53 rfl 9 Try.underlying53 sizeT (some ⟨g3, 0, none⟩) (some ⟨g3, k, none⟩) (m + 1 - (k + 1)) (c3 - (k + 1)) (m + 1 - k) (c3 - k) rfl rfl g3 (k + 1) cur.toList 9 (by rw [Array.toArray_toList]; exact HG3.out) ((D.drop k).map encStr) (by rw [HDL.out]; show _ = min _ _; omega) (fun hp => absurd hp (by rw [HDL.out]; omega)) (by rw [HDL.out, Array.length_toList, HCS.out]; omega) (by intro v hv; obtain ⟨x, _, rfl⟩ := List.mem_map.1 hv; rfl) base w HB3.out.drew hb3 ?_
        intro w4 HG4 hb4
        refine hK7.out _ _ trivial (fun _ => ?_)
        clear hK7 K7
        refine wpAnyH_done (by kernel_rfl) ?_ _
        have HB4 := hid hb4
        have hsl : k < (splice cur.toList (k + 1) ((D.drop k).map encStr)).length := by rw [length_splice _ _ _ (by rw [HDL.out, Array.length_toList, HCS.out]; omega), Array.length_toList, HCS.out]; omega
        obtain ⟨x4, hx4⟩ := cell_some HG4.out hsl
        have fz4 := cell_frz (k := k) HG4.out
        have HR4 := hid (put_row (s := s.data.toList) HG4.out hb3 HN.out hk HCT.out hmc hcx (by rw [Array.length_toList]; exact HCS.out))
        clear hb4 HG4 hsl hHeld j7
        go_wp2
        go_ret
        refine ⟨_, _, _, rfl, ?_, HB4.out.setCell hb3 _⟩
        have := HR4.out
        rw [enc_s] at this
        rw [HE.out]
        exact this
end Go.Proofs.Ytnhikdlhjdjmdaa.Val
