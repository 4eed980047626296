/- The model's l16Sorted: numbers put in one after the other. -/
import Derived.Test.YtilfelkbmmaabaaEvb
import Derived.Test.YtilfelkbmmaabaaEvm
import Derived.Test.YtilfelkbmmaabaaIno
namespace Go.Proofs.Ytilfelkbmmaabaa.Quo
open Go.RowKit
open Go.Proofs.Ytilfelkbmmaabaa.Ino (Has)

/-- A row of ints of the call's own. -/
abbrev Row (w : World) (base : Nat) (a : Option Addr) (m c : Nat) (D : List Int) : Prop := w.ownsRow base 3 1 (.slice a m c) m (D.map (Value.int .i64))
theorem row_len {w : World} {base m c : Nat} {a : Option Addr} {D : List Int} (h : Row w base a m c D) : D.length = m := by have := h.1; simpa using this
theorem row_at {w : World} {base m c : Nat} {a : Option Addr} {D : List Int} (h : Row w base a m c D) (k : Nat) (hk : k < m) : ∃ g, a = some ⟨g, 0, none⟩ ∧ g < w.heap.size ∧ base ≤ g ∧ w.cell? ⟨g, k, none⟩ = some (.int .i64 (D.getD k 0)) := by
  have hl : D.length = m := row_len h
  rcases h.2 with ⟨_, h2⟩ | ⟨g, cap, cur, h1, _⟩
  · omega
  · cases h1
    have h2 := h.lt g rfl
    refine ⟨g, rfl, h2.2, h2.1, ?_⟩
    rw [h.cellAt k (by omega)]
    simp [hl, hk]
theorem own_form {w : World} {base e size n : Nat} {v : Value} {xs : List Value} (h : w.ownsRow base e size v n xs) : ∃ a c, v = .slice a n c := by
  rcases h.2 with ⟨h1, h2⟩ | ⟨g, cap, cur, h1, _⟩
  · exact ⟨none, 0, by rw [h1, h2]⟩
  · exact ⟨_, _, h1⟩
theorem one_new (w : World) (v : Value) (t : TypeId) : ∀ j u, ([v] : List Value)[j]? = some u → (w.alloc (.cells #[v] t)).cell? ((⟨w.heap.size, 0, none⟩ : Addr).add j) = some u := by
  intro j u h
  cases j with
  | zero =>
    simp at h
    subst h
    have h := heap_alloc_new w (.cells #[v] t)
    show (w.alloc (.cells #[v] t)).cell? ⟨w.heap.size, 0, none⟩ = some v
    unfold World.cell?
    simp only [h]
    rfl
  | succ j => simp at h

theorem own_drew {w : World} {base e size n : Nat} {v : Value} {xs : List Value} (h : w.ownsRow base e size v n xs) : w.drew.ownsRow base e size v n xs := h
theorem src_at (S : List Int) (j : Nat) : ∀ i v, ((S.drop j).map (Value.int .i64))[i]? = some v → (S.map (Value.int .i64) ++ [.int .i64 0])[j + i]? = some v := by
  intro i v h
  have h1 := (List.getElem?_eq_some_iff.1 h).1
  simp only [List.length_map, List.length_drop] at h1
  rw [List.getElem?_append_left (by rw [List.length_map]; omega), List.getElem?_map]
  rw [List.getElem?_map, List.getElem?_drop] at h
  exact h
theorem ints_one (S : List Int) : ∀ v ∈ S.map (Value.int .i64), v.oneCell' = true := by
  intro v hv
  obtain ⟨x, _, rfl⟩ := List.mem_map.1 hv
  rfl
/-- What the row is behind the append, the copy and the store. -/
theorem put_at (S : List Int) (j : Nat) (x : Int) (hj : j ≤ S.length) :
    ((S.map (Value.int .i64) ++ [Value.int .i64 0]).take (j + 1) ++ (S.drop j).map (Value.int .i64) ++ (S.map (Value.int .i64) ++ [Value.int .i64 0]).drop (j + 1 + ((S.drop j).map (Value.int .i64)).length)).set j (.int .i64 x) = (S.take j ++ x :: S.drop j).map (Value.int .i64) := by
  have hl : j < (S.map (Value.int .i64) ++ [Value.int .i64 0]).length := by simp; omega
  have e0 : (S.map (Value.int .i64) ++ [Value.int .i64 0]).drop (j + 1 + ((S.drop j).map (Value.int .i64)).length) = [] := List.drop_eq_nil_of_le (by simp; omega)
  rw [e0, List.append_nil, List.take_succ_eq_append_getElem hl, List.take_append_of_le_length (by simpa using hj), List.append_assoc, List.set_append_right _ _ (by simp; omega), List.map_append, List.map_cons, List.map_take]
  have e : (S.map (Value.int .i64)).take j = ((S.take j).map (Value.int .i64)) := by rw [List.map_take]
  simp [Nat.min_eq_left hj]

set_option maxHeartbeats 4000000 in
set_option maxRecDepth 100000 in
theorem f21 (a : Option Addr) (n c : Nat) (zs : List Int) (w : World) (hn : zs.length = n) (hb : n ≤ 1048576) (hr : Has w a zs) :
    Calls Try.prog 21 #[.slice a n c] w fun e w' => ∃ a' c', e = .returned (.slice a' n c') ∧ Row w' w.heap.size a' n c' (srt zs) ∧ Below w.heap.size w w' := by
  obtain ⟨i0, hi, hz0, hz1, hz2⟩ := info_parts Ino.info3
  have HN := hid hn
  have HR := hid hr
  clear hn hr
  go_enter Try.func21, Try.ntmps21
  go_wp2
  go_loopw [3, 9] (fun o i wr => ∃ (k : Nat) (a' : Option Addr) (c' : Nat), k ≤ n ∧ i = .int .i64 k ∧ o = .slice a' k c' ∧ Hid (Row wr w.heap.size a' k c' (srt (zs.take k))) ∧ Hid (Below w.heap.size w wr)) (fun _ i _ => n - (intOf i).toNat)
  case atStart => exact ⟨0, none, 0, Nat.zero_le _, rfl, rfl, by show Row _ _ _ _ _ _; exact ⟨by simp [srt], .inl ⟨rfl, rfl⟩⟩, Below.refl _ _⟩
  case round =>
    obtain ⟨k, a1, c1, hk, rfl, rfl, HO, HX⟩ := hrel
    by_cases hlt : k < n
    rotate_left
    · obtain rfl : k = n := by omega
      have HE : Hid (Row wr w.heap.size a1 k c1 (srt zs)) := by
        have h := HO.out
        rw [List.take_of_length_le (by rw [HN.out]; exact Nat.le_refl _)] at h
        exact h
      go_wp2
      go_ret
      exact ⟨_, _, rfl, HE.out, HX.out⟩
    rcases HR.out with hr | ⟨b, off, rfl, hbl, hc⟩
    · exact absurd HN.out (by rw [hr]; simp; omega)
    have d0 : wr.cell? ⟨b, off + k, none⟩ = some (.int .i64 (zs.getD k 0)) := (HX.out.cell (by exact hbl)).trans (hc k (by rw [HN.out]; exact hlt))
    have HH : Hid (zs.take (k + 1) = zs.take k ++ [zs.getD k 0]) := by
      unfold Hid
      rw [List.take_succ_eq_append_getElem (by rw [HN.out]; exact hlt)]
      congr 2
      simp [HN.out, hlt]
    have HLk : Hid ((zs.take k).length = k) := by unfold Hid; rw [List.length_take, HN.out]; omega
    clear hc
    generalize zs.getD k 0 = x at *
    generalize hL : zs.take k = L at *
    have HLL := hid hL
    clear hL
    have i1 : (k : Int) < (n : Int) := by omega
    have HPut0 : Hid (∀ {j : Nat}, (j = 0 ∨ (srt L).getD (j - 1) 0 ≤ x) → (∀ m, j ≤ m → m < k → x < (srt L).getD m 0) → j ≤ k → (srt L).take j ++ x :: (srt L).drop j = srt (L ++ [x])) := by
      intro j h1 h2 h3
      exact srt_put (by rw [HLk.out]; exact h3) h1 (fun m hm hm2 => h2 m hm (by rw [HLk.out] at hm2; exact hm2))
    have HSL : Hid ((srt L).length = k) := (srt_len L).trans HLk.out
    generalize hS : srt L = S at *
    have HSS := hid hS
    clear hS
    go_wp2
    go_loopw [6] (fun i wq => ∃ j : Nat, j ≤ k ∧ i = .int .i64 j ∧ Hid (∀ m, j ≤ m → m < k → x < S.getD m 0) ∧ Hid (Row wq w.heap.size a1 k c1 S) ∧ Hid (Below w.heap.size w wq)) (fun i _ => (intOf i).toNat)
    case atStart => exact ⟨k, Nat.le_refl _, rfl, fun m h1 h2 => by omega, HO, HX⟩
    case round =>
      clear HO HX d0
      obtain ⟨j, hj, rfl, HU, HO, HX⟩ := hrel
      by_cases hj0 : j = 0
      · have HP : Hid (j = 0 ∨ S.getD (j - 1) 0 ≤ x) := .inl hj0
        have i2 : ¬ (j : Int) > 0 := by omega
        clear hj0
        have HPut := hid (HPut0.out HP.out HU.out hj)
        go_wp2_with (at_builtin; refine wpList_append_own _ rfl (.tmp 28) (.tmp 29) 23 rfl w.heap.size 3 i0 (.int .i64 0) 1 8 Try.underlying23 hi hz0 hz1 hz2 rfl (by decide) _ _ _ rfl (HO.out.alloc _) ⟨wr.heap.size, 0, none⟩ 1 1 [.int .i64 0] rfl rfl (one_new wr _ _) ?d2 ?d3 ?d4 ?d5 ?_)
        case d2 => first | (intro u hu; simp at hu; subst hu; rfl) | rfl
        case d3 => unfold maxLen; omega
        case d4 => omega
        case d5 => have := HX.out.size; simp; omega
        intro v3 w3 hown3 hgr3 _
        obtain ⟨a3, c3, rfl⟩ := own_form hown3
        have HB3 := hid ((HX.out.alloc (by have := HX.out.size; omega) (.cells #[.int .i64 0] 3)).grown hgr3 (by have := HX.out.size; simp; omega) (fun j hj => (HO.out.lt j hj).1))
        obtain ⟨g3, rfl, hg3l, hg3b, hkc, hcx⟩ : ∃ g, a3 = some ⟨g, 0, none⟩ ∧ g < w3.heap.size ∧ w.heap.size ≤ g ∧ k + 1 ≤ c3 ∧ c3 ≤ maxLen := by
          have hl := hown3.lt
          rcases hown3.2 with ⟨_, h2⟩ | ⟨g, cap, cur, h1, h2, h3, h4, h5, h6, h7⟩
          · omega
          · cases h1
            exact ⟨g, rfl, (hl g rfl).2, h2, h4, h5⟩
        have HR3 := hid hown3
        have HR3d := hid (own_drew hown3)
        have hcx2 : c3 ≤ 9223372036854775807 := hcx
        clear hown3 hgr3 hcx
        have j0 : (0 : Int) ≤ (j : Int) := by omega
        have j5 : IntKind.i64.wrap ((j : Int) + 1) = (j : Int) + 1 := by rw [IntKind.wrap_i64]; omega
        have j6 : ((j : Int) + 1).toNat = j + 1 := by omega
        have j9 : (0 : Int) ≤ (j : Int) + 1 := by omega
        have j8 : ¬ c3 = j := by omega
        have jA : (j : Int) ≤ (k : Int) + 1 := by omega
        have jB : (j : Int) + 1 ≤ (k : Int) + 1 := by omega
        have jC : j ≤ k + 1 := by omega
        have jD : j + 1 ≤ k + 1 := by omega
        have jE : (j : Int) ≤ (c3 : Int) := by omega
        have jF : (j : Int) + 1 ≤ (c3 : Int) := by omega
        have jG : (j : Int) < (k : Int) + 1 := by omega
        by_cases hcap : c3 = j + 1
        · go_wp2_with fail
          refine wp_region_held_drew (S := fun _ => True) rfl trivial (fun hHeld => ?_)
          refine wpAnyH_take (i := 0) (oi := { dst := some 31, op := _, type := _, pos := _, after := _, guard := _ }) (v := (.slice (some ⟨g3, 0, none⟩) (k + 1) c3)) rfl (by kernel_rfl) (by kernel_rfl) (by kernel_rfl) (fun _ _ _ h => h) (Or.inl ⟨by rfl, fun w hSw => by (try dsimp only at hSw); go_split_ands; go_simp⟩) (by assumption) ?_
          simp only [Act.put, List.setIfInBounds_toArray, List.set_cons_zero, List.set_cons_succ]
          refine wpAnyH_take (i := 1) (oi := { dst := some 32, op := _, type := _, pos := _, after := _, guard := _ }) (v := (.int .i64 (j : Int))) rfl (by kernel_rfl) (by kernel_rfl) (by kernel_rfl) (fun _ _ _ h => h) (Or.inl ⟨by rfl, fun w hSw => by (try dsimp only at hSw); go_split_ands; go_simp⟩) (by assumption) ?_
          simp only [Act.put, List.setIfInBounds_toArray, List.set_cons_zero, List.set_cons_succ]
          refine wpAnyH_take (i := 2) (oi := { dst := some 33, op := _, type := _, pos := _, after := _, guard := _ }) (v := (.int .i64 ((j : Int) + 1))) rfl (by kernel_rfl) (by kernel_rfl) (by kernel_rfl) (fun _ _ _ h => h) (Or.inl ⟨by rfl, fun w hSw => by (try dsimp only at hSw); go_split_ands; go_simp⟩) (by assumption) ?_
          simp only [Act.put, List.setIfInBounds_toArray, List.set_cons_zero, List.set_cons_succ]
          refine wpAnyH_take (i := 3) (oi := { dst := some 34, op := _, type := _, pos := _, after := _, guard := _ }) (v := (.slice (some ⟨g3, 0, none⟩) (k + 1 - (j + 1)) (c3 - (j + 1)))) rfl (by kernel_rfl) (by kernel_rfl) (by kernel_rfl) (fun _ _ _ h => h) (Or.inl ⟨by rfl, fun w hSw => by (try dsimp only at hSw); go_split_ands; go_simp⟩) (by assumption) ?_
          simp only [Act.put, List.setIfInBounds_toArray, List.set_cons_zero, List.set_cons_succ]
          refine wpAnyH_take (i := 4) (oi := { dst := some 35, op := _, type := _, pos := _, after := _, guard := _ }) (v := (.slice (some ⟨g3, 0, none⟩) (k + 1) c3)) rfl (by kernel_rfl) (by kernel_rfl) (by kernel_rfl) (fun _ _ _ h => h) (Or.inl ⟨by rfl, fun w hSw => by (try dsimp only at hSw); go_split_ands; go_simp⟩) (by assumption) ?_
          simp only [Act.put, List.setIfInBounds_toArray, List.set_cons_zero, List.set_cons_succ]
          refine wpAnyH_take (i := 5) (oi := { dst := some 36, op := _, type := _, pos := _, after := _, guard := _ }) (v := (.int .i64 (j : Int))) rfl (by kernel_rfl) (by kernel_rfl) (by kernel_rfl) (fun _ _ _ h => h) (Or.inl ⟨by rfl, fun w hSw => by (try dsimp only at hSw); go_split_ands; go_simp⟩) (by assumption) ?_
          simp only [Act.put, List.setIfInBounds_toArray, List.set_cons_zero, List.set_cons_succ]
          refine wpAnyH_take (i := 6) (oi := { dst := some 37, op := _, type := _, pos := _, after := _, guard := _ }) (v := (.slice (some ⟨g3, j, none⟩) (k + 1 - j) (c3 - j))) rfl (by kernel_rfl) (by kernel_rfl) (by kernel_rfl) (fun _ _ _ h => h) (Or.inl ⟨by rfl, fun w hSw => by (try dsimp only at hSw); go_split_ands; go_simp⟩) (by assumption) ?_
          simp only [Act.put, List.setIfInBounds_toArray, List.set_cons_zero, List.set_cons_succ]
          refine wpAnyH_ready (rs := [7]) (by kernel_rfl) (by simp) (AllReadyH.cons (o := { dst := some 38, op := _, type := _, pos := _, after := _, guard := _ }) rfl ?_ AllReadyH.nil)
          intro K7 hK7
          refine Cpy.step_copy_in rfl (.tmp 34) (.tmp 37) 23 23 rfl 3 i0 1 Try.underlying23 hi hz1 w.heap.size g3 (k + 1) c3 (S.map (Value.int .i64) ++ [.int .i64 0]) HR3d.out (some ⟨g3, 0, none⟩) (some ⟨g3, j, none⟩) (k + 1 - (j + 1)) (c3 - (j + 1)) (k + 1 - j) (c3 - j) rfl rfl (k - j) (j + 1) j (by show min _ _ = _; omega) ((S.drop j).map (Value.int .i64)) (by rw [List.length_map, List.length_drop, HSL.out]; omega) (fun h => by omega) (src_at S j) (by simp [HSL.out]; omega) (ints_one _) ?_
          intro w7 hown7 hgr7
          refine hK7.out _ _ trivial (fun _ => ?_)
          clear hK7 K7
          refine wpAnyH_done (by kernel_rfl) ?_ _
          have HB7 := hid ((HB3.out.trans (((Below.refl _ _).drew).mono HB3.out.size)).grown hgr7 (by have := HB3.out.size; simp; omega) (fun g e => by cases e; exact hg3b))
          obtain ⟨x7, hx7⟩ : ∃ x, w7.cell? ⟨g3, j, none⟩ = some x := ⟨_, (hown7.cellAt j (by omega)).trans (List.getElem?_eq_getElem (by have := hown7.1; omega))⟩
          have fz7 := hown7.frozenAt j
          have HS7 : Hid (Row (w7.setCell ⟨g3, j, none⟩ (.int .i64 x)) w.heap.size (some ⟨g3, 0, none⟩) (k + 1) c3 (S.take j ++ x :: S.drop j)) := by
            have h := (hown7.stored j (.int .i64 x)).1
            rw [put_at S j x (by rw [HSL.out]; exact hj)] at h
            exact h
          clear hown7 hgr7 hHeld HR3d HR3
          go_wp2
          go_roundw
          case rel => exact ⟨k + 1, _, _, by omega, by go_num, rfl, by unfold Hid; rw [HH.out, ← HPut.out]; have h := HS7.out; rw [hcap] at h; exact h, HB7.out.setCell hg3b _⟩
          case measure => simp [intOf]; omega
        · go_wp2_with fail
          refine wp_region_held_drew (S := fun _ => True) rfl trivial (fun hHeld => ?_)
          refine wpAnyH_take (i := 0) (oi := { dst := some 31, op := _, type := _, pos := _, after := _, guard := _ }) (v := (.slice (some ⟨g3, 0, none⟩) (k + 1) c3)) rfl (by kernel_rfl) (by kernel_rfl) (by kernel_rfl) (fun _ _ _ h => h) (Or.inl ⟨by rfl, fun w hSw => by (try dsimp only at hSw); go_split_ands; go_simp⟩) (by assumption) ?_
          simp only [Act.put, List.setIfInBounds_toArray, List.set_cons_zero, List.set_cons_succ]
          refine wpAnyH_take (i := 1) (oi := { dst := some 32, op := _, type := _, pos := _, after := _, guard := _ }) (v := (.int .i64 (j : Int))) rfl (by kernel_rfl) (by kernel_rfl) (by kernel_rfl) (fun _ _ _ h => h) (Or.inl ⟨by rfl, fun w hSw => by (try dsimp only at hSw); go_split_ands; go_simp⟩) (by assumption) ?_
          simp only [Act.put, List.setIfInBounds_toArray, List.set_cons_zero, List.set_cons_succ]
          refine wpAnyH_take (i := 2) (oi := { dst := some 33, op := _, type := _, pos := _, after := _, guard := _ }) (v := (.int .i64 ((j : Int) + 1))) rfl (by kernel_rfl) (by kernel_rfl) (by kernel_rfl) (fun _ _ _ h => h) (Or.inl ⟨by rfl, fun w hSw => by (try dsimp only at hSw); go_split_ands; go_simp⟩) (by assumption) ?_
          simp only [Act.put, List.setIfInBounds_toArray, List.set_cons_zero, List.set_cons_succ]
          refine wpAnyH_take (i := 3) (oi := { dst := some 34, op := _, type := _, pos := _, after := _, guard := _ }) (v := (.slice (some ⟨g3, j + 1, none⟩) (k + 1 - (j + 1)) (c3 - (j + 1)))) rfl (by kernel_rfl) (by kernel_rfl) (by kernel_rfl) (fun _ _ _ h => h) (Or.inl ⟨by rfl, fun w hSw => by (try dsimp only at hSw); go_split_ands; go_simp⟩) (by assumption) ?_
          simp only [Act.put, List.setIfInBounds_toArray, List.set_cons_zero, List.set_cons_succ]
          refine wpAnyH_take (i := 4) (oi := { dst := some 35, op := _, type := _, pos := _, after := _, guard := _ }) (v := (.slice (some ⟨g3, 0, none⟩) (k + 1) c3)) rfl (by kernel_rfl) (by kernel_rfl) (by kernel_rfl) (fun _ _ _ h => h) (Or.inl ⟨by rfl, fun w hSw => by (try dsimp only at hSw); go_split_ands; go_simp⟩) (by assumption) ?_
          simp only [Act.put, List.setIfInBounds_toArray, List.set_cons_zero, List.set_cons_succ]
          refine wpAnyH_take (i := 5) (oi := { dst := some 36, op := _, type := _, pos := _, after := _, guard := _ }) (v := (.int .i64 (j : Int))) rfl (by kernel_rfl) (by kernel_rfl) (by kernel_rfl) (fun _ _ _ h => h) (Or.inl ⟨by rfl, fun w hSw => by (try dsimp only at hSw); go_split_ands; go_simp⟩) (by assumption) ?_
          simp only [Act.put, List.setIfInBounds_toArray, List.set_cons_zero, List.set_cons_succ]
          refine wpAnyH_take (i := 6) (oi := { dst := some 37, op := _, type := _, pos := _, after := _, guard := _ }) (v := (.slice (some ⟨g3, j, none⟩) (k + 1 - j) (c3 - j))) rfl (by kernel_rfl) (by kernel_rfl) (by kernel_rfl) (fun _ _ _ h => h) (Or.inl ⟨by rfl, fun w hSw => by (try dsimp only at hSw); go_split_ands; go_simp⟩) (by assumption) ?_
          simp only [Act.put, List.setIfInBounds_toArray, List.set_cons_zero, List.set_cons_succ]
          refine wpAnyH_ready (rs := [7]) (by kernel_rfl) (by simp) (AllReadyH.cons (o := { dst := some 38, op := _, type := _, pos := _, after := _, guard := _ }) rfl ?_ AllReadyH.nil)
          intro K7 hK7
          refine Cpy.step_copy_in rfl (.tmp 34) (.tmp 37) 23 23 rfl 3 i0 1 Try.underlying23 hi hz1 w.heap.size g3 (k + 1) c3 (S.map (Value.int .i64) ++ [.int .i64 0]) HR3d.out (some ⟨g3, j + 1, none⟩) (some ⟨g3, j, none⟩) (k + 1 - (j + 1)) (c3 - (j + 1)) (k + 1 - j) (c3 - j) rfl rfl (k - j) (j + 1) j (by show min _ _ = _; omega) ((S.drop j).map (Value.int .i64)) (by rw [List.length_map, List.length_drop, HSL.out]; omega) (fun _ => ⟨rfl, rfl⟩) (src_at S j) (by simp [HSL.out]; omega) (ints_one _) ?_
          intro w7 hown7 hgr7
          refine hK7.out _ _ trivial (fun _ => ?_)
          clear hK7 K7
          refine wpAnyH_done (by kernel_rfl) ?_ _
          have HB7 := hid ((HB3.out.trans (((Below.refl _ _).drew).mono HB3.out.size)).grown hgr7 (by have := HB3.out.size; simp; omega) (fun g e => by cases e; exact hg3b))
          obtain ⟨x7, hx7⟩ : ∃ x, w7.cell? ⟨g3, j, none⟩ = some x := ⟨_, (hown7.cellAt j (by omega)).trans (List.getElem?_eq_getElem (by have := hown7.1; omega))⟩
          have fz7 := hown7.frozenAt j
          have HS7 : Hid (Row (w7.setCell ⟨g3, j, none⟩ (.int .i64 x)) w.heap.size (some ⟨g3, 0, none⟩) (k + 1) c3 (S.take j ++ x :: S.drop j)) := by
            have h := (hown7.stored j (.int .i64 x)).1
            rw [put_at S j x (by rw [HSL.out]; exact hj)] at h
            exact h
          clear hown7 hgr7 hHeld HR3d HR3
          go_wp2
          go_roundw
          case rel => exact ⟨k + 1, _, _, by omega, by go_num, rfl, by unfold Hid; rw [HH.out, ← HPut.out]; exact HS7.out, HB7.out.setCell hg3b _⟩
          case measure => simp [intOf]; omega
      · obtain ⟨g, rfl, hgl, hgb, c0⟩ := row_at HO.out (j - 1) (by omega)
        have i2 : (j : Int) > 0 := by omega
        have i3 : IntKind.i64.wrap ((j : Int) - 1) = (j : Int) - 1 := by rw [IntKind.wrap_i64]; omega
        have i4 : ((j : Int) - 1).toNat = j - 1 := by omega
        have i5 : (j : Int) - 1 < (k : Int) := by omega
        have i6 : (0 : Int) ≤ (j : Int) - 1 := by omega
        by_cases hgt : S.getD (j - 1) 0 > x
        · have HU2 : Hid (∀ m, j - 1 ≤ m → m < k → x < S.getD m 0) := by
            intro m h1 h2
            by_cases e : m = j - 1
            · rw [e]; exact hgt
            · exact HU.out m (by omega) h2
          generalize S.getD (j - 1) 0 = y at c0 hgt
          go_wp2
          go_roundw
          case rel => exact ⟨j - 1, by omega, by go_num, HU2, HO, HX⟩
          case measure => simp [intOf]; omega
        · have HP : Hid (j = 0 ∨ S.getD (j - 1) 0 ≤ x) := .inr (by omega)
          generalize S.getD (j - 1) 0 = y at c0 hgt
          have HPut := hid (HPut0.out HP.out HU.out hj)
          go_wp2_with (at_builtin; refine wpList_append_own _ rfl (.tmp 28) (.tmp 29) 23 rfl w.heap.size 3 i0 (.int .i64 0) 1 8 Try.underlying23 hi hz0 hz1 hz2 rfl (by decide) _ _ _ rfl (HO.out.alloc _) ⟨wr.heap.size, 0, none⟩ 1 1 [.int .i64 0] rfl rfl (one_new wr _ _) ?d2 ?d3 ?d4 ?d5 ?_)
          case d2 => first | (intro u hu; simp at hu; subst hu; rfl) | rfl
          case d3 => unfold maxLen; omega
          case d4 => omega
          case d5 => have := HX.out.size; simp; omega
          intro v3 w3 hown3 hgr3 _
          obtain ⟨a3, c3, rfl⟩ := own_form hown3
          have HB3 := hid ((HX.out.alloc (by have := HX.out.size; omega) (.cells #[.int .i64 0] 3)).grown hgr3 (by have := HX.out.size; simp; omega) (fun j hj => (HO.out.lt j hj).1))
          obtain ⟨g3, rfl, hg3l, hg3b, hkc, hcx⟩ : ∃ g, a3 = some ⟨g, 0, none⟩ ∧ g < w3.heap.size ∧ w.heap.size ≤ g ∧ k + 1 ≤ c3 ∧ c3 ≤ maxLen := by
            have hl := hown3.lt
            rcases hown3.2 with ⟨_, h2⟩ | ⟨g, cap, cur, h1, h2, h3, h4, h5, h6, h7⟩
            · omega
            · cases h1
              exact ⟨g, rfl, (hl g rfl).2, h2, h4, h5⟩
          have HR3 := hid hown3
          have HR3d := hid (own_drew hown3)
          have hcx2 : c3 ≤ 9223372036854775807 := hcx
          clear hown3 hgr3 hcx
          have j0 : (0 : Int) ≤ (j : Int) := by omega
          have j5 : IntKind.i64.wrap ((j : Int) + 1) = (j : Int) + 1 := by rw [IntKind.wrap_i64]; omega
          have j6 : ((j : Int) + 1).toNat = j + 1 := by omega
          have j9 : (0 : Int) ≤ (j : Int) + 1 := by omega
          have j8 : ¬ c3 = j := by omega
          have jA : (j : Int) ≤ (k : Int) + 1 := by omega
          have jB : (j : Int) + 1 ≤ (k : Int) + 1 := by omega
          have jC : j ≤ k + 1 := by omega
          have jD : j + 1 ≤ k + 1 := by omega
          have jE : (j : Int) ≤ (c3 : Int) := by omega
          have jF : (j : Int) + 1 ≤ (c3 : Int) := by omega
          have jG : (j : Int) < (k : Int) + 1 := by omega
          by_cases hcap : c3 = j + 1
          · go_wp2_with fail
            refine wp_region_held_drew (S := fun _ => True) rfl trivial (fun hHeld => ?_)
            refine wpAnyH_take (i := 0) (oi := { dst := some 31, op := _, type := _, pos := _, after := _, guard := _ }) (v := (.slice (some ⟨g3, 0, none⟩) (k + 1) c3)) rfl (by kernel_rfl) (by kernel_rfl) (by kernel_rfl) (fun _ _ _ h => h) (Or.inl ⟨by rfl, fun w hSw => by (try dsimp only at hSw); go_split_ands; go_simp⟩) (by assumption) ?_
            simp only [Act.put, List.setIfInBounds_toArray, List.set_cons_zero, List.set_cons_succ]
            refine wpAnyH_take (i := 1) (oi := { dst := some 32, op := _, type := _, pos := _, after := _, guard := _ }) (v := (.int .i64 (j : Int))) rfl (by kernel_rfl) (by kernel_rfl) (by kernel_rfl) (fun _ _ _ h => h) (Or.inl ⟨by rfl, fun w hSw => by (try dsimp only at hSw); go_split_ands; go_simp⟩) (by assumption) ?_
            simp only [Act.put, List.setIfInBounds_toArray, List.set_cons_zero, List.set_cons_succ]
            refine wpAnyH_take (i := 2) (oi := { dst := some 33, op := _, type := _, pos := _, after := _, guard := _ }) (v := (.int .i64 ((j : Int) + 1))) rfl (by kernel_rfl) (by kernel_rfl) (by kernel_rfl) (fun _ _ _ h => h) (Or.inl ⟨by rfl, fun w hSw => by (try dsimp only at hSw); go_split_ands; go_simp⟩) (by assumption) ?_
            simp only [Act.put, List.setIfInBounds_toArray, List.set_cons_zero, List.set_cons_succ]
            refine wpAnyH_take (i := 3) (oi := { dst := some 34, op := _, type := _, pos := _, after := _, guard := _ }) (v := (.slice (some ⟨g3, 0, none⟩) (k + 1 - (j + 1)) (c3 - (j + 1)))) rfl (by kernel_rfl) (by kernel_rfl) (by kernel_rfl) (fun _ _ _ h => h) (Or.inl ⟨by rfl, fun w hSw => by (try dsimp only at hSw); go_split_ands; go_simp⟩) (by assumption) ?_
            simp only [Act.put, List.setIfInBounds_toArray, List.set_cons_zero, List.set_cons_succ]
            refine wpAnyH_take (i := 4) (oi := { dst := some 35, op := _, type := _, pos := _, after := _, guard := _ }) (v := (.slice (some ⟨g3, 0, none⟩) (k + 1) c3)) rfl (by kernel_rfl) (by kernel_rfl) (by kernel_rfl) (fun _ _ _ h => h) (Or.inl ⟨by rfl, fun w hSw => by (try dsimp only at hSw); go_split_ands; go_simp⟩) (by assumption) ?_
            simp only [Act.put, List.setIfInBounds_toArray, List.set_cons_zero, List.set_cons_succ]
            refine wpAnyH_take (i := 5) (oi := { dst := some 36, op := _, type := _, pos := _, after := _, guard := _ }) (v := (.int .i64 (j : Int))) rfl (by kernel_rfl) (by kernel_rfl) (by kernel_rfl) (fun _ _ _ h => h) (Or.inl ⟨by rfl, fun w hSw => by (try dsimp only at hSw); go_split_ands; go_simp⟩) (by assumption) ?_
            simp only [Act.put, List.setIfInBounds_toArray, List.set_cons_zero, List.set_cons_succ]
            refine wpAnyH_take (i := 6) (oi := { dst := some 37, op := _, type := _, pos := _, after := _, guard := _ }) (v := (.slice (some ⟨g3, j, none⟩) (k + 1 - j) (c3 - j))) rfl (by kernel_rfl) (by kernel_rfl) (by kernel_rfl) (fun _ _ _ h => h) (Or.inl ⟨by rfl, fun w hSw => by (try dsimp only at hSw); go_split_ands; go_simp⟩) (by assumption) ?_
            simp only [Act.put, List.setIfInBounds_toArray, List.set_cons_zero, List.set_cons_succ]
            refine wpAnyH_ready (rs := [7]) (by kernel_rfl) (by simp) (AllReadyH.cons (o := { dst := some 38, op := _, type := _, pos := _, after := _, guard := _ }) rfl ?_ AllReadyH.nil)
            intro K7 hK7
            refine Cpy.step_copy_in rfl (.tmp 34) (.tmp 37) 23 23 rfl 3 i0 1 Try.underlying23 hi hz1 w.heap.size g3 (k + 1) c3 (S.map (Value.int .i64) ++ [.int .i64 0]) HR3d.out (some ⟨g3, 0, none⟩) (some ⟨g3, j, none⟩) (k + 1 - (j + 1)) (c3 - (j + 1)) (k + 1 - j) (c3 - j) rfl rfl (k - j) (j + 1) j (by show min _ _ = _; omega) ((S.drop j).map (Value.int .i64)) (by rw [List.length_map, List.length_drop, HSL.out]; omega) (fun h => by omega) (src_at S j) (by simp [HSL.out]; omega) (ints_one _) ?_
            intro w7 hown7 hgr7
            refine hK7.out _ _ trivial (fun _ => ?_)
            clear hK7 K7
            refine wpAnyH_done (by kernel_rfl) ?_ _
            have HB7 := hid ((HB3.out.trans (((Below.refl _ _).drew).mono HB3.out.size)).grown hgr7 (by have := HB3.out.size; simp; omega) (fun g e => by cases e; exact hg3b))
            obtain ⟨x7, hx7⟩ : ∃ x, w7.cell? ⟨g3, j, none⟩ = some x := ⟨_, (hown7.cellAt j (by omega)).trans (List.getElem?_eq_getElem (by have := hown7.1; omega))⟩
            have fz7 := hown7.frozenAt j
            have HS7 : Hid (Row (w7.setCell ⟨g3, j, none⟩ (.int .i64 x)) w.heap.size (some ⟨g3, 0, none⟩) (k + 1) c3 (S.take j ++ x :: S.drop j)) := by
              have h := (hown7.stored j (.int .i64 x)).1
              rw [put_at S j x (by rw [HSL.out]; exact hj)] at h
              exact h
            clear hown7 hgr7 hHeld HR3d HR3
            go_wp2
            go_roundw
            case rel => exact ⟨k + 1, _, _, by omega, by go_num, rfl, by unfold Hid; rw [HH.out, ← HPut.out]; have h := HS7.out; rw [hcap] at h; exact h, HB7.out.setCell hg3b _⟩
            case measure => simp [intOf]; omega
          · go_wp2_with fail
            refine wp_region_held_drew (S := fun _ => True) rfl trivial (fun hHeld => ?_)
            refine wpAnyH_take (i := 0) (oi := { dst := some 31, op := _, type := _, pos := _, after := _, guard := _ }) (v := (.slice (some ⟨g3, 0, none⟩) (k + 1) c3)) rfl (by kernel_rfl) (by kernel_rfl) (by kernel_rfl) (fun _ _ _ h => h) (Or.inl ⟨by rfl, fun w hSw => by (try dsimp only at hSw); go_split_ands; go_simp⟩) (by assumption) ?_
            simp only [Act.put, List.setIfInBounds_toArray, List.set_cons_zero, List.set_cons_succ]
            refine wpAnyH_take (i := 1) (oi := { dst := some 32, op := _, type := _, pos := _, after := _, guard := _ }) (v := (.int .i64 (j : Int))) rfl (by kernel_rfl) (by kernel_rfl) (by kernel_rfl) (fun _ _ _ h => h) (Or.inl ⟨by rfl, fun w hSw => by (try dsimp only at hSw); go_split_ands; go_simp⟩) (by assumption) ?_
            simp only [Act.put, List.setIfInBounds_toArray, List.set_cons_zero, List.set_cons_succ]
            refine wpAnyH_take (i := 2) (oi := { dst := some 33, op := _, type := _, pos := _, after := _, guard := _ }) (v := (.int .i64 ((j : Int) + 1))) rfl (by kernel_rfl) (by kernel_rfl) (by kernel_rfl) (fun _ _ _ h => h) (Or.inl ⟨by rfl, fun w hSw => by (try dsimp only at hSw); go_split_ands; go_simp⟩) (by assumption) ?_
            simp only [Act.put, List.setIfInBounds_toArray, List.set_cons_zero, List.set_cons_succ]
            refine wpAnyH_take (i := 3) (oi := { dst := some 34, op := _, type := _, pos := _, after := _, guard := _ }) (v := (.slice (some ⟨g3, j + 1, none⟩) (k + 1 - (j + 1)) (c3 - (j + 1)))) rfl (by kernel_rfl) (by kernel_rfl) (by kernel_rfl) (fun _ _ _ h => h) (Or.inl ⟨by rfl, fun w hSw => by (try dsimp only at hSw); go_split_ands; go_simp⟩) (by assumption) ?_
            simp only [Act.put, List.setIfInBounds_toArray, List.set_cons_zero, List.set_cons_succ]
            refine wpAnyH_take (i := 4) (oi := { dst := some 35, op := _, type := _, pos := _, after := _, guard := _ }) (v := (.slice (some ⟨g3, 0, none⟩) (k + 1) c3)) rfl (by kernel_rfl) (by kernel_rfl) (by kernel_rfl) (fun _ _ _ h => h) (Or.inl ⟨by rfl, fun w hSw => by (try dsimp only at hSw); go_split_ands; go_simp⟩) (by assumption) ?_
            simp only [Act.put, List.setIfInBounds_toArray, List.set_cons_zero, List.set_cons_succ]
            refine wpAnyH_take (i := 5) (oi := { dst := some 36, op := _, type := _, pos := _, after := _, guard := _ }) (v := (.int .i64 (j : Int))) rfl (by kernel_rfl) (by kernel_rfl) (by kernel_rfl) (fun _ _ _ h => h) (Or.inl ⟨by rfl, fun w hSw => by (try dsimp only at hSw); go_split_ands; go_simp⟩) (by assumption) ?_
            simp only [Act.put, List.setIfInBounds_toArray, List.set_cons_zero, List.set_cons_succ]
            refine wpAnyH_take (i := 6) (oi := { dst := some 37, op := _, type := _, pos := _, after := _, guard := _ }) (v := (.slice (some ⟨g3, j, none⟩) (k + 1 - j) (c3 - j))) rfl (by kernel_rfl) (by kernel_rfl) (by kernel_rfl) (fun _ _ _ h => h) (Or.inl ⟨by rfl, fun w hSw => by (try dsimp only at hSw); go_split_ands; go_simp⟩) (by assumption) ?_
            simp only [Act.put, List.setIfInBounds_toArray, List.set_cons_zero, List.set_cons_succ]
            refine wpAnyH_ready (rs := [7]) (by kernel_rfl) (by simp) (AllReadyH.cons (o := { dst := some 38, op := _, type := _, pos := _, after := _, guard := _ }) rfl ?_ AllReadyH.nil)
            intro K7 hK7
            refine Cpy.step_copy_in rfl (.tmp 34) (.tmp 37) 23 23 rfl 3 i0 1 Try.underlying23 hi hz1 w.heap.size g3 (k + 1) c3 (S.map (Value.int .i64) ++ [.int .i64 0]) HR3d.out (some ⟨g3, j + 1, none⟩) (some ⟨g3, j, none⟩) (k + 1 - (j + 1)) (c3 - (j + 1)) (k + 1 - j) (c3 - j) rfl rfl (k - j) (j + 1) j (by show min _ _ = _; omega) ((S.drop j).map (Value.int .i64)) (by rw [List.length_map, List.length_drop, HSL.out]; omega) (fun _ => ⟨rfl, rfl⟩) (src_at S j) (by simp [HSL.out]; omega) (ints_one _) ?_
            intro w7 hown7 hgr7
            refine hK7.out _ _ trivial (fun _ => ?_)
            clear hK7 K7
            refine wpAnyH_done (by kernel_rfl) ?_ _
            have HB7 := hid ((HB3.out.trans (((Below.refl _ _).drew).mono HB3.out.size)).grown hgr7 (by have := HB3.out.size; simp; omega) (fun g e => by cases e; exact hg3b))
            obtain ⟨x7, hx7⟩ : ∃ x, w7.cell? ⟨g3, j, none⟩ = some x := ⟨_, (hown7.cellAt j (by omega)).trans (List.getElem?_eq_getElem (by have := hown7.1; omega))⟩
            have fz7 := hown7.frozenAt j
            have HS7 : Hid (Row (w7.setCell ⟨g3, j, none⟩ (.int .i64 x)) w.heap.size (some ⟨g3, 0, none⟩) (k + 1) c3 (S.take j ++ x :: S.drop j)) := by
              have h := (hown7.stored j (.int .i64 x)).1
              rw [put_at S j x (by rw [HSL.out]; exact hj)] at h
              exact h
            clear hown7 hgr7 hHeld HR3d HR3
            go_wp2
            go_roundw
            case rel => exact ⟨k + 1, _, _, by omega, by go_num, rfl, by unfold Hid; rw [HH.out, ← HPut.out]; exact HS7.out, HB7.out.setCell hg3b _⟩
            case measure => simp [intOf]; omega
end Go.Proofs.Ytilfelkbmmaabaa.Quo
