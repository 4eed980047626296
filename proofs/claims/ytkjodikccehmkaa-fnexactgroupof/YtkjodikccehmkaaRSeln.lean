/- Labels chosen by their names: l2Some, labelsAmong. -/
import Derived.Test.YtkjodikccehmkaaRMK
namespace Go.Proofs.Ytkjodikccehmkaa.Lab
open Go.RowKit Go.Proofs.Ytkjodikccehmkaa.Str

def selL (ss : List ByteArray) (b : Bool) (l : List Lb) : List Lb := l.filter fun p => hasB ss p.1 == b
theorem flat_append (A B : List Lb) : flat (A ++ B) = flat A ++ flat B := by simp [flat]
theorem sel_yes {ls : List Lb} {ss : List ByteArray} {b : Bool} {k : Nat} (hk : k < ls.length) (h : (hasB ss (ls.getD k e0).1 == b) = true) : flat (selL ss b (ls.take (k + 1))) = flat (selL ss b (ls.take k)) ++ [.string (ls.getD k e0).1, .string (ls.getD k e0).2] := by
  have e : ls.getD k e0 = ls[k] := by simp [hk]
  rw [e] at h ⊢
  unfold selL
  rw [List.take_succ_eq_append_getElem hk, List.filter_append, flat_append]
  simp [h, flat]
theorem sel_no {ls : List Lb} {ss : List ByteArray} {b : Bool} {k : Nat} (hk : k < ls.length) (h : (hasB ss (ls.getD k e0).1 == b) = false) : flat (selL ss b (ls.take (k + 1))) = flat (selL ss b (ls.take k)) := by
  have e : ls.getD k e0 = ls[k] := by simp [hk]
  rw [e] at h
  unfold selL
  rw [List.take_succ_eq_append_getElem hk, List.filter_append]
  simp [h]
theorem sel_all {ls : List Lb} {ss : List ByteArray} {b : Bool} {k : Nat} (hk : ls.length ≤ k) : selL ss b (ls.take k) = selL ss b ls := by rw [List.take_of_length_le hk]
theorem two_new (w : World) (x y : Value) (t : TypeId) : ∀ j u, [x, y][j]? = some u → (w.alloc (.cells #[x, y] t)).cell? ((⟨w.heap.size, 0, none⟩ : Addr).add j) = some u := by
  intro j u hj
  have h := heap_alloc_new w (.cells #[x, y] t)
  match j, hj with
  | 0, hj =>
    simp at hj; subst hj
    have : (⟨w.heap.size, 0, none⟩ : Addr).add 0 = ⟨w.heap.size, 0, none⟩ := by simp [Addr.add]
    rw [this]; exact two0 h
  | 1, hj =>
    simp at hj; subst hj
    have : (⟨w.heap.size, 0, none⟩ : Addr).add 1 = ⟨w.heap.size, 1, none⟩ := by simp [Addr.add]
    rw [this]; exact two1 h
  | j + 2, hj => simp at hj
theorem own_form {w : World} {base e size n : Nat} {v : Value} {xs : List Value} (h : w.ownsRow base e size v n xs) : ∃ a c, v = .slice a n c := by
  rcases h.2 with ⟨h1, h2⟩ | ⟨g, cap, cur, h1, _⟩
  · subst h2; exact ⟨none, 0, h1⟩
  · exact ⟨_, _, h1⟩

set_option maxHeartbeats 1000000 in
theorem f84 (a : Option Addr) (n c : Nat) (ss : List ByteArray) (x : ByteArray) (w : World) (hn : ss.length = n) (hb : n ≤ 1048576) (hr : HasT w a ss) :
    Calls Try.prog 84 #[.slice a n c, .string x] w fun e w' => e = .returned (.bool (hasB ss x)) ∧ w' = w := by
  have HN := hid hn
  clear hn
  go_enter Try.func84, Try.ntmps84
  go_wp2
  go_loop [9] (fun i => ∃ k : Nat, k ≤ n ∧ i = .int .i64 k ∧ Hid (∀ i, i < k → ss.getD i ByteArray.empty ≠ x)) (fun i => n - (intOf i).toNat)
  case atStart => exact ⟨0, Nat.zero_le _, rfl, fun i hi => by omega⟩
  case round =>
    obtain ⟨k, hk, rfl, hu⟩ := hrel
    by_cases hlt : k < n
    · rcases hr with hr | ⟨b, off, rfl, hbl, hc⟩
      · exact absurd HN.out (by rw [hr]; simp; omega)
      have c0 := hc k (by rw [HN.out]; exact hlt)
      clear hc
      by_cases he : ss.getD k ByteArray.empty = x
      · have HV := hid (has_yes (by rw [HN.out]; exact hlt) he)
        have he' := str_eq he
        clear he
        generalize ss.getD k ByteArray.empty = s at *
        go_wp2
        go_ret
        exact ⟨ret_bool HV.out.symm, rfl⟩
      · have HU : Hid (∀ i, i < k + 1 → ss.getD i ByteArray.empty ≠ x) := by
          intro i hi
          by_cases e : i = k
          · subst e; exact he
          · exact hu.out i (by omega)
        have he' := str_ne he
        clear he
        generalize ss.getD k ByteArray.empty = s at *
        go_wp2
        go_round
        case rel => exact ⟨k + 1, by omega, by go_num, HU.out⟩
        case measure => simp [intOf]; omega
    · go_wp2
      go_ret
      exact ⟨ret_bool (has_no (fun i hi => hu.out i (by have := HN.out; omega))).symm, rfl⟩

set_option maxHeartbeats 2000000 in
theorem f49 (a a1 : Option Addr) (n c n1 c1 : Nat) (b : Bool) (ls : List Lb) (ss : List ByteArray) (w : World) (hn : ls.length = n) (h20 : n ≤ 20) (hr : HasL w a ls) (hn1 : ss.length = n1) (hb1 : n1 ≤ 1048576) (hr1 : HasT w a1 ss) :
    Calls Try.prog 49 #[.slice a n c, .slice a1 n1 c1, .bool b] w fun e w' => ∃ a' m c', e = .returned (.slice a' m c') ∧ w'.ownsRow w.heap.size 69 2 (.slice a' m c') m (flat (selL ss b ls)) ∧ Below w.heap.size w w' := by
  obtain ⟨i0, hi, hz0, hz1, hz2⟩ := info_parts info50
  have HN := hid hn
  have HN1 := hid hn1
  clear hn hn1
  go_enter Try.func49, Try.ntmps49
  go_wp2
  go_loopw [7, 12] (fun so si wr => ∃ (k m c' : Nat) (a' : Option Addr), k ≤ n ∧ m ≤ k ∧ si = .int .i64 k ∧ so = .slice a' m c' ∧ wr.ownsRow w.heap.size 69 2 (.slice a' m c') m (flat (selL ss b (ls.take k))) ∧ Below w.heap.size w wr) (fun _ si _ => n - (intOf si).toNat)
  case atStart => exact ⟨0, 0, 0, none, Nat.zero_le _, Nat.le_refl _, rfl, rfl, by simpa [selL, flat] using World.ownsRow_nil w w.heap.size 69 2, Below.refl _ _⟩
  case round =>
    obtain ⟨k, m, c', a', hk, hm, rfl, rfl, hown, hnx⟩ := hrel
    have HX := hid hnx
    have HO := hid hown
    have HT := hid (hr1.below hnx)
    by_cases hlt : k < n
    · rcases hr with hr | ⟨bb, off, rfl, hbl, hc⟩
      · exact absurd HN.out (by rw [hr]; simp; omega)
      obtain ⟨c0, c1'⟩ := hc k (by rw [HN.out]; exact hlt)
      have d0 := (hnx.cell (p := ⟨bb, off + k * 2, none⟩) hbl).trans c0
      have d1 := (hnx.cell (p := ⟨bb, off + k * 2 + 1, none⟩) hbl).trans c1'
      clear hc c0 c1' hnx hown
      by_cases he : (hasB ss (ls.getD k e0).1 == b) = true
      · have HSE := hid (sel_yes (ss := ss) (b := b) (by rw [HN.out]; exact hlt) he)
        generalize (ls.getD k e0).1 = s at *
        generalize (ls.getD k e0).2 = t at *
        go_wp2_with fail
        refine (f84 a1 n1 c1 ss s _ HN1.out hb1 (HT.out.below ((Below.refl _ _).alloc (Nat.le_refl _) _))).mono ?_
        rintro e w2 ⟨rfl, rfl⟩
        generalize hasB ss s = hb at *
        go_wp2_with (at_builtin; refine wpList_append_own _ rfl (.tmp 22) (.tmp 24) 36 rfl w.heap.size 69 i0 (.agg #[.string ByteArray.empty, .string ByteArray.empty]) 2 32 Try.underlying36 hi hz0 hz1 hz2 rfl (by decide) _ _ _ rfl ((HO.out.alloc _).alloc _) ⟨wr.heap.size + 1, 0, none⟩ 1 1 [.string s, .string t] rfl rfl ?d1 ?d2 ?d3 ?d4 ?d5 ?_)
        case d1 =>
          have := two_new (wr.alloc (.cells #[.string s, .string t] 69)) (.string s) (.string t) 69
          simp only [World.size_alloc] at this
          exact this
        case d2 => intro u hu; simp at hu; rcases hu with rfl | rfl <;> rfl
        case d3 => unfold maxLen; omega
        case d4 => omega
        case d5 => have := HX.out.size; simp; omega
        intro v1 w3 hown1 hgr1 _
        obtain ⟨a2, c2, rfl⟩ := own_form hown1
        have HO2 : Hid (w3.ownsRow w.heap.size 69 2 (.slice a2 (m + 1) c2) (m + 1) (flat (selL ss b (ls.take (k + 1))))) := by unfold Hid; rw [HSE.out]; exact hown1
        have HX2 := hid ((((HX.out.alloc HX.out.size (.cells #[.string s, .string t] 69)).alloc (by have := HX.out.size; simp; omega) (.cells #[.string s, .string t] 69))).grown hgr1 (by have := HX.out.size; simp; omega) (fun k hk => (HO.out.lt k hk).1))
        clear hown1 hgr1
        go_wp2
        go_roundw
        case rel => exact ⟨k + 1, m + 1, c2, a2, by omega, by omega, by go_num, rfl, HO2.out, HX2.out⟩
        case measure => simp [intOf]; omega
      · have he' : (hasB ss (ls.getD k e0).1 == b) = false := by simpa using he
        have HSE := hid (sel_no (ss := ss) (b := b) (by rw [HN.out]; exact hlt) he')
        clear he
        generalize (ls.getD k e0).1 = s at *
        generalize (ls.getD k e0).2 = t at *
        go_wp2_with fail
        refine (f84 a1 n1 c1 ss s _ HN1.out hb1 (HT.out.below ((Below.refl _ _).alloc (Nat.le_refl _) _))).mono ?_
        rintro e w2 ⟨rfl, rfl⟩
        generalize hasB ss s = hb at *
        go_wp2
        go_roundw
        case rel => exact ⟨k + 1, m, c', a', by omega, by omega, by go_num, rfl, by rw [HSE.out]; exact HO.out.alloc _, HX.out.alloc HX.out.size _⟩
        case measure => simp [intOf]; omega
    · go_wp2
      go_ret
      exact ⟨a', m, c', rfl, by rw [← sel_all (k := k) (by rw [HN.out]; omega)]; exact HO.out, HX.out⟩
end Go.Proofs.Ytkjodikccehmkaa.Lab
