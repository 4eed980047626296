/- Labels chosen by their names: l2Some, labelsAmong. -/
import Derived.Test.YthcogkoleiejgaaGreatRMK
namespace Go.Proofs.YthcogkoleiejgaaGreat.Lab
open Go.RowKit Go.Proofs.YthcogkoleiejgaaGreat.Str

def selL (ss : List ByteArray) (b : Bool) (l : List Lb) : List Lb := l.filter fun p => hasB ss p.1 == b
theorem flat_append (A B : List Lb) : flat (A ++ B) = flat A ++ flat B := by simp [flat]
theorem sel_yes {ls : List Lb} {ss : List ByteArray} {b : Bool} {k : Nat} (hk : k < ls.length) (h : (hasB ss (ls.getD k e0).1 == b) = true) : flat (selL ss b (ls.take (k + 1))) = flat (selL ss b (ls.take k)) ++ [.string (ls.getD k e0).1, .string (ls.getD k e0).2] := by
  have e : ls.getD k e0 = ls[k] := by simp [hk]
  rw [e] at h ⊢
  unfold selL
  rw [List.take_succ_eq_append_getElem hk, List.filter_append, flat_append]
  simp [h, flat]
theorem sel_no {ls : List Lb} {ss : List ByteArray} {b : Bool} {k : Nat} (hk : k < ls.length) (h : (hasB ss (ls.getD k e0).1 == b) = false) : flat (selL ss b (ls.take (k + 1))) = flat (selL ss b (ls.take k)) := by
  have e : ls.getD k e0 = ls[k] := by simp [hk]
  rw [e] at h
  unfold selL
  rw [List.take_succ_eq_append_getElem hk, List.filter_append]
  simp [h]
theorem sel_all {ls : List Lb} {ss : List ByteArray} {b : Bool} {k : Nat} (hk : ls.length ≤ k) : selL ss b (ls.take k) = selL ss b ls := by rw [List.take_of_length_le hk]
theorem two_new (w : World) (x y : Value) (t : TypeId) : ∀ j u, [x, y][j]? = some u → (w.alloc (.cells #[x, y] t)).cell? ((⟨w.heap.size, 0, none⟩ : Addr).add j) = some u := by
  intro j u hj
  have h := heap_alloc_new w (.cells #[x, y] t)
  match j, hj with
  | 0, hj =>
    simp at hj; subst hj
    have : (⟨w.heap.size, 0, none⟩ : Addr).add 0 = ⟨w.heap.size, 0, none⟩ := by simp [Addr.add]
    rw [this]; exact two0 h
  | 1, hj =>
    simp at hj; subst hj
    have : (⟨w.heap.size, 0, none⟩ : Addr).add 1 = ⟨w.heap.size, 1, none⟩ := by simp [Addr.add]
    rw [this]; exact two1 h
  | j + 2, hj => simp at hj
theorem own_form {w : World} {base e size n : Nat} {v : Value} {xs : List Value} (h : w.ownsRow base e size v n xs) : ∃ a c, v = .slice a n c := by
  rcases h.2 with ⟨h1, h2⟩ | ⟨g, cap, cur, h1, _⟩
  · subst h2; exact ⟨none, 0, h1⟩
  · exact ⟨_, _, h1⟩

end Go.Proofs.YthcogkoleiejgaaGreat.Lab
/- What labelsAmong and both KeepLabels and DropLabels come to. -/
namespace Go.Proofs.YthcogkoleiejgaaGreat.Lab
open Go.RowKit Go.Proofs.YthcogkoleiejgaaGreat.Str

def selR (ls : List Lb) (ss : List ByteArray) (b : Bool) : List Lb := if goodL ls = true ∧ ss.length ≤ 1000 then selL ss b ls else []
theorem selR_yes {ls : List Lb} {ss : List ByteArray} {b : Bool} (h1 : goodL ls = true) (h2 : ss.length ≤ 1000) : selR ls ss b = selL ss b ls := by unfold selR; rw [if_pos ⟨h1, h2⟩]
theorem selR_no1 {ls : List Lb} {ss : List ByteArray} {b : Bool} (h1 : goodL ls = false) : selR ls ss b = [] := by unfold selR; rw [if_neg (by simp [h1])]
theorem selR_no2 {ls : List Lb} {ss : List ByteArray} {b : Bool} (h2 : 1000 < ss.length) : selR ls ss b = [] := by unfold selR; rw [if_neg (by omega)]
theorem own_base {w : World} {base base' e size n : Nat} {v : Value} {xs : List Value} (h : w.ownsRow base e size v n xs) (hb : base' ≤ base) : w.ownsRow base' e size v n xs := by
  refine ⟨h.1, ?_⟩
  rcases h.2 with h0 | ⟨g, cap, cur, h1, h2, h3⟩
  · exact .inl h0
  · exact .inr ⟨g, cap, cur, h1, Nat.le_trans hb h2, h3⟩

set_option maxHeartbeats 2000000 in
set_option maxRecDepth 100000 in
theorem f65 (a a1 : Option Addr) (n c n1 c1 : Nat) (b : Bool) (ls : List Lb) (ss : List ByteArray) (w : World) (hn : ls.length = n) (h20 : n ≤ 20) (hr : HasL w a ls) (hn1 : ss.length = n1) (hb1 : n1 ≤ 1048576) (hr1 : HasT w a1 ss) :
    Calls Tryz.prog 65 #[.slice a n c, .slice a1 n1 c1, .bool b] w fun e w' => ∃ a' m c', e = .returned (.slice a' m c') ∧ w'.ownsRow w.heap.size 53 2 (.slice a' m c') m (flat (selL ss b ls)) ∧ Below w.heap.size w w' := by
  obtain ⟨i0, hi, hz0, hz1, hz2⟩ := info_parts info50
  have HN := hid hn
  have HN1 := hid hn1
  have HB1 := hid (Below.refl w.heap.size w)
  have R1 := hid hr
  have T1 := hid hr1
  clear hn hn1
  go_enter Tryz.func65, Tryz.ntmps65
  go_wp2_with (at_make; refine wpList_make_own _ rfl _ _ 33 rfl w.heap.size 53 i0 (.agg #[.string ByteArray.empty, .string ByteArray.empty]) 2 Tryz.underlying33 hi hz0 hz1 _ _ _ n rfl rfl rfl ?b2 ?b3 ?b4 ?_)
  case b2 => rw [hz2]; omega
  case b3 => unfold maxLen; omega
  case b4 => exact HB1.out.size
  intro w2 hown2 hgrow2
  have HX2 := hid (HB1.out.grown hgrow2 HB1.out.size (fun k h => by cases h))
  have hb12 : Below w.heap.size w w2 := (Below.refl _ _).grown hgrow2 (Nat.le_refl _) (fun k h => by cases h)
  have R2 := hid (R1.out.below hb12)
  have T2 := hid (T1.out.below hb12)
  have HO2 := hid hown2
  clear hown2 hgrow2 hb12 R1 T1 HB1
  go_wp2
  go_loopw [7, 15] (fun so si wr => ∃ (k m c' : Nat) (a' : Option Addr), k ≤ n ∧ m ≤ k ∧ si = .int .i64 k ∧ so = .slice a' m c' ∧ wr.ownsRow w.heap.size 53 2 (.slice a' m c') m (flat (selL ss b (ls.take k))) ∧ HasL wr a ls ∧ HasT wr a1 ss ∧ Below w.heap.size w wr) (fun _ si _ => n - (intOf si).toNat)
  case atStart => exact ⟨0, 0, n, some ⟨w.heap.size, 0, none⟩, Nat.zero_le _, Nat.le_refl _, rfl, rfl, by simpa [selL, flat] using HO2.out, R2.out, T2.out, HX2.out⟩
  case round =>
    obtain ⟨k, m, c', a', hk, hm, rfl, rfl, hown, hrk, htk, hnx⟩ := hrel
    have HX := hid hnx
    have HO := hid hown
    have HT := hid htk
    have HRk := hid hrk
    by_cases hlt : k < n
    · rcases hrk with hr | ⟨bb, off, rfl, hbl, hc⟩
      · exact absurd HN.out (by rw [hr]; simp; omega)
      obtain ⟨d0, d1⟩ := hc k (by rw [HN.out]; exact hlt)
      clear hc hnx hown htk
      by_cases he : (hasB ss (ls.getD k e0).1 == b) = true
      · have HSE := hid (sel_yes (ss := ss) (b := b) (by rw [HN.out]; exact hlt) he)
        generalize (ls.getD k e0).1 = s at *
        generalize (ls.getD k e0).2 = t at *
        go_wp2_with fail
        refine (f79 a1 n1 c1 ss s _ HN1.out hb1 (HT.out.below ((Below.refl _ _).alloc (Nat.le_refl _) _))).mono ?_
        rintro e w3 ⟨rfl, rfl⟩
        generalize hasB ss s = hb at *
        go_wp2_with (at_builtin; refine wpList_append_own _ rfl (.tmp 25) (.tmp 27) 33 rfl w.heap.size 53 i0 (.agg #[.string ByteArray.empty, .string ByteArray.empty]) 2 32 Tryz.underlying33 hi hz0 hz1 hz2 rfl (by decide) _ _ _ rfl ((HO.out.alloc _).alloc _) ⟨wr.heap.size + 1, 0, none⟩ 1 1 [.string s, .string t] rfl rfl ?d1 ?d2 ?d3 ?d4 ?d5 ?_)
        case d1 =>
          have := two_new (wr.alloc (.cells #[.string s, .string t] 53)) (.string s) (.string t) 53
          simp only [World.size_alloc] at this
          exact this
        case d2 => intro u hu; simp at hu; rcases hu with rfl | rfl <;> rfl
        case d3 => unfold maxLen; omega
        case d4 => omega
        case d5 => have := HX.out.size; simp; omega
        intro v1 w3 hown1 hgr1 _
        obtain ⟨a2, c2, rfl⟩ := own_form hown1
        have HO3 : Hid (w3.ownsRow w.heap.size 53 2 (.slice a2 (m + 1) c2) (m + 1) (flat (selL ss b (ls.take (k + 1))))) := by unfold Hid; rw [HSE.out]; exact hown1
        have HX3 := hid ((((HX.out.alloc HX.out.size (.cells #[.string s, .string t] 53)).alloc (by have := HX.out.size; simp; omega) (.cells #[.string s, .string t] 53))).grown hgr1 (by have := HX.out.size; simp; omega) (fun k hk => (HO.out.lt k hk).1))
        clear hown1 hgr1
        go_wp2
        go_roundw
        case rel => exact ⟨k + 1, m + 1, c2, a2, by omega, by omega, by go_num, rfl, HO3.out, hr.below HX3.out, hr1.below HX3.out, HX3.out⟩
        case measure => simp [intOf]; omega
      · have he' : (hasB ss (ls.getD k e0).1 == b) = false := by simpa using he
        have HSE := hid (sel_no (ss := ss) (b := b) (by rw [HN.out]; exact hlt) he')
        clear he
        generalize (ls.getD k e0).1 = s at *
        generalize (ls.getD k e0).2 = t at *
        go_wp2_with fail
        refine (f79 a1 n1 c1 ss s _ HN1.out hb1 (HT.out.below ((Below.refl _ _).alloc (Nat.le_refl _) _))).mono ?_
        rintro e w3 ⟨rfl, rfl⟩
        generalize hasB ss s = hb at *
        go_wp2
        go_roundw
        case rel => exact ⟨k + 1, m, c', a', by omega, by omega, by go_num, rfl, by rw [HSE.out]; exact HO.out.alloc _, HRk.out.alloc _, HT.out.below ((Below.refl _ _).alloc (Nat.le_refl _) _), HX.out.alloc HX.out.size _⟩
        case measure => simp [intOf]; omega
    · go_wp2
      go_ret
      exact ⟨a', m, c', rfl, by rw [← sel_all (k := k) (by rw [HN.out]; omega)]; exact HO.out, HX.out⟩

end Go.Proofs.YthcogkoleiejgaaGreat.Lab
