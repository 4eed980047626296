/- Lists of texts: szStringS, toStringS, eqStringS, l2Has, slices.Contains. -/
import Derived.Test.YtailoeloonnoeaaRMK
import Derived.Test.YtailoeloonnoeaaRVo
namespace Go.Proofs.Ytailoeloonnoeaa.Lab
open Go.RowKit Go.Proofs.Ytailoeloonnoeaa.Str

/-- The slice that begins at 'a' holds the texts 'ss' in the world 'w'. -/
def HasT (w : World) (a : Option Addr) (ss : List ByteArray) : Prop :=
  ss = [] ∨ ∃ b off, a = some ⟨b, off, none⟩ ∧ b < w.heap.size ∧ ∀ i, i < ss.length → w.cell? ⟨b, off + i, none⟩ = some (.string (ss.getD i ByteArray.empty))
theorem HasT.below {w w' : World} {a : Option Addr} {ss : List ByteArray} (h : HasT w a ss) (hb : Below w.heap.size w w') : HasT w' a ss := by
  rcases h with h | ⟨b, off, h1, h2, h3⟩
  · exact .inl h
  · exact .inr ⟨b, off, h1, Nat.lt_of_lt_of_le h2 hb.size, fun i hi => (hb.cell (by exact h2)).trans (h3 i hi)⟩
theorem HasT.own {w : World} {base g n c : Nat} {ss : List ByteArray} (h : w.ownsRow base 9 1 (.slice (some ⟨g, 0, none⟩) n c) n (ss.map Value.string)) : HasT w (some ⟨g, 0, none⟩) ss := by
  have hl := h.1
  rw [List.length_map, Nat.mul_one] at hl
  refine .inr ⟨g, 0, rfl, (h.lt g rfl).2, fun i hi => ?_⟩
  rw [Nat.zero_add, h.cellAt i (by omega)]
  simp [hi]
def FitT (ss : List ByteArray) : Prop := ∀ i, (ss.getD i ByteArray.empty).size ≤ maxLen
def hasB (ss : List ByteArray) (x : ByteArray) : Bool := decide (∃ i, i < ss.length ∧ ss.getD i ByteArray.empty = x)
theorem has_yes {ss : List ByteArray} {x : ByteArray} {i : Nat} (h : i < ss.length) (e : ss.getD i ByteArray.empty = x) : hasB ss x = true := decide_eq_true ⟨i, h, e⟩
theorem has_no {ss : List ByteArray} {x : ByteArray} (h : ∀ i, i < ss.length → ss.getD i ByteArray.empty ≠ x) : hasB ss x = false := decide_eq_false fun ⟨i, h1, h2⟩ => h i h1 h2

set_option maxHeartbeats 1000000 in
theorem f86 (a : Option Addr) (n c : Nat) (ss : List ByteArray) (x : ByteArray) (w : World) (hn : ss.length = n) (hb : n ≤ 1048576) (hr : HasT w a ss) :
    Calls Try.prog 86 #[.slice a n c, .string x] w fun e w' => (∃ y : Int, e = .returned (.int .i64 y) ∧ decide (0 ≤ y) = hasB ss x) ∧ w' = w := by
  have HN := hid hn
  clear hn
  go_enter Try.func86, Try.ntmps86
  go_wp2
  go_loop [8] (fun i => ∃ k : Nat, k ≤ n ∧ i = .int .i64 k ∧ Hid (∀ i, i < k → ss.getD i ByteArray.empty ≠ x)) (fun i => n - (intOf i).toNat)
  case atStart => exact ⟨0, Nat.zero_le _, rfl, fun i hi => by omega⟩
  case round =>
    obtain ⟨k, hk, rfl, hu⟩ := hrel
    by_cases hlt : k < n
    · rcases hr with hr | ⟨b, off, rfl, hbl, hc⟩
      · exact absurd HN.out (by rw [hr]; simp; omega)
      have c0 := hc k (by rw [HN.out]; exact hlt)
      clear hc
      by_cases he : ss.getD k ByteArray.empty = x
      · have HV := hid (has_yes (by rw [HN.out]; exact hlt) he)
        have he' := str_eq he.symm
        clear he
        generalize ss.getD k ByteArray.empty = s at *
        go_wp2
        go_ret
        exact ⟨⟨k, rfl, by rw [HV.out]; simp⟩, rfl⟩
      · have HU : Hid (∀ i, i < k + 1 → ss.getD i ByteArray.empty ≠ x) := by
          intro i hi
          by_cases e : i = k
          · subst e; exact he
          · exact hu.out i (by omega)
        have he' := str_ne (fun h => he h.symm)
        clear he
        generalize ss.getD k ByteArray.empty = s at *
        go_wp2
        go_round
        case rel => exact ⟨k + 1, by omega, by go_num, HU.out⟩
        case measure => simp [intOf]; omega
    · go_wp2
      go_ret
      exact ⟨⟨-1, rfl, by rw [has_no (fun i hi => hu.out i (by have := HN.out; omega))]; simp⟩, rfl⟩
theorem f78 (a : Option Addr) (n c : Nat) (ss : List ByteArray) (x : ByteArray) (w : World) (hn : ss.length = n) (hb : n ≤ 1048576) (hr : HasT w a ss) :
    Calls Try.prog 78 #[.slice a n c, .string x] w fun e w' => e = .returned (.bool (hasB ss x)) ∧ w' = w := by
  go_enter Try.func78, Try.ntmps78
  go_wp2_with fail
  refine (f86 a n c ss x _ hn hb hr).mono ?_
  rintro e w1 ⟨⟨y, rfl, hy⟩, rfl⟩
  have HY := hid hy
  clear hy
  by_cases h0 : 0 ≤ y
  · go_wp2
    go_ret
    exact ⟨ret_bool (by rw [← HY.out]; simp [h0]), rfl⟩
  · go_wp2
    go_ret
    exact ⟨ret_bool (by rw [← HY.out]), rfl⟩

theorem info9 : (Try.prog.info? 9).map (fun i => (i.zero, i.size, i.bytes)) = some (some (.string ByteArray.empty), 1, 16) := by kernel_rfl
theorem stepT_set (ss : List ByteArray) (n k : Nat) (hn : ss.length = n) (hk : k < n) : (ss.take k ++ List.replicate (n - k) ByteArray.empty).set k (ss.getD k ByteArray.empty) = ss.take (k + 1) ++ List.replicate (n - (k + 1)) ByteArray.empty := by
  have hl : (ss.take k).length = k := by simp; omega
  rw [List.set_append_right _ _ (by omega), hl, Nat.sub_self, show n - k = (n - (k + 1)) + 1 from by omega, List.replicate_succ, List.set_cons_zero, List.take_succ_eq_append_getElem (by omega), List.append_assoc]
  congr 2
  simp [hn, hk]

end Go.Proofs.Ytailoeloonnoeaa.Lab
/- Labels chosen by their names: l2Some, labelsAmong. -/
namespace Go.Proofs.Ytailoeloonnoeaa.Lab
open Go.RowKit Go.Proofs.Ytailoeloonnoeaa.Str

def selL (ss : List ByteArray) (b : Bool) (l : List Lb) : List Lb := l.filter fun p => hasB ss p.1 == b
theorem flat_append (A B : List Lb) : flat (A ++ B) = flat A ++ flat B := by simp [flat]
theorem sel_yes {ls : List Lb} {ss : List ByteArray} {b : Bool} {k : Nat} (hk : k < ls.length) (h : (hasB ss (ls.getD k e0).1 == b) = true) : flat (selL ss b (ls.take (k + 1))) = flat (selL ss b (ls.take k)) ++ [.string (ls.getD k e0).1, .string (ls.getD k e0).2] := by
  have e : ls.getD k e0 = ls[k] := by simp [hk]
  rw [e] at h ⊢
  unfold selL
  rw [List.take_succ_eq_append_getElem hk, List.filter_append, flat_append]
  simp [h, flat]
theorem sel_no {ls : List Lb} {ss : List ByteArray} {b : Bool} {k : Nat} (hk : k < ls.length) (h : (hasB ss (ls.getD k e0).1 == b) = false) : flat (selL ss b (ls.take (k + 1))) = flat (selL ss b (ls.take k)) := by
  have e : ls.getD k e0 = ls[k] := by simp [hk]
  rw [e] at h
  unfold selL
  rw [List.take_succ_eq_append_getElem hk, List.filter_append]
  simp [h]
theorem sel_all {ls : List Lb} {ss : List ByteArray} {b : Bool} {k : Nat} (hk : ls.length ≤ k) : selL ss b (ls.take k) = selL ss b ls := by rw [List.take_of_length_le hk]
theorem two_new (w : World) (x y : Value) (t : TypeId) : ∀ j u, [x, y][j]? = some u → (w.alloc (.cells #[x, y] t)).cell? ((⟨w.heap.size, 0, none⟩ : Addr).add j) = some u := by
  intro j u hj
  have h := heap_alloc_new w (.cells #[x, y] t)
  match j, hj with
  | 0, hj =>
    simp at hj; subst hj
    have : (⟨w.heap.size, 0, none⟩ : Addr).add 0 = ⟨w.heap.size, 0, none⟩ := by simp [Addr.add]
    rw [this]; exact two0 h
  | 1, hj =>
    simp at hj; subst hj
    have : (⟨w.heap.size, 0, none⟩ : Addr).add 1 = ⟨w.heap.size, 1, none⟩ := by simp [Addr.add]
    rw [this]; exact two1 h
  | j + 2, hj => simp at hj
theorem own_form {w : World} {base e size n : Nat} {v : Value} {xs : List Value} (h : w.ownsRow base e size v n xs) : ∃ a c, v = .slice a n c := by
  rcases h.2 with ⟨h1, h2⟩ | ⟨g, cap, cur, h1, _⟩
  · subst h2; exact ⟨none, 0, h1⟩
  · exact ⟨_, _, h1⟩

end Go.Proofs.Ytailoeloonnoeaa.Lab
/- What labelsAmong and both KeepLabels and DropLabels come to. -/
namespace Go.Proofs.Ytailoeloonnoeaa.Lab
open Go.RowKit Go.Proofs.Ytailoeloonnoeaa.Str

def selR (ls : List Lb) (ss : List ByteArray) (b : Bool) : List Lb := if goodL ls = true ∧ ss.length ≤ 1000 then selL ss b ls else []
theorem selR_yes {ls : List Lb} {ss : List ByteArray} {b : Bool} (h1 : goodL ls = true) (h2 : ss.length ≤ 1000) : selR ls ss b = selL ss b ls := by unfold selR; rw [if_pos ⟨h1, h2⟩]
theorem selR_no1 {ls : List Lb} {ss : List ByteArray} {b : Bool} (h1 : goodL ls = false) : selR ls ss b = [] := by unfold selR; rw [if_neg (by simp [h1])]
theorem selR_no2 {ls : List Lb} {ss : List ByteArray} {b : Bool} (h2 : 1000 < ss.length) : selR ls ss b = [] := by unfold selR; rw [if_neg (by omega)]
theorem own_base {w : World} {base base' e size n : Nat} {v : Value} {xs : List Value} (h : w.ownsRow base e size v n xs) (hb : base' ≤ base) : w.ownsRow base' e size v n xs := by
  refine ⟨h.1, ?_⟩
  rcases h.2 with h0 | ⟨g, cap, cur, h1, h2, h3⟩
  · exact .inl h0
  · exact .inr ⟨g, cap, cur, h1, Nat.le_trans hb h2, h3⟩

set_option maxHeartbeats 2000000 in
set_option maxRecDepth 100000 in
theorem f66 (a a1 : Option Addr) (n c n1 c1 : Nat) (b : Bool) (ls : List Lb) (ss : List ByteArray) (w : World) (hn : ls.length = n) (h20 : n ≤ 20) (hr : HasL w a ls) (hn1 : ss.length = n1) (hb1 : n1 ≤ 1048576) (hr1 : HasT w a1 ss) :
    Calls Try.prog 66 #[.slice a n c, .slice a1 n1 c1, .bool b] w fun e w' => ∃ a' m c', e = .returned (.slice a' m c') ∧ w'.ownsRow w.heap.size 64 2 (.slice a' m c') m (flat (selL ss b ls)) ∧ Below w.heap.size w w' := by
  obtain ⟨i0, hi, hz0, hz1, hz2⟩ := info_parts info50
  have HN := hid hn
  have HN1 := hid hn1
  have HB1 := hid (Below.refl w.heap.size w)
  have R1 := hid hr
  have T1 := hid hr1
  clear hn hn1
  go_enter Try.func66, Try.ntmps66
  go_wp2_with (at_make; refine wpList_make_own _ rfl _ _ 37 rfl w.heap.size 64 i0 (.agg #[.string ByteArray.empty, .string ByteArray.empty]) 2 Try.underlying37 hi hz0 hz1 _ _ _ n rfl rfl rfl ?b2 ?b3 ?b4 ?_)
  case b2 => rw [hz2]; omega
  case b3 => unfold maxLen; omega
  case b4 => exact HB1.out.size
  intro w2 hown2 hgrow2
  have HX2 := hid (HB1.out.grown hgrow2 HB1.out.size (fun k h => by cases h))
  have hb12 : Below w.heap.size w w2 := (Below.refl _ _).grown hgrow2 (Nat.le_refl _) (fun k h => by cases h)
  have R2 := hid (R1.out.below hb12)
  have T2 := hid (T1.out.below hb12)
  have HO2 := hid hown2
  clear hown2 hgrow2 hb12 R1 T1 HB1
  go_wp2
  go_loopw [7, 15] (fun so si wr => ∃ (k m c' : Nat) (a' : Option Addr), k ≤ n ∧ m ≤ k ∧ si = .int .i64 k ∧ so = .slice a' m c' ∧ wr.ownsRow w.heap.size 64 2 (.slice a' m c') m (flat (selL ss b (ls.take k))) ∧ HasL wr a ls ∧ HasT wr a1 ss ∧ Below w.heap.size w wr) (fun _ si _ => n - (intOf si).toNat)
  case atStart => exact ⟨0, 0, n, some ⟨w.heap.size, 0, none⟩, Nat.zero_le _, Nat.le_refl _, rfl, rfl, by simpa [selL, flat] using HO2.out, R2.out, T2.out, HX2.out⟩
  case round =>
    obtain ⟨k, m, c', a', hk, hm, rfl, rfl, hown, hrk, htk, hnx⟩ := hrel
    have HX := hid hnx
    have HO := hid hown
    have HT := hid htk
    have HRk := hid hrk
    by_cases hlt : k < n
    · rcases hrk with hr | ⟨bb, off, rfl, hbl, hc⟩
      · exact absurd HN.out (by rw [hr]; simp; omega)
      obtain ⟨d0, d1⟩ := hc k (by rw [HN.out]; exact hlt)
      clear hc hnx hown htk
      by_cases he : (hasB ss (ls.getD k e0).1 == b) = true
      · have HSE := hid (sel_yes (ss := ss) (b := b) (by rw [HN.out]; exact hlt) he)
        generalize (ls.getD k e0).1 = s at *
        generalize (ls.getD k e0).2 = t at *
        go_wp2_with fail
        refine (f78 a1 n1 c1 ss s _ HN1.out hb1 (HT.out.below ((Below.refl _ _).alloc (Nat.le_refl _) _))).mono ?_
        rintro e w3 ⟨rfl, rfl⟩
        generalize hasB ss s = hb at *
        go_wp2_with (at_builtin; refine wpList_append_own _ rfl (.tmp 25) (.tmp 27) 37 rfl w.heap.size 64 i0 (.agg #[.string ByteArray.empty, .string ByteArray.empty]) 2 32 Try.underlying37 hi hz0 hz1 hz2 rfl (by decide) _ _ _ rfl ((HO.out.alloc _).alloc _) ⟨wr.heap.size + 1, 0, none⟩ 1 1 [.string s, .string t] rfl rfl ?d1 ?d2 ?d3 ?d4 ?d5 ?_)
        case d1 =>
          have := two_new (wr.alloc (.cells #[.string s, .string t] 64)) (.string s) (.string t) 64
          simp only [World.size_alloc] at this
          exact this
        case d2 => intro u hu; simp at hu; rcases hu with rfl | rfl <;> rfl
        case d3 => unfold maxLen; omega
        case d4 => omega
        case d5 => have := HX.out.size; simp; omega
        intro v1 w3 hown1 hgr1 _
        obtain ⟨a2, c2, rfl⟩ := own_form hown1
        have HO3 : Hid (w3.ownsRow w.heap.size 64 2 (.slice a2 (m + 1) c2) (m + 1) (flat (selL ss b (ls.take (k + 1))))) := by unfold Hid; rw [HSE.out]; exact hown1
        have HX3 := hid ((((HX.out.alloc HX.out.size (.cells #[.string s, .string t] 64)).alloc (by have := HX.out.size; simp; omega) (.cells #[.string s, .string t] 64))).grown hgr1 (by have := HX.out.size; simp; omega) (fun k hk => (HO.out.lt k hk).1))
        clear hown1 hgr1
        go_wp2
        go_roundw
        case rel => exact ⟨k + 1, m + 1, c2, a2, by omega, by omega, by go_num, rfl, HO3.out, hr.below HX3.out, hr1.below HX3.out, HX3.out⟩
        case measure => simp [intOf]; omega
      · have he' : (hasB ss (ls.getD k e0).1 == b) = false := by simpa using he
        have HSE := hid (sel_no (ss := ss) (b := b) (by rw [HN.out]; exact hlt) he')
        clear he
        generalize (ls.getD k e0).1 = s at *
        generalize (ls.getD k e0).2 = t at *
        go_wp2_with fail
        refine (f78 a1 n1 c1 ss s _ HN1.out hb1 (HT.out.below ((Below.refl _ _).alloc (Nat.le_refl _) _))).mono ?_
        rintro e w3 ⟨rfl, rfl⟩
        generalize hasB ss s = hb at *
        go_wp2
        go_roundw
        case rel => exact ⟨k + 1, m, c', a', by omega, by omega, by go_num, rfl, by rw [HSE.out]; exact HO.out.alloc _, HRk.out.alloc _, HT.out.below ((Below.refl _ _).alloc (Nat.le_refl _) _), HX.out.alloc HX.out.size _⟩
        case measure => simp [intOf]; omega
    · go_wp2
      go_ret
      exact ⟨a', m, c', rfl, by rw [← sel_all (k := k) (by rw [HN.out]; omega)]; exact HO.out, HX.out⟩

set_option maxHeartbeats 2000000 in
set_option maxRecDepth 100000 in
theorem f48 (a a1 : Option Addr) (n c n1 c1 : Nat) (b : Bool) (ls : List Lb) (ss : List ByteArray) (w : World) (hn : ls.length = n) (hmax : n ≤ 1048576) (hr : HasL w a ls) (hf : Fit ls) (hn1 : ss.length = n1) (hb1 : n1 ≤ 1048576) (hr1 : HasT w a1 ss) :
    Calls Try.prog 48 #[.slice a n c, .slice a1 n1 c1, .bool b] w fun e w' => ∃ a' m c', e = .returned (.slice a' m c') ∧ w'.ownsRow w.heap.size 64 2 (.slice a' m c') m (flat (selR ls ss b)) ∧ Below w.heap.size w w' := by
  have HN := hid hn
  have HN1 := hid hn1
  clear hn hn1
  go_enter Try.func48, Try.ntmps48
  go_wp2_with fail
  refine (f63 a n c ls _ HN.out (by unfold maxLen; omega) hr hf).mono ?_
  rintro e w1 ⟨rfl, hb0⟩
  have HB1 := hid hb0
  have R1 := hid (hr.below hb0)
  have T1 := hid (hr1.below hb0)
  clear hb0
  by_cases hg : goodL ls = true
  · have h20 : n ≤ 20 := by have := (good_iff hg).1; have := HN.out; omega
    by_cases h1000 : n1 ≤ 1000
    · have HR := hid (selR_yes (b := b) hg (by rw [HN1.out]; exact h1000))
      rw [hg]
      clear hg
      go_wp2_with fail
      refine (f66 a a1 n c n1 c1 b ls ss _ HN.out h20 R1.out HN1.out hb1 T1.out).mono ?_
      rintro e w2 ⟨a', m, c', rfl, ho2, hb2⟩
      have HO := hid (own_base (base' := w.heap.size) ho2 HB1.out.size)
      have HB2 := hid (HB1.out.trans (hb2.mono HB1.out.size))
      clear ho2 hb2
      go_wp2
      go_ret
      exact ⟨a', m, c', rfl, by rw [HR.out]; exact HO.out, HB2.out⟩
    · have HR := hid (selR_no2 (ls := ls) (b := b) (ss := ss) (by rw [HN1.out]; omega))
      go_wp2
      go_ret
      exact ⟨none, 0, 0, rfl, by rw [HR.out]; exact World.ownsRow_nil _ _ _ _, HB1.out⟩
  · have hg' : goodL ls = false := by simpa using hg
    have HR := hid (selR_no1 (b := b) (ss := ss) hg')
    go_wp2
    go_ret
    exact ⟨none, 0, 0, rfl, by rw [HR.out]; exact World.ownsRow_nil _ _ _ _, HB1.out⟩

theorem f22 (a a1 : Option Addr) (n c n1 c1 : Nat) (ls : List Lb) (ss : List ByteArray) (w : World) (hn : ls.length = n) (hmax : n ≤ 1048576) (hr : HasL w a ls) (hf : Fit ls) (hn1 : ss.length = n1) (hb1 : n1 ≤ 1048576) (hr1 : HasT w a1 ss) :
    Calls Try.prog 22 #[.slice a n c, .slice a1 n1 c1] w fun e w' => ∃ a' m c', e = .returned (.slice a' m c') ∧ w'.ownsRow w.heap.size 64 2 (.slice a' m c') m (flat (selR ls ss false)) ∧ Below w.heap.size w w' := by
  go_enter Try.func22, Try.ntmps22
  go_wp2_with fail
  refine (f48 a a1 n c n1 c1 false ls ss _ hn hmax hr hf hn1 hb1 hr1).mono ?_
  rintro e w1 ⟨a', m, c', rfl, ho, hb⟩
  have HO := hid ho
  clear ho
  go_wp2
  go_ret
  exact ⟨a', m, c', rfl, HO.out, hb⟩
end Go.Proofs.Ytailoeloonnoeaa.Lab
/- A label put in its place: plain facts. -/
namespace Go.Proofs.Ytailoeloonnoeaa.Lab
open Go.RowKit Go.Proofs.Ytailoeloonnoeaa.Str

def cmpX (x : ByteArray) (p : Lb) : Int := Lib.compareBytes x.data.toList p.1.data.toList
theorem cmpX_eq (x : ByteArray) (p : Lb) : cmpX x p = - cmpN p (x, ByteArray.empty) := cb_neg _ _
def add1 (x v : ByteArray) (s : List Lb × Bool) (p : Lb) : List Lb × Bool := if s.2 = false ∧ cmpX x p ≤ 0 then (s.1 ++ [(x, v)], true) else s
def stepW (x v : ByteArray) (s : List Lb × Bool) (p : Lb) : List Lb × Bool := if p.1 = x then add1 x v s p else ((add1 x v s p).1 ++ [p], (add1 x v s p).2)
def endW (x v : ByteArray) (s : List Lb × Bool) : List Lb := if s.2 = false then s.1 ++ [(x, v)] else s.1
def withF (ls : List Lb) (x v : ByteArray) : List Lb := endW x v (ls.foldl (stepW x v) ([], decide (v = ByteArray.empty)))

theorem fold_done (x v : ByteArray) : ∀ (L out : List Lb), L.foldl (stepW x v) (out, true) = (out ++ L.filter (fun p => decide (p.1 ≠ x)), true) := by
  intro L
  induction L with
  | nil => intro out; simp
  | cons p L ih =>
    intro out
    rw [List.foldl_cons]
    have e : add1 x v (out, true) p = (out, true) := by unfold add1; rw [if_neg (by simp)]
    by_cases h : p.1 = x
    · have : stepW x v (out, true) p = (out, true) := by unfold stepW; rw [if_pos h, e]
      rw [this, ih, List.filter_cons_of_neg (by simp [h])]
    · have : stepW x v (out, true) p = (out ++ [p], true) := by unfold stepW; rw [if_neg h, e]
      rw [this, ih, List.filter_cons_of_pos (by simp [h])]
      simp
theorem fold_ahead (x v : ByteArray) : ∀ (L out : List Lb), (∀ p ∈ L, cmpN p (x, ByteArray.empty) < 0) → L.foldl (stepW x v) (out, false) = (out ++ L, false) := by
  intro L
  induction L with
  | nil => intro out _; simp
  | cons p L ih =>
    intro out h
    have hp := h p (by simp)
    have hne : ¬ p.1 = x := fun e => by rw [cmpN_eq (q := (x, ByteArray.empty)) e] at hp; omega
    have e : add1 x v (out, false) p = (out, false) := by unfold add1; rw [if_neg (by rw [cmpX_eq]; simp; omega)]
    have : stepW x v (out, false) p = (out ++ [p], false) := by unfold stepW; rw [if_neg hne, e]
    rw [List.foldl_cons, this, ih _ (fun q hq => h q (by simp [hq]))]
    simp

def fnd (ls : List Lb) (x : ByteArray) (lo : Nat) : Nat := if lo < ls.length ∧ cmpN (ls.getD lo e0) (x, ByteArray.empty) = 0 then 1 else 0
def ins (ls : List Lb) (x v : ByteArray) (lo : Nat) : List Lb := ls.take lo ++ (x, v) :: ls.drop (lo + fnd ls x lo)

theorem getD_mem_lt {ls : List Lb} {i : Nat} (h : i < ls.length) : ls.getD i e0 = ls[i] := by simp [h]
theorem filter_same (x : ByteArray) : ∀ (L : List Lb), (∀ p ∈ L, p.1 ≠ x) → L.filter (fun p => decide (p.1 ≠ x)) = L := by
  intro L h
  rw [List.filter_eq_self]
  intro p hp
  simpa using h p hp

theorem with_ins {ls : List Lb} {x v : ByteArray} {lo : Nat} (hg : GoodP ls) (hp : Place ls (x, ByteArray.empty) lo) (hv : v ≠ ByteArray.empty) : withF ls x v = ins ls x v lo := by
  have hle := hp.le
  have hA : ∀ p ∈ ls.take lo, cmpN p (x, ByteArray.empty) < 0 := by
    intro p h
    obtain ⟨i, hi, rfl⟩ := List.getElem_of_mem h
    have hi' : i < lo := by simp at hi; omega
    have := hp.less i hi'
    rw [getD_mem_lt (by omega)] at this
    simpa using this
  unfold withF
  rw [show decide (v = ByteArray.empty) = false from by simpa using hv, ← List.take_append_drop lo ls, List.foldl_append, List.take_append_drop, fold_ahead x v _ [] hA, List.nil_append]
  unfold ins
  by_cases hl : lo < ls.length
  · have hc := hp.geq hl
    rw [getD_mem_lt hl] at hc
    have hB : ∀ p ∈ ls.drop (lo + 1), p.1 ≠ x := by
      intro p h e
      obtain ⟨i, hi, rfl⟩ := List.getElem_of_mem h
      have hi' : lo + 1 + i < ls.length := by simp at hi; omega
      have h1 := rise_lt hg (show lo < lo + 1 + i by omega) hi'
      rw [getD_mem_lt hl, getD_mem_lt hi'] at h1
      have h2 : cmpN ls[lo] (x, ByteArray.empty) = cmpN ls[lo] ls[lo + 1 + i] := by
        unfold cmpN
        have : (ls.drop (lo + 1))[i].1 = ls[lo + 1 + i].1 := by simp
        rw [← this, e]
      omega
    rw [List.drop_eq_getElem_cons hl, List.foldl_cons]
    have e1 : add1 x v (ls.take lo, false) ls[lo] = (ls.take lo ++ [(x, v)], true) := by unfold add1; rw [if_pos (by rw [cmpX_eq]; simp; omega)]
    by_cases he : ls[lo].1 = x
    · have hf : fnd ls x lo = 1 := by unfold fnd; rw [if_pos ⟨hl, by rw [getD_mem_lt hl]; exact cmpN_eq he⟩]
      have : stepW x v (ls.take lo, false) ls[lo] = (ls.take lo ++ [(x, v)], true) := by unfold stepW; rw [if_pos he, e1]
      rw [this, fold_done, filter_same x _ hB, hf]
      unfold endW; rw [if_neg (by simp)]; simp
    · have hf : fnd ls x lo = 0 := by unfold fnd; rw [if_neg (fun h => he (by have := cmpN_zero h.2; rw [getD_mem_lt hl] at this; exact this))]
      have : stepW x v (ls.take lo, false) ls[lo] = (ls.take lo ++ [(x, v)] ++ [ls[lo]], true) := by unfold stepW; rw [if_neg he, e1]
      rw [this, fold_done, filter_same x _ hB, hf]
      unfold endW; rw [if_neg (by simp), show ls.drop (lo + 0) = ls[lo] :: ls.drop (lo + 1) from List.drop_eq_getElem_cons hl]; simp
  · have hd : ls.drop lo = [] := List.drop_eq_nil_of_le (by omega)
    have hd2 : ls.drop (lo + fnd ls x lo) = [] := List.drop_eq_nil_of_le (by omega)
    rw [hd, hd2]
    unfold endW; rw [List.foldl_nil, if_pos rfl]
theorem with_drop (ls : List Lb) (x : ByteArray) : withF ls x ByteArray.empty = selL [x] false ls := by
  unfold withF
  rw [show decide (ByteArray.empty = ByteArray.empty) = true from by simp, fold_done]
  unfold endW selL
  rw [if_neg (by simp), List.nil_append]
  show ls.filter _ = ls.filter _
  congr 1
  funext p
  by_cases h : p.1 = x
  · have : hasB [x] p.1 = true := has_yes (i := 0) (by simp) (by simp [h])
    rw [this]; simp [h]
  · have : hasB [x] p.1 = false := has_no (fun i hi e => by
      have : i = 0 := by simpa using hi
      subst this
      simp at e; exact h e.symm)
    rw [this]; simp [h]

theorem good_pair {ls : List Lb} (h : GoodP ls) : ls.Pairwise (fun p q => cmpN p q < 0) := by
  rw [List.pairwise_iff_getElem]
  intro i j hi hj hij
  have := rise_lt h hij hj
  rwa [getD_mem_lt hi, getD_mem_lt hj] at this
theorem good_filter {ls : List Lb} (h : GoodP ls) (f : Lb → Bool) : GoodP (ls.filter f) := by
  have hp := (good_pair h).filter f
  rw [List.pairwise_iff_getElem] at hp
  refine ⟨Nat.le_trans (List.length_filter_le f ls) h.1, fun i hi => ⟨?_, fun h0 => ?_⟩⟩
  · rw [getD_mem_lt hi]
    have hm := List.getElem_mem hi
    obtain ⟨j, hj, e⟩ := List.getElem_of_mem (List.mem_filter.1 hm).1
    rw [← e]
    have := (h.2 j hj).1
    rwa [getD_mem_lt hj] at this
  · rw [getD_mem_lt hi, getD_mem_lt (show i - 1 < _ by omega)]
    exact hp (i - 1) i (by omega) hi (by omega)
theorem place_exists (ls : List Lb) (x : Lb) : ∃ lo, Place ls x lo := by
  have key : ∀ m, m ≤ ls.length → (∀ i, i < m → cmpN (ls.getD i e0) x < 0) ∨ ∃ lo, Place ls x lo := by
    intro m
    induction m with
    | zero => intro _; exact .inl (fun i hi => by omega)
    | succ m ih =>
      intro hm
      rcases ih (by omega) with h | h
      · by_cases hc : cmpN (ls.getD m e0) x < 0
        · refine .inl (fun i hi => ?_)
          by_cases e : i = m
          · subst e; exact hc
          · exact h i (by omega)
        · exact .inr ⟨m, by omega, h, fun _ => by omega⟩
      · exact .inr h
  rcases key ls.length (Nat.le_refl _) with h | h
  · exact ⟨ls.length, Nat.le_refl _, h, fun h => by omega⟩
  · exact h
end Go.Proofs.Ytailoeloonnoeaa.Lab
/- What l2With comes to. -/
namespace Go.Proofs.Ytailoeloonnoeaa.Lab
open Go.RowKit Go.Proofs.Ytailoeloonnoeaa.Str

theorem box_grown {w w' : World} {k : Nat} {o : Obj} {r : Option Nat} (h : w.heap[k]? = some o) (hg : w.grownBy w' r) (hne : some k ≠ r) : w'.heap[k]? = some o := (hg.block k (lt_block h) hne).trans h
def stW (ls : List Lb) (x v : ByteArray) (k : Nat) : List Lb × Bool := (ls.take k).foldl (stepW x v) ([], decide (v = ByteArray.empty))
theorem stW_succ {ls : List Lb} {x v : ByteArray} {k : Nat} (hk : k < ls.length) : stW ls x v (k + 1) = stepW x v (stW ls x v k) (ls.getD k e0) := by
  unfold stW
  rw [List.take_succ_eq_append_getElem hk, List.foldl_append, getD_mem_lt hk]
  rfl
theorem st_eq1 {x v : ByteArray} {out : List Lb} {p : Lb} (h : p.1 = x) : stepW x v (out, true) p = (out, true) := by
  unfold stepW add1; rw [if_pos h, if_neg (by simp)]
theorem st_ne1 {x v : ByteArray} {out : List Lb} {p : Lb} (h : p.1 ≠ x) : stepW x v (out, true) p = (out ++ [p], true) := by
  unfold stepW add1; rw [if_neg h, if_neg (by simp)]
theorem st_eq2 {x v : ByteArray} {out : List Lb} {p : Lb} (hc : cmpX x p ≤ 0) (h : p.1 = x) : stepW x v (out, false) p = (out ++ [(x, v)], true) := by
  unfold stepW add1; rw [if_pos h, if_pos ⟨rfl, hc⟩]
theorem st_ne2 {x v : ByteArray} {out : List Lb} {p : Lb} (hc : cmpX x p ≤ 0) (h : p.1 ≠ x) : stepW x v (out, false) p = (out ++ [(x, v)] ++ [p], true) := by
  unfold stepW add1; rw [if_neg h, if_pos ⟨rfl, hc⟩]
theorem st_eq3 {x v : ByteArray} {out : List Lb} {p : Lb} (hc : ¬ cmpX x p ≤ 0) (h : p.1 = x) : stepW x v (out, false) p = (out, false) := by
  unfold stepW add1; rw [if_pos h, if_neg (fun g => hc g.2)]
theorem st_ne3 {x v : ByteArray} {out : List Lb} {p : Lb} (hc : ¬ cmpX x p ≤ 0) (h : p.1 ≠ x) : stepW x v (out, false) p = (out ++ [p], false) := by
  unfold stepW add1; rw [if_neg h, if_neg (fun g => hc g.2)]
theorem flat_snoc (A : List Lb) (p : Lb) : flat (A ++ [p]) = flat A ++ [.string p.1, .string p.2] := by rw [flat_append]; rfl
theorem str_empty (v : ByteArray) : v.toList.isEmpty = decide (v = ByteArray.empty) := by
  rw [Bool.eq_iff_iff, List.isEmpty_iff, decide_eq_true_iff, ByteArray.toList_eq]
  exact ⟨fun h => WideShapes.bytes_inj (by rw [h]; rfl), fun h => by rw [h]; rfl⟩
theorem str_eq' {a b : ByteArray} (h : a = b) : (a.toList != b.toList) = false := by rw [h]; simp
theorem str_ne' {a b : ByteArray} (h : a ≠ b) : (a.toList != b.toList) = true := by
  rw [bne, str_ne h]; rfl

set_option maxHeartbeats 8000000 in
set_option maxRecDepth 100000 in
theorem f14 (a : Option Addr) (n c : Nat) (ls : List Lb) (x v : ByteArray) (w : World) (hn : ls.length = n) (h20 : n ≤ 1048576) (hr : HasL w a ls) (hx : x.size ≤ maxLen) :
    Calls Try.prog 14 #[.slice a n c, .string x, .string v] w fun e w' => ∃ a' m c', e = .returned (.slice a' m c') ∧ w'.ownsRow w.heap.size 64 2 (.slice a' m c') m (flat (withF ls x v)) ∧ Below w.heap.size w w' := by
  obtain ⟨i0, hi, hz0, hz1, hz2⟩ := info_parts info50
  have HN := hid hn
  clear hn
  obtain ⟨d0, hd0⟩ : ∃ d0, d0 = decide (v = ByteArray.empty) := ⟨_, rfl⟩
  have hd1 : v.toList.isEmpty = d0 := by rw [hd0]; exact str_empty v
  have HD := hid hd0
  clear hd0
  go_enter Try.func14, Try.ntmps14
  go_wp2
  go_loopw [7, 8, 15] (fun so sd si wr => ∃ (k m c' : Nat) (a' : Option Addr) (out : List Lb) (d : Bool), k ≤ n ∧ m ≤ 2 * k ∧ si = .int .i64 k ∧ so = .slice a' m c' ∧ sd = .bool d ∧ Hid (stW ls x v k = (out, d)) ∧ wr.ownsRow w.heap.size 64 2 (.slice a' m c') m (flat out) ∧ Below w.heap.size w wr) (fun _ _ si _ => n - (intOf si).toNat)
  case atStart => exact ⟨0, 0, 0, none, [], d0, Nat.zero_le _, Nat.le_refl _, rfl, rfl, rfl, by unfold Hid stW; rw [HD.out]; rfl, World.ownsRow_nil _ _ _ _, Below.refl _ _⟩
  case round =>
    obtain ⟨k, m, c', a', out, d, hk, hm, rfl, rfl, rfl, hst, hown, hnx⟩ := hrel
    have HX := hid hnx
    have HO := hid hown
    by_cases hlt : k < n
    · rcases hr with hr | ⟨b, off, rfl, hbl, hc⟩
      · exact absurd HN.out (by rw [hr]; simp; omega)
      obtain ⟨c0, c1⟩ := hc k (by rw [HN.out]; exact hlt)
      have d0' := (hnx.cell (p := ⟨b, off + k * 2, none⟩) hbl).trans c0
      have d1' := (hnx.cell (p := ⟨b, off + k * 2 + 1, none⟩) hbl).trans c1
      have HSU : Hid (stW ls x v (k + 1) = stepW x v (out, d) (ls.getD k e0)) := by unfold Hid; rw [stW_succ (by rw [HN.out]; exact hlt), hst.out]
      have BO : Hid (∀ j, (Value.slice a' m c').ownBlock = some j → j < wr.heap.size) := fun j hj => (HO.out.lt j hj).2
      clear hc c0 c1 hnx hown
      generalize ls.getD k e0 = p at *
      have HB1 := hid (heap_alloc_new wr (.cells #[.string p.1, .string p.2] 64))
      have HO1 := hid (HO.out.alloc (.cells #[.string p.1, .string p.2] 64))
      have HX1 := hid (HX.out.alloc HX.out.size (.cells #[.string p.1, .string p.2] 64))
      by_cases he : p.1 = x
      · have he' : (p.1.toList != x.toList) = false := str_eq' he
        have he2 : (p.1.toList == x.toList) = true := str_eq he
        have HE := hid he
        clear he
        cases d with
        | true =>
          go_wp2
          go_roundw
          case rel => exact ⟨k + 1, m, c', a', out, true, by omega, by omega, by go_num, rfl, rfl, by unfold Hid; rw [HSU.out]; exact st_eq1 HE.out, HO1.out, HX1.out⟩
          case measure => simp [intOf]; omega
        | false =>
          go_wp2_with fail
          refine (f39 x p.1 _ hx).mono ?_
          rintro e w2 ⟨rfl, q, hw2⟩
          have hb2 : Below (wr.alloc (.cells #[.string p.1, .string p.2] 64)).heap.size (wr.alloc (.cells #[.string p.1, .string p.2] 64)) w2 := by rw [hw2]; exact below_drewN (Below.refl _ _) q
          have HB2 := hid (box_below HB1.out hb2)
          have HO2 := hid (own_below HO1.out hb2)
          have HX2 := hid (HX1.out.trans (hb2.mono (by have := HX.out.size; simp; omega)))
          have q0 := two0 HB2.out
          have q1 := two1 HB2.out
          have l2 := lt_block HB2.out
          have hs2 := HX2.out.size
          clear hb2 hw2
          by_cases hcx : cmpX x p ≤ 0
          · have hcx' : Lib.compareBytes x.data.toList p.1.data.toList ≤ 0 := hcx
            go_wp2_with (at_builtin; refine wpList_append_own _ rfl (.tmp 28) (.tmp 32) 37 rfl w.heap.size 64 i0 (.agg #[.string ByteArray.empty, .string ByteArray.empty]) 2 32 Try.underlying37 hi hz0 hz1 hz2 rfl (by decide) _ _ _ rfl (HO2.out.alloc _) ⟨w2.heap.size, 0, none⟩ 1 1 [.string x, .string v] rfl rfl ?d1 ?d2 ?d3 ?d4 ?d5 ?_)
            case d1 =>
              have := two_new w2 (.string x) (.string v) 64
              try simp only [World.size_alloc] at this
              exact this
            case d2 => intro u hu; simp at hu; rcases hu with rfl | rfl <;> rfl
            case d3 => unfold maxLen; omega
            case d4 => omega
            case d5 => have := HX2.out.size; simp; omega
            intro v3 w3 hown3 hgr3 _
            obtain ⟨a3, c3, rfl⟩ := own_form hown3
            have HO3 : Hid (w3.ownsRow w.heap.size 64 2 (.slice a3 (m + 1) c3) (m + 1) (flat (out ++ [(x, v)]))) := by unfold Hid; rw [flat_snoc]; exact hown3
            have HX3 := hid ((HX2.out.alloc HX2.out.size (.cells #[.string x, .string v] 64)).grown hgr3 (by simp; omega) (fun j hj => (HO.out.lt j hj).1))
            have HB3 := hid (box_grown (box_alloc HB2.out (.cells #[.string x, .string v] 64)) hgr3 (fun e => by have := BO.out _ e.symm; omega))
            have q30 := two0 HB3.out
            have q31 := two1 HB3.out
            have l3 := lt_block HB3.out
            have hs3 := HX3.out.size
            clear hown3 hgr3 q0 q1
            go_wp2
            go_roundw
            case rel => exact ⟨k + 1, m + 1, c3, a3, out ++ [(x, v)], true, by omega, by omega, by go_num, rfl, rfl, by unfold Hid; rw [HSU.out]; exact st_eq2 hcx HE.out, HO3.out, HX3.out⟩
            case measure => simp [intOf]; omega
          · have hcx' : ¬ Lib.compareBytes x.data.toList p.1.data.toList ≤ 0 := hcx
            go_wp2
            go_roundw
            case rel => exact ⟨k + 1, m, c', a', out, false, by omega, by omega, by go_num, rfl, rfl, by unfold Hid; rw [HSU.out]; exact st_eq3 (by omega) HE.out, HO2.out, HX2.out⟩
            case measure => simp [intOf]; omega
      · have he' : (p.1.toList != x.toList) = true := str_ne' he
        have he2 : (p.1.toList == x.toList) = false := str_ne he
        have HE := hid he
        clear he
        cases d with
        | true =>
          go_wp2_with (at_builtin; refine wpList_append_own _ rfl (.tmp 38) (.tmp 40) 37 rfl w.heap.size 64 i0 (.agg #[.string ByteArray.empty, .string ByteArray.empty]) 2 32 Try.underlying37 hi hz0 hz1 hz2 rfl (by decide) _ _ _ rfl (HO1.out.alloc _) ⟨wr.heap.size + 1, 0, none⟩ 1 1 [.string p.1, .string p.2] rfl rfl ?d1 ?d2 ?d3 ?d4 ?d5 ?_)
          case d1 =>
            have := two_new (wr.alloc (.cells #[.string p.1, .string p.2] 64)) (.string p.1) (.string p.2) 64
            try simp only [World.size_alloc] at this
            exact this
          case d2 => intro u hu; simp at hu; rcases hu with rfl | rfl <;> rfl
          case d3 => unfold maxLen; omega
          case d4 => omega
          case d5 => have := HX.out.size; simp; omega
          intro v3 w3 hown3 hgr3 _
          obtain ⟨a3, c3, rfl⟩ := own_form hown3
          have HO3 : Hid (w3.ownsRow w.heap.size 64 2 (.slice a3 (m + 1) c3) (m + 1) (flat (out ++ [p]))) := by unfold Hid; rw [flat_snoc]; exact hown3
          have HX3 := hid ((HX1.out.alloc (by have := HX.out.size; simp; omega) (.cells #[.string p.1, .string p.2] 64)).grown hgr3 (by have := HX.out.size; simp; omega) (fun j hj => (HO.out.lt j hj).1))
          clear hown3 hgr3
          go_wp2
          go_roundw
          case rel => exact ⟨k + 1, m + 1, c3, a3, out ++ [p], true, by omega, by omega, by go_num, rfl, rfl, by unfold Hid; rw [HSU.out]; exact st_ne1 HE.out, HO3.out, HX3.out⟩
          case measure => simp [intOf]; omega
        | false =>
          go_wp2_with fail
          refine (f39 x p.1 _ hx).mono ?_
          rintro e w2 ⟨rfl, q, hw2⟩
          have hb2 : Below (wr.alloc (.cells #[.string p.1, .string p.2] 64)).heap.size (wr.alloc (.cells #[.string p.1, .string p.2] 64)) w2 := by rw [hw2]; exact below_drewN (Below.refl _ _) q
          have HB2 := hid (box_below HB1.out hb2)
          have HO2 := hid (own_below HO1.out hb2)
          have HX2 := hid (HX1.out.trans (hb2.mono (by have := HX.out.size; simp; omega)))
          have q0 := two0 HB2.out
          have q1 := two1 HB2.out
          have l2 := lt_block HB2.out
          have hs2 := HX2.out.size
          clear hb2 hw2
          by_cases hcx : cmpX x p ≤ 0
          · have hcx' : Lib.compareBytes x.data.toList p.1.data.toList ≤ 0 := hcx
            go_wp2_with (at_builtin; refine wpList_append_own _ rfl (.tmp 28) (.tmp 32) 37 rfl w.heap.size 64 i0 (.agg #[.string ByteArray.empty, .string ByteArray.empty]) 2 32 Try.underlying37 hi hz0 hz1 hz2 rfl (by decide) _ _ _ rfl (HO2.out.alloc _) ⟨w2.heap.size, 0, none⟩ 1 1 [.string x, .string v] rfl rfl ?d1 ?d2 ?d3 ?d4 ?d5 ?_)
            case d1 =>
              have := two_new w2 (.string x) (.string v) 64
              try simp only [World.size_alloc] at this
              exact this
            case d2 => intro u hu; simp at hu; rcases hu with rfl | rfl <;> rfl
            case d3 => unfold maxLen; omega
            case d4 => omega
            case d5 => have := HX2.out.size; simp; omega
            intro v3 w3 hown3 hgr3 _
            obtain ⟨a3, c3, rfl⟩ := own_form hown3
            have HO3 : Hid (w3.ownsRow w.heap.size 64 2 (.slice a3 (m + 1) c3) (m + 1) (flat (out ++ [(x, v)]))) := by unfold Hid; rw [flat_snoc]; exact hown3
            have HX3 := hid ((HX2.out.alloc HX2.out.size (.cells #[.string x, .string v] 64)).grown hgr3 (by simp; omega) (fun j hj => (HO.out.lt j hj).1))
            have HB3 := hid (box_grown (box_alloc HB2.out (.cells #[.string x, .string v] 64)) hgr3 (fun e => by have := BO.out _ e.symm; omega))
            have q30 := two0 HB3.out
            have q31 := two1 HB3.out
            have l3 := lt_block HB3.out
            have hs3 := HX3.out.size
            clear hown3 hgr3 q0 q1
            go_wp2_with (at_builtin; refine wpList_append_own _ rfl (.tmp 38) (.tmp 40) 37 rfl w.heap.size 64 i0 (.agg #[.string ByteArray.empty, .string ByteArray.empty]) 2 32 Try.underlying37 hi hz0 hz1 hz2 rfl (by decide) _ _ _ rfl (HO3.out.alloc _) ⟨w3.heap.size, 0, none⟩ 1 1 [.string p.1, .string p.2] rfl rfl ?d1 ?d2 ?d3 ?d4 ?d5 ?_)
            case d1 =>
              have := two_new w3 (.string p.1) (.string p.2) 64
              try simp only [World.size_alloc] at this
              exact this
            case d2 => intro u hu; simp at hu; rcases hu with rfl | rfl <;> rfl
            case d3 => unfold maxLen; omega
            case d4 => omega
            case d5 => have := HX3.out.size; simp; omega
            intro v4 w4 hown4 hgr4 _
            obtain ⟨a4, c4, rfl⟩ := own_form hown4
            have HO4 : Hid (w4.ownsRow w.heap.size 64 2 (.slice a4 (m + 1 + 1) c4) (m + 1 + 1) (flat (out ++ [(x, v)] ++ [p]))) := by unfold Hid; rw [flat_snoc]; exact hown4
            have HX4 := hid ((HX3.out.alloc HX3.out.size (.cells #[.string p.1, .string p.2] 64)).grown hgr4 (by simp; omega) (fun j hj => (HO3.out.lt j hj).1))
            clear hown4 hgr4
            go_wp2
            go_roundw
            case rel => exact ⟨k + 1, m + 1 + 1, c4, a4, out ++ [(x, v)] ++ [p], true, by omega, by omega, by go_num, rfl, rfl, by unfold Hid; rw [HSU.out]; exact st_ne2 hcx HE.out, HO4.out, HX4.out⟩
            case measure => simp [intOf]; omega
          · have hcx' : ¬ Lib.compareBytes x.data.toList p.1.data.toList ≤ 0 := hcx
            go_wp2_with (at_builtin; refine wpList_append_own _ rfl (.tmp 38) (.tmp 40) 37 rfl w.heap.size 64 i0 (.agg #[.string ByteArray.empty, .string ByteArray.empty]) 2 32 Try.underlying37 hi hz0 hz1 hz2 rfl (by decide) _ _ _ rfl (HO2.out.alloc _) ⟨w2.heap.size, 0, none⟩ 1 1 [.string p.1, .string p.2] rfl rfl ?d1 ?d2 ?d3 ?d4 ?d5 ?_)
            case d1 =>
              have := two_new w2 (.string p.1) (.string p.2) 64
              try simp only [World.size_alloc] at this
              exact this
            case d2 => intro u hu; simp at hu; rcases hu with rfl | rfl <;> rfl
            case d3 => unfold maxLen; omega
            case d4 => omega
            case d5 => have := HX2.out.size; simp; omega
            intro v3 w3 hown3 hgr3 _
            obtain ⟨a3, c3, rfl⟩ := own_form hown3
            have HO3 : Hid (w3.ownsRow w.heap.size 64 2 (.slice a3 (m + 1) c3) (m + 1) (flat (out ++ [p]))) := by unfold Hid; rw [flat_snoc]; exact hown3
            have HX3 := hid ((HX2.out.alloc HX2.out.size (.cells #[.string p.1, .string p.2] 64)).grown hgr3 (by simp; omega) (fun j hj => (HO.out.lt j hj).1))
            clear hown3 hgr3
            go_wp2
            go_roundw
            case rel => exact ⟨k + 1, m + 1, c3, a3, out ++ [p], false, by omega, by omega, by go_num, rfl, rfl, by unfold Hid; rw [HSU.out]; exact st_ne3 (by omega) HE.out, HO3.out, HX3.out⟩
            case measure => simp [intOf]; omega
    · have hkn : k = n := by omega
      have HEND : Hid (withF ls x v = endW x v (out, d)) := by
        unfold Hid withF
        have := hst.out
        unfold stW at this
        rw [List.take_of_length_le (by rw [HN.out]; omega)] at this
        rw [this]
      cases d with
      | true =>
        go_wp2
        go_ret
        exact ⟨a', m, c', rfl, by rw [HEND.out]; exact HO.out, HX.out⟩
      | false =>
        go_wp2_with (at_builtin; refine wpList_append_own _ rfl (.tmp 45) (.tmp 49) 37 rfl w.heap.size 64 i0 (.agg #[.string ByteArray.empty, .string ByteArray.empty]) 2 32 Try.underlying37 hi hz0 hz1 hz2 rfl (by decide) _ _ _ rfl (HO.out.alloc _) ⟨wr.heap.size, 0, none⟩ 1 1 [.string x, .string v] rfl rfl ?d1 ?d2 ?d3 ?d4 ?d5 ?_)
        case d1 =>
          have := two_new wr (.string x) (.string v) 64
          try simp only [World.size_alloc] at this
          exact this
        case d2 => intro u hu; simp at hu; rcases hu with rfl | rfl <;> rfl
        case d3 => unfold maxLen; omega
        case d4 => omega
        case d5 => have := HX.out.size; simp; omega
        intro v3 w3 hown3 hgr3 _
        obtain ⟨a3, c3, rfl⟩ := own_form hown3
        have HO3 : Hid (w3.ownsRow w.heap.size 64 2 (.slice a3 (m + 1) c3) (m + 1) (flat (out ++ [(x, v)]))) := by unfold Hid; rw [flat_snoc]; exact hown3
        have HX3 := hid ((HX.out.alloc HX.out.size (.cells #[.string x, .string v] 64)).grown hgr3 (by have := HX.out.size; simp; omega) (fun j hj => (HO.out.lt j hj).1))
        clear hown3 hgr3
        go_wp2
        go_ret
        exact ⟨a3, m + 1, c3, rfl, by rw [HEND.out]; exact HO3.out, HX3.out⟩
end Go.Proofs.Ytailoeloonnoeaa.Lab
