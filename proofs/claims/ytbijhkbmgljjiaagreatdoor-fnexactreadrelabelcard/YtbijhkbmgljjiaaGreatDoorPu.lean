/- Of the text of a good rule its parts are read back, one after the other: plain facts of lists of bytes (for ReadRelabel). -/
import Derived.Test.YtbijhkbmgljjiaaGreatDoorRt
namespace Go.Proofs.YtbijhkbmgljjiaaGreatDoor.Rel
open Go.RowKit Go.Proofs.YtbijhkbmgljjiaaGreatDoor.Fil

/-- A sign that stands next: what is behind it. -/
def sgn (v l : List UInt8) : Option (List UInt8) := if v.isPrefixOf l = true then some (l.drop v.length) else none
/-- As many bytes of names as stand next, and what is behind them. -/
def wrd (l : List UInt8) : List UInt8 × List UInt8 := (l.takeWhile Pat.nbC, l.dropWhile Pat.nbC)
/-- A quoted text behind its first quote, and what is behind it. -/
def unq : List UInt8 → Option (List UInt8 × List UInt8)
  | [] => none
  | [c] => if c = 34 then some ([], []) else none
  | c :: d :: r => if c = 34 then some ([], d :: r) else if c = 92 then (if d = 34 ∨ d = 92 then (unq r).map fun p => (d :: p.1, p.2) else none) else (unq (d :: r)).map fun p => (c :: p.1, p.2)
def quo : List UInt8 → Option (List UInt8 × List UInt8)
  | [] => none
  | c :: r => if c = 34 then unq r else none
/-- The quoted text behind a sign, the empty text where the sign does not stand next. -/
def beh (v l : List UInt8) : Option (List UInt8 × List UInt8) := match sgn v l with
  | none => some ([], l)
  | some r => quo r

theorem sgn_app (v l : List UInt8) : sgn v (v ++ l) = some l := by
  unfold sgn
  rw [if_pos (by rw [List.isPrefixOf_iff_prefix]; exact List.prefix_append _ _)]
  simp
theorem take_all {u : List UInt8} (h : ∀ c ∈ u, Pat.nbC c = true) (l : List UInt8) : (u ++ l).takeWhile Pat.nbC = u ++ l.takeWhile Pat.nbC ∧ (u ++ l).dropWhile Pat.nbC = l.dropWhile Pat.nbC := by
  induction u with
  | nil => exact ⟨rfl, rfl⟩
  | cons c r ih =>
    have hc := h c (by simp)
    obtain ⟨h1, h2⟩ := ih (fun x hx => h x (by simp [hx]))
    simp only [List.cons_append, List.takeWhile_cons, List.dropWhile_cons, hc, if_true, h1, h2]
    exact ⟨trivial, trivial⟩
/-- What ends a word: nothing, or a byte that is none of a name. -/
def Ends (l : List UInt8) : Prop := l = [] ∨ ∃ c r, l = c :: r ∧ Pat.nbC c = false
theorem wrd_app {u l : List UInt8} (h : ∀ c ∈ u, Pat.nbC c = true) (hl : Ends l) : wrd (u ++ l) = (u, l) := by
  obtain ⟨h1, h2⟩ := take_all h l
  unfold wrd
  rw [h1, h2]
  rcases hl with rfl | ⟨c, r, rfl, hc⟩
  · simp
  · simp [hc]
theorem unq_cons (c : UInt8) (r : List UInt8) (h1 : c ≠ 34) (h2 : c ≠ 92) : unq (c :: r) = (unq r).map fun p => (c :: p.1, p.2) := by
  cases r with
  | nil => simp [unq, h1]
  | cons d r => rw [unq, if_neg h1, if_neg h2]
theorem unq_end (r : List UInt8) : unq (34 :: r) = some ([], r) := by
  cases r with
  | nil => rfl
  | cons d r => rfl
theorem unq_esc : ∀ (v l : List UInt8), unq (v.flatMap esc ++ 34 :: l) = some (v, l)
  | [], l => unq_end l
  | c :: v, l => by
    have ih := unq_esc v l
    simp only [List.flatMap_cons, List.append_assoc]
    by_cases hc : c = 34 ∨ c = 92
    · have e : esc c = [92, c] := by unfold esc; rw [if_pos hc]
      rw [e]
      show unq (92 :: c :: (v.flatMap esc ++ 34 :: l)) = _
      rw [unq, if_neg (by decide), if_pos rfl, if_pos hc, ih]
      rfl
    · have e : esc c = [c] := by unfold esc; rw [if_neg hc]
      rw [e]
      show unq (c :: (v.flatMap esc ++ 34 :: l)) = _
      rw [unq_cons c _ (fun h => hc (.inl h)) (fun h => hc (.inr h)), ih]
      rfl
theorem quo_back (v l : List UInt8) : quo (quoB v ++ l) = some (v, l) := by
  unfold quoB quoP
  show quo (34 :: (v.flatMap esc ++ [34] ++ l)) = _
  rw [quo, if_pos rfl, List.append_assoc]
  exact unq_esc v l

/-- Nothing, or a blank and one of K next. -/
def Hd (K : List UInt8) (l : List UInt8) : Prop := l = [] ∨ ∃ k r, l = 32 :: k :: r ∧ k ∈ K
theorem Hd.ends {K l : List UInt8} (h : Hd K l) : Ends l := by
  rcases h with rfl | ⟨k, r, rfl, _⟩
  · exact .inl rfl
  · exact .inr ⟨32, _, rfl, by decide⟩
theorem Hd.mono {K K' l : List UInt8} (h : Hd K l) (hs : ∀ k ∈ K, k ∈ K') : Hd K' l := by
  rcases h with rfl | ⟨k, r, rfl, hk⟩
  · exact .inl rfl
  · exact .inr ⟨k, r, rfl, hs k hk⟩
theorem sgn_no {K l v : List UInt8} {k : UInt8} (h : Hd K l) (hk : k ∉ K) : sgn (32 :: k :: v) l = none := by
  unfold sgn
  rw [if_neg]
  rcases h with rfl | ⟨k', r, rfl, hk'⟩
  · simp
  · intro e
    rw [List.isPrefixOf_iff_prefix] at e
    obtain ⟨t, ht⟩ := e
    simp only [List.cons_append, List.cons.injEq, true_and] at ht
    exact hk (ht.1 ▸ hk')

def t5 (r : Rule) : List UInt8 := pM r.md
def t4 (r : Rule) : List UInt8 := pQ [32, 97, 115, 32] r.val ++ t5 r
def t3 (r : Rule) : List UInt8 := pT r.tgt ++ t4 r
def t2 (r : Rule) : List UInt8 := pQ [32, 108, 105, 107, 101, 32] r.pat ++ t3 r
def t1 (r : Rule) : List UInt8 := pQ [32, 115, 101, 112, 32] r.sep ++ t2 r
def t0 (r : Rule) : List UInt8 := pF r.from' ++ t1 r
theorem txt_tail (r : Rule) : txtR r = wd r.act ++ t0 r := by
  unfold txtR x5 x4 x3 x2 x1 t0 t1 t2 t3 t4 t5
  simp only [List.append_assoc]
theorem hd_pQ {K l : List UInt8} (k : UInt8) (w : List UInt8) (s : ByteArray) (h : Hd K l) : Hd (k :: K) (pQ (32 :: k :: w) s ++ l) := by
  unfold pQ
  split
  · exact h.mono (fun x hx => by simp [hx])
  · exact .inr ⟨k, _, rfl, by simp⟩
theorem hd5 (r : Rule) : Hd [98] (t5 r) := by
  unfold t5 pM
  split
  · exact .inl rfl
  · exact .inr ⟨98, _, rfl, by simp⟩
theorem hd4 (r : Rule) : Hd [97, 98] (t4 r) := hd_pQ 97 _ _ (hd5 r)
theorem hd3 (r : Rule) : Hd [116, 97, 98] (t3 r) := by
  unfold t3 pT
  split
  · exact (hd4 r).mono (fun x hx => by simp [hx])
  · exact .inr ⟨116, _, rfl, by simp⟩
theorem hd2 (r : Rule) : Hd [108, 116, 97, 98] (t2 r) := hd_pQ 108 _ _ (hd3 r)
theorem hd1 (r : Rule) : Hd [115, 108, 116, 97, 98] (t1 r) := hd_pQ 115 _ _ (hd2 r)
theorem hd0 (r : Rule) : Hd [102, 115, 108, 116, 97, 98] (t0 r) := by
  unfold t0 pF
  split
  · exact (hd1 r).mono (fun x hx => by simp [hx])
  · exact .inr ⟨102, _, rfl, by simp⟩
theorem em_nil {s : ByteArray} (h : em s = true) : s.data.toList = [] := by
  unfold em at h
  rw [List.isEmpty_iff, ByteArray.toList_eq] at h
  exact h
theorem beh_pQ {K l : List UInt8} {k : UInt8} {w : List UInt8} (s : ByteArray) (h : Hd K l) (hk : k ∉ K) : beh (32 :: k :: w) (pQ (32 :: k :: w) s ++ l) = some (s.data.toList, l) := by
  unfold pQ
  by_cases he : em s = true
  · rw [if_pos he, List.nil_append]
    unfold beh
    rw [sgn_no h hk, em_nil he]
  · rw [if_neg he, List.append_assoc]
    unfold beh
    rw [sgn_app]
    exact quo_back _ _
theorem back_sep (r : Rule) : beh [32, 115, 101, 112, 32] (t1 r) = some (r.sep.data.toList, t2 r) := beh_pQ r.sep (hd2 r) (by decide)
theorem back_pat (r : Rule) : beh [32, 108, 105, 107, 101, 32] (t2 r) = some (r.pat.data.toList, t3 r) := beh_pQ r.pat (hd3 r) (by decide)
theorem back_val (r : Rule) : beh [32, 97, 115, 32] (t4 r) = some (r.val.data.toList, t5 r) := beh_pQ r.val (hd5 r) (by decide)
theorem nm_all {s : ByteArray} (h : nm s = true) : ∀ c ∈ s.data.toList, Pat.nbC c = true := by
  unfold nm Pat.nameL at h
  simp only [Bool.and_eq_true] at h
  exact List.all_eq_true.1 h.2
theorem back_to_no (r : Rule) (h : em r.tgt = true) : sgn [32, 116, 111, 32] (t3 r) = none ∧ t3 r = t4 r := by
  have e : t3 r = t4 r := by unfold t3; rw [pT_yes h]; rfl
  exact ⟨by rw [e]; exact sgn_no (hd4 r) (by decide), e⟩
theorem back_to_yes (r : Rule) (h : em r.tgt = false) (hn : nm r.tgt = true) : ∃ l, sgn [32, 116, 111, 32] (t3 r) = some l ∧ wrd l = (r.tgt.data.toList, t4 r) := by
  refine ⟨r.tgt.data.toList ++ t4 r, ?_, wrd_app (nm_all hn) (hd4 r).ends⟩
  unfold t3
  rw [pT_no h, List.append_assoc]
  exact sgn_app _ _
theorem back_by_no (r : Rule) (h : r.md = 0) : t5 r = [] := by unfold t5 pM; rw [if_pos h]
theorem back_by_yes (r : Rule) (h : r.md ≠ 0) : sgn [32, 98, 121, 32] (t5 r) = some (Lib.itoa r.md) := by
  have : t5 r = [32, 98, 121, 32] ++ Lib.itoa r.md := by unfold t5 pM; rw [if_neg h]
  rw [this]; exact sgn_app _ _
theorem wd_all (A : Int) (h : 1 ≤ A ∧ A ≤ 8) : ∀ c ∈ wd A, Pat.nbC c = true := by
  rcases (show A = 1 ∨ A = 2 ∨ A = 3 ∨ A = 4 ∨ A = 5 ∨ A = 6 ∨ A = 7 ∨ A = 8 by omega) with rfl | rfl | rfl | rfl | rfl | rfl | rfl | rfl
  all_goals decide
theorem back_word (r : Rule) (h : 1 ≤ r.act ∧ r.act ≤ 8) : wrd (txtR r) = (wd r.act, t0 r) := by
  rw [txt_tail]
  exact wrd_app (wd_all _ h) (hd0 r).ends

/-- Words with a comma between; so many commas at most. -/
def wrds : Nat → List UInt8 → List (List UInt8) × List UInt8
  | 0, l => ([(wrd l).1], (wrd l).2)
  | n + 1, l => match sgn [44] (wrd l).2 with
    | none => ([(wrd l).1], (wrd l).2)
    | some r => ((wrd l).1 :: (wrds n r).1, (wrds n r).2)
theorem jn_one (x : ByteArray) : jn [x] = x.data.toList := by simp [jn, Lib.join_one]
theorem jn_more (x y : ByteArray) (r : List ByteArray) : jn (x :: y :: r) = x.data.toList ++ 44 :: jn (y :: r) := by
  unfold jn
  simp only [List.map_cons, Lib.join_cons]
  simp [Lib.joinTail]
theorem comma_no {K l : List UInt8} (h : Hd K l) : sgn [44] l = none := by
  unfold sgn
  rw [if_neg]
  rcases h with rfl | ⟨k, r, rfl, _⟩
  · simp
  · intro e
    rw [List.isPrefixOf_iff_prefix] at e
    obtain ⟨t, ht⟩ := e
    simp at ht
theorem words_back {K l : List UInt8} (hl : Hd K l) : ∀ (n : Nat) (x : ByteArray) (ss : List ByteArray), ss.length ≤ n → (∀ y ∈ x :: ss, nm y = true) → wrds n (jn (x :: ss) ++ l) = ((x :: ss).map (·.data.toList), l)
  | n, x, [], _, hx => by
    have hw := wrd_app (nm_all (hx x (by simp))) hl.ends
    rw [jn_one]
    cases n with
    | zero => rw [wrds, hw]; rfl
    | succ n => rw [wrds, hw]; simp only [comma_no hl]; rfl
  | 0, x, y :: r, hn, _ => by simp at hn
  | n + 1, x, y :: r, hn, hx => by
    have ih := words_back hl n y r (by simpa using hn) (fun z hz => hx z (by simp at hz ⊢; exact .inr hz))
    have e : jn (x :: y :: r) ++ l = x.data.toList ++ (44 :: (jn (y :: r) ++ l)) := by rw [jn_more]; simp
    have hw := wrd_app (l := 44 :: (jn (y :: r) ++ l)) (nm_all (hx x (by simp))) (.inr ⟨44, _, rfl, by decide⟩)
    rw [e, wrds, hw]
    have hs : sgn [44] (44 :: (jn (y :: r) ++ l)) = some (jn (y :: r) ++ l) := sgn_app [44] _
    simp only [hs, ih]
    rfl
theorem back_from_no (r : Rule) (h : r.from' = []) : sgn [32, 102, 114, 111, 109, 32] (t0 r) = none ∧ t0 r = t1 r := by
  have e : t0 r = t1 r := by unfold t0 pF; rw [h]; rfl
  exact ⟨by rw [e]; exact sgn_no (hd1 r) (by decide), e⟩
theorem back_from_yes (r : Rule) (n : Nat) (h : r.from' ≠ []) (hn : r.from'.length ≤ n + 1) (ha : namesB r.from' = true) :
    ∃ l, sgn [32, 102, 114, 111, 109, 32] (t0 r) = some l ∧ wrds n l = (r.from'.map (·.data.toList), t1 r) := by
  obtain ⟨A, ss, sep, pat, tgt, val, md⟩ := r
  simp only at h hn ha
  match ss, h with
  | x :: ss, _ =>
    refine ⟨jn (x :: ss) ++ t1 ⟨A, x :: ss, sep, pat, tgt, val, md⟩, ?_, words_back (hd1 _) n x ss (by simpa using hn) (fun y hy => List.all_eq_true.1 ha y hy)⟩
    have e : t0 ⟨A, x :: ss, sep, pat, tgt, val, md⟩ = [32, 102, 114, 111, 109, 32] ++ (jn (x :: ss) ++ t1 ⟨A, x :: ss, sep, pat, tgt, val, md⟩) := by
      unfold t0 pF
      simp only
      rw [if_neg (by simp), List.append_assoc]
    rw [e]
    exact sgn_app _ _
end Go.Proofs.YtbijhkbmgljjiaaGreatDoor.Rel
