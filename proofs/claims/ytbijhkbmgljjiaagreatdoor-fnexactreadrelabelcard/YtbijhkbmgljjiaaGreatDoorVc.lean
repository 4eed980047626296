/- The program's reader of texts, told by what is left: sign, word, quoted. -/
import Derived.Test.YtbijhkbmgljjiaaGreatDoorVb
import Derived.Test.YtbijhkbmgljjiaaGreatDoorPu
namespace Go.Proofs.YtbijhkbmgljjiaaGreatDoor.Rdd
open Go.RowKit Go.Proofs.YtbijhkbmgljjiaaGreatDoor.Pat

/-- The reader at block R, of the text s; what is left is l. -/
def Rd (R : Nat) (s : ByteArray) (l : List UInt8) (w : World) : Prop := ∃ t, Rdr R s t w ∧ (by' s).drop t = l

theorem sgn_pfx (v : ByteArray) (l : List UInt8) : Rel.sgn v.data.toList l = if pfx l v = true then some (l.drop v.size) else none := by
  unfold Rel.sgn
  have e : v.data.toList.length = v.size := by simp
  have hp : v.data.toList.isPrefixOf l = pfx l v := by
    unfold pfx
    rw [Bool.eq_iff_iff, List.isPrefixOf_iff_prefix, List.prefix_iff_eq_take, e, decide_eq_true_iff]
    exact eq_comm
  rw [hp, e]
theorem f35Y (R : Nat) (s v : ByteArray) (l l' : List UInt8) (w : World) (hs : s.size ≤ 1048576) (hv : v.size ≤ 100) (h : Rd R s l w) (hc : Rel.sgn v.data.toList l = some l') : Calls Tryz.prog 35 #[.pointer (some ⟨R, 0, none⟩), .string v] w fun e w' => e = .returned (.bool true) ∧ Rd R s l' w' ∧ w.grownBy w' (some R) := by
  obtain ⟨t, h, rfl⟩ := h
  rw [sgn_pfx] at hc
  split at hc
  · rename_i hp
    refine (f35g R s v t w hs hv h hp).mono ?_
    rintro e w' ⟨rfl, h1, h2⟩
    refine ⟨rfl, ⟨_, h1, ?_⟩, h2⟩
    have := Option.some.inj hc
    rw [← this, List.drop_drop]
  · cases hc
theorem f35N (R : Nat) (s v : ByteArray) (l : List UInt8) (w : World) (hs : s.size ≤ 1048576) (hv : v.size ≤ 100) (h : Rd R s l w) (hc : Rel.sgn v.data.toList l = none) : Calls Tryz.prog 35 #[.pointer (some ⟨R, 0, none⟩), .string v] w fun e w' => e = .returned (.bool false) ∧ Rd R s l w' ∧ w.grownBy w' (some R) := by
  obtain ⟨t, h, rfl⟩ := h
  rw [sgn_pfx] at hc
  split at hc
  · cases hc
  · rename_i hp
    refine (f35h R s v t w hs hv h (by simpa using hp)).mono ?_
    rintro e w' ⟨rfl, h1, h2⟩
    exact ⟨rfl, ⟨_, h1, rfl⟩, h2⟩
theorem nm_take (s : ByteArray) (t : Nat) : s.extract t (nmE (by' s) t) = mkS (Rel.wrd ((by' s).drop t)).1 := by
  apply ByteArray.ext
  apply Array.toList_inj.1
  rw [Lib.extract_data]
  unfold nmE Rel.wrd
  have := List.prefix_iff_eq_take.1 (List.takeWhile_prefix nbC (l := (by' s).drop t))
  simp only [Nat.add_sub_cancel_left]
  exact this.symm
theorem nm_drop (l : List UInt8) (t : Nat) : l.drop (nmE l t) = (Rel.wrd (l.drop t)).2 := by
  unfold nmE Rel.wrd
  rw [← List.drop_drop]
  have := List.takeWhile_append_dropWhile (p := nbC) (l := l.drop t)
  generalize e1 : (l.drop t).takeWhile nbC = a at this ⊢
  generalize e2 : (l.drop t).dropWhile nbC = b at this ⊢
  rw [← this]
  simp
theorem f34L (R : Nat) (s : ByteArray) (l : List UInt8) (w : World) (hs : s.size ≤ 1048576) (h : Rd R s l w) : Calls Tryz.prog 34 #[.pointer (some ⟨R, 0, none⟩)] w fun e w' => e = .returned (.string (mkS (Rel.wrd l).1)) ∧ Rd R s (Rel.wrd l).2 w' ∧ w.grownBy w' (some R) := by
  obtain ⟨t, h, rfl⟩ := h
  refine (f34 R s t w hs h).mono ?_
  rintro e w' ⟨rfl, h1, h2⟩
  exact ⟨by rw [nm_take], ⟨_, h1, nm_drop _ _⟩, h2⟩
theorem unq_same : ∀ (n : Nat) (l : List UInt8), l.length ≤ n → Rel.unq l = (unq l).map fun p => (p.1, l.drop p.2) := by
  intro n
  induction n with
  | zero =>
    intro l hl
    obtain rfl := List.length_eq_zero_iff.1 (Nat.le_zero.1 hl)
    rfl
  | succ n ih =>
    intro l hl
    match l, hl with
    | [], _ => rfl
    | [c], _ =>
      rw [Rel.unq, unq_cons]
      by_cases h1 : c = 34
      · simp [h1]
      · by_cases h2 : c = 92
        · simp [h2]
        · simp [h1, h2, unq]
    | c :: d :: r, hl =>
      rw [Rel.unq, unq_cons]
      by_cases h1 : c = 34
      · simp [h1]
      · by_cases h2 : c = 92
        · simp only [h2]
          by_cases h3 : d = 34 ∨ d = 92
          · rw [ih r (by simp at hl; omega)]
            simp only [h3, if_true]
            simp [Option.map_map]
            rfl
          · simp [h3]
        · rw [ih (d :: r) (by simp at hl ⊢; omega)]
          simp only [h1, h2, if_false]
          simp [Option.map_map]
          rfl
theorem quo_same (s : ByteArray) (t : Nat) : Rel.quo ((by' s).drop t) = (quo s t).map fun p => (p.1, (by' s).drop p.2) := by
  unfold quo
  by_cases h : (by' s)[t]? = some 34
  · rw [if_pos h, drop_cons h, Rel.quo, if_pos rfl, unq_same _ _ (Nat.le_refl _)]
    unfold unqA
    rw [Option.map_map]
    congr 1
    funext p
    simp [List.drop_drop]
  · rw [if_neg h]
    cases e : (by' s).drop t with
    | nil => rfl
    | cons c r =>
      rw [Rel.quo, if_neg]
      · rfl
      · intro hc
        apply h
        have := congrArg (fun x => x[0]?) e
        simp only [List.getElem?_drop, Nat.add_zero] at this
        rw [this, hc]; rfl
/-- What quoted and quotedBehind leave: of what was asked, and the text's reader. -/
def QuL (R : Nat) (s : ByteArray) (q : Option (List UInt8 × List UInt8)) (w : World) (e : Ending) (w' : World) : Prop :=
  w.grownBy w' (some R) ∧ ((q = none ∧ e = .returned (.tuple #[.string ⟨#[]⟩, .bool false]) ∧ ∃ l', Rd R s l' w') ∨ ∃ v l', q = some (v, l') ∧ e = .returned (.tuple #[.string (mkS v), .bool true]) ∧ Rd R s l' w' ∧ v.length ≤ s.size)
theorem f50L (R : Nat) (s : ByteArray) (l : List UInt8) (w : World) (hs : s.size ≤ 1048576) (h : Rd R s l w) : Calls Tryz.prog 50 #[.pointer (some ⟨R, 0, none⟩)] w (QuL R s (Rel.quo l) w) := by
  obtain ⟨t, h, rfl⟩ := h
  refine (f50 R s t w hs h).mono ?_
  rintro e w' ⟨hg, h1⟩
  refine ⟨hg, ?_⟩
  rcases h1 with ⟨h1, rfl, k, h2⟩ | ⟨v, k, h1, rfl, h2⟩
  · exact .inl ⟨by rw [quo_same, h1]; rfl, rfl, _, k, h2, rfl⟩
  · refine .inr ⟨v, _, by rw [quo_same, h1]; rfl, rfl, ⟨k, h2, rfl⟩, ?_⟩
    unfold quo at h1
    split at h1
    · have := (unqA_bd h1).2.2
      simpa using this
    · cases h1
end Go.Proofs.YtbijhkbmgljjiaaGreatDoor.Rdd
