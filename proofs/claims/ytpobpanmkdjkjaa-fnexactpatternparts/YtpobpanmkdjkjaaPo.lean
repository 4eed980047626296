/- What the model's PatternParts comes to, and the walk of FnExactPatternParts. -/
import Derived.Test.YtpobpanmkdjkjaaPn
import Derived.Test.YtpobpanmkdjkjaaPs
namespace Go.Proofs.Ytpobpanmkdjkjaa.Pat
open Go.RowKit

theorem f12 (p s : ByteArray) (w : World) (hp : p.size ≤ maxLen) (hs : s.size ≤ maxLen) : Calls Try.prog 12 #[.string p, .string s] w (PartsR (ppF p s) w) := by
  unfold maxLen at hs
  go_enter Try.func12, Try.ntmps12
  go_wp2_with fail
  refine (f8 p _ hp).mono ?_
  rintro e w1 ⟨rfl, hb1⟩
  have HB := hid hb1
  clear hb1
  by_cases hpat : patB p = true
  · by_cases h100 : s.size ≤ 100
    · have HF := hid (ppF_some hpat h100)
      have H38 := hid (f33 p s w1 hp hpat (by omega))
      have i1 : ¬ 100 < (s.size : Int) := by omega
      rw [hpat]
      clear hpat
      go_wp2_with fail
      refine H38.out.mono ?_
      rintro e w2 ⟨hb2, h2⟩
      have HB2 := hid (HB.out.trans (hb2.mono HB.out.size))
      have HSZ := hid HB.out.size
      clear hb2
      rcases h2 with ⟨hn, rfl⟩ | ⟨ps, a, c, hy, rfl, ho⟩
      · have HN := hid (HF.out.trans hn)
        clear hn
        go_wp2
        go_ret2
        exact ⟨HB2.out, .inl ⟨HN.out, rfl⟩⟩
      · have HN := hid (HF.out.trans hy)
        have HO := hid (own_lower ho HSZ.out)
        clear hy ho
        go_wp2
        go_ret2
        exact ⟨HB2.out, .inr ⟨ps, a, c, HN.out, rfl, HO.out⟩⟩
    · have HF : Hid (ppF p s = none) := ppF_long h100
      have i1 : 100 < (s.size : Int) := by omega
      rw [hpat]
      clear hpat
      go_wp2
      go_ret2
      exact ⟨HB.out, .inl ⟨HF.out, rfl⟩⟩
  · have hpat' : patB p = false := by simpa using hpat
    have HF : Hid (ppF p s = none) := ppF_bad hpat'
    rw [hpat']
    clear hpat hpat'
    go_wp2
    go_ret2
    exact ⟨HB.out, .inl ⟨HF.out, rfl⟩⟩

/-- What both calls of PatternParts leave. -/
def PpR (ss : List ByteArray) (b : Bool) (w : World) (e : Ending) (w' : World) : Prop :=
  ∃ a c, e = .returned (.tuple #[.slice a ss.length c, .bool b]) ∧ w'.ownsRow w.heap.size 9 1 (.slice a ss.length c) ss.length (ss.map Value.string) ∧ Below w.heap.size w w'
def ppT (p s : ByteArray) : List ByteArray := ((ppF p s).getD []).map mkS
theorem PartsR.pp {p s : ByteArray} {w w' : World} {e : Ending} (h : PartsR (ppF p s) w e w') : PpR (ppT p s) (ppF p s).isSome w e w' := by
  obtain ⟨hb, h⟩ := h
  rcases h with ⟨hn, rfl⟩ | ⟨ps, a, c, hy, rfl, ho⟩
  · refine ⟨none, 0, ?_, ?_, hb⟩
    · unfold ppT; rw [hn]; rfl
    · unfold ppT; rw [hn]; exact World.ownsRow_nil _ _ _ _
  · have e1 : (ppT p s).length = ps.length := by unfold ppT; rw [hy]; simp
    have e2 : (ppT p s).map Value.string = txts ps := by unfold ppT txts; rw [hy]; simp
    refine ⟨a, c, ?_, ?_, hb⟩
    · rw [e1, hy]; rfl
    · rw [e1, e2]; exact ho
theorem findSome_mem {α β : Type} (f : α → Option β) : ∀ (l : List α) (b : β), l.findSome? f = some b → ∃ a ∈ l, f a = some b
  | [], b, h => by simp at h
  | a :: l, b, h => by
    rw [List.findSome?_cons] at h
    cases hf : f a with
    | some x => rw [hf] at h; simp at h; subst h; exact ⟨a, by simp, hf⟩
    | none =>
      rw [hf] at h
      obtain ⟨c, hc, hcf⟩ := findSome_mem f l b h
      exact ⟨c, by simp [hc], hcf⟩
theorem partsS_len : ∀ (a : List Int) (L : List UInt8), (partsS a L).length ≤ a.length
  | [], _ => by simp [partsS]
  | x :: a, L => by
    simp only [partsS]
    split
    · have := partsS_len a (L.drop (firstF (rest a) L)); simp only [List.length_cons]; omega
    · have := partsS_len a (L.drop 1); simp only [List.length_cons]; omega
theorem altsF_len : ∀ (n : Nat) (l : List UInt8) (cur : List Int), l.length ≤ n → ∀ a ∈ altsF l cur, a.length ≤ cur.length + l.length := by
  intro n
  induction n with
  | zero =>
    intro l cur hl a ha
    obtain rfl := List.length_eq_zero_iff.1 (Nat.le_zero.1 hl)
    simp [altsF] at ha; subst ha; simp
  | succ n ih =>
    intro l cur hl a ha
    match l, hl, ha with
    | [], _, ha => simp [altsF] at ha; subst ha; simp
    | c :: r, hl, ha =>
      simp only [List.length_cons] at hl ⊢
      by_cases h1 : (c.toNat : Int) = 124
      · rw [alts_bar c r cur h1] at ha
        rcases List.mem_cons.1 ha with rfl | ha
        · omega
        · have := ih r [] (by omega) a ha; simp at this; omega
      by_cases h2 : (c.toNat : Int) = 42
      · rw [alts_star c r cur h2] at ha
        have := ih r _ (by omega) a ha; simp at this; omega
      by_cases h3 : (c.toNat : Int) = 63
      · rw [alts_any c r cur h3] at ha
        have := ih r _ (by omega) a ha; simp at this; omega
      by_cases h4 : (c.toNat : Int) = 92
      · match r, hl, ha with
        | [], _, ha =>
          simp only [altsF, if_neg h1, if_neg h2, if_neg h3, if_pos h4] at ha
          simp at ha; subst ha; omega
        | d :: r, hl, ha =>
          rw [alts_esc c d r cur h4] at ha
          simp only [List.length_cons] at hl ⊢
          have := ih r _ (by omega) a ha; simp at this; omega
      · rw [alts_plain c r cur h1 h2 h3 h4] at ha
        have := ih r _ (by omega) a ha; simp at this; omega
theorem ppT_len (p s : ByteArray) : (ppT p s).length ≤ 100 := by
  unfold ppT
  rw [List.length_map]
  cases h : ppF p s with
  | none => simp
  | some ps =>
    unfold ppF at h
    split at h
    · rename_i hc
      obtain ⟨a, ha, hf⟩ := findSome_mem _ _ _ h
      have h1 := altsF_len _ p.data.toList [] (Nat.le_refl _) a ha
      have h2 : p.size ≤ 100 := by
        have := hc.1
        unfold patB at this
        simp at this
        exact this.1.1
      simp at h1
      split at hf
      · simp at hf; subst hf
        have := partsS_len a s.data.toList
        simp; omega
      · simp at hf
    · simp at h

set_option maxHeartbeats 4000000 in
theorem walk6 (p s : ByteArray) (w : World) (hp : p.size ≤ maxLen) (hs : s.size ≤ maxLen) :
    Calls Try.prog 5 #[.string p, .string s] w fun e w' => e = .returned (.bool true) ∧ Below w.heap.size w w' := by
  have hp' := hp
  have hs' := hs
  unfold maxLen at hp' hs'
  by_cases hbp : 1048576 < p.size
  · go_enter Try.func5, Try.ntmps5
    go_wp2
    go_ret
    exact ⟨rfl, Below.refl _ _⟩
  by_cases hbs : 1048576 < s.size
  · go_enter Try.func5, Try.ntmps5
    go_wp2
    go_ret
    exact ⟨rfl, Below.refl _ _⟩
  have h4 := fun w => (f12 p s w hp hs).mono fun _ _ h => h.pp
  have h5 := fun w => (f10 p s w hp hs).mono fun _ _ h => h.pp
  have hl1 := ppT_len p s
  generalize (ppF p s).isSome = b at h4 h5
  generalize ppT p s = sel at h4 h5 hl1
  unfold PpR at h4 h5
  have H4 := hid h4
  have H5 := hid h5
  have hbb : (b != b) = false := by cases b <;> rfl
  obtain ⟨n, hn⟩ : ∃ n, n = sel.length := ⟨_, rfl⟩
  have HN := hid hn.symm
  rw [← hn] at H4 H5 hl1
  clear h4 h5 hn
  go_enter Try.func5, Try.ntmps5
  go_wp2_with fail
  refine (H4.out _).mono ?_
  rintro e w1 ⟨aw, cw, rfl, ho1, hb1⟩
  have HB1 := hid hb1
  have W1 := hid ho1
  have BW : Hid (∀ k, (Value.slice aw n cw).ownBlock = some k → k < w1.heap.size) := fun k hk => (W1.out.lt k hk).2
  clear hb1 ho1
  go_wp2_with fail
  refine (H5.out _).mono ?_
  rintro e w2 ⟨ag, cg, rfl, ho2, hb2⟩
  have HB2 := hid (HB1.out.trans (hb2.mono HB1.out.size))
  have W2 := hid (own_below W1.out hb2)
  have G2 := hid ho2
  have BG : Hid (∀ k, (Value.slice ag n cg).ownBlock = some k → w1.heap.size ≤ k) := fun k hk => (G2.out.lt k hk).1
  clear hb2 ho2 W1
  go_wp2_with fail
  refine (f13 _ _ n cg cw sel _ HN.out (by omega) (HasT.own G2.out) (HasT.own W2.out)).mono ?_
  rintro e w3 ⟨rfl, hb3⟩
  have HB3 := hid (HB2.out.trans (hb3.mono HB2.out.size))
  have W3 := hid (own_below W2.out hb3)
  have G3 := hid (own_below G2.out hb3)
  clear hb3 W2 G2
  have OWG : Hid (∀ g, (∃ k, (Value.slice ag n cg).ownBlock = some k ∧ g = k) → (Value.slice aw n cw).ownBlock ≠ some g) := by
    rintro g ⟨k, h1, rfl⟩ h2
    have e1 := BG.out _ h1
    have e2 := BW.out _ h2
    omega
  -- marks in the answer
  go_wp2_with fail
  have h7 := f14o ag n cg w1.heap.size 1 sel w3 HN.out (by omega) G3.out
  obtain ⟨k3, hk3⟩ : ∃ k3, k3 = 1 + n := ⟨_, rfl⟩
  rw [← hk3] at h7
  have HK3 := hid hk3
  have hk20 : k3 ≤ 101 := by omega
  refine h7.mono ?_
  clear h7 hk3
  rintro e w4 ⟨rfl, ho4, hg4⟩
  have HB4 := hid (HB3.out.grown hg4 HB3.out.size (fun k hk => Nat.le_trans HB1.out.size (BG.out k hk)))
  have W4 := hid (W3.out.kept hg4 (by
    cases h1 : (Value.slice aw n cw).ownBlock with
    | none => exact .inl rfl
    | some k =>
      refine .inr (fun e => ?_)
      exact OWG.out k ⟨k, e.symm, rfl⟩ h1))
  have G4 := hid ho4
  clear hg4 ho4 W3 G3
  go_wp2_with fail
  have h8 := f15o ag n cg w1.heap.size 1 w4 (by omega) G4.out
  rw [← HK3.out] at h8
  refine h8.mono ?_
  clear h8
  rintro e w5 ⟨rfl, hb5⟩
  have HB5 := hid (HB4.out.trans (hb5.mono HB4.out.size))
  have W5 := hid (own_below W4.out hb5)
  have G5 := hid (own_below G4.out hb5)
  clear hb5 W4 G4
  -- once more
  go_wp2_with fail
  refine (H5.out _).mono ?_
  rintro e w6 ⟨ah, ch, rfl, ho6, hb6⟩
  have HB6 := hid (HB5.out.trans (hb6.mono HB5.out.size))
  have W6 := hid (own_below W5.out hb6)
  have G6 := hid (own_below G5.out hb6)
  have A6 := hid (HasT.own ho6)
  clear hb6 ho6 W5 G5
  go_wp2_with fail
  refine (f13 _ _ n ch cw sel _ HN.out (by omega) A6.out (HasT.own W6.out)).mono ?_
  rintro e w7 ⟨rfl, hb7⟩
  have HB7 := hid (HB6.out.trans (hb7.mono HB6.out.size))
  have G7 := hid (own_below G6.out hb7)
  clear hb7 W6 G6 A6
  go_wp2_with fail
  have h8 := f15o ag n cg w1.heap.size 1 w7 (by omega) G7.out
  rw [← HK3.out] at h8
  refine h8.mono ?_
  clear h8
  rintro e w8 ⟨rfl, hb8⟩
  have HB8 := hid (HB7.out.trans (hb8.mono HB7.out.size))
  clear hb8
  go_wp2
  go_ret
  exact ⟨rfl, HB8.out⟩
end Go.Proofs.Ytpobpanmkdjkjaa.Pat
