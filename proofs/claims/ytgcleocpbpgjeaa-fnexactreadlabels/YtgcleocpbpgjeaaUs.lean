/- The model's reading of labels: what l2Read and ReadLabels come to. -/
import Derived.Test.YtgcleocpbpgjeaaUr
namespace Go.Proofs.Ytgcleocpbpgjeaa.Lab
open Go.RowKit Go.Proofs.Ytgcleocpbpgjeaa.Str

/-- Good labels in their braces from a place on. -/
def lf (s : ByteArray) (t : Nat) : Option (List Lb × Nat) := (lst s t).filter fun q => goodL q.1
theorem lf_some {s : ByteArray} {t k : Nat} {ls : List Lb} (h : lst s t = some (ls, k)) (hg : goodL ls = true) : lf s t = some (ls, k) := by unfold lf; rw [h]; simp [hg]
theorem lf_none {s : ByteArray} {t : Nat} (h : lst s t = none) : lf s t = none := by unfold lf; rw [h]; rfl
theorem lf_bad {s : ByteArray} {t k : Nat} {ls : List Lb} (h : lst s t = some (ls, k)) (hg : goodL ls = false) : lf s t = none := by unfold lf; rw [h]; simp [hg]
theorem lf_long {s : ByteArray} {t k : Nat} {acc : List Lb} (h : lst s t = (rd s k).map fun q => (acc ++ q.1, q.2)) (hl : 20 < acc.length) : lf s t = none := by
  unfold lf; rw [h]
  cases rd s k with
  | none => rfl
  | some q =>
    have : goodL (acc ++ q.1) = false := good_long (by simp; omega)
    simp [this]
theorem rd_end {s : ByteArray} {t i k : Nat} {p : Lb} {acc : List Lb} (h : lst s t = (rd s i).map fun q => (acc ++ q.1, q.2)) (h1 : one s i = some (p, k)) (h2 : (by' s)[k]? = some 125) : lst s t = some (acc ++ [p], k + 1) := by
  rw [h, rd_some h1, if_pos h2]; rfl
theorem rd_next {s : ByteArray} {t i k : Nat} {p : Lb} {acc : List Lb} (h : lst s t = (rd s i).map fun q => (acc ++ q.1, q.2)) (h1 : one s i = some (p, k)) (h2 : (by' s)[k]? = some 44) : lst s t = (rd s (k + 1)).map fun q => ((acc ++ [p]) ++ q.1, q.2) := by
  rw [h, rd_some h1, if_neg (by rw [h2]; decide), if_pos h2, Option.map_map]
  congr 1
  funext q
  simp
theorem rd_bad {s : ByteArray} {t i k : Nat} {p : Lb} {acc : List Lb} (h : lst s t = (rd s i).map fun q => (acc ++ q.1, q.2)) (h1 : one s i = some (p, k)) (h2 : (by' s)[k]? ≠ some 125) (h3 : (by' s)[k]? ≠ some 44) : lst s t = none := by
  rw [h, rd_some h1, if_neg h2, if_neg h3]; rfl
theorem rd_nil {s : ByteArray} {t i : Nat} {acc : List Lb} (h : lst s t = (rd s i).map fun q => (acc ++ q.1, q.2)) (h1 : one s i = none) : lst s t = none := by
  rw [h, rd_none h1]; rfl
theorem quo_bd {s : ByteArray} {t k : Nat} {v : List UInt8} (h : quo s t = some (v, k)) : t < k ∧ k ≤ s.size ∧ v.length ≤ s.size := by
  unfold quo at h
  split at h
  · have := unqA_bd h
    simp at this
    omega
  · simp at h
/-- What the call of l2Read leaves. -/
def RdR (s : ByteArray) (t : Nat) (w : World) (e : Ending) (w' : World) : Prop :=
  Below w.heap.size w w' ∧ ((lf s t = none ∧ e = .returned (.tuple #[.slice none 0 0, .int .i64 (-1)])) ∨ ∃ ls k a c, lf s t = some (ls, k) ∧ e = .returned (.tuple #[.slice a ls.length c, .int .i64 ((k : Nat) : Int)]) ∧ w'.ownsRow w.heap.size 32 2 (.slice a ls.length c) ls.length (flat ls))

set_option maxHeartbeats 4000000 in
theorem f9e (s : ByteArray) (t : Nat) (w : World) (hs : s.size ≤ 1048576) (hlt : t < s.size) (n123 : ((s[t].toNat : Int) != 123) = false) (hlt1 : ¬ t + 1 < s.size) (HL : lst s t = (rd s (t + 1)).map fun q => ([] ++ q.1, q.2)) : Calls Try.prog 9 #[.string s, .int .i64 t] w (RdR s t w) := by
  have HE := hid (nmE_end (l := by' s) (i := t + 1) (by simp; omega))
  have HF := hid (lf_none (rd_nil HL (by rw [one_eq, HE.out, none_at (by omega)]; rfl)))
  have H15 := hid (f15 s (t + 1) w hs (by omega))
  have hn : ¬ s.size ≤ t := by omega
  have hle : s.size ≤ t + 1 := by omega
  clear HL
  go_enter Try.func9, Try.ntmps9
  go_wp2
  go_loopw [1, 6] (fun sa so wr => sa = .int .i64 ((t + 1 : Nat) : Int) ∧ so = .slice none 0 0 ∧ wr = w) (fun _ _ _ => 0)
  case atStart => exact ⟨by go_num, rfl, rfl⟩
  case round =>
    obtain ⟨rfl, rfl, hw⟩ := hrel
    subst hw
    go_wp2_with fail
    refine H15.out.mono ?_
    rintro e1 w1 ⟨rfl, hw⟩
    have hw := hw.symm
    subst hw
    rw [HE.out]
    go_wp2
    go_ret2
    exact ⟨Below.refl _ _, .inl ⟨HF.out, rfl⟩⟩

set_option maxRecDepth 100000 in
set_option maxHeartbeats 4000000 in
theorem f9 (s : ByteArray) (t : Nat) (w : World) (hs : s.size ≤ 1048576) (ht : t ≤ s.size) : Calls Try.prog 9 #[.string s, .int .i64 t] w (RdR s t w) := by
  obtain ⟨i0, hi, hz0, hz1, hz2⟩ := info_parts info50
  by_cases hlt : t < s.size
  · have hn : ¬ s.size ≤ t := by omega
    have HA := hid (at_byte s t hlt)
    by_cases c123 : s[t] = 123
    · have n123 : ((s[t].toNat : Int) != 123) = false := by rw [c123]; rfl
      have H123 : Hid ((by' s)[t]? = some 123) := by unfold Hid; rw [HA.out, c123]
      clear c123
      by_cases h125 : (by' s)[t + 1]? = some 125
      · have HL := hid (lf_some (t := t) (k := t + 2) (ls := []) (by rw [lst_tl H123.out, tl_end h125]) (by decide))
        have hlt1 : t + 1 < s.size := by
          have := (List.getElem?_eq_some_iff.1 h125).1
          simpa using this
        have e125 : ((s[t + 1].toNat : Int) == 125) = true := by
          have := at_byte s (t + 1) hlt1
          rw [h125] at this
          simp only [Option.some.injEq] at this
          rw [← this]; rfl
        clear h125
        go_enter Try.func9, Try.ntmps9
        go_wp2
        go_ret2
        exact ⟨Below.refl _ _, .inr ⟨[], t + 2, none, 0, HL.out, by go_num, World.ownsRow_nil _ _ _ _⟩⟩
      · have HL : Hid (lst s t = (rd s (t + 1)).map fun q => ([] ++ q.1, q.2)) := by unfold Hid; rw [lst_tl H123.out, tl_first h125]
        have hx : t + 1 < s.size → ∀ h : t + 1 < s.size, ((s[t + 1].toNat : Int) == 125) = false := by
          intro h1 h2
          refine byte_neq (d := 125) fun h => h125 ?_
          rw [at_byte s (t + 1) h2, h]
        clear h125
        have hcase : (∃ h : t + 1 < s.size, ((s[t + 1].toNat : Int) == 125) = false) ∨ (¬ t + 1 < s.size) := by
          by_cases h : t + 1 < s.size
          · exact .inl ⟨h, hx h h⟩
          · exact .inr h
        rcases hcase with ⟨hlt1, e125⟩ | hlt1
        · clear hx
          go_enter Try.func9, Try.ntmps9
          go_wp2
          go_loopw [1, 6] (fun sa so wr => ∃ (k : Nat) (acc : List Lb) (a : Option Addr) (c : Nat), sa = .int .i64 k ∧ so = .slice a acc.length c ∧ k ≤ s.size ∧ acc.length ≤ 21 ∧ Hid (lst s t = (rd s k).map fun q => (acc ++ q.1, q.2)) ∧ Hid (wr.ownsRow w.heap.size 32 2 (.slice a acc.length c) acc.length (flat acc)) ∧ Hid (Below w.heap.size w wr) ∧ Hid (Sz s.size acc)) (fun sa _ _ => s.size + 1 - (intOf sa).toNat)
          case atStart => exact ⟨t + 1, [], none, 0, by go_num, rfl, by omega, by simp, HL, World.ownsRow_nil _ _ _ _, Below.refl _ _, by intro p hp; simp at hp⟩
          case round =>
            obtain ⟨k, acc, a, c, rfl, rfl, hk, hl21, HJ, HO, HB, HZ⟩ := hrel
            by_cases hl : acc.length ≤ 20
            · have he1 := nmE_ge (by' s) k
              have he2 := nmE_le (l := by' s) (i := k) (by simpa using hk)
              have HN : Hid (∃ e, e = nmE (by' s) k ∧ k ≤ e ∧ e ≤ s.size) := ⟨_, rfl, he1, by simpa using he2⟩
              obtain ⟨e, he, hke, hes⟩ := HN.out
              have HE := hid he
              clear he1 he2 HN
              by_cases h61 : (by' s)[e]? = some 61
              · have helt : e < s.size := by
                  have := (List.getElem?_eq_some_iff.1 h61).1
                  simpa using this
                have n61 : ((s[e].toNat : Int) != 61) = false := by
                  have := at_byte s e helt
                  rw [h61] at this
                  simp only [Option.some.injEq] at this
                  rw [← this]; rfl
                have hn2 : ¬ s.size ≤ e := by omega
                have H61 := hid h61
                clear h61
                go_wp2_with fail
                refine (f15 s k _ hs hk).mono ?_
                rintro e1 w1 ⟨rfl, hw⟩
                have hw := hw.symm
                subst hw
                rw [← he]
                clear he
                go_wp2_with fail
                refine (f16 s (e + 1) _ hs (by omega)).mono ?_
                rintro e2 w2 ⟨hb2, h2⟩
                have HB2 := hid (HB.out.trans (hb2.mono HB.out.size))
                have HO2 := hid (own_below HO.out hb2)
                clear hb2 HB HO
                rcases h2 with ⟨hq, rfl⟩ | ⟨v, j, hq, rfl⟩
                · have HF := hid (lf_none (rd_nil HJ.out (by rw [one_eq, ← HE.out, if_pos H61.out, hq]; rfl)))
                  clear hq
                  go_wp2
                  go_ret2
                  exact ⟨HB2.out, .inl ⟨HF.out, rfl⟩⟩
                · have H1 : Hid (one s k = some ((s.extract k e, mkS v), j)) := by unfold Hid; rw [one_eq, ← HE.out, if_pos H61.out, hq]; rfl
                  have hbd := quo_bd hq
                  have hj1 := hbd.1
                  have hj2 := hbd.2.1
                  have hv := hbd.2.2
                  clear hq hbd
                  by_cases hjlt : j < s.size
                  · have HAj := hid (at_byte s j hjlt)
                    have hn3 : ¬ s.size ≤ j := by omega
                    by_cases c125 : s[j] = 125
                    · have HF := hid (rd_end HJ.out H1.out (by rw [HAj.out, c125]))
                      have f44 : ((s[j].toNat : Int) != 44) = true := by rw [c125]; rfl
                      have f125 : ((s[j].toNat : Int) != 125) = false := by rw [c125]; rfl
                      have g125 : ((s[j].toNat : Int) == 125) = true := by rw [c125]; rfl
                      clear c125
                      go_wp2_with (at_builtin; refine wpList_append_own _ rfl (.tmp 77) (.tmp 84) 22 rfl w.heap.size 32 i0 (.agg #[.string ByteArray.empty, .string ByteArray.empty]) 2 32 Try.underlying22 hi hz0 hz1 hz2 rfl (by decide) _ _ _ rfl (HO2.out.alloc _) ⟨w2.heap.size, 0, none⟩ 1 1 [.string (s.extract k e), .string (mkS v)] rfl rfl ?d1 ?d2 ?d3 ?d4 ?d5 ?_)
                      case d1 => exact two_new _ _ _ _
                      case d2 => intro u hu; simp at hu; rcases hu with rfl | rfl <;> rfl
                      case d3 => unfold maxLen; omega
                      case d4 => omega
                      case d5 => have := HB2.out.size; simp; omega
                      intro v3 w3 hown3 hgr3 _
                      obtain ⟨a3, c3, rfl⟩ := own_form hown3
                      have HB3 := hid ((HB2.out.alloc HB2.out.size (.cells #[.string (s.extract k e), .string (mkS v)] 32)).grown hgr3 (by have := HB2.out.size; simp; omega) (fun k hk => (HO2.out.lt k hk).1))
                      have HO3 : Hid (w3.ownsRow w.heap.size 32 2 (.slice a3 (acc ++ [(s.extract k e, mkS v)]).length c3) (acc ++ [(s.extract k e, mkS v)]).length (flat (acc ++ [(s.extract k e, mkS v)]))) := by
                        unfold Hid; rw [List.length_append, flat_append]; exact hown3
                      have HZ3 : Hid (Sz s.size (acc ++ [(s.extract k e, mkS v)])) := HZ.out.snoc (by show (s.extract k e).size ≤ s.size; rw [ByteArray.size_extract]; omega) (by show (mkS v).size ≤ s.size; rw [mkS_size]; exact hv)
                      have HLn : Hid ((acc ++ [(s.extract k e, mkS v)]).length = acc.length + 1) := by unfold Hid; simp
                      clear hown3 hgr3
                      generalize acc ++ [(s.extract k e, mkS v)] = L at *
                      go_wp2_with fail
                      refine (f17 a3 (acc.length + 1) c3 L _ HLn.out (by unfold maxLen; omega) (HasL.owno HO3.out) (HZ3.out.fit (by unfold maxLen; omega))).mono ?_
                      rintro e4 w4 ⟨rfl, hb4⟩
                      have HB4 := hid (HB3.out.trans (hb4.mono HB3.out.size))
                      have HO4 := hid (own_below HO3.out hb4)
                      clear hb4
                      by_cases hg : goodL L = true
                      · have HR := hid (lf_some HF.out hg)
                        rw [hg]
                        clear hg
                        go_wp2
                        go_ret2
                        exact ⟨HB4.out, .inr ⟨L, j + 1, a3, c3, HR.out, by rw [HLn.out]; go_num, HO4.out⟩⟩
                      · have hg' : goodL L = false := by simpa using hg
                        have HR := hid (lf_bad HF.out hg')
                        rw [hg']
                        clear hg hg'
                        go_wp2
                        go_ret2
                        exact ⟨HB4.out, .inl ⟨HR.out, rfl⟩⟩
                    · by_cases c44 : s[j] = 44
                      · have HF := hid (rd_next HJ.out H1.out (by rw [HAj.out, c44]))
                        have f44 : ((s[j].toNat : Int) != 44) = false := by rw [c44]; rfl
                        have g125 : ((s[j].toNat : Int) == 125) = false := by rw [c44]; rfl
                        clear c125 c44
                        go_wp2_with (at_builtin; refine wpList_append_own _ rfl (.tmp 77) (.tmp 84) 22 rfl w.heap.size 32 i0 (.agg #[.string ByteArray.empty, .string ByteArray.empty]) 2 32 Try.underlying22 hi hz0 hz1 hz2 rfl (by decide) _ _ _ rfl (HO2.out.alloc _) ⟨w2.heap.size, 0, none⟩ 1 1 [.string (s.extract k e), .string (mkS v)] rfl rfl ?d1 ?d2 ?d3 ?d4 ?d5 ?_)
                        case d1 => exact two_new _ _ _ _
                        case d2 => intro u hu; simp at hu; rcases hu with rfl | rfl <;> rfl
                        case d3 => unfold maxLen; omega
                        case d4 => omega
                        case d5 => have := HB2.out.size; simp; omega
                        intro v3 w3 hown3 hgr3 _
                        obtain ⟨a3, c3, rfl⟩ := own_form hown3
                        have HB3 := hid ((HB2.out.alloc HB2.out.size (.cells #[.string (s.extract k e), .string (mkS v)] 32)).grown hgr3 (by have := HB2.out.size; simp; omega) (fun k hk => (HO2.out.lt k hk).1))
                        have HO3 : Hid (w3.ownsRow w.heap.size 32 2 (.slice a3 (acc ++ [(s.extract k e, mkS v)]).length c3) (acc ++ [(s.extract k e, mkS v)]).length (flat (acc ++ [(s.extract k e, mkS v)]))) := by
                          unfold Hid; rw [List.length_append, flat_append]; exact hown3
                        have HZ3 : Hid (Sz s.size (acc ++ [(s.extract k e, mkS v)])) := HZ.out.snoc (by show (s.extract k e).size ≤ s.size; rw [ByteArray.size_extract]; omega) (by show (mkS v).size ≤ s.size; rw [mkS_size]; exact hv)
                        clear hown3 hgr3
                        go_wp2
                        go_roundw
                        case rel => exact ⟨j + 1, acc ++ [(s.extract k e, mkS v)], a3, c3, by go_num, by simp, by omega, by simp; omega, HF, HO3, HB3, HZ3⟩
                        case measure => simp [intOf]; omega
                      · have HF := hid (lf_none (rd_bad HJ.out H1.out (by rw [HAj.out]; simpa using c125) (by rw [HAj.out]; simpa using c44)))
                        have f44 : ((s[j].toNat : Int) != 44) = true := byte_ne c44
                        have f125 : ((s[j].toNat : Int) != 125) = true := byte_ne c125
                        clear c125 c44
                        go_wp2
                        go_ret2
                        exact ⟨HB2.out, .inl ⟨HF.out, rfl⟩⟩
                  · have HF := hid (lf_none (rd_bad HJ.out H1.out (by rw [none_at (by omega)]; simp) (by rw [none_at (by omega)]; simp)))
                    go_wp2
                    go_ret2
                    exact ⟨HB2.out, .inl ⟨HF.out, rfl⟩⟩
              · have HF := hid (lf_none (rd_nil HJ.out (by rw [one_eq, ← HE.out, if_neg h61])))
                have hcase : (∃ h : e < s.size, ((s[e].toNat : Int) != 61) = true) ∨ (¬ e < s.size) := by
                  by_cases h : e < s.size
                  · exact .inl ⟨h, byte_ne (d := 61) fun h1 => h61 (by rw [at_byte s e h, h1])⟩
                  · exact .inr h
                clear h61
                rcases hcase with ⟨helt, n61⟩ | helt
                all_goals
                  go_wp2_with fail
                  refine (f15 s k _ hs hk).mono ?_
                  rintro e1 w1 ⟨rfl, hw⟩
                  have hw := hw.symm
                  subst hw
                  rw [← he]
                  clear he
                  go_wp2
                  go_ret2
                  exact ⟨HB.out, .inl ⟨HF.out, rfl⟩⟩
            · have HF := hid (lf_long HJ.out (by omega))
              go_wp2
              go_ret2
              exact ⟨HB.out, .inl ⟨HF.out, rfl⟩⟩
        · exact f9e s t w hs hlt n123 hlt1 HL.out
    · have n123 : ((s[t].toNat : Int) != 123) = true := byte_ne c123
      have HL : Hid (lf s t = none) := lf_none (lst_not (by rw [HA.out]; simpa using c123))
      clear c123
      go_enter Try.func9, Try.ntmps9
      go_wp2
      go_ret2
      exact ⟨Below.refl _ _, .inl ⟨HL.out, rfl⟩⟩
  · have HL : Hid (lf s t = none) := lf_none (lst_not (by rw [none_at (by omega)]; simp))
    go_enter Try.func9, Try.ntmps9
    go_wp2
    go_ret2
    exact ⟨Below.refl _ _, .inl ⟨HL.out, rfl⟩⟩
end Go.Proofs.Ytgcleocpbpgjeaa.Lab
