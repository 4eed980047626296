/- The model's reading of names and quoted texts: what l2NameAt and l2Unquote come to. -/
import Derived.Test.YtigakbhficoonaaVb
import Derived.Test.YtigakbhficoonaaQu
namespace Go.Proofs.Ytigakbhficoonaa.Rdd
open Go.RowKit Go.Proofs.Ytigakbhficoonaa.Pat

set_option maxHeartbeats 1000000 in
theorem f24 (s : ByteArray) (t : Nat) (w : World) (hs : s.size ≤ 1048576) (ht : t ≤ s.size) : Calls Try.prog 24 #[.string s, .int .i64 t] w fun e w' => e = .returned (.int .i64 (nmE (by' s) t)) ∧ w' = w := by
  go_enter Try.func24, Try.ntmps24
  go_wp2
  go_loop [1] (fun i => ∃ k : Nat, k ≤ s.size ∧ i = .int .i64 k ∧ Hid (nmE (by' s) t = nmE (by' s) k)) (fun i => s.size - (intOf i).toNat)
  case atStart => exact ⟨t, ht, rfl, rfl⟩
  case round =>
    obtain ⟨k, hk, rfl, HN⟩ := hrel
    by_cases hlt : k < s.size
    · have HA := hid (at_byte s k hlt)
      by_cases h1 : letB (s[k].toNat : Int) = true
      · have HE := hid (nmE_step HA.out (by simp [nbC, nbB, h1]))
        go_wp2_with (first | (go_at_call 46; refine (f46 _ _).mono ?_; rintro e w' ⟨rfl, rfl⟩) | (go_at_call 47; refine (f47 _ _).mono ?_; rintro e w' ⟨rfl, rfl⟩))
        go_round
        case rel => exact ⟨k + 1, by omega, by go_num, by unfold Hid; rw [HN.out, HE.out]⟩
        case measure => simp [intOf]; omega
      · have h1' : letB (s[k].toNat : Int) = false := by simpa using h1
        by_cases h2 : digB (s[k].toNat : Int) = true
        · have HE := hid (nmE_step HA.out (by simp [nbC, nbB, h2]))
          go_wp2_with (first | (go_at_call 46; refine (f46 _ _).mono ?_; rintro e w' ⟨rfl, rfl⟩) | (go_at_call 47; refine (f47 _ _).mono ?_; rintro e w' ⟨rfl, rfl⟩))
          go_round
          case rel => exact ⟨k + 1, by omega, by go_num, by unfold Hid; rw [HN.out, HE.out]⟩
          case measure => simp [intOf]; omega
        · have h2' : digB (s[k].toNat : Int) = false := by simpa using h2
          by_cases h3 : (s[k].toNat : Int) = 95
          · have HE := hid (nmE_step HA.out (by unfold nbC nbB; rw [h3]; simp))
            have h3' : ((s[k].toNat : Int) == 95) = true := by simp [h3]
            clear h3
            go_wp2_with (first | (go_at_call 46; refine (f46 _ _).mono ?_; rintro e w' ⟨rfl, rfl⟩) | (go_at_call 47; refine (f47 _ _).mono ?_; rintro e w' ⟨rfl, rfl⟩))
            go_round
            case rel => exact ⟨k + 1, by omega, by go_num, by unfold Hid; rw [HN.out, HE.out]⟩
            case measure => simp [intOf]; omega
          · have HE := hid (nmE_stop HA.out (by unfold nbC nbB; rw [h1', h2']; simpa using h3))
            have h3' : ((s[k].toNat : Int) == 95) = false := by simp [h3]
            clear h3
            go_wp2_with (first | (go_at_call 46; refine (f46 _ _).mono ?_; rintro e w' ⟨rfl, rfl⟩) | (go_at_call 47; refine (f47 _ _).mono ?_; rintro e w' ⟨rfl, rfl⟩))
            go_ret
            exact ⟨by rw [HN.out, HE.out]; rfl, rfl⟩
    · have HE := hid (nmE_end (l := by' s) (i := k) (by simp; omega))
      go_wp2
      go_ret
      exact ⟨by rw [HN.out, HE.out]; rfl, rfl⟩

theorem byte_eq {c d : UInt8} (h : c = d) : ((c.toNat : Int) == (d.toNat : Int)) = true := by rw [h]; simp
theorem byte_neq {c d : UInt8} (h : c ≠ d) : ((c.toNat : Int) == (d.toNat : Int)) = false := by
  rw [beq_eq_false_iff_ne]
  intro e
  exact h (UInt8.toNat_inj.1 (by omega))
theorem none_at {s : ByteArray} {t : Nat} (h : s.size ≤ t) : (by' s)[t]? = none := List.getElem?_eq_none (by simpa using h)
/-- What the call of l2Unquote leaves. -/
def UnqR (s : ByteArray) (t : Nat) (w : World) (e : Ending) (w' : World) : Prop :=
  Below w.heap.size w w' ∧ ((quo s t = none ∧ e = .returned (.tuple #[.string ⟨#[]⟩, .int .i64 (-1)])) ∨ ∃ v k, quo s t = some (v, k) ∧ e = .returned (.tuple #[.string (mkS v), .int .i64 ((k : Nat) : Int)]))

theorem own_form2 {w : World} {base e size n : Nat} {v : Value} {xs : List Value} (h : w.ownsRow base e size v n xs) : (v = .slice none 0 0 ∧ n = 0) ∨ ∃ g c, v = .slice (some ⟨g, 0, none⟩) n c := by
  rcases h.2 with ⟨h1, h2⟩ | ⟨g, cap, cur, h1, _⟩
  · exact .inl ⟨h1, h2⟩
  · exact .inr ⟨g, cap, h1⟩
theorem conv_row {w : World} {B c : Nat} {a : Option Addr} {l : List UInt8} (h : w.ownsRow B 5 1 (.slice a l.length c) l.length (Lib.byteCells l)) :
    (convert 56 9 (.slice a l.length c)).run Try.prog w = .ok (.string (mkS l)) w := by
  rcases own_form2 h with ⟨h1, h2⟩ | ⟨g, c', h1⟩
  · simp only [Value.slice.injEq] at h1
    obtain ⟨rfl, h3, rfl⟩ := h1
    have hl := List.eq_nil_of_length_eq_zero h2
    subst hl
    exact run_convert_bytes_nil (P := Try.prog) w 56 5 Try.underlying56 Try.underlying5 0 0 9 Try.underlying9
  · simp only [Value.slice.injEq] at h1
    obtain ⟨rfl, _, rfl⟩ := h1
    exact Str.conv_own h rfl
set_option maxRecDepth 100000 in
set_option maxHeartbeats 4000000 in
theorem f28 (s : ByteArray) (t : Nat) (w : World) (hs : s.size ≤ 1048576) (ht : t ≤ s.size) : Calls Try.prog 28 #[.string s, .int .i64 t] w (UnqR s t w) := by
  obtain ⟨i0, hi, hz0, hz1, hz2⟩ := info_parts Str.info5
  by_cases hlt : t < s.size
  · have HA := hid (at_byte s t hlt)
    by_cases h34 : s[t] = 34
    · have HQ : Hid (quo s t = unqA (by' s) (t + 1)) := by unfold Hid quo; rw [if_pos (by rw [HA.out, h34])]
      have n34 : ((s[t].toNat : Int) != 34) = false := by rw [h34]; rfl
      have hn : ¬ s.size ≤ t := by omega
      clear h34
      go_enter Try.func28, Try.ntmps28
      go_wp2
      go_loopw [6, 7] (fun so si wr => ∃ (k : Nat) (o : List UInt8) (a : Option Addr) (c : Nat), so = .slice a o.length c ∧ si = .int .i64 k ∧ t + 1 ≤ k ∧ k ≤ s.size ∧ o.length ≤ k ∧ Hid (unqA (by' s) (t + 1) = (unqA (by' s) k).map fun p => (o ++ p.1, p.2)) ∧ Hid (wr.ownsRow w.heap.size 5 1 (.slice a o.length c) o.length (Lib.byteCells o)) ∧ Hid (Below w.heap.size w wr)) (fun _ si _ => s.size - (intOf si).toNat)
      case atStart => exact ⟨t + 1, [], none, 0, rfl, by go_num, Nat.le_refl _, by omega, by simp, by unfold Hid; simp, World.ownsRow_nil _ _ _ _, Below.refl _ _⟩
      case round =>
        obtain ⟨k, o, a, c, rfl, rfl, hk1, hk2, hol, HM, HO, HB⟩ := hrel
        by_cases hlt2 : k < s.size
        · have HK := hid (at_byte s k hlt2)
          by_cases c34 : s[k] = 34
          · have HU := hid (map_done HM.out (unqA_quote (by rw [HK.out, c34])))
            have e34 : ((s[k].toNat : Int) == 34) = true := by rw [c34]; rfl
            have hcv := conv_row HO.out
            clear c34
            go_wp2
            go_ret2
            exact ⟨HB.out, .inr ⟨o, k + 1, HQ.out.trans HU.out, by go_num⟩⟩
          · have e34 : ((s[k].toNat : Int) == 34) = false := byte_neq c34
            by_cases c92 : s[k] = 92
            · have e92 : ((s[k].toNat : Int) == 92) = true := by rw [c92]; rfl
              by_cases hend : k + 1 = s.size
              · have HU := hid (map_end HM.out (unqA_cut (by rw [HK.out, c92]) (by simp; omega)))
                have e1 : ((k : Int) + 1 == (s.size : Int)) = true := by simp; omega
                clear c34 c92
                go_wp2
                go_ret2
                exact ⟨HB.out, .inl ⟨HQ.out.trans HU.out, rfl⟩⟩
              · have hlt3 : k + 1 < s.size := by omega
                have HK1 := hid (at_byte s (k + 1) hlt3)
                have e1 : ((k : Int) + 1 == (s.size : Int)) = false := by simp; omega
                by_cases hc : s[k + 1] = 34 ∨ s[k + 1] = 92
                · have HU : Hid (unqA (by' s) (t + 1) = (unqA (by' s) (k + 2)).map fun p => ((o ++ [s[k + 1]]) ++ p.1, p.2)) := map_step HM.out (unqA_esc (by rw [HK.out, c92]) HK1.out hc)
                  have hcc : ((s[k + 1].toNat : Int) != 34) = false ∨ (((s[k + 1].toNat : Int) != 34) = true ∧ ((s[k + 1].toNat : Int) != 92) = false) := by
                    rcases hc with h | h
                    · left; rw [h]; decide
                    · right; rw [h]; decide
                  clear hc c34 c92
                  rcases hcc with n1 | ⟨n1, n2⟩
                  all_goals
                    go_wp2_with (at_builtin; refine wpList_append_own _ rfl (.tmp 55) (.tmp 59) 56 rfl w.heap.size 5 i0 (.int .u8 0) 1 1 Try.underlying56 hi hz0 hz1 hz2 rfl (by decide) _ _ _ rfl (HO.out.alloc _) ⟨wr.heap.size, 0, none⟩ 1 1 [.int .u8 s[k + 1].toNat] rfl rfl ?d1 ?d2 ?d3 ?d4 ?d5 ?_)
                    case d1 => exact Str.one_nw _ _ _
                    case d2 => intro u hu; simp at hu; subst hu; rfl
                    case d3 => unfold maxLen; omega
                    case d4 => omega
                    case d5 => have := HB.out.size; simp; omega
                    intro v2 w4 hown2 hgr2 _
                    obtain ⟨a2, c2, rfl⟩ := own_form hown2
                    have HB2 := hid ((HB.out.alloc HB.out.size (.cells #[.int .u8 s[k + 1].toNat] 5)).grown hgr2 (by have := HB.out.size; simp; omega) (fun k hk => (HO.out.lt k hk).1))
                    have HO2 : Hid (w4.ownsRow w.heap.size 5 1 (.slice a2 (o ++ [s[k + 1]]).length c2) (o ++ [s[k + 1]]).length (Lib.byteCells (o ++ [s[k + 1]]))) := by
                      unfold Hid; rw [← bc_snoc, List.length_append]; exact hown2
                    clear hown2 hgr2
                    go_wp2
                    go_roundw
                    case rel => exact ⟨k + 2, o ++ [s[k + 1]], a2, c2, by simp, by go_num, by omega, by omega, by simp; omega, HU, HO2, HB2⟩
                    case measure => simp [intOf]; omega
                · have HU := hid (map_end HM.out (unqA_bad (by rw [HK.out, c92]) HK1.out (fun h => hc (.inl h)) (fun h => hc (.inr h))))
                  have n1 : ((s[k + 1].toNat : Int) != 34) = true := byte_ne (fun h => hc (.inl h))
                  have n2 : ((s[k + 1].toNat : Int) != 92) = true := byte_ne (fun h => hc (.inr h))
                  clear hc c34 c92
                  go_wp2
                  go_ret2
                  exact ⟨HB.out, .inl ⟨HQ.out.trans HU.out, rfl⟩⟩
            · have e92 : ((s[k].toNat : Int) == 92) = false := byte_neq c92
              have HU : Hid (unqA (by' s) (t + 1) = (unqA (by' s) (k + 1)).map fun p => ((o ++ [s[k]]) ++ p.1, p.2)) := map_step HM.out (unqA_other HK.out c34 c92)
              clear c34 c92
              go_wp2_with (at_builtin; refine wpList_append_own _ rfl (.tmp 55) (.tmp 59) 56 rfl w.heap.size 5 i0 (.int .u8 0) 1 1 Try.underlying56 hi hz0 hz1 hz2 rfl (by decide) _ _ _ rfl (HO.out.alloc _) ⟨wr.heap.size, 0, none⟩ 1 1 [.int .u8 s[k].toNat] rfl rfl ?d1 ?d2 ?d3 ?d4 ?d5 ?_)
              case d1 => exact Str.one_nw _ _ _
              case d2 => intro u hu; simp at hu; subst hu; rfl
              case d3 => unfold maxLen; omega
              case d4 => omega
              case d5 => have := HB.out.size; simp; omega
              intro v2 w4 hown2 hgr2 _
              obtain ⟨a2, c2, rfl⟩ := own_form hown2
              have HB2 := hid ((HB.out.alloc HB.out.size (.cells #[.int .u8 s[k].toNat] 5)).grown hgr2 (by have := HB.out.size; simp; omega) (fun k hk => (HO.out.lt k hk).1))
              have HO2 : Hid (w4.ownsRow w.heap.size 5 1 (.slice a2 (o ++ [s[k]]).length c2) (o ++ [s[k]]).length (Lib.byteCells (o ++ [s[k]]))) := by
                unfold Hid; rw [← bc_snoc, List.length_append]; exact hown2
              clear hown2 hgr2
              go_wp2
              go_roundw
              case rel => exact ⟨k + 1, o ++ [s[k]], a2, c2, by simp, by go_num, by omega, by omega, by simp; omega, HU, HO2, HB2⟩
              case measure => simp [intOf]; omega
        · have HU := hid (map_end HM.out (unqA_end (by simp; omega)))
          go_wp2
          go_ret2
          exact ⟨HB.out, .inl ⟨HQ.out.trans HU.out, rfl⟩⟩
    · have HQ : Hid (quo s t = none) := by unfold Hid quo; rw [if_neg (by rw [HA.out]; simpa using h34)]
      have n34 : ((s[t].toNat : Int) != 34) = true := byte_ne h34
      clear h34
      go_enter Try.func28, Try.ntmps28
      go_wp2
      go_ret2
      exact ⟨Below.refl _ _, .inl ⟨HQ.out, rfl⟩⟩
  · have HQ : Hid (quo s t = none) := by unfold Hid quo; rw [none_at (by omega)]; rfl
    go_enter Try.func28, Try.ntmps28
    go_wp2
    go_ret2
    exact ⟨Below.refl _ _, .inl ⟨HQ.out, rfl⟩⟩
end Go.Proofs.Ytigakbhficoonaa.Rdd
