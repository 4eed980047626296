/- The model's reading of matchers: the walk of l2ReadMatchers. -/
import Derived.Test.YtbjlnaaheahhnaaDoorNg
namespace Go.Proofs.YtbjlnaaheahhnaaDoor.Lab
open Go.RowKit Go.Proofs.YtbjlnaaheahhnaaDoor.Str

theorem Inr.skip {s : ByteArray} {E j : Nat} {z o : Int} {v : ByteArray} (h : Inr s E j z o v) (hd : z = -1 → hdA ((by' s).drop E) j = true → quo s (E + (Pat.sgA j).size) = none) : Inr s E (j - 1) z o v := by
  rcases h with ⟨h1, h2⟩ | ⟨i0, k, x, h1, h2⟩
  · refine .inl ⟨h1, fun i hi h4 hh => ?_⟩
    by_cases e : i = j
    · subst e; exact hd h1 hh
    · exact h2 i (by omega) h4 hh
  · exact .inr ⟨i0, k, x, by omega, h2⟩
theorem Inr.fail {s : ByteArray} {E j : Nat} {z o o' : Int} {v v' : ByteArray} (h : Inr s E j z o v) (hz : z = -1) (hd : quo s (E + (Pat.sgA j).size) = none) : Inr s E (j - 1) (-1) o' v' := by
  rcases h with ⟨h1, h2⟩ | ⟨i0, k, x, h1, h2, h3, h4, h5, _⟩
  · refine .inl ⟨rfl, fun i hi h4 hh => ?_⟩
    by_cases e : i = j
    · subst e; exact hd
    · exact h2 i (by omega) h4 hh
  · omega
theorem Inr.found {s : ByteArray} {E j k : Nat} {x : List UInt8} (h1 : 1 ≤ j) (h4 : j ≤ 4) (hh : hdA ((by' s).drop E) j = true) (hq : quo s (E + (Pat.sgA j).size) = some (x, k)) : Inr s E (j - 1) ((k : Nat) : Int) ((j : Nat) : Int) (mkS x) :=
  .inr ⟨j, k, x, by omega, h4, hh, hq, rfl, rfl, rfl⟩
theorem Inr.bd {s : ByteArray} {E j : Nat} {z o : Int} {v : ByteArray} (h : Inr s E j z o v) : z = -1 ∨ ∃ k : Nat, z = (k : Int) ∧ k ≤ s.size ∧ v.size ≤ s.size ∧ 0 ≤ o ∧ o ≤ 4 := by
  rcases h with ⟨h1, _⟩ | ⟨i0, k, x, h1, h2, _, hq, rfl, rfl, rfl⟩
  · exact .inl h1
  · have := quo_bd hq
    exact .inr ⟨k, rfl, this.2.1, by rw [mkS_size]; exact this.2.2, by omega, by omega⟩

set_option maxRecDepth 100000 in
set_option maxHeartbeats 16000000 in
theorem f22 (s : ByteArray) (t : Nat) (w : World) (hs : s.size ≤ 1048576) (ht : t ≤ s.size) : Calls Tryd.prog 22 #[.string s, .int .i64 t] w (RdM s t w) := by
  obtain ⟨i0, hi, hz0, hz1, hz2⟩ := info_parts Pat.info69
  by_cases hlt : t < s.size
  · have hn : ¬ s.size ≤ t := by omega
    have HA := hid (at_byte s t hlt)
    by_cases c123 : s[t] = 123
    · have n123 : ((s[t].toNat : Int) != 123) = false := by rw [c123]; rfl
      have H123 : Hid ((by' s)[t]? = some 123) := by unfold Hid; rw [HA.out, c123]
      clear c123
      by_cases h125 : (by' s)[t + 1]? = some 125
      · have HL := hid (lfM_some (t := t) (k := t + 2) (ls := []) (by rw [lst_tlM H123.out, tl_endM h125]) (by decide))
        have hlt1 : t + 1 < s.size := by
          have := (List.getElem?_eq_some_iff.1 h125).1
          simpa using this
        have e125 : ((s[t + 1].toNat : Int) == 125) = true := by
          have := at_byte s (t + 1) hlt1
          rw [h125] at this
          simp only [Option.some.injEq] at this
          rw [← this]; rfl
        clear h125
        go_enter Tryd.func22, Tryd.ntmps22
        go_wp2
        go_ret2
        exact ⟨Below.refl _ _, .inr ⟨[], t + 2, none, 0, HL.out, by go_num, World.ownsRow_nil _ _ _ _⟩⟩
      · have HL : Hid (lstM s t = (rdM s (t + 1)).map fun q => ([] ++ q.1, q.2)) := by unfold Hid; rw [lst_tlM H123.out, tl_firstM h125]
        have hcase : (∃ h : t + 1 < s.size, ((s[t + 1].toNat : Int) == 125) = false) ∨ (¬ t + 1 < s.size) := by
          by_cases h : t + 1 < s.size
          · refine .inl ⟨h, ?_⟩
            refine byte_neq (d := 125) fun h1 => h125 ?_
            rw [at_byte s (t + 1) h, h1]
          · exact .inr h
        clear h125
        rcases hcase with ⟨hlt1, e125⟩ | hlt1
        all_goals
          go_enter Tryd.func22, Tryd.ntmps22
          go_wp2
          go_loopw [1, 6] (fun sa so wr => ∃ (k : Nat) (acc : List Pat.Mt) (a : Option Addr) (c : Nat), sa = .int .i64 k ∧ so = .slice a acc.length c ∧ k ≤ s.size ∧ acc.length ≤ 11 ∧ Hid (lstM s t = (rdM s k).map fun q => (acc ++ q.1, q.2)) ∧ Hid (wr.ownsRow w.heap.size 37 3 (.slice a acc.length c) acc.length (Pat.flatM acc)) ∧ Hid (Below w.heap.size w wr) ∧ Hid (SzM s.size acc)) (fun sa _ _ => s.size + 1 - (intOf sa).toNat)
          case atStart => exact ⟨t + 1, [], none, 0, by go_num, rfl, by omega, by simp, HL, World.ownsRow_nil _ _ _ _, Below.refl _ _, by intro p hp; simp at hp⟩
          case round =>
            obtain ⟨k, acc, a, c, rfl, rfl, hk, hl21, HJ, HO, HB, HZ⟩ := hrel
            by_cases hl : acc.length ≤ 10
            · have he1 := nmE_ge (by' s) k
              have he2 := nmE_le (l := by' s) (i := k) (by simpa using hk)
              obtain ⟨e, he, hke, hes⟩ : ∃ e, e = nmE (by' s) k ∧ k ≤ e ∧ e ≤ s.size := ⟨_, rfl, he1, by simpa using he2⟩
              have HE := hid he
              have HB0 := hid (Bx.new HO.out HB.out)
              obtain ⟨X, hX⟩ : ∃ X, X = wr.heap.size := ⟨_, rfl⟩
              rw [← hX] at HB0
              clear he1 he2
              go_wp2_with fail
              refine (f34 s k _ hs hk).mono ?_
              rintro e1 w1 ⟨rfl, hw⟩
              have hw := hw.symm
              subst hw
              rw [← he, ← hX]
              obtain ⟨c0, c1, c2⟩ := Pat.three_at HB0.out.box
              have z0 := tri_frz (o := 0) HB0.out.box
              have HB1 := hid (HB0.out.set0 (x := s.extract k e))
              have j0 : (0 : Int) ≤ (k : Int) := by omega
              have j1 : (k : Int) ≤ (e : Int) := by omega
              have j2 : (e : Int) ≤ (s.size : Int) := by omega
              have j3 : (0 : Int) ≤ (e : Int) := by omega
              clear he hX HO HB
              go_wp2
              go_loopw [9, 10] (fun sn sj wq => ∃ (j : Nat) (z o : Int) (v : ByteArray), sn = .int .i64 z ∧ sj = .int .i64 j ∧ j ≤ 4 ∧ Hid (Inr s e j z o v) ∧ Hid (Bx w X a c acc (s.extract k e) o v wq)) (fun _ sj _ => (intOf sj).toNat)
              case atStart => exact ⟨4, -1, 0, ⟨#[]⟩, rfl, rfl, Nat.le_refl _, .inl ⟨rfl, fun i h1 h2 => by omega⟩, HB1⟩
              case round =>
                obtain ⟨j, z, o, v, rfl, rfl, hj4, HI, HBq⟩ := hrel
                by_cases hj : 1 ≤ j
                · have i1 : (j : Int) < 5 := by omega
                  have i2 : (0 : Int) ≤ (j : Int) := by omega
                  have i3 : (1 : Int) ≤ (j : Int) := by omega
                  have hsz := Pat.sgA_size j
                  go_wp2_with fail
                  refine (Pat.f29 _).mono ?_
                  rintro e1 w2 ⟨rfl, hw2⟩
                  have cj := Pat.ops_at wr j (by omega)
                  have HBr := hid (HBq.out.below ((Below.refl wr.heap.size wr).alloc (Nat.le_refl _) (.cells #[.string (Pat.sgA 0), .string (Pat.sgA 1), .string (Pat.sgA 2), .string (Pat.sgA 3), .string (Pat.sgA 4)] 9)))
                  rw [← hw2] at cj HBr
                  clear hw2
                  rcases HI.out.bd with hz | ⟨kz, hz, hkz, _, _, _⟩
                  · subst hz
                    have a1 := add_run (Pat.sgA j) ⟨#[34]⟩ (by have : (⟨#[34]⟩ : ByteArray).size = 1 := rfl; omega)
                    have hap : (Pat.sgA j ++ (⟨#[34]⟩ : ByteArray)).size ≤ 1000 := by
                      have : (⟨#[34]⟩ : ByteArray).size = 1 := rfl
                      rw [ByteArray.size_append]; omega
                    go_wp2_with fail
                    refine (f35 _ _ _ (ext_size hs) hap).mono ?_
                    rintro e1 w3 ⟨rfl, hw3⟩
                    have hw3 := hw3.symm
                    subst hw3
                    rw [hd_pfxU]
                    by_cases hh : hdA ((by' s).drop e) j = true
                    · have hfit : e + (Pat.sgA j).size ≤ s.size := pfx_fits ((hd_iff _ _).1 hh).1 hes
                      have HH := hid hh
                      rw [hh]
                      obtain ⟨c0, c1, c2⟩ := Pat.three_at HBr.out.box
                      have z1 := tri_frz (o := 1) HBr.out.box
                      have HBs := hid (HBr.out.set1 (x := (j : Int)))
                      clear hh a1 hap cj
                      go_wp2_with fail
                      refine (f36 s (e + (Pat.sgA j).size) _ hs hfit).mono ?_
                      rintro e1 w4 ⟨hb4, h4⟩
                      have HBt := hid (HBs.out.below hb4)
                      obtain ⟨c0, c1, c2⟩ := Pat.three_at HBt.out.box
                      have z2 := tri_frz (o := 2) HBt.out.box
                      clear hb4
                      rcases h4 with ⟨hq, rfl⟩ | ⟨x, kq, hq, rfl⟩
                      · have HI2 := hid (HI.out.fail (o' := (j : Int)) (v' := ⟨#[]⟩) rfl hq)
                        have HBu := hid (HBt.out.set2 (x := ⟨#[]⟩))
                        clear hq
                        go_wp2
                        go_roundw
                        case rel => exact ⟨j - 1, -1, (j : Int), ⟨#[]⟩, rfl, by go_num, by omega, HI2, HBu⟩
                        case measure => simp [intOf]; omega
                      · have HI2 := hid (Inr.found hj hj4 HH.out hq)
                        have HBu := hid (HBt.out.set2 (x := mkS x))
                        clear hq
                        go_wp2
                        go_roundw
                        case rel => exact ⟨j - 1, (kq : Int), (j : Int), mkS x, rfl, by go_num, by omega, HI2, HBu⟩
                        case measure => simp [intOf]; omega
                    · have hh' : hdA ((by' s).drop e) j = false := by simpa using hh
                      have HI2 := hid (HI.out.skip (fun _ h => absurd h hh))
                      rw [hh']
                      clear hh hh'
                      go_wp2
                      go_roundw
                      case rel => exact ⟨j - 1, -1, o, v, rfl, by go_num, by omega, HI2, HBr⟩
                      case measure => simp [intOf]; omega
                  · subst hz
                    have HI2 := hid (HI.out.skip (fun h _ => by omega))
                    have i4 : ¬ (kz : Int) < 0 := by omega
                    go_wp2
                    go_roundw
                    case rel => exact ⟨j - 1, (kz : Int), o, v, rfl, by go_num, by omega, HI2, HBr⟩
                    case measure => simp [intOf]; omega
                · obtain rfl : j = 0 := by omega
                  rcases HI.out.bd with hz | ⟨kz, hz, hkz, hvs, ho0, ho4⟩
                  · have HF := hid (lfM_none (rdM_nil HJ.out (by have h := HI.out; rw [HE.out] at h; exact h.none_ hz)))
                    subst hz
                    go_wp2
                    go_ret2
                    exact ⟨HBq.out.bel, .inl ⟨HF.out, rfl⟩⟩
                  · subst hz
                    have H1 : Hid (oneM s k = some ((s.extract k e, o, v), kz)) := by
                      have h := HI.out
                      rw [HE.out] at h
                      have h2 := h.some_
                      rw [← HE.out] at h2
                      exact h2
                    have hkk : k < kz := (oneM_bd H1.out).1
                    have i4 : ¬ (kz : Int) < 0 := by omega
                    obtain ⟨c0, c1, c2⟩ := Pat.three_at HBq.out.box
                    by_cases hjlt : kz < s.size
                    · have HAj := hid (at_byte s kz hjlt)
                      have hn3 : ¬ s.size ≤ kz := by omega
                      by_cases c125 : s[kz] = 125
                      · have HF := hid (rdM_end HJ.out H1.out (by rw [HAj.out, c125]))
                        have f44 : ((s[kz].toNat : Int) != 44) = true := by rw [c125]; rfl
                        have f125 : ((s[kz].toNat : Int) != 125) = false := by rw [c125]; rfl
                        have g125 : ((s[kz].toNat : Int) == 125) = true := by rw [c125]; rfl
                        clear c125
                        go_wp2_with (at_builtin; refine wpList_append_own _ rfl (.tmp 98) (.tmp 100) 25 rfl w.heap.size 37 i0 (.agg #[.string ByteArray.empty, .int .i64 0, .string ByteArray.empty]) 3 40 Tryd.underlying25 hi hz0 hz1 hz2 rfl (by decide) _ _ _ rfl (HBq.out.row.alloc _) ⟨wr.heap.size, 0, none⟩ 1 1 [.string (s.extract k e), .int .i64 o, .string v] rfl rfl (tri_new _ _ _ _ _) (by intro u hu; simp at hu; rcases hu with rfl | rfl | rfl <;> rfl) (by unfold maxLen; omega) (by omega) (by have := HBq.out.bel.size; simp; omega) ?_)
                        intro v3 w3 hown3 hgr3 _
                        obtain ⟨a3, c3, rfl⟩ := own_form hown3
                        have HB3 := hid ((HBq.out.bel.alloc HBq.out.bel.size (.cells #[.string (s.extract k e), .int .i64 o, .string v] 37)).grown hgr3 (by have := HBq.out.bel.size; simp; omega) (fun k hk => (HBq.out.row.lt k hk).1))
                        have HO3 : Hid (w3.ownsRow w.heap.size 37 3 (.slice a3 (acc ++ [(s.extract k e, o, v)]).length c3) (acc ++ [(s.extract k e, o, v)]).length (Pat.flatM (acc ++ [(s.extract k e, o, v)]))) := by
                          unfold Hid; rw [List.length_append, flatM_app]; exact hown3
                        have HZ3 : Hid (SzM s.size (acc ++ [(s.extract k e, o, v)])) := HZ.out.snoc (by show (s.extract k e).size ≤ s.size; rw [ByteArray.size_extract]; omega) ⟨hvs, ho0, ho4⟩
                        have HLn : Hid ((acc ++ [(s.extract k e, o, v)]).length = acc.length + 1) := by unfold Hid; simp
                        clear hown3 hgr3
                        generalize acc ++ [(s.extract k e, o, v)] = L at *
                        go_wp2_with fail
                        refine (Pat.f15 a3 (acc.length + 1) c3 L _ HLn.out (by unfold maxLen; omega) (hasM_own HO3.out) (HZ3.out.fit (by unfold maxLen; omega))).mono ?_
                        rintro e4 w4 ⟨rfl, hb4⟩
                        have HB4 := hid (HB3.out.trans (hb4.mono HB3.out.size))
                        have HO4 := hid (own_below HO3.out hb4)
                        clear hb4
                        by_cases hg : Pat.goodM L = true
                        · have HR := hid (lfM_some HF.out hg)
                          rw [hg]
                          clear hg
                          go_wp2
                          go_ret2
                          exact ⟨HB4.out, .inr ⟨L, kz + 1, a3, c3, HR.out, by rw [HLn.out]; go_num, HO4.out⟩⟩
                        · have hg' : Pat.goodM L = false := by simpa using hg
                          have HR := hid (lfM_bad HF.out hg')
                          rw [hg']
                          clear hg hg'
                          go_wp2
                          go_ret2
                          exact ⟨HB4.out, .inl ⟨HR.out, rfl⟩⟩
                      · by_cases c44 : s[kz] = 44
                        · have HF := hid (rdM_next HJ.out H1.out (by rw [HAj.out, c44]))
                          have f44 : ((s[kz].toNat : Int) != 44) = false := by rw [c44]; rfl
                          have g125 : ((s[kz].toNat : Int) == 125) = false := by rw [c44]; rfl
                          clear c125 c44
                          go_wp2_with (at_builtin; refine wpList_append_own _ rfl (.tmp 98) (.tmp 100) 25 rfl w.heap.size 37 i0 (.agg #[.string ByteArray.empty, .int .i64 0, .string ByteArray.empty]) 3 40 Tryd.underlying25 hi hz0 hz1 hz2 rfl (by decide) _ _ _ rfl (HBq.out.row.alloc _) ⟨wr.heap.size, 0, none⟩ 1 1 [.string (s.extract k e), .int .i64 o, .string v] rfl rfl (tri_new _ _ _ _ _) (by intro u hu; simp at hu; rcases hu with rfl | rfl | rfl <;> rfl) (by unfold maxLen; omega) (by omega) (by have := HBq.out.bel.size; simp; omega) ?_)
                          intro v3 w3 hown3 hgr3 _
                          obtain ⟨a3, c3, rfl⟩ := own_form hown3
                          have HB3 := hid ((HBq.out.bel.alloc HBq.out.bel.size (.cells #[.string (s.extract k e), .int .i64 o, .string v] 37)).grown hgr3 (by have := HBq.out.bel.size; simp; omega) (fun k hk => (HBq.out.row.lt k hk).1))
                          have HO3 : Hid (w3.ownsRow w.heap.size 37 3 (.slice a3 (acc ++ [(s.extract k e, o, v)]).length c3) (acc ++ [(s.extract k e, o, v)]).length (Pat.flatM (acc ++ [(s.extract k e, o, v)]))) := by
                            unfold Hid; rw [List.length_append, flatM_app]; exact hown3
                          have HZ3 : Hid (SzM s.size (acc ++ [(s.extract k e, o, v)])) := HZ.out.snoc (by show (s.extract k e).size ≤ s.size; rw [ByteArray.size_extract]; omega) ⟨hvs, ho0, ho4⟩
                          clear hown3 hgr3
                          go_wp2
                          go_roundw
                          case rel => exact ⟨kz + 1, acc ++ [(s.extract k e, o, v)], a3, c3, by go_num, by simp, by omega, by simp; omega, HF, HO3, HB3, HZ3⟩
                          case measure => simp [intOf]; omega
                        · have HF := hid (lfM_none (rdM_bad HJ.out H1.out (by rw [HAj.out]; simpa using c125) (by rw [HAj.out]; simpa using c44)))
                          have f44 : ((s[kz].toNat : Int) != 44) = true := byte_ne c44
                          have f125 : ((s[kz].toNat : Int) != 125) = true := byte_ne c125
                          clear c125 c44
                          go_wp2
                          go_ret2
                          exact ⟨HBq.out.bel, .inl ⟨HF.out, rfl⟩⟩
                    · have HF := hid (lfM_none (rdM_bad HJ.out H1.out (by rw [none_at (by omega)]; simp) (by rw [none_at (by omega)]; simp)))
                      have hge : s.size ≤ kz := by omega
                      go_wp2
                      go_ret2
                      exact ⟨HBq.out.bel, .inl ⟨HF.out, rfl⟩⟩
            · have HF := hid (lfM_long HJ.out (by omega))
              go_wp2
              go_ret2
              exact ⟨HB.out, .inl ⟨HF.out, rfl⟩⟩
    · have n123 : ((s[t].toNat : Int) != 123) = true := byte_ne c123
      have HL : Hid (lfM s t = none) := lfM_none (lst_notM (by rw [HA.out]; simpa using c123))
      clear c123
      go_enter Tryd.func22, Tryd.ntmps22
      go_wp2
      go_ret2
      exact ⟨Below.refl _ _, .inl ⟨HL.out, rfl⟩⟩
  · have HL : Hid (lfM s t = none) := lfM_none (lst_notM (by rw [none_at (by omega)]; simp))
    go_enter Tryd.func22, Tryd.ntmps22
    go_wp2
    go_ret2
    exact ⟨Below.refl _ _, .inl ⟨HL.out, rfl⟩⟩
end Go.Proofs.YtbjlnaaheahhnaaDoor.Lab
