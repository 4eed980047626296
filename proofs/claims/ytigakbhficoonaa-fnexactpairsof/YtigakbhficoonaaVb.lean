/- The program's reader of texts: what quoted comes to. -/
import Derived.Test.YtigakbhficoonaaVa
namespace Go.Proofs.Ytigakbhficoonaa.Rdd
open Go.RowKit Go.Proofs.Ytigakbhficoonaa.Pat

theorem bc_snoc (l : List UInt8) (c : UInt8) : Lib.byteCells l ++ [.int .u8 c.toNat] = Lib.byteCells (l ++ [c]) := by simp [Lib.byteCells]
/-- A reader at block R and a builder from block B on, in a world that came from w0. -/
structure Qs (R B : Nat) (s : ByteArray) (w0 : World) (k : Nat) (o : List UInt8) (w : World) : Prop where
  rdr : Rdr R s k w
  bld : Lib.IsBuilder 88 5 B B (Lib.byteCells o) w
  lt : R < B
  old : w0.heap.size ≤ B
  cur : B ≤ w.heap.size
  grw : w0.grownBy w (some R)
theorem bld_at_kept {R B : Nat} {p : Value} {o : List Value} {w w' : World} (h : Lib.BuilderAt 88 5 B B p o w) (hg : w.grownBy w' (some R)) (hR : R < B) : Lib.BuilderAt 88 5 B B p o w' := by
  have hlt := h.lt
  obtain ⟨h1, v, h2, h3, h4⟩ := h
  refine ⟨h1, v, (hg.block B hlt (by simp; omega)).trans h2, h3.kept hg ?_, h4⟩
  cases e : v.ownBlock with
  | none => exact .inl rfl
  | some g => have := (h3.lt g e).1; exact .inr (by simp; omega)
theorem bld_kept {R B : Nat} {o : List Value} {w w' : World} (h : Lib.IsBuilder 88 5 B B o w) (hg : w.grownBy w' (some R)) (hR : R < B) : Lib.IsBuilder 88 5 B B o w' := by
  rcases h with h | h
  · exact .inl (bld_at_kept h hg hR)
  · exact .inr (bld_at_kept h hg hR)
theorem Qs.moved {R B : Nat} {s : ByteArray} {w0 w w' : World} {k k' : Nat} {o : List UInt8} (h : Qs R B s w0 k o w) (hr : Rdr R s k' w') (hg : w.grownBy w' (some R)) : Qs R B s w0 k' o w' :=
  ⟨hr, bld_kept h.bld hg h.lt, h.lt, h.old, Nat.le_trans h.cur hg.size, Lib.grownBy_trans h.grw hg⟩
theorem Qs.drew {R B : Nat} {s : ByteArray} {w0 w : World} {k : Nat} {o : List UInt8} (h : Qs R B s w0 k o w) : Qs R B s w0 k o w.drew :=
  h.moved h.rdr ⟨rfl, rfl, rfl, Nat.le_refl _, fun _ _ _ => rfl⟩
theorem Qs.set {R B : Nat} {s : ByteArray} {w0 w : World} {k : Nat} {o : List UInt8} (h : Qs R B s w0 k o w) (hk : k < s.size) : Qs R B s w0 (k + 1) o (w.setCell ⟨R, 1, none⟩ (.int .i64 ((k : Int) + 1))) :=
  h.moved ⟨two_set1 h.rdr.1, by omega⟩ (Lib.grownBy_setB (World.grownBy.refl _ _) 1 _)
theorem Qs.write {R B : Nat} {s : ByteArray} {w0 w w' : World} {k : Nat} {o : List UInt8} {c : UInt8} (h : Qs R B s w0 k o w) (hb : Lib.BuilderAt 88 5 B B (.pointer (some ⟨B, 0, none⟩)) (Lib.byteCells o ++ [.int .u8 c.toNat]) w') (hx : Below B w w') : Qs R B s w0 k (o ++ [c]) w' := by
  refine ⟨⟨(hx.block R h.lt).trans h.rdr.1, h.rdr.2⟩, .inr ?_, h.lt, h.old, Nat.le_trans h.cur hx.size, ?_⟩
  · rw [← bc_snoc]; exact hb
  · exact ⟨hx.os.trans h.grw.os, hx.tape.trans h.grw.tape, hx.output.trans h.grw.output, Nat.le_trans h.grw.size hx.size, fun j hj hr => (hx.block j (Nat.lt_of_lt_of_le hj h.old)).trans (h.grw.block j hj hr)⟩
theorem Qs.sr {R B : Nat} {s : ByteArray} {w0 w : World} {k : Nat} {o : List UInt8} (h : Qs R B s w0 k o w) : SR R s k w w := SR.refl h.rdr

/-- What a quoted text from place t on says. -/
def quo (s : ByteArray) (t : Nat) : Option (List UInt8 × Nat) := if (by' s)[t]? = some 34 then unqA (by' s) (t + 1) else none
theorem map_end {l : List UInt8} {i k : Nat} {o : List UInt8} (h : unqA l i = (unqA l k).map fun p => (o ++ p.1, p.2)) (hk : unqA l k = none) : unqA l i = none := by rw [h, hk]; rfl
theorem map_step {l : List UInt8} {i k k' : Nat} {o : List UInt8} {c : UInt8} (h : unqA l i = (unqA l k).map fun p => (o ++ p.1, p.2)) (hk : unqA l k = (unqA l k').map fun p => (c :: p.1, p.2)) : unqA l i = (unqA l k').map fun p => ((o ++ [c]) ++ p.1, p.2) := by
  rw [h, hk, Option.map_map]
  congr 1
  funext p
  simp
theorem map_done {l : List UInt8} {i k k' : Nat} {o : List UInt8} (h : unqA l i = (unqA l k).map fun p => (o ++ p.1, p.2)) (hk : unqA l k = some ([], k')) : unqA l i = some (o, k') := by rw [h, hk]; simp

theorem byte_ne {c d : UInt8} (h : c ≠ d) : ((c.toNat : Int) != (d.toNat : Int)) = true := by
  rw [bne_iff_ne]
  intro e
  exact h (UInt8.toNat_inj.1 (by omega))
/-- What the call of quoted leaves. -/
def QuoR (R : Nat) (s : ByteArray) (t : Nat) (w : World) (e : Ending) (w' : World) : Prop :=
  w.grownBy w' (some R) ∧ ((quo s t = none ∧ e = .returned (.tuple #[.string ⟨#[]⟩, .bool false]) ∧ ∃ k, Rdr R s k w') ∨ ∃ v k, quo s t = some (v, k) ∧ e = .returned (.tuple #[.string (mkS v), .bool true]) ∧ Rdr R s k w')

set_option maxHeartbeats 4000000 in
theorem f51 (R : Nat) (s : ByteArray) (t : Nat) (w : World) (hs : s.size ≤ 1048576) (h : Rdr R s t w) : Calls Try.prog 51 #[.pointer (some ⟨R, 0, none⟩)] w (QuoR R s t w) := by
  have hRw : R < w.heap.size := lt_block h.1
  have HR := hid h
  by_cases h34 : (by' s)[t]? = some 34
  · have HQ : Hid (quo s t = unqA (by' s) (t + 1)) := by unfold Hid quo; rw [if_pos h34]
    have HT := hid h34
    have ht : t < s.size := by
      have := (List.getElem?_eq_some_iff.1 h34).1
      simpa using this
    clear h34 h
    go_enter Try.func51, Try.ntmps51
    go_wp2_with fail
    refine (f56y R s t 34 _ hs HR.out HT.out).mono ?_
    rintro e w1 ⟨rfl, hr1, hg1⟩
    have HQ1 : Hid (Qs R w1.heap.size s w (t + 1) [] (w1.alloc (.cells #[.pointer none, .slice none 0 0] 88))) := by
      refine ⟨⟨box_alloc hr1.1 _, hr1.2⟩, Lib.fresh_isBuilder 88 5 w1, lt_block hr1.1, hg1.size, by simp, Lib.grownBy_allocR hg1 _⟩
    clear hr1 hg1
    go_wp2
    go_loopw [] (fun wr => ∃ (k : Nat) (o : List UInt8), t + 1 ≤ k ∧ k ≤ s.size ∧ o.length ≤ k ∧ Hid (unqA (by' s) (t + 1) = (unqA (by' s) k).map fun p => (o ++ p.1, p.2)) ∧ Hid (Qs R w1.heap.size s w k o wr)) (fun wr => s.size - posOf R wr)
    case atStart => exact ⟨t + 1, [], Nat.le_refl _, by omega, by simp, by unfold Hid; simp, HQ1⟩
    case round =>
      obtain ⟨k, o, hk1, hk2, hol, HM, HS⟩ := hrel
      have HP := hid (posOf_eq HS.out.rdr)
      by_cases c34 : (by' s)[k]? = some 34
      · have HU := hid (map_done HM.out (unqA_quote c34))
        go_wp2_with fail
        refine (f56y R s k 34 _ hs HS.out.rdr c34).mono ?_
        rintro e w2 ⟨rfl, hr2, hg2⟩
        have HS2 := hid (HS.out.moved hr2 hg2)
        clear hr2 hg2
        go_wp2_with fail
        refine (Try.Builder_String_any w1.heap.size w1.heap.size o _ HS2.out.bld HS2.out.cur).mono ?_
        rintro e w3 ⟨rfl, hb3⟩
        have HR3 : Hid (Rdr R s (k + 1) w3) := ⟨(hb3.block R HS2.out.lt).trans HS2.out.rdr.1, HS2.out.rdr.2⟩
        have HG3 : Hid (w.grownBy w3 (some R)) := ⟨hb3.os.trans HS2.out.grw.os, hb3.tape.trans HS2.out.grw.tape, hb3.output.trans HS2.out.grw.output, Nat.le_trans HS2.out.grw.size hb3.size, fun j hj hr => (hb3.block j (Nat.lt_of_lt_of_le hj HS2.out.old)).trans (HS2.out.grw.block j hj hr)⟩
        clear hb3
        go_wp2
        go_ret2
        exact ⟨HG3.out, .inr ⟨o, k + 1, HQ.out.trans HU.out, rfl, HR3.out⟩⟩
      · by_cases c92 : (by' s)[k]? = some 92
        · have C92 := hid c92
          have hklt : k < s.size := by
            have := (List.getElem?_eq_some_iff.1 c92).1
            simpa using this
          go_wp2_with fail
          refine (f56n R s k 34 _ hs HS.out.rdr c34).mono ?_
          rintro e w2 ⟨rfl, hr2, hg2⟩
          have HS2 := hid (HS.out.moved hr2 hg2)
          clear hr2 hg2
          go_wp2_with fail
          refine (f56y R s k 92 _ hs HS2.out.rdr c92).mono ?_
          rintro e w3 ⟨rfl, hr3, hg3⟩
          have HS3 := hid (HS2.out.moved hr3 hg3)
          clear hr3 hg3 c34 c92
          by_cases hend : k + 1 = s.size
          · have HU := hid (map_end HM.out (unqA_cut C92.out (by simp; omega)))
            have e1 : ((k + 1 : Nat) : Int) = (s.size : Int) := by omega
            go_wp2_with fail
            go_region_held3 (fun w' => SR R s (k + 1) w3 w') (first | exact HS3.out.sr.drew | exact SR.drew (by assumption) | assumption) (first | fail)
            have HS4 := hid HS3.out.drew
            go_wp2
            go_ret2
            exact ⟨HS4.out.grw, .inl ⟨HQ.out.trans HU.out, rfl, _, HS4.out.rdr⟩⟩
          · obtain ⟨m, hm⟩ : ∃ m, m = k + 1 := ⟨_, rfl⟩
            have HMK := hid hm
            have HS3m : Hid (Qs R w1.heap.size s w m o w3) := by rw [hm]; exact HS3
            have hm2 : m < s.size := by omega
            have C92m : Hid ((by' s)[m - 1]? = some 92) := by rw [hm]; exact C92
            have HMm : Hid (unqA (by' s) (t + 1) = (unqA (by' s) (m - 1)).map fun p => (o ++ p.1, p.2)) := by rw [hm]; exact HM
            have hm1 : 1 ≤ m := by omega
            have hol2 : o.length ≤ m := by omega
            have htm : t + 1 ≤ m := by omega
            clear hend HS3 HS HM C92 hm
            have e1 : ((m : Int) == (s.size : Int)) = false := by simp; omega
            have i0 : (0 : Int) ≤ (m : Int) := by omega
            have i1 : (m : Int) < (s.size : Int) := by omega
            have HA := hid (at_byte s m hm2)
            go_wp2_with fail
            go_region_held3 (fun w' => SR R s m w3 w') (first | exact HS3m.out.sr.drew | exact SR.drew (by assumption) | assumption) (first | fail)
            have HS4 := hid HS3m.out.drew
            go_wp2_with fail
            go_region_held3 (fun w' => SR R s m w3.drew w') (first | exact HS4.out.sr.drew | exact SR.drew (by assumption) | assumption) (first | fail)
            have HS5 := hid HS4.out.drew
            by_cases hc : s[m] = 34 ∨ s[m] = 92
            · have HU : Hid (unqA (by' s) (t + 1) = (unqA (by' s) (m + 1)).map fun p => ((o ++ [s[m]]) ++ p.1, p.2)) := by
                have h1 := map_step HMm.out (unqA_esc C92m.out (by rw [show m - 1 + 1 = m from by omega]; exact HA.out) hc)
                rw [show m - 1 + 2 = m + 1 from by omega] at h1
                exact h1
              have hcc : ((s[m].toNat : Int) != 34) = false ∨ (((s[m].toNat : Int) != 34) = true ∧ ((s[m].toNat : Int) != 92) = false) := by
                rcases hc with h | h
                · left; rw [h]; decide
                · right; rw [h]; decide
              clear hc
              rcases hcc with n34 | ⟨n34, n92⟩
              all_goals
                go_wp2_with fail
                refine (Try.Builder_WriteByte w1.heap.size w1.heap.size _ _ _ HS5.out.bld (by rw [Lib.byteCells_length]; omega) HS5.out.cur).mono ?_
                rintro e w6 ⟨rfl, h6, hb6⟩
                have HS6 := hid (HS5.out.write h6 hb6)
                have r1 := HS6.out.sr.2.1
                have rf := two_frz (o := 1) HS6.out.sr.2.2.1
                have HS7 := hid (HS6.out.set hm2)
                have HP7 := hid (posOf_eq HS7.out.rdr)
                clear h6 hb6
                go_wp2
                go_roundw
                case rel => exact ⟨m + 1, o ++ [s[m]], by omega, by omega, by simp; omega, HU, HS7⟩
                case measure => rw [HP.out]; exact Nat.lt_of_le_of_lt (Nat.le_of_eq (congrArg (fun z => s.size - z) HP7.out)) (by have := HMK.out; omega)
            · have HU : Hid (unqA (by' s) (t + 1) = none) := map_end HMm.out (unqA_bad C92m.out (by rw [show m - 1 + 1 = m from by omega]; exact HA.out) (fun h => hc (.inl h)) (fun h => hc (.inr h)))
              have n34 : ((s[m].toNat : Int) != 34) = true := byte_ne (fun h => hc (.inl h))
              have n92 : ((s[m].toNat : Int) != 92) = true := byte_ne (fun h => hc (.inr h))
              clear hc
              go_wp2
              go_ret2
              exact ⟨HS5.out.grw, .inl ⟨HQ.out.trans HU.out, rfl, _, HS5.out.rdr⟩⟩
        · go_wp2_with fail
          refine (f56n R s k 34 _ hs HS.out.rdr c34).mono ?_
          rintro e w2 ⟨rfl, hr2, hg2⟩
          have HS2 := hid (HS.out.moved hr2 hg2)
          clear hr2 hg2
          go_wp2_with fail
          refine (f56n R s k 92 _ hs HS2.out.rdr c92).mono ?_
          rintro e w3 ⟨rfl, hr3, hg3⟩
          have HS3 := hid (HS2.out.moved hr3 hg3)
          clear hr3 hg3
          by_cases hlt : k < s.size
          · have HA := hid (at_byte s k hlt)
            have HU : Hid (unqA (by' s) (t + 1) = (unqA (by' s) (k + 1)).map fun p => ((o ++ [s[k]]) ++ p.1, p.2)) := map_step HM.out (unqA_other HA.out (fun h => c34 (by rw [HA.out, h])) (fun h => c92 (by rw [HA.out, h])))
            clear c34 c92
            have e1 : ((k : Int) == (s.size : Int)) = false := by simp; omega
            have i0 : (0 : Int) ≤ (k : Int) := by omega
            have i1 : (k : Int) < (s.size : Int) := by omega
            go_wp2_with fail
            go_region_held3 (fun w' => SR R s k w3 w') (first | exact HS3.out.sr.drew | exact SR.drew (by assumption) | assumption) (first | fail)
            have HS4 := hid HS3.out.drew
            go_wp2_with fail
            go_region_held3 (fun w' => SR R s k w3.drew w') (first | exact HS4.out.sr.drew | exact SR.drew (by assumption) | assumption) (first | fail)
            have HS5 := hid HS4.out.drew
            go_wp2_with fail
            refine (Try.Builder_WriteByte w1.heap.size w1.heap.size _ _ _ HS5.out.bld (by rw [Lib.byteCells_length]; omega) HS5.out.cur).mono ?_
            rintro e w6 ⟨rfl, h6, hb6⟩
            have HS6 := hid (HS5.out.write h6 hb6)
            have r1 := HS6.out.sr.2.1
            have rf := two_frz (o := 1) HS6.out.sr.2.2.1
            have HS7 := hid (HS6.out.set hlt)
            have HP7 := hid (posOf_eq HS7.out.rdr)
            clear h6 hb6
            go_wp2
            go_roundw
            case rel => exact ⟨k + 1, o ++ [s[k]], by omega, by omega, by simp; omega, HU, HS7⟩
            case measure => rw [HP.out]; exact Nat.lt_of_le_of_lt (Nat.le_of_eq (congrArg (fun z => s.size - z) HP7.out)) (by omega)
          · have HU := hid (map_end HM.out (unqA_end (by simp; omega)))
            clear c34 c92
            have e1 : ((k : Int) == (s.size : Int)) = true := by simp; omega
            go_wp2_with fail
            go_region_held3 (fun w' => SR R s k w3 w') (first | exact HS3.out.sr.drew | exact SR.drew (by assumption) | assumption) (first | fail)
            have HS4 := hid HS3.out.drew
            go_wp2
            go_ret2
            exact ⟨HS4.out.grw, .inl ⟨HQ.out.trans HU.out, rfl, _, HS4.out.rdr⟩⟩
  · have HQ : Hid (quo s t = none) := by unfold Hid quo; rw [if_neg h34]
    have HT := hid h34
    clear h34 h
    go_enter Try.func51, Try.ntmps51
    go_wp2_with fail
    refine (f56n R s t 34 _ hs HR.out HT.out).mono ?_
    rintro e w1 ⟨rfl, hr1, hg1⟩
    have HG := hid hg1
    have HR1 := hid hr1
    clear hr1 hg1
    go_wp2
    go_ret2
    exact ⟨HG.out, .inl ⟨HQ.out, rfl, _, HR1.out⟩⟩
end Go.Proofs.Ytigakbhficoonaa.Rdd
