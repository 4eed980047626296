/- A list of labels is read: what readList comes to. -/
import Derived.Test.YtgcleocpbpgjeaaRl
import Derived.Test.YtgcleocpbpgjeaaKdw
namespace Go.Proofs.Ytgcleocpbpgjeaa.Lab
open Go.RowKit Go.Proofs.Ytgcleocpbpgjeaa.Str

/-- A list in its braces from a place on: it, and the place behind it. -/
def lst (s : ByteArray) (t : Nat) : Option (List Lb × Nat) :=
  if (by' s)[t]? = some 123 then
    if (by' s)[t + 1]? = some 125 then some ([], t + 2) else rd s (t + 1)
  else none
theorem brc_lst (s : ByteArray) : brc s = (lst s 0).bind fun q => if q.2 = s.size then some q.1 else none := by
  unfold brc lst
  by_cases h1 : (by' s)[0]? = some 123
  · rw [if_pos h1, if_pos h1]
    by_cases h2 : (by' s)[0 + 1]? = some 125
    · rw [if_pos h2, if_pos h2]
      by_cases h3 : s.size = 2
      · simp [h3]
      · have h3' : ¬ 2 = s.size := fun h => h3 h.symm
        simp [h3, h3']
    · rw [if_neg h2, if_neg h2]
  · rw [if_neg h1, if_neg h1]; rfl
/-- What is left where acc has been read and the reader stands at k. -/
def tl (s : ByteArray) (acc : List Lb) (k : Nat) : Option (List Lb × Nat) :=
  if (by' s)[k]? = some 125 then some (acc, k + 1)
  else if acc = [] then (rd s k).map fun q => (acc ++ q.1, q.2)
  else if (by' s)[k]? = some 44 then (rd s (k + 1)).map fun q => (acc ++ q.1, q.2)
  else none
theorem lst_tl {s : ByteArray} {t : Nat} (h : (by' s)[t]? = some 123) : lst s t = tl s [] (t + 1) := by
  unfold lst tl
  rw [if_pos h]
  by_cases h2 : (by' s)[t + 1]? = some 125
  · rw [if_pos h2, if_pos h2]
  · rw [if_neg h2, if_neg h2, if_pos rfl]
    cases rd s (t + 1) <;> simp
theorem lst_not {s : ByteArray} {t : Nat} (h : (by' s)[t]? ≠ some 123) : lst s t = none := by unfold lst; rw [if_neg h]
theorem tl_end {s : ByteArray} {acc : List Lb} {k : Nat} (h : (by' s)[k]? = some 125) : tl s acc k = some (acc, k + 1) := by unfold tl; rw [if_pos h]
theorem tl_bad {s : ByteArray} {acc : List Lb} {k : Nat} (h : (by' s)[k]? ≠ some 125) (h1 : acc ≠ []) (h2 : (by' s)[k]? ≠ some 44) : tl s acc k = none := by unfold tl; rw [if_neg h, if_neg h1, if_neg h2]
theorem tl_first {s : ByteArray} {k : Nat} (h : (by' s)[k]? ≠ some 125) : tl s [] k = (rd s k).map fun q => ([] ++ q.1, q.2) := by unfold tl; rw [if_neg h, if_pos rfl]
theorem tl_next {s : ByteArray} {acc : List Lb} {k : Nat} (h1 : acc ≠ []) (h2 : (by' s)[k]? = some 44) : tl s acc k = (rd s (k + 1)).map fun q => (acc ++ q.1, q.2) := by
  unfold tl; rw [if_neg (by rw [h2]; decide), if_neg h1, if_pos h2]
theorem rd_tl {s : ByteArray} {acc : List Lb} {j k : Nat} {p : Lb} (h : one s j = some (p, k)) : ((rd s j).map fun q => (acc ++ q.1, q.2)) = tl s (acc ++ [p]) k := by
  rw [rd_some h]
  unfold tl
  by_cases h1 : (by' s)[k]? = some 125
  · rw [if_pos h1, if_pos h1]; rfl
  · have hne : ¬ (acc ++ [p] = []) := by simp
    rw [if_neg h1, if_neg h1, if_neg hne]
    by_cases h2 : (by' s)[k]? = some 44
    · rw [if_pos h2, if_pos h2, Option.map_map]
      congr 1
      funext q
      simp
    · rw [if_neg h2, if_neg h2]; rfl
theorem rd_tl_none {s : ByteArray} {acc : List Lb} {j : Nat} (h : one s j = none) : ((rd s j).map fun q => (acc ++ q.1, q.2)) = none := by rw [rd_none h]; rfl

/-- All names and values are no longer than n. -/
def Sz (n : Nat) (ls : List Lb) : Prop := ∀ p ∈ ls, p.1.size ≤ n ∧ p.2.size ≤ n
theorem Sz.snoc {n : Nat} {ls : List Lb} {p : Lb} (h : Sz n ls) (h1 : p.1.size ≤ n) (h2 : p.2.size ≤ n) : Sz n (ls ++ [p]) := by
  intro q hq
  rcases List.mem_append.1 hq with h3 | h3
  · exact h q h3
  · simp at h3; subst h3; exact ⟨h1, h2⟩
theorem Sz.fit {n : Nat} {ls : List Lb} (h : Sz n ls) (hn : n ≤ maxLen) : Fit ls := by
  intro i
  by_cases hi : i < ls.length
  · have e : ls.getD i e0 = ls[i] := by simp [hi]
    rw [e]
    have := h ls[i] (List.getElem_mem hi)
    exact ⟨Nat.le_trans this.1 hn, Nat.le_trans this.2 hn⟩
  · rw [List.getD_eq_getElem?_getD, List.getElem?_eq_none (by omega)]; simp [e0, maxLen]

theorem own_kept {w w' : World} {base e size n R : Nat} {v : Value} {xs : List Value} (h : w.ownsRow base e size v n xs) (hg : w.grownBy w' (some R)) (hR : R < base) : w'.ownsRow base e size v n xs := by
  refine h.kept hg ?_
  cases hv : v.ownBlock with
  | none => exact .inl rfl
  | some g => have := (h.lt g hv).1; exact .inr (by simp; omega)
/-- A reader at block R and a row of labels that were read, in a world that came from w0. -/
structure Ls (R : Nat) (s : ByteArray) (w0 : World) (k : Nat) (acc : List Lb) (a : Option Addr) (c : Nat) (w : World) : Prop where
  rdr : Rdr R s k w
  row : w.ownsRow w0.heap.size 32 2 (.slice a acc.length c) acc.length (flat acc)
  grw : w0.grownBy w (some R)
  lt : R < w0.heap.size
theorem Ls.moved {R : Nat} {s : ByteArray} {w0 w w' : World} {k k' : Nat} {acc : List Lb} {a : Option Addr} {c : Nat} (h : Ls R s w0 k acc a c w) (hr : Rdr R s k' w') (hg : w.grownBy w' (some R)) : Ls R s w0 k' acc a c w' :=
  ⟨hr, own_kept h.row hg h.lt, Lib.grownBy_trans h.grw hg, h.lt⟩
theorem Ls.alloc {R : Nat} {s : ByteArray} {w0 w : World} {k : Nat} {acc : List Lb} {a : Option Addr} {c : Nat} (h : Ls R s w0 k acc a c w) (o : Obj) : Ls R s w0 k acc a c (w.alloc o) :=
  ⟨⟨box_alloc h.rdr.1 _, h.rdr.2⟩, h.row.alloc _, Lib.grownBy_allocR h.grw _, h.lt⟩
theorem Ls.app {R : Nat} {s : ByteArray} {w0 w w' : World} {k : Nat} {acc acc' : List Lb} {a a' : Option Addr} {c c' : Nat} (h : Ls R s w0 k acc a c w) (hg : w.grownBy w' (Value.slice a acc.length c).ownBlock) (ho : w'.ownsRow w0.heap.size 32 2 (.slice a' acc'.length c') acc'.length (flat acc')) : Ls R s w0 k acc' a' c' w' := by
  have hb : ∀ j, j < w0.heap.size → w'.heap[j]? = w.heap[j]? := fun j hj => hg.block j (Nat.lt_of_lt_of_le hj h.grw.size) (fun e => by have := (h.row.lt j e.symm).1; omega)
  refine ⟨⟨(hb R h.lt).trans h.rdr.1, h.rdr.2⟩, ho, ?_, h.lt⟩
  exact ⟨hg.os.trans h.grw.os, hg.tape.trans h.grw.tape, hg.output.trans h.grw.output, Nat.le_trans h.grw.size hg.size, fun j hj hr => (hb j hj).trans (h.grw.block j hj hr)⟩

/-- What the call of readList leaves. -/
def LstR (R : Nat) (s : ByteArray) (t : Nat) (w : World) (e : Ending) (w' : World) : Prop :=
  w.grownBy w' (some R) ∧ ((lst s t = none ∧ e = .returned (.tuple #[.slice none 0 0, .bool false])) ∨
    ∃ ls k a c, lst s t = some (ls, k) ∧ e = .returned (.tuple #[.slice a ls.length c, .bool true]) ∧ Ls R s w k ls a c w' ∧ ls.length ≤ s.size ∧ Sz s.size ls)

set_option maxHeartbeats 4000000 in
theorem f18 (R : Nat) (s : ByteArray) (t : Nat) (w : World) (hs : s.size ≤ 1048576) (h : Rdr R s t w) : Calls Try.prog 18 #[.pointer (some ⟨R, 0, none⟩), .func (.func 11) #[] #[]] w (LstR R s t w) := by
  obtain ⟨i0, hi, hz0, hz1, hz2⟩ := info_parts info50
  have hRw : R < w.heap.size := lt_block h.1
  have HR := hid h
  clear h
  by_cases h123 : (by' s)[t]? = some 123
  · have HL := hid (lst_tl h123)
    go_enter Try.func18, Try.ntmps18
    go_wp2_with fail
    refine (f20y R s t 123 _ hs HR.out h123).mono ?_
    rintro e w1 ⟨rfl, hr1, hg1⟩
    have H1 : Hid (Ls R s w (t + 1) [] none 0 w1) := ⟨hr1, World.ownsRow_nil _ _ _ _, hg1, hRw⟩
    clear hr1 hg1 HR h123
    go_wp2
    go_loopw [6] (fun so wr => ∃ (k : Nat) (acc : List Lb) (a : Option Addr) (c : Nat), so = .slice a acc.length c ∧ Hid (lst s t = tl s acc k) ∧ Hid (Ls R s w k acc a c wr) ∧ k ≤ s.size ∧ acc.length ≤ k ∧ Hid (Sz s.size acc)) (fun _ wr => s.size + 1 - posOf R wr)
    case atStart => exact ⟨t + 1, [], none, 0, rfl, HL, H1, H1.out.rdr.2, by simp, by intro p hp; simp at hp⟩
    case round =>
      obtain ⟨k, acc, a, c, rfl, HT, HS, hk, hal, HZ⟩ := hrel
      have HP := hid (posOf_eq HS.out.rdr)
      by_cases c125 : (by' s)[k]? = some 125
      · have HE := hid (HT.out.trans (tl_end c125))
        go_wp2_with fail
        refine (f20y R s k 125 _ hs HS.out.rdr c125).mono ?_
        rintro e w2 ⟨rfl, hr2, hg2⟩
        have HS2 := hid (HS.out.moved hr2 hg2)
        clear hr2 hg2 c125
        go_wp2
        go_ret2
        exact ⟨HS2.out.grw, .inr ⟨acc, k + 1, a, c, HE.out, rfl, HS2.out, by omega, HZ.out⟩⟩
      · go_wp2_with fail
        refine (f20n R s k 125 _ hs HS.out.rdr c125).mono ?_
        rintro e w2 ⟨rfl, hr2, hg2⟩
        have HS2 := hid (HS.out.moved hr2 hg2)
        clear hr2 hg2
        have C125 := hid c125
        clear c125
        by_cases h0 : acc = []
        · have hl0 : ¬ (0 : Int) < (acc.length : Int) := by rw [h0]; simp
          have HJ : Hid (lst s t = (rd s k).map fun q => (acc ++ q.1, q.2)) := by unfold Hid; rw [HT.out, h0]; exact tl_first C125.out
          have HS3 := HS2
          clear h0 HS2
          go_wp2_with fail
          refine (f11 R s k _ hs HS3.out.rdr).mono ?_
          rintro e w4 ⟨hg4, h4⟩
          rcases h4 with ⟨hn4, x1, x2, rfl⟩ | ⟨p, k', h5, rfl, hr4⟩
          · have HE := hid (HJ.out.trans (rd_tl_none hn4))
            have HG4 := hid (Lib.grownBy_trans HS3.out.grw hg4)
            clear hg4 hn4
            go_wp2
            go_ret2
            exact ⟨Lib.grownBy_allocR HG4.out _, .inl ⟨HE.out, rfl⟩⟩
          · have HB := hid (one_bd h5)
            have HE := hid (HJ.out.trans (rd_tl (acc := acc) h5))
            have HS4 := hid (HS3.out.moved hr4 hg4)
            have HP4 := hid (posOf_eq hr4)
            have hk'2 := HB.out.2.1
            have hk'1 := HB.out.1
            clear hg4 hr4 h5
            obtain ⟨x, y⟩ := p
            go_wp2_with (at_builtin; refine wpList_append_own _ rfl (.tmp 31) (.tmp 33) 22 rfl w.heap.size 32 i0 (.agg #[.string ByteArray.empty, .string ByteArray.empty]) 2 32 Try.underlying22 hi hz0 hz1 hz2 rfl (by decide) _ _ _ rfl ((HS4.out.row.alloc _).alloc _) ⟨w4.heap.size + 1, 0, none⟩ 1 1 [.string x, .string y] rfl rfl ?d1 ?d2 ?d3 ?d4 ?d5 ?_)
            case d1 =>
              have := two_new (w4.alloc (.cells #[.string x, .string y] 32)) (.string x) (.string y) 32
              simp only [World.size_alloc] at this
              exact this
            case d2 => intro u hu; simp at hu; rcases hu with rfl | rfl <;> rfl
            case d3 => unfold maxLen; omega
            case d4 => omega
            case d5 => have := HS4.out.grw.size; simp; omega
            intro v1 w5 hown1 hgr1 _
            obtain ⟨a2, c2, rfl⟩ := own_form hown1
            have HS5 : Hid (Ls R s w k' (acc ++ [(x, y)]) a2 c2 w5) := by
              refine ((HS4.out.alloc _).alloc _).app hgr1 ?_
              rw [List.length_append, flat_append]
              exact hown1
            have HP5 := hid (posOf_eq HS5.out.rdr)
            clear hown1 hgr1
            go_wp2
            go_roundw
            case rel => exact ⟨k', acc ++ [(x, y)], a2, c2, by simp, HE, HS5, hk'2, by simp; omega, HZ.out.snoc HB.out.2.2.1 HB.out.2.2.2⟩
            case measure => rw [HP.out]; exact Nat.lt_of_le_of_lt (Nat.le_of_eq (congrArg (fun z => s.size + 1 - z) HP5.out)) (by omega)
        · have hl0 : (0 : Int) < (acc.length : Int) := by
            have : acc.length ≠ 0 := fun h => h0 (List.length_eq_zero_iff.1 h)
            omega
          by_cases c44 : (by' s)[k]? = some 44
          · have HJ : Hid (lst s t = (rd s (k + 1)).map fun q => (acc ++ q.1, q.2)) := by unfold Hid; rw [HT.out]; exact tl_next h0 c44
            go_wp2_with fail
            refine (f20y R s k 44 _ hs HS2.out.rdr c44).mono ?_
            rintro e w3 ⟨rfl, hr3, hg3⟩
            have HS3 := hid (HS2.out.moved hr3 hg3)
            clear hr3 hg3 c44 h0 HS2
            go_wp2_with fail
            refine (f11 R s (k + 1) _ hs HS3.out.rdr).mono ?_
            rintro e w4 ⟨hg4, h4⟩
            rcases h4 with ⟨hn4, x1, x2, rfl⟩ | ⟨p, k', h5, rfl, hr4⟩
            · have HE := hid (HJ.out.trans (rd_tl_none hn4))
              have HG4 := hid (Lib.grownBy_trans HS3.out.grw hg4)
              clear hg4 hn4
              go_wp2
              go_ret2
              exact ⟨Lib.grownBy_allocR HG4.out _, .inl ⟨HE.out, rfl⟩⟩
            · have HB := hid (one_bd h5)
              have HE := hid (HJ.out.trans (rd_tl (acc := acc) h5))
              have HS4 := hid (HS3.out.moved hr4 hg4)
              have HP4 := hid (posOf_eq hr4)
              have hk'2 := HB.out.2.1
              have hk'1 := HB.out.1
              clear hg4 hr4 h5
              obtain ⟨x, y⟩ := p
              go_wp2_with (at_builtin; refine wpList_append_own _ rfl (.tmp 31) (.tmp 33) 22 rfl w.heap.size 32 i0 (.agg #[.string ByteArray.empty, .string ByteArray.empty]) 2 32 Try.underlying22 hi hz0 hz1 hz2 rfl (by decide) _ _ _ rfl ((HS4.out.row.alloc _).alloc _) ⟨w4.heap.size + 1, 0, none⟩ 1 1 [.string x, .string y] rfl rfl ?d1 ?d2 ?d3 ?d4 ?d5 ?_)
              case d1 =>
                have := two_new (w4.alloc (.cells #[.string x, .string y] 32)) (.string x) (.string y) 32
                simp only [World.size_alloc] at this
                exact this
              case d2 => intro u hu; simp at hu; rcases hu with rfl | rfl <;> rfl
              case d3 => unfold maxLen; omega
              case d4 => omega
              case d5 => have := HS4.out.grw.size; simp; omega
              intro v1 w5 hown1 hgr1 _
              obtain ⟨a2, c2, rfl⟩ := own_form hown1
              have HS5 : Hid (Ls R s w k' (acc ++ [(x, y)]) a2 c2 w5) := by
                refine ((HS4.out.alloc _).alloc _).app hgr1 ?_
                rw [List.length_append, flat_append]
                exact hown1
              have HP5 := hid (posOf_eq HS5.out.rdr)
              clear hown1 hgr1
              go_wp2
              go_roundw
              case rel => exact ⟨k', acc ++ [(x, y)], a2, c2, by simp, HE, HS5, hk'2, by simp; omega, HZ.out.snoc HB.out.2.2.1 HB.out.2.2.2⟩
              case measure => rw [HP.out]; exact Nat.lt_of_le_of_lt (Nat.le_of_eq (congrArg (fun z => s.size + 1 - z) HP5.out)) (by omega)
          · have HE : Hid (lst s t = none) := by unfold Hid; rw [HT.out]; exact tl_bad C125.out h0 c44
            go_wp2_with fail
            refine (f20n R s k 44 _ hs HS2.out.rdr c44).mono ?_
            rintro e w3 ⟨rfl, hr3, hg3⟩
            have HS3 := hid (HS2.out.moved hr3 hg3)
            clear hr3 hg3 c44 h0 HS2
            go_wp2
            go_ret2
            exact ⟨HS3.out.grw, .inl ⟨HE.out, rfl⟩⟩
  · have HL := hid (lst_not h123)
    go_enter Try.func18, Try.ntmps18
    go_wp2_with fail
    refine (f20n R s t 123 _ hs HR.out h123).mono ?_
    rintro e w1 ⟨rfl, hr1, hg1⟩
    have HG := hid hg1
    clear hr1 hg1 HR h123
    go_wp2
    go_ret2
    exact ⟨HG.out, .inl ⟨HL.out, rfl⟩⟩
end Go.Proofs.Ytgcleocpbpgjeaa.Lab
