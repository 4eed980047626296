/- A list of matchers is read: what readList comes to. -/
import Derived.Test.YtbjlnaaheahhnaaDoorNb
namespace Go.Proofs.YtbjlnaaheahhnaaDoor.Lab
open Go.RowKit Go.Proofs.YtbjlnaaheahhnaaDoor.Str

theorem quo_bd {s : ByteArray} {t k : Nat} {v : List UInt8} (h : quo s t = some (v, k)) : t < k ∧ k ≤ s.size ∧ v.length ≤ s.size := by
  unfold quo at h
  split at h
  · have := unqA_bd h
    simp at this
    omega
  · simp at h
theorem opA_le {l : List UInt8} {j : Nat} (h : opA l = some j) : 1 ≤ j ∧ j ≤ 4 := by
  unfold opA at h
  repeat' split at h
  all_goals simp at h
  all_goals omega
theorem oneM_bd {s : ByteArray} {i : Nat} {p : Pat.Mt} {k : Nat} (h : oneM s i = some (p, k)) : i < k ∧ k ≤ s.size ∧ p.1.size ≤ s.size ∧ p.2.2.size ≤ s.size ∧ 0 ≤ p.2.1 ∧ p.2.1 ≤ 4 := by
  unfold oneM at h
  obtain ⟨j, hj, h1⟩ := Option.bind_eq_some_iff.1 h
  obtain ⟨q, hq, he⟩ := Option.map_eq_some_iff.1 h1
  have hb := quo_bd (v := q.1) (k := q.2) hq
  have hn := nmE_ge (by' s) i
  have hj4 := opA_le hj
  simp at he
  obtain ⟨rfl, rfl⟩ := he
  refine ⟨by omega, by omega, ?_, ?_, (by show (0 : Int) ≤ (j : Int); omega), (by show (j : Int) ≤ 4; omega)⟩
  · show (s.extract i _).size ≤ s.size
    rw [ByteArray.size_extract]; omega
  · show (mkS q.1).size ≤ s.size
    rw [mkS_size]; omega
theorem flatM_app (A B : List Pat.Mt) : Pat.flatM (A ++ B) = Pat.flatM A ++ Pat.flatM B := by simp [Pat.flatM]
theorem tri_new (w : World) (x y z : Value) (t : TypeId) : ∀ j u, [x, y, z][j]? = some u → (w.alloc (.cells #[x, y, z] t)).cell? ((⟨w.heap.size, 0, none⟩ : Addr).add j) = some u := by
  intro j u hj
  match j, hj with
  | 0, hj => simp at hj; subst hj; simp [Addr.add]
  | 1, hj => simp at hj; subst hj; simp [Addr.add]
  | 2, hj => simp at hj; subst hj; simp [Addr.add]
  | j + 3, hj => simp at hj
/-- Labels from a place on, up to the closing sign: they, and the place behind it. -/
def rdM (s : ByteArray) (i : Nat) : Option (List Pat.Mt × Nat) :=
  match h : oneM s i with
  | none => none
  | some (p, k) =>
    if (by' s)[k]? = some 125 then some ([p], k + 1)
    else if (by' s)[k]? = some 44 then (rdM s (k + 1)).map fun q => (p :: q.1, q.2)
    else none
termination_by s.size - i
decreasing_by have := oneM_bd h; omega
theorem rd_noneM {s : ByteArray} {i : Nat} (h : oneM s i = none) : rdM s i = none := by
  rw [rdM]; split
  · rfl
  · rename_i h2; rw [h] at h2; cases h2
theorem rd_someM {s : ByteArray} {i k : Nat} {p : Pat.Mt} (h : oneM s i = some (p, k)) : rdM s i = if (by' s)[k]? = some 125 then some ([p], k + 1) else if (by' s)[k]? = some 44 then (rdM s (k + 1)).map fun q => (p :: q.1, q.2) else none := by
  rw [rdM]; split
  · rename_i h2; rw [h] at h2; cases h2
  · rename_i h2; rw [h] at h2; cases h2; rfl

/-- The labels whose braced text it is. -/
def brcM (s : ByteArray) : Option (List Pat.Mt) :=
  if (by' s)[0]? = some 123 then
    if (by' s)[1]? = some 125 then (if s.size = 2 then some [] else none)
    else (rdM s 1).bind fun q => if q.2 = s.size then some q.1 else none
  else none
/-- The good labels whose text it is. -/
def readMF (s : ByteArray) : Option (List Pat.Mt) := (brcM s).filter fun ls => Pat.goodM ls
/-- A list in its braces from a place on: it, and the place behind it. -/
def lstM (s : ByteArray) (t : Nat) : Option (List Pat.Mt × Nat) :=
  if (by' s)[t]? = some 123 then
    if (by' s)[t + 1]? = some 125 then some ([], t + 2) else rdM s (t + 1)
  else none
theorem brc_lstM (s : ByteArray) : brcM s = (lstM s 0).bind fun q => if q.2 = s.size then some q.1 else none := by
  unfold brcM lstM
  by_cases h1 : (by' s)[0]? = some 123
  · rw [if_pos h1, if_pos h1]
    by_cases h2 : (by' s)[0 + 1]? = some 125
    · rw [if_pos h2, if_pos h2]
      by_cases h3 : s.size = 2
      · simp [h3]
      · have h3' : ¬ 2 = s.size := fun h => h3 h.symm
        simp [h3, h3']
    · rw [if_neg h2, if_neg h2]
  · rw [if_neg h1, if_neg h1]; rfl
/-- What is left where acc has been read and the reader stands at k. -/
def tlM (s : ByteArray) (acc : List Pat.Mt) (k : Nat) : Option (List Pat.Mt × Nat) :=
  if (by' s)[k]? = some 125 then some (acc, k + 1)
  else if acc = [] then (rdM s k).map fun q => (acc ++ q.1, q.2)
  else if (by' s)[k]? = some 44 then (rdM s (k + 1)).map fun q => (acc ++ q.1, q.2)
  else none
theorem lst_tlM {s : ByteArray} {t : Nat} (h : (by' s)[t]? = some 123) : lstM s t = tlM s [] (t + 1) := by
  unfold lstM tlM
  rw [if_pos h]
  by_cases h2 : (by' s)[t + 1]? = some 125
  · rw [if_pos h2, if_pos h2]
  · rw [if_neg h2, if_neg h2, if_pos rfl]
    cases rdM s (t + 1) <;> simp
theorem lst_notM {s : ByteArray} {t : Nat} (h : (by' s)[t]? ≠ some 123) : lstM s t = none := by unfold lstM; rw [if_neg h]
theorem tl_endM {s : ByteArray} {acc : List Pat.Mt} {k : Nat} (h : (by' s)[k]? = some 125) : tlM s acc k = some (acc, k + 1) := by unfold tlM; rw [if_pos h]
theorem tl_badM {s : ByteArray} {acc : List Pat.Mt} {k : Nat} (h : (by' s)[k]? ≠ some 125) (h1 : acc ≠ []) (h2 : (by' s)[k]? ≠ some 44) : tlM s acc k = none := by unfold tlM; rw [if_neg h, if_neg h1, if_neg h2]
theorem tl_firstM {s : ByteArray} {k : Nat} (h : (by' s)[k]? ≠ some 125) : tlM s [] k = (rdM s k).map fun q => ([] ++ q.1, q.2) := by unfold tlM; rw [if_neg h, if_pos rfl]
theorem tl_nextM {s : ByteArray} {acc : List Pat.Mt} {k : Nat} (h1 : acc ≠ []) (h2 : (by' s)[k]? = some 44) : tlM s acc k = (rdM s (k + 1)).map fun q => (acc ++ q.1, q.2) := by
  unfold tlM; rw [if_neg (by rw [h2]; decide), if_neg h1, if_pos h2]
theorem rd_tlM {s : ByteArray} {acc : List Pat.Mt} {j k : Nat} {p : Pat.Mt} (h : oneM s j = some (p, k)) : ((rdM s j).map fun q => (acc ++ q.1, q.2)) = tlM s (acc ++ [p]) k := by
  rw [rd_someM h]
  unfold tlM
  by_cases h1 : (by' s)[k]? = some 125
  · rw [if_pos h1, if_pos h1]; rfl
  · have hne : ¬ (acc ++ [p] = []) := by simp
    rw [if_neg h1, if_neg h1, if_neg hne]
    by_cases h2 : (by' s)[k]? = some 44
    · rw [if_pos h2, if_pos h2, Option.map_map]
      congr 1
      funext q
      simp
    · rw [if_neg h2, if_neg h2]; rfl
theorem rd_tl_noneM {s : ByteArray} {acc : List Pat.Mt} {j : Nat} (h : oneM s j = none) : ((rdM s j).map fun q => (acc ++ q.1, q.2)) = none := by rw [rd_noneM h]; rfl

/-- All names and values are no longer than n. -/
def SzM (n : Nat) (ls : List Pat.Mt) : Prop := ∀ p ∈ ls, p.1.size ≤ n ∧ p.2.2.size ≤ n ∧ 0 ≤ p.2.1 ∧ p.2.1 ≤ 4
theorem SzM.snoc {n : Nat} {ls : List Pat.Mt} {p : Pat.Mt} (h : SzM n ls) (h1 : p.1.size ≤ n) (h2 : p.2.2.size ≤ n ∧ 0 ≤ p.2.1 ∧ p.2.1 ≤ 4) : SzM n (ls ++ [p]) := by
  intro q hq
  rcases List.mem_append.1 hq with h3 | h3
  · exact h q h3
  · simp at h3; subst h3; exact ⟨h1, h2⟩
theorem SzM.fit {n : Nat} {ls : List Pat.Mt} (h : SzM n ls) (hn : n ≤ maxLen) : Pat.FitM ls := by
  intro i
  by_cases hi : i < ls.length
  · have e : ls.getD i Pat.m0 = ls[i] := by simp [hi]
    rw [e]
    have := h ls[i] (List.getElem_mem hi)
    exact ⟨Nat.le_trans this.1 hn, Nat.le_trans this.2.1 hn, by omega, by omega⟩
  · rw [List.getD_eq_getElem?_getD, List.getElem?_eq_none (by omega)]; simp [Pat.m0, maxLen]

/-- A reader at block R and a row of labels that were read, in a world that came from w0. -/
structure LsM (R : Nat) (s : ByteArray) (w0 : World) (k : Nat) (acc : List Pat.Mt) (a : Option Addr) (c : Nat) (w : World) : Prop where
  rdr : Rdr R s k w
  row : w.ownsRow w0.heap.size 37 3 (.slice a acc.length c) acc.length (Pat.flatM acc)
  grw : w0.grownBy w (some R)
  lt : R < w0.heap.size
  sgn : Pat.Sgn w
  pos : 0 < R
theorem LsM.moved {R : Nat} {s : ByteArray} {w0 w w' : World} {k k' : Nat} {acc : List Pat.Mt} {a : Option Addr} {c : Nat} (h : LsM R s w0 k acc a c w) (hr : Rdr R s k' w') (hg : w.grownBy w' (some R)) : LsM R s w0 k' acc a c w' :=
  ⟨hr, own_kept h.row hg h.lt, Lib.grownBy_trans h.grw hg, h.lt, sgn_kept h.sgn hg h.pos, h.pos⟩
theorem LsM.alloc {R : Nat} {s : ByteArray} {w0 w : World} {k : Nat} {acc : List Pat.Mt} {a : Option Addr} {c : Nat} (h : LsM R s w0 k acc a c w) (o : Obj) : LsM R s w0 k acc a c (w.alloc o) :=
  ⟨⟨box_alloc h.rdr.1 _, h.rdr.2⟩, h.row.alloc _, Lib.grownBy_allocR h.grw _, h.lt, sgn_kept h.sgn (World.grownBy_alloc w _ (some R)) h.pos, h.pos⟩
theorem LsM.app {R : Nat} {s : ByteArray} {w0 w w' : World} {k : Nat} {acc acc' : List Pat.Mt} {a a' : Option Addr} {c c' : Nat} (h : LsM R s w0 k acc a c w) (hg : w.grownBy w' (Value.slice a acc.length c).ownBlock) (ho : w'.ownsRow w0.heap.size 37 3 (.slice a' acc'.length c') acc'.length (Pat.flatM acc')) : LsM R s w0 k acc' a' c' w' := by
  have hb : ∀ j, j < w0.heap.size → w'.heap[j]? = w.heap[j]? := fun j hj => hg.block j (Nat.lt_of_lt_of_le hj h.grw.size) (fun e => by have := (h.row.lt j e.symm).1; omega)
  refine ⟨⟨(hb R h.lt).trans h.rdr.1, h.rdr.2⟩, ho, ?_, h.lt, ?_, h.pos⟩
  rotate_left
  · refine ⟨Nat.lt_of_lt_of_le h.sgn.1 hg.size, fun l hl => ?_⟩
    rw [← h.sgn.2 l hl]
    unfold World.cell?
    have := hb 0 (by have := h.lt; omega)
    simp only [this]
  exact ⟨hg.os.trans h.grw.os, hg.tape.trans h.grw.tape, hg.output.trans h.grw.output, Nat.le_trans h.grw.size hg.size, fun j hj hr => (hb j hj).trans (h.grw.block j hj hr)⟩

/-- What the call of readList leaves. -/
def LstRM (R : Nat) (s : ByteArray) (t : Nat) (w : World) (e : Ending) (w' : World) : Prop :=
  w.grownBy w' (some R) ∧ ((lstM s t = none ∧ e = .returned (.tuple #[.slice none 0 0, .bool false])) ∨
    ∃ ls k a c, lstM s t = some (ls, k) ∧ e = .returned (.tuple #[.slice a ls.length c, .bool true]) ∧ LsM R s w k ls a c w' ∧ ls.length ≤ s.size ∧ SzM s.size ls)

set_option maxHeartbeats 4000000 in
theorem f37 (R : Nat) (s : ByteArray) (t : Nat) (w : World) (hs : s.size ≤ 1048576) (h : Rdr R s t w) (hR0 : 0 < R) (hg0 : Pat.Sgn w) : Calls Tryd.prog 37 #[.pointer (some ⟨R, 0, none⟩), .func (.func 24) #[] #[]] w (LstRM R s t w) := by
  obtain ⟨i0, hi, hz0, hz1, hz2⟩ := info_parts Pat.info69
  have hRw : R < w.heap.size := lt_block h.1
  have HR := hid h
  clear h
  have HG0 := hid hg0
  by_cases h123 : (by' s)[t]? = some 123
  · have HL := hid (lst_tlM h123)
    go_enter Tryd.func37, Tryd.ntmps37
    go_wp2_with fail
    refine (f39y R s t 123 _ hs HR.out h123).mono ?_
    rintro e w1 ⟨rfl, hr1, hg1⟩
    have H1 : Hid (LsM R s w (t + 1) [] none 0 w1) := ⟨hr1, World.ownsRow_nil _ _ _ _, hg1, hRw, sgn_kept hg0 hg1 hR0, hR0⟩
    clear hr1 hg1 HR h123
    go_wp2
    go_loopw [6] (fun so wr => ∃ (k : Nat) (acc : List Pat.Mt) (a : Option Addr) (c : Nat), so = .slice a acc.length c ∧ Hid (lstM s t = tlM s acc k) ∧ Hid (LsM R s w k acc a c wr) ∧ k ≤ s.size ∧ acc.length ≤ k ∧ Hid (SzM s.size acc)) (fun _ wr => s.size + 1 - posOf R wr)
    case atStart => exact ⟨t + 1, [], none, 0, rfl, HL, H1, H1.out.rdr.2, by simp, by intro p hp; simp at hp⟩
    case round =>
      obtain ⟨k, acc, a, c, rfl, HT, HS, hk, hal, HZ⟩ := hrel
      have HP := hid (posOf_eq HS.out.rdr)
      by_cases c125 : (by' s)[k]? = some 125
      · have HE := hid (HT.out.trans (tl_endM c125))
        go_wp2_with fail
        refine (f39y R s k 125 _ hs HS.out.rdr c125).mono ?_
        rintro e w2 ⟨rfl, hr2, hg2⟩
        have HS2 := hid (HS.out.moved hr2 hg2)
        clear hr2 hg2 c125
        go_wp2
        go_ret2
        exact ⟨HS2.out.grw, .inr ⟨acc, k + 1, a, c, HE.out, rfl, HS2.out, by omega, HZ.out⟩⟩
      · go_wp2_with fail
        refine (f39n R s k 125 _ hs HS.out.rdr c125).mono ?_
        rintro e w2 ⟨rfl, hr2, hg2⟩
        have HS2 := hid (HS.out.moved hr2 hg2)
        clear hr2 hg2
        have C125 := hid c125
        clear c125
        by_cases h0 : acc = []
        · have hl0 : ¬ (0 : Int) < (acc.length : Int) := by rw [h0]; simp
          have HJ : Hid (lstM s t = (rdM s k).map fun q => (acc ++ q.1, q.2)) := by unfold Hid; rw [HT.out, h0]; exact tl_firstM C125.out
          have HS3 := HS2
          clear h0 HS2
          go_wp2_with fail
          refine (f24 R s k _ hs HS3.out.rdr hR0 HS3.out.sgn).mono ?_
          rintro e w4 ⟨hg4, h4⟩
          rcases h4 with ⟨hn4, x1, x2, x3, rfl⟩ | ⟨p, k', h5, rfl, hr4⟩
          · have HE := hid (HJ.out.trans (rd_tl_noneM hn4))
            have HG4 := hid (Lib.grownBy_trans HS3.out.grw hg4)
            clear hg4 hn4
            go_wp2
            go_ret2
            exact ⟨Lib.grownBy_allocR HG4.out _, .inl ⟨HE.out, rfl⟩⟩
          · have HB := hid (oneM_bd h5)
            have HE := hid (HJ.out.trans (rd_tlM (acc := acc) h5))
            have HS4 := hid (HS3.out.moved hr4 hg4)
            have HP4 := hid (posOf_eq hr4)
            have hk'2 := HB.out.2.1
            have hk'1 := HB.out.1
            clear hg4 hr4 h5
            obtain ⟨x, o, y⟩ := p
            go_wp2_with (at_builtin; refine wpList_append_own _ rfl (.tmp 31) (.tmp 33) 25 rfl w.heap.size 37 i0 (.agg #[.string ByteArray.empty, .int .i64 0, .string ByteArray.empty]) 3 40 Tryd.underlying25 hi hz0 hz1 hz2 rfl (by decide) _ _ _ rfl ((HS4.out.row.alloc _).alloc _) ⟨w4.heap.size + 1, 0, none⟩ 1 1 [.string x, .int .i64 o, .string y] rfl rfl ?d1 ?d2 ?d3 ?d4 ?d5 ?_)
            case d1 =>
              have := tri_new (w4.alloc (.cells #[.string x, .int .i64 o, .string y] 37)) (.string x) (.int .i64 o) (.string y) 37
              simp only [World.size_alloc] at this
              exact this
            case d2 => intro u hu; simp at hu; rcases hu with rfl | rfl | rfl <;> rfl
            case d3 => unfold maxLen; omega
            case d4 => omega
            case d5 => have := HS4.out.grw.size; simp; omega
            intro v1 w5 hown1 hgr1 _
            obtain ⟨a2, c2, rfl⟩ := own_form hown1
            have HS5 : Hid (LsM R s w k' (acc ++ [(x, o, y)]) a2 c2 w5) := by
              refine ((HS4.out.alloc _).alloc _).app hgr1 ?_
              rw [List.length_append, flatM_app]
              exact hown1
            have HP5 := hid (posOf_eq HS5.out.rdr)
            clear hown1 hgr1
            go_wp2
            go_roundw
            case rel => exact ⟨k', acc ++ [(x, o, y)], a2, c2, by simp, HE, HS5, hk'2, by simp; omega, HZ.out.snoc HB.out.2.2.1 HB.out.2.2.2⟩
            case measure => rw [HP.out]; exact Nat.lt_of_le_of_lt (Nat.le_of_eq (congrArg (fun z => s.size + 1 - z) HP5.out)) (by omega)
        · have hl0 : (0 : Int) < (acc.length : Int) := by
            have : acc.length ≠ 0 := fun h => h0 (List.length_eq_zero_iff.1 h)
            omega
          by_cases c44 : (by' s)[k]? = some 44
          · have HJ : Hid (lstM s t = (rdM s (k + 1)).map fun q => (acc ++ q.1, q.2)) := by unfold Hid; rw [HT.out]; exact tl_nextM h0 c44
            go_wp2_with fail
            refine (f39y R s k 44 _ hs HS2.out.rdr c44).mono ?_
            rintro e w3 ⟨rfl, hr3, hg3⟩
            have HS3 := hid (HS2.out.moved hr3 hg3)
            clear hr3 hg3 c44 h0 HS2
            go_wp2_with fail
            refine (f24 R s (k + 1) _ hs HS3.out.rdr hR0 HS3.out.sgn).mono ?_
            rintro e w4 ⟨hg4, h4⟩
            rcases h4 with ⟨hn4, x1, x2, x3, rfl⟩ | ⟨p, k', h5, rfl, hr4⟩
            · have HE := hid (HJ.out.trans (rd_tl_noneM hn4))
              have HG4 := hid (Lib.grownBy_trans HS3.out.grw hg4)
              clear hg4 hn4
              go_wp2
              go_ret2
              exact ⟨Lib.grownBy_allocR HG4.out _, .inl ⟨HE.out, rfl⟩⟩
            · have HB := hid (oneM_bd h5)
              have HE := hid (HJ.out.trans (rd_tlM (acc := acc) h5))
              have HS4 := hid (HS3.out.moved hr4 hg4)
              have HP4 := hid (posOf_eq hr4)
              have hk'2 := HB.out.2.1
              have hk'1 := HB.out.1
              clear hg4 hr4 h5
              obtain ⟨x, o, y⟩ := p
              go_wp2_with (at_builtin; refine wpList_append_own _ rfl (.tmp 31) (.tmp 33) 25 rfl w.heap.size 37 i0 (.agg #[.string ByteArray.empty, .int .i64 0, .string ByteArray.empty]) 3 40 Tryd.underlying25 hi hz0 hz1 hz2 rfl (by decide) _ _ _ rfl ((HS4.out.row.alloc _).alloc _) ⟨w4.heap.size + 1, 0, none⟩ 1 1 [.string x, .int .i64 o, .string y] rfl rfl ?d1 ?d2 ?d3 ?d4 ?d5 ?_)
              case d1 =>
                have := tri_new (w4.alloc (.cells #[.string x, .int .i64 o, .string y] 37)) (.string x) (.int .i64 o) (.string y) 37
                simp only [World.size_alloc] at this
                exact this
              case d2 => intro u hu; simp at hu; rcases hu with rfl | rfl | rfl <;> rfl
              case d3 => unfold maxLen; omega
              case d4 => omega
              case d5 => have := HS4.out.grw.size; simp; omega
              intro v1 w5 hown1 hgr1 _
              obtain ⟨a2, c2, rfl⟩ := own_form hown1
              have HS5 : Hid (LsM R s w k' (acc ++ [(x, o, y)]) a2 c2 w5) := by
                refine ((HS4.out.alloc _).alloc _).app hgr1 ?_
                rw [List.length_append, flatM_app]
                exact hown1
              have HP5 := hid (posOf_eq HS5.out.rdr)
              clear hown1 hgr1
              go_wp2
              go_roundw
              case rel => exact ⟨k', acc ++ [(x, o, y)], a2, c2, by simp, HE, HS5, hk'2, by simp; omega, HZ.out.snoc HB.out.2.2.1 HB.out.2.2.2⟩
              case measure => rw [HP.out]; exact Nat.lt_of_le_of_lt (Nat.le_of_eq (congrArg (fun z => s.size + 1 - z) HP5.out)) (by omega)
          · have HE : Hid (lstM s t = none) := by unfold Hid; rw [HT.out]; exact tl_badM C125.out h0 c44
            go_wp2_with fail
            refine (f39n R s k 44 _ hs HS2.out.rdr c44).mono ?_
            rintro e w3 ⟨rfl, hr3, hg3⟩
            have HS3 := hid (HS2.out.moved hr3 hg3)
            clear hr3 hg3 c44 h0 HS2
            go_wp2
            go_ret2
            exact ⟨HS3.out.grw, .inl ⟨HE.out, rfl⟩⟩
  · have HL := hid (lst_notM h123)
    go_enter Tryd.func37, Tryd.ntmps37
    go_wp2_with fail
    refine (f39n R s t 123 _ hs HR.out h123).mono ?_
    rintro e w1 ⟨rfl, hr1, hg1⟩
    have HG := hid hg1
    clear hr1 hg1 HR h123
    go_wp2
    go_ret2
    exact ⟨HG.out, .inl ⟨HL.out, rfl⟩⟩
end Go.Proofs.YtbjlnaaheahhnaaDoor.Lab
