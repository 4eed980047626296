/- The program's reader of texts: what sign and word come to. -/
import Derived.Test.YtbdlahhejfamhaaGreatDoorRA1
import Derived.Lib.BufferOwn
import Derived.Deep.RegionHeld3
import Derived.Lib.Strings
import Derived.OwnWalk
import Derived.Deep.CutRange
namespace Go.Proofs.YtbdlahhejfamhaaGreatDoor.Rdd
open Go.RowKit Go.Proofs.YtbdlahhejfamhaaGreatDoor.Pat
theorem two0 {w : World} {b : Nat} {u v : Value} {t : TypeId} (h : w.heap[b]? = some (.cells #[u, v] t (0, 0))) : w.cell? ⟨b, 0, none⟩ = some u := by simp [World.cell?, h]
theorem two1 {w : World} {b : Nat} {u v : Value} {t : TypeId} (h : w.heap[b]? = some (.cells #[u, v] t (0, 0))) : w.cell? ⟨b, 1, none⟩ = some v := by simp [World.cell?, h]
theorem lt_block {w : World} {k : Nat} {o : Obj} (h : w.heap[k]? = some o) : k < w.heap.size := (Array.getElem?_eq_some_iff.1 h).1
theorem box_alloc {w : World} {k : Nat} {o : Obj} (h : w.heap[k]? = some o) (u : Obj) : (w.alloc u).heap[k]? = some o := (Below.heap_alloc w u k (lt_block h)).trans h
abbrev by' (s : ByteArray) : List UInt8 := s.data.toList
def nmE (l : List UInt8) (i : Nat) : Nat := i + ((l.drop i).takeWhile nbC).length
theorem drop_cons {l : List UInt8} {i : Nat} {c : UInt8} (h : l[i]? = some c) : l.drop i = c :: l.drop (i + 1) := by
  obtain ⟨hi, rfl⟩ := List.getElem?_eq_some_iff.1 h
  exact List.drop_eq_getElem_cons hi
theorem nmE_step {l : List UInt8} {i : Nat} {c : UInt8} (h : l[i]? = some c) (hc : nbC c = true) : nmE l i = nmE l (i + 1) := by
  unfold nmE
  rw [drop_cons h, List.takeWhile_cons_of_pos hc]
  simp; omega
theorem nmE_stop {l : List UInt8} {i : Nat} {c : UInt8} (h : l[i]? = some c) (hc : nbC c = false) : nmE l i = i := by
  unfold nmE
  rw [drop_cons h, List.takeWhile_cons_of_neg (by simp [hc])]
  simp
theorem nmE_end {l : List UInt8} {i : Nat} (h : l.length ≤ i) : nmE l i = i := by
  unfold nmE
  rw [List.drop_of_length_le h]
  simp
theorem nmE_ge (l : List UInt8) (i : Nat) : i ≤ nmE l i := by unfold nmE; omega
theorem nmE_le {l : List UInt8} {i : Nat} (h : i ≤ l.length) : nmE l i ≤ l.length := by
  unfold nmE
  have : ((l.drop i).takeWhile nbC).length ≤ (l.drop i).length := (List.takeWhile_prefix _).length_le
  simp at this
  omega

def Rdr (R : Nat) (s : ByteArray) (t : Nat) (w : World) : Prop := w.heap[R]? = some (.cells #[.string s, .int .i64 t] 207 (0, 0)) ∧ t ≤ s.size
abbrev SR (R : Nat) (s : ByteArray) (t : Nat) (w w' : World) : Prop := w'.cell? ⟨R, 0, none⟩ = some (.string s) ∧ w'.cell? ⟨R, 1, none⟩ = some (.int .i64 t) ∧ w'.heap[R]? = some (.cells #[.string s, .int .i64 t] 207 (0, 0)) ∧ w.grownBy w' (some R)
theorem SR.drew {R : Nat} {s : ByteArray} {t : Nat} {w w' : World} (h : SR R s t w w') : SR R s t w w'.drew := by
  obtain ⟨h1, h2, h3, h4⟩ := h
  exact ⟨h1, h2, h3, ⟨h4.os, h4.tape, h4.output, h4.size, h4.block⟩⟩
theorem SR.refl {R : Nat} {s : ByteArray} {t : Nat} {w : World} (h : Rdr R s t w) : SR R s t w w := ⟨two0 h.1, two1 h.1, h.1, World.grownBy.refl _ _⟩
theorem two_set1 {w : World} {b : Nat} {u v v' : Value} {t : TypeId} (h : w.heap[b]? = some (.cells #[u, v] t (0, 0))) : (w.setCell ⟨b, 1, none⟩ v').heap[b]? = some (.cells #[u, v'] t (0, 0)) := by
  have hlt := lt_block h
  have h' : w.heap[b] = .cells #[u, v] t (0, 0) := by simpa [Array.getElem?_eq_getElem hlt] using h
  show (w.heap.modify b _)[b]? = _
  rw [Array.getElem?_eq_getElem (by simpa using hlt), Array.getElem_modify_self, h']
  rfl
theorem two_frz {w : World} {b o : Nat} {u v : Value} {t : TypeId} (h : w.heap[b]? = some (.cells #[u, v] t (0, 0))) : w.frozen? ⟨b, o, none⟩ = false := by simp [World.frozen?, h]

def hd0 (u : ByteArray) (c : UInt8) : Bool := decide (u.data.toList[0]? = some c)
theorem ext_size {s : ByteArray} {t : Nat} (hs : s.size ≤ 1048576) : (s.extract t s.size).size ≤ 1048576 := by
  rw [ByteArray.size_extract]; omega
def posOf (R : Nat) (w : World) : Nat := match w.cell? ⟨R, 1, none⟩ with | some (.int _ z) => z.toNat | _ => 0
theorem posOf_eq {R t : Nat} {s : ByteArray} {w : World} (h : Rdr R s t w) : posOf R w = t := by unfold posOf; rw [two1 h.1]; simp
theorem at_byte (s : ByteArray) (k : Nat) (h : k < s.size) : (by' s)[k]? = some s[k] := by
  have h' : k < s.data.toList.length := by simpa using h
  rw [List.getElem?_eq_getElem h']; rfl
set_option maxHeartbeats 2000000 in
theorem f172 (R : Nat) (s : ByteArray) (t : Nat) (w : World) (hs : s.size ≤ 1048576) (h : Rdr R s t w) : Calls Tryz.prog 172 #[.pointer (some ⟨R, 0, none⟩)] w fun e w' => e = .returned (.string (s.extract t (nmE (by' s) t))) ∧ Rdr R s (nmE (by' s) t) w' ∧ w.grownBy w' (some R) := by
  have r1 := two1 h.1
  have HR := hid h
  have ht := h.2
  clear h
  go_enter Tryz.func172, Tryz.ntmps172
  go_wp2
  go_loopw [] (fun wr => ∃ k : Nat, t ≤ k ∧ k ≤ s.size ∧ Hid (nmE (by' s) t = nmE (by' s) k) ∧ Hid (Rdr R s k wr) ∧ Hid (w.grownBy wr (some R))) (fun wr => s.size - posOf R wr)
  case atStart => exact ⟨t, Nat.le_refl _, ht, rfl, HR, World.grownBy.refl _ _⟩
  case round =>
    obtain ⟨k, hk1, hk2, HN, HK, HG⟩ := hrel
    have HS := hid (SR.refl HK.out)
    have i0 : (0 : Int) ≤ (k : Int) := by omega
    have HP := hid (posOf_eq HK.out)
    by_cases hlt : k < s.size
    · have i1 : (k : Int) < (s.size : Int) := by omega
      have HA := hid (at_byte s k hlt)
      by_cases hb : nbB (s[k].toNat : Int) = true
      · have HE := hid (nmE_step HA.out hb)
        go_wp2_with fail
        go_region_held3 (fun w' => SR R s k wr w') (first | exact HS.out.drew | exact SR.drew (by assumption) | assumption) (first | (go_at_call 125; refine (f125 _ _).mono ?_; rintro e w' ⟨rfl, rfl⟩))
        have hx : SR R s k wr wr.drew := HS.out.drew
        have r1' := hx.2.1
        have rf := two_frz (o := 1) hx.2.2.1
        have HR2 : Hid (Rdr R s (k + 1) (wr.drew.setCell ⟨R, 1, none⟩ (.int .i64 ((k : Int) + 1)))) := ⟨two_set1 hx.2.2.1, by omega⟩
        have HG2 := hid (Lib.grownBy_trans HG.out (Lib.grownBy_setB hx.2.2.2 1 (.int .i64 ((k : Int) + 1))))
        have HP2 := hid (posOf_eq HR2.out)
        go_wp2
        go_roundw
        case rel => exact ⟨k + 1, by omega, by omega, HN.out.trans HE.out, HR2, HG2⟩
        case measure => rw [HP.out]; exact Nat.lt_of_le_of_lt (Nat.le_of_eq (congrArg (fun z => s.size - z) HP2.out)) (by omega)
      · have hb' : nbB (s[k].toNat : Int) = false := by simpa using hb
        have HE := hid (nmE_stop HA.out hb')
        clear hb
        go_wp2_with fail
        go_region_held3 (fun w' => SR R s k wr w') (first | exact HS.out.drew | exact SR.drew (by assumption) | assumption) (first | (go_at_call 125; refine (f125 _ _).mono ?_; rintro e w' ⟨rfl, rfl⟩))
        have hx : SR R s k wr wr.drew := HS.out.drew
        have HG2 := hid (Lib.grownBy_trans HG.out hx.2.2.2)
        have i2 : (k : Int) ≤ (s.size : Int) := by omega
        have i3 : (t : Int) ≤ (k : Int) := by omega
        have i4 : (0 : Int) ≤ (t : Int) := by omega
        go_wp2_with fail
        go_region_held3 (fun w' => SR R s k wr w') (first | exact hx.drew | exact SR.drew (by assumption) | assumption) (first | fail)
        have hx2 : SR R s k wr wr.drew.drew := hx.drew
        go_wp2
        go_ret
        rw [HN.out, HE.out]
        exact ⟨rfl, ⟨hx2.2.2.1, hk2⟩, Lib.grownBy_trans HG.out hx2.2.2.2⟩
    · have HE := hid (nmE_end (l := by' s) (i := k) (by simp; omega))
      have i1 : ¬ (k : Int) < (s.size : Int) := by omega
      have hx : SR R s k wr wr.drew := HS.out.drew
      have g0 := hx.1
      have g1 := hx.2.1
      have g2 := HS.out.1
      have g3 := HS.out.2.1
      go_wp2_with fail
      go_region
      all_goals
        have i2 : (k : Int) ≤ (s.size : Int) := by omega
        have i3 : (t : Int) ≤ (k : Int) := by omega
        have i4 : (0 : Int) ≤ (t : Int) := by omega
        go_wp2_with fail
        go_region_held3 (fun w' => SR R s k wr w') (first | exact hx.drew | exact SR.drew (by assumption) | assumption) (first | fail)
        have hx2 : SR R s k wr wr.drew.drew := hx.drew
        go_wp2
        go_ret
        rw [HN.out, HE.out]
        exact ⟨rfl, ⟨hx2.2.2.1, hk2⟩, Lib.grownBy_trans HG.out hx2.2.2.2⟩
def pfx (l : List UInt8) (v : ByteArray) : Bool := decide (l.take v.size = v.data.toList)
theorem pfx_take (u v : ByteArray) : ((u.extract 0 v.size).toList == v.toList) = pfx u.data.toList v := by
  rw [ByteArray.toList_eq, ByteArray.toList_eq, Lib.extract_data]
  unfold pfx
  rw [Bool.eq_iff_iff]; simp
theorem pfx_short (u v : ByteArray) (h : ¬ v.size ≤ u.size) : pfx u.data.toList v = false := by
  unfold pfx
  refine decide_eq_false fun e => h ?_
  have := congrArg List.length e
  simp at this
  omega
def pfxU (u v : ByteArray) : Bool := pfx u.data.toList v
theorem f181g (u v : ByteArray) (w : World) (_hu : u.size ≤ 1048576) (_hv : v.size ≤ 1000) : Calls Tryz.prog 181 #[.string u, .string v] w fun e w' => e = .returned (.bool (pfxU u v)) ∧ w' = w := by
  by_cases h0 : v.size ≤ u.size
  · have HE := hid (pfx_take u v)
    go_enter Tryz.func181, Tryz.ntmps181
    go_wp2
    go_ret
    exact ⟨ret_bool HE.out, rfl⟩
  · have HE := hid (pfx_short u v h0)
    go_enter Tryz.func181, Tryz.ntmps181
    go_wp2
    go_ret
    exact ⟨ret_bool HE.out.symm, rfl⟩
theorem ext_drop (s : ByteArray) (t : Nat) : (s.extract t s.size).data.toList = (by' s).drop t := by
  rw [Lib.extract_data, List.take_of_length_le (by simp)]
theorem pfx_fits {s v : ByteArray} {t : Nat} (h : pfx ((by' s).drop t) v = true) (ht : t ≤ s.size) : t + v.size ≤ s.size := by
  unfold pfx at h
  have := congrArg List.length (of_decide_eq_true h)
  simp at this
  omega
set_option maxHeartbeats 1000000 in
theorem f171g (R : Nat) (s v : ByteArray) (t : Nat) (w : World) (hs : s.size ≤ 1048576) (hv : v.size ≤ 100) (h : Rdr R s t w) (hc : pfx ((by' s).drop t) v = true) : Calls Tryz.prog 171 #[.pointer (some ⟨R, 0, none⟩), .string v] w fun e w' => e = .returned (.bool true) ∧ Rdr R s (t + v.size) w' ∧ w.grownBy w' (some R) := by
  have HR := hid (SR.refl h)
  have ht := h.2
  have i0 : (0 : Int) ≤ (t : Int) := by omega
  have i1 : (t : Int) ≤ (s.size : Int) := by omega
  have hh : pfxU (s.extract t s.size) v = true := by unfold pfxU; rw [ext_drop]; exact hc
  have HT := hid (pfx_fits hc ht)
  clear h hc
  go_enter Tryz.func171, Tryz.ntmps171
  go_wp2_with fail
  go_region_held3 (fun w' => SR R s t w w') (first | exact HR.out.drew | exact SR.drew (by assumption) | assumption) (first | (go_at_call 181; refine (f181g _ v _ (ext_size hs) (by omega)).mono ?_; rintro e w' ⟨rfl, rfl⟩))
  have hx : SR R s t w w.drew := HR.out.drew
  have r1 := hx.2.1
  have rf := two_frz (o := 1) hx.2.2.1
  go_wp2
  go_ret
  refine ⟨rfl, ⟨?_, HT.out⟩, Lib.grownBy_setB hx.2.2.2 1 _⟩
  rw [show ((t + v.size : Nat) : Int) = (t : Int) + (v.size : Int) from by omega]
  exact two_set1 (v' := .int .i64 ((t : Int) + (v.size : Int))) hx.2.2.1
set_option maxHeartbeats 1000000 in
theorem f171h (R : Nat) (s v : ByteArray) (t : Nat) (w : World) (hs : s.size ≤ 1048576) (hv : v.size ≤ 100) (h : Rdr R s t w) (hc : pfx ((by' s).drop t) v = false) : Calls Tryz.prog 171 #[.pointer (some ⟨R, 0, none⟩), .string v] w fun e w' => e = .returned (.bool false) ∧ Rdr R s t w' ∧ w.grownBy w' (some R) := by
  have HR := hid (SR.refl h)
  have ht := h.2
  have i0 : (0 : Int) ≤ (t : Int) := by omega
  have i1 : (t : Int) ≤ (s.size : Int) := by omega
  have hh : pfxU (s.extract t s.size) v = false := by unfold pfxU; rw [ext_drop]; exact hc
  clear h hc
  go_enter Tryz.func171, Tryz.ntmps171
  go_wp2_with fail
  go_region_held3 (fun w' => SR R s t w w') (first | exact HR.out.drew | exact SR.drew (by assumption) | assumption) (first | (go_at_call 181; refine (f181g _ v _ (ext_size hs) (by omega)).mono ?_; rintro e w' ⟨rfl, rfl⟩))
  have hx : SR R s t w w.drew := HR.out.drew
  go_wp2
  go_ret
  exact ⟨rfl, ⟨hx.2.2.1, ht⟩, hx.2.2.2⟩
end Go.Proofs.YtbdlahhejfamhaaGreatDoor.Rdd
/- Templates: what their pieces are. -/
namespace Go.Proofs.YtbdlahhejfamhaaGreatDoor.Tpl
open Go.RowKit Go.Proofs.YtbdlahhejfamhaaGreatDoor.Pat Go.Proofs.YtbdlahhejfamhaaGreatDoor.Rdd

abbrev Pc := ByteArray × Bool
def stp (s : ByteArray) (i : Nat) : Option (Pc × Nat) :=
  if (by' s)[i]? = some 123 then
    if (by' s)[i + 1]? = some 123 then some ((⟨#[123]⟩, false), i + 2)
    else if (by' s)[nmE (by' s) (i + 1)]? = some 125 ∧ nameL (s.extract (i + 1) (nmE (by' s) (i + 1))).data.toList = true then some ((s.extract (i + 1) (nmE (by' s) (i + 1)), true), nmE (by' s) (i + 1) + 1)
    else none
  else some ((s.extract i (i + 1), false), i + 1)
theorem at_lt {s : ByteArray} {i : Nat} {c : UInt8} (h : (by' s)[i]? = some c) : i < s.size := by
  have := (List.getElem?_eq_some_iff.1 h).1
  simpa using this
theorem stp_lt {s : ByteArray} {i j : Nat} {p : Pc} (h : stp s i = some (p, j)) (hi : i < s.size) : i < j ∧ j ≤ s.size ∧ p.1.size ≤ s.size := by
  unfold stp at h
  split at h
  · split at h
    · rename_i h1 h2
      have := at_lt h2
      simp at h
      obtain ⟨rfl, rfl⟩ := h
      refine ⟨by omega, by omega, ?_⟩
      show 1 ≤ s.size
      omega
    · split at h
      · rename_i h1 h2 h3
        have h4 := at_lt h3.1
        have h5 := nmE_ge (by' s) (i + 1)
        simp at h
        obtain ⟨rfl, rfl⟩ := h
        refine ⟨by omega, by omega, ?_⟩
        show (s.extract _ _).size ≤ _
        rw [ByteArray.size_extract]; omega
      · cases h
  · simp at h
    obtain ⟨rfl, rfl⟩ := h
    refine ⟨by omega, by omega, ?_⟩
    show (s.extract _ _).size ≤ _
    rw [ByteArray.size_extract]; omega
def prs (s : ByteArray) : Nat → Nat → Option (List Pc)
  | 0, _ => some []
  | n + 1, i => if i < s.size then (stp s i).bind fun q => (prs s n q.2).map (q.1 :: ·) else some []
theorem prs_end {s : ByteArray} : ∀ (n i : Nat), s.size ≤ i → prs s n i = some []
  | 0, _, _ => rfl
  | n + 1, i, h => by rw [prs, if_neg (by omega)]
theorem prs_same {s : ByteArray} : ∀ (n m i : Nat), s.size - i ≤ n → s.size - i ≤ m → prs s n i = prs s m i
  | 0, m, i, hn, _ => by rw [prs_end 0 i (by omega), prs_end m i (by omega)]
  | n + 1, 0, i, _, hm => by rw [prs_end _ i (by omega), prs_end 0 i (by omega)]
  | n + 1, m + 1, i, hn, hm => by
    rw [prs, prs]
    split
    · rename_i hi
      cases hq : stp s i with
      | none => rfl
      | some q =>
        obtain ⟨p, j⟩ := q
        have hj := (stp_lt hq hi).1
        show (prs s n j).map _ = (prs s m j).map _
        rw [prs_same n m j (by omega) (by omega)]
    · rfl
def PR (s : ByteArray) (i : Nat) : Option (List Pc) := prs s (s.size - i) i
theorem PR_end {s : ByteArray} {i : Nat} (h : s.size ≤ i) : PR s i = some [] := prs_end _ _ h
theorem PR_step {s : ByteArray} {i j : Nat} {p : Pc} (h : i < s.size) (hq : stp s i = some (p, j)) : PR s i = (PR s j).map (p :: ·) := by
  have hj := (stp_lt hq h).1
  unfold PR
  obtain ⟨n, hn⟩ : ∃ n, s.size - i = n + 1 := ⟨s.size - i - 1, by omega⟩
  rw [hn, prs, if_pos h, hq]
  show (prs s n j).map _ = _
  rw [prs_same n (s.size - j) j (by omega) (by omega)]
theorem PR_bad {s : ByteArray} {i : Nat} (h : i < s.size) (hq : stp s i = none) : PR s i = none := by
  unfold PR
  obtain ⟨n, hn⟩ : ∃ n, s.size - i = n + 1 := ⟨s.size - i - 1, by omega⟩
  rw [hn, prs, if_pos h, hq]; rfl
def Sofar (s : ByteArray) (ps : List Pc) (i : Nat) : Prop := PR s 0 = (PR s i).map (ps ++ ·) ∧ ps.length ≤ i ∧ ∀ p ∈ ps, p.1.size ≤ s.size
theorem Sofar.zero (s : ByteArray) : Sofar s [] 0 := ⟨by cases PR s 0 <;> simp, Nat.le_refl _, by simp⟩
theorem Sofar.next {s : ByteArray} {ps : List Pc} {i j : Nat} {p : Pc} (h : Sofar s ps i) (hi : i < s.size) (hq : stp s i = some (p, j)) : Sofar s (ps ++ [p]) j := by
  have hl := stp_lt hq hi
  refine ⟨?_, ?_, ?_⟩
  · rw [h.1, PR_step hi hq, Option.map_map]
    congr 1
    funext x
    simp
  · have := h.2.1; simp; omega
  · intro x hx
    rcases List.mem_append.1 hx with hx | hx
    · exact h.2.2 x hx
    · simp at hx; subst hx; exact hl.2.2
theorem Sofar.bad {s : ByteArray} {ps : List Pc} {i : Nat} (h : Sofar s ps i) (hi : i < s.size) (hq : stp s i = none) : PR s 0 = none := by
  rw [h.1, PR_bad hi hq]; rfl
theorem Sofar.done {s : ByteArray} {ps : List Pc} {i : Nat} (h : Sofar s ps i) (hi : s.size ≤ i) : PR s 0 = some ps := by
  rw [h.1, PR_end hi]; simp
def tpl (s : ByteArray) : Option (List Pc) := if s.size ≤ 200 ∧ printL s.data.toList = true then PR s 0 else none
theorem tpl_long {s : ByteArray} (h : 200 < s.size) : tpl s = none := by unfold tpl; rw [if_neg (by omega)]
theorem tpl_unprinted {s : ByteArray} (h : printL s.data.toList = false) : tpl s = none := by unfold tpl; rw [if_neg (by simp [h])]
theorem tpl_ok {s : ByteArray} (h1 : s.size ≤ 200) (h2 : printL s.data.toList = true) : tpl s = PR s 0 := by unfold tpl; rw [if_pos ⟨h1, h2⟩]

def flatP (ps : List Pc) : List Value := ps.flatMap fun p => [.string p.1, .bool p.2]
theorem flatP_snoc (ps : List Pc) (p : Pc) : flatP (ps ++ [p]) = flatP ps ++ [.string p.1, .bool p.2] := by simp [flatP]
theorem own_form' {w : World} {base e size n : Nat} {v : Value} {xs : List Value} (h : w.ownsRow base e size v n xs) : ∃ a c, v = .slice a n c := by
  rcases h.2 with ⟨h1, h2⟩ | ⟨g, cap, cur, h1, _⟩
  · subst h2; exact ⟨none, 0, h1⟩
  · exact ⟨_, _, h1⟩
theorem two_new (w : World) (x y : Value) (t : TypeId) : ∀ j u, [x, y][j]? = some u → (w.alloc (.cells #[x, y] t)).cell? ((⟨w.heap.size, 0, none⟩ : Addr).add j) = some u := by
  intro j u hj
  have h := heap_alloc_new w (.cells #[x, y] t)
  match j, hj with
  | 0, hj =>
    simp at hj; subst hj
    have : (⟨w.heap.size, 0, none⟩ : Addr).add 0 = ⟨w.heap.size, 0, none⟩ := by simp [Addr.add]
    rw [this]; exact two0 h
  | 1, hj =>
    simp at hj; subst hj
    have : (⟨w.heap.size, 0, none⟩ : Addr).add 1 = ⟨w.heap.size, 1, none⟩ := by simp [Addr.add]
    rw [this]; exact two1 h
  | j + 2, hj => simp at hj
end Go.Proofs.YtbdlahhejfamhaaGreatDoor.Tpl
/- Templates: the program's reader. -/
namespace Go.Proofs.YtbdlahhejfamhaaGreatDoor.Tpl
open Go.RowKit Go.Proofs.YtbdlahhejfamhaaGreatDoor.Pat Go.Proofs.YtbdlahhejfamhaaGreatDoor.Rdd

theorem pfx2 {s : ByteArray} {t : Nat} : pfx ((by' s).drop t) ⟨#[123, 123]⟩ = decide ((by' s)[t]? = some 123 ∧ (by' s)[t + 1]? = some 123) := by
  unfold pfx
  rw [Bool.eq_iff_iff]
  rw [decide_eq_true_iff, decide_eq_true_iff, ← List.getElem?_drop (i := t) (j := 1)]
  have e0 : (by' s)[t]? = ((by' s).drop t)[0]? := by rw [List.getElem?_drop, Nat.add_zero]
  rw [e0]
  show ((by' s).drop t).take 2 = [123, 123] ↔ _
  match (by' s).drop t with
  | [] => simp
  | [a] => simp
  | a :: b :: r => simp
theorem pfx1 {s : ByteArray} {t : Nat} {c : UInt8} : pfx ((by' s).drop t) ⟨#[c]⟩ = decide ((by' s)[t]? = some c) := by
  unfold pfx
  rw [Bool.eq_iff_iff]
  rw [decide_eq_true_iff, decide_eq_true_iff]
  have e0 : (by' s)[t]? = ((by' s).drop t)[0]? := by rw [List.getElem?_drop, Nat.add_zero]
  rw [e0]
  show ((by' s).drop t).take 1 = [c] ↔ _
  match (by' s).drop t with
  | [] => simp
  | a :: r => simp
def PieR (R : Nat) (s : ByteArray) (t : Nat) (w : World) (e : Ending) (w' : World) : Prop :=
  w.grownBy w' (some R) ∧ ((stp s t = none ∧ ∃ x b k, e = .returned (.tuple #[.agg #[.string x, .bool b], .bool false]) ∧ Rdr R s k w') ∨ ∃ p k, stp s t = some (p, k) ∧ e = .returned (.tuple #[.agg #[.string p.1, .bool p.2], .bool true]) ∧ Rdr R s k w')
theorem two_set0 {w : World} {b : Nat} {u v u' : Value} {t : TypeId} (h : w.heap[b]? = some (.cells #[u, v] t (0, 0))) : (w.setCell ⟨b, 0, none⟩ u').heap[b]? = some (.cells #[u', v] t (0, 0)) := by
  have hlt := lt_block h
  have h' : w.heap[b] = .cells #[u, v] t (0, 0) := by simpa [Array.getElem?_eq_getElem hlt] using h
  show (w.heap.modify b _)[b]? = _
  rw [Array.getElem?_eq_getElem (by simpa using hlt), Array.getElem_modify_self, h']
  rfl
theorem grown_set {w w1 : World} {R B i : Nat} {v : Value} (hg : w.grownBy w1 (some R)) (hB : w.heap.size ≤ B) : w.grownBy (w1.setCell ⟨B, i, none⟩ v) (some R) :=
  ⟨hg.os, hg.tape, hg.output, by simpa [World.setCell] using hg.size, fun j hj hr => (Below.heap_setCell _ _ _ _ (by simp; omega)).trans (hg.block j hj hr)⟩
theorem rdr_set {w1 : World} {R B i k : Nat} {s : ByteArray} {v : Value} (hr : Rdr R s k w1) (hB : R ≠ B) : Rdr R s k (w1.setCell ⟨B, i, none⟩ v) :=
  ⟨(Below.heap_setCell _ _ _ _ (by simpa using hB)).trans hr.1, hr.2⟩
theorem grown_drew {w w1 : World} {R : Nat} (hg : w.grownBy w1 (some R)) : w.grownBy w1.drew (some R) := ⟨hg.os, hg.tape, hg.output, hg.size, hg.block⟩
theorem rdr_drew {w1 : World} {R k : Nat} {s : ByteArray} (hr : Rdr R s k w1) : Rdr R s k w1.drew := ⟨hr.1, hr.2⟩
def Bx (B : Nat) (x : ByteArray) (b : Bool) (w : World) : Prop := w.heap[B]? = some (.cells #[.string x, .bool b] 209 (0, 0))
theorem Bx.kept {R B : Nat} {x : ByteArray} {b : Bool} {w w' : World} (h : Bx B x b w) (hg : w.grownBy w' (some R)) (hR : R ≠ B) : Bx B x b w' := (hg.block B (lt_block h) (by simp; omega)).trans h
theorem Bx.cells {B : Nat} {x : ByteArray} {b : Bool} {w : World} (h : Bx B x b w) : w.cell? ⟨B, 0, none⟩ = some (.string x) ∧ w.cell? ⟨B, 1, none⟩ = some (.bool b) ∧ w.frozen? ⟨B, 0, none⟩ = false ∧ w.frozen? ⟨B, 1, none⟩ = false := ⟨two0 h, two1 h, two_frz h, two_frz h⟩
theorem Bx.set {B : Nat} {x y : ByteArray} {b c : Bool} {w : World} (h : Bx B x b w) : Bx B y c ((w.setCell ⟨B, 0, none⟩ (.string y)).setCell ⟨B, 1, none⟩ (.bool c)) := two_set1 (two_set0 h)
set_option maxHeartbeats 4000000 in
theorem f157 (R : Nat) (s : ByteArray) (t : Nat) (w : World) (hs : s.size ≤ 200) (ht : t < s.size) (h : Rdr R s t w) : Calls Tryz.prog 157 #[.pointer (some ⟨R, 0, none⟩)] w (PieR R s t w) := by
  have hRw : R < w.heap.size := lt_block h.1
  have hs2 : s.size ≤ 1048576 := by omega
  have HR : Hid (Rdr R s t (w.alloc (.cells #[.string ⟨#[]⟩, .bool false] 209))) := ⟨box_alloc h.1 _, h.2⟩
  have HG := hid (Lib.grownBy_allocR (World.grownBy.refl w (some R)) (.cells #[.string ⟨#[]⟩, .bool false] 209))
  have HB : Hid (Bx w.heap.size ⟨#[]⟩ false (w.alloc (.cells #[.string ⟨#[]⟩, .bool false] 209))) := heap_alloc_new w _
  clear h
  by_cases c2 : (by' s)[t]? = some 123 ∧ (by' s)[t + 1]? = some 123
  · have HS : Hid (stp s t = some ((⟨#[123]⟩, false), t + 2)) := by unfold Hid stp; rw [if_pos c2.1, if_pos c2.2]
    have HC : Hid (pfx ((by' s).drop t) ⟨#[123, 123]⟩ = true) := by unfold Hid; rw [pfx2]; exact decide_eq_true c2
    clear c2
    go_enter Tryz.func157, Tryz.ntmps157
    go_wp2_with fail
    refine (f171g R s ⟨#[123, 123]⟩ t _ hs2 (by decide) HR.out HC.out).mono ?_
    rintro e w1 ⟨rfl, hr1, hg1⟩
    have HX := hid (Lib.grownBy_trans HG.out hg1)
    have HB1 := hid (HB.out.kept hg1 (by omega))
    obtain ⟨b0, b1, f0, f1⟩ := HB1.out.cells
    have HR1 := hid hr1
    clear hr1 hg1
    go_wp2
    have HB2 := HB1.out.set (y := ⟨#[123]⟩) (c := false)
    refine bodyPost_ret (v := .tuple #[.agg #[.string ⟨#[123]⟩, .bool false], .bool true]) ?_ rfl ?_
    · obtain ⟨z0, z1, _, _⟩ := HB2.cells
      rw [results_cell_tmp rfl]
      go_simp
    · exact ⟨grown_set (grown_set HX.out (Nat.le_refl _)) (Nat.le_refl _), .inr ⟨_, _, HS.out, rfl, rdr_set (rdr_set HR1.out (by omega)) (by omega)⟩⟩
  have HC : Hid (pfx ((by' s).drop t) ⟨#[123, 123]⟩ = false) := by unfold Hid; rw [pfx2]; exact decide_eq_false c2
  by_cases c1 : (by' s)[t]? = some 123
  · have c3 : (by' s)[t + 1]? ≠ some 123 := fun e => c2 ⟨c1, e⟩
    have HD : Hid (pfx ((by' s).drop t) ⟨#[123]⟩ = true) := by unfold Hid; rw [pfx1]; exact decide_eq_true c1
    have HS : Hid (stp s t = if (by' s)[nmE (by' s) (t + 1)]? = some 125 ∧ nameL (s.extract (t + 1) (nmE (by' s) (t + 1))).data.toList = true then some ((s.extract (t + 1) (nmE (by' s) (t + 1)), true), nmE (by' s) (t + 1) + 1) else none) := by unfold Hid stp; rw [if_pos c1, if_neg c3]
    have hxz : (s.extract (t + 1) (nmE (by' s) (t + 1))).size ≤ maxLen := by rw [ByteArray.size_extract]; unfold maxLen; omega
    clear c1 c2 c3
    go_enter Tryz.func157, Tryz.ntmps157
    go_wp2_with fail
    refine (f171h R s ⟨#[123, 123]⟩ t _ hs2 (by decide) HR.out HC.out).mono ?_
    rintro e w1 ⟨rfl, hr1, hg1⟩
    have HX1 := hid (Lib.grownBy_trans HG.out hg1)
    have HB1 := hid (HB.out.kept hg1 (by omega))
    have HR1 := hid hr1
    clear hr1 hg1
    go_wp2_with fail
    refine (f171g R s ⟨#[123]⟩ t _ hs2 (by decide) HR1.out HD.out).mono ?_
    rintro e w2 ⟨rfl, hr2, hg2⟩
    have HX2 := hid (Lib.grownBy_trans HX1.out hg2)
    have HB2 := hid (HB1.out.kept hg2 (by omega))
    have HR2 : Hid (Rdr R s (t + 1) w2) := hr2
    clear hr2 hg2
    go_wp2_with fail
    refine (f172 R s (t + 1) _ hs2 HR2.out).mono ?_
    rintro e w3 ⟨rfl, hr3, hg3⟩
    have HX3 := hid (Lib.grownBy_trans HX2.out hg3)
    have HB3 := hid (HB2.out.kept hg3 (by omega))
    have HR3 := hid hr3
    clear hr3 hg3
    generalize s.extract (t + 1) (nmE (by' s) (t + 1)) = x at *
    generalize nmE (by' s) (t + 1) = k at *
    cases hn : nameL x.data.toList
    · have HS' : Hid (stp s t = none) := by unfold Hid; rw [HS.out, if_neg (by rw [hn]; simp)]
      clear HS
      obtain ⟨b0, b1, f0, f1⟩ := HB3.out.cells
      go_wp2_with (go_at_call 95; refine (f95 x _ hxz).mono ?_; rintro e w4 ⟨rfl, rfl⟩)
      have HB4 := HB3.out.set (y := x) (c := true)
      refine bodyPost_ret (v := .tuple #[.agg #[.string x, .bool true], .bool false]) ?_ rfl ?_
      · obtain ⟨z0, z1, _, _⟩ := HB4.cells
        rw [results_cell_tmp rfl]
        go_simp
      · exact ⟨grown_set (grown_set HX3.out (Nat.le_refl _)) (Nat.le_refl _), .inl ⟨HS'.out, x, true, _, rfl, rdr_set (rdr_set HR3.out (by omega)) (by omega)⟩⟩
    · have HE : Hid (pfx ((by' s).drop k) ⟨#[125]⟩ = decide ((by' s)[k]? = some 125)) := pfx1
      by_cases c5 : (by' s)[k]? = some 125
      · have HS' : Hid (stp s t = some ((x, true), k + 1)) := by unfold Hid; rw [HS.out, if_pos ⟨c5, hn⟩]
        have HF : Hid (pfx ((by' s).drop k) ⟨#[125]⟩ = true) := by unfold Hid; rw [HE.out]; exact decide_eq_true c5
        clear HS HE c5
        go_wp2_with (first | (go_at_call 95; refine (f95 x _ hxz).mono ?_; rintro e w4 ⟨rfl, rfl⟩) | (go_at_call 171; refine (f171g R s ⟨#[125]⟩ k _ hs2 (by decide) HR3.out HF.out).mono ?_; rintro e w4 ⟨rfl, hr4, hg4⟩; have HX4 := hid (Lib.grownBy_trans HX3.out hg4); have HB4 := hid (HB3.out.kept hg4 (by omega)); have HR4 : Hid (Rdr R s (k + 1) w4) := hr4; obtain ⟨b0, b1, f0, f1⟩ := HB4.out.cells; clear hr4 hg4))
        have HB5 := HB4.out.set (y := x) (c := true)
        refine bodyPost_ret (v := .tuple #[.agg #[.string x, .bool true], .bool true]) ?_ rfl ?_
        · obtain ⟨z0, z1, _, _⟩ := HB5.cells
          rw [results_cell_tmp rfl]
          go_simp
        · exact ⟨grown_set (grown_set HX4.out (Nat.le_refl _)) (Nat.le_refl _), .inr ⟨(x, true), _, HS'.out, rfl, rdr_set (rdr_set HR4.out (by omega)) (by omega)⟩⟩
      · have HS' : Hid (stp s t = none) := by unfold Hid; rw [HS.out, if_neg (fun e => c5 e.1)]
        have HF : Hid (pfx ((by' s).drop k) ⟨#[125]⟩ = false) := by unfold Hid; rw [HE.out]; exact decide_eq_false c5
        clear HS HE c5
        go_wp2_with (first | (go_at_call 95; refine (f95 x _ hxz).mono ?_; rintro e w4 ⟨rfl, rfl⟩) | (go_at_call 171; refine (f171h R s ⟨#[125]⟩ k _ hs2 (by decide) HR3.out HF.out).mono ?_; rintro e w4 ⟨rfl, hr4, hg4⟩; have HX4 := hid (Lib.grownBy_trans HX3.out hg4); have HB4 := hid (HB3.out.kept hg4 (by omega)); have HR4 := hid hr4; obtain ⟨b0, b1, f0, f1⟩ := HB4.out.cells; clear hr4 hg4))
        have HB5 := HB4.out.set (y := x) (c := true)
        refine bodyPost_ret (v := .tuple #[.agg #[.string x, .bool true], .bool false]) ?_ rfl ?_
        · obtain ⟨z0, z1, _, _⟩ := HB5.cells
          rw [results_cell_tmp rfl]
          go_simp
        · exact ⟨grown_set (grown_set HX4.out (Nat.le_refl _)) (Nat.le_refl _), .inl ⟨HS'.out, x, true, _, rfl, rdr_set (rdr_set HR4.out (by omega)) (by omega)⟩⟩
  have HD : Hid (pfx ((by' s).drop t) ⟨#[123]⟩ = false) := by unfold Hid; rw [pfx1]; exact decide_eq_false c1
  have HS : Hid (stp s t = some ((s.extract t (t + 1), false), t + 1)) := by unfold Hid stp; rw [if_neg c1]
  clear c1 c2
  go_enter Tryz.func157, Tryz.ntmps157
  go_wp2_with fail
  refine (f171h R s ⟨#[123, 123]⟩ t _ hs2 (by decide) HR.out HC.out).mono ?_
  rintro e w1 ⟨rfl, hr1, hg1⟩
  have HX1 := hid (Lib.grownBy_trans HG.out hg1)
  have HB1 := hid (HB.out.kept hg1 (by omega))
  have HR1 := hid hr1
  clear hr1 hg1
  go_wp2_with fail
  refine (f171h R s ⟨#[123]⟩ t _ hs2 (by decide) HR1.out HD.out).mono ?_
  rintro e w2 ⟨rfl, hr2, hg2⟩
  have HX2 := hid (Lib.grownBy_trans HX1.out hg2)
  have HB2 := hid (HB1.out.kept hg2 (by omega))
  have HR2 := hid hr2
  have r1 := two1 hr2.1
  have rf := two_frz (o := 1) hr2.1
  clear hr2 hg2
  go_upto_region 7 with fail
  have HR3 : Hid (Rdr R s (t + 1) (w2.setCell ⟨R, 1, none⟩ (.int .i64 ((t : Int) + 1)))) := ⟨two_set1 HR2.out.1, by omega⟩
  have HX3 := hid (Lib.grownBy_setB HX2.out 1 (.int .i64 ((t : Int) + 1)))
  have HB3 : Hid (Bx w.heap.size ⟨#[]⟩ false (w2.setCell ⟨R, 1, none⟩ (.int .i64 ((t : Int) + 1)))) := (Below.heap_setCell _ _ _ _ (by simp; omega)).trans HB2.out
  generalize w2.setCell ⟨R, 1, none⟩ (.int .i64 ((t : Int) + 1)) = w3 at *
  clear r1 rf
  have i0 : (0 : Int) ≤ (t : Int) := by omega
  have i1 : (t : Int) ≤ (t : Int) + 1 := by omega
  have i2 : (t : Int) + 1 ≤ (s.size : Int) := by omega
  have q1 : IntKind.i64.wrap (t : Int) = (t : Int) := by rw [IntKind.wrap_i64]; omega
  have HS3 := hid (SR.refl HR3.out)
  have hx : SR R s (t + 1) w3 w3.drew := HS3.out.drew
  have g0 := hx.1
  have g1 : w3.drew.cell? ⟨R, 1, none⟩ = some (.int .i64 ((t : Int) + 1)) := hx.2.1
  have HB4 : Bx w.heap.size ⟨#[]⟩ false w3.drew := HB3.out
  obtain ⟨b0, b1, f0, f1⟩ := HB4.cells
  obtain ⟨y0, y1, y2, y3⟩ := HB3.out.cells
  go_region
  all_goals
    go_wp2
    have HB5 := HB4.set (y := s.extract t (t + 1)) (c := false)
    refine bodyPost_ret (v := .tuple #[.agg #[.string (s.extract t (t + 1)), .bool false], .bool true]) ?_ rfl ?_
    · obtain ⟨z0, z1, _, _⟩ := HB5.cells
      rw [results_cell_tmp rfl]
      go_simp
    · exact ⟨grown_drew (grown_set (grown_set HX3.out (Nat.le_refl _)) (Nat.le_refl _)), .inr ⟨_, _, HS.out, rfl, rdr_drew (rdr_set (rdr_set HR3.out (by omega)) (by omega))⟩⟩

theorem infoP : (Tryz.prog.info? 209).map (fun i => (i.zero, i.size, i.bytes)) = some (some (.agg #[.string ⟨#[]⟩, .bool false]), 2, 24) := by kernel_rfl
def TplR (s : ByteArray) (w : World) (e : Ending) (w' : World) : Prop :=
  Below w.heap.size w w' ∧ ((tpl s = none ∧ e = .returned (.tuple #[.slice none 0 0, .bool false])) ∨ ∃ ps a c, tpl s = some ps ∧ e = .returned (.tuple #[.slice a ps.length c, .bool true]) ∧ w'.ownsRow w.heap.size 209 2 (.slice a ps.length c) ps.length (flatP ps) ∧ ps.length ≤ 200 ∧ ∀ p ∈ ps, p.1.size ≤ 200)
structure Ts (s : ByteArray) (w0 : World) (k : Nat) (ps : List Pc) (a : Option Addr) (c : Nat) (w : World) : Prop where
  rdr : Rdr w0.heap.size s k w
  row : w.ownsRow (w0.heap.size + 1) 209 2 (.slice a ps.length c) ps.length (flatP ps)
  bel : Below w0.heap.size w0 w
theorem Ts.lt {s : ByteArray} {w0 w : World} {k : Nat} {ps : List Pc} {a : Option Addr} {c : Nat} (h : Ts s w0 k ps a c w) : w0.heap.size + 1 ≤ w.heap.size := lt_block h.rdr.1
theorem Ts.moved {s : ByteArray} {w0 w w' : World} {k k' : Nat} {ps : List Pc} {a : Option Addr} {c : Nat} (h : Ts s w0 k ps a c w) (hr : Rdr w0.heap.size s k' w') (hg : w.grownBy w' (some w0.heap.size)) : Ts s w0 k' ps a c w' := by
  refine ⟨hr, h.row.kept hg ?_, h.bel.grown hg h.bel.size (fun j hj => by simp at hj; omega)⟩
  cases hv : (Value.slice a ps.length c).ownBlock with
  | none => exact .inl rfl
  | some g => have := (h.row.lt g hv).1; exact .inr (by simp; omega)
theorem Ts.alloc {s : ByteArray} {w0 w : World} {k : Nat} {ps : List Pc} {a : Option Addr} {c : Nat} (h : Ts s w0 k ps a c w) (o : Obj) : Ts s w0 k ps a c (w.alloc o) :=
  ⟨⟨box_alloc h.rdr.1 _, h.rdr.2⟩, h.row.alloc _, h.bel.alloc h.bel.size _⟩
theorem Ts.app {s : ByteArray} {w0 w w' : World} {k : Nat} {ps ps' : List Pc} {a a' : Option Addr} {c c' : Nat} (h : Ts s w0 k ps a c w) (hg : w.grownBy w' (Value.slice a ps.length c).ownBlock) (ho : w'.ownsRow (w0.heap.size + 1) 209 2 (.slice a' ps'.length c') ps'.length (flatP ps')) : Ts s w0 k ps' a' c' w' := by
  refine ⟨⟨(hg.block _ h.lt (fun e => by have := (h.row.lt _ e.symm).1; omega)).trans h.rdr.1, h.rdr.2⟩, ho, h.bel.grown hg h.bel.size (fun j hj => by have := (h.row.lt j hj).1; omega)⟩
set_option maxRecDepth 100000 in
set_option maxHeartbeats 4000000 in
theorem f130 (s : ByteArray) (w : World) (hs : s.size ≤ maxLen) : Calls Tryz.prog 130 #[.string s] w (TplR s w) := by
  have hs' := hs
  unfold maxLen at hs'
  by_cases h200 : 200 < s.size
  · go_enter Tryz.func130, Tryz.ntmps130
    go_wp2
    go_ret2
    exact ⟨Below.refl _ _, .inl ⟨tpl_long h200, rfl⟩⟩
  cases hpr : printL s.data.toList
  · have HT := hid (tpl_unprinted hpr)
    go_enter Tryz.func130, Tryz.ntmps130
    go_wp2_with (go_at_call 142; refine (f142 s _ hs).mono ?_; rintro e w' ⟨rfl, hw'⟩; have hw2 := hw'.symm; clear hw'; subst hw2)
    go_ret2
    exact ⟨Below.refl _ _, .inl ⟨HT.out, rfl⟩⟩
  have HT := hid (tpl_ok (s := s) (by omega) hpr)
  obtain ⟨i0, hi, hz0, hz1, hz2⟩ := info_parts infoP
  have H0 : Hid (Ts s w 0 [] none 0 (w.alloc (.cells #[.string s, .int .i64 0] 207))) := ⟨⟨heap_alloc_new w _, Nat.zero_le _⟩, World.ownsRow_nil _ _ _ _, (Below.refl _ _).alloc (Nat.le_refl _) _⟩
  go_enter Tryz.func130, Tryz.ntmps130
  go_wp2_with (go_at_call 142; refine (f142 s _ hs).mono ?_; rintro e w' ⟨rfl, hw'⟩; have hw2 := hw'.symm; clear hw'; subst hw2)
  go_loopw [5] (fun so wr => ∃ (k : Nat) (ps : List Pc) (a : Option Addr) (c : Nat), k ≤ s.size ∧ so = .slice a ps.length c ∧ Hid (Sofar s ps k) ∧ Hid (Ts s w k ps a c wr)) (fun _ wr => s.size - posOf w.heap.size wr)
  case atStart => exact ⟨0, [], none, 0, Nat.zero_le _, rfl, Sofar.zero s, H0⟩
  case round =>
    obtain ⟨k, ps, a, c, hk, rfl, HF, HS⟩ := hrel
    have HP := hid (posOf_eq HS.out.rdr)
    have r1 := two1 HS.out.rdr.1
    by_cases hlt : k < s.size
    · have i1 : (k : Int) < (s.size : Int) := by omega
      go_upto_region 7 with (go_at_call 157; refine (f157 w.heap.size s k _ (by omega) hlt HS.out.rdr).mono ?_; rintro e w1 ⟨hg1, hc⟩; rcases hc with ⟨hn, x, b, k', rfl, hr1⟩ | ⟨p, k', hn, rfl, hr1⟩)
      · have HN := hid (HF.out.bad hlt hn)
        have HS1 := hid (HS.out.moved hr1 hg1)
        clear hr1 hg1 hn
        go_wp2
        go_ret2
        refine ⟨HS1.out.bel.alloc HS1.out.bel.size _, .inl ⟨HT.out.trans HN.out, rfl⟩⟩
      · have HF2 := hid (HF.out.next hlt hn)
        have hkl := stp_lt hn hlt
        have HS1 := hid ((HS.out.moved hr1 hg1).alloc (.cells #[.string p.1, .bool p.2] 209))
        have hb : (w1.alloc (.cells #[.string p.1, .bool p.2] 209)).heap[w1.heap.size]? = some (.cells #[.string p.1, .bool p.2] 209 (0, 0)) := heap_alloc_new w1 _
        have b0 := two0 hb
        have b1 := two1 hb
        have hpl : ps.length ≤ k := HF.out.2.1
        clear hr1 hg1 hn hb
        generalize w1.alloc (.cells #[.string p.1, .bool p.2] 209) = w2 at *
        go_wp2_with (at_builtin; refine wpList_append_own _ rfl (.tmp 33) (.tmp 35) 189 rfl (w.heap.size + 1) 209 i0 (.agg #[.string ⟨#[]⟩, .bool false]) 2 24 Tryz.underlying189 hi hz0 hz1 hz2 rfl (by decide) _ _ _ rfl (HS1.out.alloc _).row ⟨w2.heap.size, 0, none⟩ 1 1 [.string p.1, .bool p.2] rfl rfl ?d1 ?d2 ?d3 ?d4 ?d5 ?_)
        case d1 => exact two_new _ _ _ _
        case d2 => intro u hu; simp at hu; rcases hu with rfl | rfl <;> rfl
        case d3 => unfold maxLen; omega
        case d4 => omega
        case d5 => have := HS1.out.lt; simp; omega
        intro v3 w3 hown3 hgr3 _
        obtain ⟨a3, c3, rfl⟩ := own_form' hown3
        rw [← flatP_snoc] at hown3
        have HS3 : Hid (Ts s w k' (ps ++ [p]) a3 c3 w3) := (HS1.out.alloc _).app hgr3 (by simpa using hown3)
        have HP3 := hid (posOf_eq HS3.out.rdr)
        clear hown3 hgr3
        go_wp2
        go_roundw
        case rel => exact ⟨k', ps ++ [p], a3, c3, hkl.2.1, by simp, HF2.out, HS3⟩
        case measure => rw [HP.out, HP3.out]; omega
    · have i1 : ¬ (k : Int) < (s.size : Int) := by omega
      go_wp2
      go_ret2
      have hd := HF.out.done (by omega)
      refine ⟨HS.out.bel, .inr ⟨ps, a, c, HT.out.trans hd, rfl, ?_, by have := HF.out.2.1; omega, fun p hp => by have := HF.out.2.2 p hp; omega⟩⟩
      have hr := HS.out.row
      refine ⟨hr.1, ?_⟩
      rcases hr.2 with h | ⟨g, cap, cur, h1, h2, h3⟩
      · exact .inl h
      · exact .inr ⟨g, cap, cur, h1, by omega, h3⟩
def gdT (s : ByteArray) : Bool := (tpl s).isSome
theorem f98 (s : ByteArray) (w : World) (hs : s.size ≤ maxLen) : Calls Tryz.prog 98 #[.string s] w fun e w' => e = .returned (.bool (gdT s)) ∧ Below w.heap.size w w' := by
  have HG : Hid (gdT s = (tpl s).isSome) := rfl
  go_enter Tryz.func98, Tryz.ntmps98
  go_wp2_with (go_at_call 130; refine (f130 s _ hs).mono ?_; rintro e w1 ⟨hb, hc⟩; rcases hc with ⟨hn, rfl⟩ | ⟨ps, a, c, hn, rfl, _⟩)
  · go_ret
    exact ⟨ret_bool (by rw [HG.out, hn]; rfl), hb⟩
  · go_ret
    exact ⟨ret_bool (by rw [HG.out, hn]; rfl), hb⟩
end Go.Proofs.YtbdlahhejfamhaaGreatDoor.Tpl
/- Templates: the model's reader. -/
namespace Go.Proofs.YtbdlahhejfamhaaGreatDoor.Tpl
open Go.RowKit Go.Proofs.YtbdlahhejfamhaaGreatDoor.Pat Go.Proofs.YtbdlahhejfamhaaGreatDoor.Rdd

theorem f152 (s : ByteArray) (t : Nat) (w : World) (hs : s.size ≤ 1048576) (ht : t ≤ s.size) : Calls Tryz.prog 152 #[.string s, .int .i64 t] w fun e w' => e = .returned (.int .i64 (nmE (by' s) t)) ∧ w' = w := by
  go_enter Tryz.func152, Tryz.ntmps152
  go_wp2
  go_loop [1] (fun i => ∃ k : Nat, k ≤ s.size ∧ i = .int .i64 k ∧ Hid (nmE (by' s) t = nmE (by' s) k)) (fun i => s.size - (intOf i).toNat)
  case atStart => exact ⟨t, ht, rfl, rfl⟩
  case round =>
    obtain ⟨k, hk, rfl, HN⟩ := hrel
    by_cases hlt : k < s.size
    · have HA := hid (at_byte s k hlt)
      by_cases h1 : letB (s[k].toNat : Int) = true
      · have HE := hid (nmE_step HA.out (by simp [nbC, nbB, h1]))
        go_wp2_with (first | (go_at_call 119; refine (f119 _ _).mono ?_; rintro e w' ⟨rfl, rfl⟩) | (go_at_call 118; refine (f118 _ _).mono ?_; rintro e w' ⟨rfl, rfl⟩))
        go_round
        case rel => exact ⟨k + 1, by omega, by go_num, by unfold Hid; rw [HN.out, HE.out]⟩
        case measure => simp [intOf]; omega
      · have h1' : letB (s[k].toNat : Int) = false := by simpa using h1
        by_cases h2 : digB (s[k].toNat : Int) = true
        · have HE := hid (nmE_step HA.out (by simp [nbC, nbB, h2]))
          go_wp2_with (first | (go_at_call 119; refine (f119 _ _).mono ?_; rintro e w' ⟨rfl, rfl⟩) | (go_at_call 118; refine (f118 _ _).mono ?_; rintro e w' ⟨rfl, rfl⟩))
          go_round
          case rel => exact ⟨k + 1, by omega, by go_num, by unfold Hid; rw [HN.out, HE.out]⟩
          case measure => simp [intOf]; omega
        · have h2' : digB (s[k].toNat : Int) = false := by simpa using h2
          by_cases h3 : (s[k].toNat : Int) = 95
          · have HE := hid (nmE_step HA.out (by unfold nbC nbB; rw [h3]; simp))
            have h3' : ((s[k].toNat : Int) == 95) = true := by simp [h3]
            clear h3
            go_wp2_with (first | (go_at_call 119; refine (f119 _ _).mono ?_; rintro e w' ⟨rfl, rfl⟩) | (go_at_call 118; refine (f118 _ _).mono ?_; rintro e w' ⟨rfl, rfl⟩))
            go_round
            case rel => exact ⟨k + 1, by omega, by go_num, by unfold Hid; rw [HN.out, HE.out]⟩
            case measure => simp [intOf]; omega
          · have HE := hid (nmE_stop HA.out (by unfold nbC nbB; rw [h1', h2']; simpa using h3))
            have h3' : ((s[k].toNat : Int) == 95) = false := by simp [h3]
            clear h3
            go_wp2_with (first | (go_at_call 119; refine (f119 _ _).mono ?_; rintro e w' ⟨rfl, rfl⟩) | (go_at_call 118; refine (f118 _ _).mono ?_; rintro e w' ⟨rfl, rfl⟩))
            go_ret
            exact ⟨by rw [HN.out, HE.out]; rfl, rfl⟩
    · have HE := hid (nmE_end (l := by' s) (i := k) (by simp; omega))
      go_wp2
      go_ret
      exact ⟨by rw [HN.out, HE.out]; rfl, rfl⟩

theorem byte_eq {c d : UInt8} (h : c = d) : ((c.toNat : Int) == (d.toNat : Int)) = true := by rw [h]; simp
theorem byte_neq {c d : UInt8} (h : c ≠ d) : ((c.toNat : Int) == (d.toNat : Int)) = false := by
  rw [beq_eq_false_iff_ne]
  intro e
  exact h (UInt8.toNat_inj.1 (by omega))
theorem byte_ne {c d : UInt8} (h : c ≠ d) : ((c.toNat : Int) != (d.toNat : Int)) = true := by
  rw [bne_iff_ne]
  intro e
  exact h (UInt8.toNat_inj.1 (by omega))
theorem byte_ne' {c d : UInt8} (h : c = d) : ((c.toNat : Int) != (d.toNat : Int)) = false := by rw [h]; simp
theorem at_is {s : ByteArray} {k : Nat} (hk : k < s.size) {c : UInt8} : (by' s)[k]? = some c ↔ s[k] = c := by rw [at_byte s k hk]; simp
theorem infoS : (Tryz.prog.info? 9).map (fun i => (i.zero, i.size, i.bytes)) = some (some (.string ⟨#[]⟩), 1, 16) := by kernel_rfl
theorem infoB : (Tryz.prog.info? 4).map (fun i => (i.zero, i.size, i.bytes)) = some (some (.bool false), 1, 1) := by kernel_rfl
def fs (ps : List Pc) : List Value := ps.map fun p => .string p.1
def fb (ps : List Pc) : List Value := ps.map fun p => .bool p.2
structure Ms2 (w0 : World) (n1 n2 : Nat) (x1 x2 : List Value) (a1 : Option Addr) (c1 : Nat) (a2 : Option Addr) (c2 : Nat) (w : World) : Prop where
  row1 : w.ownsRow w0.heap.size 9 1 (.slice a1 n1 c1) n1 x1
  row2 : w.ownsRow w0.heap.size 4 1 (.slice a2 n2 c2) n2 x2
  bel : Below w0.heap.size w0 w
theorem Ms2.alloc {w0 w : World} {n1 n2 : Nat} {x1 x2 : List Value} {a1 a2 : Option Addr} {c1 c2 : Nat} (h : Ms2 w0 n1 n2 x1 x2 a1 c1 a2 c2 w) (o : Obj) : Ms2 w0 n1 n2 x1 x2 a1 c1 a2 c2 (w.alloc o) := ⟨h.row1.alloc _, h.row2.alloc _, h.bel.alloc h.bel.size _⟩
theorem Ms2.app1 {w0 w w' : World} {n1 n2 m : Nat} {x1 x2 y : List Value} {a1 a2 a3 : Option Addr} {c1 c2 c3 : Nat} (h : Ms2 w0 n1 n2 x1 x2 a1 c1 a2 c2 w) (hg : w.grownBy w' (Value.slice a1 n1 c1).ownBlock) (ho : w'.ownsRow w0.heap.size 9 1 (.slice a3 m c3) m y) : Ms2 w0 m n2 y x2 a3 c3 a2 c2 w' :=
  ⟨ho, h.row2.kept hg (own_apart h.row2 h.row1 (by decide)), h.bel.grown hg h.bel.size (fun j hj => (h.row1.lt j hj).1)⟩
theorem Ms2.app2 {w0 w w' : World} {n1 n2 m : Nat} {x1 x2 y : List Value} {a1 a2 a3 : Option Addr} {c1 c2 c3 : Nat} (h : Ms2 w0 n1 n2 x1 x2 a1 c1 a2 c2 w) (hg : w.grownBy w' (Value.slice a2 n2 c2).ownBlock) (ho : w'.ownsRow w0.heap.size 4 1 (.slice a3 m c3) m y) : Ms2 w0 n1 m x1 y a1 c1 a3 c3 w' :=
  ⟨h.row1.kept hg (own_apart h.row1 h.row2 (by decide)), ho, h.bel.grown hg h.bel.size (fun j hj => (h.row2.lt j hj).1)⟩
def Ms (w0 : World) (ps : List Pc) (a1 : Option Addr) (c1 : Nat) (a2 : Option Addr) (c2 : Nat) (w : World) : Prop := Ms2 w0 ps.length ps.length (fs ps) (fb ps) a1 c1 a2 c2 w
theorem Ms2.snoc {w0 w : World} {ps : List Pc} {t : ByteArray} {b : Bool} {a1 a2 : Option Addr} {c1 c2 : Nat} (h : Ms2 w0 (ps.length + 1) (ps.length + 1) (fs ps ++ [.string t]) (fb ps ++ [.bool b]) a1 c1 a2 c2 w) : Ms w0 (ps ++ [(t, b)]) a1 c1 a2 c2 w := by
  unfold Ms
  rw [show fs (ps ++ [(t, b)]) = fs ps ++ [.string t] from by simp [fs], show fb (ps ++ [(t, b)]) = fb ps ++ [.bool b] from by simp [fb], List.length_append]
  exact h
def PrtR (s : ByteArray) (w : World) (e : Ending) (w' : World) : Prop :=
  Below w.heap.size w w' ∧ ((tpl s = none ∧ e = .returned (.tuple #[.slice none 0 0, .slice none 0 0, .bool false])) ∨ ∃ ps a1 c1 a2 c2, tpl s = some ps ∧ e = .returned (.tuple #[.slice a1 ps.length c1, .slice a2 ps.length c2, .bool true]) ∧ Ms w ps a1 c1 a2 c2 w' ∧ ps.length ≤ 200 ∧ ∀ p ∈ ps, p.1.size ≤ 200)
set_option maxHeartbeats 8000000 in
set_option maxRecDepth 100000 in
theorem f122 (s : ByteArray) (w : World) (hs : s.size ≤ maxLen) : Calls Tryz.prog 122 #[.string s] w (PrtR s w) := by
  have hs' := hs
  unfold maxLen at hs'
  by_cases h200 : 200 < s.size
  · go_enter Tryz.func122, Tryz.ntmps122
    go_wp2
    refine bodyPost_ret (results_tmp3 rfl _ _ _) rfl ?_
    exact ⟨Below.refl _ _, .inl ⟨tpl_long h200, rfl⟩⟩
  cases hpr : printL s.data.toList
  · have HT := hid (tpl_unprinted hpr)
    go_enter Tryz.func122, Tryz.ntmps122
    go_wp2_with (go_at_call 134; refine (f134 s _ hs).mono ?_; rintro e w' ⟨rfl, hw'⟩; have hw2 := hw'.symm; clear hw'; subst hw2)
    refine bodyPost_ret (results_tmp3 rfl _ _ _) rfl ?_
    exact ⟨Below.refl _ _, .inl ⟨HT.out, rfl⟩⟩
  have HT := hid (tpl_ok (s := s) (by omega) hpr)
  obtain ⟨i0, hi, hz0, hz1, hz2⟩ := info_parts infoS
  obtain ⟨j0, hj, hy0, hy1, hy2⟩ := info_parts infoB
  have H0 : Hid (Ms w [] none 0 none 0 w) := ⟨World.ownsRow_nil _ _ _ _, World.ownsRow_nil _ _ _ _, Below.refl _ _⟩
  go_enter Tryz.func122, Tryz.ntmps122
  go_wp2_with (go_at_call 134; refine (f134 s _ hs).mono ?_; rintro e w' ⟨rfl, hw'⟩; have hw2 := hw'.symm; clear hw'; subst hw2)
  go_loopw [5, 6, 7] (fun so sn si wr => ∃ (k : Nat) (ps : List Pc) (a1 : Option Addr) (c1 : Nat) (a2 : Option Addr) (c2 : Nat), k ≤ s.size ∧ si = .int .i64 k ∧ so = .slice a1 ps.length c1 ∧ sn = .slice a2 ps.length c2 ∧ Hid (Sofar s ps k) ∧ Hid (Ms w ps a1 c1 a2 c2 wr)) (fun _ _ si _ => s.size - (intOf si).toNat)
  case atStart => exact ⟨0, [], none, 0, none, 0, Nat.zero_le _, rfl, rfl, rfl, Sofar.zero s, H0⟩
  case round =>
    obtain ⟨k, ps, a1, c1, a2, c2, hk, rfl, rfl, rfl, HF, HS⟩ := hrel
    have hpl : ps.length ≤ k := HF.out.2.1
    by_cases hlt : k < s.size
    · by_cases e1 : s[k] = 123
      · have e1' : ((s[k].toNat : Int) != 123) = false := byte_ne' e1
        have HA : Hid ((by' s)[k]? = some 123) := (at_is hlt).2 e1
        by_cases e2 : (by' s)[k + 1]? = some 123
        · have hk2 := at_lt e2
          have e2' : ((s[k + 1].toNat : Int) == 123) = true := byte_eq ((at_is hk2).1 e2)
          have hn : stp s k = some ((⟨#[123]⟩, false), k + 2) := by unfold stp; rw [if_pos HA.out, if_pos e2]
          have HF2 := hid (HF.out.next hlt hn)
          have hkl := stp_lt hn hlt
          clear e1 e2 hn
          go_wp2_with (at_builtin; first | (refine wpList_append_own _ rfl (.tmp 52) (.tmp 53) 50 rfl w.heap.size 9 i0 (.string ⟨#[]⟩) 1 16 Tryz.underlying50 hi hz0 hz1 hz2 rfl (by decide) _ _ _ rfl (HS.out.alloc _).row1 ⟨wr.heap.size, 0, none⟩ 1 1 [.string ⟨#[123]⟩] rfl rfl ?d1 ?d2 ?d3 ?d4 ?d5 ?_))
          case d1 => exact one_row _ _ _
          case d2 => intro u hu; simp at hu; subst hu; rfl
          case d3 => unfold maxLen; omega
          case d4 => omega
          case d5 => have := HS.out.bel.size; simp; omega
          intro v3 w3 hown3 hgr3 _
          obtain ⟨a3, c3, rfl⟩ := own_form' hown3
          have HS3 := hid ((HS.out.alloc _).app1 hgr3 hown3)
          clear hown3 hgr3
          go_wp2_with (at_builtin; first | (refine wpList_append_own _ rfl (.tmp 55) (.tmp 56) 182 rfl w.heap.size 4 j0 (.bool false) 1 1 Tryz.underlying182 hj hy0 hy1 hy2 rfl (by decide) _ _ _ rfl (HS3.out.alloc _).row2 ⟨w3.heap.size, 0, none⟩ 1 1 [.bool false] rfl rfl ?e1 ?e2 ?e3 ?e4 ?e5 ?_))
          case e1 => exact one_row _ _ _
          case e2 => intro u hu; simp at hu; subst hu; rfl
          case e3 => unfold maxLen; omega
          case e4 => omega
          case e5 => have := HS3.out.bel.size; simp; omega
          intro v4 w4 hown4 hgr4 _
          obtain ⟨a4, c4, rfl⟩ := own_form' hown4
          have HS4 := hid ((HS3.out.alloc _).app2 hgr4 hown4)
          clear hown4 hgr4
          go_wp2
          go_roundw
          case rel => exact ⟨k + 2, ps ++ [((⟨#[123]⟩ : ByteArray), false)], a3, c3, a4, c4, by have := hkl.2.1; omega, by go_num, by simp, by simp, HF2, HS4.out.snoc⟩
          case measure => simp [intOf]; omega
        · have HS0 : Hid (stp s k = if (by' s)[nmE (by' s) (k + 1)]? = some 125 ∧ nameL (s.extract (k + 1) (nmE (by' s) (k + 1))).data.toList = true then some ((s.extract (k + 1) (nmE (by' s) (k + 1)), true), nmE (by' s) (k + 1) + 1) else none) := by unfold Hid stp; rw [if_pos HA.out, if_neg e2]
          have hxz : (s.extract (k + 1) (nmE (by' s) (k + 1))).size ≤ maxLen := by rw [ByteArray.size_extract]; unfold maxLen; omega
          have hge := nmE_ge (by' s) (k + 1)
          have hle := nmE_le (l := by' s) (i := k + 1) (by simp; omega)
          have hle' : nmE (by' s) (k + 1) ≤ s.size := by simpa using hle
          have HNM := hid (fun w => f152 s (k + 1) w (by omega) (by omega))
          by_cases hk2 : k + 1 < s.size
          · have e3 : ((s[k + 1].toNat : Int) == 123) = false := byte_neq (fun e => e2 ((at_is hk2).2 e))
            clear e1 e2 hle
            obtain ⟨x, hx⟩ : ∃ x, x = s.extract (k + 1) (nmE (by' s) (k + 1)) := ⟨_, rfl⟩
            rw [← hx] at hxz HS0
            have HXX := hid hx.symm
            clear hx
            obtain ⟨m, hm⟩ : ∃ m, m = nmE (by' s) (k + 1) := ⟨_, rfl⟩
            rw [← hm] at hge hle' HS0 HNM HXX
            have hxx : s.extract (k + 1) m = x := HXX.out
            have i1 : (k : Int) + 1 ≤ (m : Int) := by omega
            have i2 : (m : Int) ≤ (s.size : Int) := by omega
            have i4 : (0 : Int) ≤ (k : Int) + 1 := by omega
            clear hm HXX
            by_cases hm2 : m < s.size
            · by_cases e4 : s[m] = 125
              · have e4' : ((s[m].toNat : Int) != 125) = false := byte_ne' e4
                cases hnm : nameL x.data.toList
                · have HQ : Hid (stp s k = none) := by unfold Hid; rw [HS0.out, if_neg (by rw [hnm]; simp)]
                  clear e4 HS0
                  go_wp2_with (first | (go_at_call 152; refine (HNM.out _).mono ?_; rintro e w2 ⟨rfl, hw2⟩; have hw3 := hw2.symm; clear hw2; subst hw3) | (go_at_call 90; refine (f90 x _ hxz).mono ?_; rintro e w2 ⟨rfl, hw2⟩; have hw3 := hw2.symm; clear hw2; subst hw3))
                  refine bodyPost_ret (results_tmp3 rfl _ _ _) rfl ?_
                  exact ⟨HS.out.bel, .inl ⟨HT.out.trans (HF.out.bad hlt HQ.out), rfl⟩⟩
                · have hn : stp s k = some ((x, true), m + 1) := by rw [HS0.out, if_pos ⟨(at_is hm2).2 e4, hnm⟩]
                  have HF2 := hid (HF.out.next hlt hn)
                  have hkl := stp_lt hn hlt
                  clear e4 HS0 hn
                  go_wp2_with (first | (go_at_call 152; refine (HNM.out _).mono ?_; rintro e w2 ⟨rfl, hw2⟩; have hw3 := hw2.symm; clear hw2; subst hw3) | (go_at_call 90; refine (f90 x _ hxz).mono ?_; rintro e w2 ⟨rfl, hw2⟩; have hw3 := hw2.symm; clear hw2; subst hw3) | (at_builtin; first | (refine wpList_append_own _ rfl (.tmp 81) (.tmp 87) 50 rfl w.heap.size 9 i0 (.string ⟨#[]⟩) 1 16 Tryz.underlying50 hi hz0 hz1 hz2 rfl (by decide) _ _ _ rfl (HS.out.alloc _).row1 ⟨wr.heap.size, 0, none⟩ 1 1 [.string x] rfl rfl ?d1 ?d2 ?d3 ?d4 ?d5 ?_)))
                  case d1 => exact one_row _ _ _
                  case d2 => intro u hu; simp at hu; subst hu; rfl
                  case d3 => unfold maxLen; omega
                  case d4 => omega
                  case d5 => have := HS.out.bel.size; simp; omega
                  intro v3 w3 hown3 hgr3 _
                  obtain ⟨a3, c3, rfl⟩ := own_form' hown3
                  have HS3 := hid ((HS.out.alloc _).app1 hgr3 hown3)
                  clear hown3 hgr3
                  go_wp2_with (at_builtin; first | (refine wpList_append_own _ rfl (.tmp 89) (.tmp 90) 182 rfl w.heap.size 4 j0 (.bool false) 1 1 Tryz.underlying182 hj hy0 hy1 hy2 rfl (by decide) _ _ _ rfl (HS3.out.alloc _).row2 ⟨w3.heap.size, 0, none⟩ 1 1 [.bool true] rfl rfl ?e1 ?e2 ?e3 ?e4 ?e5 ?_))
                  case e1 => exact one_row _ _ _
                  case e2 => intro u hu; simp at hu; subst hu; rfl
                  case e3 => unfold maxLen; omega
                  case e4 => omega
                  case e5 => have := HS3.out.bel.size; simp; omega
                  intro v4 w4 hown4 hgr4 _
                  obtain ⟨a4, c4, rfl⟩ := own_form' hown4
                  have HS4 := hid ((HS3.out.alloc _).app2 hgr4 hown4)
                  clear hown4 hgr4
                  go_wp2
                  go_roundw
                  case rel => exact ⟨m + 1, ps ++ [(x, true)], a3, c3, a4, c4, by have := hkl.2.1; omega, by go_num, by simp, by simp, HF2, HS4.out.snoc⟩
                  case measure => simp [intOf]; omega
              · have e4' : ((s[m].toNat : Int) != 125) = true := byte_ne e4
                have HQ : Hid (stp s k = none) := by unfold Hid; rw [HS0.out, if_neg (fun e => e4 ((at_is hm2).1 e.1))]
                clear e4 HS0
                go_wp2_with (first | (go_at_call 152; refine (HNM.out _).mono ?_; rintro e w2 ⟨rfl, hw2⟩; have hw3 := hw2.symm; clear hw2; subst hw3) | (go_at_call 90; refine (f90 x _ hxz).mono ?_; rintro e w2 ⟨rfl, hw2⟩; have hw3 := hw2.symm; clear hw2; subst hw3))
                refine bodyPost_ret (results_tmp3 rfl _ _ _) rfl ?_
                exact ⟨HS.out.bel, .inl ⟨HT.out.trans (HF.out.bad hlt HQ.out), rfl⟩⟩
            · have HQ : Hid (stp s k = none) := by unfold Hid; rw [HS0.out, if_neg (fun e => hm2 (at_lt e.1))]
              have hm3 : (s.size : Int) ≤ (m : Int) := by omega
              clear HS0
              go_wp2_with (first | (go_at_call 152; refine (HNM.out _).mono ?_; rintro e w2 ⟨rfl, hw2⟩; have hw3 := hw2.symm; clear hw2; subst hw3) | (go_at_call 90; refine (f90 x _ hxz).mono ?_; rintro e w2 ⟨rfl, hw2⟩; have hw3 := hw2.symm; clear hw2; subst hw3))
              refine bodyPost_ret (results_tmp3 rfl _ _ _) rfl ?_
              exact ⟨HS.out.bel, .inl ⟨HT.out.trans (HF.out.bad hlt HQ.out), rfl⟩⟩
          · have HQ : Hid (stp s k = none) := by unfold Hid; rw [HS0.out, if_neg (fun e => by have := at_lt e.1; omega)]
            have hm4 : nmE (by' s) (k + 1) = s.size := by omega
            rw [hm4] at HNM
            clear e1 e2 hle hge hle' HS0 hm4 hxz
            go_wp2_with (go_at_call 152; refine (HNM.out _).mono ?_; rintro e w2 ⟨rfl, hw2⟩; have hw3 := hw2.symm; clear hw2; subst hw3)
            refine bodyPost_ret (results_tmp3 rfl _ _ _) rfl ?_
            exact ⟨HS.out.bel, .inl ⟨HT.out.trans (HF.out.bad hlt HQ.out), rfl⟩⟩
      · have e1' : ((s[k].toNat : Int) != 123) = true := byte_ne e1
        have hn : stp s k = some ((s.extract k (k + 1), false), k + 1) := by unfold stp; rw [if_neg (fun e => e1 ((at_is hlt).1 e))]
        have HF2 := hid (HF.out.next hlt hn)
        have hkl := stp_lt hn hlt
        have i1 : (k : Int) ≤ (k : Int) + 1 := by omega
        have i2 : (k : Int) + 1 ≤ (s.size : Int) := by omega
        have i3 : (0 : Int) ≤ (k : Int) := by omega
        obtain ⟨x, hx⟩ : ∃ x, x = s.extract k (k + 1) := ⟨_, rfl⟩
        rw [← hx] at HF2 hkl
        have hxx : s.extract k (k + 1) = x := hx.symm
        clear e1 hn hx
        go_wp2_with (first | (at_builtin; first | (refine wpList_append_own _ rfl (.tmp 27) (.tmp 33) 50 rfl w.heap.size 9 i0 (.string ⟨#[]⟩) 1 16 Tryz.underlying50 hi hz0 hz1 hz2 rfl (by decide) _ _ _ rfl (HS.out.alloc _).row1 ⟨wr.heap.size, 0, none⟩ 1 1 [.string x] rfl rfl ?zd1 ?zd2 ?zd3 ?zd4 ?zd5 ?_)))
        case zd2 => rfl
        case zd3 => unfold maxLen; omega
        case zd4 => omega
        case zd5 => have := HS.out.bel.size; simp; omega
        intro v3 w3 hown3 hgr3 _
        obtain ⟨a3, c3, rfl⟩ := own_form' hown3
        have HS3 := hid ((HS.out.alloc _).app1 hgr3 hown3)
        clear hown3 hgr3
        go_wp2_with (at_builtin; first | (refine wpList_append_own _ rfl (.tmp 35) (.tmp 36) 182 rfl w.heap.size 4 j0 (.bool false) 1 1 Tryz.underlying182 hj hy0 hy1 hy2 rfl (by decide) _ _ _ rfl (HS3.out.alloc _).row2 ⟨w3.heap.size, 0, none⟩ 1 1 [.bool false] rfl rfl ?ze1 ?ze2 ?ze3 ?ze4 ?ze5 ?_))
        case ze1 => exact one_row _ _ _
        case ze2 => intro u hu; simp at hu; subst hu; rfl
        case ze3 => unfold maxLen; omega
        case ze4 => omega
        case ze5 => have := HS3.out.bel.size; simp; omega
        intro v4 w4 hown4 hgr4 _
        obtain ⟨a4, c4, rfl⟩ := own_form' hown4
        have HS4 := hid ((HS3.out.alloc _).app2 hgr4 hown4)
        clear hown4 hgr4
        go_wp2
        go_roundw
        case rel => exact ⟨k + 1, ps ++ [(x, false)], a3, c3, a4, c4, by have := hkl.2.1; omega, by go_num, by simp, by simp, HF2, HS4.out.snoc⟩
        case measure => simp [intOf]; omega
    · go_wp2
      refine bodyPost_ret (results_tmp3 rfl _ _ _) rfl ?_
      have hd := HF.out.done (by omega)
      exact ⟨HS.out.bel, .inr ⟨ps, a1, c1, a2, c2, HT.out.trans hd, rfl, HS.out, by have := HF.out.2.1; omega, fun p hp => by have := HF.out.2.2 p hp; omega⟩⟩
theorem f93 (s : ByteArray) (w : World) (hs : s.size ≤ maxLen) : Calls Tryz.prog 93 #[.string s] w fun e w' => e = .returned (.bool (gdT s)) ∧ Below w.heap.size w w' := by
  have HG : Hid (gdT s = (tpl s).isSome) := rfl
  go_enter Tryz.func93, Tryz.ntmps93
  go_wp2_with (go_at_call 122; refine (f122 s _ hs).mono ?_; rintro e w1 ⟨hb, hc⟩; rcases hc with ⟨hn, rfl⟩ | ⟨ps, a1, c1, a2, c2, hn, rfl, _⟩)
  · go_ret
    exact ⟨ret_bool (by rw [HG.out, hn]; rfl), hb⟩
  · go_ret
    exact ⟨ret_bool (by rw [HG.out, hn]; rfl), hb⟩
end Go.Proofs.YtbdlahhejfamhaaGreatDoor.Tpl
