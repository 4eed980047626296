/- The program's reader of texts: what sign and word come to. -/
import Derived.Test.YtpeffjkagaegjaaDoorMna
import Derived.Lib.BufferOwn
import Derived.Deep.RegionHeld3
import Derived.Lib.Strings
namespace Go.Proofs.YtpeffjkagaegjaaDoor.Rdd
open Go.RowKit Go.Proofs.YtpeffjkagaegjaaDoor.Pat
abbrev mkS (l : List UInt8) : ByteArray := ⟨l.toArray⟩

theorem two0 {w : World} {b : Nat} {u v : Value} {t : TypeId} (h : w.heap[b]? = some (.cells #[u, v] t (0, 0))) : w.cell? ⟨b, 0, none⟩ = some u := by simp [World.cell?, h]
theorem two1 {w : World} {b : Nat} {u v : Value} {t : TypeId} (h : w.heap[b]? = some (.cells #[u, v] t (0, 0))) : w.cell? ⟨b, 1, none⟩ = some v := by simp [World.cell?, h]
theorem lt_block {w : World} {k : Nat} {o : Obj} (h : w.heap[k]? = some o) : k < w.heap.size := (Array.getElem?_eq_some_iff.1 h).1
theorem box_alloc {w : World} {k : Nat} {o : Obj} (h : w.heap[k]? = some o) (u : Obj) : (w.alloc u).heap[k]? = some o := (Below.heap_alloc w u k (lt_block h)).trans h
abbrev by' (s : ByteArray) : List UInt8 := s.data.toList
/-- The place behind the name that begins at 'i'. -/
def nmE (l : List UInt8) (i : Nat) : Nat := i + ((l.drop i).takeWhile nbC).length
theorem drop_cons {l : List UInt8} {i : Nat} {c : UInt8} (h : l[i]? = some c) : l.drop i = c :: l.drop (i + 1) := by
  obtain ⟨hi, rfl⟩ := List.getElem?_eq_some_iff.1 h
  exact List.drop_eq_getElem_cons hi
theorem nmE_step {l : List UInt8} {i : Nat} {c : UInt8} (h : l[i]? = some c) (hc : nbC c = true) : nmE l i = nmE l (i + 1) := by
  unfold nmE
  rw [drop_cons h, List.takeWhile_cons_of_pos hc]
  simp; omega
theorem nmE_stop {l : List UInt8} {i : Nat} {c : UInt8} (h : l[i]? = some c) (hc : nbC c = false) : nmE l i = i := by
  unfold nmE
  rw [drop_cons h, List.takeWhile_cons_of_neg (by simp [hc])]
  simp
theorem nmE_end {l : List UInt8} {i : Nat} (h : l.length ≤ i) : nmE l i = i := by
  unfold nmE
  rw [List.drop_of_length_le h]
  simp
theorem nmE_ge (l : List UInt8) (i : Nat) : i ≤ nmE l i := by unfold nmE; omega
theorem nmE_le {l : List UInt8} {i : Nat} (h : i ≤ l.length) : nmE l i ≤ l.length := by
  unfold nmE
  have : ((l.drop i).takeWhile nbC).length ≤ (l.drop i).length := (List.takeWhile_prefix _).length_le
  simp at this
  omega

/-- The reader at block R stands at the place t of the text s. -/
def Rdr (R : Nat) (s : ByteArray) (t : Nat) (w : World) : Prop := w.heap[R]? = some (.cells #[.string s, .int .i64 t] 50 (0, 0)) ∧ t ≤ s.size
abbrev SR (R : Nat) (s : ByteArray) (t : Nat) (w w' : World) : Prop := w'.cell? ⟨R, 0, none⟩ = some (.string s) ∧ w'.cell? ⟨R, 1, none⟩ = some (.int .i64 t) ∧ w'.heap[R]? = some (.cells #[.string s, .int .i64 t] 50 (0, 0)) ∧ w.grownBy w' (some R)
theorem SR.drew {R : Nat} {s : ByteArray} {t : Nat} {w w' : World} (h : SR R s t w w') : SR R s t w w'.drew := by
  obtain ⟨h1, h2, h3, h4⟩ := h
  exact ⟨h1, h2, h3, ⟨h4.os, h4.tape, h4.output, h4.size, h4.block⟩⟩
theorem SR.refl {R : Nat} {s : ByteArray} {t : Nat} {w : World} (h : Rdr R s t w) : SR R s t w w := ⟨two0 h.1, two1 h.1, h.1, World.grownBy.refl _ _⟩
theorem two_set1 {w : World} {b : Nat} {u v v' : Value} {t : TypeId} (h : w.heap[b]? = some (.cells #[u, v] t (0, 0))) : (w.setCell ⟨b, 1, none⟩ v').heap[b]? = some (.cells #[u, v'] t (0, 0)) := by
  have hlt := lt_block h
  have h' : w.heap[b] = .cells #[u, v] t (0, 0) := by simpa [Array.getElem?_eq_getElem hlt] using h
  show (w.heap.modify b _)[b]? = _
  rw [Array.getElem?_eq_getElem (by simpa using hlt), Array.getElem_modify_self, h']
  rfl
theorem two_frz {w : World} {b o : Nat} {u v : Value} {t : TypeId} (h : w.heap[b]? = some (.cells #[u, v] t (0, 0))) : w.frozen? ⟨b, o, none⟩ = false := by simp [World.frozen?, h]

/-- The first byte of u is c. -/
def hd0 (u : ByteArray) (c : UInt8) : Bool := decide (u.data.toList[0]? = some c)
theorem hd0_take (u : ByteArray) (c : UInt8) (h0 : 1 ≤ u.size) : ((u.extract 0 1).toList == [c]) = hd0 u c := by
  rw [ByteArray.toList_eq, Lib.extract_data]
  unfold hd0
  have hl : 1 ≤ u.data.toList.length := by simpa using h0
  cases e : u.data.toList with
  | nil => rw [e] at hl; simp at hl
  | cons x r => rw [Bool.eq_iff_iff]; simp
theorem hd0_none (u : ByteArray) (c : UInt8) (h0 : ¬ 1 ≤ u.size) : hd0 u c = false := by
  unfold hd0
  have hl : u.data.toList.length = 0 := by
    have e : u.data.toList.length = u.size := by simp
    omega
  rw [List.length_eq_zero_iff.1 hl]; simp
theorem hd0_at (s : ByteArray) (t : Nat) (c : UInt8) : hd0 (s.extract t s.size) c = decide ((by' s)[t]? = some c) := by
  unfold hd0
  rw [Lib.extract_data, List.take_of_length_le (by simp), List.getElem?_drop, Nat.add_zero]
theorem f46 (u : ByteArray) (c : UInt8) (w : World) (hu : u.size ≤ 1048576) : Calls Tryd.prog 46 #[.string u, .string ⟨#[c]⟩] w fun e w' => e = .returned (.bool (hd0 u c)) ∧ w' = w := by
  have h1 : (⟨#[c]⟩ : ByteArray).size = 1 := rfl
  by_cases h0 : 1 ≤ u.size
  · have HE := hid (hd0_take u c h0)
    go_enter Tryd.func46, Tryd.ntmps46
    go_wp2
    go_ret
    exact ⟨ret_bool HE.out, rfl⟩
  · have HE := hid (hd0_none u c h0)
    go_enter Tryd.func46, Tryd.ntmps46
    go_wp2
    go_ret
    exact ⟨ret_bool HE.out.symm, rfl⟩
theorem ext_size {s : ByteArray} {t : Nat} (hs : s.size ≤ 1048576) : (s.extract t s.size).size ≤ 1048576 := by
  rw [ByteArray.size_extract]; omega
set_option maxHeartbeats 1000000 in
theorem f38y (R : Nat) (s : ByteArray) (t : Nat) (c : UInt8) (w : World) (hs : s.size ≤ 1048576) (h : Rdr R s t w) (hc : (by' s)[t]? = some c) : Calls Tryd.prog 38 #[.pointer (some ⟨R, 0, none⟩), .string ⟨#[c]⟩] w fun e w' => e = .returned (.bool true) ∧ Rdr R s (t + 1) w' ∧ w.grownBy w' (some R) := by
  have HR := hid (SR.refl h)
  have ht := h.2
  have i0 : (0 : Int) ≤ (t : Int) := by omega
  have i1 : (t : Int) ≤ (s.size : Int) := by omega
  have hh : hd0 (s.extract t s.size) c = true := by rw [hd0_at s t c]; exact decide_eq_true hc
  have HT : Hid (t + 1 ≤ s.size) := by
    have := (List.getElem?_eq_some_iff.1 hc).1
    simp at this; exact this
  have h1 : (⟨#[c]⟩ : ByteArray).size = 1 := rfl
  clear h hc
  go_enter Tryd.func38, Tryd.ntmps38
  go_wp2_with fail
  go_region_held3 (fun w' => SR R s t w w') (first | exact HR.out.drew | exact SR.drew (by assumption) | assumption) (first | (go_at_call 46; refine (f46 _ c _ (ext_size hs)).mono ?_; rintro e w' ⟨rfl, rfl⟩))
  have hx : SR R s t w w.drew := HR.out.drew
  have r1 := hx.2.1
  have rf := two_frz (o := 1) hx.2.2.1
  go_wp2
  go_ret
  refine ⟨rfl, ⟨two_set1 hx.2.2.1, HT.out⟩, Lib.grownBy_setB hx.2.2.2 1 _⟩
set_option maxHeartbeats 1000000 in
theorem f38n (R : Nat) (s : ByteArray) (t : Nat) (c : UInt8) (w : World) (hs : s.size ≤ 1048576) (h : Rdr R s t w) (hc : (by' s)[t]? ≠ some c) : Calls Tryd.prog 38 #[.pointer (some ⟨R, 0, none⟩), .string ⟨#[c]⟩] w fun e w' => e = .returned (.bool false) ∧ Rdr R s t w' ∧ w.grownBy w' (some R) := by
  have HR := hid (SR.refl h)
  have ht := h.2
  have i0 : (0 : Int) ≤ (t : Int) := by omega
  have i1 : (t : Int) ≤ (s.size : Int) := by omega
  have hh : hd0 (s.extract t s.size) c = false := by rw [hd0_at s t c]; exact decide_eq_false hc
  have h1 : (⟨#[c]⟩ : ByteArray).size = 1 := rfl
  clear h hc
  go_enter Tryd.func38, Tryd.ntmps38
  go_wp2_with fail
  go_region_held3 (fun w' => SR R s t w w') (first | exact HR.out.drew | exact SR.drew (by assumption) | assumption) (first | (go_at_call 46; refine (f46 _ c _ (ext_size hs)).mono ?_; rintro e w' ⟨rfl, rfl⟩))
  have hx : SR R s t w w.drew := HR.out.drew
  go_wp2
  go_ret
  exact ⟨rfl, ⟨hx.2.2.1, ht⟩, hx.2.2.2⟩

/-- Where the reader at block R stands. -/
def posOf (R : Nat) (w : World) : Nat := match w.cell? ⟨R, 1, none⟩ with | some (.int _ z) => z.toNat | _ => 0
theorem posOf_eq {R t : Nat} {s : ByteArray} {w : World} (h : Rdr R s t w) : posOf R w = t := by unfold posOf; rw [two1 h.1]; simp
theorem at_byte (s : ByteArray) (k : Nat) (h : k < s.size) : (by' s)[k]? = some s[k] := by
  have h' : k < s.data.toList.length := by simpa using h
  rw [List.getElem?_eq_getElem h']; rfl
set_option maxHeartbeats 2000000 in
theorem f39 (R : Nat) (s : ByteArray) (t : Nat) (w : World) (hs : s.size ≤ 1048576) (h : Rdr R s t w) : Calls Tryd.prog 39 #[.pointer (some ⟨R, 0, none⟩)] w fun e w' => e = .returned (.string (s.extract t (nmE (by' s) t))) ∧ Rdr R s (nmE (by' s) t) w' ∧ w.grownBy w' (some R) := by
  have r1 := two1 h.1
  have HR := hid h
  have ht := h.2
  clear h
  go_enter Tryd.func39, Tryd.ntmps39
  go_wp2
  go_loopw [] (fun wr => ∃ k : Nat, t ≤ k ∧ k ≤ s.size ∧ Hid (nmE (by' s) t = nmE (by' s) k) ∧ Hid (Rdr R s k wr) ∧ Hid (w.grownBy wr (some R))) (fun wr => s.size - posOf R wr)
  case atStart => exact ⟨t, Nat.le_refl _, ht, rfl, HR, World.grownBy.refl _ _⟩
  case round =>
    obtain ⟨k, hk1, hk2, HN, HK, HG⟩ := hrel
    have HS := hid (SR.refl HK.out)
    have i0 : (0 : Int) ≤ (k : Int) := by omega
    have HP := hid (posOf_eq HK.out)
    by_cases hlt : k < s.size
    · have i1 : (k : Int) < (s.size : Int) := by omega
      have HA := hid (at_byte s k hlt)
      by_cases hb : nbB (s[k].toNat : Int) = true
      · have HE := hid (nmE_step HA.out hb)
        go_wp2_with fail
        go_region_held3 (fun w' => SR R s k wr w') (first | exact HS.out.drew | exact SR.drew (by assumption) | assumption) (first | (go_at_call 41; refine (f41 _ _).mono ?_; rintro e w' ⟨rfl, rfl⟩))
        have hx : SR R s k wr wr.drew := HS.out.drew
        have r1' := hx.2.1
        have rf := two_frz (o := 1) hx.2.2.1
        have HR2 : Hid (Rdr R s (k + 1) (wr.drew.setCell ⟨R, 1, none⟩ (.int .i64 ((k : Int) + 1)))) := ⟨two_set1 hx.2.2.1, by omega⟩
        have HG2 := hid (Lib.grownBy_trans HG.out (Lib.grownBy_setB hx.2.2.2 1 (.int .i64 ((k : Int) + 1))))
        have HP2 := hid (posOf_eq HR2.out)
        go_wp2
        go_roundw
        case rel => exact ⟨k + 1, by omega, by omega, HN.out.trans HE.out, HR2, HG2⟩
        case measure => rw [HP.out]; exact Nat.lt_of_le_of_lt (Nat.le_of_eq (congrArg (fun z => s.size - z) HP2.out)) (by omega)
      · have hb' : nbB (s[k].toNat : Int) = false := by simpa using hb
        have HE := hid (nmE_stop HA.out hb')
        clear hb
        go_wp2_with fail
        go_region_held3 (fun w' => SR R s k wr w') (first | exact HS.out.drew | exact SR.drew (by assumption) | assumption) (first | (go_at_call 41; refine (f41 _ _).mono ?_; rintro e w' ⟨rfl, rfl⟩))
        have hx : SR R s k wr wr.drew := HS.out.drew
        have HG2 := hid (Lib.grownBy_trans HG.out hx.2.2.2)
        have i2 : (k : Int) ≤ (s.size : Int) := by omega
        have i3 : (t : Int) ≤ (k : Int) := by omega
        have i4 : (0 : Int) ≤ (t : Int) := by omega
        go_wp2_with fail
        go_region_held3 (fun w' => SR R s k wr w') (first | exact hx.drew | exact SR.drew (by assumption) | assumption) (first | fail)
        have hx2 : SR R s k wr wr.drew.drew := hx.drew
        go_wp2
        go_ret
        rw [HN.out, HE.out]
        exact ⟨rfl, ⟨hx2.2.2.1, hk2⟩, Lib.grownBy_trans HG.out hx2.2.2.2⟩
    · have HE := hid (nmE_end (l := by' s) (i := k) (by simp; omega))
      have i1 : ¬ (k : Int) < (s.size : Int) := by omega
      have hx : SR R s k wr wr.drew := HS.out.drew
      have g0 := hx.1
      have g1 := hx.2.1
      have g2 := HS.out.1
      have g3 := HS.out.2.1
      go_wp2_with fail
      go_region
      all_goals
        have i2 : (k : Int) ≤ (s.size : Int) := by omega
        have i3 : (t : Int) ≤ (k : Int) := by omega
        have i4 : (0 : Int) ≤ (t : Int) := by omega
        go_wp2_with fail
        go_region_held3 (fun w' => SR R s k wr w') (first | exact hx.drew | exact SR.drew (by assumption) | assumption) (first | fail)
        have hx2 : SR R s k wr wr.drew.drew := hx.drew
        go_wp2
        go_ret
        rw [HN.out, HE.out]
        exact ⟨rfl, ⟨hx2.2.2.1, hk2⟩, Lib.grownBy_trans HG.out hx2.2.2.2⟩
/-- A text begins with v. -/
def pfx (l : List UInt8) (v : ByteArray) : Bool := decide (l.take v.size = v.data.toList)
theorem pfx_take (u v : ByteArray) : ((u.extract 0 v.size).toList == v.toList) = pfx u.data.toList v := by
  rw [ByteArray.toList_eq, ByteArray.toList_eq, Lib.extract_data]
  unfold pfx
  rw [Bool.eq_iff_iff]; simp
theorem pfx_short (u v : ByteArray) (h : ¬ v.size ≤ u.size) : pfx u.data.toList v = false := by
  unfold pfx
  refine decide_eq_false fun e => h ?_
  have := congrArg List.length e
  simp at this
  omega
def pfxU (u v : ByteArray) : Bool := pfx u.data.toList v
theorem f46g (u v : ByteArray) (w : World) (_hu : u.size ≤ 1048576) (_hv : v.size ≤ 1000) : Calls Tryd.prog 46 #[.string u, .string v] w fun e w' => e = .returned (.bool (pfxU u v)) ∧ w' = w := by
  by_cases h0 : v.size ≤ u.size
  · have HE := hid (pfx_take u v)
    go_enter Tryd.func46, Tryd.ntmps46
    go_wp2
    go_ret
    exact ⟨ret_bool HE.out, rfl⟩
  · have HE := hid (pfx_short u v h0)
    go_enter Tryd.func46, Tryd.ntmps46
    go_wp2
    go_ret
    exact ⟨ret_bool HE.out.symm, rfl⟩
theorem ext_drop (s : ByteArray) (t : Nat) : (s.extract t s.size).data.toList = (by' s).drop t := by
  rw [Lib.extract_data, List.take_of_length_le (by simp)]
theorem pfx_fits {s v : ByteArray} {t : Nat} (h : pfx ((by' s).drop t) v = true) (ht : t ≤ s.size) : t + v.size ≤ s.size := by
  unfold pfx at h
  have := congrArg List.length (of_decide_eq_true h)
  simp at this
  omega
set_option maxHeartbeats 1000000 in
theorem f38g (R : Nat) (s v : ByteArray) (t : Nat) (w : World) (hs : s.size ≤ 1048576) (hv : v.size ≤ 100) (h : Rdr R s t w) (hc : pfx ((by' s).drop t) v = true) : Calls Tryd.prog 38 #[.pointer (some ⟨R, 0, none⟩), .string v] w fun e w' => e = .returned (.bool true) ∧ Rdr R s (t + v.size) w' ∧ w.grownBy w' (some R) := by
  have HR := hid (SR.refl h)
  have ht := h.2
  have i0 : (0 : Int) ≤ (t : Int) := by omega
  have i1 : (t : Int) ≤ (s.size : Int) := by omega
  have hh : pfxU (s.extract t s.size) v = true := by unfold pfxU; rw [ext_drop]; exact hc
  have HT := hid (pfx_fits hc ht)
  clear h hc
  go_enter Tryd.func38, Tryd.ntmps38
  go_wp2_with fail
  go_region_held3 (fun w' => SR R s t w w') (first | exact HR.out.drew | exact SR.drew (by assumption) | assumption) (first | (go_at_call 46; refine (f46g _ v _ (ext_size hs) (by omega)).mono ?_; rintro e w' ⟨rfl, rfl⟩))
  have hx : SR R s t w w.drew := HR.out.drew
  have r1 := hx.2.1
  have rf := two_frz (o := 1) hx.2.2.1
  go_wp2
  go_ret
  refine ⟨rfl, ⟨?_, HT.out⟩, Lib.grownBy_setB hx.2.2.2 1 _⟩
  rw [show ((t + v.size : Nat) : Int) = (t : Int) + (v.size : Int) from by omega]
  exact two_set1 (v' := .int .i64 ((t : Int) + (v.size : Int))) hx.2.2.1
set_option maxHeartbeats 1000000 in
theorem f38h (R : Nat) (s v : ByteArray) (t : Nat) (w : World) (hs : s.size ≤ 1048576) (hv : v.size ≤ 100) (h : Rdr R s t w) (hc : pfx ((by' s).drop t) v = false) : Calls Tryd.prog 38 #[.pointer (some ⟨R, 0, none⟩), .string v] w fun e w' => e = .returned (.bool false) ∧ Rdr R s t w' ∧ w.grownBy w' (some R) := by
  have HR := hid (SR.refl h)
  have ht := h.2
  have i0 : (0 : Int) ≤ (t : Int) := by omega
  have i1 : (t : Int) ≤ (s.size : Int) := by omega
  have hh : pfxU (s.extract t s.size) v = false := by unfold pfxU; rw [ext_drop]; exact hc
  clear h hc
  go_enter Tryd.func38, Tryd.ntmps38
  go_wp2_with fail
  go_region_held3 (fun w' => SR R s t w w') (first | exact HR.out.drew | exact SR.drew (by assumption) | assumption) (first | (go_at_call 46; refine (f46g _ v _ (ext_size hs) (by omega)).mono ?_; rintro e w' ⟨rfl, rfl⟩))
  have hx : SR R s t w w.drew := HR.out.drew
  go_wp2
  go_ret
  exact ⟨rfl, ⟨hx.2.2.1, ht⟩, hx.2.2.2⟩
end Go.Proofs.YtpeffjkagaegjaaDoor.Rdd
