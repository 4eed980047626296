/- The program's words: names with a comma between. -/
import Derived.Test.YtbijhkbmgljjiaaGreatDoorVd
namespace Go.Proofs.YtbijhkbmgljjiaaGreatDoor.Rdd
open Go.RowKit Go.Proofs.YtbijhkbmgljjiaaGreatDoor.Pat

/-- More words, each behind a comma; so many at most. -/
def wt : Nat → List UInt8 → List (List UInt8) × List UInt8
  | 0, l => ([], l)
  | n + 1, l => match Rel.sgn [44] l with
    | none => ([], l)
    | some r => ((Rel.wrd r).1 :: (wt n (Rel.wrd r).2).1, (wt n (Rel.wrd r).2).2)
theorem wrds_wt : ∀ (n : Nat) (l : List UInt8), Rel.wrds n l = ((Rel.wrd l).1 :: (wt n (Rel.wrd l).2).1, (wt n (Rel.wrd l).2).2)
  | 0, l => rfl
  | n + 1, l => by
    rw [Rel.wrds, wt]
    cases h : Rel.sgn [44] (Rel.wrd l).2 with
    | none => rfl
    | some r => simp only [wrds_wt n r]
theorem wt_none {n : Nat} {l : List UInt8} (h : Rel.sgn [44] l = none) : wt n l = ([], l) := by
  cases n with
  | zero => rfl
  | succ n => rw [wt, h]
theorem wt_some {n : Nat} {l r : List UInt8} (h : Rel.sgn [44] l = some r) : wt (n + 1) l = ((Rel.wrd r).1 :: (wt n (Rel.wrd r).2).1, (wt n (Rel.wrd r).2).2) := by
  rw [wt, h]
theorem sgn_len {l r : List UInt8} (h : Rel.sgn [44] l = some r) : r.length + 1 = l.length := by
  unfold Rel.sgn at h
  split at h
  · rename_i hp
    rw [List.isPrefixOf_iff_prefix] at hp
    have h1 := hp.length_le
    have := congrArg List.length (Option.some.inj h)
    simp at this h1
    omega
  · cases h
theorem wrd_len (l : List UInt8) : (Rel.wrd l).1.length + (Rel.wrd l).2.length = l.length := by
  have := congrArg List.length (List.takeWhile_append_dropWhile (p := nbC) (l := l))
  rw [List.length_append] at this
  exact this
theorem Rd.left {R : Nat} {s : ByteArray} {l : List UInt8} {w : World} (h : Rd R s l w) : s.size - posOf R w = l.length ∧ l.length ≤ s.size := by
  obtain ⟨t, h1, rfl⟩ := h
  rw [posOf_eq h1]
  simp
theorem own_kept {w w' : World} {base e size n R : Nat} {v : Value} {xs : List Value} (h : w.ownsRow base e size v n xs) (hg : w.grownBy w' (some R)) (hR : R < base) : w'.ownsRow base e size v n xs := by
  refine h.kept hg ?_
  cases hv : v.ownBlock with
  | none => exact .inl rfl
  | some g => have := (h.lt g hv).1; exact .inr (by simp; omega)
theorem Rd.lt {R : Nat} {s : ByteArray} {l : List UInt8} {w : World} (h : Rd R s l w) : R < w.heap.size := by
  obtain ⟨t, h1, _⟩ := h
  exact lt_block h1.1
theorem Rd.alloc {R : Nat} {s : ByteArray} {l : List UInt8} {w : World} (h : Rd R s l w) (o : Obj) : Rd R s l (w.alloc o) := by
  obtain ⟨t, h1, h2⟩ := h
  exact ⟨t, ⟨box_alloc h1.1 _, h1.2⟩, h2⟩
/-- A reader at block R and a row of texts that were read, in a world that came from w0. -/
structure Ls (R : Nat) (s : ByteArray) (w0 : World) (l : List UInt8) (acc : List ByteArray) (a : Option Addr) (c : Nat) (w : World) : Prop where
  rdr : Rd R s l w
  row : w.ownsRow w0.heap.size 9 1 (.slice a acc.length c) acc.length (acc.map Value.string)
  grw : w0.grownBy w (some R)
  lt : R < w0.heap.size
theorem Ls.moved {R : Nat} {s : ByteArray} {w0 w w' : World} {l l' : List UInt8} {acc : List ByteArray} {a : Option Addr} {c : Nat} (h : Ls R s w0 l acc a c w) (hr : Rd R s l' w') (hg : w.grownBy w' (some R)) : Ls R s w0 l' acc a c w' :=
  ⟨hr, own_kept h.row hg h.lt, Lib.grownBy_trans h.grw hg, h.lt⟩
theorem Ls.alloc {R : Nat} {s : ByteArray} {w0 w : World} {l : List UInt8} {acc : List ByteArray} {a : Option Addr} {c : Nat} (h : Ls R s w0 l acc a c w) (o : Obj) : Ls R s w0 l acc a c (w.alloc o) :=
  ⟨h.rdr.alloc _, h.row.alloc _, Lib.grownBy_allocR h.grw _, h.lt⟩
theorem Ls.app {R : Nat} {s : ByteArray} {w0 w w' : World} {l : List UInt8} {acc acc' : List ByteArray} {a a' : Option Addr} {c c' : Nat} (h : Ls R s w0 l acc a c w) (hg : w.grownBy w' (Value.slice a acc.length c).ownBlock) (ho : w'.ownsRow w0.heap.size 9 1 (.slice a' acc'.length c') acc'.length (acc'.map Value.string)) : Ls R s w0 l acc' a' c' w' := by
  have hb : ∀ j, j < w0.heap.size → w'.heap[j]? = w.heap[j]? := fun j hj => hg.block j (Nat.lt_of_lt_of_le hj h.grw.size) (fun e => by have := (h.row.lt j e.symm).1; omega)
  refine ⟨?_, ho, ?_, h.lt⟩
  · obtain ⟨t, h1, h2⟩ := h.rdr
    exact ⟨t, ⟨(hb R h.lt).trans h1.1, h1.2⟩, h2⟩
  exact ⟨hg.os.trans h.grw.os, hg.tape.trans h.grw.tape, hg.output.trans h.grw.output, Nat.le_trans h.grw.size hg.size, fun j hj hr => (hb j hj).trans (h.grw.block j hj hr)⟩
theorem mk_len (l : List UInt8) : (mkS l).size = l.length := by simp [ByteArray.size]

/-- What the call of words leaves. -/
def WsR (R : Nat) (s : ByteArray) (l : List UInt8) (w : World) (e : Ending) (w' : World) : Prop :=
  ∃ acc l' a c, Rel.wrds s.size l = (acc.map (·.data.toList), l') ∧ e = .returned (.slice a acc.length c) ∧ Ls R s w l' acc a c w' ∧ 1 ≤ acc.length ∧ acc.length ≤ l.length + 1 ∧ ∀ x ∈ acc, x.size ≤ s.size

set_option maxHeartbeats 4000000 in
theorem f36 (R : Nat) (s : ByteArray) (l : List UInt8) (w : World) (hs : s.size ≤ 1048576) (h : Rd R s l w) : Calls Tryz.prog 36 #[.pointer (some ⟨R, 0, none⟩)] w (WsR R s l w) := by
  obtain ⟨i0, hi, hz0, hz1, hz2⟩ := info_parts Fil.info9
  have hRw : R < w.heap.size := h.lt
  have HR := hid h
  have HL := hid h.left.2
  have hs2 : s.size ≤ 1048576 := by omega
  clear h
  have HW := hid (wrds_wt s.size l)
  have HN := hid (wrd_len l)
  go_enter Tryz.func36, Tryz.ntmps36
  go_wp2_with fail
  refine (f34L R s l _ hs2 HR.out).mono ?_
  rintro e w1 ⟨rfl, hr1, hg1⟩
  have H1 : Hid (Ls R s w (Rel.wrd l).2 [mkS (Rel.wrd l).1] (some ⟨w1.heap.size, 0, none⟩) 1 (w1.alloc (.cells #[.string (mkS (Rel.wrd l).1)] 9))) :=
    ⟨hr1.alloc _, own_new w1 _ 9 _ hg1.size, Lib.grownBy_allocR hg1 _, hRw⟩
  clear hr1 hg1
  go_wp2
  go_loopw [3] (fun so wr => ∃ (m : Nat) (l' : List UInt8) (acc : List ByteArray) (a : Option Addr) (c : Nat), so = .slice a acc.length c ∧ Hid (Rel.wrds s.size l = (acc.map (·.data.toList) ++ (wt m l').1, (wt m l').2)) ∧ Hid (Ls R s w l' acc a c wr) ∧ l'.length ≤ m ∧ acc.length + l'.length ≤ l.length + 1 ∧ 1 ≤ acc.length ∧ Hid (∀ x ∈ acc, x.size ≤ s.size)) (fun _ wr => s.size - posOf R wr)
  case atStart =>
    refine ⟨s.size, _, _, _, _, rfl, ?_, H1, ?_, ?_, ?_, ?_⟩
    · unfold Hid; rw [HW.out]; rfl
    · have := HN.out; have := HL.out; omega
    · have := HN.out; have := HL.out; simp; omega
    · simp
    · intro x hx; simp at hx; subst hx; rw [mk_len]; have := HN.out; have := HL.out; omega
  case round =>
    obtain ⟨m, l', acc, a, c, rfl, HM, HS, hm, hal, h1, HX⟩ := hrel
    have HP := hid HS.out.rdr.left
    cases hq : Rel.sgn [44] l' with
    | none =>
      have HT := hid (wt_none (n := m) hq)
      have HQ := hid hq
      clear hq
      go_wp2_with fail
      refine (f35N R s ⟨#[44]⟩ l' _ hs2 (by decide) HS.out.rdr HQ.out).mono ?_
      rintro e w2 ⟨rfl, hr2, hg2⟩
      have HS2 := hid (HS.out.moved hr2 hg2)
      clear hr2 hg2
      go_wp2
      go_ret
      refine ⟨acc, l', a, c, ?_, rfl, HS2.out, h1, by omega, HX.out⟩
      rw [HM.out, HT.out]; simp
    | some r =>
      have hsl := sgn_len hq
      have hwl := wrd_len r
      obtain ⟨m', rfl⟩ : ∃ m', m = m' + 1 := ⟨m - 1, by omega⟩
      have HT := hid (wt_some (n := m') hq)
      have HQ := hid hq
      clear hq
      go_wp2_with fail
      refine (f35Y R s ⟨#[44]⟩ l' r _ hs2 (by decide) HS.out.rdr HQ.out).mono ?_
      rintro e w2 ⟨rfl, hr2, hg2⟩
      have HS2 := hid (HS.out.moved hr2 hg2)
      clear hr2 hg2
      go_wp2_with fail
      refine (f34L R s r _ hs2 HS2.out.rdr).mono ?_
      rintro e w3 ⟨rfl, hr3, hg3⟩
      have HS3 := hid (HS2.out.moved hr3 hg3)
      clear hr3 hg3
      generalize hu : (Rel.wrd r).1 = u at *
      generalize hl2 : (Rel.wrd r).2 = l2 at *
      go_wp2_with (at_builtin; refine wpList_append_own _ rfl (.tmp 9) (.tmp 12) 22 rfl w.heap.size 9 i0 (.string ByteArray.empty) 1 16 Tryz.underlying22 hi hz0 hz1 hz2 rfl (by decide) _ _ _ rfl (HS3.out.row.alloc _) ⟨w3.heap.size, 0, none⟩ 1 1 [.string (mkS u)] rfl rfl ?d1 ?d2 ?d3 ?d4 ?d5 ?_)
      case d1 => exact one_row _ _ _
      case d2 => intro x hx; simp at hx; subst hx; rfl
      case d3 => unfold maxLen; have := HL.out; omega
      case d4 => have := HL.out; omega
      case d5 => have := HS3.out.grw.size; simp; omega
      intro v1 w4 hown1 hgr1 _
      obtain ⟨a2, c2, rfl⟩ := own_form hown1
      have HS4 : Hid (Ls R s w l2 (acc ++ [mkS u]) a2 c2 w4) := by
        refine (HS3.out.alloc _).app hgr1 ?_
        rw [List.length_append, List.map_append]
        exact hown1
      have HP4 := hid HS4.out.rdr.left
      clear hown1 hgr1
      go_wp2
      go_roundw
      case rel =>
        refine ⟨m', l2, acc ++ [mkS u], a2, c2, by simp, ?_, HS4, by omega, by simp; omega, by simp, ?_⟩
        · unfold Hid; rw [HM.out, HT.out]; simp
        · intro x hx
          rcases List.mem_append.1 hx with h3 | h3
          · exact HX.out x h3
          · simp at h3; subst h3; rw [mk_len]; have := HL.out; omega
      case measure => rw [HP.out.1]; exact Nat.lt_of_le_of_lt (Nat.le_of_eq HP4.out.1) (by omega)
end Go.Proofs.YtbijhkbmgljjiaaGreatDoor.Rdd
