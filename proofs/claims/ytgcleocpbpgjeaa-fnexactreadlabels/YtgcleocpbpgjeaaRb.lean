/- The program's ReadLabels: what readBraced and it come to. -/
import Derived.Test.YtgcleocpbpgjeaaRs
namespace Go.Proofs.Ytgcleocpbpgjeaa.Lab
open Go.RowKit Go.Proofs.Ytgcleocpbpgjeaa.Str

theorem below_box {w w' : World} {o : Obj} (h : (w.alloc o).grownBy w' (some w.heap.size)) : Below w.heap.size w w' := by
  have hs : w.heap.size ≤ w'.heap.size := by have := h.size; simp at this; omega
  refine ⟨h.os, h.tape, h.output, hs, fun k hk => ?_⟩
  rw [h.block k (by simp; omega) (by simp; omega)]
  exact Below.heap_alloc w o k hk
theorem below_drew {b : Nat} {w w' : World} (h : Below b w w') : Below b w w'.drew := ⟨h.os, h.tape, h.output, h.size, h.block⟩
theorem own_drew {w : World} {base e size n : Nat} {v : Value} {xs : List Value} (h : w.ownsRow base e size v n xs) : w.drew.ownsRow base e size v n xs := own_below h (below_drew (Below.refl _ _))
/-- What the call of readBraced leaves. -/
def BrcR (s : ByteArray) (w : World) (e : Ending) (w' : World) : Prop :=
  Below w.heap.size w w' ∧ ((brc s = none ∧ ∃ a n c, e = .returned (.tuple #[.slice a n c, .bool false])) ∨
    ∃ ls a c, brc s = some ls ∧ e = .returned (.tuple #[.slice a ls.length c, .bool true]) ∧ w'.ownsRow (w.heap.size + 1) 32 2 (.slice a ls.length c) ls.length (flat ls) ∧ ls.length ≤ s.size ∧ Sz s.size ls)

set_option maxHeartbeats 4000000 in
theorem f10 (s : ByteArray) (w : World) (hs : s.size ≤ 1048576) : Calls Try.prog 10 #[.string s, .func (.func 11) #[] #[]] w (BrcR s w) := by
  have HR : Hid (Rdr w.heap.size s 0 (w.alloc (.cells #[.string s, .int .i64 (0 : Nat)] 42))) := ⟨heap_alloc_new w _, Nat.zero_le _⟩
  have HB := hid (brc_lst s)
  go_enter Try.func10, Try.ntmps10
  go_wp2_with fail
  refine (f18 w.heap.size s 0 _ hs HR.out).mono ?_
  rintro e w1 ⟨hg1, h1⟩
  have HW1 := hid (below_box hg1)
  rcases h1 with ⟨hn, rfl⟩ | ⟨ls, k, a, c, hl, rfl, hls, hlen, hsz⟩
  · have HN : Hid (brc s = none) := by unfold Hid; rw [HB.out, hn]; rfl
    clear hg1 hn HR HB
    go_wp2_with fail
    go_region
    go_wp2
    go_ret2
    exact ⟨below_drew HW1.out, .inl ⟨HN.out, _, _, _, rfl⟩⟩
  · have HS := hid hls
    have HZ := hid hsz
    have HRW := hid (SR.refl hls.rdr)
    have HD := hid (below_drew HW1.out)
    clear hg1 HR hls hsz
    by_cases he : k = s.size
    · have HN : Hid (brc s = some ls) := by unfold Hid; rw [HB.out, hl]; simp [he]
      have e1 : ((k : Int) == (s.size : Int)) = true := by simp; omega
      clear hl HB he
      go_wp2_with fail
      go_region_held3 (fun w' => SR w.heap.size s k w1 w') (first | exact HRW.out.drew | exact SR.drew (by assumption) | assumption) (first | fail)
      go_wp2
      go_ret2
      exact ⟨HD.out, .inr ⟨ls, a, c, HN.out, rfl, own_drew (by have := HS.out.row; simpa using this), hlen, HZ.out⟩⟩
    · have HN : Hid (brc s = none) := by unfold Hid; rw [HB.out, hl]; simp [he]
      have e1 : ((k : Int) == (s.size : Int)) = false := by simp; omega
      clear hl HB he
      go_wp2_with fail
      go_region_held3 (fun w' => SR w.heap.size s k w1 w') (first | exact HRW.out.drew | exact SR.drew (by assumption) | assumption) (first | fail)
      go_wp2
      go_ret2
      exact ⟨HD.out, .inl ⟨HN.out, _, _, _, rfl⟩⟩

/-- What both calls of ReadLabels leave. -/
def RlR (s : ByteArray) (w : World) (e : Ending) (w' : World) : Prop :=
  ∃ a c, e = .returned (.tuple #[.slice a ((readF s).getD []).length c, .bool (readF s).isSome]) ∧ w'.ownsRow w.heap.size 32 2 (.slice a ((readF s).getD []).length c) ((readF s).getD []).length (flat ((readF s).getD [])) ∧ ((readF s).getD []).length ≤ 20 ∧ Below w.heap.size w w'
theorem rlR_none {s : ByteArray} {w w' : World} (h : readF s = none) (hb : Below w.heap.size w w') : RlR s w (.returned (.tuple #[.slice none 0 0, .bool false])) w' := by
  refine ⟨none, 0, ?_, ?_, ?_, hb⟩
  · rw [h]; rfl
  · rw [h]; exact World.ownsRow_nil _ _ _ _
  · rw [h]; simp
theorem rlR_some {s : ByteArray} {w w' : World} {ls : List Lb} {a : Option Addr} {c b : Nat} (h : readF s = some ls) (hg : goodL ls = true) (hb : Below w.heap.size w w') (hw : w.heap.size ≤ b) (ho : w'.ownsRow b 32 2 (.slice a ls.length c) ls.length (flat ls)) : RlR s w (.returned (.tuple #[.slice a ls.length c, .bool true])) w' := by
  refine ⟨a, c, ?_, ?_, ?_, hb⟩
  · rw [h]; rfl
  · rw [h]; exact own_base ho hw
  · rw [h]; exact (good_iff hg).1

set_option maxHeartbeats 4000000 in
theorem f5 (s : ByteArray) (w : World) (hs : s.size ≤ 1048576) : Calls Try.prog 5 #[.string s] w (RlR s w) := by
  go_enter Try.func5, Try.ntmps5
  go_wp2_with fail
  refine (f10 s _ hs).mono ?_
  rintro e w1 ⟨hb1, h1⟩
  rcases h1 with ⟨hn, a, n, c, rfl⟩ | ⟨ls, a, c, hl, rfl, ho, hlen, hsz⟩
  · have HN : Hid (readF s = none) := by unfold Hid readF; rw [hn]; rfl
    have HB := hid hb1
    clear hb1 hn
    go_wp2
    go_ret2
    exact rlR_none HN.out HB.out
  · have HB := hid hb1
    have HO := hid ho
    have HR : Hid (HasL w1 a ls) := HasL.owno ho
    have HF : Hid (Fit ls) := hsz.fit (by unfold maxLen; omega)
    have HL := hid hl
    clear hb1 ho hsz hl
    go_wp2_with fail
    refine (f12 a ls.length c ls _ rfl (by unfold maxLen; omega) HR.out HF.out).mono ?_
    rintro e w2 ⟨rfl, hb2⟩
    have HB2 := hid (HB.out.trans (hb2.mono HB.out.size))
    have HO2 := hid (own_below HO.out hb2)
    by_cases hg : goodL ls = true
    · have HN : Hid (readF s = some ls) := by unfold Hid readF; rw [HL.out]; simp [hg]
      have HG := hid hg
      rw [hg]
      clear hg hb2
      go_wp2
      go_ret2
      exact rlR_some HN.out HG.out HB2.out (by omega) HO2.out
    · have HN : Hid (readF s = none) := by unfold Hid readF; rw [HL.out]; simp [hg]
      have hg' : goodL ls = false := by simpa using hg
      rw [hg']
      clear hg hg' hb2
      go_wp2
      go_ret2
      exact rlR_none HN.out HB2.out
end Go.Proofs.Ytgcleocpbpgjeaa.Lab
