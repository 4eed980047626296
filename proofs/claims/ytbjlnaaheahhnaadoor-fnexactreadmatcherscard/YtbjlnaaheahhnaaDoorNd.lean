/- The program's ReadMatchers: what readBraced and it come to. -/
import Derived.Test.YtbjlnaaheahhnaaDoorNc
namespace Go.Proofs.YtbjlnaaheahhnaaDoor.Lab
open Go.RowKit Go.Proofs.YtbjlnaaheahhnaaDoor.Str

theorem hasM_own {w : World} {base n c : Nat} {a : Option Addr} {ms : List Pat.Mt} (h : w.ownsRow base 37 3 (.slice a n c) n (Pat.flatM ms)) : Pat.HasM w a ms := by
  rcases own_cases h with ⟨rfl, rfl, rfl⟩ | ⟨g, rfl⟩
  · refine .inl (List.eq_nil_of_length_eq_zero ?_)
    have := h.1
    rw [Pat.flatM_len] at this
    omega
  · exact Pat.HasM.own h
/-- What the call of readBraced leaves. -/
def BrcRM (s : ByteArray) (w : World) (e : Ending) (w' : World) : Prop :=
  Below w.heap.size w w' ∧ ((brcM s = none ∧ ∃ a n c, e = .returned (.tuple #[.slice a n c, .bool false])) ∨
    ∃ ls a c, brcM s = some ls ∧ e = .returned (.tuple #[.slice a ls.length c, .bool true]) ∧ w'.ownsRow (w.heap.size + 1) 37 3 (.slice a ls.length c) ls.length (Pat.flatM ls) ∧ ls.length ≤ s.size ∧ SzM s.size ls)

set_option maxHeartbeats 4000000 in
theorem f23 (s : ByteArray) (w : World) (hs : s.size ≤ 1048576) (hg0 : Pat.Sgn w) : Calls Tryd.prog 23 #[.string s, .func (.func 24) #[] #[]] w (BrcRM s w) := by
  have HR : Hid (Rdr w.heap.size s 0 (w.alloc (.cells #[.string s, .int .i64 (0 : Nat)] 59))) := ⟨heap_alloc_new w _, Nat.zero_le _⟩
  have HB := hid (brc_lstM s)
  have HSG := hid (hg0.below ((Below.refl w.heap.size w).alloc (Nat.le_refl _) (.cells #[.string s, .int .i64 (0 : Nat)] 59)))
  have hpos := hg0.1
  clear hg0
  go_enter Tryd.func23, Tryd.ntmps23
  go_wp2_with fail
  refine (f37 w.heap.size s 0 _ hs HR.out hpos HSG.out).mono ?_
  rintro e w1 ⟨hg1, h1⟩
  have HW1 := hid (below_box hg1)
  rcases h1 with ⟨hn, rfl⟩ | ⟨ls, k, a, c, hl, rfl, hls, hlen, hsz⟩
  · have HN : Hid (brcM s = none) := by unfold Hid; rw [HB.out, hn]; rfl
    clear hg1 hn HR HB
    go_wp2_with fail
    go_region
    go_wp2
    go_ret2
    exact ⟨below_drew HW1.out, .inl ⟨HN.out, _, _, _, rfl⟩⟩
  · have HS := hid hls
    have HZ := hid hsz
    have HRW := hid (SR.refl hls.rdr)
    have HD := hid (below_drew HW1.out)
    clear hg1 HR hls hsz
    by_cases he : k = s.size
    · have HN : Hid (brcM s = some ls) := by unfold Hid; rw [HB.out, hl]; simp [he]
      have e1 : ((k : Int) == (s.size : Int)) = true := by simp; omega
      clear hl HB he
      go_wp2_with fail
      go_region_held3 (fun w' => SR w.heap.size s k w1 w') (first | exact HRW.out.drew | exact SR.drew (by assumption) | assumption) (first | fail)
      go_wp2
      go_ret2
      exact ⟨HD.out, .inr ⟨ls, a, c, HN.out, rfl, own_drew (by have := HS.out.row; simpa using this), hlen, HZ.out⟩⟩
    · have HN : Hid (brcM s = none) := by unfold Hid; rw [HB.out, hl]; simp [he]
      have e1 : ((k : Int) == (s.size : Int)) = false := by simp; omega
      clear hl HB he
      go_wp2_with fail
      go_region_held3 (fun w' => SR w.heap.size s k w1 w') (first | exact HRW.out.drew | exact SR.drew (by assumption) | assumption) (first | fail)
      go_wp2
      go_ret2
      exact ⟨HD.out, .inl ⟨HN.out, _, _, _, rfl⟩⟩

/-- What both calls of ReadLabels leave. -/
def RlRM (s : ByteArray) (w : World) (e : Ending) (w' : World) : Prop :=
  ∃ a c, e = .returned (.tuple #[.slice a ((readMF s).getD []).length c, .bool (readMF s).isSome]) ∧ w'.ownsRow w.heap.size 37 3 (.slice a ((readMF s).getD []).length c) ((readMF s).getD []).length (Pat.flatM ((readMF s).getD [])) ∧ ((readMF s).getD []).length ≤ 10 ∧ Below w.heap.size w w'
theorem rlR_noneM {s : ByteArray} {w w' : World} (h : readMF s = none) (hb : Below w.heap.size w w') : RlRM s w (.returned (.tuple #[.slice none 0 0, .bool false])) w' := by
  refine ⟨none, 0, ?_, ?_, ?_, hb⟩
  · rw [h]; rfl
  · rw [h]; exact World.ownsRow_nil _ _ _ _
  · rw [h]; simp
theorem rlR_someM {s : ByteArray} {w w' : World} {ls : List Pat.Mt} {a : Option Addr} {c b : Nat} (h : readMF s = some ls) (hg : Pat.goodM ls = true) (hb : Below w.heap.size w w') (hw : w.heap.size ≤ b) (ho : w'.ownsRow b 37 3 (.slice a ls.length c) ls.length (Pat.flatM ls)) : RlRM s w (.returned (.tuple #[.slice a ls.length c, .bool true])) w' := by
  refine ⟨a, c, ?_, ?_, ?_, hb⟩
  · rw [h]; rfl
  · rw [h]; exact own_base ho hw
  · rw [h]; exact (of_decide_eq_true hg : Pat.GoodMP ls).1

set_option maxHeartbeats 4000000 in
theorem f11 (s : ByteArray) (w : World) (hs : s.size ≤ 1048576) (hg0 : Pat.Sgn w) : Calls Tryd.prog 11 #[.string s] w (RlRM s w) := by
  go_enter Tryd.func11, Tryd.ntmps11
  go_wp2_with fail
  refine (f23 s _ hs hg0).mono ?_
  rintro e w1 ⟨hb1, h1⟩
  rcases h1 with ⟨hn, a, n, c, rfl⟩ | ⟨ls, a, c, hl, rfl, ho, hlen, hsz⟩
  · have HN : Hid (readMF s = none) := by unfold Hid readMF; rw [hn]; rfl
    have HB := hid hb1
    clear hb1 hn
    go_wp2
    go_ret2
    exact rlR_noneM HN.out HB.out
  · have HB := hid hb1
    have HO := hid ho
    have HR : Hid (Pat.HasM w1 a ls) := hasM_own ho
    have HF : Hid (Pat.FitM ls) := hsz.fit (by unfold maxLen; omega)
    have HL := hid hl
    clear hb1 ho hsz hl
    go_wp2_with fail
    refine (Pat.f18 a ls.length c ls _ rfl (by unfold maxLen; omega) HR.out HF.out).mono ?_
    rintro e w2 ⟨rfl, hb2⟩
    have HB2 := hid (HB.out.trans (hb2.mono HB.out.size))
    have HO2 := hid (own_below HO.out hb2)
    by_cases hg : Pat.goodM ls = true
    · have HN : Hid (readMF s = some ls) := by unfold Hid readMF; rw [HL.out]; simp [hg]
      have HG := hid hg
      rw [hg]
      clear hg hb2
      go_wp2
      go_ret2
      exact rlR_someM HN.out HG.out HB2.out (by omega) HO2.out
    · have HN : Hid (readMF s = none) := by unfold Hid readMF; rw [HL.out]; simp [hg]
      have hg' : Pat.goodM ls = false := by simpa using hg
      rw [hg']
      clear hg hg' hb2
      go_wp2
      go_ret2
      exact rlR_noneM HN.out HB2.out
end Go.Proofs.YtbjlnaaheahhnaaDoor.Lab
