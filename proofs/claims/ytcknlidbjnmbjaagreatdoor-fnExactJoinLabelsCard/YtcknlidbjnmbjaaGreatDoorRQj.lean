/- Whether a target is good: l5Bare, both GoodTargets. -/
import Derived.Test.YtcknlidbjnmbjaaGreatDoorRQH
import Derived.Test.YtcknlidbjnmbjaaGreatDoorRQg
namespace Go.Proofs.YtcknlidbjnmbjaaGreatDoor.Tgt
open Go.RowKit Go.Proofs.YtcknlidbjnmbjaaGreatDoor.Fil Go.Proofs.YtcknlidbjnmbjaaGreatDoor.Rul
open Go.Proofs.YtcknlidbjnmbjaaGreatDoor.Lab (Lb HasL OfV goodL GoodP)

abbrev nmS : ByteArray := ⟨#[95, 110, 97, 109, 101]⟩
/-- Good labels with room for one more, and none under _name. -/
def Bare (ls : List Lb) : Prop := goodL ls = true ∧ ls.length < 20 ∧ OfV ls nmS ByteArray.empty
def GoodT (t : Tg) : Prop := Bare t.ls ∧ 1 ≤ t.ev ∧ t.ev ≤ 3600 ∧ 0 ≤ t.lm ∧ t.lm ≤ 1000 ∧ gdQ t.qs = true
/-- Says whether p holds. -/
def Says (p : Prop) (w : World) (e : Ending) (w' : World) : Prop := ∃ b : Bool, e = .returned (.bool b) ∧ (b = true ↔ p) ∧ Below w.heap.size w w'
theorem good_goodP {ls : List Lb} (h : goodL ls = true) : GoodP ls := of_decide_eq_true h
theorem empty_iff {v : ByteArray} : v.toList.isEmpty = true ↔ v = ByteArray.empty := by
  rw [ByteArray.toList_eq]
  constructor
  · intro h
    have h1 : v.data.toList = [] := by simpa using h
    exact ByteArray.ext (Array.toList_inj.1 h1)
  · rintro rfl; rfl
theorem bare_val {ls : List Lb} {v : ByteArray} (h1 : goodL ls = true) (h2 : ls.length < 20) (hv : OfV ls nmS v) : Bare ls ↔ v.toList.isEmpty = true := by
  rw [empty_iff]
  constructor
  · intro h; exact hv.uniq h.2.2
  · rintro rfl; exact ⟨h1, h2, hv⟩
set_option maxHeartbeats 2000000 in
theorem f30 (a : Option Addr) (c : Nat) (ls : List Lb) (w : World) (hr : HasL w a ls) (hf : Lab.Fit ls) (hn : ls.length ≤ 1048576) :
    Calls Tryz.prog 30 #[.slice a ls.length c] w (Says (Bare ls) w) := by
  have HR := hid hr
  have HF := hid hf
  clear hr hf
  generalize hN : ls.length = n at *
  have HN := hid hN
  clear hN
  go_enter Tryz.func30, Tryz.ntmps30
  go_wp2_with fail
  refine (Lab.f18 a n c ls _ HN.out (by unfold maxLen; omega) HR.out HF.out).mono ?_
  rintro e w1 ⟨rfl, hb1⟩
  have HB1 := hid hb1
  clear hb1
  cases hg : goodL ls
  · have HG := hid hg
    go_wp2
    go_ret
    exact ⟨false, rfl, ⟨fun h => (by cases h), fun h => by have := h.1; rw [HG.out] at this; cases this⟩, HB1.out⟩
  have HG := hid hg
  by_cases h20 : n < 20
  rotate_left
  · go_wp2
    go_ret
    exact ⟨false, rfl, ⟨fun h => (by cases h), fun h => by have := h.2.1; rw [HN.out] at this; exact absurd this h20⟩, HB1.out⟩
  go_wp2_with fail
  refine (Lab.f35 a n c ls _ _ HN.out (by omega) (HR.out.below HB1.out)).mono ?_
  rintro e w2 ⟨v, hv, rfl, hb2⟩
  have HB2 := hid (HB1.out.trans (hb2.mono HB1.out.size))
  have HV := hid (bare_val HG.out (by rw [HN.out]; exact h20) hv)
  clear hv hb2
  cases q : v.toList.isEmpty
  · go_wp2
    go_ret
    exact ⟨false, rfl, by rw [HV.out, q], HB2.out⟩
  · go_wp2
    go_ret
    exact ⟨true, rfl, by rw [HV.out, q], HB2.out⟩
/-- A target in its box. -/
structure To (w : World) (t : Tg) (x : World) : Prop where
  box : x.heap[w.heap.size]? = some (.cells (clT t) 33)
  has : Has x t
  bel : Below w.heap.size w x
theorem To.below {w : World} {t : Tg} {x y : World} (h : To w t x) (hb : Below x.heap.size x y) : To w t y := ⟨kept h.box hb, h.has.below hb, h.bel.trans (hb.mono h.bel.size)⟩
theorem To.new {w : World} {t : Tg} (h : Has w t) : To w t (w.alloc (.cells (clT t) 33)) := by
  have hb := (Below.refl w.heap.size w).alloc (Nat.le_refl _) (.cells (clT t) 33)
  exact ⟨heap_alloc_new w _, h.below hb, hb⟩
set_option maxHeartbeats 4000000 in
theorem f17 (t : Tg) (w : World) (hr : Has w t) (hf : FitG t) (hz : Sml t) :
    Calls Tryz.prog 17 #[agT t] w (Says (GoodT t) w) := by
  obtain ⟨ls, la, lc, ev, lm, ho, qs, ra, rc⟩ := t
  have H0 := hid (To.new hr)
  have HF := hid hf
  have HZ := hid hz
  clear hr hf hz
  go_enter Tryz.func17, Tryz.ntmps17
  go_wp2_with fail
  refine (f30 la lc ls _ H0.out.has.lab HF.out.lab HZ.out.ln).mono ?_
  rintro e w1 ⟨b, rfl, hb, hb1⟩
  have H1 := hid (H0.out.below hb1)
  clear hb1 H0
  obtain ⟨b0, b1, b2, b3, b4⟩ := cells5 H1.out.box
  have HP := hid hb
  clear hb
  cases b
  · go_wp2
    go_ret
    exact ⟨false, rfl, ⟨fun h => (by cases h), fun h => by have := HP.out.2 h.1; cases this⟩, H1.out.bel⟩
  by_cases h1 : 1 ≤ ev
  rotate_left
  · go_wp2
    go_ret
    exact ⟨false, rfl, ⟨fun h => (by cases h), fun h => by have q := h.2.1; simp only at q; omega⟩, H1.out.bel⟩
  by_cases h2 : ev ≤ 3600
  rotate_left
  · go_wp2
    go_ret
    exact ⟨false, rfl, ⟨fun h => (by cases h), fun h => by have q := h.2.2.1; simp only at q; omega⟩, H1.out.bel⟩
  by_cases h3 : 0 ≤ lm
  rotate_left
  · go_wp2
    go_ret
    exact ⟨false, rfl, ⟨fun h => (by cases h), fun h => by have q := h.2.2.2.1; simp only at q; omega⟩, H1.out.bel⟩
  by_cases h4 : lm ≤ 1000
  rotate_left
  · go_wp2
    go_ret
    exact ⟨false, rfl, ⟨fun h => (by cases h), fun h => by have q := h.2.2.2.2.1; simp only at q; omega⟩, H1.out.bel⟩
  go_wp2_with fail
  refine (Rul.f31 ra qs.length rc qs _ rfl HZ.out.qn H1.out.has.rul HZ.out.rul).mono ?_
  rintro e w2 ⟨rfl, hb2⟩
  have H2 := hid (H1.out.below hb2)
  clear hb2 H1 b0 b1 b2 b3 b4
  go_wp2
  go_ret
  exact ⟨gdQ qs, rfl, ⟨fun h => ⟨HP.out.1 (by first | rfl | trivial), h1, h2, h3, h4, h⟩, fun h => h.2.2.2.2.2⟩, H2.out.bel⟩
set_option maxHeartbeats 4000000 in
theorem f22 (t : Tg) (w : World) (hr : Has w t) (hf : FitG t) (hz : Sml t) (ht : Rel.Tab w) :
    Calls Tryz.prog 22 #[agT t] w (Says (GoodT t) w) := by
  obtain ⟨ls, la, lc, ev, lm, ho, qs, ra, rc⟩ := t
  have H0 := hid (To.new hr)
  have HF := hid hf
  have HZ := hid hz
  have HT := hid ht
  clear hr hf hz ht
  by_cases h20 : ls.length < 20
  rotate_left
  · obtain ⟨b0, b1, b2, b3, b4⟩ := cells5 H0.out.box
    go_enter Tryz.func22, Tryz.ntmps22
    go_wp2
    go_ret
    exact ⟨false, rfl, ⟨fun h => (by cases h), fun h => absurd h.1.2.1 h20⟩, H0.out.bel⟩
  go_enter Tryz.func22, Tryz.ntmps22
  go_wp2_with fail
  refine (Lab.f23 la ls.length lc ls _ rfl HF.out.ln H0.out.has.lab HF.out.lab).mono ?_
  rintro e w1 ⟨rfl, hb1⟩
  have H1 := hid (H0.out.below hb1)
  clear hb1 H0
  obtain ⟨b0, b1, b2, b3, b4⟩ := cells5 H1.out.box
  cases hg : goodL ls
  · have HG := hid hg
    go_wp2
    go_ret
    exact ⟨false, rfl, ⟨fun h => (by cases h), fun h => by have := h.1.1; rw [HG.out] at this; cases this⟩, H1.out.bel⟩
  have HG := hid hg
  go_wp2_with fail
  refine (Lab.f38 la ls.length lc ls _ _ rfl (good_goodP HG.out) H1.out.has.lab).mono ?_
  rintro e w2 ⟨v, hv, rfl, hb2⟩
  have H2 := hid (H1.out.below hb2)
  have HV := hid (bare_val HG.out h20 hv)
  clear hb2 hv H1 b0 b1 b2 b3 b4
  obtain ⟨b0, b1, b2, b3, b4⟩ := cells5 H2.out.box
  cases q : v.toList.isEmpty
  · have HNB : Hid (¬ Bare ls) := fun h => by have := HV.out.1 h; rw [q] at this; cases this
    go_wp2
    go_ret
    exact ⟨false, rfl, ⟨fun h => (by cases h), fun h => absurd h.1 HNB.out⟩, H2.out.bel⟩
  have HBa := hid (HV.out.2 q)
  by_cases h1 : 1 ≤ ev
  rotate_left
  · have h1' : ev < 1 := by omega
    go_wp2
    go_ret
    exact ⟨false, rfl, ⟨fun h => (by cases h), fun h => by have q := h.2.1; simp only at q; omega⟩, H2.out.bel⟩
  have h1' : ¬ ev < 1 := by omega
  by_cases h2 : ev ≤ 3600
  rotate_left
  · have h2' : 3600 < ev := by omega
    go_wp2
    go_ret
    exact ⟨false, rfl, ⟨fun h => (by cases h), fun h => by have q := h.2.2.1; simp only at q; omega⟩, H2.out.bel⟩
  have h2' : ¬ 3600 < ev := by omega
  by_cases h3 : 0 ≤ lm
  rotate_left
  · have h3' : lm < 0 := by omega
    go_wp2
    go_ret
    exact ⟨false, rfl, ⟨fun h => (by cases h), fun h => by have q := h.2.2.2.1; simp only at q; omega⟩, H2.out.bel⟩
  have h3' : ¬ lm < 0 := by omega
  by_cases h4 : lm ≤ 1000
  rotate_left
  · have h4' : 1000 < lm := by omega
    go_wp2
    go_ret
    exact ⟨false, rfl, ⟨fun h => (by cases h), fun h => by have q := h.2.2.2.2.1; simp only at q; omega⟩, H2.out.bel⟩
  have h4' : ¬ 1000 < lm := by omega
  have HTb := hid (HT.out.below H2.out.bel)
  go_wp2_with fail
  refine (Rul.f39 ra qs.length rc qs _ rfl HZ.out.qn H2.out.has.rul HZ.out.rul HF.out.rul HTb.out).mono ?_
  rintro e w3 ⟨⟨V, rfl⟩, hb3⟩
  have H3 := hid (H2.out.below hb3)
  clear hb3 H2 b0 b1 b2 b3 b4 HTb
  go_wp2
  go_ret
  exact ⟨gdQ qs, rfl, ⟨fun h => ⟨HBa.out, h1, h2, h3, h4, h⟩, fun h => h.2.2.2.2.2⟩, H3.out.bel⟩
end Go.Proofs.YtcknlidbjnmbjaaGreatDoor.Tgt
