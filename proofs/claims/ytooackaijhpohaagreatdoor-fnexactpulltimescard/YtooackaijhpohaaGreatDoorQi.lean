/- Targets: toTarget. -/
import Derived.Test.YtooackaijhpohaaGreatDoorQh
import Derived.Test.YtooackaijhpohaaGreatDoorQc
namespace Go.Proofs.YtooackaijhpohaaGreatDoor.Tgt
open Go.RowKit Go.Proofs.YtooackaijhpohaaGreatDoor.Fil Go.Proofs.YtooackaijhpohaaGreatDoor.Rul
open Go.Proofs.YtooackaijhpohaaGreatDoor.Lab (Lb HasL)

theorem putN_labels {g : Nat} {a : Option Addr} {ls : List Lb} (hp : ∀ x, a = some x → x.block ≠ g) (vs : List Value) (w : World) (o : Nat) (h : HasL w a ls) : HasL (putN w g o vs) a ls := by
  rcases h with h | ⟨b, off, rfl, h2, h3⟩
  · exact .inl h
  · refine .inr ⟨b, off, rfl, by rw [putN_size]; exact h2, fun i hi => ?_⟩
    rw [putN_cell (p := ⟨b, off + i * 2, none⟩) (hp ⟨b, off, none⟩ rfl), putN_cell (p := ⟨b, off + i * 2 + 1, none⟩) (hp ⟨b, off, none⟩ rfl)]
    exact h3 i hi
theorem five_set {w : World} {b : Nat} {x0 x1 x2 x3 x4 : Value} {t : TypeId} (h : w.heap[b]? = some (.cells #[x0, x1, x2, x3, x4] t)) (i : Nat) (v : Value) : (w.setCell ⟨b, i, none⟩ v).heap[b]? = some (.cells (#[x0, x1, x2, x3, x4].setIfInBounds i v) t) := by
  have hlt := lt_at h
  have h' : w.heap[b] = .cells #[x0, x1, x2, x3, x4] t := by simpa [Array.getElem?_eq_getElem hlt] using h
  show (w.heap.modify b _)[b]? = _
  rw [Array.getElem?_eq_getElem (by simpa using hlt), Array.getElem_modify_self, h']
  rfl
theorem five4 {w : World} {b : Nat} {x0 x1 x2 x3 x4 : Value} {t : TypeId} (h : w.heap[b]? = some (.cells #[x0, x1, x2, x3, x4] t)) (y0 y1 y2 y3 : Value) : (putN w b 0 [y0, y1, y2, y3]).heap[b]? = some (.cells #[y0, y1, y2, y3, x4] t) :=
  five_set (x2 := y2) (five_set (x1 := y1) (five_set (x0 := y0) (five_set h 0 y0) 1 y1) 2 y2) 3 y3
theorem five5 {w : World} {b : Nat} {x0 x1 x2 x3 x4 : Value} {t : TypeId} (h : w.heap[b]? = some (.cells #[x0, x1, x2, x3, x4] t)) (y0 y1 y2 y3 y4 : Value) : (putN w b 0 [y0, y1, y2, y3, y4]).heap[b]? = some (.cells #[y0, y1, y2, y3, y4] t) :=
  five_set (x3 := y3) (five_set (x2 := y2) (five_set (x1 := y1) (five_set (x0 := y0) (five_set h 0 y0) 1 y1) 2 y2) 3 y3) 4 y4
abbrev Z5 : Obj := .cells #[.slice none 0 0, .int .i64 0, .int .i64 0, .bool false, .slice none 0 0] 31
set_option maxHeartbeats 4000000 in
theorem f8 (t : Tg) (w : World) (hr : Has w t) (hz : Sml t) :
    Calls Tryz.prog 8 #[agT t] w fun e w' => ∃ t' : Tg, e = .returned (agT t') ∧ Same t t' ∧ Has w' t' ∧ Below w.heap.size w w' := by
  obtain ⟨ls, la, lc, ev, lm, ho, qs, ra, rc⟩ := t
  have HR := hid hr
  have HZ := hid hz
  clear hr hz
  obtain ⟨W, hW⟩ : ∃ W, W = ((w.alloc (.cells (clT ⟨ls, la, lc, ev, lm, ho, qs, ra, rc⟩) 25)).alloc Z5).alloc Z5 := ⟨_, rfl⟩
  have HWb : Hid (Below w.heap.size w W ∧ W.heap[w.heap.size]? = some (.cells (clT ⟨ls, la, lc, ev, lm, ho, qs, ra, rc⟩) 25) ∧ W.heap[w.heap.size + 1]? = some Z5 ∧ W.heap[w.heap.size + 1 + 1]? = some Z5 ∧ W.heap.size = w.heap.size + 1 + 1 + 1) := by
    subst hW
    obtain ⟨k1, k2, k3⟩ := Rel.three_new w (.cells (clT ⟨ls, la, lc, ev, lm, ho, qs, ra, rc⟩) 25) Z5 Z5
    exact ⟨(((Below.refl w.heap.size w).alloc (Nat.le_refl _) _).alloc (by simp) _).alloc (by simp; omega) _, k1, k2, k3, by simp⟩
  go_enter Tryz.func8, Tryz.ntmps8
  go_wp2_with fail
  rw [← hW]
  refine (Lab.f23 la ls.length lc ls _ rfl HZ.out.ln (HR.out.lab.below HWb.out.1)).mono ?_
  rintro e w1 ⟨rfl, ho1, hb1⟩
  have HL1 := hid (Lab.HasL.own ho1)
  have HB1 := hid (HWb.out.1.trans (hb1.mono HWb.out.1.size))
  have HA1 := hid (kept HWb.out.2.1 hb1)
  have HC1 := hid (kept HWb.out.2.2.2.1 hb1)
  have HD1 := hid (kept HWb.out.2.2.1 hb1)
  have HSZ := hid HWb.out.2.2.2.2
  clear ho1 hb1 hW HWb
  generalize hWS : W.heap.size = S at *
  clear hWS
  obtain ⟨b0, b1, b2, b3, b4⟩ := cells5 HA1.out
  obtain ⟨c0, c1, c2, c3, c4⟩ := cells5 HC1.out
  have rf0 := five_frz (o := 0) HC1.out
  have rf1 := five_frz (o := 1) HC1.out
  have rf2 := five_frz (o := 2) HC1.out
  have rf3 := five_frz (o := 3) HC1.out
  go_wp2_with fail
  have hsz := HSZ.out
  obtain ⟨w2, hw2⟩ : ∃ w2, w2 = putN w1 (w.heap.size + 1 + 1) 0 [.slice (some ⟨S, 0, none⟩) ls.length ls.length, .int .i64 ev, .int .i64 lm, .bool ho] := ⟨_, rfl⟩
  have HB2 : Hid (Below w.heap.size w w2) := by rw [hw2]; exact putN_below (by omega) _ _ _ HB1.out
  have HC2 : Hid (w2.heap[w.heap.size + 1 + 1]? = some (.cells #[.slice (some ⟨S, 0, none⟩) ls.length ls.length, .int .i64 ev, .int .i64 lm, .bool ho, .slice none 0 0] 31)) := by rw [hw2]; exact five4 HC1.out _ _ _ _
  have HD2 : Hid (w2.heap[w.heap.size + 1]? = some Z5) := by rw [hw2]; exact (putN_block (by omega) _ _ _).trans HD1.out
  have HL2 : Hid (HasL w2 (some ⟨S, 0, none⟩) ls) := by rw [hw2]; exact putN_labels (by rintro x e; cases e; simp only; omega) _ _ _ HL1.out
  have hS2 : S ≤ w2.heap.size := by
    rcases HL1.out with h | ⟨b, off, h1, h2, _⟩
    · rw [hw2, putN_size]; exact Nat.le_trans (by omega) (lt_at HC1.out)
    · rw [hw2, putN_size]; cases h1; omega
  show Calls Tryz.prog 24 _ (putN w1 (w.heap.size + 1 + 1) 0 [.slice (some ⟨S, 0, none⟩) ls.length ls.length, .int .i64 ev, .int .i64 lm, .bool ho]) _
  rw [← hw2]
  refine (Rul.f24 ra qs.length rc qs w2 rfl HZ.out.qn (HR.out.rul.below HB2.out) HZ.out.rul).mono ?_
  rintro e w3 ⟨qs', rfl, hn3, hs3, ha3, hr3, hb3⟩
  have HB3 := hid (HB2.out.trans (hb3.mono HB2.out.size))
  have HC3 := hid (kept HC2.out hb3)
  have HD3 := hid (kept HD2.out hb3)
  have HL3 := hid (HL2.out.below hb3)
  have HR3 := hid hr3
  have HS3 := hid hs3
  have HA3 := hid ha3
  have HN3 := hid hn3
  have hlt2 : w.heap.size + 1 + 1 < w2.heap.size := lt_at HC2.out
  clear hb3 hr3 hs3 ha3 hn3 HC2 HD2 HL2 HL1 HB1 HA1 HC1 HD1 b0 b1 b2 b3 b4 c0 c1 c2 c3 c4 rf0 rf1 rf2 rf3 hw2 HB2 hsz
  generalize hWS : w2.heap.size = S2 at *
  clear hWS
  obtain ⟨c0, c1, c2, c3, c4⟩ := cells5 HC3.out
  obtain ⟨z0, z1, z2, z3, z4⟩ := cells5 HD3.out
  have rf4 := five_frz (o := 4) HC3.out
  have rg0 := five_frz (o := 0) HD3.out
  have rg1 := five_frz (o := 1) HD3.out
  have rg2 := five_frz (o := 2) HD3.out
  have rg3 := five_frz (o := 3) HD3.out
  have rg4 := five_frz (o := 4) HD3.out
  have HE : Hid (∀ wf, wf = putN (w3.setCell ⟨w.heap.size + 1 + 1, 4, none⟩ (.slice (some ⟨S2, 0, none⟩) qs.length qs.length)) (w.heap.size + 1) 0 [.slice (some ⟨S, 0, none⟩) ls.length ls.length, .int .i64 ev, .int .i64 lm, .bool ho, .slice (some ⟨S2, 0, none⟩) qs.length qs.length] →
      wf.heap[w.heap.size + 1]? = some (.cells #[.slice (some ⟨S, 0, none⟩) ls.length ls.length, .int .i64 ev, .int .i64 lm, .bool ho, .slice (some ⟨S2, 0, none⟩) qs.length qs.length] 31) ∧ Has wf ⟨ls, some ⟨S, 0, none⟩, ls.length, ev, lm, ho, qs', some ⟨S2, 0, none⟩, qs.length⟩ ∧ Below w.heap.size w wf) := by
    rintro wf rfl
    have hsz := HSZ.out
    have e4 : w3.setCell ⟨w.heap.size + 1 + 1, 4, none⟩ (.slice (some ⟨S2, 0, none⟩) qs.length qs.length) = putN w3 (w.heap.size + 1 + 1) 4 [.slice (some ⟨S2, 0, none⟩) qs.length qs.length] := rfl
    have hq1 : ∀ g, g ≤ w.heap.size + 1 + 1 → ∀ x, (some ⟨S2, 0, none⟩ : Option Addr) = some x → x.block ≠ g := by rintro g hg x e; cases e; simp only; omega
    have hq0 : ∀ g, g ≤ w.heap.size + 1 + 1 → ∀ x, (some ⟨S, 0, none⟩ : Option Addr) = some x → x.block ≠ g := by rintro g hg x e; cases e; simp only; omega
    have hq2 : ∀ g, g ≤ w.heap.size + 1 + 1 → ∀ i, i < qs'.length → ∀ x, (qs'.getD i q0).a = some x → x.block ≠ g := fun g hg i hi x e => by
      have := HA3.out i (by rw [← HN3.out]; exact hi) x e; omega
    refine ⟨?_, ⟨?_, ?_⟩, ?_⟩
    · refine five5 (x0 := .slice none 0 0) (x1 := .int .i64 0) (x2 := .int .i64 0) (x3 := .bool false) (x4 := .slice none 0 0) ?_ _ _ _ _ _
      rw [e4, putN_block (by omega)]; exact HD3.out
    · rw [e4]; exact putN_labels (hq0 _ (by omega)) _ _ _ (putN_labels (hq0 _ (by omega)) _ _ _ HL3.out)
    · rw [e4]; exact putN_rules (hq1 _ (by omega)) (hq2 _ (by omega)) _ _ _ (putN_rules (hq1 _ (by omega)) (hq2 _ (by omega)) _ _ _ HR3.out)
    · rw [e4]; exact putN_below (by omega) _ _ _ (putN_below (by omega) _ _ _ HB3.out)
  go_wp2
  clear c0 c1 c2 c3 c4 z0 z1 z2 z3 z4 rf4 rg0 rg1 rg2 rg3 rg4
  generalize hwf : World.setCell _ _ _ = wf
  obtain ⟨hy, hh, hbl⟩ := HE.out wf hwf.symm
  obtain ⟨y0, y1, y2, y3, y4⟩ := cells5 hy
  have hsame : Same ⟨ls, la, lc, ev, lm, ho, qs, ra, rc⟩ ⟨ls, some ⟨S, 0, none⟩, ls.length, ev, lm, ho, qs', some ⟨S2, 0, none⟩, qs.length⟩ := ⟨rfl, rfl, rfl, rfl, HN3.out, HS3.out⟩
  refine bodyPost_ret (v := .agg #[.slice (some ⟨S, 0, none⟩) ls.length ls.length, .int .i64 ev, .int .i64 lm, .bool ho, .slice (some ⟨S2, 0, none⟩) qs.length qs.length]) ?_ rfl ⟨_, by rw [← HN3.out], hsame, hh, hbl⟩
  simp [results, Tryz.results8, go_sem, y0, y1, y2, y3, y4]
end Go.Proofs.YtooackaijhpohaaGreatDoor.Tgt
