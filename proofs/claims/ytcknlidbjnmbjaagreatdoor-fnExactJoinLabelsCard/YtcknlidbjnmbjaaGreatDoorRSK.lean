/- Both JoinLabels. -/
import Derived.Test.YtcknlidbjnmbjaaGreatDoorRSi
import Derived.Test.YtcknlidbjnmbjaaGreatDoorRSC
import Derived.Test.YtcknlidbjnmbjaaGreatDoorRQj
import Derived.Test.YtcknlidbjnmbjaaGreatDoorRQH
namespace Go.Proofs.YtcknlidbjnmbjaaGreatDoor.Tgt
open Go.RowKit Go.Proofs.YtcknlidbjnmbjaaGreatDoor.Fil Go.Proofs.YtcknlidbjnmbjaaGreatDoor.Rul
open Go.Proofs.YtcknlidbjnmbjaaGreatDoor.Lab (Lb HasL e0 flat GoodP jo goodL)
/-- What is to be told of a target and labels. -/
def JZ (t : Tg) (l : List Lb) (b : Bool) (L : List Lb) : Prop := (GoodT t ∧ GoodP l ∧ jo t.ls l t.ho = some L ∧ b = true) ∨ (¬ (GoodT t ∧ GoodP l ∧ ∃ M, jo t.ls l t.ho = some M) ∧ b = false ∧ L = [])
theorem JZ.uniq {t t' : Tg} {l L L' : List Lb} {b b' : Bool} (h : JZ t l b L) (h' : JZ t' l b' L') (hs : GoodT t ↔ GoodT t') (hl : t'.ls = t.ls) (ho : t'.ho = t.ho) : b' = b ∧ L' = L := by
  unfold JZ at h'
  rw [hl, ho] at h'
  rcases h with ⟨h1, h2, h3, rfl⟩ | ⟨h1, rfl, rfl⟩
  · rcases h' with ⟨k1, k2, k3, rfl⟩ | ⟨k1, rfl, rfl⟩
    · exact ⟨rfl, Option.some.inj (k3.symm.trans h3)⟩
    · exact absurd ⟨hs.1 h1, h2, _, h3⟩ k1
  · rcases h' with ⟨k1, k2, k3, rfl⟩ | ⟨k1, rfl, rfl⟩
    · exact absurd ⟨hs.2 k1, k2, _, k3⟩ h1
    · exact ⟨rfl, rfl⟩
theorem JZ.len {t : Tg} {l L : List Lb} {b : Bool} (h : JZ t l b L) : L.length ≤ 20 := by
  rcases h with ⟨_, _, h, _⟩ | ⟨_, _, rfl⟩
  · unfold Lab.jo at h
    split at h
    · cases h
    · split at h
      · rename_i hg
        have := Option.some.inj h
        subst this
        exact (good_goodP hg).1
      · cases h
  · simp
/-- What both tell. -/
def JR (t : Tg) (l : List Lb) (w : World) (e : Ending) (w' : World) : Prop := ∃ a' m c' b L, e = .returned (.tuple #[.slice a' m c', .bool b]) ∧ Below w.heap.size w w' ∧ w'.ownsRow w.heap.size 48 2 (.slice a' m c') m (Lab.flat L) ∧ JZ t l b L
set_option maxHeartbeats 4000000 in
theorem f6 (t : Tg) (a : Option Addr) (n c : Nat) (l : List Lb) (w : World) (hr : Has w t) (hf : FitG t) (hz : Sml t) (hn : l.length = n) (hmax : n ≤ maxLen) (hl : HasL w a l) (hfl : Lab.Fit l) :
    Calls Tryz.prog 6 #[agT t, .slice a n c] w (JR t l w) := by
  obtain ⟨ls, la, lc, ev, lm, ho, qs, ra, rc⟩ := t
  have H0 := hid (To.new hr)
  have HF := hid hf
  have HZ := hid hz
  have HN := hid hn
  have HLL := hid hl
  have HFL := hid hfl
  clear hr hf hz hn hl hfl
  obtain ⟨b0, b1, b2, b3, b4⟩ := cells5 H0.out.box
  go_enter Tryz.func6, Tryz.ntmps6
  go_wp2_with fail
  refine (f17 ⟨ls, la, lc, ev, lm, ho, qs, ra, rc⟩ _ H0.out.has HF.out HZ.out).mono ?_
  rintro e w1 ⟨b, rfl, hb, hb1⟩
  have HP := hid hb
  have H1 := hid (H0.out.below hb1)
  clear hb hb1 H0 b0 b1 b2 b3 b4
  obtain ⟨b0, b1, b2, b3, b4⟩ := cells5 H1.out.box
  cases b
  · have HQ : Hid (JZ ⟨ls, la, lc, ev, lm, ho, qs, ra, rc⟩ l false []) := .inr ⟨fun h => (by have := HP.out.2 h.1; cases this), rfl, rfl⟩
    go_wp2
    go_ret2
    exact ⟨none, 0, 0, false, [], rfl, H1.out.bel, World.ownsRow_nil _ _ _ _, HQ.out⟩
  have HGT := hid (HP.out.1 rfl)
  clear HP
  go_wp2_with fail
  refine (Lab.f18 a n c l _ HN.out hmax (HLL.out.below H1.out.bel) HFL.out).mono ?_
  rintro e w2 ⟨rfl, hb2⟩
  have H2 := hid (H1.out.below hb2)
  clear hb2 H1 b0 b1 b2 b3 b4
  obtain ⟨b0, b1, b2, b3, b4⟩ := cells5 H2.out.box
  cases hg : goodL l
  · have HQ : Hid (JZ ⟨ls, la, lc, ev, lm, ho, qs, ra, rc⟩ l false []) := .inr ⟨fun h => (by have := decide_eq_true h.2.1; rw [show goodL l = true from this] at hg; cases hg), rfl, rfl⟩
    clear hg
    go_wp2
    go_ret2
    exact ⟨none, 0, 0, false, [], rfl, H2.out.bel, World.ownsRow_nil _ _ _ _, HQ.out⟩
  have HG := hid (good_goodP hg)
  clear hg
  go_wp2_with fail
  refine (f19 ⟨ls, la, lc, ev, lm, ho, qs, ra, rc⟩ a n c l _ H2.out.has HN.out (HLL.out.below H2.out.bel) HG.out (good_goodP HGT.out.1.1)).mono ?_
  rintro e w3 ⟨a', m, c', b, rfl, hb3, h1, h2⟩
  have HY := hid h1
  have HX := hid h2
  have HB := hid (H2.out.bel.trans (hb3.mono H2.out.bel.size))
  have HS := hid H2.out.bel.size
  clear h1 h2 hb3 H2 b0 b1 b2 b3 b4
  cases b
  · have HQ : Hid (JZ ⟨ls, la, lc, ev, lm, ho, qs, ra, rc⟩ l false []) := .inr ⟨fun h => (by obtain ⟨_, _, M, hM⟩ := h; have := HX.out rfl; rw [show jo ls l ho = some M from hM] at this; cases this), rfl, rfl⟩
    clear HY HX
    go_wp2
    go_ret2
    exact ⟨none, 0, 0, false, [], rfl, HB.out, World.ownsRow_nil _ _ _ _, HQ.out⟩
  · obtain ⟨M, hM, hown⟩ := HY.out rfl
    have HQ : Hid (JZ ⟨ls, la, lc, ev, lm, ho, qs, ra, rc⟩ l true M) := .inl ⟨HGT.out, HG.out, hM, rfl⟩
    have HO := hid (Lab.own_based hown HS.out)
    clear HY HX hM hown
    go_wp2
    go_ret2
    exact ⟨a', m, c', true, M, rfl, HB.out, HO.out, HQ.out⟩
set_option maxHeartbeats 4000000 in
theorem f9 (t : Tg) (a : Option Addr) (n c : Nat) (l : List Lb) (w : World) (hr : Has w t) (hf : FitG t) (hz : Sml t) (ht : Rel.Tab w) (hn : l.length = n) (hmax : n ≤ maxLen) (hl : HasL w a l) (hfl : Lab.Fit l) :
    Calls Tryz.prog 9 #[agT t, .slice a n c] w (JR t l w) := by
  obtain ⟨ls, la, lc, ev, lm, ho, qs, ra, rc⟩ := t
  have H0 := hid (To.new hr)
  have HT := hid (ht.below (To.new hr).bel)
  have HF := hid hf
  have HZ := hid hz
  have HN := hid hn
  have HLL := hid hl
  have HFL := hid hfl
  clear hr hf hz hn hl hfl ht
  obtain ⟨b0, b1, b2, b3, b4⟩ := cells5 H0.out.box
  go_enter Tryz.func9, Tryz.ntmps9
  go_wp2_with fail
  refine (f22 ⟨ls, la, lc, ev, lm, ho, qs, ra, rc⟩ _ H0.out.has HF.out HZ.out HT.out).mono ?_
  rintro e w1 ⟨b, rfl, hb, hb1⟩
  have HP := hid hb
  have H1 := hid (H0.out.below hb1)
  clear hb hb1 H0 b0 b1 b2 b3 b4
  obtain ⟨b0, b1, b2, b3, b4⟩ := cells5 H1.out.box
  cases b
  · have HQ : Hid (JZ ⟨ls, la, lc, ev, lm, ho, qs, ra, rc⟩ l false []) := .inr ⟨fun h => (by have := HP.out.2 h.1; cases this), rfl, rfl⟩
    go_wp2
    go_ret2
    exact ⟨none, 0, 0, false, [], rfl, H1.out.bel, World.ownsRow_nil _ _ _ _, HQ.out⟩
  have HGT := hid (HP.out.1 rfl)
  clear HP
  go_wp2_with fail
  refine (Lab.f23 a n c l _ HN.out hmax (HLL.out.below H1.out.bel) HFL.out).mono ?_
  rintro e w2 ⟨rfl, hb2⟩
  have H2 := hid (H1.out.below hb2)
  clear hb2 H1 b0 b1 b2 b3 b4
  obtain ⟨b0, b1, b2, b3, b4⟩ := cells5 H2.out.box
  cases hg : goodL l
  · have HQ : Hid (JZ ⟨ls, la, lc, ev, lm, ho, qs, ra, rc⟩ l false []) := .inr ⟨fun h => (by have := decide_eq_true h.2.1; rw [show goodL l = true from this] at hg; cases hg), rfl, rfl⟩
    clear hg
    go_wp2
    go_ret2
    exact ⟨none, 0, 0, false, [], rfl, H2.out.bel, World.ownsRow_nil _ _ _ _, HQ.out⟩
  have HG := hid (good_goodP hg)
  clear hg
  go_wp2_with fail
  refine (f24 ⟨ls, la, lc, ev, lm, ho, qs, ra, rc⟩ a n c l _ H2.out.has HN.out (HLL.out.below H2.out.bel) HG.out (good_goodP HGT.out.1.1)).mono ?_
  rintro e w3 ⟨a', m, c', b, rfl, hb3, h1, h2⟩
  have HY := hid h1
  have HX := hid h2
  have HB := hid (H2.out.bel.trans (hb3.mono H2.out.bel.size))
  have HS := hid H2.out.bel.size
  clear h1 h2 hb3 H2 b0 b1 b2 b3 b4
  cases b
  · have hj := (HX.out rfl).1
    obtain ⟨rfl, rfl, rfl⟩ := (HX.out rfl).2
    have HQ : Hid (JZ ⟨ls, la, lc, ev, lm, ho, qs, ra, rc⟩ l false []) := .inr ⟨fun h => (by obtain ⟨_, _, M, hM⟩ := h; rw [show jo ls l ho = some M from hM] at hj; cases hj), rfl, rfl⟩
    clear HY HX hj
    go_wp2
    go_ret2
    exact ⟨none, 0, 0, false, [], rfl, HB.out, World.ownsRow_nil _ _ _ _, HQ.out⟩
  · obtain ⟨M, hM, hown⟩ := HY.out rfl
    have HQ : Hid (JZ ⟨ls, la, lc, ev, lm, ho, qs, ra, rc⟩ l true M) := .inl ⟨HGT.out, HG.out, hM, rfl⟩
    have HO := hid (Lab.own_based hown HS.out)
    clear HY HX hM hown
    go_wp2
    go_ret2
    exact ⟨a', m, c', true, M, rfl, HB.out, HO.out, HQ.out⟩
end Go.Proofs.YtcknlidbjnmbjaaGreatDoor.Tgt
/- The walk of FnExactGoodTarget. -/
namespace Go.Proofs.YtcknlidbjnmbjaaGreatDoor.Tgt
open Go.RowKit Go.Proofs.YtcknlidbjnmbjaaGreatDoor.Fil Go.Proofs.YtcknlidbjnmbjaaGreatDoor.Rul

theorem Same.trans' {t t' t'' : Tg} (h : Same t t') (h' : Same t t'') : Same t' t'' :=
  ⟨h'.ls.trans h.ls.symm, h'.ev.trans h.ev.symm, h'.lm.trans h.lm.symm, h'.ho.trans h.ho.symm, h'.qn.trans h.qn.symm, fun i hi => (h'.rul i (by rw [← h.qn]; exact hi)).trans (h.rul i (by rw [← h.qn]; exact hi)).symm⟩
theorem Same.fit {t t' : Tg} (h : Same t t') (hf : FitG t) : FitG t' := by
  refine ⟨by rw [h.ls]; exact hf.ln, by rw [h.ls]; exact hf.lab, by rw [h.qn]; exact hf.qn, fun i => ?_, by rw [h.ev]; exact hf.e0, by rw [h.ev]; exact hf.e1, by rw [h.lm]; exact hf.l0, by rw [h.lm]; exact hf.l1⟩
  by_cases hi : i < t.qs.length
  · rw [h.rul i hi]; exact hf.rul i
  · rw [List.getD_eq_getElem?_getD, List.getElem?_eq_none (by rw [h.qn]; omega)]; exact fit_q0
theorem Same.sml {t t' : Tg} (h : Same t t') (hz : Sml t) : Sml t' :=
  ⟨by rw [h.ls]; exact hz.ln, by rw [h.qn]; exact hz.qn, fun i hi => by rw [h.rul i (by rw [← h.qn]; exact hi)]; exact hz.rul i (by rw [← h.qn]; exact hi)⟩
theorem gdQ_same {qs qs' : List Q} (hn : qs'.length = qs.length) (h : ∀ i, i < qs.length → (qs'.getD i q0).r = (qs.getD i q0).r) : gdQ qs' = gdQ qs := by
  unfold gdQ
  refine decide_eq_decide.2 ⟨fun q => ⟨by omega, fun i hi => by rw [← h i hi]; exact q.2 i (by omega)⟩, fun q => ⟨by omega, fun i hi => by rw [h i (by omega)]; exact q.2 i (by omega)⟩⟩
theorem Same.good {t t' : Tg} (h : Same t t') : GoodT t' ↔ GoodT t := by
  unfold GoodT
  rw [h.ls, h.ev, h.lm, gdQ_same h.qn h.rul]
/-- The argument in its box, the copy that was handed in in another one. -/
structure Wx (w : World) (t t' : Tg) (B : Nat) (x : World) : Prop where
  one : x.heap[w.heap.size]? = some (.cells (clT t) 25)
  two : x.heap[B]? = some (.cells (clT t') 33)
  arg : Has x t
  has : Has x t'
  bel : Below w.heap.size w x
theorem Wx.below {w : World} {t t' : Tg} {B : Nat} {x y : World} (h : Wx w t t' B x) (hb : Below x.heap.size x y) : Wx w t t' B y := ⟨kept h.one hb, kept h.two hb, h.arg.below hb, h.has.below hb, h.bel.trans (hb.mono h.bel.size)⟩
/-- The same, cell by cell. -/
abbrev WS (w : World) (t t' : Tg) (B : Nat) (x : World) : Prop :=
  x.cell? ⟨w.heap.size, 0, none⟩ = some (.slice t.la t.ls.length t.lc) ∧ x.cell? ⟨w.heap.size, 1, none⟩ = some (.int .i64 t.ev) ∧ x.cell? ⟨w.heap.size, 2, none⟩ = some (.int .i64 t.lm) ∧ x.cell? ⟨w.heap.size, 3, none⟩ = some (.bool t.ho) ∧ x.cell? ⟨w.heap.size, 4, none⟩ = some (.slice t.ra t.qs.length t.rc) ∧
  x.cell? ⟨B, 0, none⟩ = some (.slice t'.la t'.ls.length t'.lc) ∧ x.cell? ⟨B, 1, none⟩ = some (.int .i64 t'.ev) ∧ x.cell? ⟨B, 2, none⟩ = some (.int .i64 t'.lm) ∧ x.cell? ⟨B, 3, none⟩ = some (.bool t'.ho) ∧ x.cell? ⟨B, 4, none⟩ = some (.slice t'.ra t'.qs.length t'.rc) ∧ Wx w t t' B x
theorem Wx.cells {w : World} {t t' : Tg} {B : Nat} {x : World} (h : Wx w t t' B x) : WS w t t' B x := by
  obtain ⟨b0, b1, b2, b3, b4⟩ := cells5 h.one
  obtain ⟨c0, c1, c2, c3, c4⟩ := cells5 h.two
  exact ⟨b0, b1, b2, b3, b4, c0, c1, c2, c3, c4, h⟩
theorem WS.wx {w : World} {t t' : Tg} {B : Nat} {x : World} (h : WS w t t' B x) : Wx w t t' B x := h.2.2.2.2.2.2.2.2.2.2
theorem WS.below {w : World} {t t' : Tg} {B : Nat} {x y : World} (h : WS w t t' B x) (hb : Below x.heap.size x y) : WS w t t' B y := (h.wx.below hb).cells
theorem below_drew (w : World) : Below w.heap.size w w.drew := (Below.refl _ _).drew
end Go.Proofs.YtcknlidbjnmbjaaGreatDoor.Tgt
/- How many names the rules have together: szStringS, szRelabelS, szTarget once more. -/
namespace Go.Proofs.YtcknlidbjnmbjaaGreatDoor.Tot
open Go.RowKit Go.Proofs.YtcknlidbjnmbjaaGreatDoor.Fil Go.Proofs.YtcknlidbjnmbjaaGreatDoor.Rul Go.Proofs.YtcknlidbjnmbjaaGreatDoor.Rel

/-- The names of the first k rules. -/
def tot (qs : List Q) (k : Nat) : Nat := ((qs.take k).map fun q => q.r.from'.length).sum
theorem tot_succ (qs : List Q) (k : Nat) (h : k < qs.length) : tot qs (k + 1) = tot qs k + (qs.getD k q0).r.from'.length := by
  unfold tot
  rw [List.take_succ_eq_append_getElem h, List.map_append, List.sum_append]
  simp [h]
set_option maxHeartbeats 1000000 in
theorem f48 (a : Option Addr) (n c : Nat) (L : Int) (ss : List ByteArray) (w : World) (hL0 : 0 ≤ L) (hL1 : L ≤ 1048576) (hn : ss.length = n) (hr : HasT w a ss) (hf : FitT ss) (hmax : n ≤ maxLen) :
    Calls Tryz.prog 48 #[.slice a n c, .int .i64 L] w fun e w' => ∃ y : Int, e = .returned (.int .i64 y) ∧ (0 ≤ y → (n ≤ 1048576 ∧ ∀ i, i < n → (ss.getD i ByteArray.empty).size ≤ 1048576) ∧ y + n ≤ L) ∧ -1 ≤ y ∧ y ≤ 1048576 ∧ w' = w := by
  unfold maxLen at hmax
  by_cases hbig : (n : Int) ≤ L
  · have HN := hid hn
    clear hn
    go_enter Tryz.func48, Tryz.ntmps48
    go_wp2
    go_loop [1, 5] (fun sx i => ∃ (k : Nat) (x : Int), k ≤ n ∧ i = .int .i64 k ∧ sx = .int .i64 x ∧ 0 ≤ x ∧ x ≤ 1048576 ∧ x + n ≤ L ∧ Hid (∀ i, i < k → (ss.getD i ByteArray.empty).size ≤ 1048576)) (fun _ i => n - (intOf i).toNat)
    case atStart => exact ⟨0, _, Nat.zero_le _, rfl, rfl, by omega, by omega, by omega, fun i hi => by omega⟩
    case round =>
      obtain ⟨k, x, hk, rfl, rfl, hx0, hx1, hxl, HU⟩ := hrel
      by_cases hlt : k < n
      · rcases hr with h | ⟨b, off, rfl, h2, h3⟩
        · exfalso; rw [h] at HN; have := HN.out; simp at this; omega
        have c0 := h3 k (by rw [HN.out]; exact hlt)
        have g0 := hf k
        clear h3
        have HU2 : Hid ((ss.getD k ByteArray.empty).size ≤ 1048576 → ∀ i, i < k + 1 → (ss.getD i ByteArray.empty).size ≤ 1048576) := by
          intro h i hi
          by_cases e : i = k
          · subst e; exact h
          · exact HU.out i (by omega)
        generalize ss.getD k ByteArray.empty = s at *
        unfold maxLen at g0
        by_cases hy : x - s.size < 0
        · go_wp2
          go_ret
          exact ⟨-1, rfl, fun h => absurd h (by omega), by omega, by omega, rfl⟩
        · have HU2 := hid (HU2.out (by omega))
          go_wp2
          go_round
          case rel => exact ⟨k + 1, _, by omega, by go_num, rfl, by omega, by omega, by omega, HU2.out⟩
          case measure => simp [intOf]; omega
      · go_wp2
        go_ret
        exact ⟨x, rfl, fun _ => ⟨⟨by omega, fun i hi => HU.out i (by omega)⟩, hxl⟩, by omega, hx1, rfl⟩
  · go_enter Tryz.func48, Tryz.ntmps48
    go_wp2
    go_ret
    exact ⟨-1, rfl, fun h => absurd h (by omega), by omega, by omega, rfl⟩

set_option maxHeartbeats 2000000 in
theorem f29 (r : Rule) (a : Option Addr) (n c : Nat) (L : Int) (w : World) (hL0 : 0 ≤ L) (hL1 : L ≤ 1048576) (hn : r.from'.length = n) (hr : HasT w a r.from') (hf : FitT r.from') (hmax : n ≤ maxLen) (hz : FitR r) :
    Calls Tryz.prog 29 #[agR r a n c, .int .i64 L] w fun e w' => ∃ y : Int, e = .returned (.int .i64 y) ∧ (0 ≤ y → SmlR r ∧ y + n ≤ L) ∧ -1 ≤ y ∧ y ≤ 1048576 ∧ Below w.heap.size w w' := by
  obtain ⟨A, ss, sep, pat, tgt, val, md⟩ := r
  obtain ⟨h1, h2, h3, h4, h5, h6, h7, h8⟩ := hz
  simp only at h1 h2 h3 h4 h5 h6 h7 h8 hn hr hf
  unfold maxLen at h5 h6 h7 h8
  have HN := hid hn
  have HR := hid hr
  have HB0 := hid ((Below.refl w.heap.size w).alloc (Nat.le_refl _) (.cells #[.int .i64 A, .slice a n c, .string sep, .string pat, .string tgt, .string val, .int .i64 md] 57))
  have HW := hid (new_at w (.cells #[.int .i64 A, .slice a n c, .string sep, .string pat, .string tgt, .string val, .int .i64 md] 57))
  clear hn hr
  simp only [agR]
  go_enter Tryz.func29, Tryz.ntmps29
  go_wp2_with fail
  refine (f48 a n c L ss _ hL0 hL1 HN.out (HR.out.below HB0.out) hf hmax).mono ?_
  rintro e w1 ⟨y, rfl, hy, y0, y1, hw1⟩
  have hw2 := hw1.symm
  clear hw1
  subst hw2
  by_cases g0 : y < 0
  · go_wp2
    go_ret
    exact ⟨-1, rfl, fun h => absurd h (by omega), by omega, by omega, HB0.out⟩
  have HY := hid (hy (by omega))
  clear hy
  by_cases g1 : y - sep.size < 0
  · go_wp2
    go_ret
    exact ⟨-1, rfl, fun h => absurd h (by omega), by omega, by omega, HB0.out⟩
  by_cases g2 : y - sep.size - pat.size < 0
  · go_wp2
    go_ret
    exact ⟨-1, rfl, fun h => absurd h (by omega), by omega, by omega, HB0.out⟩
  by_cases g3 : y - sep.size - pat.size - tgt.size < 0
  · go_wp2
    go_ret
    exact ⟨-1, rfl, fun h => absurd h (by omega), by omega, by omega, HB0.out⟩
  by_cases g4 : y - sep.size - pat.size - tgt.size - val.size < 0
  · go_wp2
    go_ret
    exact ⟨-1, rfl, fun h => absurd h (by omega), by omega, by omega, HB0.out⟩
  · go_wp2
    go_ret
    refine ⟨_, rfl, fun _ => ⟨⟨?_, ?_, ?_, ?_, ?_, ?_⟩, by have := HY.out.2; omega⟩, by omega, by omega, HB0.out⟩
    · simp only; rw [HN.out]; exact HY.out.1.1
    · simp only; rw [HN.out]; exact HY.out.1.2
    all_goals (simp only; omega)

set_option maxHeartbeats 2000000 in
theorem f15 (a : Option Addr) (n c : Nat) (L : Int) (qs : List Q) (w : World) (hL0 : 0 ≤ L) (hL1 : L ≤ 1048576) (hn : qs.length = n) (hr : HasR w a qs) (hf : FitQ qs) (hmax : n ≤ maxLen) :
    Calls Tryz.prog 15 #[.slice a n c, .int .i64 L] w fun e w' => ∃ y : Int, e = .returned (.int .i64 y) ∧ (0 ≤ y → (n ≤ 1048576 ∧ SmlQ qs) ∧ y + n + tot qs n ≤ L) ∧ -1 ≤ y ∧ y ≤ 1048576 ∧ Below w.heap.size w w' := by
  unfold maxLen at hmax
  by_cases hbig : (n : Int) ≤ L
  · have HN := hid hn
    have HR := hid hr
    have HF := hid hf
    clear hn hr hf
    go_enter Tryz.func15, Tryz.ntmps15
    go_wp2
    go_loopw [1, 5] (fun sx i wr => ∃ (k : Nat) (x : Int), k ≤ n ∧ i = .int .i64 k ∧ sx = .int .i64 x ∧ 0 ≤ x ∧ x ≤ 1048576 ∧ Hid (x + n + tot qs k ≤ L) ∧ Hid (∀ i, i < k → SmlR (qs.getD i q0).r) ∧ Hid (Below w.heap.size w wr)) (fun _ i _ => n - (intOf i).toNat)
    case atStart => exact ⟨0, _, Nat.zero_le _, rfl, rfl, by omega, by omega, by unfold Hid tot; simp; try omega, fun i hi => by omega, Below.refl _ _⟩
    case round =>
      obtain ⟨k, x, hk, rfl, rfl, hx0, hx1, HXL, HU, HB⟩ := hrel
      by_cases hlt : k < n
      · obtain ⟨b, off, rfl, hbl, c0, c1, c2, c3, c4, c5, c6, hT⟩ := (HR.out).at7 k (by rw [HN.out]; exact hlt)
        obtain ⟨g0, g1, g2⟩ := HF.out k
        have d0 := (HB.out.cell (p := ⟨b, off + k * 7, none⟩) hbl).trans c0
        have d1 := (HB.out.cell (p := ⟨b, off + k * 7 + 1, none⟩) hbl).trans c1
        have d2 := (HB.out.cell (p := ⟨b, off + k * 7 + 2, none⟩) hbl).trans c2
        have d3 := (HB.out.cell (p := ⟨b, off + k * 7 + 3, none⟩) hbl).trans c3
        have d4 := (HB.out.cell (p := ⟨b, off + k * 7 + 4, none⟩) hbl).trans c4
        have d5 := (HB.out.cell (p := ⟨b, off + k * 7 + 5, none⟩) hbl).trans c5
        have d6 := (HB.out.cell (p := ⟨b, off + k * 7 + 6, none⟩) hbl).trans c6
        have HT := hid (hT.below HB.out)
        have HU2 : Hid (SmlR (qs.getD k q0).r → ∀ i, i < k + 1 → SmlR (qs.getD i q0).r) := by
          intro h i hi
          by_cases e : i = k
          · subst e; exact h
          · exact HU.out i (by omega)
        have HTS := hid (tot_succ qs k (by rw [HN.out]; exact hlt))
        have G0 := hid g0
        have G1 := hid g1
        have G2 := hid g2
        clear c0 c1 c2 c3 c4 c5 c6 hT g0 g1 g2 hbl
        generalize qs.getD k q0 = q at *
        obtain ⟨r, aq, cq⟩ := q
        go_wp2_with fail
        refine (f29 r aq r.from'.length cq x _ hx0 hx1 rfl HT.out G1.out G2.out G0.out).mono ?_
        rintro e w2 ⟨y, rfl, hy, y0, y1, hb2⟩
        have HB2 := hid (HB.out.trans (hb2.mono HB.out.size))
        clear hb2 d0 d1 d2 d3 d4 d5 d6 HB
        by_cases hy0 : y < 0
        · go_wp2
          go_ret
          exact ⟨-1, rfl, fun h => absurd h (by omega), by omega, by omega, HB2.out⟩
        · have HU3 := hid (HU2.out (hy (by omega)).1)
          have HXL2 : Hid (y + n + tot qs (k + 1) ≤ L) := by have h1 := (hy (by omega)).2; have h2 := HXL.out; have h3 := HTS.out; unfold Hid; omega
          clear hy
          go_wp2
          go_roundw
          case rel => exact ⟨k + 1, y, by omega, by go_num, rfl, by omega, y1, HXL2, HU3.out, HB2.out⟩
          case measure => simp [intOf]; omega
      · go_wp2
        go_ret
        exact ⟨x, rfl, fun _ => ⟨⟨by omega, fun i hi => HU.out i (by have := HN.out; omega)⟩, (show k = n by omega) ▸ HXL.out⟩, by omega, hx1, HB.out⟩
  · go_enter Tryz.func15, Tryz.ntmps15
    go_wp2
    go_ret
    exact ⟨-1, rfl, fun h => absurd h (by omega), by omega, by omega, Below.refl _ _⟩
end Go.Proofs.YtcknlidbjnmbjaaGreatDoor.Tot
namespace Go.Proofs.YtcknlidbjnmbjaaGreatDoor.Tgt
open Go.RowKit Go.Proofs.YtcknlidbjnmbjaaGreatDoor.Fil Go.Proofs.YtcknlidbjnmbjaaGreatDoor.Rul
open Go.Proofs.YtcknlidbjnmbjaaGreatDoor.Tot (tot)
set_option maxHeartbeats 2000000 in
theorem f4t (t : Tg) (w : World) (hr : Has w t) (hf : FitG t) :
    Calls Tryz.prog 4 #[agT t, .int .i64 1048576] w fun e w' => ∃ y : Int, e = .returned (.int .i64 y) ∧ (0 ≤ y → Sml t ∧ t.qs.length + tot t.qs t.qs.length ≤ 1048576) ∧ Below w.heap.size w w' := by
  obtain ⟨ls, la, lc, ev, lm, ho, qs, ra, rc⟩ := t
  have HB0 := hid ((Below.refl w.heap.size w).alloc (Nat.le_refl _) (.cells #[.slice la ls.length lc, .int .i64 ev, .int .i64 lm, .bool ho, .slice ra qs.length rc] 25))
  have HW0 := hid (heap_alloc_new w (.cells #[.slice la ls.length lc, .int .i64 ev, .int .i64 lm, .bool ho, .slice ra qs.length rc] 25))
  have HR := hid hr
  have HF := hid hf
  clear hr hf
  go_enter Tryz.func4, Tryz.ntmps4
  go_wp2_with fail
  refine (Lab.f5g la ls.length lc 1048576 ls _ (by omega) (by omega) rfl (HR.out.lab.below HB0.out) HF.out.lab HF.out.ln).mono ?_
  rintro e w1 ⟨y, rfl, hy, y0, y1, hb1⟩
  have HB1 := hid (HB0.out.trans (hb1.mono HB0.out.size))
  have HW1 := hid (kept HW0.out hb1)
  clear hb1 HW0
  by_cases g0 : y < 0
  · go_wp2
    go_ret
    exact ⟨-1, rfl, fun h => absurd h (by omega), HB1.out⟩
  have HY := hid (hy (by omega))
  clear hy
  obtain ⟨b0, b1, b2, b3, b4⟩ := cells5 HW1.out
  go_wp2_with fail
  refine (Tot.f15 ra qs.length rc y qs _ (by omega) y1 rfl (HR.out.rul.below HB1.out) HF.out.rul HF.out.qn).mono ?_
  rintro e w2 ⟨z, rfl, hz, z0, z1, hb2⟩
  have HB2 := hid (HB1.out.trans (hb2.mono HB1.out.size))
  clear hb2 b0 b1 b2 b3 b4
  by_cases g1 : z < 0
  · go_wp2
    go_ret
    exact ⟨-1, rfl, fun h => absurd h (by omega), HB2.out⟩
  have HZ := hid (hz (by omega))
  clear hz
  go_wp2
  go_ret
  exact ⟨z, rfl, fun _ => ⟨⟨HY.out, HZ.out.1.1, HZ.out.1.2⟩, by have := HZ.out.2; omega⟩, HB2.out⟩

end Go.Proofs.YtcknlidbjnmbjaaGreatDoor.Tgt
