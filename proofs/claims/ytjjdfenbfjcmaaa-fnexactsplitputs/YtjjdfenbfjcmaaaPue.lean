/- Lists of rows of puts of the call's own: marked, held, one put more. -/
import Derived.Test.YtjjdfenbfjcmaaaPud
namespace Go.Proofs.Ytjjdfenbfjcmaaa.Ptn
open Go.RowKit
open Go.Proofs.Ytjjdfenbfjcmaaa.Lab (Lb HasL)

theorem OwnP.fw {P : Nat → Prop} {X n c : Nat} {a : Option Addr} {ps : List T} {w x : World} (h : OwnP X a n c ps w) (hf : Fw P w x) (h1 : ∀ g, (Value.slice a n c).ownBlock = some g → ¬ P g) (h2 : ∀ q ∈ ps, ∀ g, lbk q = some g → ¬ P g) : OwnP X a n c ps x :=
  ⟨h.len, own_fw h.row hf h1, fun q hq => (h.lab q hq).fw hf (h2 q hq), h.dis⟩
/-- A list of rows of puts, all of it the call's own. -/
structure OwnSS (X g n : Nat) (R : List S) (w : World) : Prop where
  len : R.length = n
  row : w.ownsRow X 32 1 (.slice (some ⟨g, 0, none⟩) n n) n (R.map vS)
  each : ∀ i, i < n → OwnP X (R.getD i s0).a (R.getD i s0).ps.length (R.getD i s0).c (R.getD i s0).ps w
  dir : ∀ i j, i < n → j < n → i ≠ j → ∀ g, (vS (R.getD i s0)).ownBlock = some g → (vS (R.getD j s0)).ownBlock = some g → False
  dis : ∀ i j, i < n → j < n → i ≠ j → ∀ p ∈ (R.getD i s0).ps, ∀ q ∈ (R.getD j s0).ps, Ap p q
theorem OwnSS.below {X g n : Nat} {R : List S} {w w' : World} (h : OwnSS X g n R w) (hb : Below w.heap.size w w') : OwnSS X g n R w' := ⟨h.len, own_below h.row hb, fun i hi => (h.each i hi).below hb, h.dir, h.dis⟩
theorem map_get (R : List S) (i : Nat) (hi : i < R.length) : (R.map vS)[i]? = some (vS (R.getD i s0)) := by simp [hi]
theorem OwnSS.has {X g n : Nat} {R : List S} {w : World} (h : OwnSS X g n R w) : HasSS w (some ⟨g, 0, none⟩) R := by
  refine .inr ⟨g, 0, rfl, (h.row.lt g rfl).2, fun i hi => ⟨?_, (h.each i (by rw [← h.len]; exact hi)).has⟩⟩
  rw [Nat.zero_add]
  exact (h.row.cellAt i (by have := h.len; omega)).trans (map_get R i hi)
/-- A label row's block is no row of puts, nor of such rows. -/
theorem OwnL.noRow {X Y e size n g : Nat} {q : T} {v : Value} {xs : List Value} {w : World} (h : OwnL X q w) (hr : w.ownsRow Y e size v n xs) (he : e ≠ 55) (h1 : lbk q = some g) (h2 : v.ownBlock = some g) : False := by
  rcases h with h | ⟨g3, h3, h4⟩
  · unfold lbk at h1; rw [h] at h1; cases h1
  · refine apart (w := w) (g := g) hr h4 he h2 ?_
    unfold lbk at h1
    split at h1
    · cases h1
    · rw [h3] at h1; exact h1
/-- How far the marks of the first i rows reach. -/
def mkS (R : List S) : Nat → Nat
  | 0 => 0
  | i + 1 => mkS R i + mk (R.getD i s0).ps (R.getD i s0).ps.length
theorem mkS_mono (R : List S) : ∀ (k j : Nat), j ≤ k → mkS R j ≤ mkS R k := by
  intro k
  induction k with
  | zero => intro j h; rw [show j = 0 by omega]; exact Nat.le_refl _
  | succ k ih =>
    intro j h
    by_cases e : j = k + 1
    · rw [e]; exact Nat.le_refl _
    · have := ih j (by omega)
      simp only [mkS]; omega
/-- The rows while they are being marked. -/
structure Ms (X g n k i : Nat) (R : List S) (w x : World) : Prop where
  row : x.ownsRow X 32 1 (.slice (some ⟨g, 0, none⟩) n n) n (R.map vS)
  each : ∀ j, j < n → OwnP X (R.getD j s0).a (R.getD j s0).ps.length (R.getD j s0).c (if j < i then mts (k + mkS R j) (R.getD j s0).ps else (R.getD j s0).ps) x
  bel : Below X w x
theorem mem_mts {k : Nat} {ps : List T} {q : T} (h : q ∈ mts k ps) : ∃ p ∈ ps, lbk q = lbk p := by
  obtain ⟨i, hi, rfl⟩ := mem_get h
  rw [mts_len] at hi
  exact ⟨_, get_mem hi, by rw [mts_get k ps i hi, lbk_mt]⟩
theorem mem_if {k i j : Nat} {ps : List T} {q : T} (h : q ∈ (if j < i then mts k ps else ps)) : ∃ p ∈ ps, lbk q = lbk p := by
  split at h
  · exact mem_mts h
  · exact ⟨q, h, rfl⟩
/-- All rows are marked. -/
abbrev Md (X g n k : Nat) (R : List S) (x : World) : Prop := x.ownsRow X 32 1 (.slice (some ⟨g, 0, none⟩) n n) n (R.map vS) ∧ ∀ j, j < n → OwnP X (R.getD j s0).a (R.getD j s0).ps.length (R.getD j s0).c (mts (k + mkS R j) (R.getD j s0).ps) x
theorem Md.below {X g n k : Nat} {R : List S} {w x : World} (h : Md X g n k R w) (hb : Below w.heap.size w x) : Md X g n k R x := ⟨own_below h.1 hb, fun j hj => (h.2 j hj).below hb⟩
set_option maxHeartbeats 4000000 in
theorem f15 (X g n k : Nat) (R : List S) (w : World) (hb : n ≤ 1048576) (hz : ∀ i, i < n → (R.getD i s0).ps.length ≤ 1048576) (hk : k + mkS R n ≤ 100000000) (ho : OwnSS X g n R w) (hX : X ≤ w.heap.size) :
    Calls Try.prog 15 #[.slice (some ⟨g, 0, none⟩) n n, .int .i64 k] w fun e w' => e = .returned (.int .i64 ((k + mkS R n : Nat) : Int)) ∧ Md X g n k R w' ∧ Below X w w' := by
  have HN := hid ho.len
  have HK := hid hk
  have HZ := hid hz
  have HDr := hid ho.dir
  have HDs := hid ho.dis
  have H0 : Hid (Ms X g n k 0 R w w) := ⟨ho.row, fun j hj => by rw [if_neg (Nat.not_lt_zero _)]; exact ho.each j hj, Below.refl _ _⟩
  clear hk ho hz
  go_enter Try.func15, Try.ntmps15
  go_wp2
  go_loopw [1, 5] (fun sk si wr => ∃ (i m : Nat), i ≤ n ∧ si = .int .i64 i ∧ sk = .int .i64 (m : Int) ∧ Hid (m = k + mkS R i) ∧ Hid (Ms X g n k i R w wr)) (fun _ si _ => n - (intOf si).toNat)
  case atStart => exact ⟨0, k, Nat.zero_le _, rfl, rfl, rfl, H0.out⟩
  case round =>
    clear H0
    obtain ⟨i, m, hi, rfl, rfl, hm, HM⟩ := hrel
    by_cases hlt : i < n
    rotate_left
    · obtain rfl : i = n := by omega
      have HE : Hid (Md X g i k R wr) := ⟨HM.out.row, fun j hj => by have := HM.out.each j hj; rw [if_pos hj] at this; exact this⟩
      have HX := hid HM.out.bel
      go_wp2
      go_ret
      exact ⟨by rw [← hm.out]; rfl, HE.out, HX.out⟩
    have c0 := (HM.out.row.cellAt i (by omega)).trans (map_get R i (by rw [HN.out]; exact hlt))
    simp only [vS] at c0
    have HO := hid (HM.out.each i hlt)
    rw [if_neg (Nat.lt_irrefl _)] at HO
    have HT : Hid (mkS R (i + 1) = mkS R i + mk (R.getD i s0).ps (R.getD i s0).ps.length) := rfl
    have HTn := hid (mkS_mono R n (i + 1) hlt)
    have HZi := hid (HZ.out i hlt)
    obtain ⟨s, hs⟩ : ∃ s, s = R.getD i s0 := ⟨_, rfl⟩
    have HSe := hid hs
    rw [← hs] at c0 HO HT HZi
    clear hs
    have N1 : Hid (m + mk s.ps s.ps.length ≤ 100000000) := by unfold Hid; have := hm.out; have := HK.out; have := HTn.out; have := HT.out; omega
    go_wp2_with fail
    refine (f14 X s.a s.ps.length s.c m s.ps _ HZi.out N1.out HO.out).mono ?_
    rintro e w2 ⟨rfl, ho2, hf2⟩
    have HM2 : Hid (Ms X g n k (i + 1) R w w2) := by
      refine ⟨own_fw HM.out.row hf2 ?_, fun j hj => ?_, HM.out.bel.trans (hf2.below ?_ (Nat.le_trans hX HM.out.bel.size))⟩
      · intro g' e1 e2
        rcases e2 with e2 | ⟨q, hq, e2⟩
        · exact apart (w := wr) (g := g') HM.out.row HO.out.row (by decide) e1 e2
        · exact (HO.out.lab q hq).noRow HM.out.row (by decide) e2 e1
      · by_cases e : j = i
        · subst e
          rw [if_pos (Nat.lt_succ_self _), ← HSe.out, ← hm.out]
          exact ho2
        · have hji := HM.out.each j hj
          have hif : (if j < i + 1 then mts (k + mkS R j) (R.getD j s0).ps else (R.getD j s0).ps) = (if j < i then mts (k + mkS R j) (R.getD j s0).ps else (R.getD j s0).ps) := by
            by_cases h : j < i
            · rw [if_pos h, if_pos (by omega)]
            · rw [if_neg h, if_neg (by omega)]
          rw [hif]
          refine hji.fw hf2 ?_ ?_
          · intro g' e1 e2
            rcases e2 with e2 | ⟨q, hq, e2⟩
            · rw [HSe.out] at e2
              exact HDr.out j i hj hlt e g' e1 e2
            · exact (HO.out.lab q hq).noRow hji.row (by decide) e2 e1
          · intro q hq g' e1 e2
            obtain ⟨p, hp, hpe⟩ := mem_if hq
            rcases e2 with e2 | ⟨q2, hq2, e2⟩
            · exact (hji.lab q hq).noRow HO.out.row (by decide) e1 e2
            · rw [HSe.out] at hq2
              exact (HDs.out j i hj hlt e p hp q2 hq2).no (hpe ▸ e1) e2
      · rintro b (e1 | ⟨q, hq, e1⟩)
        · exact (HO.out.row.lt b e1).1
        · exact ((HO.out.lab q hq).lo e1).1
    obtain ⟨M, hM⟩ : ∃ M, M = m + mk s.ps s.ps.length := ⟨_, rfl⟩
    rw [← hM]
    have HE : Hid (M = k + mkS R (i + 1)) := by unfold Hid; have := hm.out; have := HT.out; omega
    have hM1 : M ≤ 100000000 := by have := N1.out; omega
    clear ho2 hf2 HM HO c0 hM N1 HSe
    go_wp2
    go_roundw
    case rel => exact ⟨i + 1, M, by omega, by go_num, by go_num, HE.out, HM2.out⟩
    case measure => simp [intOf]; omega
set_option maxHeartbeats 4000000 in
theorem f16 (X g n k : Nat) (R : List S) (w : World) (hn : R.length = n) (hb : n ≤ 1048576) (hz : ∀ i, i < n → (R.getD i s0).ps.length ≤ 1048576) (hk : k + mkS R n ≤ 100000000) (ho : Md X g n k R w) :
    Calls Try.prog 16 #[.slice (some ⟨g, 0, none⟩) n n, .int .i64 k] w fun e w' => e = .returned (.int .i64 ((k + mkS R n : Nat) : Int)) ∧ Below w.heap.size w w' := by
  have HN := hid hn
  have HK := hid hk
  have HZ := hid hz
  have HO := hid ho
  clear hn hk ho hz
  go_enter Try.func16, Try.ntmps16
  go_wp2
  go_loopw [1, 5] (fun sk si wr => ∃ (i m : Nat), i ≤ n ∧ si = .int .i64 i ∧ sk = .int .i64 (m : Int) ∧ Hid (m = k + mkS R i) ∧ Hid (Below w.heap.size w wr)) (fun _ si _ => n - (intOf si).toNat)
  case atStart => exact ⟨0, k, Nat.zero_le _, rfl, rfl, rfl, Below.refl _ _⟩
  case round =>
    obtain ⟨i, m, hi, rfl, rfl, hm, HX⟩ := hrel
    by_cases hlt : i < n
    rotate_left
    · obtain rfl : i = n := by omega
      go_wp2
      go_ret
      exact ⟨by rw [← hm.out]; rfl, HX.out⟩
    have hmd := Md.below HO.out HX.out
    have c0 := (hmd.1.cellAt i (by omega)).trans (map_get R i (by rw [HN.out]; exact hlt))
    simp only [vS] at c0
    have HP := hid (hmd.2 i hlt)
    rw [← hm.out] at HP
    clear hmd
    have HT : Hid (mkS R (i + 1) = mkS R i + mk (R.getD i s0).ps (R.getD i s0).ps.length) := rfl
    have HTn := hid (mkS_mono R n (i + 1) hlt)
    have HZi := hid (HZ.out i hlt)
    generalize R.getD i s0 = s at *
    have N1 : Hid (m + mk s.ps s.ps.length ≤ 100000000) := by unfold Hid; have := hm.out; have := HK.out; have := HTn.out; have := HT.out; omega
    go_wp2_with fail
    refine (f28 X s.a s.ps.length s.c m s.ps _ rfl HZi.out N1.out HP.out).mono ?_
    rintro e w2 ⟨rfl, hb2⟩
    have HX2 := hid (HX.out.trans (hb2.mono HX.out.size))
    obtain ⟨M, hM⟩ : ∃ M, M = m + mk s.ps s.ps.length := ⟨_, rfl⟩
    rw [← hM]
    have HE : Hid (M = k + mkS R (i + 1)) := by unfold Hid; have := hm.out; have := HT.out; omega
    have hM1 : M ≤ 100000000 := by have := N1.out; omega
    have hM0 : ¬ (M : Int) < 0 := by omega
    clear hb2 HX HP c0 hM N1
    go_wp2
    go_roundw
    case rel => exact ⟨i + 1, M, by omega, by go_num, by go_num, HE.out, HX2.out⟩
    case measure => simp [intOf]; omega
theorem getD_setS (L : List S) (i j : Nat) (q : S) (hi : i < L.length) : (L.set i q).getD j s0 = if i = j then q else L.getD j s0 := by
  rw [List.getD_eq_getElem?_getD, List.getD_eq_getElem?_getD]
  by_cases e : i = j
  · subst e
    rw [List.getElem?_set_self hi, if_pos rfl]; rfl
  · rw [List.getElem?_set_ne e, if_neg e]
/-- One put more in one of the rows. -/
theorem OwnSS.push {X g n i a6c : Nat} {R : List S} {q' : T} {w W w6 : World} {a6 : Option Addr} (h : OwnSS X g n R w) (hb : Below w.heap.size w W) (hX : X ≤ w.heap.size) (hi : i < n) (hqn : OwnL w.heap.size q' W)
    (hgr : W.grownBy w6 (vS (R.getD i s0)).ownBlock) (hown : w6.ownsRow X 46 3 (.slice a6 ((R.getD i s0).ps.length + 1) a6c) ((R.getD i s0).ps.length + 1) (flat (R.getD i s0).ps ++ cl q'))
    (hat : (Value.slice a6 ((R.getD i s0).ps.length + 1) a6c).ownBlock = (vS (R.getD i s0)).ownBlock ∨ (Value.slice a6 ((R.getD i s0).ps.length + 1) a6c).ownBlock = some W.heap.size) :
    OwnSS X g n (R.set i ⟨(R.getD i s0).ps ++ [q'], a6, a6c⟩) (w6.setCell ⟨g, i, none⟩ (.slice a6 ((R.getD i s0).ps.length + 1) a6c)) ∧ Below X W (w6.setCell ⟨g, i, none⟩ (.slice a6 ((R.getD i s0).ps.length + 1) a6c)) := by
  have hW := h.below hb
  have hlen := h.len
  have hgX := (h.row.lt g rfl).1
  have hgs := (h.row.lt g rfl).2
  have hei := hW.each i hi
  -- what is written: the row at hand, and the list's own row
  have hrow6 : w6.ownsRow X 32 1 (.slice (some ⟨g, 0, none⟩) n n) n (R.map vS) := own_fw hW.row (Fw.grownO hgr) fun g' e1 e2 => apart (w := W) (g := g') hW.row hei.row (by decide) e1 e2
  have hst := hrow6.stored i (.slice a6 ((R.getD i s0).ps.length + 1) a6c)
  have hfw : Fw (fun b => (vS (R.getD i s0)).ownBlock = some b ∨ b = g) W (w6.setCell ⟨g, i, none⟩ (.slice a6 ((R.getD i s0).ps.length + 1) a6c)) :=
    ((Fw.grownO hgr).mono fun b hb => .inl hb).trans (Fw.set _ (.inr rfl))
  have hlab : ∀ q Y, OwnL Y q W → OwnL Y q (w6.setCell ⟨g, i, none⟩ (.slice a6 ((R.getD i s0).ps.length + 1) a6c)) := fun q Y hq => hq.fw hfw fun b e1 e2 => by
    rcases e2 with e2 | e2
    · exact hq.noRow hei.row (by decide) e1 e2
    · exact hq.noRow hW.row (by decide) e1 (by rw [e2]; rfl)
  have hold : ∀ j, j < n → ∀ q ∈ (R.getD j s0).ps, ∀ b, lbk q = some b → b < w.heap.size := fun j hj q hq b hb => (((h.each j hj).lab q hq).lo hb).2
  have hnew : ∀ b, lbk q' = some b → w.heap.size ≤ b := fun b hb => (hqn.lo hb).1
  have hapn : ∀ j, j < n → ∀ q ∈ (R.getD j s0).ps, Ap q q' := fun j hj q hq => by
    by_cases e : lbk q = none
    · exact .inl e
    · refine .inr fun e2 => ?_
      obtain ⟨b, hb⟩ := Option.ne_none_iff_exists'.1 e
      have h1 := hold j hj q hq b hb
      have h2 := hnew b (e2.symm.trans hb)
      omega
  refine ⟨⟨by simpa using hlen, ?_, fun j hj => ?_, fun j j' hj hj' hne g' e1 e2 => ?_, fun j j' hj hj' hne p hp q hq => ?_⟩, ?_⟩
  · have e : (R.map vS).set i (.slice a6 ((R.getD i s0).ps.length + 1) a6c) = (R.set i ⟨(R.getD i s0).ps ++ [q'], a6, a6c⟩).map vS := by
      rw [List.map_set]; simp [vS]
    rw [← e]; exact hst.1
  · rw [getD_setS R i j _ (by omega)]
    by_cases e : i = j
    · rw [if_pos e]
      refine ⟨rfl, ?_, fun q hq => ?_, List.pairwise_append.2 ⟨hei.dis, List.pairwise_singleton _ _, fun p hp q hq => ?_⟩⟩
      · have e1 : flat ((R.getD i s0).ps ++ [q']) = flat (R.getD i s0).ps ++ cl q' := by rw [flat_append]; show _ ++ (cl q' ++ []) = _; rw [List.append_nil]
        have e2 : ((R.getD i s0).ps ++ [q']).length = (R.getD i s0).ps.length + 1 := by simp
        rw [e1, e2]
        exact own_fw hown (Fw.set (P := fun b => b = g) _ rfl) fun g' h1 h2 => by
          subst h2
          exact apart (w := w6) (g := g') hrow6 hown (by decide) rfl h1
      · rcases List.mem_append.1 hq with hq | hq
        · exact hlab q X (hei.lab q hq)
        · obtain rfl : q = q' := by simpa using hq
          exact (hlab q _ hqn).base hX
      · obtain rfl : q = q' := by simpa using hq
        exact hapn i hi p hp
    · rw [if_neg e]
      have hej := hW.each j hj
      refine hej.fw hfw (fun g' h1 h2 => ?_) fun q hq b h1 h2 => ?_
      · rcases h2 with h2 | h2
        · exact h.dir j i hj hi (fun e' => e e'.symm) g' h1 h2
        · subst h2
          exact apart (w := W) (g := g') hW.row hej.row (by decide) rfl h1
      · rcases h2 with h2 | h2
        · exact (hej.lab q hq).noRow hei.row (by decide) h1 h2
        · exact (hej.lab q hq).noRow hW.row (by decide) h1 (by rw [h2]; rfl)
  · rw [getD_setS R i j _ (by omega)] at e1
    rw [getD_setS R i j' _ (by omega)] at e2
    have hnb : ∀ j, j < n → i ≠ j → ∀ g', (vS (R.getD j s0)).ownBlock = some g' → (Value.slice a6 ((R.getD i s0).ps.length + 1) a6c).ownBlock = some g' → False := fun j hj hne g' e1 e2 => by
      rcases hat with e | e
      · exact h.dir i j hi hj hne g' (e ▸ e2) e1
      · have h1 := ((h.each j hj).row.lt g' e1).2
        rw [e] at e2
        have := Option.some.inj e2
        have := hb.size
        omega
    by_cases e : i = j
    · rw [if_pos e] at e1
      rw [if_neg (by omega)] at e2
      exact hnb j' hj' (by omega) g' e2 (by simpa [vS] using e1)
    · rw [if_neg e] at e1
      by_cases e' : i = j'
      · rw [if_pos e'] at e2
        exact hnb j hj e g' e1 (by simpa [vS] using e2)
      · rw [if_neg e'] at e2
        exact h.dir j j' hj hj' hne g' e1 e2
  · rw [getD_setS R i j _ (by omega)] at hp
    rw [getD_setS R i j' _ (by omega)] at hq
    by_cases e : i = j
    · rw [if_pos e] at hp
      rw [if_neg (by omega)] at hq
      rcases List.mem_append.1 hp with hp | hp
      · exact h.dis i j' hi hj' (by omega) p hp q hq
      · obtain rfl : p = q' := by simpa using hp
        exact (hapn j' hj' q hq).symm
    · rw [if_neg e] at hp
      by_cases e' : i = j'
      · rw [if_pos e'] at hq
        rcases List.mem_append.1 hq with hq | hq
        · exact h.dis j i hj hi (by omega) p hp q hq
        · obtain rfl : q = q' := by simpa using hq
          exact hapn j hj p hp
      · rw [if_neg e'] at hq
        exact h.dis j j' hj hj' hne p hp q hq
  · refine hfw.below (fun b e => ?_) (Nat.le_trans hX hb.size)
    rcases e with e | e
    · exact ((h.each i hi).row.lt b e).1
    · rw [e]; exact hgX
end Go.Proofs.Ytjjdfenbfjcmaaa.Ptn
