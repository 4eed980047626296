/- Copies of lists of blocks: they are alike, and no greater. -/
import Derived.Test.YtjhdmghpklagkaaGreatD49
import Derived.Test.YtjhdmghpklagkaaGreatD14
import Derived.Test.YtjhdmghpklagkaaGreatD46
import Derived.Test.YtjhdmghpklagkaaGreatD28
import Derived.Laws.CopyOwn
import Derived.Deep.RegionLaw
namespace Go.Proofs.YtjhdmghpklagkaaGreat.Blk
open Go.RowKit
open Go.Proofs.YtjhdmghpklagkaaGreat.Smp (Sm HasS own_form ret_bool)
open Go.Proofs.YtjhdmghpklagkaaGreat.Srs (hid lt_at kept blk own_base own_below own_grown Q q0 HasQ SmlQ OwnG Own2 Fr own_fr tot)
open Go.Proofs.YtjhdmghpklagkaaGreat.Stn (T t0 OwnT HasT SmlT mk)

theorem SameK.trans {n : Nat} {bs d e : List Bk} (s : SameK n bs d) (r : SameK n bs e) : SameK n d e := fun i hi => (s i hi).trans (r i hi)
theorem totq_sameK {n : Nat} {qs d : List Q} (h : Srs.Same n qs d) : ∀ k, k ≤ n → Srs.tot d k = Srs.tot qs k := by
  intro k
  induction k with
  | zero => intro _; rfl
  | succ k ih =>
    intro hk
    have e := h k (by omega)
    simp only [Srs.pl, Prod.mk.injEq] at e
    simp only [Srs.tot]
    rw [ih (by omega), e.1, e.2]
theorem tott_sameK {n : Nat} {ts d : List T} (h : Stn.Same n ts d) : ∀ k, k ≤ n → Stn.tot d k = Stn.tot ts k := by
  intro k
  induction k with
  | zero => intro _; rfl
  | succ k ih =>
    intro hk
    have e := same_l (h k (by omega))
    simp only [Stn.tot]
    rw [ih (by omega), e.1]
theorem SameB.tk {h h' : Bk} (s : SameB h h') : Blk.tk h' = Blk.tk h := by
  unfold Blk.tk
  rw [s.lq, s.lt, totq_sameK s.sq _ (Nat.le_refl _), tott_sameK s.st _ (Nat.le_refl _)]
theorem SameK.totK {n : Nat} {bs d : List Bk} (s : SameK n bs d) : ∀ k, k ≤ n → Blk.totK d k = Blk.totK bs k := by
  intro k
  induction k with
  | zero => intro _; rfl
  | succ k ih => intro hk; simp only [Blk.totK]; rw [ih (by omega), (s k (by omega)).tk]
theorem mkK_tot (R : List Bk) : ∀ k, mkK R k ≤ 3 * k + 2 * totK R k := by
  intro k
  induction k with
  | zero => exact Nat.le_refl _
  | succ k ih =>
    simp only [mkK, totK]
    have : mkb (R.getD k k0) ≤ 3 + 2 * tk (R.getD k k0) := by unfold mkb tk mk; omega
    omega
theorem fr_belowK {X Y B : Nat} {w x : World} (h : Fr X Y w x) (hb : B ≤ X) (hs : B ≤ w.heap.size) : Below B w x := ⟨h.os, h.tape, h.output, h.size, fun k hk => h.block k (by omega) (.inl (by omega))⟩
end Go.Proofs.YtjhdmghpklagkaaGreat.Blk
namespace Go.Proofs.YtjhdmghpklagkaaGreat.Pln
open Go.RowKit
open Go.Proofs.YtjhdmghpklagkaaGreat.Srs (hid lt_at kept blk own_below Q q0 HasQ SmlQ OwnO Fr own_fr tot)
open Go.Proofs.YtjhdmghpklagkaaGreat.Blk
open Go.Proofs.YtjhdmghpklagkaaGreat.Mgb
open Go.Proofs.YtjhdmghpklagkaaGreat.Stn (T t0)
open Go.Proofs.YtjhdmghpklagkaaGreat.Ino (below_drewN)
open Go.Proofs.YtjhdmghpklagkaaGreat.Shf (wid BadW)

theorem okM_same {b : Int} {n : Nat} {bs d : List Bk} (s : SameK n bs d) (hn : bs.length = n) (hl : d.length = n) (g : GoodK b bs) : okM b d ↔ okM b bs := by
  have hgd : GoodK b d := s.good hn hl g
  have eL : mxl d = mxl bs := by
    unfold mxl
    have key : ∀ k, k ≤ n → (d.take k).foldl (fun a h => max a h.L) 0 = (bs.take k).foldl (fun a h => max a h.L) 0 := by
      intro k
      induction k with
      | zero => intro _; rfl
      | succ k ih =>
        intro hk
        have h1 := lmK_next (bs := d) (show k < d.length by omega)
        have h2 := lmK_next (bs := bs) (show k < bs.length by omega)
        unfold lmK at h1 h2
        rw [h1, h2, ih (by omega), (s k (by omega)).eL]
    have := key n (Nat.le_refl _)
    rw [List.take_of_length_le (by omega), List.take_of_length_le (by omega)] at this
    exact this
  have eW : wdM b d = wdM b bs := by unfold wdM; rw [eL]
  have eS : srM d = srM bs := by
    unfold srM Hpl.shl
    rw [hl, hn, Hpl.sels_same s hn hl (fun i hi => (g.2.2 i (by rw [hn]; exact hi)).2.1) goodM_nil n (Nat.le_refl _)]
  by_cases h0 : 0 < bs.length
  · have eF : frM b d = frM b bs := by unfold frM; rw [(s 0 (by omega)).eF, eW]
    have eT : toM b d = toM b bs := by unfold toM; rw [eF, eW]
    have eB : mbk b d = mbk b bs := by unfold mbk; rw [eF, eT, eL, eS]
    unfold okM InM
    rw [eL, eT, eB, hl, hn]
    refine ⟨fun h => ⟨h.1, h.2.1, fun i hi => ?_, h.2.2.2⟩, fun h => ⟨h.1, h.2.1, fun i hi => ?_, h.2.2.2⟩⟩
    · have := h.2.2.1 i hi; rw [(s i hi).eT] at this; exact this
    · rw [(s i hi).eT]; exact h.2.2.1 i hi
  · exact ⟨fun h => absurd h.1 (by omega), fun h => absurd h.1 h0⟩
theorem grp_same {W q : Int} {n : Nat} {bs d : List Bk} (s : SameK n bs d) (hn : bs.length = n) (hl : d.length = n) : (grp W q d).length = (grp W q bs).length ∧ SameK (grp W q bs).length (grp W q bs) (grp W q d) := by
  have key : ∀ k, k ≤ n → (grpK W q d k).length = (grpK W q bs k).length ∧ SameK (grpK W q bs k).length (grpK W q bs k) (grpK W q d k) := by
    intro k
    induction k with
    | zero => intro _; exact ⟨by simp [grpK, grp], fun i hi => by simp [grpK, grp] at hi⟩
    | succ k ih =>
      intro hk
      obtain ⟨e1, e2⟩ := ih (by omega)
      have hs := s k (by omega)
      rw [grpK_next (by omega), grpK_next (by omega), hs.eF]
      by_cases h : (bs.getD k k0).F / W = q
      · rw [if_pos h, if_pos h]
        refine ⟨by simp [e1], fun i hi => ?_⟩
        simp only [List.length_append, List.length_singleton] at hi
        by_cases e : i = (grpK W q bs k).length
        · rw [e]
          have a1 : (grpK W q bs k ++ [bs.getD k k0]).getD (grpK W q bs k).length k0 = bs.getD k k0 := by simp [List.getD]
          have a2 : (grpK W q d k ++ [d.getD k k0]).getD (grpK W q bs k).length k0 = d.getD k k0 := by rw [← e1]; simp [List.getD]
          rw [a1, a2]; exact hs
        · have a1 : (grpK W q bs k ++ [bs.getD k k0]).getD i k0 = (grpK W q bs k).getD i k0 := by simp [List.getD, List.getElem?_append_left (show i < (grpK W q bs k).length by omega)]
          have a2 : (grpK W q d k ++ [d.getD k k0]).getD i k0 = (grpK W q d k).getD i k0 := by simp [List.getD, List.getElem?_append_left (show i < (grpK W q d k).length by omega)]
          rw [a1, a2]; exact e2 i (by omega)
      · rw [if_neg h, if_neg h, List.append_nil, List.append_nil]
        exact ⟨e1, e2⟩
  have := key n (Nat.le_refl _)
  rw [← hn, grpK_end] at this
  rw [show bs.length = d.length by omega, grpK_end] at this
  exact this
theorem cand_same {b L q : Int} {n : Nat} {bs d : List Bk} (s : SameK n bs d) (hn : bs.length = n) (hl : d.length = n) (g : GoodK b bs) : Cand b L q d ↔ Cand b L q bs := by
  obtain ⟨e1, e2⟩ := grp_same (W := wid b L) (q := q) s hn hl
  unfold Cand
  rw [okM_same e2 rfl e1 (good_filter g _)]
  refine and_congr ⟨?_, ?_⟩ (and_congr ?_ Iff.rfl)
  · rintro ⟨j, hj, k1, k2⟩
    have := s j (by omega)
    exact ⟨j, by omega, by rw [← this.eL]; exact k1, by rw [← this.eF]; exact k2⟩
  · rintro ⟨j, hj, k1, k2⟩
    have := s j (by omega)
    exact ⟨j, by omega, by rw [this.eL]; exact k1, by rw [this.eF]; exact k2⟩
  · by_cases h0 : 0 < n
    · rw [hl, hn, (s (n - 1) (by omega)).eF]
    · obtain rfl : n = 0 := by omega
      rw [List.eq_nil_of_length_eq_zero hn, List.eq_nil_of_length_eq_zero hl]
end Go.Proofs.YtjhdmghpklagkaaGreat.Pln
namespace Go.Proofs.YtjhdmghpklagkaaGreat.Pln
open Go.RowKit
open Go.Proofs.YtjhdmghpklagkaaGreat.Blk
open Go.Proofs.YtjhdmghpklagkaaGreat.Mgb
open Go.Proofs.YtjhdmghpklagkaaGreat.Hpl (shelf_lt)
open Go.Proofs.YtjhdmghpklagkaaGreat.Shf (wid BadW)

theorem mxl_from_le : ∀ (bs : List Bk) (a : Int), ∀ h ∈ bs, h.L ≤ bs.foldl (fun a h => max a h.L) a
  | [], _, h, hh => by simp at hh
  | x :: bs, a, h, hh => by
    rw [List.foldl_cons]
    rcases List.mem_cons.1 hh with e | hm
    · have := mxl_ge bs (max a x.L)
      rw [e]; omega
    · exact mxl_from_le bs _ h hm
theorem grp_mxl {b L q : Int} {bs : List Bk} (g : GoodK b bs) (h2 : 2 ≤ L) (h4 : L ≤ 4) (h1 : Has1 L (wid b L) q bs bs.length) : mxl (grp (wid b L) q bs) + 1 = L := by
  obtain ⟨j, hj, hL, hq⟩ := h1
  have hm : bs.getD j k0 ∈ grp (wid b L) q bs := by
    unfold grp
    rw [List.mem_filter]
    refine ⟨?_, by simpa using hq⟩
    have : bs.getD j k0 = bs[j] := by simp [hj]
    rw [this]; exact List.getElem_mem _
  have k1 := mxl_from_le (grp (wid b L) q bs) 0 _ hm
  have k2 : mxl (grp (wid b L) q bs) ≤ L - 1 := mxl_le _ 0 (by omega) (fun h hh => by
    unfold grp at hh
    obtain ⟨hh1, hh2⟩ := List.mem_filter.1 hh
    obtain ⟨i, hi, rfl⟩ := get_of hh1
    have := lev_lt g h2 h4 hi hj hL (by rw [hq]; simpa using hh2)
    omega)
  have k3 : (bs.getD j k0).L ≤ mxl (grp (wid b L) q bs) := k1
  omega
theorem grp_head {b L q : Int} {bs : List Bk} {s e : Nat} (r : Gr b L bs s e q) : (grp (wid b L) q bs).getD 0 k0 = bs.getD s k0 := by
  have hs := r.se
  have hl := r.el
  rw [grp_cut (Nat.le_of_lt r.se) r.el r.iff]
  simp [List.getD, show 0 < e - s by omega]
theorem mbk_F {b L q : Int} {bs : List Bk} (g : GoodK b bs) (h2 : 2 ≤ L) (h4 : L ≤ 4) {s e : Nat} (r : Gr b L bs s e q) (c : Cand b L q bs) : (mbk b (grp (wid b L) q bs)).F = wid b L * q ∧ (mbk b (grp (wid b L) q bs)).T = wid b L * q + wid b L ∧ (mbk b (grp (wid b L) q bs)).L = L := by
  have hm := grp_mxl g h2 h4 c.1
  have hw : wdM b (grp (wid b L) q bs) = wid b L := by unfold wdM; rw [hm]
  have hs := r.se
  have hl := r.el
  have hq := (r.iff s (by omega)).2 ⟨Nat.le_refl _, hs⟩
  have hf : frM b (grp (wid b L) q bs) = wid b L * q := by
    unfold frM
    rw [hw, grp_head r, sub_mod, hq]
  refine ⟨hf, ?_, hm⟩
  show toM b _ = _
  unfold toM
  rw [hf, hw]
def rpl (s e : Nat) (h : Bk) (bs : List Bk) : List Bk := bs.take s ++ h :: bs.drop e
theorem rpl_len {s e : Nat} {h : Bk} {bs : List Bk} (hs : s < e) (he : e ≤ bs.length) : (rpl s e h bs).length = s + 1 + (bs.length - e) := by
  unfold rpl
  simp
  omega
theorem rpl_get {s e : Nat} {h : Bk} {bs : List Bk} (hs : s < e) (he : e ≤ bs.length) (i : Nat) : (rpl s e h bs).getD i k0 = if i < s then bs.getD i k0 else if i = s then h else bs.getD (i + e - s - 1) k0 := by
  unfold rpl
  by_cases h1 : i < s
  · rw [if_pos h1]
    simp [List.getD, List.getElem?_append_left (show i < (bs.take s).length by rw [List.length_take]; omega), h1]
  · rw [if_neg h1]
    have hl : (bs.take s).length = s := by rw [List.length_take]; omega
    by_cases h2 : i = s
    · rw [if_pos h2, h2]
      have : (bs.take s ++ h :: bs.drop e)[s]? = some h := by rw [List.getElem?_append_right (by omega), hl]; simp
      simp [List.getD, this]
    · rw [if_neg h2]
      have : (bs.take s ++ h :: bs.drop e)[i]? = bs[i + e - s - 1]? := by
        rw [List.getElem?_append_right (by omega), hl, show i - s = (i - s - 1) + 1 by omega, List.getElem?_cons_succ, List.getElem?_drop]
        congr 1
        omega
      simp [List.getD, this]
theorem rpl_good {b L q : Int} {bs : List Bk} (g : GoodK b bs) (h2 : 2 ≤ L) (h4 : L ≤ 4) {s e : Nat} (r : Gr b L bs s e q) (c : Cand b L q bs) : GoodK b (rpl s e (mbk b (grp (wid b L) q bs)) bs) := by
  have hs := r.se
  have he := r.el
  have hW := wid_pos' g.1 (L := L) (by omega) h4
  obtain ⟨mF, mT, mL⟩ := mbk_F g h2 h4 r c
  have hgb : GoodB (mbk b (grp (wid b L) q bs)) := c.2.2.2.2.2
  have hqs := (r.iff s (by omega)).2 ⟨Nat.le_refl _, hs⟩
  generalize mbk b (grp (wid b L) q bs) = m at *
  have hlen := rpl_len (h := m) hs he
  refine ⟨g.1, by have := g.2.1; omega, fun i hi => ?_⟩
  have hget := rpl_get (h := m) hs he
  by_cases h1 : i < s
  · rw [hget i, if_pos h1]
    have : en (rpl s e m bs) i = en bs i := by
      cases i with
      | zero => rfl
      | succ k => show ((rpl s e m bs).getD k k0).T = (bs.getD k k0).T; rw [hget k, if_pos (by omega)]
    rw [this]
    exact g.2.2 i (by omega)
  · by_cases h3 : i = s
    · subst h3
      rw [hget i, if_neg h1, if_pos rfl]
      refine ⟨by rw [mL]; omega, hgb, by rw [mF, mL]; exact Int.mul_emod_right _ _, by rw [mF, mT, mL], ?_⟩
      rw [mF]
      cases i with
      | zero =>
        show (0 : Int) ≤ _
        have hF := (g.2.2 0 (by omega)).2.1.1.1.1
        rw [← hqs]
        exact Int.mul_nonneg (by omega) (Int.ediv_nonneg hF (by omega))
      | succ k =>
        show ((rpl (k + 1) e m bs).getD k k0).T ≤ _
        rw [hget k, if_pos (by omega)]
        have hnc := no_cross g h2 h4 (i := k) (j := k + 1) (by omega) (by omega)
        rw [hqs] at hnc
        have hk : (bs.getD k k0).F < wid b L * q := by
          have hm := F_mono g (show k ≤ k + 1 by omega) (show k + 1 < bs.length by omega)
          have hd := (div_iff hW.1).1 hqs
          have hn : ¬ (bs.getD k k0).F / wid b L = q := fun e' => by have := (r.iff k (by omega)).1 e'; omega
          rcases Int.lt_or_le (bs.getD k k0).F (wid b L * q) with h | h
          · exact h
          · exact absurd ((div_iff hW.1).2 ⟨h, by omega⟩) hn
        rcases Int.lt_or_le (wid b L * q) (bs.getD k k0).T with h | h
        · exact absurd ⟨hk, h⟩ hnc
        · exact h
    · rw [hget i, if_neg h1, if_neg h3]
      have gi := g.2.2 (i + e - s - 1) (by omega)
      by_cases h5 : i = s + 1
      · subst h5
        refine ⟨gi.1, gi.2.1, gi.2.2.1, gi.2.2.2.1, ?_⟩
        show ((rpl s e m bs).getD s k0).T ≤ _
        rw [hget s, if_neg (by omega), if_pos rfl, mT, show s + 1 + e - s - 1 = e by omega]
        have hb := r.beh e (Nat.le_refl _) (by omega)
        have h6 := Int.emod_add_mul_ediv (bs.getD e k0).F (wid b L)
        have h7 := Int.emod_nonneg (bs.getD e k0).F (show wid b L ≠ 0 by omega)
        have h8 : wid b L * (q + 1) ≤ wid b L * ((bs.getD e k0).F / wid b L) := Int.mul_le_mul_of_nonneg_left (by omega) (by omega)
        rw [Int.mul_add] at h8
        omega
      · have : en (rpl s e m bs) i = en bs (i + e - s - 1) := by
          obtain ⟨k, rfl⟩ : ∃ k, i = k + 1 := ⟨i - 1, by omega⟩
          rw [show k + 1 + e - s - 1 = (k + e - s - 1) + 1 by omega]
          show ((rpl s e m bs).getD k k0).T = (bs.getD (k + e - s - 1) k0).T
          rw [hget k, if_neg (by omega), if_neg (by omega)]
        rw [this]
        exact gi
theorem rpl_same {s e n : Nat} {h h' : Bk} {bs d : List Bk} (hs : s < e) (he : e ≤ n) (hn : bs.length = n) (hl : d.length = n) (sk : SameK n bs d) (sb : SameB h h') : SameK (s + 1 + (n - e)) (rpl s e h bs) (rpl s e h' d) := fun i hi => by
  rw [rpl_get hs (by omega), rpl_get hs (by omega)]
  by_cases h1 : i < s
  · rw [if_pos h1, if_pos h1]; exact sk i (by omega)
  · rw [if_neg h1, if_neg h1]
    by_cases h2 : i = s
    · rw [if_pos h2, if_pos h2]; exact sb
    · rw [if_neg h2, if_neg h2]; exact sk _ (by omega)
def mu (bs : List Bk) : Nat := (bs.map fun h => (5 - h.L).toNat).sum
theorem mu_mem : ∀ (bs : List Bk) (h : Bk), h ∈ bs → (5 - h.L).toNat ≤ mu bs
  | [], h, hh => by simp at hh
  | x :: bs, h, hh => by
    unfold mu
    rw [List.map_cons, List.sum_cons]
    rcases List.mem_cons.1 hh with rfl | hm
    · omega
    · have := mu_mem bs h hm
      unfold mu at this
      omega
theorem mu_app (x y : List Bk) : mu (x ++ y) = mu x + mu y := by unfold mu; simp
theorem rpl_mu {b L q : Int} {bs : List Bk} (h2 : 2 ≤ L) (h4 : L ≤ 4) {s e : Nat} (r : Gr b L bs s e q) (c : Cand b L q bs) {h : Bk} (hL : h.L = L) : mu (rpl s e h bs) < mu bs := by
  have hs := r.se
  have he := r.el
  have e0 : bs = bs.take s ++ ((bs.drop s).take (e - s) ++ bs.drop e) := by
    have e1 : bs.drop e = (bs.drop s).drop (e - s) := by rw [List.drop_drop]; congr 1; omega
    rw [e1, List.take_append_drop, List.take_append_drop]
  obtain ⟨j, hj, h5, h6⟩ := c.1
  have hj2 := (r.iff j hj).1 h6
  have hm : bs.getD j k0 ∈ (bs.drop s).take (e - s) := by
    have : ((bs.drop s).take (e - s))[j - s]? = some (bs.getD j k0) := by
      rw [List.getElem?_take_of_lt (by omega), List.getElem?_drop, show s + (j - s) = j by omega]
      simp [hj]
    exact List.mem_of_getElem? this
  have hk := mu_mem _ _ hm
  rw [h5] at hk
  have a1 : mu bs = mu (bs.take s) + (mu ((bs.drop s).take (e - s)) + mu (bs.drop e)) := by
    conv => lhs; rw [e0]
    rw [mu_app, mu_app]
  have a2 : mu (rpl s e h bs) = mu (bs.take s) + ((5 - L).toNat + mu (bs.drop e)) := by
    unfold rpl
    rw [mu_app]
    congr 1
    unfold mu
    rw [List.map_cons, List.sum_cons, hL]
  omega
structure Stp (b L q : Int) (bs : List Bk) (s e : Nat) : Prop where
  l2 : 2 ≤ L
  l4 : L ≤ 4
  cand : Cand b L q bs
  lev : ∀ L' q', 2 ≤ L' → L' < L → ¬ Cand b L' q' bs
  fst : ∀ q', q' < q → ¬ Cand b L q' bs
  gr : Gr b L bs s e q
inductive Cmp (b : Int) : List Bk → List Bk → Prop
  | done {bs : List Bk} (h : ∀ L q, 2 ≤ L → L ≤ 4 → ¬ Cand b L q bs) : Cmp b bs bs
  | step {L q : Int} {bs r : List Bk} {s e : Nat} (h : Stp b L q bs s e) (k : Cmp b (rpl s e (mbk b (grp (wid b L) q bs)) bs) r) : Cmp b bs r
theorem Stp.one {b L q L' q' : Int} {bs : List Bk} {s e s' e' : Nat} (h : Stp b L q bs s e) (h' : Stp b L' q' bs s' e') : L = L' ∧ q = q' ∧ s = s' ∧ e = e' := by
  have e1 : L = L' := by
    rcases Int.lt_trichotomy L L' with k | k | k
    · exact absurd h.cand (h'.lev L q h.l2 k)
    · exact k
    · exact absurd h'.cand (h.lev L' q' h'.l2 k)
  subst e1
  have e2 : q = q' := by
    rcases Int.lt_trichotomy q q' with k | k | k
    · exact absurd h.cand (h'.fst q k)
    · exact k
    · exact absurd h'.cand (h.fst q' k)
  subst e2
  have a1 := h.gr.se
  have a2 := h.gr.el
  have b1 := h'.gr.se
  have b2 := h'.gr.el
  have k1 := (h.gr.iff s' (by omega)).1 ((h'.gr.iff s' (by omega)).2 ⟨Nat.le_refl _, b1⟩)
  have k2 := (h'.gr.iff s (by omega)).1 ((h.gr.iff s (by omega)).2 ⟨Nat.le_refl _, a1⟩)
  have k3 := (h.gr.iff (e' - 1) (by omega)).1 ((h'.gr.iff (e' - 1) (by omega)).2 ⟨by omega, by omega⟩)
  have k4 := (h'.gr.iff (e - 1) (by omega)).1 ((h.gr.iff (e - 1) (by omega)).2 ⟨by omega, by omega⟩)
  exact ⟨rfl, rfl, by omega, by omega⟩
theorem Cmp.one {b : Int} {bs r r' : List Bk} (h : Cmp b bs r) (h' : Cmp b bs r') : r = r' := by
  induction h with
  | done hn =>
    cases h' with
    | done => rfl
    | step k _ => exact absurd k.cand (hn _ _ k.l2 k.l4)
  | step k _ ih =>
    cases h' with
    | done hn => exact absurd k.cand (hn _ _ k.l2 k.l4)
    | step k' c' =>
      obtain ⟨rfl, rfl, rfl, rfl⟩ := k.one k'
      exact ih c'
end Go.Proofs.YtjhdmghpklagkaaGreat.Pln
namespace Go.Proofs.YtjhdmghpklagkaaGreat.Pln
open Go.RowKit
open Go.Proofs.YtjhdmghpklagkaaGreat.Stb
open Go.Proofs.YtjhdmghpklagkaaGreat.Srs (lt_at kept)
open Go.Proofs.YtjhdmghpklagkaaGreat.Blk

theorem run_copy_off {P : Program} (w : World) (dT sT ty elem : TypeId) (i : TypeInfo) (z : Nat) (g off n m k dCap : Nat) (a : Addr) (sCap : Nat) (cur : Array Value) (t : TypeId) (cs : List Value)
    (hu : P.underlying dT = some (.slice elem)) (hi : P.info? elem = some i) (hz : i.size = z)
    (hg : w.heap[g]? = some (.cells cur t (0, 0))) (hk : Nat.min m n = k) (hn : cs.length = k * z)
    (hsrc : ∀ j v, cs[j]? = some v → w.cell? (a.add j) = some v) (hfit : off + cs.length ≤ cur.size) (h1 : ∀ v ∈ cs, v.oneCell' = true) :
    (Builtin.copy_ #[dT, sT] ty #[.slice (some ⟨g, off, none⟩) n dCap, .slice (some a) m sCap]).run P w =
      .ok (goInt k) (w.setRow g (cur.toList.take off ++ cs ++ cur.toList.drop (off + cs.length)).toArray) := by
  have hl := run_loadCells_list (P := P) w a cs hsrc
  have hst := run_storeCells_at P g off t cs 0 cur w hg (by simpa using hfit) h1
  simp only [Nat.add_zero] at hst
  have hk' : min m n = k := hk
  simp [Builtin.copy_, run_underlying hu, Builtin.lenOf, Builtin.firstCells, sizeOf, typeInfo, hi, hz, hk', ← hn, hl, hst]
theorem run_clear_off {P : Program} (w : World) (T ty elem : TypeId) (zv : Value) (g off n c : Nat) (cur : Array Value) (t : TypeId) (zs : List Value)
    (hu : P.underlying T = some (.slice elem)) (hv : ∀ w, (zeroValue elem).run P w = .ok zv w) (hz : (Builtin.zeroCells zv.cells n).toList = zs)
    (hg : w.heap[g]? = some (.cells cur t (0, 0))) (hfit : off + zs.length ≤ cur.size) (h1 : ∀ v ∈ zs, v.oneCell' = true) (h0 : n = 0 → zs = []) :
    (Builtin.clear_ #[T] ty #[.slice (some ⟨g, off, none⟩) n c]).run P w = .ok (.tuple #[]) (w.setRow g (cur.toList.take off ++ zs ++ cur.toList.drop (off + zs.length)).toArray) := by
  have hst := run_storeCells_at P g off t zs 0 cur w hg (by simpa using hfit) h1
  simp only [Nat.add_zero] at hst
  cases n with
  | zero =>
    have e := h0 rfl
    subst e
    simp only [List.append_nil, List.length_nil, Nat.add_zero, List.take_append_drop, Array.toArray_toList]
    rw [setRow_self w g cur t (0, 0) hg]
    simp [Builtin.clear_, run_underlying hu]
  | succ m => simp [Builtin.clear_, run_underlying hu, hv, hz, hst]
theorem wpList_copy_off {P : Program} {w : World} {ops : Array Oper} {rest : List Oper} {o : Oper} {a : Act} {Q : Exit → Act → World → Prop} (hgd : o.guard = none) (d s : Operand) (dT sT : TypeId)
    (ho : o.op = .call { callee := .builtin .copy, args := #[d, s], argTypes := #[dT, sT] }) (elem : TypeId) (i : TypeInfo) (z : Nat) (hu : P.underlying dT = some (.slice elem)) (hi : P.info? elem = some i) (hz : i.size = z)
    (g off n m k dCap sCap : Nat) (ad : Addr) (hd : a.eval d = .slice (some ⟨g, off, none⟩) n dCap) (hs : a.eval s = .slice (some ad) m sCap) (cur : Array Value) (t : TypeId) (hg : w.heap[g]? = some (.cells cur t (0, 0))) (hk : Nat.min m n = k) (cs : List Value) (hn : cs.length = k * z)
    (hsrc : ∀ j v, cs[j]? = some v → w.cell? (ad.add j) = some v) (hfit : off + cs.length ≤ cur.size) (h1 : ∀ v ∈ cs, v.oneCell' = true)
    (h : ∀ w', w'.heap[g]? = some (.cells (cur.toList.take off ++ cs ++ cur.toList.drop (off + cs.length)).toArray t (0, 0)) → w.grownBy w' (some g) → wpList P ops Q rest (a.put o.dst (goInt k)) w') :
    wpList P ops Q (o :: rest) a w := by
  refine wpList_plain hgd fun K hK => ?_
  have hrun := run_copy_off (P := P) w dT sT o.type elem i z g off n m k dCap ad sCap cur t cs hu hi hz hg hk hn hsrc hfit h1
  unfold Oper.wp
  simp [execOp, ho, resolve, invoke, builtin, hd, hs, hrun, Result.andThen]
  have h5 := h (w.setRow g (cur.toList.take off ++ cs ++ cur.toList.drop (off + cs.length)).toArray) (setRow_heap w g cur _ t _ hg) ⟨rfl, rfl, rfl, by simp [World.setRow], fun k _ hk => setRow_other w g k _ (fun e => hk (by rw [e]))⟩
  refine hK _ _ ?_
  simpa using h5
theorem step_copy_off {P : Program} {ops : Array Oper} {o : Oper} {a : Act} {w : World} {K : Act → World → Prop} {Q : Exit → Act → World → Prop} {E : Prop} (hgd : o.guard = none) (d s : Operand) (dT sT : TypeId)
    (ho : o.op = .call { callee := .builtin .copy, args := #[d, s], argTypes := #[dT, sT] }) (elem : TypeId) (i : TypeInfo) (z : Nat) (hu : P.underlying dT = some (.slice elem)) (hi : P.info? elem = some i) (hz : i.size = z)
    (g off n m k dCap sCap : Nat) (ad : Addr) (hd : a.eval d = .slice (some ⟨g, off, none⟩) n dCap) (hs : a.eval s = .slice (some ad) m sCap) (cur : Array Value) (t : TypeId) (hg : w.heap[g]? = some (.cells cur t (0, 0))) (hk : Nat.min m n = k) (cs : List Value) (hn : cs.length = k * z)
    (hsrc : ∀ j v, cs[j]? = some v → w.cell? (ad.add j) = some v) (hfit : off + cs.length ≤ cur.size) (h1 : ∀ v ∈ cs, v.oneCell' = true)
    (h : ∀ w', w'.heap[g]? = some (.cells (cur.toList.take off ++ cs ++ cur.toList.drop (off + cs.length)).toArray t (0, 0)) → w.grownBy w' (some g) → K (a.put o.dst (goInt k)) w') :
    if Region.wanted o (yielded ops a.tmps) = true then Oper.wp P o a w K Q else E := by
  have hw : Region.wanted o (yielded ops a.tmps) = true := by simp [Region.wanted, hgd]
  rw [if_pos hw]
  have hrun := run_copy_off (P := P) w dT sT o.type elem i z g off n m k dCap ad sCap cur t cs hu hi hz hg hk hn hsrc hfit h1
  unfold Oper.wp
  simp [execOp, ho, resolve, invoke, builtin, hd, hs, hrun, Result.andThen]
  have h5 := h (w.setRow g (cur.toList.take off ++ cs ++ cur.toList.drop (off + cs.length)).toArray) (setRow_heap w g cur _ t _ hg) ⟨rfl, rfl, rfl, by simp [World.setRow], fun k _ hk => setRow_other w g k _ (fun e => hk (by rw [e]))⟩
  have h6 : K (a.put o.dst (goInt k)) (w.setRow g (cur.toList.take off ++ (cs ++ cur.toList.drop (off + cs.length))).toArray) := by rw [← List.append_assoc]; exact h5
  exact h6
theorem wpList_clear_off {P : Program} {w : World} {ops : Array Oper} {rest : List Oper} {o : Oper} {a : Act} {Q : Exit → Act → World → Prop} (hgd : o.guard = none) (s : Operand) (T : TypeId)
    (ho : o.op = .call { callee := .builtin .clear, args := #[s], argTypes := #[T] }) (elem : TypeId) (zv : Value) (hu : P.underlying T = some (.slice elem)) (hv : ∀ w, (zeroValue elem).run P w = .ok zv w)
    (g off n c : Nat) (hs : a.eval s = .slice (some ⟨g, off, none⟩) n c) (cur : Array Value) (t : TypeId) (hg : w.heap[g]? = some (.cells cur t (0, 0))) (zs : List Value) (hz : (Builtin.zeroCells zv.cells n).toList = zs)
    (hfit : off + zs.length ≤ cur.size) (h1 : ∀ v ∈ zs, v.oneCell' = true) (h0 : n = 0 → zs = [])
    (h : ∀ w', w'.heap[g]? = some (.cells (cur.toList.take off ++ zs ++ cur.toList.drop (off + zs.length)).toArray t (0, 0)) → w.grownBy w' (some g) → wpList P ops Q rest (a.put o.dst (.tuple #[])) w') :
    wpList P ops Q (o :: rest) a w := by
  refine wpList_plain hgd fun K hK => ?_
  have hrun := run_clear_off (P := P) w T o.type elem zv g off n c cur t zs hu hv hz hg hfit h1 h0
  unfold Oper.wp
  simp [execOp, ho, resolve, invoke, builtin, hs, hrun, Result.andThen]
  have h5 := h (w.setRow g (cur.toList.take off ++ zs ++ cur.toList.drop (off + zs.length)).toArray) (setRow_heap w g cur _ t _ hg) ⟨rfl, rfl, rfl, by simp [World.setRow], fun k _ hk => setRow_other w g k _ (fun e => hk (by rw [e]))⟩
  refine hK _ _ ?_
  simpa using h5
theorem flatK_take (R : List Bk) (i : Nat) (h : i ≤ R.length) : (flatK R).take (i * 5) = flatK (R.take i) := by
  conv => lhs; rw [← List.take_append_drop i R, flatK_append]
  rw [List.take_append_of_le_length (by rw [flatK_len, List.length_take]; omega), List.take_of_length_le (by rw [flatK_len, List.length_take]; omega)]
theorem flatK_drop (R : List Bk) (i : Nat) (h : i ≤ R.length) : (flatK R).drop (i * 5) = flatK (R.drop i) := by
  conv => lhs; rw [← List.take_append_drop i R, flatK_append]
  rw [List.drop_append]
  have e : (flatK (R.take i)).length = i * 5 := by rw [flatK_len, List.length_take]; omega
  rw [e, Nat.sub_self, List.drop_zero, List.drop_of_length_le (by omega), List.nil_append]
theorem rpl_flat (i j : Nat) (h : Bk) (R : List Bk) : flatK (rpl i j h R) = flatK (R.take i) ++ clK h ++ flatK (R.drop j) := by
  unfold rpl
  rw [flatK_append, flatK_cons, List.append_assoc]
theorem flatK_one (R : List Bk) : ∀ v ∈ flatK R, v.oneCell' = true := fun v hv => by
  unfold flatK at hv
  obtain ⟨q, _, hq⟩ := List.mem_flatMap.1 hv
  simp [clK] at hq
  rcases hq with rfl | rfl | rfl | rfl | rfl <;> rfl
theorem rpl_cells {cur : List Value} {R : List Bk} {n i j : Nat} {h : Bk} (hR : R.length = n) (hij : i < j) (hjn : j < n) (hc : cur.take (n * 5) = flatK R) (hl : n * 5 ≤ cur.length) :
    let c1 := cur.take (i * 5) ++ clK h ++ cur.drop (i * 5 + 5)
    c1.length = cur.length ∧ (c1.drop (j * 5)).take ((n - j) * 5) = flatK (R.drop j) ∧
    (let c2 := c1.take ((i + 1) * 5) ++ flatK (R.drop j) ++ c1.drop ((i + 1) * 5 + (n - j) * 5); c2.length = cur.length ∧ c2.take ((i + 1 + (n - j)) * 5) = flatK (rpl i j h R)) := by
  have hk : (clK h).length = 5 := rfl
  have e0 : cur.take (i * 5) = flatK (R.take i) := by
    rw [← flatK_take R i (by omega), ← hc, List.take_take]
    congr 1; omega
  have hl1 : (cur.take (i * 5)).length = i * 5 := by rw [List.length_take]; omega
  have hd1 : (flatK (R.drop j)).length = (n - j) * 5 := by rw [flatK_len, List.length_drop, hR]
  intro c1
  have h1 : c1.length = cur.length := by simp only [c1, List.length_append, hl1, hk, List.length_drop]; omega
  have h2 : c1.drop (j * 5) = cur.drop (j * 5) := by
    simp only [c1]
    rw [List.drop_append, List.drop_of_length_le (by simp only [List.length_append, hl1, hk]; omega), List.nil_append, List.drop_drop]
    congr 1
    simp only [List.length_append, hl1, hk]
    omega
  have h3 : (c1.drop (j * 5)).take ((n - j) * 5) = flatK (R.drop j) := by
    rw [h2, ← flatK_drop R j (by omega), ← hc, List.drop_take]
    congr 1
    omega
  refine ⟨h1, h3, ?_⟩
  intro c2
  have h5 : c1.take ((i + 1) * 5) = flatK (R.take i) ++ clK h := by
    simp only [c1]
    rw [List.take_append_of_le_length (by simp only [List.length_append, hl1, hk]; omega), List.take_of_length_le (by simp only [List.length_append, hl1, hk]; omega), e0]
  have hl5 : (flatK (R.take i) ++ clK h).length = (i + 1) * 5 := by rw [List.length_append, flatK_len, List.length_take, hk]; omega
  refine ⟨by simp only [c2]; rw [h5]; simp only [List.length_append, hd1, List.length_drop, h1] at *; omega, ?_⟩
  simp only [c2]
  rw [h5, rpl_flat, List.take_append_of_le_length (by rw [List.length_append, hl5, hd1]; omega), List.take_of_length_le (by rw [List.length_append, hl5, hd1]; omega)]
end Go.Proofs.YtjhdmghpklagkaaGreat.Pln
