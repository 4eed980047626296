/- Blocks of a shelf merged: plain facts. -/
import Derived.Test.YtjhdmghpklagkaaGreatD40
namespace Go.Proofs.YtjhdmghpklagkaaGreat.Mgb
open Go.RowKit
open Go.Proofs.YtjhdmghpklagkaaGreat.Stb
open Go.Proofs.YtjhdmghpklagkaaGreat.Smp (Sm cut)
open Go.Proofs.YtjhdmghpklagkaaGreat.Srs (Q q0 pl Pl qOf hit jF GoodQ)
open Go.Proofs.YtjhdmghpklagkaaGreat.Blk
open Go.Proofs.YtjhdmghpklagkaaGreat.Pat (Mt goodM allM)
open Go.Proofs.YtjhdmghpklagkaaGreat.Hpl
open Go.Proofs.YtjhdmghpklagkaaGreat.Shf (wid BadW)

def mxl (bs : List Bk) : Int := bs.foldl (fun a h => max a h.L) 0
theorem mxl_from : ∀ (bs : List Bk) (a : Int), bs.foldl (fun a h => max a (h.L + 1)) (a + 1) = bs.foldl (fun a h => max a h.L) a + 1
  | [], _ => rfl
  | h :: bs, a => by
    rw [List.foldl_cons, List.foldl_cons, show max (a + 1) (h.L + 1) = max a h.L + 1 by omega]
    exact mxl_from bs _
theorem mxl_one {h : Bk} {bs : List Bk} (h1 : 1 ≤ h.L) : (h :: bs).foldl (fun a h => max a (h.L + 1)) 0 = mxl (h :: bs) + 1 := by
  unfold mxl
  rw [List.foldl_cons, List.foldl_cons, show max 0 (h.L + 1) = max 0 h.L + 1 by omega]
  exact mxl_from bs _
theorem mxl_le {m : Int} : ∀ (bs : List Bk) (a : Int), a ≤ m → (∀ h ∈ bs, h.L ≤ m) → bs.foldl (fun a h => max a h.L) a ≤ m
  | [], a, ha, _ => ha
  | h :: bs, a, ha, hb => by
    rw [List.foldl_cons]
    have := hb h (by simp)
    exact mxl_le bs _ (by omega) (fun x hx => hb x (by simp [hx]))
theorem mxl_ge : ∀ (bs : List Bk) (a : Int), a ≤ bs.foldl (fun a h => max a h.L) a
  | [], _ => Int.le_refl _
  | h :: bs, a => by
    rw [List.foldl_cons]
    have := mxl_ge bs (max a h.L)
    omega
theorem get_of {bs : List Bk} {h : Bk} (hh : h ∈ bs) : ∃ i, i < bs.length ∧ bs.getD i k0 = h := by
  obtain ⟨i, hi, rfl⟩ := List.getElem_of_mem hh
  exact ⟨i, hi, by simp [hi]⟩
theorem mxl_bd {b : Int} {bs : List Bk} (g : GoodK b bs) : 0 ≤ mxl bs ∧ mxl bs ≤ 4 := by
  refine ⟨mxl_ge bs 0, mxl_le bs 0 (by omega) (fun h hh => ?_)⟩
  obtain ⟨i, hi, rfl⟩ := get_of hh
  exact (g.2.2 i hi).1.2
noncomputable def wdM (b : Int) (bs : List Bk) : Int := wid b (mxl bs + 1)
noncomputable def frM (b : Int) (bs : List Bk) : Int := (bs.getD 0 k0).F - (bs.getD 0 k0).F % wdM b bs
noncomputable def toM (b : Int) (bs : List Bk) : Int := frM b bs + wdM b bs
noncomputable def srM (bs : List Bk) : List Pl := shl bs [] 0 1000000000000
noncomputable def mbk (b : Int) (bs : List Bk) : Bk := ⟨frM b bs, toM b bs, mxl bs + 1, (srM bs).map qOf, none, 0, [], none, 0⟩
def InM (b : Int) (bs : List Bk) : Prop := ∀ i, i < bs.length → (bs.getD i k0).T ≤ toM b bs
theorem inM_last {b : Int} {bs : List Bk} (g : GoodK b bs) {n : Nat} (hn : bs.length = n + 1) : InM b bs ↔ (bs.getD n k0).T ≤ toM b bs := by
  refine ⟨fun h => h n (by omega), fun h i hi => ?_⟩
  by_cases e : i = n
  · rw [e]; exact h
  · have h1 := shelf_lt g n i (by omega) (by omega)
    have h2 := (g.2.2 n (by omega)).2.1.1
    unfold Blk.Head at h2
    omega
theorem map_qof (L : List Pl) : (L.map qOf).map pl = L := by
  rw [List.map_map]
  exact List.map_id' L
theorem cut_id {s : List Sm} {x y : Int} (h : ∀ p ∈ s, x ≤ p.1 ∧ p.1 ≤ y) : cut s x y = s := by
  unfold cut
  refine List.filter_eq_self.2 fun p hp => ?_
  have := h p hp
  simp [this.1, this.2]
theorem mdl_in {h : Bk} (g : GoodB h) {ms : List Mt} : ∀ k, k ≤ h.qs.length → ∀ v ∈ mdl h ms k, ∀ p ∈ v.2, h.F ≤ p.1 ∧ p.1 < h.T
  | 0, _, v, hv => by simp [mdl] at hv
  | k + 1, hk, v, hv => by
    rw [mdl] at hv
    rcases List.mem_append.1 hv with hv | hv
    · exact mdl_in g k (by omega) v hv
    · split at hv
      · obtain rfl : v = (lb h.qs k, md (spans (own1 h.ts (lb h.qs k))) (h.qs.getD k q0).s) := by simpa using hv
        intro p hp
        exact in_span g (show k < h.qs.length by omega) (md_mem _ _ hp)
      · simp at hv
theorem ans_span {h : Bk} (g : GoodB h) {ms : List Mt} {x y x' y' : Int} (h1 : x ≤ h.F) (h2 : h.T - 1 ≤ y) (h1' : x' ≤ h.F) (h2' : h.T - 1 ≤ y') : ansM h ms x y = ansM h ms x' y' := by
  unfold ansM
  have key : ∀ v ∈ mdl h ms h.qs.length, hit val [] x y v = hit val [] x' y' v := fun v hv => by
    have hin := mdl_in g h.qs.length (Nat.le_refl _) v hv
    unfold hit
    rw [cut_id (s := v.2) (x := x) (y := y) (fun p hp => by have := hin p hp; omega), cut_id (s := v.2) (x := x') (y := y') (fun p hp => by have := hin p hp; omega)]
  revert key
  generalize mdl h ms h.qs.length = L
  intro key
  induction L with
  | nil => rfl
  | cons v L ih => rw [List.flatMap_cons, List.flatMap_cons, key v (by simp), ih (fun u hu => key u (by simp [hu]))]
theorem wdM_pos {b : Int} {bs : List Bk} (g : GoodK b bs) (h4 : mxl bs + 1 ≤ 4) : 1 ≤ wdM b bs ∧ wdM b bs ≤ 27000000 := by
  have h0 := (mxl_bd g).1
  have hb := g.1
  unfold wdM wid
  have hnb : ¬ BadW b (mxl bs + 1) := by unfold BadW; omega
  rw [if_neg hnb]
  split
  · omega
  · split
    · omega
    · split
      · omega
      · omega
theorem fr_le {b : Int} {bs : List Bk} (g : GoodK b bs) (h4 : mxl bs + 1 ≤ 4) (hne : 0 < bs.length) : 0 ≤ frM b bs ∧ frM b bs ≤ (bs.getD 0 k0).F ∧ frM b bs ≤ 1000000000000 := by
  have hw := wdM_pos g h4
  have h1 := (g.2.2 0 hne).2.1.1
  unfold Blk.Head at h1
  unfold frM
  have m0 := Int.emod_nonneg (bs.getD 0 k0).F (show wdM b bs ≠ 0 by omega)
  have m1 := Int.emod_lt_of_pos (bs.getD 0 k0).F (show 0 < wdM b bs by omega)
  have m2 : (bs.getD 0 k0).F % wdM b bs ≤ (bs.getD 0 k0).F := by
    have := Int.emod_add_mul_ediv (bs.getD 0 k0).F (wdM b bs)
    have h3 : 0 ≤ wdM b bs * ((bs.getD 0 k0).F / wdM b bs) := Int.mul_nonneg (by omega) (Int.ediv_nonneg (by omega) (by omega))
    omega
  omega
theorem shelf_F {b : Int} {bs : List Bk} (g : GoodK b bs) (i : Nat) (hi : i < bs.length) : (bs.getD 0 k0).F ≤ (bs.getD i k0).F := by
  by_cases e : i = 0
  · rw [e]; exact Int.le_refl _
  · have h1 := shelf_lt g i 0 (by omega) hi
    have h2 := (g.2.2 0 (by omega)).2.1.1
    unfold Blk.Head at h2
    omega
theorem sels_span {b : Int} {bs : List Bk} (g : GoodK b bs) (h4 : mxl bs + 1 ≤ 4) (hin : InM b bs) : ∀ k, k ≤ bs.length → sels bs [] (frM b bs) (toM b bs - 1) k = sels bs [] 0 1000000000000 k
  | 0, _ => by simp [sels]
  | k + 1, hk => by
    rw [sels_next (by omega), sels_next (by omega), sels_span g h4 hin k (by omega)]
    have hF := fr_le g h4 (by omega)
    have h1 := shelf_F g k (by omega)
    have h2 := hin k (by omega)
    have hg := (g.2.2 k (by omega)).2.1
    have h3 := hg.1
    unfold Blk.Head at h3
    rw [ans_span (x := frM b bs) (y := toM b bs - 1) (x' := 0) (y' := 1000000000000) hg (by omega) (by omega) (by omega) (by omega)]
theorem shl_span {b : Int} {bs : List Bk} (g : GoodK b bs) (h4 : mxl bs + 1 ≤ 4) (hin : InM b bs) : shl bs [] (frM b bs) (toM b bs - 1) = srM bs := by
  unfold srM shl
  rw [sels_span g h4 hin bs.length (Nat.le_refl _)]
def okM (b : Int) (bs : List Bk) : Prop := 0 < bs.length ∧ mxl bs + 1 ≤ 4 ∧ InM b bs ∧ GoodB (mbk b bs)
noncomputable instance (b : Int) (bs : List Bk) : Decidable (okM b bs) := Classical.propDecidable _
noncomputable def okB (b : Int) (bs : List Bk) : Bool := decide (okM b bs)
theorem same_mbk {b : Int} {bs : List Bk} {R : List Q} {a : Option Addr} {c : Nat} (h : R.map pl = srM bs) : SameB (mbk b bs) ⟨frM b bs, toM b bs, mxl bs + 1, R, a, c, [], none, 0⟩ := by
  have hs := Srs.same_mapJ (map_qof (srM bs)) h
  exact ⟨rfl, rfl, rfl, hs.1, rfl, hs.2, fun i hi => by simp [mbk] at hi⟩
end Go.Proofs.YtjhdmghpklagkaaGreat.Mgb
namespace Go.Proofs.YtjhdmghpklagkaaGreat.Pln
open Go.RowKit
open Go.Proofs.YtjhdmghpklagkaaGreat.Blk
open Go.Proofs.YtjhdmghpklagkaaGreat.Srs (q0)
open Go.Proofs.YtjhdmghpklagkaaGreat.Mgb
open Go.Proofs.YtjhdmghpklagkaaGreat.Hpl (shelf_lt)
open Go.Proofs.YtjhdmghpklagkaaGreat.Shf (wid BadW wid_pos)

def grp (W q : Int) (bs : List Bk) : List Bk := bs.filter fun h => decide (h.F / W = q)
def idx (W q : Int) (bs : List Bk) : List Nat := (List.range bs.length).filter fun i => decide ((bs.getD i k0).F / W = q)
def Has1 (L W q : Int) (bs : List Bk) (k : Nat) : Prop := ∃ j, j < k ∧ (bs.getD j k0).L = L - 1 ∧ (bs.getD j k0).F / W = q
def Cand (b L q : Int) (bs : List Bk) : Prop := Has1 L (wid b L) q bs bs.length ∧ wid b L * q + wid b L ≤ (bs.getD (bs.length - 1) k0).F ∧ okM b (grp (wid b L) q bs)
def Ans (b : Int) (bs : List Bk) (r : List Nat) : Prop :=
  (r = [] ∧ ∀ L q, 2 ≤ L → L ≤ 4 → ¬ Cand b L q bs) ∨ ∃ L q, 2 ≤ L ∧ L ≤ 4 ∧ Cand b L q bs ∧ (∀ L' q', 2 ≤ L' → L' < L → ¬ Cand b L' q' bs) ∧ (∀ q', q' < q → ¬ Cand b L q' bs) ∧ r = idx (wid b L) q bs
theorem wid_of {b L : Int} (hb : 1 ≤ b ∧ b ≤ 1000000) (h1 : 1 ≤ L) (h4 : L ≤ 4) : (L = 1 ∧ wid b L = b) ∨ (L = 2 ∧ wid b L = b * 3) ∨ (L = 3 ∧ wid b L = b * 9) ∨ (L = 4 ∧ wid b L = b * 27) := by
  have hnb : ¬ BadW b L := by unfold BadW; omega
  unfold wid
  rw [if_neg hnb]
  have : L = 1 ∨ L = 2 ∨ L = 3 ∨ L = 4 := by omega
  rcases this with rfl | rfl | rfl | rfl
  · exact .inl ⟨rfl, by simp⟩
  · exact .inr (.inl ⟨rfl, by simp⟩)
  · exact .inr (.inr (.inl ⟨rfl, by simp⟩))
  · exact .inr (.inr (.inr ⟨rfl, by simp⟩))
theorem wid_dvd {b L M : Int} (hb : 1 ≤ b ∧ b ≤ 1000000) (h1 : 1 ≤ L) (h2 : L ≤ M) (h4 : M ≤ 4) : wid b L ∣ wid b M := by
  rcases wid_of hb h1 (by omega) with ⟨a, e⟩ | ⟨a, e⟩ | ⟨a, e⟩ | ⟨a, e⟩ <;> rcases wid_of hb (L := M) (by omega) h4 with ⟨a', e'⟩ | ⟨a', e'⟩ | ⟨a', e'⟩ | ⟨a', e'⟩ <;> rw [e, e']
  · exact Int.dvd_refl _
  · exact ⟨3, rfl⟩
  · exact ⟨9, rfl⟩
  · exact ⟨27, rfl⟩
  · omega
  · exact Int.dvd_refl _
  · exact ⟨3, by omega⟩
  · exact ⟨9, by omega⟩
  · omega
  · omega
  · exact Int.dvd_refl _
  · exact ⟨3, by omega⟩
  · omega
  · omega
  · omega
  · exact Int.dvd_refl _
theorem wid_pos' {b L : Int} (hb : 1 ≤ b ∧ b ≤ 1000000) (h1 : 1 ≤ L) (h4 : L ≤ 4) : 1 ≤ wid b L ∧ wid b L ≤ 27000000 := wid_pos (by unfold BadW; omega)
theorem div_iff {W q F : Int} (hW : 1 ≤ W) : F / W = q ↔ W * q ≤ F ∧ F < W * q + W := by
  have h1 := Int.emod_add_mul_ediv F W
  have h2 := Int.emod_nonneg F (show W ≠ 0 by omega)
  have h3 := Int.emod_lt_of_pos F (show 0 < W by omega)
  constructor
  · rintro rfl; omega
  · rintro ⟨g1, g2⟩
    have k1 : q < F / W + 1 := Int.lt_of_mul_lt_mul_left (a := W) (by rw [Int.mul_add]; omega) (by omega)
    have k2 : F / W < q + 1 := Int.lt_of_mul_lt_mul_left (a := W) (by rw [Int.mul_add]; omega) (by omega)
    omega
theorem sub_mod (F W : Int) : F - F % W = W * (F / W) := by
  have h1 := Int.emod_add_mul_ediv F W
  omega
theorem F_mono {b : Int} {bs : List Bk} (g : GoodK b bs) {i j : Nat} (hij : i ≤ j) (hj : j < bs.length) : (bs.getD i k0).F ≤ (bs.getD j k0).F := by
  by_cases e : i = j
  · rw [e]; exact Int.le_refl _
  · have h1 := shelf_lt g j i (by omega) hj
    have h2 := (g.2.2 i (by omega)).2.1.1
    unfold Blk.Head at h2
    omega
theorem div_mono {W x y : Int} (hW : 1 ≤ W) (h : x ≤ y) : x / W ≤ y / W := Int.ediv_le_ediv (by omega) h
theorem mul_le_of {W x y : Int} (hW : 1 ≤ W) (hx : W ∣ x) (hy : W ∣ y) (h : x < y) : x + W ≤ y := by
  obtain ⟨u, rfl⟩ := hx
  obtain ⟨v, rfl⟩ := hy
  have : u < v := Int.lt_of_mul_lt_mul_left (a := W) h (by omega)
  have h2 : W * (u + 1) ≤ W * v := Int.mul_le_mul_of_nonneg_left (by omega) (by omega)
  rw [Int.mul_add] at h2
  omega
theorem lev_lt {b : Int} {bs : List Bk} (g : GoodK b bs) {L : Int} (h2 : 2 ≤ L) (h4 : L ≤ 4) {i j : Nat} (hi : i < bs.length) (hj : j < bs.length) (hL : (bs.getD j k0).L = L - 1) (hs : (bs.getD i k0).F / wid b L = (bs.getD j k0).F / wid b L) : (bs.getD i k0).L < L := by
  by_cases hlt : (bs.getD i k0).L < L
  · exact hlt
  exfalso
  have gi := g.2.2 i hi
  have gj := g.2.2 j hj
  have hW := wid_pos' g.1 (L := L) (by omega) h4
  have hd1 : wid b L ∣ (bs.getD i k0).F := Int.dvd_trans (wid_dvd g.1 (by omega) (by omega) gi.1.2) (Int.dvd_of_emod_eq_zero gi.2.2.1)
  have hd2 := Int.le_of_dvd (by have := wid_pos' g.1 gi.1.1 gi.1.2; omega) (wid_dvd g.1 (L := L) (M := (bs.getD i k0).L) (by omega) (by omega) gi.1.2)
  have e1 := (div_iff (q := (bs.getD j k0).F / wid b L) (F := (bs.getD j k0).F) hW.1).1 rfl
  have e2 := (div_iff hW.1).1 hs
  have e3 : (bs.getD i k0).F ≤ wid b L * ((bs.getD j k0).F / wid b L) := by
    rcases Int.lt_or_le (wid b L * ((bs.getD j k0).F / wid b L)) (bs.getD i k0).F with h | h
    · have := mul_le_of hW.1 ⟨_, rfl⟩ hd1 h; omega
    · exact h
  have eT := gi.2.2.2.1
  have hne : i ≠ j := fun e => by rw [e] at hlt; omega
  have hgi := gi.2.1.1
  have hgj := gj.2.1.1
  unfold Blk.Head at hgi hgj
  by_cases hij : i < j
  · have := shelf_lt g j i hij hj; omega
  · have := shelf_lt g i j (by omega) hi; omega
theorem no_cross {b : Int} {bs : List Bk} (g : GoodK b bs) {L : Int} (h2 : 2 ≤ L) (h4 : L ≤ 4) {i j : Nat} (hi : i < bs.length) (hj : j < bs.length) : ¬ ((bs.getD i k0).F < wid b L * ((bs.getD j k0).F / wid b L) ∧ wid b L * ((bs.getD j k0).F / wid b L) < (bs.getD i k0).T) := by
  rintro ⟨c1, c2⟩
  have gi := g.2.2 i hi
  have hW := wid_pos' g.1 (L := L) (by omega) h4
  have hV := wid_pos' g.1 gi.1.1 gi.1.2
  have e1 := (div_iff (q := (bs.getD j k0).F / wid b L) (F := (bs.getD j k0).F) hW.1).1 rfl
  have eT := gi.2.2.2.1
  have hdF : wid b (bs.getD i k0).L ∣ (bs.getD i k0).F := Int.dvd_of_emod_eq_zero gi.2.2.1
  by_cases hl : (bs.getD i k0).L ≤ L
  · have hd : wid b (bs.getD i k0).L ∣ wid b L * ((bs.getD j k0).F / wid b L) := Int.dvd_trans (wid_dvd g.1 gi.1.1 hl h4) ⟨_, rfl⟩
    have := mul_le_of hV.1 hdF hd c1
    omega
  · have hdT : wid b L ∣ (bs.getD i k0).T := by
      rw [eT]
      have d1 := wid_dvd g.1 (L := L) (M := (bs.getD i k0).L) (by omega) (by omega) gi.1.2
      exact Int.dvd_add (Int.dvd_trans d1 hdF) d1
    have h5 := mul_le_of hW.1 ⟨(bs.getD j k0).F / wid b L, rfl⟩ hdT c2
    have hgj := (g.2.2 j hj).2.1.1
    unfold Blk.Head at hgj
    by_cases hij : i < j
    · have := shelf_lt g j i hij hj; omega
    · by_cases e : i = j
      · subst e; omega
      · have := shelf_lt g i j (by omega) hi; omega
theorem good_filter {b : Int} {bs : List Bk} (g : GoodK b bs) (p : Bk → Bool) : GoodK b (bs.filter p) := by
  have hall : ∀ h ∈ bs, OkK b 0 h := fun h hh => by
    obtain ⟨i, hi, rfl⟩ := get_of hh
    have gi := g.2.2 i hi
    have := gi.2.1.1
    unfold Blk.Head at this
    exact ⟨gi.1, gi.2.1, gi.2.2.1, gi.2.2.2.1, this.1.1⟩
  have hp : bs.Pairwise fun x y => x.T ≤ y.F := by
    rw [List.pairwise_iff_getElem]
    intro i j hi hj hij
    have := shelf_lt g j i hij hj
    simpa [hi, hj] using this
  have hp' := hp.filter p
  refine ⟨g.1, Nat.le_trans (List.length_filter_le _ _) g.2.1, fun i hi => ?_⟩
  have hm : (bs.filter p).getD i k0 ∈ bs := by
    have : (bs.filter p).getD i k0 = (bs.filter p)[i] := by simp [hi]
    rw [this]
    exact (List.mem_filter.1 (List.getElem_mem hi)).1
  have h1 := hall _ hm
  refine ⟨h1.1, h1.2.1, h1.2.2.1, h1.2.2.2.1, ?_⟩
  cases i with
  | zero => exact h1.2.2.2.2
  | succ k =>
    rw [List.pairwise_iff_getElem] at hp'
    have := hp' k (k + 1) (by omega) hi (by omega)
    show ((bs.filter p).getD k k0).T ≤ _
    simpa [hi, show k < (bs.filter p).length by omega] using this
theorem get_filter {bs : List Bk} (p : Bk → Bool) {i : Nat} (hi : i < (bs.filter p).length) : ∃ j, j < bs.length ∧ (bs.filter p).getD i k0 = bs.getD j k0 := by
  have hm : (bs.filter p).getD i k0 ∈ bs := by
    have : (bs.filter p).getD i k0 = (bs.filter p)[i] := by simp [hi]
    rw [this]
    exact (List.mem_filter.1 (List.getElem_mem hi)).1
  obtain ⟨j, hj, e⟩ := get_of hm
  exact ⟨j, hj, e.symm⟩
theorem fit_filter {bs : List Bk} (p : Bk → Bool) (hf : FitK bs) : FitK (bs.filter p) := fun i => by
  by_cases hi : i < (bs.filter p).length
  · obtain ⟨j, _, e⟩ := get_filter p hi
    rw [e]; exact hf j
  · rw [show (bs.filter p).getD i k0 = k0 by simp [List.getD, List.getElem?_eq_none (show (bs.filter p).length ≤ i by omega)]]; exact fit_k0
theorem sml_filter {bs : List Bk} (p : Bk → Bool) (hz : SmlK bs) : SmlK (bs.filter p) := fun i hi => by
  obtain ⟨j, hj, e⟩ := get_filter p hi
  rw [e]; exact hz j hj
theorem filter_cut {α : Type} (l : List α) (d : α) (p : α → Bool) (s e : Nat) (hse : s ≤ e) (hel : e ≤ l.length) (h : ∀ i, i < l.length → (p (l.getD i d) = true ↔ s ≤ i ∧ i < e)) : l.filter p = (l.drop s).take (e - s) := by
  have h0 : l = l.take s ++ ((l.drop s).take (e - s) ++ l.drop e) := by
    have e1 : l.drop e = (l.drop s).drop (e - s) := by rw [List.drop_drop]; congr 1; omega
    rw [e1, List.take_append_drop, List.take_append_drop]
  have k1 : (l.take s).filter p = [] := by
    rw [List.filter_eq_nil_iff]
    intro x hx hp
    obtain ⟨i, hi, rfl⟩ := List.getElem_of_mem hx
    rw [List.length_take] at hi
    have := (h i (by omega)).1 (by simpa [show i < l.length by omega] using hp)
    omega
  have k2 : ((l.drop s).take (e - s)).filter p = (l.drop s).take (e - s) := by
    rw [List.filter_eq_self]
    intro x hx
    obtain ⟨i, hi, rfl⟩ := List.getElem_of_mem hx
    rw [List.length_take, List.length_drop] at hi
    have := (h (s + i) (by omega)).2 (by omega)
    simpa [show s + i < l.length by omega] using this
  have k3 : (l.drop e).filter p = [] := by
    rw [List.filter_eq_nil_iff]
    intro x hx hp
    obtain ⟨i, hi, rfl⟩ := List.getElem_of_mem hx
    rw [List.length_drop] at hi
    have := (h (e + i) (by omega)).1 (by simpa [show e + i < l.length by omega] using hp)
    omega
  conv => lhs; rw [h0]
  rw [List.filter_append, List.filter_append, k1, k2, k3, List.nil_append, List.append_nil]
theorem grp_cut {W q : Int} {bs : List Bk} {s e : Nat} (hse : s ≤ e) (hel : e ≤ bs.length) (h : ∀ i, i < bs.length → ((bs.getD i k0).F / W = q ↔ s ≤ i ∧ i < e)) : grp W q bs = (bs.drop s).take (e - s) :=
  filter_cut bs k0 _ s e hse hel fun i hi => by rw [decide_eq_true_iff]; exact h i hi
theorem range_get {n i : Nat} (hi : i < n) : (List.range n).getD i 0 = i := by simp [hi]
theorem idx_cut {W q : Int} {bs : List Bk} {s e : Nat} (hse : s ≤ e) (hel : e ≤ bs.length) (h : ∀ i, i < bs.length → ((bs.getD i k0).F / W = q ↔ s ≤ i ∧ i < e)) : idx W q bs = List.range' s (e - s) := by
  unfold idx
  rw [filter_cut (List.range bs.length) 0 _ s e hse (by simpa using hel) (fun i hi => by rw [List.length_range] at hi; rw [range_get hi, decide_eq_true_iff]; exact h i hi)]
  apply List.ext_getElem
  · simp; omega
  · intro i h1 h2
    simp
def grpK (W q : Int) (bs : List Bk) (k : Nat) : List Bk := grp W q (bs.take k)
def idxK (W q : Int) (bs : List Bk) (k : Nat) : List Nat := (List.range k).filter fun i => decide ((bs.getD i k0).F / W = q)
theorem grpK_next {W q : Int} {bs : List Bk} {k : Nat} (hk : k < bs.length) : grpK W q bs (k + 1) = grpK W q bs k ++ (if (bs.getD k k0).F / W = q then [bs.getD k k0] else []) := by
  unfold grpK grp
  have e : bs[k]? = some (bs.getD k k0) := by simp [hk]
  rw [List.take_add_one, e, List.filter_append]
  congr 1
  by_cases h : (bs.getD k k0).F / W = q
  · rw [if_pos h]; simp only [Option.toList]; rw [List.filter_cons_of_pos (by simpa using h)]; rfl
  · rw [if_neg h]; simp only [Option.toList]; rw [List.filter_cons_of_neg (by simpa using h)]; rfl
theorem idxK_next {W q : Int} {bs : List Bk} {k : Nat} : idxK W q bs (k + 1) = idxK W q bs k ++ (if (bs.getD k k0).F / W = q then [k] else []) := by
  unfold idxK
  rw [List.range_succ, List.filter_append]
  congr 1
  by_cases h : (bs.getD k k0).F / W = q
  · rw [if_pos h, List.filter_cons_of_pos (by simpa using h)]; rfl
  · rw [if_neg h, List.filter_cons_of_neg (by simpa using h)]; rfl
theorem grpK_end (W q : Int) (bs : List Bk) : grpK W q bs bs.length = grp W q bs := by unfold grpK; rw [List.take_length]
theorem idxK_end (W q : Int) (bs : List Bk) : idxK W q bs bs.length = idx W q bs := rfl
end Go.Proofs.YtjhdmghpklagkaaGreat.Pln
