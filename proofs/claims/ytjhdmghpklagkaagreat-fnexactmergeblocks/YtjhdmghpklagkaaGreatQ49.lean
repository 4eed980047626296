/- The program's SelectBlocks; what is asked of its answer. -/
import Derived.Test.YtjhdmghpklagkaaGreatQ48
import Derived.Test.YtjhdmghpklagkaaGreatQ09
import Derived.Test.YtjhdmghpklagkaaGreatQ29
namespace Go.Proofs.YtjhdmghpklagkaaGreat.Hpl
open Go.RowKit
open Go.Proofs.YtjhdmghpklagkaaGreat.Stb
open Go.Proofs.YtjhdmghpklagkaaGreat.Lab (Lb HasL cmpList)
open Go.Proofs.YtjhdmghpklagkaaGreat.Smp (Sm HasS mrg)
open Go.Proofs.YtjhdmghpklagkaaGreat.Srs (Q q0 pl Pl OwnO MQb jF gdQ_iff fitq_of own_below okq_mem get_mem' good_goodP tot mrg_pos fit_mrg runs_all qOf GoodQ SmlQ)
open Go.Proofs.YtjhdmghpklagkaaGreat.Blk
open Go.Proofs.YtjhdmghpklagkaaGreat.Pat (Mt HasM goodM FitM)

/-- What each series has that blocks say together. -/
theorem shl_one {L : List Pl} (h : ∀ v ∈ L, v.1 ≠ [] ∧ v.2 ≠ [] ∧ v.1.length ≤ 20 ∧ Lab.Fit v.1 ∧ Smp.Fit v.2) : ∀ z ∈ puts ltP jF [] L, z.1 ≠ [] ∧ z.2 ≠ [] ∧ z.1.length ≤ 20 ∧ Lab.Fit z.1 ∧ Smp.Fit z.2 := by
  rw [← runs_isort ordP (show Jn ltP jF from jnP mrg)]
  refine runs_all (P := fun z => z.1 ≠ [] ∧ z.2 ≠ [] ∧ z.1.length ≤ 20 ∧ Lab.Fit z.1 ∧ Smp.Fit z.2) (fun x y hx hy => ⟨hx.1, mrg_pos hx.2.1, hx.2.2.1, hx.2.2.2.1, fit_mrg hx.2.2.2.2 hy.2.2.2.2⟩) _ (fun y hy => h y (isort_mem.1 hy))
theorem sels_ok {bs : List Bk} {ms : List Mt} {x y : Int} (hok : ∀ i, i < bs.length → Okm (ansM (bs.getD i k0) ms x y)) : ∀ k, k ≤ bs.length → ∀ v ∈ sels bs ms x y k, v.1 ≠ [] ∧ v.2 ≠ [] ∧ v.1.length ≤ 20 ∧ Lab.Fit v.1 ∧ Smp.Fit v.2
  | 0, _, v, hv => by simp [sels] at hv
  | k + 1, hk, v, hv => by
    rw [sels_next (by omega)] at hv
    rcases List.mem_append.1 hv with hv | hv
    · exact sels_ok hok k (by omega) v hv
    · have := (hok k (by omega)).one v hv
      exact ⟨this.1, this.2.1, this.2.2.1, this.2.2.2.2.1, this.2.2.2.2.2⟩
theorem sels_lim {bs : List Bk} {ms : List Mt} {x y : Int} (hok : ∀ i, i < bs.length → Okm (ansM (bs.getD i k0) ms x y)) : ∀ k, k ≤ bs.length → ∀ z ∈ puts ltP jF [] (sels bs ms x y k), z.2.length ≤ 2000 * k
  | 0, _, z, hz => by simp [sels, puts] at hz
  | k + 1, hk, z, hz => by
    rw [sels_next (by omega), puts_append] at hz
    have := puts_len (lt := ltP) (f := jF) (fun _ _ => rfl) (fun u v => Smp.mrg_len u.2 v.2) eqv_key (B := 2000 * k) (N := 2000) (sels_lim hok k (by omega)) (fun v hv => ((hok k (by omega)).one v hv).2.2.2.1) (hok k (by omega)).dis z hz
    have e2 : 2000 * (k + 1) = 2000 * k + 2000 := by omega
    rw [e2]; exact this
theorem shl_fit {R : List Q} {bs : List Bk} {ms : List Mt} {x y : Int} (h : R.map pl = shl bs ms x y) (hn : bs.length ≤ 100) (hok : ∀ i, i < bs.length → Okm (ansM (bs.getD i k0) ms x y)) : Srs.FitQ R ∧ SmlQ R := by
  have key : ∀ q ∈ R, q.l.length ≤ 20 ∧ q.s.length ≤ 200000 ∧ Lab.Fit q.l ∧ Smp.Fit q.s := fun q hq => by
    have hm : pl q ∈ shl bs ms x y := by rw [← h]; exact List.mem_map_of_mem hq
    have h1 := shl_one (sels_ok hok bs.length (Nat.le_refl _)) _ hm
    have h2 := sels_lim hok bs.length (Nat.le_refl _) _ hm
    exact ⟨h1.2.2.1, Nat.le_trans h2 (by omega), h1.2.2.2.1, h1.2.2.2.2⟩
  refine ⟨fitq_of fun q hq => ?_, fun i hi => ?_⟩
  · have := key q hq
    exact ⟨this.2.2.1, by unfold maxLen; omega, this.2.2.2, by unfold maxLen; omega⟩
  · have := key _ (get_mem' hi)
    exact ⟨by omega, by omega⟩
/-- Shelves that are alike say the same. -/
theorem sels_same {ms : List Mt} {x y : Int} {n : Nat} {bs d : List Bk} (s : SameK n bs d) (hn : bs.length = n) (hl : d.length = n) (hg : ∀ i, i < n → GoodB (bs.getD i k0)) (hm : goodM ms = true) : ∀ k, k ≤ n → sels d ms x y k = sels bs ms x y k
  | 0, _ => by simp [sels]
  | k + 1, hk => by
    rw [sels_next (by omega), sels_next (by omega), sels_same s hn hl hg hm k (by omega)]
    have h1 := (s k (by omega)).selF ms x y
    have g1 : gdB (bs.getD k k0) = true := gdB_iff.2 (hg k (by omega))
    have g2 : gdB (d.getD k k0) = true := by rw [(s k (by omega)).gd]; exact g1
    rw [selF_yes g1 hm, selF_yes g2 hm] at h1
    rw [h1]
end Go.Proofs.YtjhdmghpklagkaaGreat.Hpl
/- Blocks of a shelf merged: plain facts. -/
namespace Go.Proofs.YtjhdmghpklagkaaGreat.Mgb
open Go.RowKit
open Go.Proofs.YtjhdmghpklagkaaGreat.Stb
open Go.Proofs.YtjhdmghpklagkaaGreat.Smp (Sm cut)
open Go.Proofs.YtjhdmghpklagkaaGreat.Srs (Q q0 pl Pl qOf hit jF GoodQ)
open Go.Proofs.YtjhdmghpklagkaaGreat.Blk
open Go.Proofs.YtjhdmghpklagkaaGreat.Pat (Mt goodM allM)
open Go.Proofs.YtjhdmghpklagkaaGreat.Hpl
open Go.Proofs.YtjhdmghpklagkaaGreat.Shf (wid BadW)

/-- The greatest level. -/
def mxl (bs : List Bk) : Int := bs.foldl (fun a h => max a h.L) 0
theorem mxl_from : ∀ (bs : List Bk) (a : Int), bs.foldl (fun a h => max a (h.L + 1)) (a + 1) = bs.foldl (fun a h => max a h.L) a + 1
  | [], _ => rfl
  | h :: bs, a => by
    rw [List.foldl_cons, List.foldl_cons, show max (a + 1) (h.L + 1) = max a h.L + 1 by omega]
    exact mxl_from bs _
theorem mxl_one {h : Bk} {bs : List Bk} (h1 : 1 ≤ h.L) : (h :: bs).foldl (fun a h => max a (h.L + 1)) 0 = mxl (h :: bs) + 1 := by
  unfold mxl
  rw [List.foldl_cons, List.foldl_cons, show max 0 (h.L + 1) = max 0 h.L + 1 by omega]
  exact mxl_from bs _
theorem mxl_le {m : Int} : ∀ (bs : List Bk) (a : Int), a ≤ m → (∀ h ∈ bs, h.L ≤ m) → bs.foldl (fun a h => max a h.L) a ≤ m
  | [], a, ha, _ => ha
  | h :: bs, a, ha, hb => by
    rw [List.foldl_cons]
    have := hb h (by simp)
    exact mxl_le bs _ (by omega) (fun x hx => hb x (by simp [hx]))
theorem mxl_ge : ∀ (bs : List Bk) (a : Int), a ≤ bs.foldl (fun a h => max a h.L) a
  | [], _ => Int.le_refl _
  | h :: bs, a => by
    rw [List.foldl_cons]
    have := mxl_ge bs (max a h.L)
    omega
theorem get_of {bs : List Bk} {h : Bk} (hh : h ∈ bs) : ∃ i, i < bs.length ∧ bs.getD i k0 = h := by
  obtain ⟨i, hi, rfl⟩ := List.getElem_of_mem hh
  exact ⟨i, hi, by simp [hi]⟩
theorem mxl_bd {b : Int} {bs : List Bk} (g : GoodK b bs) : 0 ≤ mxl bs ∧ mxl bs ≤ 4 := by
  refine ⟨mxl_ge bs 0, mxl_le bs 0 (by omega) (fun h hh => ?_)⟩
  obtain ⟨i, hi, rfl⟩ := get_of hh
  exact (g.2.2 i hi).1.2
noncomputable def wdM (b : Int) (bs : List Bk) : Int := wid b (mxl bs + 1)
noncomputable def frM (b : Int) (bs : List Bk) : Int := (bs.getD 0 k0).F - (bs.getD 0 k0).F % wdM b bs
noncomputable def toM (b : Int) (bs : List Bk) : Int := frM b bs + wdM b bs
/-- What all blocks say together. -/
noncomputable def srM (bs : List Bk) : List Pl := shl bs [] 0 1000000000000
noncomputable def mbk (b : Int) (bs : List Bk) : Bk := ⟨frM b bs, toM b bs, mxl bs + 1, (srM bs).map qOf, none, 0, [], none, 0⟩
/-- All of them lie in the new block's span. -/
def InM (b : Int) (bs : List Bk) : Prop := ∀ i, i < bs.length → (bs.getD i k0).T ≤ toM b bs
theorem inM_last {b : Int} {bs : List Bk} (g : GoodK b bs) {n : Nat} (hn : bs.length = n + 1) : InM b bs ↔ (bs.getD n k0).T ≤ toM b bs := by
  refine ⟨fun h => h n (by omega), fun h i hi => ?_⟩
  by_cases e : i = n
  · rw [e]; exact h
  · have h1 := shelf_lt g n i (by omega) (by omega)
    have h2 := (g.2.2 n (by omega)).2.1.1
    unfold Blk.Head at h2
    omega
theorem map_qof (L : List Pl) : (L.map qOf).map pl = L := by
  rw [List.map_map]
  exact List.map_id' L
theorem cut_id {s : List Sm} {x y : Int} (h : ∀ p ∈ s, x ≤ p.1 ∧ p.1 ≤ y) : cut s x y = s := by
  unfold cut
  refine List.filter_eq_self.2 fun p hp => ?_
  have := h p hp
  simp [this.1, this.2]
theorem mdl_in {h : Bk} (g : GoodB h) {ms : List Mt} : ∀ k, k ≤ h.qs.length → ∀ v ∈ mdl h ms k, ∀ p ∈ v.2, h.F ≤ p.1 ∧ p.1 < h.T
  | 0, _, v, hv => by simp [mdl] at hv
  | k + 1, hk, v, hv => by
    rw [mdl] at hv
    rcases List.mem_append.1 hv with hv | hv
    · exact mdl_in g k (by omega) v hv
    · split at hv
      · obtain rfl : v = (lb h.qs k, md (spans (own1 h.ts (lb h.qs k))) (h.qs.getD k q0).s) := by simpa using hv
        intro p hp
        exact in_span g (show k < h.qs.length by omega) (md_mem _ _ hp)
      · simp at hv
/-- A span that has all of a block takes nothing away. -/
theorem ans_span {h : Bk} (g : GoodB h) {ms : List Mt} {x y x' y' : Int} (h1 : x ≤ h.F) (h2 : h.T - 1 ≤ y) (h1' : x' ≤ h.F) (h2' : h.T - 1 ≤ y') : ansM h ms x y = ansM h ms x' y' := by
  unfold ansM
  have key : ∀ v ∈ mdl h ms h.qs.length, hit val [] x y v = hit val [] x' y' v := fun v hv => by
    have hin := mdl_in g h.qs.length (Nat.le_refl _) v hv
    unfold hit
    rw [cut_id (s := v.2) (x := x) (y := y) (fun p hp => by have := hin p hp; omega), cut_id (s := v.2) (x := x') (y := y') (fun p hp => by have := hin p hp; omega)]
  revert key
  generalize mdl h ms h.qs.length = L
  intro key
  induction L with
  | nil => rfl
  | cons v L ih => rw [List.flatMap_cons, List.flatMap_cons, key v (by simp), ih (fun u hu => key u (by simp [hu]))]
theorem wdM_pos {b : Int} {bs : List Bk} (g : GoodK b bs) (h4 : mxl bs + 1 ≤ 4) : 1 ≤ wdM b bs ∧ wdM b bs ≤ 27000000 := by
  have h0 := (mxl_bd g).1
  have hb := g.1
  unfold wdM wid
  have hnb : ¬ BadW b (mxl bs + 1) := by unfold BadW; omega
  rw [if_neg hnb]
  split
  · omega
  · split
    · omega
    · split
      · omega
      · omega
theorem fr_le {b : Int} {bs : List Bk} (g : GoodK b bs) (h4 : mxl bs + 1 ≤ 4) (hne : 0 < bs.length) : 0 ≤ frM b bs ∧ frM b bs ≤ (bs.getD 0 k0).F ∧ frM b bs ≤ 1000000000000 := by
  have hw := wdM_pos g h4
  have h1 := (g.2.2 0 hne).2.1.1
  unfold Blk.Head at h1
  unfold frM
  have m0 := Int.emod_nonneg (bs.getD 0 k0).F (show wdM b bs ≠ 0 by omega)
  have m1 := Int.emod_lt_of_pos (bs.getD 0 k0).F (show 0 < wdM b bs by omega)
  have m2 : (bs.getD 0 k0).F % wdM b bs ≤ (bs.getD 0 k0).F := by
    have := Int.emod_add_mul_ediv (bs.getD 0 k0).F (wdM b bs)
    have h3 : 0 ≤ wdM b bs * ((bs.getD 0 k0).F / wdM b bs) := Int.mul_nonneg (by omega) (Int.ediv_nonneg (by omega) (by omega))
    omega
  omega
theorem shelf_F {b : Int} {bs : List Bk} (g : GoodK b bs) (i : Nat) (hi : i < bs.length) : (bs.getD 0 k0).F ≤ (bs.getD i k0).F := by
  by_cases e : i = 0
  · rw [e]; exact Int.le_refl _
  · have h1 := shelf_lt g i 0 (by omega) hi
    have h2 := (g.2.2 0 (by omega)).2.1.1
    unfold Blk.Head at h2
    omega
/-- The program's span takes nothing away, nor does the model's. -/
theorem sels_span {b : Int} {bs : List Bk} (g : GoodK b bs) (h4 : mxl bs + 1 ≤ 4) (hin : InM b bs) : ∀ k, k ≤ bs.length → sels bs [] (frM b bs) (toM b bs - 1) k = sels bs [] 0 1000000000000 k
  | 0, _ => by simp [sels]
  | k + 1, hk => by
    rw [sels_next (by omega), sels_next (by omega), sels_span g h4 hin k (by omega)]
    have hF := fr_le g h4 (by omega)
    have h1 := shelf_F g k (by omega)
    have h2 := hin k (by omega)
    have hg := (g.2.2 k (by omega)).2.1
    have h3 := hg.1
    unfold Blk.Head at h3
    rw [ans_span (x := frM b bs) (y := toM b bs - 1) (x' := 0) (y' := 1000000000000) hg (by omega) (by omega) (by omega) (by omega)]
theorem shl_span {b : Int} {bs : List Bk} (g : GoodK b bs) (h4 : mxl bs + 1 ≤ 4) (hin : InM b bs) : shl bs [] (frM b bs) (toM b bs - 1) = srM bs := by
  unfold srM shl
  rw [sels_span g h4 hin bs.length (Nat.le_refl _)]
/-- There is a merged block. -/
def okM (b : Int) (bs : List Bk) : Prop := 0 < bs.length ∧ mxl bs + 1 ≤ 4 ∧ InM b bs ∧ GoodB (mbk b bs)
noncomputable instance (b : Int) (bs : List Bk) : Decidable (okM b bs) := Classical.propDecidable _
noncomputable def okB (b : Int) (bs : List Bk) : Bool := decide (okM b bs)
theorem same_mbk {b : Int} {bs : List Bk} {R : List Q} {a : Option Addr} {c : Nat} (h : R.map pl = srM bs) : SameB (mbk b bs) ⟨frM b bs, toM b bs, mxl bs + 1, R, a, c, [], none, 0⟩ := by
  have hs := Srs.same_mapJ (map_qof (srM bs)) h
  exact ⟨rfl, rfl, rfl, hs.1, rfl, hs.2, fun i hi => by simp [mbk] at hi⟩
end Go.Proofs.YtjhdmghpklagkaaGreat.Mgb
