/- The program's planOfLevel. -/
import Derived.Test.YtjhdmghpklagkaaGreatD41
import Derived.Test.YtjhdmghpklagkaaGreatD42
namespace Go.Proofs.YtjhdmghpklagkaaGreat.Pln
open Go.RowKit
open Go.Proofs.YtjhdmghpklagkaaGreat.Stb
open Go.Proofs.YtjhdmghpklagkaaGreat.Srs (q0 lt_at kept set_at OwnO)
open Go.Proofs.YtjhdmghpklagkaaGreat.Blk
open Go.Proofs.YtjhdmghpklagkaaGreat.Mgb
open Go.Proofs.YtjhdmghpklagkaaGreat.Hpl
open Go.Proofs.YtjhdmghpklagkaaGreat.Shf (wid BadW)

abbrev ag7 (s t : Int) (h : Bk) : Value := .agg #[.int .i64 s, .int .i64 t, .int .i64 h.F, .int .i64 h.T, .int .i64 h.L, .slice h.a h.qs.length h.c, .slice h.b h.ts.length h.d]
abbrev Z7 : Obj := .cells #[.int .i64 0, .int .i64 0, .int .i64 0, .int .i64 0, .int .i64 0, .slice none 0 0, .slice none 0 0] 59
theorem seven {x : World} {b : Nat} {v0 v1 v2 v3 v4 v5 v6 : Value} {t : TypeId} (h : x.heap[b]? = some (.cells #[v0, v1, v2, v3, v4, v5, v6] t)) : x.cell? ⟨b, 0, none⟩ = some v0 ∧ x.cell? ⟨b, 1, none⟩ = some v1 ∧ x.cell? ⟨b, 2, none⟩ = some v2 ∧ x.cell? ⟨b, 3, none⟩ = some v3 ∧ x.cell? ⟨b, 4, none⟩ = some v4 ∧ x.cell? ⟨b, 5, none⟩ = some v5 ∧ x.cell? ⟨b, 6, none⟩ = some v6 := by
  refine ⟨?_, ?_, ?_, ?_, ?_, ?_, ?_⟩ <;> simp [World.cell?, h]
theorem seven_frz {x : World} {b o : Nat} {v0 v1 v2 v3 v4 v5 v6 : Value} {t : TypeId} (h : x.heap[b]? = some (.cells #[v0, v1, v2, v3, v4, v5, v6] t)) : x.frozen? ⟨b, o, none⟩ = false := by
  simp [World.frozen?, h]
def put7 (x : World) (B : Nat) (v0 v1 v2 v3 v4 v5 v6 : Value) : World := (((((((x.setCell ⟨B, 0, none⟩ v0).setCell ⟨B, 1, none⟩ v1).setCell ⟨B, 2, none⟩ v2).setCell ⟨B, 3, none⟩ v3).setCell ⟨B, 4, none⟩ v4).setCell ⟨B, 5, none⟩ v5).setCell ⟨B, 6, none⟩ v6)
theorem put7_at {x : World} {B : Nat} {v0 v1 v2 v3 v4 v5 v6 u0 u1 u2 u3 u4 u5 u6 : Value} {t : TypeId} (h : x.heap[B]? = some (.cells #[u0, u1, u2, u3, u4, u5, u6] t)) : (put7 x B v0 v1 v2 v3 v4 v5 v6).heap[B]? = some (.cells #[v0, v1, v2, v3, v4, v5, v6] t) := by
  have h0 : (x.setCell ⟨B, 0, none⟩ v0).heap[B]? = some (.cells #[v0, u1, u2, u3, u4, u5, u6] t) := set_at (i := 0) h
  unfold put7
  generalize x.setCell ⟨B, 0, none⟩ v0 = x at *
  have h1 : (x.setCell ⟨B, 1, none⟩ v1).heap[B]? = some (.cells #[v0, v1, u2, u3, u4, u5, u6] t) := set_at (i := 1) h0
  generalize x.setCell ⟨B, 1, none⟩ v1 = x at *
  have h2 : (x.setCell ⟨B, 2, none⟩ v2).heap[B]? = some (.cells #[v0, v1, v2, u3, u4, u5, u6] t) := set_at (i := 2) h1
  generalize x.setCell ⟨B, 2, none⟩ v2 = x at *
  have h3 : (x.setCell ⟨B, 3, none⟩ v3).heap[B]? = some (.cells #[v0, v1, v2, v3, u4, u5, u6] t) := set_at (i := 3) h2
  generalize x.setCell ⟨B, 3, none⟩ v3 = x at *
  have h4 : (x.setCell ⟨B, 4, none⟩ v4).heap[B]? = some (.cells #[v0, v1, v2, v3, v4, u5, u6] t) := set_at (i := 4) h3
  generalize x.setCell ⟨B, 4, none⟩ v4 = x at *
  have h5 : (x.setCell ⟨B, 5, none⟩ v5).heap[B]? = some (.cells #[v0, v1, v2, v3, v4, v5, u6] t) := set_at (i := 5) h4
  generalize x.setCell ⟨B, 5, none⟩ v5 = x at *
  exact set_at (i := 6) h5
theorem put7_below {N : Nat} {w x : World} {B : Nat} {v0 v1 v2 v3 v4 v5 v6 : Value} (hb : Below N w x) (hB : N ≤ B) : Below N w (put7 x B v0 v1 v2 v3 v4 v5 v6) :=
  Below.setCell (p := ⟨B, 6, none⟩) (Below.setCell (p := ⟨B, 5, none⟩) (Below.setCell (p := ⟨B, 4, none⟩) (Below.setCell (p := ⟨B, 3, none⟩) (Below.setCell (p := ⟨B, 2, none⟩) (Below.setCell (p := ⟨B, 1, none⟩) (Below.setCell (p := ⟨B, 0, none⟩) hb hB _) hB _) hB _) hB _) hB _) hB _) hB _
theorem put7_gr (x : World) (B : Nat) (v0 v1 v2 v3 v4 v5 v6 : Value) : x.grownBy (put7 x B v0 v1 v2 v3 v4 v5 v6) (some B) :=
  gr_set (gr_set (gr_set (gr_set (gr_set (gr_set (set_gr x B 0 v0) 1 v1) 2 v2) 3 v3) 4 v4) 5 v5) 6 v6

def Bel (L : Int) (bs : List Bk) (s e : Nat) : Prop := ∃ i, s ≤ i ∧ i < e ∧ (bs.getD i k0).L = L - 1
noncomputable instance (L : Int) (bs : List Bk) (s e : Nat) : Decidable (Bel L bs s e) := Classical.propDecidable _
noncomputable def bel (L : Int) (bs : List Bk) (s e : Nat) : Bool := decide (Bel L bs s e)
theorem bel_next {L : Int} {bs : List Bk} {s e : Nat} (h : s ≤ e) : bel L bs s (e + 1) = (bel L bs s e || decide ((bs.getD e k0).L = L - 1)) := by
  unfold bel
  rw [Bool.eq_iff_iff]
  simp only [Bool.or_eq_true, decide_eq_true_iff]
  constructor
  · rintro ⟨i, h1, h2, h3⟩
    by_cases e' : i = e
    · rw [e'] at h3; exact .inr h3
    · exact .inl ⟨i, h1, by omega, h3⟩
  · rintro (⟨i, h1, h2, h3⟩ | h3)
    · exact ⟨i, h1, by omega, h3⟩
    · exact ⟨e, h, by omega, h3⟩
theorem bel_none (L : Int) (bs : List Bk) (s : Nat) : bel L bs s s = false := decide_eq_false (by rintro ⟨i, h1, h2, _⟩; omega)
structure At (b L : Int) (bs : List Bk) (k : Nat) : Prop where
  no : ∀ q, (∀ i, k ≤ i → i < bs.length → q < (bs.getD i k0).F / wid b L) → ¬ Cand b L q bs
  lt : ∀ i j, i < k → k ≤ j → j < bs.length → (bs.getD i k0).F / wid b L < (bs.getD j k0).F / wid b L
theorem At.zero (b L : Int) (bs : List Bk) : At b L bs 0 := ⟨fun q h c => by
  obtain ⟨j, hj, _, e⟩ := c.1
  have := h j (by omega) hj
  omega, fun i j h => by omega⟩
theorem At.end {b L : Int} {bs : List Bk} (h : At b L bs bs.length) (q : Int) : ¬ Cand b L q bs := h.no q (fun i h1 h2 => by omega)
structure Gr (b L : Int) (bs : List Bk) (s e : Nat) (q : Int) : Prop where
  se : s < e
  el : e ≤ bs.length
  iff : ∀ i, i < bs.length → ((bs.getD i k0).F / wid b L = q ↔ s ≤ i ∧ i < e)
  beh : ∀ i, e ≤ i → i < bs.length → q < (bs.getD i k0).F / wid b L
theorem gr_of {b L : Int} {bs : List Bk} (g : GoodK b bs) (h2 : 2 ≤ L) (h4 : L ≤ 4) {s e : Nat} (a : At b L bs s) (hs : s < bs.length) (hse : s ≤ e) (hel : e ≤ bs.length) (h1 : ∀ i, s ≤ i → i < e → (bs.getD i k0).F < wid b L * ((bs.getD s k0).F / wid b L) + wid b L)
    (h3 : e = bs.length ∨ wid b L * ((bs.getD s k0).F / wid b L) + wid b L ≤ (bs.getD e k0).F) : Gr b L bs s e ((bs.getD s k0).F / wid b L) := by
  have hW := wid_pos' g.1 (L := L) (by omega) h4
  have e0 := (div_iff (q := (bs.getD s k0).F / wid b L) (F := (bs.getD s k0).F) hW.1).1 rfl
  have hbe : ∀ i, e ≤ i → i < bs.length → (bs.getD s k0).F / wid b L < (bs.getD i k0).F / wid b L := fun i hi hl => by
    rcases h3 with h3 | h3
    · omega
    · have m := F_mono g hi hl
      have m2 := div_mono hW.1 (F_mono g (show s ≤ i by omega) hl)
      rcases Int.lt_or_eq_of_le m2 with h | h
      · exact h
      · have := (div_iff hW.1).1 h.symm
        omega
  refine ⟨?_, hel, fun i hi => ?_, hbe⟩
  · rcases Nat.lt_or_ge s e with h | h
    · exact h
    · obtain rfl : s = e := by omega
      rcases h3 with h3 | h3 <;> omega
  · constructor
    · intro hq
      refine ⟨?_, ?_⟩
      · rcases Nat.lt_or_ge i s with h | h
        · have := a.lt i s h (Nat.le_refl _) hs; omega
        · exact h
      · rcases Nat.lt_or_ge i e with h | h
        · exact h
        · have := hbe i h hi; omega
    · rintro ⟨k1, k2⟩
      have := F_mono g k1 hi
      exact (div_iff hW.1).2 ⟨by omega, h1 i k1 k2⟩
theorem At.next {b L : Int} {bs : List Bk} {s e : Nat} {q : Int} (a : At b L bs s) (r : Gr b L bs s e q) (hn : ¬ Cand b L q bs) (hq : ∀ i, s ≤ i → i < bs.length → q ≤ (bs.getD i k0).F / wid b L) : At b L bs e := by
  refine ⟨fun q' h c => ?_, fun i j h1 h2 h3 => ?_⟩
  · rcases Int.lt_trichotomy q' q with h5 | h5 | h5
    · exact a.no q' (fun i hi hl => by have := hq i hi hl; omega) c
    · subst h5; exact hn c
    · obtain ⟨j, hj, _, e1⟩ := c.1
      by_cases hje : e ≤ j
      · have := h j hje hj; omega
      · by_cases hsj : s ≤ j
        · have := (r.iff j hj).2 ⟨hsj, by omega⟩; omega
        · have hs := r.se
          have hl := r.el
          have := a.lt j s (by omega) (Nat.le_refl _) (by omega)
          have := (r.iff s (by omega)).2 ⟨Nat.le_refl _, hs⟩
          omega
  · have hj := r.beh j h2 h3
    by_cases hsi : s ≤ i
    · have := (r.iff i (by omega)).2 ⟨hsi, h1⟩; omega
    · have hs := r.se
      have := a.lt i j (by omega) (by omega) h3; omega
theorem cand_iff {b L : Int} {bs : List Bk} (g : GoodK b bs) (h2 : 2 ≤ L) (h4 : L ≤ 4) {s e : Nat} {q : Int} (r : Gr b L bs s e q) : Cand b L q bs ↔ Bel L bs s e ∧ e < bs.length ∧ okM b ((bs.drop s).take (e - s)) := by
  have hW := wid_pos' g.1 (L := L) (by omega) h4
  have hs := r.se
  have hl := r.el
  unfold Cand
  rw [grp_cut (Nat.le_of_lt r.se) r.el r.iff]
  refine and_congr ?_ (and_congr ?_ Iff.rfl)
  · constructor
    · rintro ⟨j, hj, k1, k2⟩
      have := (r.iff j hj).1 k2
      exact ⟨j, this.1, this.2, k1⟩
    · rintro ⟨j, k1, k2, k3⟩
      exact ⟨j, by omega, k3, (r.iff j (by omega)).2 ⟨k1, k2⟩⟩
  · constructor
    · intro h
      rcases Nat.lt_or_ge e bs.length with h5 | h5
      · exact h5
      · have := (r.iff (bs.length - 1) (by omega)).2 (by omega)
        have := (div_iff hW.1).1 this
        omega
    · intro h
      have h5 := r.beh (bs.length - 1) (by omega) (by omega)
      have h6 := Int.emod_add_mul_ediv (bs.getD (bs.length - 1) k0).F (wid b L)
      have h7 := Int.emod_nonneg (bs.getD (bs.length - 1) k0).F (show wid b L ≠ 0 by omega)
      have h8 : wid b L * (q + 1) ≤ wid b L * ((bs.getD (bs.length - 1) k0).F / wid b L) := Int.mul_le_mul_of_nonneg_left (by omega) (by omega)
      rw [Int.mul_add] at h8
      omega
structure PLy (b L : Int) (bs : List Bk) (s e : Nat) (q : Int) (hG : Bk) (X : Nat) (w : World) : Prop where
  gr : Gr b L bs s e q
  cand : Cand b L q bs
  fst : ∀ q', q' < q → ¬ Cand b L q' bs
  same : SameB (mbk b (grp (wid b L) q bs)) hG
  own : Am X hG w
def PL (b L : Int) (bs : List Bk) (s e : Nat) (hG : Bk) (ok : Bool) (X : Nat) (w : World) : Prop :=
  (ok = true ∧ ∃ q, PLy b L bs s e q hG X w) ∨ (ok = false ∧ s = 0 ∧ e = 0 ∧ ∀ q, ¬ Cand b L q bs)
theorem has_cut {w : World} {b off : Nat} {bs : List Bk} {s e : Nat} (h : HasK w (some ⟨b, off, none⟩) bs) : HasK w (some ⟨b, off + s * 5, none⟩) ((bs.drop s).take (e - s)) := by
  rcases h with h | ⟨b', off', h1, h2, h3⟩
  · left; rw [h]; simp
  · cases h1
    refine .inr ⟨b, off + s * 5, rfl, h2, fun i hi => ?_⟩
    rw [List.length_take, List.length_drop] at hi
    have hg : ((bs.drop s).take (e - s)).getD i k0 = bs.getD (s + i) k0 := by simp [List.getD, show i < e - s by omega]
    rw [hg, show off + s * 5 + i * 5 = off + (s + i) * 5 by omega]
    exact h3 (s + i) (by omega)
set_option maxRecDepth 10000 in
set_option maxHeartbeats 8000000 in
theorem f73 (b L : Int) (a : Option Addr) (n c : Nat) (bs : List Bk) (w : World) (g : GoodK b bs) (h2 : 2 ≤ L) (h4 : L ≤ 4) (hn : bs.length = n) (hc : n ≤ c) (hr : HasK w a bs) (hf : FitK bs) (hz : SmlK bs)
    (hd : ∀ i, i < n → (bs.getD i k0).ts.length ≤ (bs.getD i k0).d ∧ ∀ j, j < (bs.getD i k0).qs.length → ((bs.getD i k0).qs.getD j q0).s.length ≤ ((bs.getD i k0).qs.getD j q0).d) :
    Calls Tryz.prog 73 #[.int .i64 b, .int .i64 L, .slice a n c] w fun e w' => ∃ (s t : Nat) (hG : Bk) (ok : Bool), e = .returned (.tuple #[ag7 s t hG, .bool ok]) ∧ Hid (PL b L bs s t hG ok w.heap.size w') ∧ Below w.heap.size w w' := by
  have HN := hid hn
  have HR := hid hr
  have HF := hid hf
  have HZ := hid hz
  have HD := hid hd
  have HGK := hid g
  have hn100 : n ≤ 100 := by rw [← hn]; exact g.2.1
  have hb12 := g.1
  have HO0 := hid (heap_alloc_new w Z7)
  have HB0 := hid ((Below.refl w.heap.size w).alloc (Nat.le_refl _) Z7)
  have hW := wid_pos' g.1 (L := L) (by omega) h4
  have HWo := hid (fun x => Shf.f71 b L x (by omega) (by omega) (by omega) (by omega))
  have HA0 : Hid (At b L bs 0) := At.zero b L bs
  obtain ⟨wv, hwv⟩ : ∃ wv, wv = wid b L := ⟨_, rfl⟩
  rw [← hwv] at hW HWo
  have HWv := hid hwv
  clear hn hr hf hz hd g hwv
  go_enter Tryz.func73, Tryz.ntmps73
  go_wp2_with fail
  refine (HWo.out _).mono ?_
  rintro e w1 ⟨rfl, hb1⟩
  have HO1 := hid (kept HO0.out hb1)
  have HB1 := hid (HB0.out.trans (hb1.mono HB0.out.size))
  clear hb1 HO0 HB0 HWo
  go_wp2
  go_loopw [9] (fun s9 wr => ∃ (k : Nat), k ≤ n ∧ s9 = .int .i64 k ∧ Hid (At b L bs k) ∧ Hid (wr.heap[w.heap.size]? = some Z7) ∧ Hid (Below w.heap.size w wr)) (fun si _ => n - (intOf si).toNat)
  case atStart => exact ⟨0, Nat.zero_le _, rfl, HA0.out, HO1.out, HB1.out⟩
  case round =>
    clear HO1 HB1 HA0
    obtain ⟨k, hk, rfl, HA, HO, HB⟩ := hrel
    by_cases hlt : k < n
    rotate_left
    · obtain rfl : k = n := by omega
      have HE : Hid (∀ q, ¬ Cand b L q bs) := by
        have h := HA.out
        rw [← HN.out] at h
        exact h.end
      obtain ⟨e0, e1, e2, e3, e4, e5, e6⟩ := seven HO.out
      have u0 := seven_frz (o := 0) HO.out
      have u1 := seven_frz (o := 1) HO.out
      have u2 := seven_frz (o := 2) HO.out
      have u3 := seven_frz (o := 3) HO.out
      have u4 := seven_frz (o := 4) HO.out
      have u5 := seven_frz (o := 5) HO.out
      have u6 := seven_frz (o := 6) HO.out
      have HP : Hid ((put7 wr w.heap.size (.int .i64 0) (.int .i64 0) (.int .i64 0) (.int .i64 0) (.int .i64 0) (.slice none 0 0) (.slice none 0 0)).heap[w.heap.size]? = some Z7 ∧ Below w.heap.size w (put7 wr w.heap.size (.int .i64 0) (.int .i64 0) (.int .i64 0) (.int .i64 0) (.int .i64 0) (.slice none 0 0) (.slice none 0 0))) := ⟨put7_at HO.out, put7_below HB.out (Nat.le_refl _)⟩
      rw [put7] at HP
      go_wp2
      generalize hwf : World.setCell _ _ _ = wf
      rw [hwf] at HP
      clear hwf
      refine bodyPost_ret (v := .tuple #[ag7 0 0 k0, .bool false]) ?_ rfl ⟨0, 0, k0, false, rfl, .inr ⟨rfl, rfl, rfl, HE.out⟩, HP.out.2⟩
      obtain ⟨y0, y1, y2, y3, y4, y5, y6⟩ := seven HP.out.1
      simp [results, Tryz.results73, go_sem, y0, y1, y2, y3, y4, y5, y6, k0]
    have HRr := hid (HR.out.below HB.out)
    obtain ⟨bb, off, rfl, hbl, hcc, t1⟩ := HRr.out.at2 k (by rw [HN.out]; exact hlt)
    obtain ⟨c0, -, -, -, -⟩ := hcc
    have hHd := (HGK.out.2.2 k (by rw [HN.out]; exact hlt)).2.1.1
    unfold Blk.Head at hHd
    have HSf := hid (fun x => f72 (bs.getD k k0).F wv x hHd.1.1 (by omega) hW.1 hW.2)
    have HGr := hid (fun e => gr_of (e := e) HGK.out h2 h4 HA.out (by rw [HN.out]; exact hlt))
    have HSm := hid (sub_mod (bs.getD k k0).F wv)
    have hf0 := hHd.1.1
    have hf1 := hHd.1.2
    rw [← HWv.out] at HGr
    obtain ⟨fk, hfk⟩ : ∃ fk, fk = (bs.getD k k0).F := ⟨_, rfl⟩
    rw [← hfk] at c0 HSf HGr HSm hf0 hf1
    have HFk := hid hfk
    obtain ⟨fv, hfv⟩ : ∃ fv, fv = fk - fk % wv := ⟨_, rfl⟩
    have hm0 := Int.emod_nonneg fk (show wv ≠ 0 by omega)
    have hm1 := Int.emod_lt_of_pos fk (show 0 < wv by omega)
    rw [← hfv] at HSf HSm
    have hv0 : -27000000 ≤ fv := by omega
    have hv1 : fv ≤ 1000000000000 := by omega
    have i1 : (k : Int) < (n : Int) := by omega
    clear t1 hbl hHd hfk hfv hm0 hm1
    go_wp2_with (first | (go_at_call 72; refine (HSf.out _).mono ?_; rintro e w2 ⟨rfl, hw2⟩; have hw2' := hw2.symm; subst hw2') | fail)
    clear c0
    go_loop [11, 12] (fun s11 s12 => ∃ (e : Nat) (bl : Bool), k ≤ e ∧ e ≤ n ∧ s11 = .int .i64 e ∧ s12 = .bool bl ∧ Hid (bl = bel L bs k e) ∧ Hid (∀ i, k ≤ i → i < e → (bs.getD i k0).F < fv + wv)) (fun s11 _ => n - (intOf s11).toNat)
    case atStart => exact ⟨k, false, Nat.le_refl _, hk, rfl, rfl, (bel_none L bs k).symm, fun i h1 h2 => by omega⟩
    case round =>
      obtain ⟨e, bl, hke, hen, rfl, rfl, HBl, HLt⟩ := hrel
      by_cases hin : e < n ∧ (bs.getD e k0).F < fv + wv
      · obtain ⟨hin1, hin2⟩ := hin
        obtain ⟨bb', off', hbe, hbl, hcc, t1⟩ := HRr.out.at2 e (by rw [HN.out]; exact hin1)
        cases hbe
        obtain ⟨c0, -, c2, -, -⟩ := hcc
        have HNx := hid (bel_next (L := L) (bs := bs) hke)
        have HLt2 : Hid (∀ i, k ≤ i → i < e + 1 → (bs.getD i k0).F < fv + wv) := fun i h1 h2 => by
          by_cases e' : i = e
          · rw [e']; exact hin2
          · exact HLt.out i h1 (by omega)
        rw [← HBl.out] at HNx
        have hl12 := (HGK.out.2.2 e (by rw [HN.out]; exact hin1)).1
        generalize (bs.getD e k0).F = fe at *
        generalize (bs.getD e k0).L = le at *
        have i2 : (e : Int) < (n : Int) := by omega
        clear hbl t1
        cases bl
        · by_cases hle : le = L - 1
          · have g1 : (le == L - 1) = true := by rw [hle]; simp
            have HNy : Hid (bel L bs k (e + 1) = true) := by unfold Hid; rw [HNx.out]; simp [hle]
            go_wp2
            go_round
            case rel => exact ⟨e + 1, true, by omega, by omega, by go_num, rfl, HNy.out.symm, HLt2⟩
            case measure => simp [intOf]; omega
          · have g1 : (le == L - 1) = false := by rw [beq_eq_false_iff_ne]; exact hle
            have HNy : Hid (bel L bs k (e + 1) = false) := by unfold Hid; rw [HNx.out]; simp [hle]
            go_wp2
            go_round
            case rel => exact ⟨e + 1, false, by omega, by omega, by go_num, rfl, HNy.out.symm, HLt2⟩
            case measure => simp [intOf]; omega
        · have HNy : Hid (bel L bs k (e + 1) = true) := by unfold Hid; rw [HNx.out]; simp
          go_wp2
          go_round
          case rel => exact ⟨e + 1, true, by omega, by omega, by go_num, rfl, HNy.out.symm, HLt2⟩
          case measure => simp [intOf]; omega
      have HSt : Hid (e = n ∨ fv + wv ≤ (bs.getD e k0).F) := by
        by_cases e' : e < n
        · exact .inr (by have : ¬ (bs.getD e k0).F < fv + wv := fun h => hin ⟨e', h⟩; omega)
        · exact .inl (by omega)
      have HG : Hid (Gr b L bs k e (fk / wv)) := by
        have h := HGr.out e hke (by rw [HN.out]; exact hen)
        rw [← HSm.out, HN.out] at h
        exact h HLt.out HSt.out
      have HCi := hid (cand_iff HGK.out h2 h4 HG.out)
      rw [HN.out] at HCi
      have HNxt : Hid (¬ Cand b L (fk / wv) bs → At b L bs e) := fun hnc => HA.out.next HG.out hnc (fun i h1 h2 => by
        have h3 := F_mono HGK.out h1 h2
        rw [← HFk.out] at h3
        rw [← HWv.out]
        exact div_mono hW.1 h3)
      have hke2 : k < e := HG.out.se
      by_cases hgo : bl = true ∧ e < n
      rotate_left
      · have HNo : Hid (At b L bs e) := HNxt.out (fun h => by
          have h1 := HCi.out.1 h
          refine hgo ⟨?_, h1.2.1⟩
          rw [HBl.out]
          exact decide_eq_true h1.1)
        by_cases hen2 : e < n
        · have hbl : bl = false := by
            cases bl
            · rfl
            · exact absurd ⟨rfl, hen2⟩ hgo
          subst hbl
          obtain ⟨bb', off', hbe, hbl, hcc, t1⟩ := HRr.out.at2 e (by rw [HN.out]; exact hen2)
          cases hbe
          obtain ⟨c0, -, -, -, -⟩ := hcc
          have hst : ¬ (bs.getD e k0).F < fv + wv := fun h => hin ⟨hen2, h⟩
          generalize (bs.getD e k0).F = fe at *
          have i2 : (e : Int) < (n : Int) := by omega
          clear hin hgo hbl t1
          go_wp2
          go_roundw
          case rel => exact ⟨e, hen, rfl, HNo, HO, HB⟩
          case measure => simp [intOf]; omega
        · obtain rfl : e = n := by omega
          clear hin hgo
          cases bl
          · go_wp2
            go_roundw
            case rel => exact ⟨e, hen, rfl, HNo, HO, HB⟩
            case measure => simp [intOf]; omega
          · go_wp2
            go_roundw
            case rel => exact ⟨e, hen, rfl, HNo, HO, HB⟩
            case measure => simp [intOf]; omega
      obtain ⟨rfl, hen2⟩ := hgo
      obtain ⟨bb', off', hbe, hbl, hcc, t1⟩ := HRr.out.at2 e (by rw [HN.out]; exact hen2)
      cases hbe
      obtain ⟨c0, -, -, -, -⟩ := hcc
      have hst : ¬ (bs.getD e k0).F < fv + wv := fun h => hin ⟨hen2, h⟩
      generalize (bs.getD e k0).F = fe at *
      have i2 : (e : Int) < (n : Int) := by omega
      clear hin hbl t1
      have HBe : Hid (Bel L bs k e) := by
        have h := HBl.out
        unfold bel at h
        exact of_decide_eq_true (p := Bel L bs k e) h.symm
      have HGc := hid (grp_cut (W := wid b L) (Nat.le_of_lt hke2) (by rw [HN.out]; exact hen) HG.out.iff)
      have HSub : Hid (((bs.drop k).take (e - k)).length = e - k) := by unfold Hid; rw [List.length_take, List.length_drop, HN.out]; omega
      have HGs : Hid (GoodK b ((bs.drop k).take (e - k))) := by unfold Hid; rw [← HGc.out]; exact good_filter HGK.out _
      have HFs : Hid (FitK ((bs.drop k).take (e - k))) := by unfold Hid; rw [← HGc.out]; exact fit_filter _ HF.out
      have HZs : Hid (SmlK ((bs.drop k).take (e - k))) := by unfold Hid; rw [← HGc.out]; exact sml_filter _ HZ.out
      have HDs : Hid (∀ i, i < e - k → (((bs.drop k).take (e - k)).getD i k0).ts.length ≤ (((bs.drop k).take (e - k)).getD i k0).d ∧ ∀ j, j < (((bs.drop k).take (e - k)).getD i k0).qs.length → ((((bs.drop k).take (e - k)).getD i k0).qs.getD j q0).s.length ≤ ((((bs.drop k).take (e - k)).getD i k0).qs.getD j q0).d) := by
        intro i hi
        rw [← HGc.out]
        obtain ⟨j, hj, e'⟩ := get_filter (bs := bs) (fun h => decide (h.F / wid b L = fk / wv)) (i := i) (by
          have h1 := congrArg List.length HGc.out
          unfold grp at h1
          rw [h1, HSub.out]; exact hi)
        unfold grp
        rw [e']
        exact HD.out j (by rw [← HN.out]; exact hj)
      have HMc := hid (fun x hx => f41 b (some ⟨bb, off + k * 5, none⟩) (e - k) (c - k) ((bs.drop k).take (e - k)) x HGs.out HSub.out hx HFs.out HZs.out HDs.out)
      have HRs : Hid (HasK wr (some ⟨bb, off + k * 5, none⟩) ((bs.drop k).take (e - k))) := has_cut HRr.out
      rw [← HGc.out] at HMc HRs HCi
      clear HGs HFs HZs HDs HSub
      go_wp2_with fail
      refine (HMc.out _ HRs.out).mono ?_
      rintro e4 w3 ⟨hG, rfl, hh, hb3⟩
      have HH := hid hh.out
      have HO3 := hid (kept HO.out hb3)
      have HB3 := hid (HB.out.trans (hb3.mono HB.out.size))
      have hl2 : w.heap.size < wr.heap.size := lt_at HO.out
      clear hh hb3 HMc c0 HRs
      obtain ⟨gg, hgg⟩ : ∃ gg, gg = grp (wid b L) (fk / wv) bs := ⟨_, rfl⟩
      rw [← hgg] at HH HCi ⊢
      have HGg := hid hgg
      clear hgg
      obtain ⟨F, TT, LL, qs, ga, gc, ts, gb, gd⟩ := hG
      simp only [agB, clB]
      obtain ⟨W4, hW4⟩ : ∃ W, W = w3.alloc (.cells #[.int .i64 F, .int .i64 TT, .int .i64 LL, .slice ga qs.length gc, .slice gb ts.length gd] 36) := ⟨_, rfl⟩
      obtain ⟨hba, hbx⟩ := two_new hW4
      have HO4 := hid (kept HO3.out hba)
      have HB4 := hid (HB3.out.trans (hba.mono HB3.out.size))
      have HX4 := hid hbx
      have HA4 := hid hba
      clear hba hbx HO3
      go_upto_region 11 with fail
      rw [← hW4]
      clear hW4
      by_cases hok : okM b gg
      · have HOk : Hid (okB b gg = true) := decide_eq_true hok
        rw [HOk.out]
        have HS := hid (HH.out hok)
        have HCd : Hid (Cand b L (fk / wv) bs) := HCi.out.2 ⟨HBe.out, hen2, hok⟩
        have HFst : Hid (∀ q', q' < fk / wv → ¬ Cand b L q' bs) := fun q' hq => HA.out.no q' (fun i h1 h2 => by
          have h3 := F_mono HGK.out h1 h2
          rw [← HFk.out] at h3
          have h5 := div_mono hW.1 h3
          rw [← HWv.out]
          omega)
        obtain ⟨e0, e1, e2, e3, e4, e5, e6⟩ := seven HO4.out
        have u0 := seven_frz (o := 0) HO4.out
        have u1 := seven_frz (o := 1) HO4.out
        have u2 := seven_frz (o := 2) HO4.out
        have u3 := seven_frz (o := 3) HO4.out
        have u4 := seven_frz (o := 4) HO4.out
        have u5 := seven_frz (o := 5) HO4.out
        have u6 := seven_frz (o := 6) HO4.out
        obtain ⟨x0, x1, x2, x3, x4⟩ := five HX4.out
        have HP : Hid ((put7 W4 w.heap.size (.int .i64 k) (.int .i64 e) (.int .i64 F) (.int .i64 TT) (.int .i64 LL) (.slice ga qs.length gc) (.slice gb ts.length gd)).heap[w.heap.size]? = some (.cells #[.int .i64 k, .int .i64 e, .int .i64 F, .int .i64 TT, .int .i64 LL, .slice ga qs.length gc, .slice gb ts.length gd] 59) ∧ Below w.heap.size w (put7 W4 w.heap.size (.int .i64 k) (.int .i64 e) (.int .i64 F) (.int .i64 TT) (.int .i64 LL) (.slice ga qs.length gc) (.slice gb ts.length gd)) ∧ Am w.heap.size ⟨F, TT, LL, qs, ga, gc, ts, gb, gd⟩ (put7 W4 w.heap.size (.int .i64 k) (.int .i64 e) (.int .i64 F) (.int .i64 TT) (.int .i64 LL) (.slice ga qs.length gc) (.slice gb ts.length gd))) := ⟨put7_at HO4.out, put7_below HB4.out (Nat.le_refl _), OwnO_base (owno_off (HS.out.2.below HA4.out).own (put7_gr _ _ _ _ _ _ _ _ _) hl2) (Nat.le_of_lt hl2), HS.out.2.ts, HS.out.2.b, HS.out.2.d⟩
        rw [put7] at HP
        go_wp2
        generalize hwf : World.setCell _ _ _ = wf
        rw [hwf] at HP
        clear hwf
        refine bodyPost_ret (v := .tuple #[ag7 k e ⟨F, TT, LL, qs, ga, gc, ts, gb, gd⟩, .bool true]) ?_ rfl ⟨k, e, ⟨F, TT, LL, qs, ga, gc, ts, gb, gd⟩, true, rfl, .inl ⟨rfl, _, HG.out, HCd.out, HFst.out, by rw [← HGg.out]; exact HS.out.1, HP.out.2.2⟩, HP.out.2.1⟩
        obtain ⟨y0, y1, y2, y3, y4, y5, y6⟩ := seven HP.out.1
        simp [results, Tryz.results73, go_sem, y0, y1, y2, y3, y4, y5, y6]
      · have HOk : Hid (okB b gg = false) := decide_eq_false hok
        rw [HOk.out]
        have HNo : Hid (At b L bs e) := HNxt.out (fun h => hok (HCi.out.1 h).2.2)
        go_wp2
        go_roundw
        case rel => exact ⟨e, hen, rfl, HNo, HO4, HB4⟩
        case measure => simp [intOf]; omega
end Go.Proofs.YtjhdmghpklagkaaGreat.Pln
