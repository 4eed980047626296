/- Both GoodShelfs. -/
import Derived.Test.YtjhdmghpklagkaaGreatD07
import Derived.Test.YtjhdmghpklagkaaGreatD13
import Derived.Test.YtjhdmghpklagkaaGreatD36
namespace Go.Proofs.YtjhdmghpklagkaaGreat.Blk
open Go.RowKit
open Go.Proofs.YtjhdmghpklagkaaGreat.Smp (In64 ret_bool)
open Go.Proofs.YtjhdmghpklagkaaGreat.Srs (hid lt_at kept Q HasQ FitQ SmlQ)
open Go.Proofs.YtjhdmghpklagkaaGreat.Shf (wid BadW wid_bad wid_pos)

def en (bs : List Bk) : Nat → Int
  | 0 => 0
  | k + 1 => (bs.getD k k0).T
def OkK (b e : Int) (h : Bk) : Prop := (1 ≤ h.L ∧ h.L ≤ 4) ∧ GoodB h ∧ h.F % wid b h.L = 0 ∧ h.T = h.F + wid b h.L ∧ e ≤ h.F
def GoodK (b : Int) (bs : List Bk) : Prop := (1 ≤ b ∧ b ≤ 1000000) ∧ bs.length ≤ 100 ∧ ∀ i, i < bs.length → OkK b (en bs i) (bs.getD i k0)
noncomputable instance (b : Int) (bs : List Bk) : Decidable (GoodK b bs) := Classical.propDecidable _
noncomputable def gdK (b : Int) (bs : List Bk) : Bool := decide (GoodK b bs)
theorem gdK_no {b : Int} {bs : List Bk} (g : ¬ GoodK b bs) : gdK b bs = false := decide_eq_false g
theorem gdK_yes {b : Int} {bs : List Bk} (g : GoodK b bs) : gdK b bs = true := decide_eq_true g
theorem gdK_iff {b : Int} {bs : List Bk} : gdK b bs = true ↔ GoodK b bs := ⟨fun g => of_decide_eq_true g, gdK_yes⟩
theorem SameK.good {n : Nat} {b : Int} {bs d : List Bk} (s : SameK n bs d) (hn : bs.length = n) (hl : d.length = n) (g : GoodK b bs) : GoodK b d := by
  refine ⟨g.1, by have := g.2.1; omega, fun i hi => ?_⟩
  have h1 := g.2.2 i (by omega)
  have h2 := s i (by omega)
  have h3 : en d i = en bs i := by
    cases i with
    | zero => rfl
    | succ j => exact (s j (by omega)).eT
  obtain ⟨u1, u2, u3, u4, u5⟩ := h1
  unfold OkK
  rw [h2.eF, h2.eT, h2.eL, h3]
  exact ⟨u1, h2.good u2, u3, u4, u5⟩
theorem SameK.symm {n : Nat} {bs d : List Bk} (s : SameK n bs d) : SameK n d bs := fun i hi => (s i hi).symm
theorem wrap_in {x : Int} (h1 : -9223372036854775808 ≤ x) (h2 : x ≤ 9223372036854775807) : IntKind.i64.wrap x = x := by rw [IntKind.wrap_i64]; omega
theorem f72 (t W : Int) (w : World) (h0 : 0 ≤ t) (h1 : t ≤ 1000000000001) (h2 : 1 ≤ W) (h3 : W ≤ 27000000) :
    Calls Tryz.prog 72 #[.int .i64 t, .int .i64 W] w fun e w' => e = .returned (.int .i64 (t - t % W)) ∧ w' = w := by
  have m0 : 0 ≤ t % W := Int.emod_nonneg _ (by omega)
  have m1 : t % W < W := Int.emod_lt_of_pos _ (by omega)
  have hn0 : W ≠ 0 := by omega
  have hw2 : IntKind.i64.wrap (t - t % W) = t - t % W := wrap_in (by omega) (by omega)
  go_enter Tryz.func72, Tryz.ntmps72
  go_wp2
  go_ret
  exact ⟨rfl, rfl⟩
structure KB (w : World) (q : Bk) (B : Nat) (x : World) : Prop where
  box : x.heap[B]? = some (.cells (clB q) 36)
  has : HasB x q
  bel : Below w.heap.size w x
theorem KB.below {w : World} {q : Bk} {B : Nat} {x y : World} (g : KB w q B x) (hb : Below x.heap.size x y) : KB w q B y := ⟨kept g.box hb, g.has.below hb, g.bel.trans (hb.mono g.bel.size)⟩
abbrev SB (w : World) (q : Bk) (B : Nat) (x : World) : Prop :=
  x.cell? ⟨B, 0, none⟩ = some (.int .i64 q.F) ∧ x.cell? ⟨B, 1, none⟩ = some (.int .i64 q.T) ∧ x.cell? ⟨B, 2, none⟩ = some (.int .i64 q.L) ∧ x.cell? ⟨B, 3, none⟩ = some (.slice q.a q.qs.length q.c) ∧ x.cell? ⟨B, 4, none⟩ = some (.slice q.b q.ts.length q.d) ∧ KB w q B x
theorem KB.cells {w : World} {q : Bk} {B : Nat} {x : World} (g : KB w q B x) : SB w q B x := by
  obtain ⟨b0, b1, b2, b3, b4⟩ := five g.box
  exact ⟨b0, b1, b2, b3, b4, g⟩
theorem SB.kb {w : World} {q : Bk} {B : Nat} {x : World} (g : SB w q B x) : KB w q B x := g.2.2.2.2.2
abbrev SE (w : World) (q : Bk) (B b o : Nat) (t : Int) (x : World) : Prop :=
  x.cell? ⟨B, 0, none⟩ = some (.int .i64 q.F) ∧ x.cell? ⟨B, 1, none⟩ = some (.int .i64 q.T) ∧ x.cell? ⟨B, 2, none⟩ = some (.int .i64 q.L) ∧ x.cell? ⟨B, 3, none⟩ = some (.slice q.a q.qs.length q.c) ∧ x.cell? ⟨B, 4, none⟩ = some (.slice q.b q.ts.length q.d) ∧ x.cell? ⟨b, o, none⟩ = some (.int .i64 t) ∧ b < x.heap.size ∧ KB w q B x
theorem SE.below {w : World} {q : Bk} {B b o : Nat} {t : Int} {x y : World} (g : SE w q B b o t x) (hb : Below x.heap.size x y) : SE w q B b o t y := by
  obtain ⟨-, -, -, -, -, g5, g6, g7⟩ := g
  obtain ⟨h0, h1, h2, h3, h4, h5⟩ := (g7.below hb).cells
  exact ⟨h0, h1, h2, h3, h4, (hb.cell (by exact g6)).trans g5, Nat.lt_of_lt_of_le g6 hb.size, h5⟩
theorem SE.kb {w : World} {q : Bk} {B b o : Nat} {t : Int} {x : World} (g : SE w q B b o t x) : KB w q B x := g.2.2.2.2.2.2.2

set_option maxRecDepth 100000 in
set_option maxHeartbeats 8000000 in
theorem f37 (b : Int) (a : Option Addr) (n c : Nat) (bs : List Bk) (w : World) (hb0 : -9223372036854775808 ≤ b) (hb1 : b ≤ 9223372036854775807) (hn : bs.length = n) (hb : n ≤ 1048576) (hr : HasK w a bs) (hf : FitK bs) (hz : SmlK bs) :
    Calls Tryz.prog 37 #[.int .i64 b, .slice a n c] w fun e w' => e = .returned (.bool (gdK b bs)) ∧ Below w.heap.size w w' := by
  have HN := hid hn
  have HR := hid hr
  have HF := hid hf
  have HZ := hid hz
  clear hn hr hf hz
  by_cases g1 : 1 ≤ b ∧ b ≤ 1000000
  rotate_left
  · have e1 : decide (1 ≤ b ∧ b ≤ 1000000) = false := decide_eq_false g1
    have HG : Hid (gdK b bs = false) := gdK_no fun g => g1 g.1
    clear g1
    go_enter Tryz.func37, Tryz.ntmps37
    go_wp2_with fail
    refine (Shf.f68 b _).mono ?_
    rw [e1]
    rintro e w1 ⟨rfl, hw⟩
    subst w1
    go_wp2
    go_ret
    exact ⟨ret_bool HG.out.symm, Below.refl _ _⟩
  have e1 : decide (1 ≤ b ∧ b ≤ 1000000) = true := decide_eq_true g1
  have HB1 := hid g1
  clear g1
  by_cases g2 : 100 < n
  · have HG : Hid (gdK b bs = false) := gdK_no fun g => by have := g.2.1; have := HN.out; omega
    go_enter Tryz.func37, Tryz.ntmps37
    go_wp2_with fail
    refine (Shf.f68 b _).mono ?_
    rw [e1]
    rintro e w1 ⟨rfl, hw⟩
    subst w1
    go_wp2
    go_ret
    exact ⟨ret_bool HG.out.symm, Below.refl _ _⟩
  go_enter Tryz.func37, Tryz.ntmps37
  go_wp2_with fail
  refine (Shf.f68 b _).mono ?_
  rw [e1]
  rintro e w1 ⟨rfl, hw⟩
  subst w1
  clear e1
  go_wp2
  go_loopw [5, 19] (fun se i wr => ∃ k : Nat, k ≤ n ∧ i = .int .i64 k ∧ se = .int .i64 (en bs k) ∧ Hid (∀ j, j < k → OkK b (en bs j) (bs.getD j k0)) ∧ Hid (Below w.heap.size w wr)) (fun _ i _ => n - (intOf i).toNat)
  case atStart => exact ⟨0, Nat.zero_le _, rfl, rfl, fun j hj => by omega, Below.refl _ _⟩
  case round =>
    obtain ⟨k, hk, rfl, rfl, HU, HX⟩ := hrel
    by_cases hlt : k < n
    · obtain ⟨b', off, rfl, hbl, hc, t1⟩ := (HR.out.below HX.out).at2 k (by rw [HN.out]; exact hlt)
      have HFq := hid (HF.out k)
      have HZq := hid (HZ.out k (by rw [HN.out]; exact hlt))
      obtain ⟨q, hq⟩ : ∃ q, q = bs.getD k k0 := ⟨_, rfl⟩
      rw [← hq] at hc t1 HFq HZq
      obtain ⟨c0, c1, c2, c3, c4⟩ := hc
      have HNo : Hid (¬ OkK b (en bs k) q → gdK b bs = false) := fun h => gdK_no fun g => h (by rw [hq]; exact g.2.2 k (by rw [HN.out]; exact hlt))
      have HYes : Hid (OkK b (en bs k) q → ∀ j, j < k + 1 → OkK b (en bs j) (bs.getD j k0)) := by
        intro h j hj
        by_cases e : j = k
        · subst e; rw [hq] at h; exact h
        · exact HU.out j (by omega)
      have HEn : Hid (en bs (k + 1) = q.T) := by unfold Hid; rw [hq]; rfl
      have i1 : (k : Int) < (n : Int) := by omega
      obtain ⟨lo2, hi2⟩ := HFq.out.2.2.1
      obtain ⟨E, hE⟩ : ∃ E, E = en bs k := ⟨_, rfl⟩
      rw [← hE] at HNo HYes ⊢
      have HK : Hid (KB w q wr.heap.size (wr.alloc (.cells (clB q) 36))) := by
        have hbb := (Below.refl wr.heap.size wr).alloc (Nat.le_refl _) (.cells (clB q) 36)
        exact ⟨heap_alloc_new wr _, t1.below hbb, HX.out.trans (hbb.mono HX.out.size)⟩
      simp only [clB] at HK
      clear t1 hbl hq hE HX
      by_cases h1 : 1 ≤ q.L ∧ q.L ≤ 4
      rotate_left
      · have e1 : decide (1 ≤ q.L ∧ q.L ≤ 4) = false := decide_eq_false h1
        have HG := hid (HNo.out fun g => h1 g.1)
        clear h1
        go_wp2_with fail
        refine (Shf.f69 q.L _).mono ?_
        rw [e1]
        rintro e w1 ⟨rfl, hw⟩
        subst hw
        go_wp2
        go_ret
        exact ⟨ret_bool HG.out.symm, HK.out.bel⟩
      have e1 : decide (1 ≤ q.L ∧ q.L ≤ 4) = true := decide_eq_true h1
      cases h2 : gdB q
      · have HG := hid (HNo.out fun g => by rw [gdB_yes g.2.1] at h2; cases h2)
        go_wp2_with fail
        refine (Shf.f69 q.L _).mono ?_
        rw [e1]
        rintro e w1 ⟨rfl, hw⟩
        subst hw
        clear e1 h1
        go_wp2_with fail
        refine (f70 q _ HK.out.has HFq.out HZq.out).mono ?_
        rw [h2]
        rintro e w2 ⟨rfl, hb2⟩
        have HK2 := hid (HK.out.below hb2)
        clear hb2 h2 HK
        go_wp2
        go_ret
        exact ⟨ret_bool HG.out.symm, HK2.out.bel⟩
      have HGq := hid (gdB_iff.1 h2)
      have hH := HGq.out.1
      obtain ⟨⟨F0, F1⟩, F2, F3, F4, F5⟩ := hH
      obtain ⟨W0, W1⟩ := wid_pos (b := b) (l := q.L) (by unfold BadW; have := HB1.out; omega)
      have HOk : Hid (OkK b E q ↔ q.F % wid b q.L = 0 ∧ q.T = q.F + wid b q.L ∧ E ≤ q.F) := ⟨fun g => g.2.2, fun g => ⟨h1, HGq.out, g⟩⟩
      have HWd := fun x => hid (Shf.f71 b q.L x hb0 hb1 lo2 hi2)
      have HSp := fun x => hid (f72 q.F (wid b q.L) x F0 (by omega) W0 W1)
      generalize wid b q.L = W at *
      obtain ⟨s, hs⟩ : ∃ s, s = q.F - q.F % W := ⟨_, rfl⟩
      rw [← hs] at HSp
      have HS : Hid (s = q.F ↔ q.F % W = 0) := by unfold Hid; rw [hs]; omega
      clear hs
      go_wp2_with fail
      refine (Shf.f69 q.L _).mono ?_
      rw [e1]
      rintro e w1 ⟨rfl, hw⟩
      subst hw
      clear e1 h1
      go_wp2_with fail
      refine (f70 q _ HK.out.has HFq.out HZq.out).mono ?_
      rw [h2]
      rintro e w2 ⟨rfl, hb2⟩
      have HK2 := hid (HK.out.below hb2)
      clear hb2 h2 HK c0 c1 c2 c3 c4
      obtain ⟨c0, c1, c2, c3, c4⟩ := five HK2.out.box
      go_wp2_with fail
      refine (HWd _).out.mono ?_
      rintro e w3 ⟨rfl, hb3⟩
      have HK3 := hid (HK2.out.below hb3)
      clear hb3 HK2 c0 c1 c2 c3 c4
      obtain ⟨c0, c1, c2, c3, c4⟩ := five HK3.out.box
      generalize wr.heap.size = B at *
      have hw5 : IntKind.i64.wrap (q.F + W) = q.F + W := wrap_in (by omega) (by omega)
      by_cases h3 : q.F < E
      · have HG := hid (HNo.out fun g => by have := (HOk.out.1 g).2.2; omega)
        go_wp2_with fail
        refine wp_region_held_drew (S := fun x => SB w q B x) rfl (HK3.out.below (below_drew _)).cells (fun hHeld => ?_)
        refine tkH 0 (some 36) (.pointer (some ⟨B, 0, none⟩)) rfl ?_
        simp only [Act.put, zzA, zzB, zzC]
        refine tkH 1 (some 37) (.int .i64 q.F) rfl ?_
        simp only [Act.put, zzA, zzB, zzC]
        refine tkH 2 (some 38) (.int .i64 E) rfl ?_
        simp only [Act.put, zzA, zzB, zzC]
        refine tkH 3 (some 39) (.bool true) rfl ?_
        simp only [Act.put, zzA, zzB, zzC]
        refine tkH 4 (some 40) (.bool true) rfl ?_
        simp only [Act.put, zzA, zzB, zzC]
        refine skH 5 (some 41) rfl ?_
        simp only [Act.put, zzA, zzB, zzC]
        refine skH 6 (some 42) rfl ?_
        simp only [Act.put, zzA, zzB, zzC]
        refine skH 7 (some 43) rfl ?_
        simp only [Act.put, zzA, zzB, zzC]
        refine skH 8 (some 44) rfl ?_
        simp only [Act.put, zzA, zzB, zzC]
        refine skH 9 (some 45) rfl ?_
        simp only [Act.put, zzA, zzB, zzC]
        refine skH 10 (some 46) rfl ?_
        simp only [Act.put, zzA, zzB, zzC]
        refine skH 11 (some 47) rfl ?_
        simp only [Act.put, zzA, zzB, zzC]
        refine tkH 12 (some 48) (.bool true) rfl ?_
        simp only [Act.put, zzA, zzB, zzC]
        refine tkH 13 (some 49) (.bool true) rfl ?_
        simp only [Act.put, zzA, zzB, zzC]
        refine skH 14 (some 50) rfl ?_
        simp only [Act.put, zzA, zzB, zzC]
        refine skH 15 (some 51) rfl ?_
        simp only [Act.put, zzA, zzB, zzC]
        refine skH 16 (some 52) rfl ?_
        simp only [Act.put, zzA, zzB, zzC]
        refine skH 17 (some 53) rfl ?_
        simp only [Act.put, zzA, zzB, zzC]
        refine skH 18 (some 54) rfl ?_
        simp only [Act.put, zzA, zzB, zzC]
        refine skH 19 (some 55) rfl ?_
        simp only [Act.put, zzA, zzB, zzC]
        refine skH 20 (some 56) rfl ?_
        simp only [Act.put, zzA, zzB, zzC]
        refine tkH 21 (some 57) (.bool true) rfl ?_
        simp only [Act.put, zzA, zzB, zzC]
        refine wpAnyH_done (by kernel_rfl) ?_ _
        have HX4 := hid (SB.kb hHeld).bel
        clear hHeld
        go_wp2
        go_ret
        exact ⟨ret_bool HG.out.symm, HX4.out⟩
      by_cases h4 : q.F % W = 0
      rotate_left
      · have HG := hid (HNo.out fun g => h4 (HOk.out.1 g).1)
        have n1 : (q.F != s) = true := by rw [bne_iff_ne]; exact fun e => h4 (HS.out.1 e.symm)
        clear h4
        go_wp2_with fail
        refine wp_region_held_drew (S := fun x => SB w q B x) rfl (HK3.out.below (below_drew _)).cells (fun hHeld => ?_)
        refine tkH 0 (some 36) (.pointer (some ⟨B, 0, none⟩)) rfl ?_
        simp only [Act.put, zzA, zzB, zzC]
        refine tkH 1 (some 37) (.int .i64 q.F) rfl ?_
        simp only [Act.put, zzA, zzB, zzC]
        refine tkH 2 (some 38) (.int .i64 E) rfl ?_
        simp only [Act.put, zzA, zzB, zzC]
        refine tkH 3 (some 39) (.bool false) rfl ?_
        simp only [Act.put, zzA, zzB, zzC]
        refine tkH 4 (some 40) (.bool false) rfl ?_
        simp only [Act.put, zzA, zzB, zzC]
        refine tkH 5 (some 41) (.pointer (some ⟨B, 0, none⟩)) rfl ?_
        simp only [Act.put, zzA, zzB, zzC]
        refine tkH 6 (some 42) (.int .i64 q.F) rfl ?_
        simp only [Act.put, zzA, zzB, zzC]
        refine tkH 7 (some 43) (.pointer (some ⟨B, 0, none⟩)) rfl ?_
        simp only [Act.put, zzA, zzB, zzC]
        refine tkH 8 (some 44) (.int .i64 q.F) rfl ?_
        simp only [Act.put, zzA, zzB, zzC]
        refine tkH 9 (some 45) (.int .i64 W) rfl ?_
        simp only [Act.put, zzA, zzB, zzC]
        refine wpAnyH_ready (rs := [10]) (by kernel_rfl) (by simp) (AllReadyH.cons (o := { dst := some 46, op := _, type := _, pos := _, after := _, guard := _ }) rfl ?_ AllReadyH.nil)
        intro K1 hK1
        go_simp
        go_wp2_with (go_at_call 72; refine (HSp _).out.mono ?_; rintro e w4 ⟨rfl, hw4⟩; subst hw4)
        refine hK1.out _ _ hHeld (fun _ => ?_)
        clear hK1 K1
        refine tkH 11 (some 47) (.bool true) rfl ?_
        simp only [Act.put, zzA, zzB, zzC]
        refine tkH 12 (some 48) (.bool true) rfl ?_
        simp only [Act.put, zzA, zzB, zzC]
        refine tkH 13 (some 49) (.bool true) rfl ?_
        simp only [Act.put, zzA, zzB, zzC]
        refine skH 14 (some 50) rfl ?_
        simp only [Act.put, zzA, zzB, zzC]
        refine skH 15 (some 51) rfl ?_
        simp only [Act.put, zzA, zzB, zzC]
        refine skH 16 (some 52) rfl ?_
        simp only [Act.put, zzA, zzB, zzC]
        refine skH 17 (some 53) rfl ?_
        simp only [Act.put, zzA, zzB, zzC]
        refine skH 18 (some 54) rfl ?_
        simp only [Act.put, zzA, zzB, zzC]
        refine skH 19 (some 55) rfl ?_
        simp only [Act.put, zzA, zzB, zzC]
        refine skH 20 (some 56) rfl ?_
        simp only [Act.put, zzA, zzB, zzC]
        refine tkH 21 (some 57) (.bool true) rfl ?_
        simp only [Act.put, zzA, zzB, zzC]
        refine wpAnyH_done (by kernel_rfl) ?_ _
        have HX4 := hid (SB.kb hHeld).bel
        clear hHeld
        go_wp2
        go_ret
        exact ⟨ret_bool HG.out.symm, HX4.out⟩
      have n1 : (q.F != s) = false := by rw [HS.out.2 h4]; simp
      by_cases h5 : q.T = q.F + W
      rotate_left
      · have HG := hid (HNo.out fun g => h5 (HOk.out.1 g).2.1)
        have n2 : (q.T != q.F + W) = true := by rw [bne_iff_ne]; exact h5
        clear h4 h5
        go_wp2_with fail
        refine wp_region_held_drew (S := fun x => SB w q B x) rfl (HK3.out.below (below_drew _)).cells (fun hHeld => ?_)
        refine tkH 0 (some 36) (.pointer (some ⟨B, 0, none⟩)) rfl ?_
        simp only [Act.put, zzA, zzB, zzC]
        refine tkH 1 (some 37) (.int .i64 q.F) rfl ?_
        simp only [Act.put, zzA, zzB, zzC]
        refine tkH 2 (some 38) (.int .i64 E) rfl ?_
        simp only [Act.put, zzA, zzB, zzC]
        refine tkH 3 (some 39) (.bool false) rfl ?_
        simp only [Act.put, zzA, zzB, zzC]
        refine tkH 4 (some 40) (.bool false) rfl ?_
        simp only [Act.put, zzA, zzB, zzC]
        refine tkH 5 (some 41) (.pointer (some ⟨B, 0, none⟩)) rfl ?_
        simp only [Act.put, zzA, zzB, zzC]
        refine tkH 6 (some 42) (.int .i64 q.F) rfl ?_
        simp only [Act.put, zzA, zzB, zzC]
        refine tkH 7 (some 43) (.pointer (some ⟨B, 0, none⟩)) rfl ?_
        simp only [Act.put, zzA, zzB, zzC]
        refine tkH 8 (some 44) (.int .i64 q.F) rfl ?_
        simp only [Act.put, zzA, zzB, zzC]
        refine tkH 9 (some 45) (.int .i64 W) rfl ?_
        simp only [Act.put, zzA, zzB, zzC]
        refine wpAnyH_ready (rs := [10]) (by kernel_rfl) (by simp) (AllReadyH.cons (o := { dst := some 46, op := _, type := _, pos := _, after := _, guard := _ }) rfl ?_ AllReadyH.nil)
        intro K1 hK1
        go_simp
        go_wp2_with (go_at_call 72; refine (HSp _).out.mono ?_; rintro e w4 ⟨rfl, hw4⟩; subst hw4)
        refine hK1.out _ _ hHeld (fun _ => ?_)
        clear hK1 K1
        refine tkH 11 (some 47) (.bool false) rfl ?_
        simp only [Act.put, zzA, zzB, zzC]
        refine tkH 12 (some 48) (.bool false) rfl ?_
        simp only [Act.put, zzA, zzB, zzC]
        refine tkH 13 (some 49) (.bool false) rfl ?_
        simp only [Act.put, zzA, zzB, zzC]
        refine tkH 14 (some 50) (.pointer (some ⟨B, 1, none⟩)) rfl ?_
        simp only [Act.put, zzA, zzB, zzC]
        refine tkH 15 (some 51) (.int .i64 q.T) rfl ?_
        simp only [Act.put, zzA, zzB, zzC]
        refine tkH 16 (some 52) (.pointer (some ⟨B, 0, none⟩)) rfl ?_
        simp only [Act.put, zzA, zzB, zzC]
        refine tkH 17 (some 53) (.int .i64 q.F) rfl ?_
        simp only [Act.put, zzA, zzB, zzC]
        refine tkH 18 (some 54) (.int .i64 W) rfl ?_
        simp only [Act.put, zzA, zzB, zzC]
        refine tkH 19 (some 55) (.int .i64 (q.F + W)) rfl ?_
        simp only [Act.put, zzA, zzB, zzC]
        refine tkH 20 (some 56) (.bool true) rfl ?_
        simp only [Act.put, zzA, zzB, zzC]
        refine tkH 21 (some 57) (.bool true) rfl ?_
        simp only [Act.put, zzA, zzB, zzC]
        refine wpAnyH_done (by kernel_rfl) ?_ _
        have HX4 := hid (SB.kb hHeld).bel
        clear hHeld
        go_wp2
        go_ret
        exact ⟨ret_bool HG.out.symm, HX4.out⟩
      have HY := hid (HYes.out (HOk.out.2 ⟨h4, h5, by omega⟩))
      have n2 : (q.T != q.F + W) = false := by rw [← h5]; simp
      clear h4 h5
      go_wp2_with fail
      refine wp_region_held_drew (S := fun x => SB w q B x) rfl (HK3.out.below (below_drew _)).cells (fun hHeld => ?_)
      refine tkH 0 (some 36) (.pointer (some ⟨B, 0, none⟩)) rfl ?_
      simp only [Act.put, zzA, zzB, zzC]
      refine tkH 1 (some 37) (.int .i64 q.F) rfl ?_
      simp only [Act.put, zzA, zzB, zzC]
      refine tkH 2 (some 38) (.int .i64 E) rfl ?_
      simp only [Act.put, zzA, zzB, zzC]
      refine tkH 3 (some 39) (.bool false) rfl ?_
      simp only [Act.put, zzA, zzB, zzC]
      refine tkH 4 (some 40) (.bool false) rfl ?_
      simp only [Act.put, zzA, zzB, zzC]
      refine tkH 5 (some 41) (.pointer (some ⟨B, 0, none⟩)) rfl ?_
      simp only [Act.put, zzA, zzB, zzC]
      refine tkH 6 (some 42) (.int .i64 q.F) rfl ?_
      simp only [Act.put, zzA, zzB, zzC]
      refine tkH 7 (some 43) (.pointer (some ⟨B, 0, none⟩)) rfl ?_
      simp only [Act.put, zzA, zzB, zzC]
      refine tkH 8 (some 44) (.int .i64 q.F) rfl ?_
      simp only [Act.put, zzA, zzB, zzC]
      refine tkH 9 (some 45) (.int .i64 W) rfl ?_
      simp only [Act.put, zzA, zzB, zzC]
      refine wpAnyH_ready (rs := [10]) (by kernel_rfl) (by simp) (AllReadyH.cons (o := { dst := some 46, op := _, type := _, pos := _, after := _, guard := _ }) rfl ?_ AllReadyH.nil)
      intro K1 hK1
      go_simp
      go_wp2_with (go_at_call 72; refine (HSp _).out.mono ?_; rintro e w4 ⟨rfl, hw4⟩; subst hw4)
      refine hK1.out _ _ hHeld (fun _ => ?_)
      clear hK1 K1
      refine tkH 11 (some 47) (.bool false) rfl ?_
      simp only [Act.put, zzA, zzB, zzC]
      refine tkH 12 (some 48) (.bool false) rfl ?_
      simp only [Act.put, zzA, zzB, zzC]
      refine tkH 13 (some 49) (.bool false) rfl ?_
      simp only [Act.put, zzA, zzB, zzC]
      refine tkH 14 (some 50) (.pointer (some ⟨B, 1, none⟩)) rfl ?_
      simp only [Act.put, zzA, zzB, zzC]
      refine tkH 15 (some 51) (.int .i64 q.T) rfl ?_
      simp only [Act.put, zzA, zzB, zzC]
      refine tkH 16 (some 52) (.pointer (some ⟨B, 0, none⟩)) rfl ?_
      simp only [Act.put, zzA, zzB, zzC]
      refine tkH 17 (some 53) (.int .i64 q.F) rfl ?_
      simp only [Act.put, zzA, zzB, zzC]
      refine tkH 18 (some 54) (.int .i64 W) rfl ?_
      simp only [Act.put, zzA, zzB, zzC]
      refine tkH 19 (some 55) (.int .i64 (q.F + W)) rfl ?_
      simp only [Act.put, zzA, zzB, zzC]
      refine tkH 20 (some 56) (.bool false) rfl ?_
      simp only [Act.put, zzA, zzB, zzC]
      refine tkH 21 (some 57) (.bool false) rfl ?_
      simp only [Act.put, zzA, zzB, zzC]
      refine wpAnyH_done (by kernel_rfl) ?_ _
      have HX4 := hid (SB.kb hHeld).bel
      clear hHeld
      obtain ⟨c0, c1, c2, c3, c4⟩ := five HK3.out.box
      go_wp2
      go_roundw
      case rel => exact ⟨k + 1, by omega, by go_num, by rw [HEn.out], HY.out, HX4.out⟩
      case measure => simp [intOf]; omega
    · obtain rfl : k = n := by omega
      have HG : Hid (gdK b bs = true) := gdK_yes ⟨HB1.out, by rw [HN.out]; omega, fun i hi => HU.out i (by rw [← HN.out]; exact hi)⟩
      go_wp2
      go_ret
      exact ⟨ret_bool HG.out.symm, HX.out⟩

set_option maxRecDepth 100000 in
set_option maxHeartbeats 8000000 in
theorem f34 (b : Int) (a : Option Addr) (n c : Nat) (bs : List Bk) (w : World) (hb0 : -9223372036854775808 ≤ b) (hb1 : b ≤ 9223372036854775807) (hn : bs.length = n) (hb : n ≤ 1048576) (hr : HasK w a bs) (hf : FitK bs) (hz : SmlK bs) :
    Calls Tryz.prog 34 #[.int .i64 b, .slice a n c] w fun e w' => e = .returned (.bool (gdK b bs)) ∧ Below w.heap.size w w' := by
  have HN := hid hn
  have HR := hid hr
  have HF := hid hf
  have HZ := hid hz
  clear hn hr hf hz
  by_cases g1 : b < 1
  · have HG : Hid (gdK b bs = false) := gdK_no fun g => by have := g.1; omega
    go_enter Tryz.func34, Tryz.ntmps34
    go_wp2
    go_ret
    exact ⟨ret_bool HG.out.symm, Below.refl _ _⟩
  by_cases g2 : 1000000 < b
  · have HG : Hid (gdK b bs = false) := gdK_no fun g => by have := g.1; omega
    go_enter Tryz.func34, Tryz.ntmps34
    go_wp2
    go_ret
    exact ⟨ret_bool HG.out.symm, Below.refl _ _⟩
  by_cases g3 : 100 < n
  · have HG : Hid (gdK b bs = false) := gdK_no fun g => by have := g.2.1; have := HN.out; omega
    go_enter Tryz.func34, Tryz.ntmps34
    go_wp2
    go_ret
    exact ⟨ret_bool HG.out.symm, Below.refl _ _⟩
  have HB1 : Hid (1 ≤ b ∧ b ≤ 1000000) := by unfold Hid; omega
  go_enter Tryz.func34, Tryz.ntmps34
  go_wp2
  go_loopw [21] (fun i wr => ∃ k : Nat, k ≤ n ∧ i = .int .i64 k ∧ Hid (∀ j, j < k → OkK b (en bs j) (bs.getD j k0)) ∧ Hid (Below w.heap.size w wr)) (fun i _ => n - (intOf i).toNat)
  case atStart => exact ⟨0, Nat.zero_le _, rfl, fun j hj => by omega, Below.refl _ _⟩
  case round =>
    obtain ⟨k, hk, rfl, HU, HX⟩ := hrel
    by_cases hlt : k < n
    · obtain ⟨b', off, rfl, hbl, hc, t1⟩ := (HR.out.below HX.out).at2 k (by rw [HN.out]; exact hlt)
      have HFq := hid (HF.out k)
      have HZq := hid (HZ.out k (by rw [HN.out]; exact hlt))
      obtain ⟨q, hq⟩ : ∃ q, q = bs.getD k k0 := ⟨_, rfl⟩
      rw [← hq] at hc t1 HFq HZq
      obtain ⟨c0, c1, c2, c3, c4⟩ := hc
      have HNo : Hid (¬ OkK b (en bs k) q → gdK b bs = false) := fun h => gdK_no fun g => h (by rw [hq]; exact g.2.2 k (by rw [HN.out]; exact hlt))
      have HYes : Hid (OkK b (en bs k) q → ∀ j, j < k + 1 → OkK b (en bs j) (bs.getD j k0)) := by
        intro h j hj
        by_cases e : j = k
        · subst e; rw [hq] at h; exact h
        · exact HU.out j (by omega)
      have i1 : (k : Int) < (n : Int) := by omega
      obtain ⟨lo2, hi2⟩ := HFq.out.2.2.1
      have HPv : Hid (∀ j, k = j + 1 → wr.cell? ⟨b', off + j * 5 + 1, none⟩ = some (.int .i64 (en bs k))) := by
        rintro j rfl
        obtain ⟨b2, off2, e2, _, hc2, _⟩ := (HR.out.below HX.out).at2 j (by rw [HN.out]; omega)
        obtain ⟨rfl, rfl⟩ : b' = b2 ∧ off = off2 := by cases e2; exact ⟨rfl, rfl⟩
        exact hc2.2.1
      have HE0 : Hid (k = 0 → en bs k = 0) := by rintro rfl; rfl
      obtain ⟨E, hE⟩ : ∃ E, E = en bs k := ⟨_, rfl⟩
      rw [← hE] at HNo HYes HPv HE0
      have hbb := (Below.refl wr.heap.size wr).alloc (Nat.le_refl _) (.cells (clB q) 36)
      have HK : Hid (KB w q wr.heap.size (wr.alloc (.cells (clB q) 36))) :=
        ⟨heap_alloc_new wr _, t1.below hbb, HX.out.trans (hbb.mono HX.out.size)⟩
      have HPw : Hid (∀ j, k = j + 1 → (wr.alloc (.cells (clB q) 36)).cell? ⟨b', off + j * 5 + 1, none⟩ = some (.int .i64 E)) := fun j hj => (hbb.cell (by exact hbl)).trans (HPv.out j hj)
      have HBl : Hid (b' < (wr.alloc (.cells (clB q) 36)).heap.size) := Nat.lt_of_lt_of_le hbl hbb.size
      simp only [clB] at HK HPw HBl
      clear t1 hbl hq hE HX HPv hbb
      have HWd := fun x => hid (Shf.f64 b q.L x hb0 hb1 lo2 hi2)
      by_cases h1 : 1 ≤ q.L ∧ q.L ≤ 4
      rotate_left
      · have HG := hid (HNo.out fun g => h1 g.1)
        have e0 : wid b q.L = 0 := wid_bad (by unfold BadW; omega)
        rw [e0] at HWd
        clear h1 e0
        go_wp2_with fail
        refine (HWd _).out.mono ?_
        rintro e w1 ⟨rfl, hb1'⟩
        have HK1 := hid (HK.out.below hb1')
        clear hb1' HK HPw HBl
        obtain ⟨d0, d1, d2, d3, d4⟩ := five HK1.out.box
        generalize wr.heap.size = B at *
        go_wp2_with fail
        refine wp_region_held_drew (S := fun x => SB w q B x) rfl (HK1.out.below (below_drew _)).cells (fun hHeld => ?_)
        refine tkH 0 (some 30) (.int .i64 0) rfl ?_
        simp only [Act.put, zzA, zzB, zzC]
        refine tkH 1 (some 31) (.bool true) rfl ?_
        simp only [Act.put, zzA, zzB, zzC]
        refine tkH 2 (some 32) (.bool true) rfl ?_
        simp only [Act.put, zzA, zzB, zzC]
        refine skH 3 (some 33) rfl ?_
        simp only [Act.put, zzA, zzB, zzC]
        refine skH 4 (some 34) rfl ?_
        simp only [Act.put, zzA, zzB, zzC]
        refine skH 5 (some 35) rfl ?_
        simp only [Act.put, zzA, zzB, zzC]
        refine tkH 6 (some 36) (.bool true) rfl ?_
        simp only [Act.put, zzA, zzB, zzC]
        refine tkH 7 (some 37) (.bool true) rfl ?_
        simp only [Act.put, zzA, zzB, zzC]
        refine skH 8 (some 38) rfl ?_
        simp only [Act.put, zzA, zzB, zzC]
        refine skH 9 (some 39) rfl ?_
        simp only [Act.put, zzA, zzB, zzC]
        refine skH 10 (some 40) rfl ?_
        simp only [Act.put, zzA, zzB, zzC]
        refine skH 11 (some 41) rfl ?_
        simp only [Act.put, zzA, zzB, zzC]
        refine skH 12 (some 42) rfl ?_
        simp only [Act.put, zzA, zzB, zzC]
        refine tkH 13 (some 43) (.bool true) rfl ?_
        simp only [Act.put, zzA, zzB, zzC]
        refine tkH 14 (some 44) (.bool true) rfl ?_
        simp only [Act.put, zzA, zzB, zzC]
        refine skH 15 (some 45) rfl ?_
        simp only [Act.put, zzA, zzB, zzC]
        refine skH 16 (some 46) rfl ?_
        simp only [Act.put, zzA, zzB, zzC]
        refine skH 17 (some 47) rfl ?_
        simp only [Act.put, zzA, zzB, zzC]
        refine skH 18 (some 48) rfl ?_
        simp only [Act.put, zzA, zzB, zzC]
        refine skH 19 (some 49) rfl ?_
        simp only [Act.put, zzA, zzB, zzC]
        refine skH 20 (some 50) rfl ?_
        simp only [Act.put, zzA, zzB, zzC]
        refine skH 21 (some 51) rfl ?_
        simp only [Act.put, zzA, zzB, zzC]
        refine tkH 22 (some 52) (.bool true) rfl ?_
        simp only [Act.put, zzA, zzB, zzC]
        refine tkH 23 (some 53) (.bool true) rfl ?_
        simp only [Act.put, zzA, zzB, zzC]
        refine skH 24 (some 54) rfl ?_
        simp only [Act.put, zzA, zzB, zzC]
        refine skH 25 (some 55) rfl ?_
        simp only [Act.put, zzA, zzB, zzC]
        refine skH 26 (some 56) rfl ?_
        simp only [Act.put, zzA, zzB, zzC]
        refine skH 27 (some 57) rfl ?_
        simp only [Act.put, zzA, zzB, zzC]
        refine skH 28 (some 58) rfl ?_
        simp only [Act.put, zzA, zzB, zzC]
        refine skH 29 (some 59) rfl ?_
        simp only [Act.put, zzA, zzB, zzC]
        refine skH 30 (some 60) rfl ?_
        simp only [Act.put, zzA, zzB, zzC]
        refine skH 31 (some 61) rfl ?_
        simp only [Act.put, zzA, zzB, zzC]
        refine skH 32 (some 62) rfl ?_
        simp only [Act.put, zzA, zzB, zzC]
        refine skH 33 (some 63) rfl ?_
        simp only [Act.put, zzA, zzB, zzC]
        refine skH 34 (some 64) rfl ?_
        simp only [Act.put, zzA, zzB, zzC]
        refine skH 35 (some 65) rfl ?_
        simp only [Act.put, zzA, zzB, zzC]
        refine skH 36 (some 66) rfl ?_
        simp only [Act.put, zzA, zzB, zzC]
        refine tkH 37 (some 67) (.bool true) rfl ?_
        simp only [Act.put, zzA, zzB, zzC]
        refine wpAnyH_done (by kernel_rfl) ?_ _
        have HX4 := hid (SB.kb hHeld).bel
        clear hHeld
        go_wp2
        go_ret
        exact ⟨ret_bool HG.out.symm, HX4.out⟩
      obtain ⟨W0, W1⟩ := wid_pos (b := b) (l := q.L) (by unfold BadW; have := HB1.out; omega)
      have HOk : Hid (OkK b E q ↔ GoodB q ∧ q.F % wid b q.L = 0 ∧ q.T = q.F + wid b q.L ∧ E ≤ q.F) := ⟨fun g => g.2, fun g => ⟨h1, g⟩⟩
      generalize wid b q.L = W at *
      have n0 : (W == 0) = false := by rw [beq_eq_false_iff_ne]; omega
      have hn0 : W ≠ 0 := by omega
      go_wp2_with fail
      refine (HWd _).out.mono ?_
      rintro e w1 ⟨rfl, hb1'⟩
      have HK1 := hid (HK.out.below hb1')
      have HP1 : Hid (∀ j, k = j + 1 → w1.cell? ⟨b', off + j * 5 + 1, none⟩ = some (.int .i64 E)) := fun j hj => (hb1'.cell (by exact HBl.out)).trans (HPw.out j hj)
      have HB1' : Hid (b' < w1.heap.size) := Nat.lt_of_lt_of_le HBl.out hb1'.size
      clear hb1' HK HPw HBl c0 c1 c2 c3 c4
      obtain ⟨c0, c1, c2, c3, c4⟩ := five HK1.out.box
      generalize wr.heap.size = B at *
      have HGb := fun x hx => hid (f65 q x hx HFq.out HZq.out)
      cases h2 : gdB q
      · have HG := hid (HNo.out fun g => by rw [gdB_yes g.2.1] at h2; cases h2)
        rw [h2] at HGb
        clear h2
        go_wp2_with fail
        refine wp_region_held_drew (S := fun x => SB w q B x) rfl (HK1.out.below (below_drew _)).cells (fun hHeld => ?_)
        refine tkH 0 (some 30) (.int .i64 W) rfl ?_
        simp only [Act.put, zzA, zzB, zzC]
        refine tkH 1 (some 31) (.bool false) rfl ?_
        simp only [Act.put, zzA, zzB, zzC]
        refine tkH 2 (some 32) (.bool false) rfl ?_
        simp only [Act.put, zzA, zzB, zzC]
        refine tkH 3 (some 33) (agB q) rfl ?_
        simp only [Act.put, zzA, zzB, zzC]
        refine wpAnyH_ready (rs := [4]) (by kernel_rfl) (by simp) (AllReadyH.cons (o := { dst := some 34, op := _, type := _, pos := _, after := _, guard := _ }) rfl ?_ AllReadyH.nil)
        intro K1 hK1
        go_simp
        go_wp2_with (go_at_call 65; refine (HGb _ (KB.has (SB.kb hHeld))).out.mono ?_; rintro e w4 ⟨rfl, hb4⟩; have hs4 := (KB.below (SB.kb hHeld) hb4).cells; clear hb4)
        refine hK1.out _ _ hs4 (fun _ => ?_)
        clear hK1 K1
        clear hHeld
        refine tkH 5 (some 35) (.bool true) rfl ?_
        simp only [Act.put, zzA, zzB, zzC]
        refine tkH 6 (some 36) (.bool true) rfl ?_
        simp only [Act.put, zzA, zzB, zzC]
        refine tkH 7 (some 37) (.bool true) rfl ?_
        simp only [Act.put, zzA, zzB, zzC]
        refine skH 8 (some 38) rfl ?_
        simp only [Act.put, zzA, zzB, zzC]
        refine skH 9 (some 39) rfl ?_
        simp only [Act.put, zzA, zzB, zzC]
        refine skH 10 (some 40) rfl ?_
        simp only [Act.put, zzA, zzB, zzC]
        refine skH 11 (some 41) rfl ?_
        simp only [Act.put, zzA, zzB, zzC]
        refine skH 12 (some 42) rfl ?_
        simp only [Act.put, zzA, zzB, zzC]
        refine tkH 13 (some 43) (.bool true) rfl ?_
        simp only [Act.put, zzA, zzB, zzC]
        refine tkH 14 (some 44) (.bool true) rfl ?_
        simp only [Act.put, zzA, zzB, zzC]
        refine skH 15 (some 45) rfl ?_
        simp only [Act.put, zzA, zzB, zzC]
        refine skH 16 (some 46) rfl ?_
        simp only [Act.put, zzA, zzB, zzC]
        refine skH 17 (some 47) rfl ?_
        simp only [Act.put, zzA, zzB, zzC]
        refine skH 18 (some 48) rfl ?_
        simp only [Act.put, zzA, zzB, zzC]
        refine skH 19 (some 49) rfl ?_
        simp only [Act.put, zzA, zzB, zzC]
        refine skH 20 (some 50) rfl ?_
        simp only [Act.put, zzA, zzB, zzC]
        refine skH 21 (some 51) rfl ?_
        simp only [Act.put, zzA, zzB, zzC]
        refine tkH 22 (some 52) (.bool true) rfl ?_
        simp only [Act.put, zzA, zzB, zzC]
        refine tkH 23 (some 53) (.bool true) rfl ?_
        simp only [Act.put, zzA, zzB, zzC]
        refine skH 24 (some 54) rfl ?_
        simp only [Act.put, zzA, zzB, zzC]
        refine skH 25 (some 55) rfl ?_
        simp only [Act.put, zzA, zzB, zzC]
        refine skH 26 (some 56) rfl ?_
        simp only [Act.put, zzA, zzB, zzC]
        refine skH 27 (some 57) rfl ?_
        simp only [Act.put, zzA, zzB, zzC]
        refine skH 28 (some 58) rfl ?_
        simp only [Act.put, zzA, zzB, zzC]
        refine skH 29 (some 59) rfl ?_
        simp only [Act.put, zzA, zzB, zzC]
        refine skH 30 (some 60) rfl ?_
        simp only [Act.put, zzA, zzB, zzC]
        refine skH 31 (some 61) rfl ?_
        simp only [Act.put, zzA, zzB, zzC]
        refine skH 32 (some 62) rfl ?_
        simp only [Act.put, zzA, zzB, zzC]
        refine skH 33 (some 63) rfl ?_
        simp only [Act.put, zzA, zzB, zzC]
        refine skH 34 (some 64) rfl ?_
        simp only [Act.put, zzA, zzB, zzC]
        refine skH 35 (some 65) rfl ?_
        simp only [Act.put, zzA, zzB, zzC]
        refine skH 36 (some 66) rfl ?_
        simp only [Act.put, zzA, zzB, zzC]
        refine tkH 37 (some 67) (.bool true) rfl ?_
        simp only [Act.put, zzA, zzB, zzC]
        refine wpAnyH_done (by kernel_rfl) ?_ _
        have HX4 := hid (SB.kb hs4).bel
        clear hs4
        go_wp2
        go_ret
        exact ⟨ret_bool HG.out.symm, HX4.out⟩
      have HGq := hid (gdB_iff.1 h2)
      obtain ⟨⟨F0, F1⟩, F2, F3, F4, F5⟩ := HGq.out.1
      rw [h2] at HGb
      clear h2
      have hw5 : IntKind.i64.wrap (q.F + W) = q.F + W := wrap_in (by omega) (by omega)
      have et : q.F.tmod W = q.F % W := Int.tmod_eq_emod_of_nonneg F0
      by_cases h4 : q.F % W = 0
      rotate_left
      · have HG := hid (HNo.out fun g => h4 (HOk.out.1 g).2.1)
        have n1 : (q.F % W != 0) = true := by rw [bne_iff_ne]; exact h4
        clear h4
        go_wp2_with fail
        refine wp_region_held_drew (S := fun x => SB w q B x) rfl (HK1.out.below (below_drew _)).cells (fun hHeld => ?_)
        refine tkH 0 (some 30) (.int .i64 W) rfl ?_
        simp only [Act.put, zzA, zzB, zzC]
        refine tkH 1 (some 31) (.bool false) rfl ?_
        simp only [Act.put, zzA, zzB, zzC]
        refine tkH 2 (some 32) (.bool false) rfl ?_
        simp only [Act.put, zzA, zzB, zzC]
        refine tkH 3 (some 33) (agB q) rfl ?_
        simp only [Act.put, zzA, zzB, zzC]
        refine wpAnyH_ready (rs := [4]) (by kernel_rfl) (by simp) (AllReadyH.cons (o := { dst := some 34, op := _, type := _, pos := _, after := _, guard := _ }) rfl ?_ AllReadyH.nil)
        intro K1 hK1
        go_simp
        go_wp2_with (go_at_call 65; refine (HGb _ (KB.has (SB.kb hHeld))).out.mono ?_; rintro e w4 ⟨rfl, hb4⟩; have hs4 := (KB.below (SB.kb hHeld) hb4).cells; clear hb4)
        refine hK1.out _ _ hs4 (fun _ => ?_)
        clear hK1 K1
        clear hHeld
        refine tkH 5 (some 35) (.bool false) rfl ?_
        simp only [Act.put, zzA, zzB, zzC]
        refine tkH 6 (some 36) (.bool false) rfl ?_
        simp only [Act.put, zzA, zzB, zzC]
        refine tkH 7 (some 37) (.bool false) rfl ?_
        simp only [Act.put, zzA, zzB, zzC]
        refine tkH 8 (some 38) (.pointer (some ⟨B, 0, none⟩)) rfl ?_
        simp only [Act.put, zzA, zzB, zzC]
        refine tkH 9 (some 39) (.int .i64 q.F) rfl ?_
        simp only [Act.put, zzA, zzB, zzC]
        refine tkH 10 (some 40) (.int .i64 W) rfl ?_
        simp only [Act.put, zzA, zzB, zzC]
        refine tkH 11 (some 41) (.int .i64 (q.F % W)) rfl ?_
        simp only [Act.put, zzA, zzB, zzC]
        refine tkH 12 (some 42) (.bool true) rfl ?_
        simp only [Act.put, zzA, zzB, zzC]
        refine tkH 13 (some 43) (.bool true) rfl ?_
        simp only [Act.put, zzA, zzB, zzC]
        refine tkH 14 (some 44) (.bool true) rfl ?_
        simp only [Act.put, zzA, zzB, zzC]
        refine skH 15 (some 45) rfl ?_
        simp only [Act.put, zzA, zzB, zzC]
        refine skH 16 (some 46) rfl ?_
        simp only [Act.put, zzA, zzB, zzC]
        refine skH 17 (some 47) rfl ?_
        simp only [Act.put, zzA, zzB, zzC]
        refine skH 18 (some 48) rfl ?_
        simp only [Act.put, zzA, zzB, zzC]
        refine skH 19 (some 49) rfl ?_
        simp only [Act.put, zzA, zzB, zzC]
        refine skH 20 (some 50) rfl ?_
        simp only [Act.put, zzA, zzB, zzC]
        refine skH 21 (some 51) rfl ?_
        simp only [Act.put, zzA, zzB, zzC]
        refine tkH 22 (some 52) (.bool true) rfl ?_
        simp only [Act.put, zzA, zzB, zzC]
        refine tkH 23 (some 53) (.bool true) rfl ?_
        simp only [Act.put, zzA, zzB, zzC]
        refine skH 24 (some 54) rfl ?_
        simp only [Act.put, zzA, zzB, zzC]
        refine skH 25 (some 55) rfl ?_
        simp only [Act.put, zzA, zzB, zzC]
        refine skH 26 (some 56) rfl ?_
        simp only [Act.put, zzA, zzB, zzC]
        refine skH 27 (some 57) rfl ?_
        simp only [Act.put, zzA, zzB, zzC]
        refine skH 28 (some 58) rfl ?_
        simp only [Act.put, zzA, zzB, zzC]
        refine skH 29 (some 59) rfl ?_
        simp only [Act.put, zzA, zzB, zzC]
        refine skH 30 (some 60) rfl ?_
        simp only [Act.put, zzA, zzB, zzC]
        refine skH 31 (some 61) rfl ?_
        simp only [Act.put, zzA, zzB, zzC]
        refine skH 32 (some 62) rfl ?_
        simp only [Act.put, zzA, zzB, zzC]
        refine skH 33 (some 63) rfl ?_
        simp only [Act.put, zzA, zzB, zzC]
        refine skH 34 (some 64) rfl ?_
        simp only [Act.put, zzA, zzB, zzC]
        refine skH 35 (some 65) rfl ?_
        simp only [Act.put, zzA, zzB, zzC]
        refine skH 36 (some 66) rfl ?_
        simp only [Act.put, zzA, zzB, zzC]
        refine tkH 37 (some 67) (.bool true) rfl ?_
        simp only [Act.put, zzA, zzB, zzC]
        refine wpAnyH_done (by kernel_rfl) ?_ _
        have HX4 := hid (SB.kb hs4).bel
        clear hs4
        go_wp2
        go_ret
        exact ⟨ret_bool HG.out.symm, HX4.out⟩
      have n1 : (q.F % W != 0) = false := by rw [h4]; rfl
      have HM4 := hid h4
      clear h4
      by_cases h5 : q.T = q.F + W
      rotate_left
      · have HG := hid (HNo.out fun g => h5 (HOk.out.1 g).2.2.1)
        have n2 : (q.T != q.F + W) = true := by rw [bne_iff_ne]; exact h5
        clear h5
        go_wp2_with fail
        refine wp_region_held_drew (S := fun x => SB w q B x) rfl (HK1.out.below (below_drew _)).cells (fun hHeld => ?_)
        refine tkH 0 (some 30) (.int .i64 W) rfl ?_
        simp only [Act.put, zzA, zzB, zzC]
        refine tkH 1 (some 31) (.bool false) rfl ?_
        simp only [Act.put, zzA, zzB, zzC]
        refine tkH 2 (some 32) (.bool false) rfl ?_
        simp only [Act.put, zzA, zzB, zzC]
        refine tkH 3 (some 33) (agB q) rfl ?_
        simp only [Act.put, zzA, zzB, zzC]
        refine wpAnyH_ready (rs := [4]) (by kernel_rfl) (by simp) (AllReadyH.cons (o := { dst := some 34, op := _, type := _, pos := _, after := _, guard := _ }) rfl ?_ AllReadyH.nil)
        intro K1 hK1
        go_simp
        go_wp2_with (go_at_call 65; refine (HGb _ (KB.has (SB.kb hHeld))).out.mono ?_; rintro e w4 ⟨rfl, hb4⟩; have hs4 := (KB.below (SB.kb hHeld) hb4).cells; clear hb4)
        refine hK1.out _ _ hs4 (fun _ => ?_)
        clear hK1 K1
        clear hHeld
        refine tkH 5 (some 35) (.bool false) rfl ?_
        simp only [Act.put, zzA, zzB, zzC]
        refine tkH 6 (some 36) (.bool false) rfl ?_
        simp only [Act.put, zzA, zzB, zzC]
        refine tkH 7 (some 37) (.bool false) rfl ?_
        simp only [Act.put, zzA, zzB, zzC]
        refine tkH 8 (some 38) (.pointer (some ⟨B, 0, none⟩)) rfl ?_
        simp only [Act.put, zzA, zzB, zzC]
        refine tkH 9 (some 39) (.int .i64 q.F) rfl ?_
        simp only [Act.put, zzA, zzB, zzC]
        refine tkH 10 (some 40) (.int .i64 W) rfl ?_
        simp only [Act.put, zzA, zzB, zzC]
        refine tkH 11 (some 41) (.int .i64 (q.F % W)) rfl ?_
        simp only [Act.put, zzA, zzB, zzC]
        refine tkH 12 (some 42) (.bool false) rfl ?_
        simp only [Act.put, zzA, zzB, zzC]
        refine tkH 13 (some 43) (.bool false) rfl ?_
        simp only [Act.put, zzA, zzB, zzC]
        refine tkH 14 (some 44) (.bool false) rfl ?_
        simp only [Act.put, zzA, zzB, zzC]
        refine tkH 15 (some 45) (.pointer (some ⟨B, 1, none⟩)) rfl ?_
        simp only [Act.put, zzA, zzB, zzC]
        refine tkH 16 (some 46) (.int .i64 q.T) rfl ?_
        simp only [Act.put, zzA, zzB, zzC]
        refine tkH 17 (some 47) (.pointer (some ⟨B, 0, none⟩)) rfl ?_
        simp only [Act.put, zzA, zzB, zzC]
        refine tkH 18 (some 48) (.int .i64 q.F) rfl ?_
        simp only [Act.put, zzA, zzB, zzC]
        refine tkH 19 (some 49) (.int .i64 W) rfl ?_
        simp only [Act.put, zzA, zzB, zzC]
        refine tkH 20 (some 50) (.int .i64 (q.F + W)) rfl ?_
        simp only [Act.put, zzA, zzB, zzC]
        refine tkH 21 (some 51) (.bool true) rfl ?_
        simp only [Act.put, zzA, zzB, zzC]
        refine tkH 22 (some 52) (.bool true) rfl ?_
        simp only [Act.put, zzA, zzB, zzC]
        refine tkH 23 (some 53) (.bool true) rfl ?_
        simp only [Act.put, zzA, zzB, zzC]
        refine skH 24 (some 54) rfl ?_
        simp only [Act.put, zzA, zzB, zzC]
        refine skH 25 (some 55) rfl ?_
        simp only [Act.put, zzA, zzB, zzC]
        refine skH 26 (some 56) rfl ?_
        simp only [Act.put, zzA, zzB, zzC]
        refine skH 27 (some 57) rfl ?_
        simp only [Act.put, zzA, zzB, zzC]
        refine skH 28 (some 58) rfl ?_
        simp only [Act.put, zzA, zzB, zzC]
        refine skH 29 (some 59) rfl ?_
        simp only [Act.put, zzA, zzB, zzC]
        refine skH 30 (some 60) rfl ?_
        simp only [Act.put, zzA, zzB, zzC]
        refine skH 31 (some 61) rfl ?_
        simp only [Act.put, zzA, zzB, zzC]
        refine skH 32 (some 62) rfl ?_
        simp only [Act.put, zzA, zzB, zzC]
        refine skH 33 (some 63) rfl ?_
        simp only [Act.put, zzA, zzB, zzC]
        refine skH 34 (some 64) rfl ?_
        simp only [Act.put, zzA, zzB, zzC]
        refine skH 35 (some 65) rfl ?_
        simp only [Act.put, zzA, zzB, zzC]
        refine skH 36 (some 66) rfl ?_
        simp only [Act.put, zzA, zzB, zzC]
        refine tkH 37 (some 67) (.bool true) rfl ?_
        simp only [Act.put, zzA, zzB, zzC]
        refine wpAnyH_done (by kernel_rfl) ?_ _
        have HX4 := hid (SB.kb hs4).bel
        clear hs4
        go_wp2
        go_ret
        exact ⟨ret_bool HG.out.symm, HX4.out⟩
      have n2 : (q.T != q.F + W) = false := by rw [← h5]; simp
      have HM5 := hid h5
      clear h5
      cases k with
      | zero =>
        have hE := HE0.out rfl
        have HY := hid (HYes.out (HOk.out.2 ⟨HGq.out, HM4.out, HM5.out, by omega⟩))
        clear hE
        go_wp2_with fail
        refine wp_region_held_drew (S := fun x => SB w q B x) rfl (HK1.out.below (below_drew _)).cells (fun hHeld => ?_)
        refine tkH 0 (some 30) (.int .i64 W) rfl ?_
        simp only [Act.put, zzA, zzB, zzC]
        refine tkH 1 (some 31) (.bool false) rfl ?_
        simp only [Act.put, zzA, zzB, zzC]
        refine tkH 2 (some 32) (.bool false) rfl ?_
        simp only [Act.put, zzA, zzB, zzC]
        refine tkH 3 (some 33) (agB q) rfl ?_
        simp only [Act.put, zzA, zzB, zzC]
        refine wpAnyH_ready (rs := [4]) (by kernel_rfl) (by simp) (AllReadyH.cons (o := { dst := some 34, op := _, type := _, pos := _, after := _, guard := _ }) rfl ?_ AllReadyH.nil)
        intro K1 hK1
        go_simp
        go_wp2_with (go_at_call 65; refine (HGb _ (KB.has (SB.kb hHeld))).out.mono ?_; rintro e w4 ⟨rfl, hb4⟩; have hs4 := (KB.below (SB.kb hHeld) hb4).cells; clear hb4)
        refine hK1.out _ _ hs4 (fun _ => ?_)
        clear hK1 K1
        clear hHeld
        refine tkH 5 (some 35) (.bool false) rfl ?_
        simp only [Act.put, zzA, zzB, zzC]
        refine tkH 6 (some 36) (.bool false) rfl ?_
        simp only [Act.put, zzA, zzB, zzC]
        refine tkH 7 (some 37) (.bool false) rfl ?_
        simp only [Act.put, zzA, zzB, zzC]
        refine tkH 8 (some 38) (.pointer (some ⟨B, 0, none⟩)) rfl ?_
        simp only [Act.put, zzA, zzB, zzC]
        refine tkH 9 (some 39) (.int .i64 q.F) rfl ?_
        simp only [Act.put, zzA, zzB, zzC]
        refine tkH 10 (some 40) (.int .i64 W) rfl ?_
        simp only [Act.put, zzA, zzB, zzC]
        refine tkH 11 (some 41) (.int .i64 (q.F % W)) rfl ?_
        simp only [Act.put, zzA, zzB, zzC]
        refine tkH 12 (some 42) (.bool false) rfl ?_
        simp only [Act.put, zzA, zzB, zzC]
        refine tkH 13 (some 43) (.bool false) rfl ?_
        simp only [Act.put, zzA, zzB, zzC]
        refine tkH 14 (some 44) (.bool false) rfl ?_
        simp only [Act.put, zzA, zzB, zzC]
        refine tkH 15 (some 45) (.pointer (some ⟨B, 1, none⟩)) rfl ?_
        simp only [Act.put, zzA, zzB, zzC]
        refine tkH 16 (some 46) (.int .i64 q.T) rfl ?_
        simp only [Act.put, zzA, zzB, zzC]
        refine tkH 17 (some 47) (.pointer (some ⟨B, 0, none⟩)) rfl ?_
        simp only [Act.put, zzA, zzB, zzC]
        refine tkH 18 (some 48) (.int .i64 q.F) rfl ?_
        simp only [Act.put, zzA, zzB, zzC]
        refine tkH 19 (some 49) (.int .i64 W) rfl ?_
        simp only [Act.put, zzA, zzB, zzC]
        refine tkH 20 (some 50) (.int .i64 (q.F + W)) rfl ?_
        simp only [Act.put, zzA, zzB, zzC]
        refine tkH 21 (some 51) (.bool false) rfl ?_
        simp only [Act.put, zzA, zzB, zzC]
        refine tkH 22 (some 52) (.bool false) rfl ?_
        simp only [Act.put, zzA, zzB, zzC]
        refine tkH 23 (some 53) (.bool false) rfl ?_
        simp only [Act.put, zzA, zzB, zzC]
        refine tkH 24 (some 54) (.int .i64 0) rfl ?_
        simp only [Act.put, zzA, zzB, zzC]
        refine tkH 25 (some 55) (.bool false) rfl ?_
        simp only [Act.put, zzA, zzB, zzC]
        refine tkH 26 (some 56) (.bool false) rfl ?_
        simp only [Act.put, zzA, zzB, zzC]
        refine skH 27 (some 57) rfl ?_
        simp only [Act.put, zzA, zzB, zzC]
        refine skH 28 (some 58) rfl ?_
        simp only [Act.put, zzA, zzB, zzC]
        refine skH 29 (some 59) rfl ?_
        simp only [Act.put, zzA, zzB, zzC]
        refine skH 30 (some 60) rfl ?_
        simp only [Act.put, zzA, zzB, zzC]
        refine skH 31 (some 61) rfl ?_
        simp only [Act.put, zzA, zzB, zzC]
        refine skH 32 (some 62) rfl ?_
        simp only [Act.put, zzA, zzB, zzC]
        refine skH 33 (some 63) rfl ?_
        simp only [Act.put, zzA, zzB, zzC]
        refine skH 34 (some 64) rfl ?_
        simp only [Act.put, zzA, zzB, zzC]
        refine skH 35 (some 65) rfl ?_
        simp only [Act.put, zzA, zzB, zzC]
        refine tkH 36 (some 66) (.bool false) rfl ?_
        simp only [Act.put, zzA, zzB, zzC]
        refine tkH 37 (some 67) (.bool false) rfl ?_
        simp only [Act.put, zzA, zzB, zzC]
        refine wpAnyH_done (by kernel_rfl) ?_ _
        have HX4 := hid (SB.kb hs4).bel
        clear hs4
        go_wp2
        go_roundw
        case rel => exact ⟨1, by omega, rfl, HY.out, HX4.out⟩
        case measure => simp [intOf]; omega
      | succ j =>
        have i2 : (j : Int) + 1 < (n : Int) := by omega
        have i3 : (j : Int) < (n : Int) := by omega
        have hwj : IntKind.i64.wrap (j : Int) = (j : Int) := wrap_in (by omega) (by omega)
        have p0 := HP1.out j rfl
        have HSE : Hid (SE w q B b' (off + j * 5 + 1) E w1) := ⟨c0, c1, c2, c3, c4, p0, HB1'.out, HK1.out⟩
        by_cases h6 : q.F < E
        · have HG := hid (HNo.out fun g => by have := (HOk.out.1 g).2.2.2; omega)
          go_wp2_with fail
          refine wp_region_held_drew (S := fun x => SE w q B b' (off + j * 5 + 1) E x) rfl (HSE.out.below (below_drew _)) (fun hHeld => ?_)
          refine tkH 0 (some 30) (.int .i64 W) rfl ?_
          simp only [Act.put, zzA, zzB, zzC]
          refine tkH 1 (some 31) (.bool false) rfl ?_
          simp only [Act.put, zzA, zzB, zzC]
          refine tkH 2 (some 32) (.bool false) rfl ?_
          simp only [Act.put, zzA, zzB, zzC]
          refine tkH 3 (some 33) (agB q) rfl ?_
          simp only [Act.put, zzA, zzB, zzC]
          refine wpAnyH_ready (rs := [4]) (by kernel_rfl) (by simp) (AllReadyH.cons (o := { dst := some 34, op := _, type := _, pos := _, after := _, guard := _ }) rfl ?_ AllReadyH.nil)
          intro K1 hK1
          go_simp
          go_wp2_with (go_at_call 65; refine (HGb _ (KB.has (SE.kb hHeld))).out.mono ?_; rintro e w4 ⟨rfl, hb4⟩; have hs4 := SE.below hHeld hb4; clear hb4)
          refine hK1.out _ _ hs4 (fun _ => ?_)
          clear hK1 K1
          clear hHeld
          refine tkH 5 (some 35) (.bool false) rfl ?_
          simp only [Act.put, zzA, zzB, zzC]
          refine tkH 6 (some 36) (.bool false) rfl ?_
          simp only [Act.put, zzA, zzB, zzC]
          refine tkH 7 (some 37) (.bool false) rfl ?_
          simp only [Act.put, zzA, zzB, zzC]
          refine tkH 8 (some 38) (.pointer (some ⟨B, 0, none⟩)) rfl ?_
          simp only [Act.put, zzA, zzB, zzC]
          refine tkH 9 (some 39) (.int .i64 q.F) rfl ?_
          simp only [Act.put, zzA, zzB, zzC]
          refine tkH 10 (some 40) (.int .i64 W) rfl ?_
          simp only [Act.put, zzA, zzB, zzC]
          refine tkH 11 (some 41) (.int .i64 (q.F % W)) rfl ?_
          simp only [Act.put, zzA, zzB, zzC]
          refine tkH 12 (some 42) (.bool false) rfl ?_
          simp only [Act.put, zzA, zzB, zzC]
          refine tkH 13 (some 43) (.bool false) rfl ?_
          simp only [Act.put, zzA, zzB, zzC]
          refine tkH 14 (some 44) (.bool false) rfl ?_
          simp only [Act.put, zzA, zzB, zzC]
          refine tkH 15 (some 45) (.pointer (some ⟨B, 1, none⟩)) rfl ?_
          simp only [Act.put, zzA, zzB, zzC]
          refine tkH 16 (some 46) (.int .i64 q.T) rfl ?_
          simp only [Act.put, zzA, zzB, zzC]
          refine tkH 17 (some 47) (.pointer (some ⟨B, 0, none⟩)) rfl ?_
          simp only [Act.put, zzA, zzB, zzC]
          refine tkH 18 (some 48) (.int .i64 q.F) rfl ?_
          simp only [Act.put, zzA, zzB, zzC]
          refine tkH 19 (some 49) (.int .i64 W) rfl ?_
          simp only [Act.put, zzA, zzB, zzC]
          refine tkH 20 (some 50) (.int .i64 (q.F + W)) rfl ?_
          simp only [Act.put, zzA, zzB, zzC]
          refine tkH 21 (some 51) (.bool false) rfl ?_
          simp only [Act.put, zzA, zzB, zzC]
          refine tkH 22 (some 52) (.bool false) rfl ?_
          simp only [Act.put, zzA, zzB, zzC]
          refine tkH 23 (some 53) (.bool false) rfl ?_
          simp only [Act.put, zzA, zzB, zzC]
          refine tkH 24 (some 54) (.int .i64 ((j : Int) + 1)) rfl ?_
          simp only [Act.put, zzA, zzB, zzC]
          refine tkH 25 (some 55) (.bool true) rfl ?_
          simp only [Act.put, zzA, zzB, zzC]
          refine tkH 26 (some 56) (.bool true) rfl ?_
          simp only [Act.put, zzA, zzB, zzC]
          refine tkH 27 (some 57) (.pointer (some ⟨B, 0, none⟩)) rfl ?_
          simp only [Act.put, zzA, zzB, zzC]
          refine tkH 28 (some 58) (.int .i64 q.F) rfl ?_
          simp only [Act.put, zzA, zzB, zzC]
          refine tkH 29 (some 59) (.slice (some ⟨b', off, none⟩) n c) rfl ?_
          simp only [Act.put, zzA, zzB, zzC]
          refine tkH 30 (some 60) (.int .i64 ((j : Int) + 1)) rfl ?_
          simp only [Act.put, zzA, zzB, zzC]
          refine tkH 31 (some 61) (.int .i64 (j : Int)) rfl ?_
          simp only [Act.put, zzA, zzB, zzC]
          refine tkH 32 (some 62) (.pointer (some ⟨b', off + j * 5, none⟩)) rfl ?_
          simp only [Act.put, zzA, zzB, zzC]
          refine tkH 33 (some 63) (.pointer (some ⟨b', off + j * 5 + 1, none⟩)) rfl ?_
          simp only [Act.put, zzA, zzB, zzC]
          refine tkH 34 (some 64) (.int .i64 E) rfl ?_
          simp only [Act.put, zzA, zzB, zzC]
          refine tkH 35 (some 65) (.bool true) rfl ?_
          simp only [Act.put, zzA, zzB, zzC]
          refine tkH 36 (some 66) (.bool true) rfl ?_
          simp only [Act.put, zzA, zzB, zzC]
          refine tkH 37 (some 67) (.bool true) rfl ?_
          simp only [Act.put, zzA, zzB, zzC]
          refine wpAnyH_done (by kernel_rfl) ?_ _
          have HX4 := hid (SE.kb hs4).bel
          clear hs4
          go_wp2
          go_ret
          exact ⟨ret_bool HG.out.symm, HX4.out⟩
        · have HY := hid (HYes.out (HOk.out.2 ⟨HGq.out, HM4.out, HM5.out, by omega⟩))
          go_wp2_with fail
          refine wp_region_held_drew (S := fun x => SE w q B b' (off + j * 5 + 1) E x) rfl (HSE.out.below (below_drew _)) (fun hHeld => ?_)
          refine tkH 0 (some 30) (.int .i64 W) rfl ?_
          simp only [Act.put, zzA, zzB, zzC]
          refine tkH 1 (some 31) (.bool false) rfl ?_
          simp only [Act.put, zzA, zzB, zzC]
          refine tkH 2 (some 32) (.bool false) rfl ?_
          simp only [Act.put, zzA, zzB, zzC]
          refine tkH 3 (some 33) (agB q) rfl ?_
          simp only [Act.put, zzA, zzB, zzC]
          refine wpAnyH_ready (rs := [4]) (by kernel_rfl) (by simp) (AllReadyH.cons (o := { dst := some 34, op := _, type := _, pos := _, after := _, guard := _ }) rfl ?_ AllReadyH.nil)
          intro K1 hK1
          go_simp
          go_wp2_with (go_at_call 65; refine (HGb _ (KB.has (SE.kb hHeld))).out.mono ?_; rintro e w4 ⟨rfl, hb4⟩; have hs4 := SE.below hHeld hb4; clear hb4)
          refine hK1.out _ _ hs4 (fun _ => ?_)
          clear hK1 K1
          clear hHeld
          refine tkH 5 (some 35) (.bool false) rfl ?_
          simp only [Act.put, zzA, zzB, zzC]
          refine tkH 6 (some 36) (.bool false) rfl ?_
          simp only [Act.put, zzA, zzB, zzC]
          refine tkH 7 (some 37) (.bool false) rfl ?_
          simp only [Act.put, zzA, zzB, zzC]
          refine tkH 8 (some 38) (.pointer (some ⟨B, 0, none⟩)) rfl ?_
          simp only [Act.put, zzA, zzB, zzC]
          refine tkH 9 (some 39) (.int .i64 q.F) rfl ?_
          simp only [Act.put, zzA, zzB, zzC]
          refine tkH 10 (some 40) (.int .i64 W) rfl ?_
          simp only [Act.put, zzA, zzB, zzC]
          refine tkH 11 (some 41) (.int .i64 (q.F % W)) rfl ?_
          simp only [Act.put, zzA, zzB, zzC]
          refine tkH 12 (some 42) (.bool false) rfl ?_
          simp only [Act.put, zzA, zzB, zzC]
          refine tkH 13 (some 43) (.bool false) rfl ?_
          simp only [Act.put, zzA, zzB, zzC]
          refine tkH 14 (some 44) (.bool false) rfl ?_
          simp only [Act.put, zzA, zzB, zzC]
          refine tkH 15 (some 45) (.pointer (some ⟨B, 1, none⟩)) rfl ?_
          simp only [Act.put, zzA, zzB, zzC]
          refine tkH 16 (some 46) (.int .i64 q.T) rfl ?_
          simp only [Act.put, zzA, zzB, zzC]
          refine tkH 17 (some 47) (.pointer (some ⟨B, 0, none⟩)) rfl ?_
          simp only [Act.put, zzA, zzB, zzC]
          refine tkH 18 (some 48) (.int .i64 q.F) rfl ?_
          simp only [Act.put, zzA, zzB, zzC]
          refine tkH 19 (some 49) (.int .i64 W) rfl ?_
          simp only [Act.put, zzA, zzB, zzC]
          refine tkH 20 (some 50) (.int .i64 (q.F + W)) rfl ?_
          simp only [Act.put, zzA, zzB, zzC]
          refine tkH 21 (some 51) (.bool false) rfl ?_
          simp only [Act.put, zzA, zzB, zzC]
          refine tkH 22 (some 52) (.bool false) rfl ?_
          simp only [Act.put, zzA, zzB, zzC]
          refine tkH 23 (some 53) (.bool false) rfl ?_
          simp only [Act.put, zzA, zzB, zzC]
          refine tkH 24 (some 54) (.int .i64 ((j : Int) + 1)) rfl ?_
          simp only [Act.put, zzA, zzB, zzC]
          refine tkH 25 (some 55) (.bool true) rfl ?_
          simp only [Act.put, zzA, zzB, zzC]
          refine tkH 26 (some 56) (.bool true) rfl ?_
          simp only [Act.put, zzA, zzB, zzC]
          refine tkH 27 (some 57) (.pointer (some ⟨B, 0, none⟩)) rfl ?_
          simp only [Act.put, zzA, zzB, zzC]
          refine tkH 28 (some 58) (.int .i64 q.F) rfl ?_
          simp only [Act.put, zzA, zzB, zzC]
          refine tkH 29 (some 59) (.slice (some ⟨b', off, none⟩) n c) rfl ?_
          simp only [Act.put, zzA, zzB, zzC]
          refine tkH 30 (some 60) (.int .i64 ((j : Int) + 1)) rfl ?_
          simp only [Act.put, zzA, zzB, zzC]
          refine tkH 31 (some 61) (.int .i64 (j : Int)) rfl ?_
          simp only [Act.put, zzA, zzB, zzC]
          refine tkH 32 (some 62) (.pointer (some ⟨b', off + j * 5, none⟩)) rfl ?_
          simp only [Act.put, zzA, zzB, zzC]
          refine tkH 33 (some 63) (.pointer (some ⟨b', off + j * 5 + 1, none⟩)) rfl ?_
          simp only [Act.put, zzA, zzB, zzC]
          refine tkH 34 (some 64) (.int .i64 E) rfl ?_
          simp only [Act.put, zzA, zzB, zzC]
          refine tkH 35 (some 65) (.bool false) rfl ?_
          simp only [Act.put, zzA, zzB, zzC]
          refine tkH 36 (some 66) (.bool false) rfl ?_
          simp only [Act.put, zzA, zzB, zzC]
          refine tkH 37 (some 67) (.bool false) rfl ?_
          simp only [Act.put, zzA, zzB, zzC]
          refine wpAnyH_done (by kernel_rfl) ?_ _
          have HX4 := hid (SE.kb hs4).bel
          clear hs4
          go_wp2
          go_roundw
          case rel => exact ⟨j + 1 + 1, by omega, by go_num, HY.out, HX4.out⟩
          case measure => simp [intOf]; omega
    · obtain rfl : k = n := by omega
      have HG : Hid (gdK b bs = true) := gdK_yes ⟨HB1.out, by rw [HN.out]; omega, fun i hi => HU.out i (by rw [← HN.out]; exact hi)⟩
      go_wp2
      go_ret
      exact ⟨ret_bool HG.out.symm, HX.out⟩
end Go.Proofs.YtjhdmghpklagkaaGreat.Blk
