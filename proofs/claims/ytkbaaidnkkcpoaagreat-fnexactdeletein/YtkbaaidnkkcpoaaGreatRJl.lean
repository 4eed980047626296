/- Blocks marked; sizes with totals; the walk of FnExactPostings. -/
import Derived.Test.YtkbaaidnkkcpoaaGreatRJk
import Derived.Test.YtkbaaidnkkcpoaaGreatRGM
import Derived.Test.YtkbaaidnkkcpoaaGreatRJh
namespace Go.Proofs.YtkbaaidnkkcpoaaGreat.Blk
open Go.RowKit
open Go.Proofs.YtkbaaidnkkcpoaaGreat.Lab (Lb HasL)
open Go.Proofs.YtkbaaidnkkcpoaaGreat.Srs (hid lt_at kept Q HasQ FitQ SmlQ OwnQ q0 blk Fr own_fr)
open Go.Proofs.YtkbaaidnkkcpoaaGreat.Stn (T HasT FitT SmlT OwnT t0)
open Go.Proofs.YtkbaaidnkkcpoaaGreat.Ino (Own marks below_drewN)

/-- How much a block has. -/
def tb (h : Bk) : Nat := h.qs.length + Srs.tot h.qs h.qs.length + h.ts.length + Stn.tot h.ts h.ts.length
set_option maxHeartbeats 1000000 in
theorem f16t (h : Bk) (w : World) (hr : HasB w h) (hf : FitB h) :
    Calls Tryz.prog 16 #[agB h, .int .i64 1048576] w fun e w' => ∃ y : Int, e = .returned (.int .i64 y) ∧ -1 ≤ y ∧ y ≤ 1048576 ∧ (0 ≤ y → tb h ≤ 1048576) ∧ Below w.heap.size w w' := by
  obtain ⟨F, T, L, qs, a, c, ts, b, d⟩ := h
  obtain ⟨-, -, -, f4, f5, f6, f7⟩ := hf
  obtain ⟨hr1, hr2⟩ := hr
  simp only at hr1 hr2 f4 f5 f6 f7
  have HR := hid hr1
  have HT := hid hr2
  have HF := hid f4
  have HM := hid f5
  have HF2 := hid f6
  have HM2 := hid f7
  have HB0 := hid ((Below.refl w.heap.size w).alloc (Nat.le_refl _) (.cells #[.int .i64 F, .int .i64 T, .int .i64 L, .slice a qs.length c, .slice b ts.length d] 39))
  have HC0 := hid (heap_alloc_new w (.cells #[.int .i64 F, .int .i64 T, .int .i64 L, .slice a qs.length c, .slice b ts.length d] 39))
  clear hr1 hr2 f4 f5 f6 f7
  simp only [agB, clB]
  go_enter Tryz.func16, Tryz.ntmps16
  go_wp2_with fail
  refine (Srs.f38 a qs.length c 1048576 qs _ (by omega) (by omega) rfl (HR.out.below HB0.out) HF.out HM.out).mono ?_
  rintro e w1 ⟨y, rfl, y0, y1, hy, hb1⟩
  have HB1 := hid (HB0.out.trans (hb1.mono HB0.out.size))
  obtain ⟨c0, c1, c2, c3, c4⟩ := five (kept HC0.out hb1)
  have HY := hid hy
  clear hb1 hy
  by_cases g0 : y < 0
  · go_wp2
    go_ret
    exact ⟨-1, rfl, by omega, by omega, fun h => absurd h (by omega), HB1.out⟩
  · go_wp2_with fail
    refine (Stn.f39 b ts.length d y ts _ (by omega) (by omega) rfl (HT.out.below HB1.out) HF2.out HM2.out).mono ?_
    rintro e w2 ⟨z, rfl, z0, z1, hz, hb2⟩
    have HB2 := hid (HB1.out.trans (hb2.mono HB1.out.size))
    have HZ : Hid (0 ≤ z → tb ⟨F, T, L, qs, a, c, ts, b, d⟩ ≤ 1048576) := fun h => by
      have h1 := HY.out (by omega)
      have h2 := hz h
      unfold tb
      simp only
      omega
    clear hb2 hz
    by_cases g1 : z < 0
    · go_wp2
      go_ret
      exact ⟨-1, rfl, by omega, by omega, fun h => absurd h (by omega), HB2.out⟩
    · go_wp2
      go_ret
      exact ⟨z, rfl, by omega, by omega, HZ.out, HB2.out⟩
theorem sml_tb {h : Bk} (g : tb h ≤ 1048576) : SmlB h := by
  unfold tb at g
  exact ⟨by omega, Srs.sml_tot (by omega), by omega, Stn.sml_tot (by omega)⟩
theorem totq_same {n : Nat} {qs d : List Q} (h : Srs.Same n qs d) : ∀ k, k ≤ n → Srs.tot d k = Srs.tot qs k := by
  intro k
  induction k with
  | zero => intro _; rfl
  | succ k ih =>
    intro hk
    have e := h k (by omega)
    simp only [Srs.pl, Prod.mk.injEq] at e
    simp only [Srs.tot]
    rw [ih (by omega), e.1, e.2]
theorem tott_same {n : Nat} {ts d : List T} (h : Stn.Same n ts d) : ∀ k, k ≤ n → Stn.tot d k = Stn.tot ts k := by
  intro k
  induction k with
  | zero => intro _; rfl
  | succ k ih =>
    intro hk
    have e := same_l (h k (by omega))
    simp only [Stn.tot]
    rw [ih (by omega), e.1]
theorem SameB.tb {h h' : Bk} (s : SameB h h') : tb h' = tb h := by
  unfold Blk.tb
  rw [s.lq, s.lt, totq_same s.sq _ (Nat.le_refl _), tott_same s.st _ (Nat.le_refl _)]
theorem ownt_fr {X Y k n : Nat} {ts : List T} {w x : World} (h : OwnT k k n ts w) (hf : Fr X Y w x) (hk : Y ≤ k) : OwnT k k n ts x :=
  ⟨own_fr h.row hf (.inr hk), ⟨h.kin.len, fun i hi => ⟨(h.kin.own i hi).ha, own_fr (h.kin.own i hi).lab hf (.inr (by have := h.kin.off i hi; omega))⟩, h.kin.off, h.kin.dis⟩⟩
theorem fr_join {X Y X' Y' : Nat} {w x y : World} (h : Fr X Y w x) (g : Fr X' Y' x y) (h1 : X ≤ X') (h2 : Y ≤ Y') : Fr X Y' w y :=
  ⟨g.os.trans h.os, g.tape.trans h.tape, g.output.trans h.output, Nat.le_trans h.size g.size, fun k hk hne => (g.block k (Nat.lt_of_lt_of_le hk h.size) (by omega)).trans (h.block k hk (by omega))⟩
set_option maxHeartbeats 2000000 in
theorem f21 (X g k S Y : Nat) (h h' : Bk) (w : World) (o : OwnB X g k S h h' w) (ht : tb h ≤ 1048576) (hk : k < Y) (hY : Y ≤ w.heap.size) (hT : ∀ i, i < h.ts.length → blk (h'.ts.getD i t0).a < Y) :
    Calls Tryz.prog 21 #[agB h', .int .i64 1] w fun e w' => ∃ m : Nat, e = .returned (.int .i64 (m : Int)) ∧ m ≤ 10000000 ∧ Fr g Y w w' := by
  have HB0 := hid ((Below.refl w.heap.size w).alloc (Nat.le_refl _) (.cells (clB h') 44))
  have HO := hid (o.below HB0.out)
  have HC0 := hid (heap_alloc_new w (.cells (clB h') 44))
  have HTb : Hid (Srs.tot h'.qs h.qs.length + Stn.tot h'.ts h.ts.length + h.ts.length + h.qs.length ≤ 1048576) := by
    have := o.same.tb
    unfold Blk.tb at this ht
    rw [o.lq, o.lt] at this
    unfold Hid; omega
  have HTT := hid hT
  clear o hT
  obtain ⟨F, T, L, qs, a, c, ts, b, d⟩ := h'
  have e1 := HO.out.ea
  have e2 := HO.out.eb
  have e3 := HO.out.ec
  have e4 := HO.out.ed
  simp only at e1 e2 e3 e4
  subst e1 e2 e3 e4
  have e5 := HO.out.lq
  have e6 := HO.out.lt
  simp only at e5 e6
  have HOq := hid HO.out.oq
  have HOt := hid HO.out.ot
  have HMd := hid HO.out.mid
  have HTp := hid HO.out.top
  clear HO
  simp only [agB, clB] at HB0 HC0 HOq HOt HTp ⊢
  rw [e5, e6] at HB0 HC0 HOq HOt ⊢
  simp only at HTb HTT
  obtain ⟨c0, c1, c2, c3, c4⟩ := five HC0.out
  have HE5 := hid e5
  have HE6 := hid e6
  clear e5 e6
  generalize h.qs.length = n at *
  generalize h.ts.length = n' at *
  go_enter Tryz.func21, Tryz.ntmps21
  go_wp2_with fail
  refine (Srs.f33 g g S n 1 qs _ HE5.out (by have := HTb.out; omega) (by have := HTb.out; omega) HOq.out HTp.out).mono ?_
  rintro e w2 ⟨rfl, hf2⟩
  have HM2 := HMd
  have HT2 := hid (ownt_fr HOt.out hf2 HM2.out.2)
  have HC2 : Hid (w2.heap[w.heap.size]? = _) := (hf2.block w.heap.size (by simp) (.inr (by have := HM2.out.2; omega))).trans HC0.out
  have HF2 := hid (Fr.below (Fr.refl g S w) HB0.out)
  have HF3 := hid (fr_join HF2.out hf2 (Nat.le_refl _) (Nat.le_refl _))
  clear hf2 HF2 c0 c1 c2 c3 c4
  obtain ⟨c0, c1, c2, c3, c4⟩ := five HC2.out
  obtain ⟨M, hM⟩ : ∃ M, M = 1 + 2 * Srs.tot qs n := ⟨_, rfl⟩
  rw [← hM]
  have HMM := hid hM
  clear hM
  go_wp2_with fail
  refine (Stn.f34 k k Y n' M ts _ HE6.out (by have := HTb.out; omega) (by have := HTb.out; have := HMM.out; omega) HT2.out hk HTT.out).mono ?_
  rintro e w3 ⟨rfl, hf3⟩
  have HF4 := hid (fr_join HF3.out hf3 (by have := HM2.out; omega) (by have := HM2.out; omega))
  clear hf3 c0 c1 c2 c3 c4
  obtain ⟨M3, hM3⟩ : ∃ M3, M3 = M + 2 * Stn.tot ts n' + 2 * n' := ⟨_, rfl⟩
  rw [← hM3]
  have HB3 : Hid (M3 ≤ 10000000) := by unfold Hid; have := HTb.out; have := HMM.out; omega
  clear hM3
  go_wp2
  go_ret
  exact ⟨M3, rfl, HB3.out, HF4.out⟩
/-- The argument in its box; nothing that was there has turned. -/
structure Wp (w : World) (h : Bk) (x : World) : Prop where
  one : x.heap[w.heap.size]? = some (.cells (clB h) 39)
  bel : Below w.heap.size w x
theorem Wp.below {w : World} {h : Bk} {x y : World} (g : Wp w h x) (hb : Below x.heap.size x y) : Wp w h y := ⟨kept g.one hb, g.bel.trans (hb.mono g.bel.size)⟩
theorem Wp.fr {w : World} {h : Bk} {x y : World} {X Y : Nat} (g : Wp w h x) (hf : Fr X Y x y) (hX : w.heap.size < X) : Wp w h y :=
  ⟨(hf.block _ (lt_at g.one) (.inl hX)).trans g.one, ⟨hf.os.trans g.bel.os, hf.tape.trans g.bel.tape, hf.output.trans g.bel.output, Nat.le_trans g.bel.size hf.size, fun k hk => (hf.block k (by have := g.bel.size; omega) (.inl (by omega))).trans (g.bel.block k hk)⟩⟩
theorem Wp.grown {w : World} {h : Bk} {x y : World} {r : Option Nat} (g : Wp w h x) (hf : x.grownBy y r) (hX : ∀ k, r = some k → w.heap.size < k) : Wp w h y :=
  ⟨(hf.block _ (lt_at g.one) (fun e => by have := hX _ e.symm; omega)).trans g.one, ⟨hf.os.trans g.bel.os, hf.tape.trans g.bel.tape, hf.output.trans g.bel.output, Nat.le_trans g.bel.size hf.size, fun k hk => (hf.block k (by have := g.bel.size; omega) (fun e => by have := hX _ e.symm; omega)).trans (g.bel.block k hk)⟩⟩
theorem own_fri {X Y : Nat} {w x : World} {base : Nat} {v : Value} {L : List Int} (h : Own w base v L) (hf : Fr X Y w x) (hne : ∀ k, v.ownBlock = some k → k < X ∨ Y ≤ k) : Own x base v L := by
  rcases h.form with ⟨rfl, rfl⟩ | ⟨g, c, rfl⟩
  · exact Ino.Own.nil _ _
  · exact own_fr h hf (hne g rfl)
end Go.Proofs.YtkbaaidnkkcpoaaGreat.Blk
