/- Lists of series: eqSeriesS. -/
import Derived.Test.YtaekngadfajcaaaGreatRXa
import Derived.Test.YtaekngadfajcaaaGreatRGL
import Derived.Deep.RegionHeld3
namespace Go.Proofs.YtaekngadfajcaaaGreat.Srs
open Go.RowKit
open Go.Proofs.YtaekngadfajcaaaGreat.Lab (Lb HasL)
open Go.Proofs.YtaekngadfajcaaaGreat.Smp (Sm HasS)

theorem below_undrew {w w' : World} (h : Below w.drew.heap.size w.drew w') : Below w.heap.size w w' := ⟨h.os, h.tape, h.output, h.size, h.block⟩
set_option maxHeartbeats 1000000 in
theorem f27 (q q' : Q) (w : World) (hp : pl q' = pl q) (n1 : q.l.length ≤ 1048576) (n2 : q.s.length ≤ 1048576) (hl : HasL w q.a q.l) (hs : HasS w q.b q.s) (hl' : HasL w q'.a q'.l) (hs' : HasS w q'.b q'.s) :
    Calls Tryz.prog 27 #[agQ q, agQ q'] w fun e w' => e = .returned (.bool true) ∧ Below w.heap.size w w' := by
  obtain ⟨l, a, c, s, b, d⟩ := q
  obtain ⟨l', a', c', s', b', d'⟩ := q'
  simp only [pl, Prod.mk.injEq] at hp
  obtain ⟨rfl, rfl⟩ := hp
  simp only at n1 n2 hl hs hl' hs'
  obtain ⟨W, hW⟩ : ∃ W, W = (w.alloc (.cells #[.slice a l'.length c, .slice b s'.length d] 53)).alloc (.cells #[.slice a' l'.length c', .slice b' s'.length d'] 53) := ⟨_, rfl⟩
  have HWb : Hid (Below w.heap.size w W ∧ W.heap[w.heap.size]? = some (.cells #[.slice a l'.length c, .slice b s'.length d] 53) ∧ W.heap[w.heap.size + 1]? = some (.cells #[.slice a' l'.length c', .slice b' s'.length d'] 53)) := by
    subst hW
    have h2 := heap_alloc_new (w.alloc (.cells #[.slice a l'.length c, .slice b s'.length d] 53)) (.cells #[.slice a' l'.length c', .slice b' s'.length d'] 53)
    simp only [World.size_alloc] at h2
    exact ⟨((Below.refl w.heap.size w).alloc (Nat.le_refl _) _).alloc (by simp) _, (Below.heap_alloc _ _ w.heap.size (by simp)).trans (heap_alloc_new w _), h2⟩
  have HL := hid (hl.below HWb.out.1)
  have HS := hid (hs.below HWb.out.1)
  have HL' := hid (hl'.below HWb.out.1)
  have HS' := hid (hs'.below HWb.out.1)
  clear hl hs hl' hs'
  simp only [agQ]
  go_enter Tryz.func27, Tryz.ntmps27
  go_wp2_with fail
  rw [← hW]
  refine (Lab.f57 a a' l'.length c c' l' _ rfl n1 HL.out HL'.out).mono ?_
  rintro e w1 ⟨rfl, hb1⟩
  have HB1 := hid (HWb.out.1.trans (hb1.mono HWb.out.1.size))
  obtain ⟨b0, b1⟩ := two (kept HWb.out.2.1 hb1)
  obtain ⟨c0, c1⟩ := two (kept HWb.out.2.2 hb1)
  have HS1 := hid (HS.out.below hb1)
  have HS1' := hid (HS'.out.below hb1)
  clear hb1 HL HL' HS HS' HWb hW
  go_wp2_with fail
  refine (Smp.f58 b b' d d' s' _ n2 HS1.out HS1'.out).mono ?_
  rintro e w2 ⟨rfl, hb2⟩
  have HB2 := hid (HB1.out.trans (hb2.mono HB1.out.size))
  clear hb2 b0 b1 c0 c1
  go_wp2
  go_ret
  exact ⟨rfl, HB2.out⟩
/-- Two series' cells, and what they hold; all that was there is as it was. -/
abbrev EE (w : World) (q q' : Q) (b o b' o' : Nat) (x : World) : Prop :=
  x.cell? ⟨b, o, none⟩ = some (.slice q.a q.l.length q.c) ∧ x.cell? ⟨b, o + 1, none⟩ = some (.slice q.b q.s.length q.d) ∧
  x.cell? ⟨b', o', none⟩ = some (.slice q'.a q'.l.length q'.c) ∧ x.cell? ⟨b', o' + 1, none⟩ = some (.slice q'.b q'.s.length q'.d) ∧
  HasL x q.a q.l ∧ HasS x q.b q.s ∧ HasL x q'.a q'.l ∧ HasS x q'.b q'.s ∧ b < x.heap.size ∧ b' < x.heap.size ∧ Below w.heap.size w x
theorem EE.below {w : World} {q q' : Q} {b o b' o' : Nat} {x y : World} (h : EE w q q' b o b' o' x) (hb : Below x.heap.size x y) : EE w q q' b o b' o' y := by
  obtain ⟨h0, h1, k0, k1, t1, t2, t3, t4, l1, l2, hw⟩ := h
  have e1 : ∀ j, y.cell? ⟨b, j, none⟩ = x.cell? ⟨b, j, none⟩ := fun j => hb.cell (by exact l1)
  have e2 : ∀ j, y.cell? ⟨b', j, none⟩ = x.cell? ⟨b', j, none⟩ := fun j => hb.cell (by exact l2)
  exact ⟨(e1 _).trans h0, (e1 _).trans h1, (e2 _).trans k0, (e2 _).trans k1, t1.below hb, t2.below hb, t3.below hb, t4.below hb, Nat.lt_of_lt_of_le l1 hb.size, Nat.lt_of_lt_of_le l2 hb.size, hw.trans (hb.mono hw.size)⟩
theorem EE.drew {w : World} {q q' : Q} {b o b' o' : Nat} {x : World} (h : EE w q q' b o b' o' x) : EE w q q' b o b' o' x.drew := h.below (Below.refl _ x).drew
theorem EE.t1 {w : World} {q q' : Q} {b o b' o' : Nat} {x : World} (h : EE w q q' b o b' o' x) : HasL x q.a q.l := h.2.2.2.2.1
theorem EE.t2 {w : World} {q q' : Q} {b o b' o' : Nat} {x : World} (h : EE w q q' b o b' o' x) : HasS x q.b q.s := h.2.2.2.2.2.1
theorem EE.t3 {w : World} {q q' : Q} {b o b' o' : Nat} {x : World} (h : EE w q q' b o b' o' x) : HasL x q'.a q'.l := h.2.2.2.2.2.2.1
theorem EE.t4 {w : World} {q q' : Q} {b o b' o' : Nat} {x : World} (h : EE w q q' b o b' o' x) : HasS x q'.b q'.s := h.2.2.2.2.2.2.2.1
theorem EE.bel {w : World} {q q' : Q} {b o b' o' : Nat} {x : World} (h : EE w q q' b o b' o' x) : Below w.heap.size w x := h.2.2.2.2.2.2.2.2.2.2
set_option maxHeartbeats 2000000 in
theorem f10 (a a' : Option Addr) (n c c' : Nat) (qs qs' : List Q) (w : World) (hn : qs.length = n) (hn' : qs'.length = n) (hb : n ≤ 1048576) (hr : HasQ w a qs) (hr' : HasQ w a' qs') (hs : Same n qs qs') (hz : SmlQ qs) :
    Calls Tryz.prog 10 #[.slice a n c, .slice a' n c'] w fun e w' => e = .returned (.bool true) ∧ Below w.heap.size w w' := by
  have HN := hid hn
  have HN' := hid hn'
  have HR := hid hr
  have HR' := hid hr'
  have HS := hid hs
  have HZ := hid hz
  clear hn hn' hr hr' hs hz
  go_enter Tryz.func10, Tryz.ntmps10
  go_wp2
  go_loopw [5] (fun i wr => ∃ k : Nat, k ≤ n ∧ i = .int .i64 k ∧ Hid (Below w.heap.size w wr)) (fun i _ => n - (intOf i).toNat)
  case atStart => exact ⟨0, Nat.zero_le _, rfl, Below.refl _ _⟩
  case round =>
    obtain ⟨k, hk, rfl, HX⟩ := hrel
    by_cases hlt : k < n
    · obtain ⟨b, off, rfl, hbl, c0, c1, t1, t2⟩ := (HR.out.below HX.out).at2 k (by rw [HN.out]; exact hlt)
      obtain ⟨b', off', rfl, hbl', c0', c1', t1', t2'⟩ := (HR'.out.below HX.out).at2 k (by rw [HN'.out]; exact hlt)
      have HP := hid (HS.out k hlt)
      have HL := hid (HZ.out k (by rw [HN.out]; exact hlt))
      generalize qs.getD k q0 = q at *
      generalize qs'.getD k q0 = q' at *
      have HE : Hid (EE w q q' b (off + k * 2) b' (off' + k * 2) wr) := ⟨c0, c1, c0', c1', t1, t2, t1', t2', hbl, hbl', HX.out⟩
      clear c0 c1 c0' c1' t1 t2 t1' t2' hbl hbl'
      have i1 : (k : Int) < (n : Int) := by omega
      go_wp2_with fail
      go_region_held3 (fun x => EE w q q' b (off + k * 2) b' (off' + k * 2) x) (first | exact HE.out.drew | assumption) (first | (go_at_call 27; refine (f27 q q' _ HP.out HL.out.1 HL.out.2 (EE.t1 (by assumption)) (EE.t2 (by assumption)) (EE.t3 (by assumption)) (EE.t4 (by assumption))).mono ?_; rintro e w2 ⟨rfl, hb2⟩; have hs2 := EE.below (by assumption) hb2; clear hb2))
      have HX2 := hid hs2.bel
      clear hs2
      go_wp2
      go_roundw
      case rel => exact ⟨k + 1, by omega, by go_num, HX2.out⟩
      case measure => simp [intOf]; omega
    · go_wp2
      go_ret
      exact ⟨rfl, HX.out⟩
end Go.Proofs.YtaekngadfajcaaaGreat.Srs
