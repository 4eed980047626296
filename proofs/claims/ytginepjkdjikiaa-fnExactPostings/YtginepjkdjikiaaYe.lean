/- Lists of series marked: only their own memory is written. -/
import Derived.Test.YtginepjkdjikiaaXc
import Derived.Test.YtginepjkdjikiaaMl
namespace Go.Proofs.Ytginepjkdjikiaa.Srs
open Go.RowKit
open Go.Proofs.Ytginepjkdjikiaa.Lab (Lb HasL)
open Go.Proofs.Ytginepjkdjikiaa.Smp (Sm HasS)

/-- Only blocks from X to Y are written; others may be new. -/
structure Fr (X Y : Nat) (w x : World) : Prop where
  os : x.os = w.os
  tape : x.tape = w.tape
  output : x.output = w.output
  size : w.heap.size ≤ x.heap.size
  block : ∀ k, k < w.heap.size → (k < X ∨ Y ≤ k) → x.heap[k]? = w.heap[k]?
theorem Fr.refl (X Y : Nat) (w : World) : Fr X Y w w := ⟨rfl, rfl, rfl, Nat.le_refl _, fun _ _ _ => rfl⟩
theorem Fr.below {X Y : Nat} {w x y : World} (h : Fr X Y w x) (hb : Below x.heap.size x y) : Fr X Y w y :=
  ⟨hb.os.trans h.os, hb.tape.trans h.tape, hb.output.trans h.output, Nat.le_trans h.size hb.size, fun k hk hne => (hb.block k (Nat.lt_of_lt_of_le hk h.size)).trans (h.block k hk hne)⟩
theorem Fr.grown {X Y g : Nat} {w x y : World} (h : Fr X Y w x) (hg : x.grownBy y (some g)) (h1 : X ≤ g) (h2 : g < Y) : Fr X Y w y :=
  ⟨hg.os.trans h.os, hg.tape.trans h.tape, hg.output.trans h.output, Nat.le_trans h.size hg.size, fun k hk hne => (hg.block k (Nat.lt_of_lt_of_le hk h.size) (fun e => by have := Option.some.inj e; omega)).trans (h.block k hk hne)⟩
theorem own_fr {X Y : Nat} {w x : World} {base e size n c g : Nat} {xs : List Value} (h : w.ownsRow base e size (.slice (some ⟨g, 0, none⟩) n c) n xs) (hf : Fr X Y w x) (hg : g < X ∨ Y ≤ g) : x.ownsRow base e size (.slice (some ⟨g, 0, none⟩) n c) n xs := by
  refine ⟨h.1, ?_⟩
  rcases h.2 with ⟨h1, _⟩ | ⟨g', cap, cur, h1, h2, h3, h4⟩
  · cases h1
  · cases h1
    exact .inr ⟨g, c, cur, rfl, h2, (hf.block g (Array.getElem?_eq_some_iff.1 h3).1 hg).trans h3, h4⟩
theorem own_grown {w x : World} {base e size n c g r : Nat} {xs : List Value} (h : w.ownsRow base e size (.slice (some ⟨g, 0, none⟩) n c) n xs) (hg : w.grownBy x (some r)) (hne : g ≠ r) : x.ownsRow base e size (.slice (some ⟨g, 0, none⟩) n c) n xs :=
  h.kept hg (.inr (fun e => hne (Option.some.inj e)))
theorem Own1.grown {X ga gb r : Nat} {q : Q} {w x : World} (h : Own1 X ga gb q w) (hg : w.grownBy x (some r)) (h1 : ga ≠ r) (h2 : gb ≠ r) : Own1 X ga gb q x := ⟨h.ha, h.hb, own_grown h.lab hg h1, own_grown h.smp hg h2, h.lt⟩
/-- The series from i on are as they were; what was written lies from g to Y. -/
structure Mk (X g Y n i : Nat) (qs : List Q) (w x : World) : Prop where
  row : x.ownsRow X 48 2 (.slice (some ⟨g, 0, none⟩) n n) n (flat qs)
  own : ∀ j, i ≤ j → j < n → Own1 X (blk (qs.getD j q0).a) (blk (qs.getD j q0).b) (qs.getD j q0) x
  fr : Fr g Y w x
set_option maxHeartbeats 2000000 in
theorem f33 (X g Y n k : Nat) (qs : List Q) (w : World) (hn : qs.length = n) (hb : n ≤ 1048576) (hk : k + 2 * tot qs n ≤ 100000000) (ho : OwnQ X g n qs w) (hY : ∀ i, i < n → blk (qs.getD i q0).b < Y) :
    Calls Try.prog 33 #[.slice (some ⟨g, 0, none⟩) n n, .int .i64 k] w fun e w' => e = .returned (.int .i64 ((k + 2 * tot qs n : Nat) : Int)) ∧ Fr g Y w w' := by
  have HN := hid hn
  have HY := hid hY
  have HK := hid hk
  have HD := hid ho.kin.dis
  have HF := hid ho.kin.off
  have H0 : Hid (Mk X g Y n 0 qs w w) := ⟨ho.row, fun j _ hj => ho.kin.own j hj, Fr.refl _ _ _⟩
  clear hn hY hk ho
  go_enter Try.func33, Try.ntmps33
  go_wp2
  go_loopw [1, 5] (fun sk si wr => ∃ (i m : Nat), i ≤ n ∧ si = .int .i64 i ∧ sk = .int .i64 (m : Int) ∧ Hid (m = k + 2 * tot qs i) ∧ Hid (Mk X g Y n i qs w wr)) (fun _ si _ => n - (intOf si).toNat)
  case atStart => exact ⟨0, k, Nat.zero_le _, rfl, rfl, rfl, H0.out⟩
  case round =>
    obtain ⟨i, m, hi, rfl, rfl, hm, HM⟩ := hrel
    by_cases hlt : i < n
    rotate_left
    · obtain rfl : i = n := by omega
      have HX := hid HM.out.fr
      go_wp2
      go_ret
      exact ⟨by rw [← hm.out]; rfl, HX.out⟩
    have HO := hid (HM.out.own i (Nat.le_refl _) hlt)
    obtain ⟨y0, y1⟩ := flat_get qs i (by rw [HN.out]; exact hlt)
    have c0 := (HM.out.row.cellAt (i * 2) (by omega)).trans y0
    have c1 := (HM.out.row.cellAt (i * 2 + 1) (by omega)).trans y1
    have HT : Hid (tot qs (i + 1) = tot qs i + (qs.getD i q0).l.length + (qs.getD i q0).s.length) := rfl
    have HTn := hid (tot_mono qs n (i + 1) hlt)
    have HDi := hid (fun j (h1 : i < j) (h2 : j < n) => HD.out i j h1 h2)
    have HFi := hid (HF.out i hlt)
    have HYi := hid (HY.out i hlt)
    rw [HO.out.ha] at c0
    rw [HO.out.hb] at c1
    obtain ⟨q, hq⟩ : ∃ q, q = qs.getD i q0 := ⟨_, rfl⟩
    rw [← hq] at c0 c1 HO HT HDi HFi HYi
    clear hq y0 y1
    generalize blk q.a = ga at *
    generalize blk q.b = gb at *
    have hab := HO.out.lt
    have N1 : Hid (m + 2 * q.l.length + 2 * q.s.length ≤ 100000000) := by unfold Hid; have := hm.out; have := HK.out; have := HTn.out; have := HT.out; omega
    go_wp2_with fail
    refine (Lab.f56 ga q.l.length q.c X m q.l _ rfl (by have := N1.out; omega) HO.out.lab).mono ?_
    rintro e w2 ⟨rfl, _, hg2⟩
    have HR2 := hid (own_grown HM.out.row hg2 (by have := HFi.out; omega))
    have HS2 := hid (own_grown HO.out.smp hg2 (by omega))
    have HA2 : Hid (∀ j, i + 1 ≤ j → j < n → Own1 X (blk (qs.getD j q0).a) (blk (qs.getD j q0).b) (qs.getD j q0) w2) := fun j h1 h2 =>
      (HM.out.own j (by omega) h2).grown hg2 (by have := HDi.out j (by omega) h2; omega) (by have := HDi.out j (by omega) h2; have := (HM.out.own j (by omega) h2).lt; omega)
    have HF2 := hid (HM.out.fr.grown hg2 (by have := HFi.out; omega) (by have := HYi.out; omega))
    obtain ⟨z0, z1⟩ := flat_get qs i (by rw [HN.out]; exact hlt)
    have d1 : w2.cell? ⟨g, i * 2 + 1, none⟩ = some (.slice (some ⟨gb, 0, none⟩) q.s.length q.d) := by
      have e := hg2.block g (HM.out.row.lt g rfl).2 (fun e => by have := Option.some.inj e; have := HFi.out; omega)
      simp only [World.cell?, e]
      exact c1
    clear hg2 z0 z1 c0 c1
    go_wp2_with fail
    refine (Smp.f57 gb q.d X (m + 2 * q.l.length) q.s _ (by have := N1.out; omega) HS2.out).mono ?_
    rintro e w3 ⟨rfl, _, hg3⟩
    have HM3 : Hid (Mk X g Y n (i + 1) qs w w3) :=
      ⟨own_grown HR2.out hg3 (by have := HFi.out; omega), fun j h1 h2 => (HA2.out j h1 h2).grown hg3 (by have := HDi.out j (by omega) h2; omega) (by have := HDi.out j (by omega) h2; have := (HA2.out j h1 h2).lt; omega), HF2.out.grown hg3 (by have := HFi.out; omega) (by have := HYi.out; omega)⟩
    have HE : Hid (m + 2 * q.l.length + 2 * q.s.length = k + 2 * tot qs (i + 1)) := by unfold Hid; have := hm.out; have := HT.out; omega
    clear hg3 d1 HM HR2 HS2 HA2 HF2
    go_wp2
    go_roundw
    case rel => exact ⟨i + 1, m + 2 * q.l.length + 2 * q.s.length, by omega, by go_num, by simp, HE.out, HM3.out⟩
    case measure => simp [intOf]; omega
end Go.Proofs.Ytginepjkdjikiaa.Srs
