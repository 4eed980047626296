/- Silences marked: only their own memory is written. -/
import Derived.Test.YtikepmikjakciaaSlf
import Derived.Test.YtikepmikjakciaaMl
namespace Go.Proofs.Ytikepmikjakciaa.Sln
open Go.RowKit
open Go.Proofs.Ytikepmikjakciaa.Pat (Mt HasM FitM)
open Go.Proofs.Ytikepmikjakciaa.Rwc

/-- Only blocks from X to Y are written; others may be new. -/
structure Fr (X Y : Nat) (w x : World) : Prop where
  os : x.os = w.os
  tape : x.tape = w.tape
  output : x.output = w.output
  size : w.heap.size ≤ x.heap.size
  block : ∀ k, k < w.heap.size → (k < X ∨ Y ≤ k) → x.heap[k]? = w.heap[k]?
theorem Fr.refl (X Y : Nat) (w : World) : Fr X Y w w := ⟨rfl, rfl, rfl, Nat.le_refl _, fun _ _ _ => rfl⟩
theorem Fr.below {X Y : Nat} {w x y : World} (h : Fr X Y w x) (hb : Below x.heap.size x y) : Fr X Y w y :=
  ⟨hb.os.trans h.os, hb.tape.trans h.tape, hb.output.trans h.output, Nat.le_trans h.size hb.size, fun k hk hne => (hb.block k (Nat.lt_of_lt_of_le hk h.size)).trans (h.block k hk hne)⟩
theorem Fr.grown {X Y g : Nat} {w x y : World} (h : Fr X Y w x) (hg : x.grownBy y (some g)) (h1 : X ≤ g) (h2 : g < Y) : Fr X Y w y :=
  ⟨hg.os.trans h.os, hg.tape.trans h.tape, hg.output.trans h.output, Nat.le_trans h.size hg.size, fun k hk hne => (hg.block k (Nat.lt_of_lt_of_le hk h.size) (fun e => by have := Option.some.inj e; omega)).trans (h.block k hk hne)⟩
theorem Fr.set {X Y g o : Nat} {w x : World} (h : Fr X Y w x) (h1 : X ≤ g) (h2 : g < Y) (v : Value) : Fr X Y w (x.setCell ⟨g, o, none⟩ v) :=
  h.grown (Lab.grown_setRow (w := x) ⟨rfl, rfl, rfl, Nat.le_refl _, fun _ _ _ => rfl⟩ v) h1 h2
theorem own_fr {X Y : Nat} {w x : World} {base e size n : Nat} {v : Value} {xs : List Value} (h : w.ownsRow base e size v n xs) (hf : Fr X Y w x) (hg : ∀ b, v.ownBlock = some b → b < X ∨ Y ≤ b) : x.ownsRow base e size v n xs := by
  refine ⟨h.1, ?_⟩
  rcases h.2 with h1 | ⟨g', cap, cur, h1, h2, h3, h4⟩
  · exact .inl h1
  · exact .inr ⟨g', cap, cur, h1, h2, (hf.block g' (Array.getElem?_eq_some_iff.1 h3).1 (hg g' (by rw [h1]; rfl))).trans h3, h4⟩
theorem own_grown {w x : World} {base e size n c g r : Nat} {xs : List Value} (h : w.ownsRow base e size (.slice (some ⟨g, 0, none⟩) n c) n xs) (hg : w.grownBy x (some r)) (hne : g ≠ r) : x.ownsRow base e size (.slice (some ⟨g, 0, none⟩) n c) n xs :=
  h.kept hg (.inr (fun e => hne (Option.some.inj e)))
set_option maxHeartbeats 2000000 in
theorem f52 (g n c base k : Nat) (w : World) (xs : List Value) (hn : n ≤ 1048576) (hk : k + 3 * n ≤ 100000000) (ho : w.ownsRow base 92 3 (.slice (some ⟨g, 0, none⟩) n c) n xs) :
    Calls Try.prog 52 #[.slice (some ⟨g, 0, none⟩) n c, .int .i64 k] w fun e w' => e = .returned (.int .i64 ((k + 3 * n : Nat) : Int)) ∧ w.grownBy w' (some g) := by
  have H0 := hid ho
  clear ho
  go_enter Try.func52, Try.ntmps52
  go_wp2
  go_loopw [1, 5] (fun sk si wr => ∃ (i m : Nat) (ys : List Value), i ≤ n ∧ si = .int .i64 i ∧ sk = .int .i64 (m : Int) ∧ Hid (m = k + 3 * i) ∧ Hid (wr.ownsRow base 92 3 (.slice (some ⟨g, 0, none⟩) n c) n ys) ∧ Hid (w.grownBy wr (some g))) (fun _ si _ => n - (intOf si).toNat)
  case atStart => exact ⟨0, k, xs, Nat.zero_le _, rfl, rfl, rfl, H0.out, ⟨rfl, rfl, rfl, Nat.le_refl _, fun _ _ _ => rfl⟩⟩
  case round =>
    obtain ⟨i, m, ys, hi, rfl, rfl, hm, HO, HG⟩ := hrel
    by_cases hlt : i < n
    rotate_left
    · obtain rfl : i = n := by omega
      go_wp2
      go_ret
      exact ⟨by rw [← hm.out]; rfl, HG.out⟩
    have hm1 : m ≤ 99999997 := by have := hm.out; omega
    have HL : Hid (ys.length = n * 3) := HO.out.1
    go_wp2_with fail
    refine (Lab.f51 m _ (by omega)).mono ?_
    rintro e w2 ⟨rfl, hb2⟩
    have HO2 := hid (own_below HO.out hb2)
    have HG2 := hid (Lab.grown_trans HG.out (Lab.grown_below (some g) hb2))
    have fz := HO2.out.frozenAt (i * 3)
    obtain ⟨z, hz⟩ : ∃ z, w2.cell? ⟨g, i * 3, none⟩ = some z := ⟨ys[i * 3]'(by rw [HL.out]; omega), by rw [HO2.out.cellAt (i * 3) (by omega), List.getElem?_eq_getElem (by rw [HL.out]; omega)]⟩
    have HO3 := hid (HO2.out.stored (i * 3) (.string (Lab.mkT m))).1
    have HG3 := hid (Lab.grown_setRow (o := i * 3) HG2.out (.string (Lab.mkT m)))
    have fz3 := HO3.out.frozenAt (i * 3 + 1)
    obtain ⟨z3, hz3⟩ : ∃ z, w2.cell? ⟨g, i * 3 + 1, none⟩ = some z := ⟨ys[i * 3 + 1]'(by rw [HL.out]; omega), by rw [HO2.out.cellAt (i * 3 + 1) (by omega), List.getElem?_eq_getElem (by rw [HL.out]; omega)]⟩
    have fz2 := HO2.out.frozenAt (i * 3 + 1)
    have HO4 := hid (HO3.out.stored (i * 3 + 1) (.int .i64 ((m : Int) + 1))).1
    have HG4 := hid (Lab.grown_setRow (o := i * 3 + 1) HG3.out (.int .i64 ((m : Int) + 1)))
    clear hb2 fz3
    go_wp2_with fail
    refine (Lab.f51 (m + 2) _ (by omega)).mono ?_
    rintro e w5 ⟨rfl, hb5⟩
    have HO5 := hid (own_below HO4.out hb5)
    have HG5 := hid (Lab.grown_trans HG4.out (Lab.grown_below (some g) hb5))
    have fz5 := HO5.out.frozenAt (i * 3 + 2)
    obtain ⟨z5, hz5⟩ : ∃ z, w5.cell? ⟨g, i * 3 + 2, none⟩ = some z := ⟨((ys.set (i * 3) (.string (Lab.mkT m))).set (i * 3 + 1) (.int .i64 ((m : Int) + 1)))[i * 3 + 2]'(by rw [List.length_set, List.length_set, HL.out]; omega), by rw [HO5.out.cellAt (i * 3 + 2) (by omega), List.getElem?_eq_getElem (by rw [List.length_set, List.length_set, HL.out]; omega)]⟩
    have HO6 := hid (HO5.out.stored (i * 3 + 2) (.string (Lab.mkT (m + 2)))).1
    have HG6 := hid (Lab.grown_setRow (o := i * 3 + 2) HG5.out (.string (Lab.mkT (m + 2))))
    have HE : Hid (m + 3 = k + 3 * (i + 1)) := by unfold Hid; have := hm.out; omega
    clear hb5 fz hz fz2 hz3 z z3
    go_wp2
    go_roundw
    case rel => exact ⟨i + 1, m + 3, _, by omega, by go_num, by go_num, HE.out, HO6.out, HG6.out⟩
    case measure => simp [intOf]; omega

theorem Own1.grown {X B U r : Nat} {q : T} {w x : World} (h : Own1 X B U q w) (hg : w.grownBy x (some r)) (hc : r < B ∨ U ≤ r) : Own1 X B U q x := by
  obtain ⟨gl, xl, yl, zl, ol⟩ := h.l
  exact ⟨⟨gl, xl, yl, zl, own_grown ol hg (by omega)⟩⟩
/-- The silences from i on have their matchers as they were; what was written lies from g to Y. -/
structure Mk (X g Y n i : Nat) (Z : Nat → Nat) (ts : List T) (w x : World) (ys : List Value) : Prop where
  row : x.ownsRow X 61 4 (.slice (some ⟨g, 0, none⟩) n n) n ys
  mid : ∀ j, j < n → ys[j * 4 + 1]? = some (.slice (ts.getD j t0).la (ts.getD j t0).ls.length (ts.getD j t0).lc)
  own : ∀ j, i ≤ j → j < n → Own1 X (Z j) (Z (j + 1)) (ts.getD j t0) x
  fr : Fr g Y w x
theorem Mk.below {X g Y n i : Nat} {Z : Nat → Nat} {ts : List T} {w x y : World} {ys : List Value} (h : Mk X g Y n i Z ts w x ys) (hb : Below x.heap.size x y) : Mk X g Y n i Z ts w y ys :=
  ⟨own_below h.row hb, h.mid, fun j h1 h2 => (h.own j h1 h2).below hb, h.fr.below hb⟩
theorem Mk.set {X g Y n i o : Nat} {Z : Nat → Nat} {ts : List T} {w x : World} {ys : List Value} (h : Mk X g Y n i Z ts w x ys) (hZ : g < Z 0) (hU : ∀ j, j ≤ n → Z 0 ≤ Z j) (hY : g < Y) (v : Value) (ho : ∀ j, j * 4 + 1 ≠ o) : Mk X g Y n i Z ts w (x.setCell ⟨g, o, none⟩ v) (ys.set o v) :=
  ⟨(h.row.stored o v).1, fun j hj => by rw [List.getElem?_set_ne (Ne.symm (ho j))]; exact h.mid j hj, fun j h1 h2 => (h.own j h1 h2).set (.inl (by have := hU j (by omega); omega)) v, h.fr.set (Nat.le_refl _) hY v⟩
theorem Mk.next {X g Y n i r : Nat} {Z : Nat → Nat} {ts : List T} {w x y : World} {ys : List Value} (h : Mk X g Y n i Z ts w x ys) (hg : x.grownBy y (some r)) (hZ : g < Z 0) (hU : ∀ a b, a ≤ b → b ≤ n → Z a ≤ Z b) (h1 : Z i ≤ r) (h2 : r < Z (i + 1)) (hi : i < n) (hY : Z n ≤ Y) : Mk X g Y n (i + 1) Z ts w y ys := by
  have q1 := hU 0 i (Nat.zero_le _) (by omega)
  have q2 := hU (i + 1) n (by omega) (Nat.le_refl _)
  refine ⟨own_grown h.row hg (by omega), h.mid, fun j a b => (h.own j (by omega) b).grown hg (.inl ?_), h.fr.grown hg (by omega) (by omega)⟩
  have := hU (i + 1) j a (by omega)
  omega

set_option maxRecDepth 20000 in
set_option maxHeartbeats 8000000 in
theorem f18 (X g Y n k : Nat) (Z : Nat → Nat) (ts : List T) (w : World) (hb : n ≤ 1048576) (hk : k + 3 * n + 3 * tot ts n ≤ 100000000) (hz : Sml ts) (hrow : w.ownsRow X 61 4 (.slice (some ⟨g, 0, none⟩) n n) n (flat ts)) (hkin : Owns X g n Z ts w) (hY : Z n ≤ Y) :
    Calls Try.prog 18 #[.slice (some ⟨g, 0, none⟩) n n, .int .i64 k] w fun e w' => e = .returned (.int .i64 ((k + 3 * n + 3 * tot ts n : Nat) : Int)) ∧ Fr g Y w w' := by
  have HK := hid hk
  have HN := hid hkin.len
  have HLo := hid hkin.low
  have HU : Hid (∀ a b, a ≤ b → b ≤ n → Z a ≤ Z b) := fun a b h1 h2 => hkin.zle b a h1 h2
  have HS := hid hz
  have HYY : Hid (Z n ≤ Y) := hY
  have HGY : Hid (g < Y) := by have := HU.out 0 n (Nat.zero_le _) (Nat.le_refl _); have := HLo.out; unfold Hid; omega
  have H0 : Hid (Mk X g Y n 0 Z ts w w (flat ts)) := ⟨hrow, fun j hj => flat_get ts j 1 (by rw [HN.out]; exact hj) (by omega), fun j _ hj => hkin.own j hj, Fr.refl _ _ _⟩
  clear hk hz hrow hkin hY
  go_enter Try.func18, Try.ntmps18
  go_wp2
  go_loopw [1, 5] (fun sk si wr => ∃ (i m : Nat) (ys : List Value), i ≤ n ∧ si = .int .i64 i ∧ sk = .int .i64 (m : Int) ∧ Hid (m = k + 3 * i + 3 * tot ts i) ∧ Hid (Mk X g Y n i Z ts w wr ys)) (fun _ si _ => n - (intOf si).toNat)
  case atStart => exact ⟨0, k, _, Nat.zero_le _, rfl, rfl, rfl, H0.out⟩
  case round =>
    clear H0
    obtain ⟨i, m, ys, hi, rfl, rfl, hm, HM⟩ := hrel
    by_cases hlt : i < n
    rotate_left
    · obtain rfl : i = n := by omega
      have HX := hid HM.out.fr
      have i1 : ¬ (i : Int) < (i : Int) := by omega
      go_wp2
      go_ret
      exact ⟨congrArg (fun z : Int => Ending.returned (.int .i64 z)) (by have := hm.out; omega : (m : Int) = ((k + 3 * i + 3 * tot ts i : Nat) : Int)), HX.out⟩
    have i1 : (i : Int) < (n : Int) := by omega
    have HT : Hid (tot ts (i + 1) = tot ts i + (ts.getD i t0).ls.length) := rfl
    have hmono := tot_mono ts n (i + 1) (by omega)
    have hsz : (ts.getD i t0).ls.length ≤ 1048576 := HS.out i (by rw [HN.out]; exact hlt)
    have hm1 : m + 3 * (ts.getD i t0).ls.length + 3 ≤ 100000000 := by have := hm.out; have := HK.out; have := HT.out; omega
    have HE : Hid (m + 3 * (ts.getD i t0).ls.length + 3 = k + 3 * (i + 1) + 3 * tot ts (i + 1)) := by unfold Hid; have := hm.out; have := HT.out; omega
    obtain ⟨gl, e1, e2, e3, _⟩ := (HM.out.own i (Nat.le_refl _) hlt).l
    have HQ : Hid (ys[i * 4 + 1]? = some (.slice (some ⟨gl, 0, none⟩) (ts.getD i t0).ls.length (ts.getD i t0).lc)) := by unfold Hid; rw [HM.out.mid i hlt, e1]
    have HL : Hid (ys.length = n * 4) := HM.out.row.1
    have HE1 := hid e1
    have HU0 : Hid (∀ j, j ≤ n → Z 0 ≤ Z j) := fun j hj => HU.out 0 j (Nat.zero_le _) hj
    clear hmono e1
    generalize hN : (ts.getD i t0).ls.length = N at *
    generalize hC : (ts.getD i t0).lc = C at *
    have HNN := hid hN
    have HCC := hid hC
    clear hN hC
    go_wp2_with fail
    refine (Lab.f51 m _ (by omega)).mono ?_
    rintro e w2 ⟨rfl, hb2⟩
    have HM2 := hid (HM.out.below hb2)
    clear hb2 HM
    have f0 := HM2.out.row.frozenAt (i * 4)
    have f1 := HM2.out.row.frozenAt (i * 4 + 1)
    obtain ⟨z, hz⟩ : ∃ z, w2.cell? ⟨g, i * 4, none⟩ = some z := ⟨ys[i * 4]'(by rw [HL.out]; omega), by rw [HM2.out.row.cellAt (i * 4) (by omega), List.getElem?_eq_getElem (by rw [HL.out]; omega)]⟩
    have d1 : w2.cell? ⟨g, i * 4 + 1, none⟩ = some (.slice (some ⟨gl, 0, none⟩) N C) := (HM2.out.row.cellAt (i * 4 + 1) (by omega)).trans HQ.out
    have HM3 := hid (HM2.out.set (o := i * 4) HLo.out HU0.out HGY.out (.string (Lab.mkT m)) (fun j => by omega))
    have HOm : Hid ((w2.setCell ⟨g, i * 4, none⟩ (.string (Lab.mkT m))).ownsRow X 92 3 (.slice (some ⟨gl, 0, none⟩) N C) N (Pat.flatM (ts.getD i t0).ls)) := by
      obtain ⟨gl', xl, _, _, ol⟩ := (HM3.out.own i (Nat.le_refl _) hlt).l
      have e := xl.symm.trans HE1.out
      simp only [Option.some.injEq, Addr.mk.injEq] at e
      obtain ⟨rfl, _⟩ := e
      rw [HNN.out, HCC.out] at ol
      exact ol
    clear HM2
    go_wp2_with fail
    refine (f52 gl N C X (m + 1) _ _ hsz (by omega) HOm.out).mono ?_
    rintro e w5 ⟨rfl, hg5⟩
    have HM5 := hid (HM3.out.next hg5 HLo.out HU.out e2 e3 hlt HYY.out)
    clear hg5 HM3 HOm hz f0 f1 d1 z
    obtain ⟨m5, hm5⟩ : ∃ m5, m5 = m + 1 + 3 * N := ⟨_, rfl⟩
    rw [← hm5]
    have HL5 : Hid ((ys.set (i * 4) (.string (Lab.mkT m))).length = n * 4) := HM5.out.row.1
    generalize ys.set (i * 4) (.string (Lab.mkT m)) = zs at *
    have f2 := HM5.out.row.frozenAt (i * 4 + 2)
    have f3 := HM5.out.row.frozenAt (i * 4 + 3)
    obtain ⟨z2, hz2⟩ : ∃ z, w5.cell? ⟨g, i * 4 + 2, none⟩ = some z := ⟨zs[i * 4 + 2]'(by rw [HL5.out]; omega), by rw [HM5.out.row.cellAt (i * 4 + 2) (by omega), List.getElem?_eq_getElem (by rw [HL5.out]; omega)]⟩
    obtain ⟨z3, hz3⟩ : ∃ z, w5.cell? ⟨g, i * 4 + 3, none⟩ = some z := ⟨zs[i * 4 + 3]'(by rw [HL5.out]; omega), by rw [HM5.out.row.cellAt (i * 4 + 3) (by omega), List.getElem?_eq_getElem (by rw [HL5.out]; omega)]⟩
    have HM6 := hid (HM5.out.set (o := i * 4 + 2) HLo.out HU0.out HGY.out (.int .i64 (m5 : Int)) (fun j => by omega))
    have HM7 := hid (HM6.out.set (o := i * 4 + 3) HLo.out HU0.out HGY.out (.int .i64 ((m5 : Int) + 1)) (fun j => by omega))
    have hm6 : m5 ≤ 99999998 := by omega
    have HE5 : Hid (m5 + 2 = k + 3 * (i + 1) + 3 * tot ts (i + 1)) := by unfold Hid; have := HE.out; omega
    clear HM5 HM6 hm5 hm1
    go_wp2
    go_roundw
    case rel => exact ⟨i + 1, m5 + 2, _, by omega, by go_num, by go_num, HE5.out, HM7.out⟩
    case measure => simp [intOf]; omega
end Go.Proofs.Ytikepmikjakciaa.Sln
