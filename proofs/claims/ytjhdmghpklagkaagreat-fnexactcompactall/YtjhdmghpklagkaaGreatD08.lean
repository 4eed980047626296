/- Whether lists of series are good: the model's GoodSeries. -/
import Derived.Test.YtjhdmghpklagkaaGreatD07
namespace Go.Proofs.YtjhdmghpklagkaaGreat.Srs
open Go.RowKit
open Go.Proofs.YtjhdmghpklagkaaGreat.Lab (Lb HasL OfV goodL GoodP cmpList)
open Go.Proofs.YtjhdmghpklagkaaGreat.Smp (Sm HasS goodS ret_bool)

theorem Upto.no {qs : List Q} {k : Nat} (hk : k < qs.length) (h : ¬ OkAt qs k) : gdQ qs = false := gdQ_no fun g => h (g.2 k hk)
theorem Upto.succ {qs : List Q} {k : Nat} (h : ∀ i, i < k → OkAt qs i) (h1 : OkAt qs k) : ∀ i, i < k + 1 → OkAt qs i := by
  intro i hi
  by_cases e : i = k
  · rw [e]; exact h1
  · exact h i (by omega)
theorem len_zero {s : List Sm} : s ≠ [] ↔ ¬ (s.length : Int) = 0 := by
  constructor
  · intro h e; exact h (List.length_eq_zero_iff.1 (by omega))
  · rintro h rfl; exact h rfl
set_option maxHeartbeats 4000000 in
theorem f50 (a : Option Addr) (n c : Nat) (qs : List Q) (w : World) (hn : qs.length = n) (hmax : n ≤ maxLen) (hr : HasQ w a qs) (hf : FitQ qs) (hz : SmlQ qs) :
    Calls Tryz.prog 50 #[.slice a n c] w fun e w' => e = .returned (.bool (gdQ qs)) ∧ Below w.heap.size w w' := by
  unfold maxLen at hmax
  have HN := hid hn
  have HR := hid hr
  have HF := hid hf
  have HZ := hid hz
  clear hn hr hf hz
  by_cases h200 : n ≤ 200
  rotate_left
  · have h200' : 200 < (n : Int) := by omega
    go_enter Tryz.func50, Tryz.ntmps50
    go_wp2
    go_ret
    exact ⟨ret_bool (gdQ_no fun g => by have := g.1; rw [HN.out] at this; omega).symm, Below.refl _ _⟩
  go_enter Tryz.func50, Tryz.ntmps50
  go_wp2
  go_loopw [10] (fun i wr => ∃ k : Nat, k ≤ n ∧ i = .int .i64 k ∧ Hid (∀ i, i < k → OkAt qs i) ∧ Hid (Below w.heap.size w wr)) (fun i _ => n - (intOf i).toNat)
  case atStart => exact ⟨0, Nat.zero_le _, rfl, fun i hi => by omega, Below.refl _ _⟩
  case round =>
    obtain ⟨k, hk, rfl, HU, HX⟩ := hrel
    by_cases hlt : k < n
    rotate_left
    · go_wp2
      go_ret
      exact ⟨ret_bool (gdQ_yes ⟨by rw [HN.out]; exact h200, fun i hi => HU.out i (by have := HN.out; omega)⟩).symm, HX.out⟩
    have HNo := hid (Upto.no (qs := qs) (k := k) (by rw [HN.out]; exact hlt))
    have HUs := hid (Upto.succ HU.out)
    obtain ⟨b, off, rfl, hbl, c0, c1, t1, t2⟩ := (HR.out.below HX.out).at2 k (by rw [HN.out]; exact hlt)
    have HFq := hid (HF.out k)
    have HZq := hid (HZ.out k (by rw [HN.out]; exact hlt))
    have hi0 : (0 : Int) ≤ (k : Int) := by omega
    cases k with
    | zero =>
      have HOk : Hid (OkAt qs 0 ↔ OkQ (pl (qs.getD 0 q0))) := ⟨fun h => h.1, fun h => ⟨h, fun h0 => absurd h0 (by omega)⟩⟩
      simp only [Nat.zero_mul, Nat.add_zero] at c0 c1
      generalize qs.getD 0 q0 = q at *
      have HG := hid (box_gg (w := w) (q := q) (p := q) c0 t1 t2 t1 hbl HX.out)
      clear t1 t2
      cases h1 : nmd q.l
      · have HNN : Hid (¬ OkAt qs 0) := fun h => by have := nmd_yes (HOk.out.1 h).1; simp only [pl] at this; rw [h1] at this; cases this
        go_wp2_with fail
        refine wp_region_held_drew (S := fun x => GG w q q b off wr.heap.size x) rfl HG.out.drew (fun hHeld => ?_)
        refine tkH 0 (some 15) (.pointer (some ⟨wr.heap.size, 0, none⟩)) rfl ?_
        simp only [Act.put, zzA, zzB, zzC]
        refine tkH 1 (some 16) (.slice q.a q.l.length q.c) rfl ?_
        simp only [Act.put, zzA, zzB, zzC]
        refine wpAnyH_ready (rs := [2]) (by kernel_rfl) (by simp) (AllReadyH.cons (o := { dst := some 17, op := Op.call { callee := Callee.value (Operand.func 86), args := #[Operand.tmp 16], argTypes := #[77] }, type := 4, pos := "l7_head.go:13", after := #[{ on := 1, ground := Ground.data }], guard := none }) rfl ?_ AllReadyH.nil)
        intro K1 hK1
        go_simp
        go_wp2_with (go_at_call 86; refine (f86 q.a q.c q.l _ (GG.t1 hHeld) HFq.out.1 HFq.out.2.1).mono ?_; rw [h1]; rintro e w2 ⟨rfl, hb2⟩; have hs2 := GG.below hHeld hb2; clear hb2)
        refine hK1.out _ _ hs2 (fun _ => ?_)
        clear hK1 K1
        clear hHeld
        refine tkH 3 (some 18) (.bool true) rfl ?_
        simp only [Act.put, zzA, zzB, zzC]
        refine tkH 4 (some 19) (.bool true) rfl ?_
        simp only [Act.put, zzA, zzB, zzC]
        refine skH 5 (some 20) rfl ?_
        simp only [Act.put, zzA, zzB, zzC]
        refine skH 6 (some 21) rfl ?_
        simp only [Act.put, zzA, zzB, zzC]
        refine skH 7 (some 22) rfl ?_
        simp only [Act.put, zzA, zzB, zzC]
        refine skH 8 (some 23) rfl ?_
        simp only [Act.put, zzA, zzB, zzC]
        refine tkH 9 (some 24) (.bool true) rfl ?_
        simp only [Act.put, zzA, zzB, zzC]
        refine tkH 10 (some 25) (.bool true) rfl ?_
        simp only [Act.put, zzA, zzB, zzC]
        refine skH 11 (some 26) rfl ?_
        simp only [Act.put, zzA, zzB, zzC]
        refine skH 12 (some 27) rfl ?_
        simp only [Act.put, zzA, zzB, zzC]
        refine skH 13 (some 28) rfl ?_
        simp only [Act.put, zzA, zzB, zzC]
        refine skH 14 (some 29) rfl ?_
        simp only [Act.put, zzA, zzB, zzC]
        refine tkH 15 (some 30) (.bool true) rfl ?_
        simp only [Act.put, zzA, zzB, zzC]
        refine tkH 16 (some 31) (.bool true) rfl ?_
        simp only [Act.put, zzA, zzB, zzC]
        refine skH 17 (some 32) rfl ?_
        simp only [Act.put, zzA, zzB, zzC]
        refine skH 18 (some 33) rfl ?_
        simp only [Act.put, zzA, zzB, zzC]
        refine skH 19 (some 34) rfl ?_
        simp only [Act.put, zzA, zzB, zzC]
        refine skH 20 (some 35) rfl ?_
        simp only [Act.put, zzA, zzB, zzC]
        refine skH 21 (some 36) rfl ?_
        simp only [Act.put, zzA, zzB, zzC]
        refine skH 22 (some 37) rfl ?_
        simp only [Act.put, zzA, zzB, zzC]
        refine skH 23 (some 38) rfl ?_
        simp only [Act.put, zzA, zzB, zzC]
        refine skH 24 (some 39) rfl ?_
        simp only [Act.put, zzA, zzB, zzC]
        refine skH 25 (some 40) rfl ?_
        simp only [Act.put, zzA, zzB, zzC]
        refine skH 26 (some 41) rfl ?_
        simp only [Act.put, zzA, zzB, zzC]
        refine skH 27 (some 42) rfl ?_
        simp only [Act.put, zzA, zzB, zzC]
        refine skH 28 (some 43) rfl ?_
        simp only [Act.put, zzA, zzB, zzC]
        refine skH 29 (some 44) rfl ?_
        simp only [Act.put, zzA, zzB, zzC]
        refine skH 30 (some 45) rfl ?_
        simp only [Act.put, zzA, zzB, zzC]
        refine tkH 31 (some 46) (.bool true) rfl ?_
        simp only [Act.put, zzA, zzB, zzC]
        refine wpAnyH_done (by kernel_rfl) ?_ _
        have HX2 := hid hs2.bel
        clear hs2
        go_wp2
        go_ret
        exact ⟨ret_bool (HNo.out HNN.out).symm, HX2.out⟩
      cases h2 : goodS q.s
      · have HNN : Hid (¬ OkAt qs 0) := fun h => by have := (HOk.out.1 h).2.1; simp only [pl] at this; rw [h2] at this; cases this
        go_wp2_with fail
        refine wp_region_held_drew (S := fun x => GG w q q b off wr.heap.size x) rfl HG.out.drew (fun hHeld => ?_)
        refine tkH 0 (some 15) (.pointer (some ⟨wr.heap.size, 0, none⟩)) rfl ?_
        simp only [Act.put, zzA, zzB, zzC]
        refine tkH 1 (some 16) (.slice q.a q.l.length q.c) rfl ?_
        simp only [Act.put, zzA, zzB, zzC]
        refine wpAnyH_ready (rs := [2]) (by kernel_rfl) (by simp) (AllReadyH.cons (o := { dst := some 17, op := Op.call { callee := Callee.value (Operand.func 86), args := #[Operand.tmp 16], argTypes := #[77] }, type := 4, pos := "l7_head.go:13", after := #[{ on := 1, ground := Ground.data }], guard := none }) rfl ?_ AllReadyH.nil)
        intro K1 hK1
        go_simp
        go_wp2_with (go_at_call 86; refine (f86 q.a q.c q.l _ (GG.t1 hHeld) HFq.out.1 HFq.out.2.1).mono ?_; rw [h1]; rintro e w2 ⟨rfl, hb2⟩; have hs2 := GG.below hHeld hb2; clear hb2)
        refine hK1.out _ _ hs2 (fun _ => ?_)
        clear hK1 K1
        clear hHeld
        refine tkH 3 (some 18) (.bool false) rfl ?_
        simp only [Act.put, zzA, zzB, zzC]
        refine tkH 4 (some 19) (.bool false) rfl ?_
        simp only [Act.put, zzA, zzB, zzC]
        refine tkH 5 (some 20) (.pointer (some ⟨wr.heap.size, 1, none⟩)) rfl ?_
        simp only [Act.put, zzA, zzB, zzC]
        refine tkH 6 (some 21) (.slice q.b q.s.length q.d) rfl ?_
        simp only [Act.put, zzA, zzB, zzC]
        refine wpAnyH_ready (rs := [7]) (by kernel_rfl) (by simp) (AllReadyH.cons (o := { dst := some 22, op := Op.call { callee := Callee.value (Operand.func 87), args := #[Operand.tmp 21], argTypes := #[78] }, type := 4, pos := "l7_head.go:13", after := #[{ on := 6, ground := Ground.data }, { on := 4, ground := Ground.chain }, { on := 4, ground := Ground.guard }], guard := some (4, false) }) rfl ?_ AllReadyH.nil)
        intro K2 hK2
        go_simp
        go_wp2_with (go_at_call 87; refine (Smp.f87 q.b q.d q.s _ HZq.out.2 (GG.t2 hs2)).mono ?_; rw [h2]; rintro e w3 ⟨rfl, hb3⟩; have hs3 := GG.below hs2 hb3; clear hb3)
        refine hK2.out _ _ hs3 (fun _ => ?_)
        clear hK2 K2
        clear hs2
        refine tkH 8 (some 23) (.bool true) rfl ?_
        simp only [Act.put, zzA, zzB, zzC]
        refine tkH 9 (some 24) (.bool true) rfl ?_
        simp only [Act.put, zzA, zzB, zzC]
        refine tkH 10 (some 25) (.bool true) rfl ?_
        simp only [Act.put, zzA, zzB, zzC]
        refine skH 11 (some 26) rfl ?_
        simp only [Act.put, zzA, zzB, zzC]
        refine skH 12 (some 27) rfl ?_
        simp only [Act.put, zzA, zzB, zzC]
        refine skH 13 (some 28) rfl ?_
        simp only [Act.put, zzA, zzB, zzC]
        refine skH 14 (some 29) rfl ?_
        simp only [Act.put, zzA, zzB, zzC]
        refine tkH 15 (some 30) (.bool true) rfl ?_
        simp only [Act.put, zzA, zzB, zzC]
        refine tkH 16 (some 31) (.bool true) rfl ?_
        simp only [Act.put, zzA, zzB, zzC]
        refine skH 17 (some 32) rfl ?_
        simp only [Act.put, zzA, zzB, zzC]
        refine skH 18 (some 33) rfl ?_
        simp only [Act.put, zzA, zzB, zzC]
        refine skH 19 (some 34) rfl ?_
        simp only [Act.put, zzA, zzB, zzC]
        refine skH 20 (some 35) rfl ?_
        simp only [Act.put, zzA, zzB, zzC]
        refine skH 21 (some 36) rfl ?_
        simp only [Act.put, zzA, zzB, zzC]
        refine skH 22 (some 37) rfl ?_
        simp only [Act.put, zzA, zzB, zzC]
        refine skH 23 (some 38) rfl ?_
        simp only [Act.put, zzA, zzB, zzC]
        refine skH 24 (some 39) rfl ?_
        simp only [Act.put, zzA, zzB, zzC]
        refine skH 25 (some 40) rfl ?_
        simp only [Act.put, zzA, zzB, zzC]
        refine skH 26 (some 41) rfl ?_
        simp only [Act.put, zzA, zzB, zzC]
        refine skH 27 (some 42) rfl ?_
        simp only [Act.put, zzA, zzB, zzC]
        refine skH 28 (some 43) rfl ?_
        simp only [Act.put, zzA, zzB, zzC]
        refine skH 29 (some 44) rfl ?_
        simp only [Act.put, zzA, zzB, zzC]
        refine skH 30 (some 45) rfl ?_
        simp only [Act.put, zzA, zzB, zzC]
        refine tkH 31 (some 46) (.bool true) rfl ?_
        simp only [Act.put, zzA, zzB, zzC]
        refine wpAnyH_done (by kernel_rfl) ?_ _
        have HX2 := hid hs3.bel
        clear hs3
        go_wp2
        go_ret
        exact ⟨ret_bool (HNo.out HNN.out).symm, HX2.out⟩
      by_cases h3 : (q.s.length : Int) = 0
      · have HNN : Hid (¬ OkAt qs 0) := fun h => absurd h3 (len_zero.1 (HOk.out.1 h).2.2)
        go_wp2_with fail
        refine wp_region_held_drew (S := fun x => GG w q q b off wr.heap.size x) rfl HG.out.drew (fun hHeld => ?_)
        refine tkH 0 (some 15) (.pointer (some ⟨wr.heap.size, 0, none⟩)) rfl ?_
        simp only [Act.put, zzA, zzB, zzC]
        refine tkH 1 (some 16) (.slice q.a q.l.length q.c) rfl ?_
        simp only [Act.put, zzA, zzB, zzC]
        refine wpAnyH_ready (rs := [2]) (by kernel_rfl) (by simp) (AllReadyH.cons (o := { dst := some 17, op := Op.call { callee := Callee.value (Operand.func 86), args := #[Operand.tmp 16], argTypes := #[77] }, type := 4, pos := "l7_head.go:13", after := #[{ on := 1, ground := Ground.data }], guard := none }) rfl ?_ AllReadyH.nil)
        intro K1 hK1
        go_simp
        go_wp2_with (go_at_call 86; refine (f86 q.a q.c q.l _ (GG.t1 hHeld) HFq.out.1 HFq.out.2.1).mono ?_; rw [h1]; rintro e w2 ⟨rfl, hb2⟩; have hs2 := GG.below hHeld hb2; clear hb2)
        refine hK1.out _ _ hs2 (fun _ => ?_)
        clear hK1 K1
        clear hHeld
        refine tkH 3 (some 18) (.bool false) rfl ?_
        simp only [Act.put, zzA, zzB, zzC]
        refine tkH 4 (some 19) (.bool false) rfl ?_
        simp only [Act.put, zzA, zzB, zzC]
        refine tkH 5 (some 20) (.pointer (some ⟨wr.heap.size, 1, none⟩)) rfl ?_
        simp only [Act.put, zzA, zzB, zzC]
        refine tkH 6 (some 21) (.slice q.b q.s.length q.d) rfl ?_
        simp only [Act.put, zzA, zzB, zzC]
        refine wpAnyH_ready (rs := [7]) (by kernel_rfl) (by simp) (AllReadyH.cons (o := { dst := some 22, op := Op.call { callee := Callee.value (Operand.func 87), args := #[Operand.tmp 21], argTypes := #[78] }, type := 4, pos := "l7_head.go:13", after := #[{ on := 6, ground := Ground.data }, { on := 4, ground := Ground.chain }, { on := 4, ground := Ground.guard }], guard := some (4, false) }) rfl ?_ AllReadyH.nil)
        intro K2 hK2
        go_simp
        go_wp2_with (go_at_call 87; refine (Smp.f87 q.b q.d q.s _ HZq.out.2 (GG.t2 hs2)).mono ?_; rw [h2]; rintro e w3 ⟨rfl, hb3⟩; have hs3 := GG.below hs2 hb3; clear hb3)
        refine hK2.out _ _ hs3 (fun _ => ?_)
        clear hK2 K2
        clear hs2
        refine tkH 8 (some 23) (.bool false) rfl ?_
        simp only [Act.put, zzA, zzB, zzC]
        refine tkH 9 (some 24) (.bool false) rfl ?_
        simp only [Act.put, zzA, zzB, zzC]
        refine tkH 10 (some 25) (.bool false) rfl ?_
        simp only [Act.put, zzA, zzB, zzC]
        refine tkH 11 (some 26) (.pointer (some ⟨wr.heap.size, 1, none⟩)) rfl ?_
        simp only [Act.put, zzA, zzB, zzC]
        refine tkH 12 (some 27) (.slice q.b q.s.length q.d) rfl ?_
        simp only [Act.put, zzA, zzB, zzC]
        refine tkH 13 (some 28) (.int .i64 (q.s.length : Int)) rfl ?_
        simp only [Act.put, zzA, zzB, zzC]
        refine tkH 14 (some 29) (.bool true) rfl ?_
        simp only [Act.put, zzA, zzB, zzC]
        refine tkH 15 (some 30) (.bool true) rfl ?_
        simp only [Act.put, zzA, zzB, zzC]
        refine tkH 16 (some 31) (.bool true) rfl ?_
        simp only [Act.put, zzA, zzB, zzC]
        refine skH 17 (some 32) rfl ?_
        simp only [Act.put, zzA, zzB, zzC]
        refine skH 18 (some 33) rfl ?_
        simp only [Act.put, zzA, zzB, zzC]
        refine skH 19 (some 34) rfl ?_
        simp only [Act.put, zzA, zzB, zzC]
        refine skH 20 (some 35) rfl ?_
        simp only [Act.put, zzA, zzB, zzC]
        refine skH 21 (some 36) rfl ?_
        simp only [Act.put, zzA, zzB, zzC]
        refine skH 22 (some 37) rfl ?_
        simp only [Act.put, zzA, zzB, zzC]
        refine skH 23 (some 38) rfl ?_
        simp only [Act.put, zzA, zzB, zzC]
        refine skH 24 (some 39) rfl ?_
        simp only [Act.put, zzA, zzB, zzC]
        refine skH 25 (some 40) rfl ?_
        simp only [Act.put, zzA, zzB, zzC]
        refine skH 26 (some 41) rfl ?_
        simp only [Act.put, zzA, zzB, zzC]
        refine skH 27 (some 42) rfl ?_
        simp only [Act.put, zzA, zzB, zzC]
        refine skH 28 (some 43) rfl ?_
        simp only [Act.put, zzA, zzB, zzC]
        refine skH 29 (some 44) rfl ?_
        simp only [Act.put, zzA, zzB, zzC]
        refine skH 30 (some 45) rfl ?_
        simp only [Act.put, zzA, zzB, zzC]
        refine tkH 31 (some 46) (.bool true) rfl ?_
        simp only [Act.put, zzA, zzB, zzC]
        refine wpAnyH_done (by kernel_rfl) ?_ _
        have HX2 := hid hs3.bel
        clear hs3
        go_wp2
        go_ret
        exact ⟨ret_bool (HNo.out HNN.out).symm, HX2.out⟩
      have h3' : ¬ q.s = [] := len_zero.2 h3
      have HYY := hid (HOk.out.2 ⟨nmd_iff.1 h1, h2, len_zero.2 h3⟩)
      go_wp2_with fail
      refine wp_region_held_drew (S := fun x => GG w q q b off wr.heap.size x) rfl HG.out.drew (fun hHeld => ?_)
      refine tkH 0 (some 15) (.pointer (some ⟨wr.heap.size, 0, none⟩)) rfl ?_
      simp only [Act.put, zzA, zzB, zzC]
      refine tkH 1 (some 16) (.slice q.a q.l.length q.c) rfl ?_
      simp only [Act.put, zzA, zzB, zzC]
      refine wpAnyH_ready (rs := [2]) (by kernel_rfl) (by simp) (AllReadyH.cons (o := { dst := some 17, op := Op.call { callee := Callee.value (Operand.func 86), args := #[Operand.tmp 16], argTypes := #[77] }, type := 4, pos := "l7_head.go:13", after := #[{ on := 1, ground := Ground.data }], guard := none }) rfl ?_ AllReadyH.nil)
      intro K1 hK1
      go_simp
      go_wp2_with (go_at_call 86; refine (f86 q.a q.c q.l _ (GG.t1 hHeld) HFq.out.1 HFq.out.2.1).mono ?_; rw [h1]; rintro e w2 ⟨rfl, hb2⟩; have hs2 := GG.below hHeld hb2; clear hb2)
      refine hK1.out _ _ hs2 (fun _ => ?_)
      clear hK1 K1
      clear hHeld
      refine tkH 3 (some 18) (.bool false) rfl ?_
      simp only [Act.put, zzA, zzB, zzC]
      refine tkH 4 (some 19) (.bool false) rfl ?_
      simp only [Act.put, zzA, zzB, zzC]
      refine tkH 5 (some 20) (.pointer (some ⟨wr.heap.size, 1, none⟩)) rfl ?_
      simp only [Act.put, zzA, zzB, zzC]
      refine tkH 6 (some 21) (.slice q.b q.s.length q.d) rfl ?_
      simp only [Act.put, zzA, zzB, zzC]
      refine wpAnyH_ready (rs := [7]) (by kernel_rfl) (by simp) (AllReadyH.cons (o := { dst := some 22, op := Op.call { callee := Callee.value (Operand.func 87), args := #[Operand.tmp 21], argTypes := #[78] }, type := 4, pos := "l7_head.go:13", after := #[{ on := 6, ground := Ground.data }, { on := 4, ground := Ground.chain }, { on := 4, ground := Ground.guard }], guard := some (4, false) }) rfl ?_ AllReadyH.nil)
      intro K2 hK2
      go_simp
      go_wp2_with (go_at_call 87; refine (Smp.f87 q.b q.d q.s _ HZq.out.2 (GG.t2 hs2)).mono ?_; rw [h2]; rintro e w3 ⟨rfl, hb3⟩; have hs3 := GG.below hs2 hb3; clear hb3)
      refine hK2.out _ _ hs3 (fun _ => ?_)
      clear hK2 K2
      clear hs2
      refine tkH 8 (some 23) (.bool false) rfl ?_
      simp only [Act.put, zzA, zzB, zzC]
      refine tkH 9 (some 24) (.bool false) rfl ?_
      simp only [Act.put, zzA, zzB, zzC]
      refine tkH 10 (some 25) (.bool false) rfl ?_
      simp only [Act.put, zzA, zzB, zzC]
      refine tkH 11 (some 26) (.pointer (some ⟨wr.heap.size, 1, none⟩)) rfl ?_
      simp only [Act.put, zzA, zzB, zzC]
      refine tkH 12 (some 27) (.slice q.b q.s.length q.d) rfl ?_
      simp only [Act.put, zzA, zzB, zzC]
      refine tkH 13 (some 28) (.int .i64 (q.s.length : Int)) rfl ?_
      simp only [Act.put, zzA, zzB, zzC]
      refine tkH 14 (some 29) (.bool false) rfl ?_
      simp only [Act.put, zzA, zzB, zzC]
      refine tkH 15 (some 30) (.bool false) rfl ?_
      simp only [Act.put, zzA, zzB, zzC]
      refine tkH 16 (some 31) (.bool false) rfl ?_
      simp only [Act.put, zzA, zzB, zzC]
      refine tkH 17 (some 32) (.int .i64 0) rfl ?_
      simp only [Act.put, zzA, zzB, zzC]
      refine tkH 18 (some 33) (.bool false) rfl ?_
      simp only [Act.put, zzA, zzB, zzC]
      refine tkH 19 (some 34) (.bool false) rfl ?_
      simp only [Act.put, zzA, zzB, zzC]
      refine skH 20 (some 35) rfl ?_
      simp only [Act.put, zzA, zzB, zzC]
      refine skH 21 (some 36) rfl ?_
      simp only [Act.put, zzA, zzB, zzC]
      refine skH 22 (some 37) rfl ?_
      simp only [Act.put, zzA, zzB, zzC]
      refine skH 23 (some 38) rfl ?_
      simp only [Act.put, zzA, zzB, zzC]
      refine skH 24 (some 39) rfl ?_
      simp only [Act.put, zzA, zzB, zzC]
      refine skH 25 (some 40) rfl ?_
      simp only [Act.put, zzA, zzB, zzC]
      refine skH 26 (some 41) rfl ?_
      simp only [Act.put, zzA, zzB, zzC]
      refine skH 27 (some 42) rfl ?_
      simp only [Act.put, zzA, zzB, zzC]
      refine skH 28 (some 43) rfl ?_
      simp only [Act.put, zzA, zzB, zzC]
      refine skH 29 (some 44) rfl ?_
      simp only [Act.put, zzA, zzB, zzC]
      refine tkH 30 (some 45) (.bool false) rfl ?_
      simp only [Act.put, zzA, zzB, zzC]
      refine tkH 31 (some 46) (.bool false) rfl ?_
      simp only [Act.put, zzA, zzB, zzC]
      refine wpAnyH_done (by kernel_rfl) ?_ _
      have HX2 := hid hs3.bel
      clear hs3
      go_wp2
      go_roundw
      case rel => exact ⟨1, by omega, by go_num, HUs.out HYY.out, HX2.out⟩
      case measure => simp [intOf]; omega
    | succ j =>
      have HOk : Hid (OkAt qs (j + 1) ↔ OkQ (pl (qs.getD (j + 1) q0)) ∧ cmpList (pl (qs.getD j q0)).1 (pl (qs.getD (j + 1) q0)).1 < 0) := ⟨fun h => ⟨h.1, h.2 (by omega)⟩, fun h => ⟨h.1, fun _ => h.2⟩⟩
      obtain ⟨b', off', e0, hbl', p0, p1, t3, t4⟩ := (HR.out.below HX.out).at2 j (by rw [HN.out]; omega)
      obtain ⟨rfl, rfl⟩ : b = b' ∧ off = off' := by cases e0; exact ⟨rfl, rfl⟩
      have HFp := hid (HF.out j).1
      have HZp := hid (HZ.out j (by rw [HN.out]; omega)).1
      clear e0 p1 t4 hbl'
      generalize qs.getD (j + 1) q0 = q at *
      generalize qs.getD j q0 = p at *
      have i1 : (j : Int) < (n : Int) := by omega
      have i2 : (j : Int) + 1 < (n : Int) := by omega
      have hw1 : IntKind.i64.wrap (j : Int) = (j : Int) := by rw [IntKind.wrap_i64]; omega
      have HG := hid (box_gg (w := w) (q := q) (p := p) p0 t1 t2 t3 hbl HX.out)
      clear t1 t2 t3
      cases h1 : nmd q.l
      · have HNN : Hid (¬ OkAt qs (j + 1)) := fun h => by have := nmd_yes (HOk.out.1 h).1.1; simp only [pl] at this; rw [h1] at this; cases this
        go_wp2_with fail
        refine wp_region_held_drew (S := fun x => GG w q p b (off + j * 2) wr.heap.size x) rfl HG.out.drew (fun hHeld => ?_)
        refine tkH 0 (some 15) (.pointer (some ⟨wr.heap.size, 0, none⟩)) rfl ?_
        simp only [Act.put, zzA, zzB, zzC]
        refine tkH 1 (some 16) (.slice q.a q.l.length q.c) rfl ?_
        simp only [Act.put, zzA, zzB, zzC]
        refine wpAnyH_ready (rs := [2]) (by kernel_rfl) (by simp) (AllReadyH.cons (o := { dst := some 17, op := Op.call { callee := Callee.value (Operand.func 86), args := #[Operand.tmp 16], argTypes := #[77] }, type := 4, pos := "l7_head.go:13", after := #[{ on := 1, ground := Ground.data }], guard := none }) rfl ?_ AllReadyH.nil)
        intro K1 hK1
        go_simp
        go_wp2_with (go_at_call 86; refine (f86 q.a q.c q.l _ (GG.t1 hHeld) HFq.out.1 HFq.out.2.1).mono ?_; rw [h1]; rintro e w2 ⟨rfl, hb2⟩; have hs2 := GG.below hHeld hb2; clear hb2)
        refine hK1.out _ _ hs2 (fun _ => ?_)
        clear hK1 K1
        clear hHeld
        refine tkH 3 (some 18) (.bool true) rfl ?_
        simp only [Act.put, zzA, zzB, zzC]
        refine tkH 4 (some 19) (.bool true) rfl ?_
        simp only [Act.put, zzA, zzB, zzC]
        refine skH 5 (some 20) rfl ?_
        simp only [Act.put, zzA, zzB, zzC]
        refine skH 6 (some 21) rfl ?_
        simp only [Act.put, zzA, zzB, zzC]
        refine skH 7 (some 22) rfl ?_
        simp only [Act.put, zzA, zzB, zzC]
        refine skH 8 (some 23) rfl ?_
        simp only [Act.put, zzA, zzB, zzC]
        refine tkH 9 (some 24) (.bool true) rfl ?_
        simp only [Act.put, zzA, zzB, zzC]
        refine tkH 10 (some 25) (.bool true) rfl ?_
        simp only [Act.put, zzA, zzB, zzC]
        refine skH 11 (some 26) rfl ?_
        simp only [Act.put, zzA, zzB, zzC]
        refine skH 12 (some 27) rfl ?_
        simp only [Act.put, zzA, zzB, zzC]
        refine skH 13 (some 28) rfl ?_
        simp only [Act.put, zzA, zzB, zzC]
        refine skH 14 (some 29) rfl ?_
        simp only [Act.put, zzA, zzB, zzC]
        refine tkH 15 (some 30) (.bool true) rfl ?_
        simp only [Act.put, zzA, zzB, zzC]
        refine tkH 16 (some 31) (.bool true) rfl ?_
        simp only [Act.put, zzA, zzB, zzC]
        refine skH 17 (some 32) rfl ?_
        simp only [Act.put, zzA, zzB, zzC]
        refine skH 18 (some 33) rfl ?_
        simp only [Act.put, zzA, zzB, zzC]
        refine skH 19 (some 34) rfl ?_
        simp only [Act.put, zzA, zzB, zzC]
        refine skH 20 (some 35) rfl ?_
        simp only [Act.put, zzA, zzB, zzC]
        refine skH 21 (some 36) rfl ?_
        simp only [Act.put, zzA, zzB, zzC]
        refine skH 22 (some 37) rfl ?_
        simp only [Act.put, zzA, zzB, zzC]
        refine skH 23 (some 38) rfl ?_
        simp only [Act.put, zzA, zzB, zzC]
        refine skH 24 (some 39) rfl ?_
        simp only [Act.put, zzA, zzB, zzC]
        refine skH 25 (some 40) rfl ?_
        simp only [Act.put, zzA, zzB, zzC]
        refine skH 26 (some 41) rfl ?_
        simp only [Act.put, zzA, zzB, zzC]
        refine skH 27 (some 42) rfl ?_
        simp only [Act.put, zzA, zzB, zzC]
        refine skH 28 (some 43) rfl ?_
        simp only [Act.put, zzA, zzB, zzC]
        refine skH 29 (some 44) rfl ?_
        simp only [Act.put, zzA, zzB, zzC]
        refine skH 30 (some 45) rfl ?_
        simp only [Act.put, zzA, zzB, zzC]
        refine tkH 31 (some 46) (.bool true) rfl ?_
        simp only [Act.put, zzA, zzB, zzC]
        refine wpAnyH_done (by kernel_rfl) ?_ _
        have HX2 := hid hs2.bel
        clear hs2
        go_wp2
        go_ret
        exact ⟨ret_bool (HNo.out HNN.out).symm, HX2.out⟩
      cases h2 : goodS q.s
      · have HNN : Hid (¬ OkAt qs (j + 1)) := fun h => by have := (HOk.out.1 h).1.2.1; simp only [pl] at this; rw [h2] at this; cases this
        go_wp2_with fail
        refine wp_region_held_drew (S := fun x => GG w q p b (off + j * 2) wr.heap.size x) rfl HG.out.drew (fun hHeld => ?_)
        refine tkH 0 (some 15) (.pointer (some ⟨wr.heap.size, 0, none⟩)) rfl ?_
        simp only [Act.put, zzA, zzB, zzC]
        refine tkH 1 (some 16) (.slice q.a q.l.length q.c) rfl ?_
        simp only [Act.put, zzA, zzB, zzC]
        refine wpAnyH_ready (rs := [2]) (by kernel_rfl) (by simp) (AllReadyH.cons (o := { dst := some 17, op := Op.call { callee := Callee.value (Operand.func 86), args := #[Operand.tmp 16], argTypes := #[77] }, type := 4, pos := "l7_head.go:13", after := #[{ on := 1, ground := Ground.data }], guard := none }) rfl ?_ AllReadyH.nil)
        intro K1 hK1
        go_simp
        go_wp2_with (go_at_call 86; refine (f86 q.a q.c q.l _ (GG.t1 hHeld) HFq.out.1 HFq.out.2.1).mono ?_; rw [h1]; rintro e w2 ⟨rfl, hb2⟩; have hs2 := GG.below hHeld hb2; clear hb2)
        refine hK1.out _ _ hs2 (fun _ => ?_)
        clear hK1 K1
        clear hHeld
        refine tkH 3 (some 18) (.bool false) rfl ?_
        simp only [Act.put, zzA, zzB, zzC]
        refine tkH 4 (some 19) (.bool false) rfl ?_
        simp only [Act.put, zzA, zzB, zzC]
        refine tkH 5 (some 20) (.pointer (some ⟨wr.heap.size, 1, none⟩)) rfl ?_
        simp only [Act.put, zzA, zzB, zzC]
        refine tkH 6 (some 21) (.slice q.b q.s.length q.d) rfl ?_
        simp only [Act.put, zzA, zzB, zzC]
        refine wpAnyH_ready (rs := [7]) (by kernel_rfl) (by simp) (AllReadyH.cons (o := { dst := some 22, op := Op.call { callee := Callee.value (Operand.func 87), args := #[Operand.tmp 21], argTypes := #[78] }, type := 4, pos := "l7_head.go:13", after := #[{ on := 6, ground := Ground.data }, { on := 4, ground := Ground.chain }, { on := 4, ground := Ground.guard }], guard := some (4, false) }) rfl ?_ AllReadyH.nil)
        intro K2 hK2
        go_simp
        go_wp2_with (go_at_call 87; refine (Smp.f87 q.b q.d q.s _ HZq.out.2 (GG.t2 hs2)).mono ?_; rw [h2]; rintro e w3 ⟨rfl, hb3⟩; have hs3 := GG.below hs2 hb3; clear hb3)
        refine hK2.out _ _ hs3 (fun _ => ?_)
        clear hK2 K2
        clear hs2
        refine tkH 8 (some 23) (.bool true) rfl ?_
        simp only [Act.put, zzA, zzB, zzC]
        refine tkH 9 (some 24) (.bool true) rfl ?_
        simp only [Act.put, zzA, zzB, zzC]
        refine tkH 10 (some 25) (.bool true) rfl ?_
        simp only [Act.put, zzA, zzB, zzC]
        refine skH 11 (some 26) rfl ?_
        simp only [Act.put, zzA, zzB, zzC]
        refine skH 12 (some 27) rfl ?_
        simp only [Act.put, zzA, zzB, zzC]
        refine skH 13 (some 28) rfl ?_
        simp only [Act.put, zzA, zzB, zzC]
        refine skH 14 (some 29) rfl ?_
        simp only [Act.put, zzA, zzB, zzC]
        refine tkH 15 (some 30) (.bool true) rfl ?_
        simp only [Act.put, zzA, zzB, zzC]
        refine tkH 16 (some 31) (.bool true) rfl ?_
        simp only [Act.put, zzA, zzB, zzC]
        refine skH 17 (some 32) rfl ?_
        simp only [Act.put, zzA, zzB, zzC]
        refine skH 18 (some 33) rfl ?_
        simp only [Act.put, zzA, zzB, zzC]
        refine skH 19 (some 34) rfl ?_
        simp only [Act.put, zzA, zzB, zzC]
        refine skH 20 (some 35) rfl ?_
        simp only [Act.put, zzA, zzB, zzC]
        refine skH 21 (some 36) rfl ?_
        simp only [Act.put, zzA, zzB, zzC]
        refine skH 22 (some 37) rfl ?_
        simp only [Act.put, zzA, zzB, zzC]
        refine skH 23 (some 38) rfl ?_
        simp only [Act.put, zzA, zzB, zzC]
        refine skH 24 (some 39) rfl ?_
        simp only [Act.put, zzA, zzB, zzC]
        refine skH 25 (some 40) rfl ?_
        simp only [Act.put, zzA, zzB, zzC]
        refine skH 26 (some 41) rfl ?_
        simp only [Act.put, zzA, zzB, zzC]
        refine skH 27 (some 42) rfl ?_
        simp only [Act.put, zzA, zzB, zzC]
        refine skH 28 (some 43) rfl ?_
        simp only [Act.put, zzA, zzB, zzC]
        refine skH 29 (some 44) rfl ?_
        simp only [Act.put, zzA, zzB, zzC]
        refine skH 30 (some 45) rfl ?_
        simp only [Act.put, zzA, zzB, zzC]
        refine tkH 31 (some 46) (.bool true) rfl ?_
        simp only [Act.put, zzA, zzB, zzC]
        refine wpAnyH_done (by kernel_rfl) ?_ _
        have HX2 := hid hs3.bel
        clear hs3
        go_wp2
        go_ret
        exact ⟨ret_bool (HNo.out HNN.out).symm, HX2.out⟩
      by_cases h3 : (q.s.length : Int) = 0
      · have HNN : Hid (¬ OkAt qs (j + 1)) := fun h => absurd h3 (len_zero.1 (HOk.out.1 h).1.2.2)
        go_wp2_with fail
        refine wp_region_held_drew (S := fun x => GG w q p b (off + j * 2) wr.heap.size x) rfl HG.out.drew (fun hHeld => ?_)
        refine tkH 0 (some 15) (.pointer (some ⟨wr.heap.size, 0, none⟩)) rfl ?_
        simp only [Act.put, zzA, zzB, zzC]
        refine tkH 1 (some 16) (.slice q.a q.l.length q.c) rfl ?_
        simp only [Act.put, zzA, zzB, zzC]
        refine wpAnyH_ready (rs := [2]) (by kernel_rfl) (by simp) (AllReadyH.cons (o := { dst := some 17, op := Op.call { callee := Callee.value (Operand.func 86), args := #[Operand.tmp 16], argTypes := #[77] }, type := 4, pos := "l7_head.go:13", after := #[{ on := 1, ground := Ground.data }], guard := none }) rfl ?_ AllReadyH.nil)
        intro K1 hK1
        go_simp
        go_wp2_with (go_at_call 86; refine (f86 q.a q.c q.l _ (GG.t1 hHeld) HFq.out.1 HFq.out.2.1).mono ?_; rw [h1]; rintro e w2 ⟨rfl, hb2⟩; have hs2 := GG.below hHeld hb2; clear hb2)
        refine hK1.out _ _ hs2 (fun _ => ?_)
        clear hK1 K1
        clear hHeld
        refine tkH 3 (some 18) (.bool false) rfl ?_
        simp only [Act.put, zzA, zzB, zzC]
        refine tkH 4 (some 19) (.bool false) rfl ?_
        simp only [Act.put, zzA, zzB, zzC]
        refine tkH 5 (some 20) (.pointer (some ⟨wr.heap.size, 1, none⟩)) rfl ?_
        simp only [Act.put, zzA, zzB, zzC]
        refine tkH 6 (some 21) (.slice q.b q.s.length q.d) rfl ?_
        simp only [Act.put, zzA, zzB, zzC]
        refine wpAnyH_ready (rs := [7]) (by kernel_rfl) (by simp) (AllReadyH.cons (o := { dst := some 22, op := Op.call { callee := Callee.value (Operand.func 87), args := #[Operand.tmp 21], argTypes := #[78] }, type := 4, pos := "l7_head.go:13", after := #[{ on := 6, ground := Ground.data }, { on := 4, ground := Ground.chain }, { on := 4, ground := Ground.guard }], guard := some (4, false) }) rfl ?_ AllReadyH.nil)
        intro K2 hK2
        go_simp
        go_wp2_with (go_at_call 87; refine (Smp.f87 q.b q.d q.s _ HZq.out.2 (GG.t2 hs2)).mono ?_; rw [h2]; rintro e w3 ⟨rfl, hb3⟩; have hs3 := GG.below hs2 hb3; clear hb3)
        refine hK2.out _ _ hs3 (fun _ => ?_)
        clear hK2 K2
        clear hs2
        refine tkH 8 (some 23) (.bool false) rfl ?_
        simp only [Act.put, zzA, zzB, zzC]
        refine tkH 9 (some 24) (.bool false) rfl ?_
        simp only [Act.put, zzA, zzB, zzC]
        refine tkH 10 (some 25) (.bool false) rfl ?_
        simp only [Act.put, zzA, zzB, zzC]
        refine tkH 11 (some 26) (.pointer (some ⟨wr.heap.size, 1, none⟩)) rfl ?_
        simp only [Act.put, zzA, zzB, zzC]
        refine tkH 12 (some 27) (.slice q.b q.s.length q.d) rfl ?_
        simp only [Act.put, zzA, zzB, zzC]
        refine tkH 13 (some 28) (.int .i64 (q.s.length : Int)) rfl ?_
        simp only [Act.put, zzA, zzB, zzC]
        refine tkH 14 (some 29) (.bool true) rfl ?_
        simp only [Act.put, zzA, zzB, zzC]
        refine tkH 15 (some 30) (.bool true) rfl ?_
        simp only [Act.put, zzA, zzB, zzC]
        refine tkH 16 (some 31) (.bool true) rfl ?_
        simp only [Act.put, zzA, zzB, zzC]
        refine skH 17 (some 32) rfl ?_
        simp only [Act.put, zzA, zzB, zzC]
        refine skH 18 (some 33) rfl ?_
        simp only [Act.put, zzA, zzB, zzC]
        refine skH 19 (some 34) rfl ?_
        simp only [Act.put, zzA, zzB, zzC]
        refine skH 20 (some 35) rfl ?_
        simp only [Act.put, zzA, zzB, zzC]
        refine skH 21 (some 36) rfl ?_
        simp only [Act.put, zzA, zzB, zzC]
        refine skH 22 (some 37) rfl ?_
        simp only [Act.put, zzA, zzB, zzC]
        refine skH 23 (some 38) rfl ?_
        simp only [Act.put, zzA, zzB, zzC]
        refine skH 24 (some 39) rfl ?_
        simp only [Act.put, zzA, zzB, zzC]
        refine skH 25 (some 40) rfl ?_
        simp only [Act.put, zzA, zzB, zzC]
        refine skH 26 (some 41) rfl ?_
        simp only [Act.put, zzA, zzB, zzC]
        refine skH 27 (some 42) rfl ?_
        simp only [Act.put, zzA, zzB, zzC]
        refine skH 28 (some 43) rfl ?_
        simp only [Act.put, zzA, zzB, zzC]
        refine skH 29 (some 44) rfl ?_
        simp only [Act.put, zzA, zzB, zzC]
        refine skH 30 (some 45) rfl ?_
        simp only [Act.put, zzA, zzB, zzC]
        refine tkH 31 (some 46) (.bool true) rfl ?_
        simp only [Act.put, zzA, zzB, zzC]
        refine wpAnyH_done (by kernel_rfl) ?_ _
        have HX2 := hid hs3.bel
        clear hs3
        go_wp2
        go_ret
        exact ⟨ret_bool (HNo.out HNN.out).symm, HX2.out⟩
      have h3' : ¬ q.s = [] := len_zero.2 h3
      by_cases h4 : 0 ≤ cmpList p.l q.l
      · have HNN : Hid (¬ OkAt qs (j + 1)) := fun h => by have := (HOk.out.1 h).2; simp only [pl] at this; omega
        go_wp2_with fail
        refine wp_region_held_drew (S := fun x => GG w q p b (off + j * 2) wr.heap.size x) rfl HG.out.drew (fun hHeld => ?_)
        refine tkH 0 (some 15) (.pointer (some ⟨wr.heap.size, 0, none⟩)) rfl ?_
        simp only [Act.put, zzA, zzB, zzC]
        refine tkH 1 (some 16) (.slice q.a q.l.length q.c) rfl ?_
        simp only [Act.put, zzA, zzB, zzC]
        refine wpAnyH_ready (rs := [2]) (by kernel_rfl) (by simp) (AllReadyH.cons (o := { dst := some 17, op := Op.call { callee := Callee.value (Operand.func 86), args := #[Operand.tmp 16], argTypes := #[77] }, type := 4, pos := "l7_head.go:13", after := #[{ on := 1, ground := Ground.data }], guard := none }) rfl ?_ AllReadyH.nil)
        intro K1 hK1
        go_simp
        go_wp2_with (go_at_call 86; refine (f86 q.a q.c q.l _ (GG.t1 hHeld) HFq.out.1 HFq.out.2.1).mono ?_; rw [h1]; rintro e w2 ⟨rfl, hb2⟩; have hs2 := GG.below hHeld hb2; clear hb2)
        refine hK1.out _ _ hs2 (fun _ => ?_)
        clear hK1 K1
        clear hHeld
        refine tkH 3 (some 18) (.bool false) rfl ?_
        simp only [Act.put, zzA, zzB, zzC]
        refine tkH 4 (some 19) (.bool false) rfl ?_
        simp only [Act.put, zzA, zzB, zzC]
        refine tkH 5 (some 20) (.pointer (some ⟨wr.heap.size, 1, none⟩)) rfl ?_
        simp only [Act.put, zzA, zzB, zzC]
        refine tkH 6 (some 21) (.slice q.b q.s.length q.d) rfl ?_
        simp only [Act.put, zzA, zzB, zzC]
        refine wpAnyH_ready (rs := [7]) (by kernel_rfl) (by simp) (AllReadyH.cons (o := { dst := some 22, op := Op.call { callee := Callee.value (Operand.func 87), args := #[Operand.tmp 21], argTypes := #[78] }, type := 4, pos := "l7_head.go:13", after := #[{ on := 6, ground := Ground.data }, { on := 4, ground := Ground.chain }, { on := 4, ground := Ground.guard }], guard := some (4, false) }) rfl ?_ AllReadyH.nil)
        intro K2 hK2
        go_simp
        go_wp2_with (go_at_call 87; refine (Smp.f87 q.b q.d q.s _ HZq.out.2 (GG.t2 hs2)).mono ?_; rw [h2]; rintro e w3 ⟨rfl, hb3⟩; have hs3 := GG.below hs2 hb3; clear hb3)
        refine hK2.out _ _ hs3 (fun _ => ?_)
        clear hK2 K2
        clear hs2
        refine tkH 8 (some 23) (.bool false) rfl ?_
        simp only [Act.put, zzA, zzB, zzC]
        refine tkH 9 (some 24) (.bool false) rfl ?_
        simp only [Act.put, zzA, zzB, zzC]
        refine tkH 10 (some 25) (.bool false) rfl ?_
        simp only [Act.put, zzA, zzB, zzC]
        refine tkH 11 (some 26) (.pointer (some ⟨wr.heap.size, 1, none⟩)) rfl ?_
        simp only [Act.put, zzA, zzB, zzC]
        refine tkH 12 (some 27) (.slice q.b q.s.length q.d) rfl ?_
        simp only [Act.put, zzA, zzB, zzC]
        refine tkH 13 (some 28) (.int .i64 (q.s.length : Int)) rfl ?_
        simp only [Act.put, zzA, zzB, zzC]
        refine tkH 14 (some 29) (.bool false) rfl ?_
        simp only [Act.put, zzA, zzB, zzC]
        refine tkH 15 (some 30) (.bool false) rfl ?_
        simp only [Act.put, zzA, zzB, zzC]
        refine tkH 16 (some 31) (.bool false) rfl ?_
        simp only [Act.put, zzA, zzB, zzC]
        refine tkH 17 (some 32) (.int .i64 ((j : Int) + 1)) rfl ?_
        simp only [Act.put, zzA, zzB, zzC]
        refine tkH 18 (some 33) (.bool true) rfl ?_
        simp only [Act.put, zzA, zzB, zzC]
        refine tkH 19 (some 34) (.bool true) rfl ?_
        simp only [Act.put, zzA, zzB, zzC]
        refine tkH 20 (some 35) (.slice (some ⟨b, off, none⟩) n c) rfl ?_
        simp only [Act.put, zzA, zzB, zzC]
        refine tkH 21 (some 36) (.int .i64 ((j : Int) + 1)) rfl ?_
        simp only [Act.put, zzA, zzB, zzC]
        refine tkH 22 (some 37) (.int .i64 (j : Int)) rfl ?_
        simp only [Act.put, zzA, zzB, zzC]
        refine tkH 23 (some 38) (.pointer (some ⟨b, off + j * 2, none⟩)) rfl ?_
        simp only [Act.put, zzA, zzB, zzC]
        refine tkH 24 (some 39) (.pointer (some ⟨b, off + j * 2, none⟩)) rfl ?_
        simp only [Act.put, zzA, zzB, zzC]
        refine tkH 25 (some 40) (.slice p.a p.l.length p.c) rfl ?_
        simp only [Act.put, zzA, zzB, zzC]
        refine tkH 26 (some 41) (.pointer (some ⟨wr.heap.size, 0, none⟩)) rfl ?_
        simp only [Act.put, zzA, zzB, zzC]
        refine tkH 27 (some 42) (.slice q.a q.l.length q.c) rfl ?_
        simp only [Act.put, zzA, zzB, zzC]
        refine wpAnyH_ready (rs := [28]) (by kernel_rfl) (by simp) (AllReadyH.cons (o := { dst := some 43, op := Op.call { callee := Callee.value (Operand.func 88), args := #[Operand.tmp 40, Operand.tmp 42], argTypes := #[77, 77] }, type := 3, pos := "l7_head.go:13", after := #[{ on := 25, ground := Ground.data }, { on := 27, ground := Ground.data }, { on := 19, ground := Ground.chain }, { on := 19, ground := Ground.guard }], guard := some (19, true) }) rfl ?_ AllReadyH.nil)
        intro K3 hK3
        go_simp
        go_wp2_with (go_at_call 88; refine (Lab.f88 p.a q.a p.l.length q.l.length p.c q.c p.l q.l _ rfl rfl HZp.out HZq.out.1 (GG.t3 hs3) (GG.t1 hs3) HFp.out).mono ?_; rintro e w4 ⟨rfl, nq, hw4⟩; have hs4 : GG w q p b (off + j * 2) wr.heap.size w4 := (by rw [hw4]; exact GG.drewN hs3 nq); clear hw4)
        refine hK3.out _ _ hs4 (fun _ => ?_)
        clear hK3 K3
        clear hs3
        refine tkH 29 (some 44) (.bool true) rfl ?_
        simp only [Act.put, zzA, zzB, zzC]
        refine tkH 30 (some 45) (.bool true) rfl ?_
        simp only [Act.put, zzA, zzB, zzC]
        refine tkH 31 (some 46) (.bool true) rfl ?_
        simp only [Act.put, zzA, zzB, zzC]
        refine wpAnyH_done (by kernel_rfl) ?_ _
        have HX2 := hid hs4.bel
        clear hs4
        go_wp2
        go_ret
        exact ⟨ret_bool (HNo.out HNN.out).symm, HX2.out⟩
      · have HYY := hid (HOk.out.2 ⟨⟨nmd_iff.1 h1, h2, len_zero.2 h3⟩, by simp only [pl]; omega⟩)
        go_wp2_with fail
        refine wp_region_held_drew (S := fun x => GG w q p b (off + j * 2) wr.heap.size x) rfl HG.out.drew (fun hHeld => ?_)
        refine tkH 0 (some 15) (.pointer (some ⟨wr.heap.size, 0, none⟩)) rfl ?_
        simp only [Act.put, zzA, zzB, zzC]
        refine tkH 1 (some 16) (.slice q.a q.l.length q.c) rfl ?_
        simp only [Act.put, zzA, zzB, zzC]
        refine wpAnyH_ready (rs := [2]) (by kernel_rfl) (by simp) (AllReadyH.cons (o := { dst := some 17, op := Op.call { callee := Callee.value (Operand.func 86), args := #[Operand.tmp 16], argTypes := #[77] }, type := 4, pos := "l7_head.go:13", after := #[{ on := 1, ground := Ground.data }], guard := none }) rfl ?_ AllReadyH.nil)
        intro K1 hK1
        go_simp
        go_wp2_with (go_at_call 86; refine (f86 q.a q.c q.l _ (GG.t1 hHeld) HFq.out.1 HFq.out.2.1).mono ?_; rw [h1]; rintro e w2 ⟨rfl, hb2⟩; have hs2 := GG.below hHeld hb2; clear hb2)
        refine hK1.out _ _ hs2 (fun _ => ?_)
        clear hK1 K1
        clear hHeld
        refine tkH 3 (some 18) (.bool false) rfl ?_
        simp only [Act.put, zzA, zzB, zzC]
        refine tkH 4 (some 19) (.bool false) rfl ?_
        simp only [Act.put, zzA, zzB, zzC]
        refine tkH 5 (some 20) (.pointer (some ⟨wr.heap.size, 1, none⟩)) rfl ?_
        simp only [Act.put, zzA, zzB, zzC]
        refine tkH 6 (some 21) (.slice q.b q.s.length q.d) rfl ?_
        simp only [Act.put, zzA, zzB, zzC]
        refine wpAnyH_ready (rs := [7]) (by kernel_rfl) (by simp) (AllReadyH.cons (o := { dst := some 22, op := Op.call { callee := Callee.value (Operand.func 87), args := #[Operand.tmp 21], argTypes := #[78] }, type := 4, pos := "l7_head.go:13", after := #[{ on := 6, ground := Ground.data }, { on := 4, ground := Ground.chain }, { on := 4, ground := Ground.guard }], guard := some (4, false) }) rfl ?_ AllReadyH.nil)
        intro K2 hK2
        go_simp
        go_wp2_with (go_at_call 87; refine (Smp.f87 q.b q.d q.s _ HZq.out.2 (GG.t2 hs2)).mono ?_; rw [h2]; rintro e w3 ⟨rfl, hb3⟩; have hs3 := GG.below hs2 hb3; clear hb3)
        refine hK2.out _ _ hs3 (fun _ => ?_)
        clear hK2 K2
        clear hs2
        refine tkH 8 (some 23) (.bool false) rfl ?_
        simp only [Act.put, zzA, zzB, zzC]
        refine tkH 9 (some 24) (.bool false) rfl ?_
        simp only [Act.put, zzA, zzB, zzC]
        refine tkH 10 (some 25) (.bool false) rfl ?_
        simp only [Act.put, zzA, zzB, zzC]
        refine tkH 11 (some 26) (.pointer (some ⟨wr.heap.size, 1, none⟩)) rfl ?_
        simp only [Act.put, zzA, zzB, zzC]
        refine tkH 12 (some 27) (.slice q.b q.s.length q.d) rfl ?_
        simp only [Act.put, zzA, zzB, zzC]
        refine tkH 13 (some 28) (.int .i64 (q.s.length : Int)) rfl ?_
        simp only [Act.put, zzA, zzB, zzC]
        refine tkH 14 (some 29) (.bool false) rfl ?_
        simp only [Act.put, zzA, zzB, zzC]
        refine tkH 15 (some 30) (.bool false) rfl ?_
        simp only [Act.put, zzA, zzB, zzC]
        refine tkH 16 (some 31) (.bool false) rfl ?_
        simp only [Act.put, zzA, zzB, zzC]
        refine tkH 17 (some 32) (.int .i64 ((j : Int) + 1)) rfl ?_
        simp only [Act.put, zzA, zzB, zzC]
        refine tkH 18 (some 33) (.bool true) rfl ?_
        simp only [Act.put, zzA, zzB, zzC]
        refine tkH 19 (some 34) (.bool true) rfl ?_
        simp only [Act.put, zzA, zzB, zzC]
        refine tkH 20 (some 35) (.slice (some ⟨b, off, none⟩) n c) rfl ?_
        simp only [Act.put, zzA, zzB, zzC]
        refine tkH 21 (some 36) (.int .i64 ((j : Int) + 1)) rfl ?_
        simp only [Act.put, zzA, zzB, zzC]
        refine tkH 22 (some 37) (.int .i64 (j : Int)) rfl ?_
        simp only [Act.put, zzA, zzB, zzC]
        refine tkH 23 (some 38) (.pointer (some ⟨b, off + j * 2, none⟩)) rfl ?_
        simp only [Act.put, zzA, zzB, zzC]
        refine tkH 24 (some 39) (.pointer (some ⟨b, off + j * 2, none⟩)) rfl ?_
        simp only [Act.put, zzA, zzB, zzC]
        refine tkH 25 (some 40) (.slice p.a p.l.length p.c) rfl ?_
        simp only [Act.put, zzA, zzB, zzC]
        refine tkH 26 (some 41) (.pointer (some ⟨wr.heap.size, 0, none⟩)) rfl ?_
        simp only [Act.put, zzA, zzB, zzC]
        refine tkH 27 (some 42) (.slice q.a q.l.length q.c) rfl ?_
        simp only [Act.put, zzA, zzB, zzC]
        refine wpAnyH_ready (rs := [28]) (by kernel_rfl) (by simp) (AllReadyH.cons (o := { dst := some 43, op := Op.call { callee := Callee.value (Operand.func 88), args := #[Operand.tmp 40, Operand.tmp 42], argTypes := #[77, 77] }, type := 3, pos := "l7_head.go:13", after := #[{ on := 25, ground := Ground.data }, { on := 27, ground := Ground.data }, { on := 19, ground := Ground.chain }, { on := 19, ground := Ground.guard }], guard := some (19, true) }) rfl ?_ AllReadyH.nil)
        intro K3 hK3
        go_simp
        go_wp2_with (go_at_call 88; refine (Lab.f88 p.a q.a p.l.length q.l.length p.c q.c p.l q.l _ rfl rfl HZp.out HZq.out.1 (GG.t3 hs3) (GG.t1 hs3) HFp.out).mono ?_; rintro e w4 ⟨rfl, nq, hw4⟩; have hs4 : GG w q p b (off + j * 2) wr.heap.size w4 := (by rw [hw4]; exact GG.drewN hs3 nq); clear hw4)
        refine hK3.out _ _ hs4 (fun _ => ?_)
        clear hK3 K3
        clear hs3
        refine tkH 29 (some 44) (.bool false) rfl ?_
        simp only [Act.put, zzA, zzB, zzC]
        refine tkH 30 (some 45) (.bool false) rfl ?_
        simp only [Act.put, zzA, zzB, zzC]
        refine tkH 31 (some 46) (.bool false) rfl ?_
        simp only [Act.put, zzA, zzB, zzC]
        refine wpAnyH_done (by kernel_rfl) ?_ _
        have HX2 := hid hs4.bel
        clear hs4
        go_wp2
        go_roundw
        case rel => exact ⟨j + 1 + 1, by omega, by go_num, HUs.out HYY.out, HX2.out⟩
        case measure => simp [intOf]; omega
end Go.Proofs.YtjhdmghpklagkaaGreat.Srs
