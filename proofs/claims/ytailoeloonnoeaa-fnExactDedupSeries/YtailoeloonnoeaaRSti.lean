/- The library's insertionSortCmpFunc at series: a block is sorted, stably. -/
import Derived.Test.YtailoeloonnoeaaRSte
namespace Go.Proofs.Ytailoeloonnoeaa.Stb
open Go.RowKit
variable {α : Type}
theorem sorted_put {lt : α → α → Bool} (O : Ord lt) {S1 S2 : List α} {v : α} (hs : Sorted lt (S1 ++ S2)) (h1 : S1 = [] ∨ ∃ S x, S1 = S ++ [x] ∧ lt v x = false) (h2 : ∀ x ∈ S2, lt v x = true) : Sorted lt (S1 ++ v :: S2) := by
  obtain ⟨p1, p2, p3⟩ := List.pairwise_append.1 hs
  have hl : ∀ x ∈ S1, lt v x = false := by
    rcases h1 with rfl | ⟨S, x, rfl, hx⟩
    · intro x hx; cases hx
    · intro z hz
      rcases List.mem_append.1 hz with hz | hz
      · exact O.ntrans _ _ _ hx ((List.pairwise_append.1 p1).2.2 z hz x (by simp))
      · rw [List.mem_singleton.1 hz]; exact hx
  refine List.pairwise_append.2 ⟨p1, List.pairwise_cons.2 ⟨fun b hb => O.asym _ _ (h2 b hb), p2⟩, fun x hx y hy => ?_⟩
  rcases List.mem_cons.1 hy with rfl | hy
  · exact hl x hx
  · exact p3 x hx y hy
theorem perm_put {S1 S2 R B : List α} {v : α} (h : ((S1 ++ S2) ++ v :: R).Perm B) : ((S1 ++ v :: S2) ++ R).Perm B := by
  refine List.Perm.trans ?_ h
  simp only [List.append_assoc, List.cons_append]
  exact List.Perm.append_left _ (List.perm_middle (a := v) (l₁ := S2) (l₂ := R)).symm
set_option maxHeartbeats 1000000 in
theorem fIns0 (g c n ia : Nat) (w : World) (hn : n ≤ 1048576) (hia : ia ≤ n) :
    Calls Try.prog 67 #[.slice (some ⟨g, 0, none⟩) n c, .int .i64 ia, .int .i64 ia, fvC] w fun e w' => e = .returned (.tuple #[]) ∧ w' = w := by
  have h1 : ¬ (ia : Int) + 1 < (ia : Int) := by omega
  go_enter Try.func67, Try.ntmps67
  go_wp2
  go_loopw [8] (fun si wr => si = .int .i64 ((ia : Int) + 1) ∧ Hid (wr = w)) (fun _ _ => 0)
  case atStart => exact ⟨rfl, rfl⟩
  case round =>
    obtain ⟨rfl, hw⟩ := hrel
    go_wp2
    go_end0
    exact ⟨rfl, hw.out⟩
set_option maxHeartbeats 8000000 in
set_option maxRecDepth 100000 in
theorem fIns (sl : α → (Option Addr × Nat × Nat) × (Option Addr × Nat × Nat)) (lt : α → α → Bool) (O : Ord lt) (base g c n ia ib : Nat) (D X B Z : List α) (w0 w : World) (hn : n ≤ 1048576) (hia : X.length = ia) (hib : ia + B.length = ib) (hB : 0 < B.length) (hD : ∀ x ∈ B, x ∈ D) (HC : CmpOk sl lt w0 g D) (hg : w0.grownBy w (some g)) (hr : Row (encS sl) base g c n (X ++ (B ++ Z)) w) :
    Calls Try.prog 67 #[.slice (some ⟨g, 0, none⟩) n c, .int .i64 ia, .int .i64 ib, fvC] w fun e w' => e = .returned (.tuple #[]) ∧ ∃ M, Sorted lt M ∧ M.Perm B ∧ isort lt (X ++ (M ++ Z)) = isort lt (X ++ (B ++ Z)) ∧ Row (encS sl) base g c n (X ++ (M ++ Z)) w' ∧ w0.grownBy w' (some g) := by
  have hl := row_len hr
  simp only [List.length_append] at hl
  have HR := hid hr
  have HG := hid hg
  have HDD := hid hD
  have q2 : ib ≤ 1048576 := by omega
  have q3 : ia ≤ 1048576 := by omega
  have q4 : ib ≤ n := by omega
  have HIA := hid hia
  have HIB := hid hib
  obtain ⟨b0, B0, hB0⟩ : ∃ b0 B0, B = b0 :: B0 := by
    cases B with
    | nil => simp at hB
    | cons b0 B0 => exact ⟨b0, B0, rfl⟩
  have HB0 := hid hB0
  clear hr hg hD hia hib hl hB0
  go_enter Try.func67, Try.ntmps67
  go_wp2
  go_loopw [8] (fun si wr => ∃ (S R : List α), si = .int .i64 ((ia + S.length : Nat) : Int) ∧ S.length ≤ B.length ∧ Hid (Sorted lt S) ∧ Hid ((S ++ R).Perm B) ∧ Hid (isort lt (X ++ ((S ++ R) ++ Z)) = isort lt (X ++ (B ++ Z))) ∧ Hid (Row (encS sl) base g c n (X ++ ((S ++ R) ++ Z)) wr) ∧ Hid (w0.grownBy wr (some g))) (fun si _ => ib - (intOf si).toNat)
  case atStart =>
    refine ⟨[b0], B0, by simp, by simp; omega, List.pairwise_singleton _ _, ?_, ?_, ?_, HG.out⟩
    · unfold Hid; rw [HB0.out]; exact List.Perm.refl _
    · unfold Hid; rw [HB0.out]; rfl
    · have h1 := HR.out
      rw [HB0.out] at h1
      exact h1
  case round =>
    obtain ⟨S, R, rfl, hSB, HSo, HPe, HIs, HRw, HGw⟩ := hrel
    have hlen : S.length + R.length = B.length := by have := HPe.out.length_eq; simpa using this
    clear HR HG
    cases R with
    | nil =>
      have HF : Hid (Sorted lt S ∧ S.Perm B ∧ isort lt (X ++ (S ++ Z)) = isort lt (X ++ (B ++ Z)) ∧ Row (encS sl) base g c n (X ++ (S ++ Z)) wr) := by
        have h1 := HPe.out
        have h2 := HIs.out
        have h3 := HRw.out
        rw [List.append_nil] at h1 h2 h3
        exact ⟨HSo.out, h1, h2, h3⟩
      have he : ((ia + S.length : Nat) : Int) = (ib : Int) := by have := HIB.out; simp at hlen; omega
      rw [he]
      clear he hlen
      go_wp2
      go_end0
      exact ⟨rfl, S, HF.out.1, HF.out.2.1, HF.out.2.2.1, HF.out.2.2.2, HGw.out⟩
    | cons v R =>
      obtain ⟨i, hi⟩ : ∃ i, i = ia + S.length := ⟨_, rfl⟩
      have hii : (i : Int) < (ib : Int) := by have := HIB.out; simp at hlen; omega
      have qi : i ≤ 1048576 := by omega
      rw [← hi]
      have HI := hid hi
      have HLN := hid hlen
      clear hi hlen
      go_wp2
      go_loopw [9] (fun sj wr => ∃ S1 S2 : List α, S = S1 ++ S2 ∧ sj = .int .i64 ((ia + S1.length : Nat) : Int) ∧ Hid ((∀ x ∈ S2, lt v x = true) ∧ isort lt (X ++ ((S1 ++ v :: (S2 ++ R)) ++ Z)) = isort lt (X ++ (B ++ Z))) ∧ Hid (Row (encS sl) base g c n (X ++ ((S1 ++ v :: (S2 ++ R)) ++ Z)) wr) ∧ Hid (w0.grownBy wr (some g))) (fun sj _ => (intOf sj).toNat)
      case atStart =>
        refine ⟨S, [], by simp, by rw [HI.out], ⟨(fun x hx => by cases hx), ?_⟩, ?_, HGw.out⟩
        · have h1 := HIs.out; simpa using h1
        · have h1 := HRw.out; unfold Hid; simpa using h1
      case round =>
        obtain ⟨S1, S2, hS12, rfl, HLT0, HRk, HGk⟩ := hrel
        have HEND : Hid ((S1 = [] ∨ ∃ S x, S1 = S ++ [x] ∧ lt v x = false) → Sorted lt (S1 ++ v :: S2) ∧ ((S1 ++ v :: S2) ++ R).Perm B ∧ isort lt (X ++ (((S1 ++ v :: S2) ++ R) ++ Z)) = isort lt (X ++ (B ++ Z))) := by
          intro h
          have h1 := HSo.out
          have h2 := HPe.out
          rw [hS12] at h1 h2
          refine ⟨sorted_put O h1 h HLT0.out.1, perm_put h2, ?_⟩
          have h3 := HLT0.out.2
          simpa using h3
        have hSl : S1.length + S2.length = S.length := by rw [hS12, List.length_append]
        rcases List.eq_nil_or_concat S1 with hS1 | ⟨S', x, hS1⟩
        · have HFE := hid (HEND.out (.inl hS1))
          subst hS1
          have HR3 : Hid (Row (encS sl) base g c n (X ++ ((([] ++ v :: S2) ++ R) ++ Z)) wr) := by
            have h1 := HRk.out; unfold Hid; simpa using h1
          have hz : ((ia + ([] : List α).length : Nat) : Int) = (ia : Int) := by simp
          have z0 : decide (ia < ia) = false := by simp
          rw [hz]
          clear hS12 HEND hz
          go_wp2_with fail
          go_quiet (fail)
          go_wp2
          go_roundw
          case rel => exact ⟨[] ++ v :: S2, R, by (have h1 := HI.out; simp only [List.nil_append, List.length_cons]; congr 1; simp at hSl; omega), by (have h1 := HLN.out; simp at h1 hSl ⊢; omega), HFE.out.1, HFE.out.2.1, HFE.out.2.2, HR3.out, ⟨HGk.out.os, HGk.out.tape, HGk.out.output, HGk.out.size, HGk.out.block⟩⟩
          case measure => (have h1 := HI.out; simp [intOf]; omega)
        · rw [List.concat_eq_append] at hS1
          subst hS1
          have HR3 : Hid (Row (encS sl) base g c n (X ++ ((((S' ++ [x]) ++ v :: S2) ++ R) ++ Z)) wr) := by
            have h1 := HRk.out; unfold Hid; simpa using h1
          have HEX : Hid (∀ W : World, Row (encS sl) base g c n (X ++ (((S' ++ [x]) ++ v :: (S2 ++ R)) ++ Z)) W → Exch (encS sl) base g c n w W (X ++ S').length ((X ++ S').length + 1 + ([] : List α).length) x v ((X ++ S') ++ v :: ([] ++ x :: (S2 ++ (R ++ Z))))) := by
            intro W h1
            refine exch ?_
            simpa using h1
          have e1 : (X ++ S').length = ia + S'.length := by rw [List.length_append, HIA.out]
          obtain ⟨k, hk⟩ : ∃ k, k = ia + S'.length := ⟨_, rfl⟩
          obtain ⟨j, hj⟩ : ∃ j, j = k + 1 := ⟨_, rfl⟩
          rw [e1, ← hk, show k + 1 + ([] : List α).length = j by simp [hj]] at HEX
          have HE3 : Hid ((X ++ S') ++ v :: ([] ++ x :: (S2 ++ (R ++ Z))) = X ++ ((S' ++ v :: ((x :: S2) ++ R)) ++ Z)) := by unfold Hid; simp
          rw [HE3.out] at HEX
          have hsk : ((ia + (S' ++ [x]).length : Nat) : Int) = (j : Int) := by rw [List.length_append, List.length_singleton]; omega
          have hjn : j < n := by (have h1 := HLN.out; have h2 := HIB.out; simp at h1 hSl; omega)
          have HMx : Hid (x ∈ D) := HDD.out x (HPe.out.mem_iff.1 (by rw [hS12]; simp))
          have HMv : Hid (v ∈ D) := HDD.out v (HPe.out.mem_iff.1 (by simp))
          have HX0 := hid (HEX.out wr.drew (row_drew HRk.out))
          have HSM : Hid (SM sl wr.drew g j k v x wr.drew) := ⟨HX0.out.b0, HX0.out.b1, HX0.out.a0, HX0.out.a1, Below.refl _ _⟩
          have HCC := hid (HC.cmp wr.drew v x HMv.out HMx.out (gr_drew HGk.out))
          have HGl : Hid (g < wr.drew.heap.size) := (HRk.out.lt g rfl).2
          have hw1 : IntKind.i64.wrap ((j : Int) - 1) = (k : Int) := by rw [IntKind.wrap_i64]; omega
          have hw2 : IntKind.i64.wrap (k : Int) = (k : Int) := by rw [IntKind.wrap_i64]; omega
          have hk9 : (j : Int) - 1 = (k : Int) := by omega
          have i1 : (k : Int) < (n : Int) := by omega
          have j1 : (j : Int) < (n : Int) := by omega
          have i0 : (0 : Int) ≤ (k : Int) := by omega
          have j0 : (0 : Int) ≤ (j : Int) := by omega
          have z0 : decide (ia < j) = true := decide_eq_true (by omega)
          have z1 : (ia : Int) < (j : Int) := by omega
          have qj : j ≤ 1048576 := by omega
          have hij2 : k < j := by omega
          have HKJ := hid (And.intro hk hj)
          have HSS := hid hSl
          have HS12 := hid hS12
          rw [hsk]
          clear hS12 hk hj e1 hsk hSl
          go_upto_region 4 with fail
          go_cut [34] from 18 to 52 (fun cc wx => cc = .bool (lt v x) ∧ Hid (Below wr.heap.size wr wx))
          case first =>
            go_region_held3 (fun y => SM sl wr.drew g j k v x y) (first | exact HSM.out | assumption) (first | (go_at_call 24; refine HCC.out.mono ?_; rintro e w2 ⟨z, rfl, hz, hb2⟩; have hs2 : SM sl wr.drew g j k v x w2 := ⟨(hb2.cell (p := ⟨g, j * 2, none⟩) HGl.out).trans HSM.out.1, (hb2.cell (p := ⟨g, j * 2 + 1, none⟩) HGl.out).trans HSM.out.2.1, (hb2.cell (p := ⟨g, k * 2, none⟩) HGl.out).trans HSM.out.2.2.1, (hb2.cell (p := ⟨g, k * 2 + 1, none⟩) HGl.out).trans HSM.out.2.2.2.1, hb2⟩))
            go_wp2
            go_meet
            exact ⟨by rw [← hz], ((Below.refl _ wr).drew).trans hb2⟩
          case rest =>
          obtain ⟨rfl, HBx⟩ := hcut
          obtain ⟨wz, hwz⟩ : ∃ wz, wz = wc := ⟨_, rfl⟩
          have HRz := hid (row_below HRk.out HBx.out)
          have HGz := hid (gr_below HGk.out HBx.out)
          cases hc : lt v x with
          | false =>
            have HFE := hid (HEND.out (.inr ⟨S', x, rfl, hc⟩))
            have HR4 := hid (row_below HR3.out HBx.out)
            clear hwz
            go_wp2
            go_roundw
            case rel => exact ⟨(S' ++ [x]) ++ v :: S2, R, by (have h1 := HI.out; have h2 := HSS.out; simp only [List.length_append, List.length_cons, List.length_nil] at h2 ⊢; congr 1; omega), by (have h1 := HLN.out; have h2 := HSS.out; simp at h1 h2 ⊢; omega), HFE.out.1, HFE.out.2.1, HFE.out.2.2, HR4.out, HGz.out⟩
            case measure => (have h1 := HI.out; have h2 := HSS.out; simp at h2; simp [intOf]; omega)
          | true =>
            have HLT : Hid ((∀ y ∈ x :: S2, lt v y = true) ∧ isort lt (X ++ ((S' ++ v :: ((x :: S2) ++ R)) ++ Z)) = isort lt (X ++ (B ++ Z))) := by
              refine ⟨fun y hy => ?_, ?_⟩
              · rcases List.mem_cons.1 hy with rfl | hy
                · exact hc
                · exact HLT0.out.1 y hy
              · have h1 := isort_two O hc (X ++ S') (S2 ++ (R ++ Z))
                have h2 := HLT0.out.2
                simp only [List.append_assoc, List.cons_append, List.nil_append] at h1 h2 ⊢
                rw [h1]; exact h2
            have HX1 := hid (HEX.out wc.drew (row_drew HRz.out))
            have HG2 := hid (gr_set (gr_set (gr_set (gr_set (gr_drew HGz.out) (j * 2) (encS sl x).1) (j * 2 + 1) (encS sl x).2) (k * 2) (encS sl v).1) (k * 2 + 1) (encS sl v).2)
            have HN2 := hid HX1.out.hi
            have a0 := HX1.out.a0
            have a1 := HX1.out.a1
            have b0' := HX1.out.b0
            have b1 := HX1.out.b1
            have f1 := HX1.out.fz (k * 2)
            have f2 := HX1.out.fz (k * 2 + 1)
            have f3 := HX1.out.fz (j * 2)
            have f4 := HX1.out.fz (j * 2 + 1)
            simp only at a0 a1 b0' b1
            clear hwz
            go_wp2_with fail
            refine wp_region_held_drew (S := fun _ => True) rfl trivial (fun _ => ?_)
            generalize wc.drew = wd at *
            refine wpAnyH_take (i := 0) (oi := { dst := some 37, op := _, type := _, pos := _, after := _, guard := _ }) (v := .slice (some ⟨g, 0, none⟩) n c) rfl (by kernel_rfl) (by kernel_rfl) (by kernel_rfl) (fun _ _ _ h => h) (Or.inl ⟨by rfl, fun w hSw => by go_simp⟩) (by trivial) ?_
            try simp only [Act.put, List.setIfInBounds_toArray, List.set_cons_zero, List.set_cons_succ]
            refine wpAnyH_take (i := 1) (oi := { dst := some 38, op := _, type := _, pos := _, after := _, guard := _ }) (v := .int .i64 (j : Int)) rfl (by kernel_rfl) (by kernel_rfl) (by kernel_rfl) (fun _ _ _ h => h) (Or.inl ⟨by rfl, fun w hSw => by go_simp⟩) (by trivial) ?_
            try simp only [Act.put, List.setIfInBounds_toArray, List.set_cons_zero, List.set_cons_succ]
            refine wpAnyH_take (i := 2) (oi := { dst := some 39, op := _, type := _, pos := _, after := _, guard := _ }) (v := .slice (some ⟨g, 0, none⟩) n c) rfl (by kernel_rfl) (by kernel_rfl) (by kernel_rfl) (fun _ _ _ h => h) (Or.inl ⟨by rfl, fun w hSw => by go_simp⟩) (by trivial) ?_
            try simp only [Act.put, List.setIfInBounds_toArray, List.set_cons_zero, List.set_cons_succ]
            refine wpAnyH_take (i := 3) (oi := { dst := some 40, op := _, type := _, pos := _, after := _, guard := _ }) (v := .int .i64 (j : Int)) rfl (by kernel_rfl) (by kernel_rfl) (by kernel_rfl) (fun _ _ _ h => h) (Or.inl ⟨by rfl, fun w hSw => by go_simp⟩) (by trivial) ?_
            try simp only [Act.put, List.setIfInBounds_toArray, List.set_cons_zero, List.set_cons_succ]
            refine wpAnyH_take (i := 4) (oi := { dst := some 41, op := _, type := _, pos := _, after := _, guard := _ }) (v := .int .i64 (k : Int)) rfl (by kernel_rfl) (by kernel_rfl) (by kernel_rfl) (fun _ _ _ h => h) (Or.inl ⟨by rfl, fun w hSw => by go_simp⟩) (by trivial) ?_
            try simp only [Act.put, List.setIfInBounds_toArray, List.set_cons_zero, List.set_cons_succ]
            refine wpAnyH_take (i := 5) (oi := { dst := some 42, op := _, type := _, pos := _, after := _, guard := _ }) (v := .slice (some ⟨g, 0, none⟩) n c) rfl (by kernel_rfl) (by kernel_rfl) (by kernel_rfl) (fun _ _ _ h => h) (Or.inl ⟨by rfl, fun w hSw => by go_simp⟩) (by trivial) ?_
            try simp only [Act.put, List.setIfInBounds_toArray, List.set_cons_zero, List.set_cons_succ]
            refine wpAnyH_take (i := 6) (oi := { dst := some 43, op := _, type := _, pos := _, after := _, guard := _ }) (v := .int .i64 (j : Int)) rfl (by kernel_rfl) (by kernel_rfl) (by kernel_rfl) (fun _ _ _ h => h) (Or.inl ⟨by rfl, fun w hSw => by go_simp⟩) (by trivial) ?_
            try simp only [Act.put, List.setIfInBounds_toArray, List.set_cons_zero, List.set_cons_succ]
            refine wpAnyH_take (i := 7) (oi := { dst := some 44, op := _, type := _, pos := _, after := _, guard := _ }) (v := .int .i64 (k : Int)) rfl (by kernel_rfl) (by kernel_rfl) (by kernel_rfl) (fun _ _ _ h => h) (Or.inl ⟨by rfl, fun w hSw => by go_simp⟩) (by trivial) ?_
            try simp only [Act.put, List.setIfInBounds_toArray, List.set_cons_zero, List.set_cons_succ]
            refine wpAnyH_take (i := 8) (oi := { dst := some 45, op := _, type := _, pos := _, after := _, guard := _ }) (v := .pointer (some ⟨g, k * 2, none⟩)) rfl (by kernel_rfl) (by kernel_rfl) (by kernel_rfl) (fun _ _ _ h => h) (Or.inl ⟨by rfl, fun w hSw => by go_simp⟩) (by trivial) ?_
            try simp only [Act.put, List.setIfInBounds_toArray, List.set_cons_zero, List.set_cons_succ]
            refine wpAnyH_take (i := 10) (oi := { dst := some 47, op := _, type := _, pos := _, after := _, guard := _ }) (v := .slice (some ⟨g, 0, none⟩) n c) rfl (by kernel_rfl) (by kernel_rfl) (by kernel_rfl) (fun _ _ _ h => h) (Or.inl ⟨by rfl, fun w hSw => by go_simp⟩) (by trivial) ?_
            try simp only [Act.put, List.setIfInBounds_toArray, List.set_cons_zero, List.set_cons_succ]
            refine wpAnyH_take (i := 11) (oi := { dst := some 48, op := _, type := _, pos := _, after := _, guard := _ }) (v := .int .i64 (j : Int)) rfl (by kernel_rfl) (by kernel_rfl) (by kernel_rfl) (fun _ _ _ h => h) (Or.inl ⟨by rfl, fun w hSw => by go_simp⟩) (by trivial) ?_
            try simp only [Act.put, List.setIfInBounds_toArray, List.set_cons_zero, List.set_cons_succ]
            refine wpAnyH_take (i := 12) (oi := { dst := some 49, op := _, type := _, pos := _, after := _, guard := _ }) (v := .pointer (some ⟨g, j * 2, none⟩)) rfl (by kernel_rfl) (by kernel_rfl) (by kernel_rfl) (fun _ _ _ h => h) (Or.inl ⟨by rfl, fun w hSw => by go_simp⟩) (by trivial) ?_
            try simp only [Act.put, List.setIfInBounds_toArray, List.set_cons_zero, List.set_cons_succ]
            refine wpAnyH_ready (rs := [9, 13]) (by kernel_rfl) (by simp) (AllReadyH.cons (o := { dst := some 46, op := _, type := _, pos := _, after := _, guard := _ }) rfl ?_ (AllReadyH.cons (o := { dst := some 50, op := _, type := _, pos := _, after := _, guard := _ }) rfl ?_ AllReadyH.nil))
            · intro K1 hK1
              go_simp
              refine hK1.out _ _ trivial (fun _ => ?_)
              clear hK1 K1
              try simp only [Act.put, List.setIfInBounds_toArray, List.set_cons_zero, List.set_cons_succ]
              refine wpAnyH_ready (rs := [13]) (by kernel_rfl) (by simp) (AllReadyH.cons (o := { dst := some 50, op := _, type := _, pos := _, after := _, guard := _ }) rfl ?_ AllReadyH.nil)
              intro K2 hK2
              go_simp
              refine hK2.out _ _ trivial (fun _ => ?_)
              clear hK2 K2
              try simp only [Act.put, List.setIfInBounds_toArray, List.set_cons_zero, List.set_cons_succ]
              refine wpAnyH_take (i := 14) (oi := { dst := some 51, op := _, type := _, pos := _, after := _, guard := _ }) (v := .pointer (some ⟨g, j * 2, none⟩)) rfl (by kernel_rfl) (by kernel_rfl) (by kernel_rfl) (fun _ _ _ h => h) (Or.inl ⟨by rfl, fun w hSw => by go_simp⟩) (by trivial) ?_
              try simp only [Act.put, List.setIfInBounds_toArray, List.set_cons_zero, List.set_cons_succ]
              refine wpAnyH_ready (rs := [15]) (by kernel_rfl) (by simp) (AllReadyH.cons (o := { dst := none, op := _, type := _, pos := _, after := _, guard := _ }) rfl ?_ AllReadyH.nil)
              intro K3 hK3
              go_simp
              refine hK3.out _ _ trivial (fun _ => ?_)
              clear hK3 K3
              try simp only [Act.put, List.setIfInBounds_toArray, List.set_cons_zero, List.set_cons_succ]
              refine wpAnyH_take (i := 16) (oi := { dst := some 52, op := _, type := _, pos := _, after := _, guard := _ }) (v := .pointer (some ⟨g, k * 2, none⟩)) rfl (by kernel_rfl) (by kernel_rfl) (by kernel_rfl) (fun _ _ _ h => h) (Or.inl ⟨by rfl, fun w hSw => by go_simp⟩) (by trivial) ?_
              try simp only [Act.put, List.setIfInBounds_toArray, List.set_cons_zero, List.set_cons_succ]
              refine wpAnyH_ready (rs := [17]) (by kernel_rfl) (by simp) (AllReadyH.cons (o := { dst := none, op := _, type := _, pos := _, after := _, guard := _ }) rfl ?_ AllReadyH.nil)
              intro K4 hK4
              go_simp
              refine hK4.out _ _ trivial (fun _ => ?_)
              clear hK4 K4
              try simp only [Act.put, List.setIfInBounds_toArray, List.set_cons_zero, List.set_cons_succ]
              refine wpAnyH_done (by kernel_rfl) ?_ _
              go_wp2
              go_roundw
              case rel => exact ⟨S', x :: S2, by rw [HS12.out]; simp, by (have hkj := HKJ.out; congr 1; omega), HLT.out, HN2.out, HG2.out⟩
              case measure => simp [intOf]; omega
            · intro K5 hK5
              go_simp
              refine hK5.out _ _ trivial (fun _ => ?_)
              clear hK5 K5
              try simp only [Act.put, List.setIfInBounds_toArray, List.set_cons_zero, List.set_cons_succ]
              refine wpAnyH_ready (rs := [9]) (by kernel_rfl) (by simp) (AllReadyH.cons (o := { dst := some 46, op := _, type := _, pos := _, after := _, guard := _ }) rfl ?_ AllReadyH.nil)
              intro K6 hK6
              go_simp
              refine hK6.out _ _ trivial (fun _ => ?_)
              clear hK6 K6
              try simp only [Act.put, List.setIfInBounds_toArray, List.set_cons_zero, List.set_cons_succ]
              refine wpAnyH_take (i := 14) (oi := { dst := some 51, op := _, type := _, pos := _, after := _, guard := _ }) (v := .pointer (some ⟨g, j * 2, none⟩)) rfl (by kernel_rfl) (by kernel_rfl) (by kernel_rfl) (fun _ _ _ h => h) (Or.inl ⟨by rfl, fun w hSw => by go_simp⟩) (by trivial) ?_
              try simp only [Act.put, List.setIfInBounds_toArray, List.set_cons_zero, List.set_cons_succ]
              refine wpAnyH_ready (rs := [15]) (by kernel_rfl) (by simp) (AllReadyH.cons (o := { dst := none, op := _, type := _, pos := _, after := _, guard := _ }) rfl ?_ AllReadyH.nil)
              intro K7 hK7
              go_simp
              refine hK7.out _ _ trivial (fun _ => ?_)
              clear hK7 K7
              try simp only [Act.put, List.setIfInBounds_toArray, List.set_cons_zero, List.set_cons_succ]
              refine wpAnyH_take (i := 16) (oi := { dst := some 52, op := _, type := _, pos := _, after := _, guard := _ }) (v := .pointer (some ⟨g, k * 2, none⟩)) rfl (by kernel_rfl) (by kernel_rfl) (by kernel_rfl) (fun _ _ _ h => h) (Or.inl ⟨by rfl, fun w hSw => by go_simp⟩) (by trivial) ?_
              try simp only [Act.put, List.setIfInBounds_toArray, List.set_cons_zero, List.set_cons_succ]
              refine wpAnyH_ready (rs := [17]) (by kernel_rfl) (by simp) (AllReadyH.cons (o := { dst := none, op := _, type := _, pos := _, after := _, guard := _ }) rfl ?_ AllReadyH.nil)
              intro K8 hK8
              go_simp
              refine hK8.out _ _ trivial (fun _ => ?_)
              clear hK8 K8
              try simp only [Act.put, List.setIfInBounds_toArray, List.set_cons_zero, List.set_cons_succ]
              refine wpAnyH_done (by kernel_rfl) ?_ _
              go_wp2
              go_roundw
              case rel => exact ⟨S', x :: S2, by rw [HS12.out]; simp, by (have hkj := HKJ.out; congr 1; omega), HLT.out, HN2.out, HG2.out⟩
              case measure => simp [intOf]; omega
end Go.Proofs.Ytailoeloonnoeaa.Stb
