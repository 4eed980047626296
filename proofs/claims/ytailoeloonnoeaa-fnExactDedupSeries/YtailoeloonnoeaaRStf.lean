/- The library's symMergeCmpFunc at series, where the second block has one member. -/
import Derived.Test.YtailoeloonnoeaaRSte
namespace Go.Proofs.Ytailoeloonnoeaa.Stb
open Go.RowKit
variable {α : Type}
set_option maxHeartbeats 8000000 in
set_option maxRecDepth 100000 in
theorem fSym2 (sl : α → (Option Addr × Nat × Nat) × (Option Addr × Nat × Nat)) (lt : α → α → Bool) (O : Ord lt) (base g c n ia im ib : Nat) (D X U Z : List α) (v : α) (w0 w : World) (hn : n ≤ 1048576) (hia : X.length = ia) (him : ia + U.length = im) (hib : im + 1 = ib) (hU2 : 2 ≤ U.length) (hs : Sorted lt U) (hD : ∀ x ∈ U ++ [v], x ∈ D) (HC : CmpOk sl lt w0 g D) (hg : w0.grownBy w (some g)) (hr : Row (encS sl) base g c n (X ++ (U ++ ([v] ++ Z))) w) :
    Calls Try.prog 68 #[.slice (some ⟨g, 0, none⟩) n c, .int .i64 ia, .int .i64 im, .int .i64 ib, fvC] w fun e w' => e = .returned (.tuple #[]) ∧ ∃ M, Sorted lt M ∧ M.Perm (U ++ [v]) ∧ isort lt (X ++ (M ++ Z)) = isort lt (X ++ (U ++ ([v] ++ Z))) ∧ Row (encS sl) base g c n (X ++ (M ++ Z)) w' ∧ w0.grownBy w' (some g) := by
  have hl := row_len hr
  simp only [List.length_append, List.length_singleton] at hl
  have HR := hid hr
  have HG := hid hg
  have HS := hid hs
  have HDD := hid hD
  have HLD : Hid ((X ++ (U ++ ([v] ++ Z))).length = n) := row_len hr
  have HGU : Hid ((X ++ (U ++ ([v] ++ Z))).getD im v = v) := by
    unfold Hid
    rw [← him, ← hia]
    simp [List.getD_eq_getElem?_getD]
  have HGV : Hid (∀ p, p < U.length → (X ++ (U ++ ([v] ++ Z))).getD (ia + p) v = U.getD p v) := by
    intro p hp
    rw [← hia]
    simp [List.getD_eq_getElem?_getD, List.getElem?_append_right, List.getElem?_append_left hp]
  have q1 : im ≤ 1048576 := by omega
  have q2 : ib ≤ 1048576 := by omega
  have q3 : ia ≤ 1048576 := by omega
  have q4 : ib ≤ n := by omega
  have w1 : (im : Int) - (ia : Int) = (U.length : Int) := by omega
  have w2 : ((U.length : Int) == 1) = false := beq_eq_false_iff_ne.2 (by omega)
  have w3 : (ib : Int) - (im : Int) = 1 := by omega
  have HIA := hid hia
  have HIM := hid him
  have HIB := hid hib
  clear hr hg hs hD hia him hib hl
  go_enter Try.func68, Try.ntmps68
  go_wp2
  clear w1 w2 w3
  go_loopw [14, 15] (fun si sj wr => ∃ (p q : Nat), p ≤ q ∧ q ≤ U.length ∧ si = .int .i64 ((ia + p : Nat) : Int) ∧ sj = .int .i64 ((ia + q : Nat) : Int) ∧ Hid (p = 0 ∨ lt v (U.getD (p - 1) v) = false) ∧ Hid (q = U.length ∨ lt v (U.getD q v) = true) ∧ Hid (Row (encS sl) base g c n (X ++ (U ++ ([v] ++ Z))) wr) ∧ Hid (w0.grownBy wr (some g))) (fun si sj _ => (intOf sj).toNat - (intOf si).toNat)
  case atStart => exact ⟨0, U.length, Nat.zero_le _, Nat.le_refl _, by simp, by rw [HIM.out], .inl rfl, .inl rfl, HR.out, HG.out⟩
  case round =>
    obtain ⟨p, q, hpq, hqV, rfl, rfl, HP, HQ, HRw, HGw⟩ := hrel
    clear HR HG
    obtain ⟨lo, hlo⟩ : ∃ lo, lo = ia + p := ⟨_, rfl⟩
    obtain ⟨hi, hhi⟩ : ∃ hi, hi = ia + q := ⟨_, rfl⟩
    rw [← hlo, ← hhi]
    have ql : lo ≤ 1048576 := by have := HIM.out; omega
    have qh : hi ≤ 1048576 := by have := HIM.out; omega
    by_cases hlt : p < q
    · have hlt' : (lo : Int) < (hi : Int) := by omega
      obtain ⟨h, hh⟩ : ∃ h, h = (lo + hi) / 2 := ⟨_, rfl⟩
      have hh3 : ((lo : Int) + (hi : Int)) / 2 = (h : Int) := by omega
      have HHI := hid hh3
      obtain ⟨r, hr⟩ : ∃ r, r = h - ia := ⟨_, rfl⟩
      have hr1 : h = ia + r := by omega
      have hr2 : p ≤ r := by omega
      have hr3 : r < q := by omega
      have hhn : h < n := by have := HIM.out; have := HIB.out; omega
      have han : im < n := by have := HIB.out; omega
      have HSM : Hid (SM sl wr.drew g im h v (U.getD r v) wr.drew) := by
        have h1 := SM.of (i := im) (j := h) v (row_drew HRw.out) (by rw [HLD.out]; exact han) (by rw [HLD.out]; exact hhn) (Below.refl _ wr.drew)
        rw [HGU.out, hr1, HGV.out r (by omega), ← hr1] at h1
        exact h1
      have HCC := hid (HC.cmp wr.drew v (U.getD r v) (HDD.out _ (by simp)) (HDD.out _ (List.mem_append_left _ (get_mem v (by omega)))) (gr_drew HGw.out))
      have HGl : Hid (g < wr.drew.heap.size) := (HRw.out.lt g rfl).2
      have i1 : (h : Int) < (n : Int) := by omega
      have i2 : (im : Int) < (n : Int) := by omega
      have i3 : (0 : Int) ≤ (h : Int) := by omega
      have i4 : (0 : Int) ≤ (im : Int) := by omega
      have HH := hid (And.intro hlo (And.intro hhi hr1))
      have hmm : lo ≤ h ∧ h < hi := by omega
      clear hh hh3 hr hlo hhi hr1
      go_upto_region 17 with fail
      rw [HHI.out]
      go_cut [103] from 83 to 106 (fun cc wx => cc = .bool (!lt v (U.getD r v)) ∧ Hid (Row (encS sl) base g c n (X ++ (U ++ ([v] ++ Z))) wx) ∧ Hid (w0.grownBy wx (some g)))
      case first =>
        generalize U.getD r v = y at *
        go_region_held3 (fun x => SM sl wr.drew g im h v y x) (first | exact HSM.out | assumption) (first | (go_at_call 24; refine HCC.out.mono ?_; rintro e w2 ⟨z, rfl, hz, hb2⟩; have hs2 : SM sl wr.drew g im h v y w2 := ⟨(hb2.cell (p := ⟨g, im * 2, none⟩) HGl.out).trans HSM.out.1, (hb2.cell (p := ⟨g, im * 2 + 1, none⟩) HGl.out).trans HSM.out.2.1, (hb2.cell (p := ⟨g, h * 2, none⟩) HGl.out).trans HSM.out.2.2.1, (hb2.cell (p := ⟨g, h * 2 + 1, none⟩) HGl.out).trans HSM.out.2.2.2.1, hb2⟩))
        go_wp2
        go_meet
        exact ⟨by rw [← hz], row_below (row_drew HRw.out) hb2, gr_below (gr_drew HGw.out) hb2⟩
      case rest =>
      obtain ⟨rfl, HR2, HG2⟩ := hcut
      cases hc : lt v (U.getD r v) with
      | false =>
        go_wp2
        go_roundw
        case rel => exact ⟨r + 1, q, by omega, hqV, by have := HH.out; first | (congr 1; omega) | go_num, by rw [← HH.out.2.1], .inr hc, HQ.out, HR2.out, HG2.out⟩
        case measure => simp [intOf]; omega
      | true =>
        go_wp2
        go_roundw
        case rel => exact ⟨p, r, hr2, by omega, by rw [← HH.out.1], by rw [← HH.out.2.2], HP.out, .inr hc, HR2.out, HG2.out⟩
        case measure => simp [intOf]; omega
    · obtain rfl : p = q := by omega
      have hlt' : ¬ (lo : Int) < (hi : Int) := by omega
      have HF := hid (one_right (X := X) (Z := Z) O HS.out hqV HP.out HQ.out)
      have HLO := hid hlo
      clear HP HQ hhi hlo
      go_wp2
      go_loopw [17] (fun sk wr => ∃ U1 U2 : List α, U = U1 ++ U2 ∧ p ≤ U1.length ∧ sk = .int .i64 ((ia + U1.length : Nat) : Int) ∧ Hid (Row (encS sl) base g c n (X ++ (U1 ++ v :: (U2 ++ Z))) wr) ∧ Hid (w0.grownBy wr (some g))) (fun sk _ => (intOf sk).toNat)
      case atStart =>
        refine ⟨U, [], by simp, hqV, by rw [HIM.out], ?_, HGw.out⟩
        have h1 := HRw.out
        unfold Hid; simpa using h1
      case round =>
        obtain ⟨U1, U2, hU12, hU1p, rfl, HRk, HGk⟩ := hrel
        have hlo := HLO.out
        by_cases hpl : p < U1.length
        · obtain ⟨U1', x, rfl⟩ : ∃ U' x, U1 = U' ++ [x] := by
            rcases List.eq_nil_or_concat U1 with h | ⟨U', x, h⟩
            · rw [h] at hpl; simp at hpl
            · exact ⟨U', x, by rw [h, List.concat_eq_append]⟩
          obtain ⟨U1, hU1⟩ : ∃ U1, U1 = U1' := ⟨_, rfl⟩
          subst hU1
          have HU12 := hid hU12
          have HEX : Hid (Exch (encS sl) base g c n w wr.drew (X ++ U1).length ((X ++ U1).length + 1 + ([] : List α).length) x v ((X ++ U1) ++ v :: ([] ++ x :: (U2 ++ Z)))) := by
            refine exch ?_
            have h1 := row_drew HRk.out
            simpa using h1
          have e1 : (X ++ U1).length = ia + U1.length := by rw [List.length_append, HIA.out]
          obtain ⟨k, hk⟩ : ∃ k, k = ia + U1.length := ⟨_, rfl⟩
          obtain ⟨j, hj⟩ : ∃ j, j = k + 1 := ⟨_, rfl⟩
          rw [e1, ← hk, show k + 1 + ([] : List α).length = j by simp [hj]] at HEX
          have HE3 : Hid ((X ++ U1) ++ v :: ([] ++ x :: (U2 ++ Z)) = X ++ (U1 ++ v :: (x :: U2 ++ Z))) := by unfold Hid; simp
          rw [HE3.out] at HEX
          have hul : U1.length + 1 + U2.length = U.length := by rw [hU12]; simp; omega
          have hjn : j < n := by have := HIB.out; have := HIM.out; omega
          have hpl2 : p ≤ U1.length := by simp at hpl; omega
          have hkp : (lo : Int) < (j : Int) := by omega
          have hkp2 : lo < j := by omega
          have hk9 : (j : Int) - 1 = (k : Int) := by omega
          have hw1 : IntKind.i64.wrap ((j : Int) - 1) = (k : Int) := by rw [IntKind.wrap_i64]; omega
          have hw2 : IntKind.i64.wrap (k : Int) = (k : Int) := by rw [IntKind.wrap_i64]; omega
          have i1 : (k : Int) < (n : Int) := by omega
          have j1 : (j : Int) < (n : Int) := by omega
          have i0 : (0 : Int) ≤ (k : Int) := by omega
          have j0 : (0 : Int) ≤ (j : Int) := by omega
          have HG2 := hid (gr_set (gr_set (gr_set (gr_set (gr_drew HGk.out) (j * 2) (encS sl x).1) (j * 2 + 1) (encS sl x).2) (k * 2) (encS sl v).1) (k * 2 + 1) (encS sl v).2)
          have HN2 := hid HEX.out.hi
          have a0 := HEX.out.a0
          have a1 := HEX.out.a1
          have b0 := HEX.out.b0
          have b1 := HEX.out.b1
          have f1 := HEX.out.fz (k * 2)
          have f2 := HEX.out.fz (k * 2 + 1)
          have f3 := HEX.out.fz (j * 2)
          have f4 := HEX.out.fz (j * 2 + 1)
          have qk : j ≤ 1048576 := by omega
          have hij2 : k < j := by omega
          have HKJ := hid (And.intro hk hj)
          have hsk : ((ia + (U1 ++ [x]).length : Nat) : Int) = (j : Int) := by rw [List.length_append, List.length_singleton]; omega
          simp only at a0 a1 b0 b1
          rw [hsk]
          clear hU12 hk hj e1 hlo hsk hul
          go_wp2_with fail
          refine wp_region_held_drew (S := fun _ => True) rfl trivial (fun _ => ?_)
          generalize wr.drew = wd at *
          refine wpAnyH_take (i := 0) (oi := { dst := some 113, op := _, type := _, pos := _, after := _, guard := _ }) (v := .slice (some ⟨g, 0, none⟩) n c) rfl (by kernel_rfl) (by kernel_rfl) (by kernel_rfl) (fun _ _ _ h => h) (Or.inl ⟨by rfl, fun w hSw => by go_simp⟩) (by trivial) ?_
          try simp only [Act.put, List.setIfInBounds_toArray, List.set_cons_zero, List.set_cons_succ]
          refine wpAnyH_take (i := 1) (oi := { dst := some 114, op := _, type := _, pos := _, after := _, guard := _ }) (v := .int .i64 (j : Int)) rfl (by kernel_rfl) (by kernel_rfl) (by kernel_rfl) (fun _ _ _ h => h) (Or.inl ⟨by rfl, fun w hSw => by go_simp⟩) (by trivial) ?_
          try simp only [Act.put, List.setIfInBounds_toArray, List.set_cons_zero, List.set_cons_succ]
          refine wpAnyH_take (i := 2) (oi := { dst := some 115, op := _, type := _, pos := _, after := _, guard := _ }) (v := .slice (some ⟨g, 0, none⟩) n c) rfl (by kernel_rfl) (by kernel_rfl) (by kernel_rfl) (fun _ _ _ h => h) (Or.inl ⟨by rfl, fun w hSw => by go_simp⟩) (by trivial) ?_
          try simp only [Act.put, List.setIfInBounds_toArray, List.set_cons_zero, List.set_cons_succ]
          refine wpAnyH_take (i := 3) (oi := { dst := some 116, op := _, type := _, pos := _, after := _, guard := _ }) (v := .int .i64 (j : Int)) rfl (by kernel_rfl) (by kernel_rfl) (by kernel_rfl) (fun _ _ _ h => h) (Or.inl ⟨by rfl, fun w hSw => by go_simp⟩) (by trivial) ?_
          try simp only [Act.put, List.setIfInBounds_toArray, List.set_cons_zero, List.set_cons_succ]
          refine wpAnyH_take (i := 4) (oi := { dst := some 117, op := _, type := _, pos := _, after := _, guard := _ }) (v := .int .i64 (k : Int)) rfl (by kernel_rfl) (by kernel_rfl) (by kernel_rfl) (fun _ _ _ h => h) (Or.inl ⟨by rfl, fun w hSw => by go_simp⟩) (by trivial) ?_
          try simp only [Act.put, List.setIfInBounds_toArray, List.set_cons_zero, List.set_cons_succ]
          refine wpAnyH_take (i := 5) (oi := { dst := some 118, op := _, type := _, pos := _, after := _, guard := _ }) (v := .slice (some ⟨g, 0, none⟩) n c) rfl (by kernel_rfl) (by kernel_rfl) (by kernel_rfl) (fun _ _ _ h => h) (Or.inl ⟨by rfl, fun w hSw => by go_simp⟩) (by trivial) ?_
          try simp only [Act.put, List.setIfInBounds_toArray, List.set_cons_zero, List.set_cons_succ]
          refine wpAnyH_take (i := 6) (oi := { dst := some 119, op := _, type := _, pos := _, after := _, guard := _ }) (v := .int .i64 (j : Int)) rfl (by kernel_rfl) (by kernel_rfl) (by kernel_rfl) (fun _ _ _ h => h) (Or.inl ⟨by rfl, fun w hSw => by go_simp⟩) (by trivial) ?_
          try simp only [Act.put, List.setIfInBounds_toArray, List.set_cons_zero, List.set_cons_succ]
          refine wpAnyH_take (i := 7) (oi := { dst := some 120, op := _, type := _, pos := _, after := _, guard := _ }) (v := .int .i64 (k : Int)) rfl (by kernel_rfl) (by kernel_rfl) (by kernel_rfl) (fun _ _ _ h => h) (Or.inl ⟨by rfl, fun w hSw => by go_simp⟩) (by trivial) ?_
          try simp only [Act.put, List.setIfInBounds_toArray, List.set_cons_zero, List.set_cons_succ]
          refine wpAnyH_take (i := 8) (oi := { dst := some 121, op := _, type := _, pos := _, after := _, guard := _ }) (v := .pointer (some ⟨g, k * 2, none⟩)) rfl (by kernel_rfl) (by kernel_rfl) (by kernel_rfl) (fun _ _ _ h => h) (Or.inl ⟨by rfl, fun w hSw => by go_simp⟩) (by trivial) ?_
          try simp only [Act.put, List.setIfInBounds_toArray, List.set_cons_zero, List.set_cons_succ]
          refine wpAnyH_take (i := 10) (oi := { dst := some 123, op := _, type := _, pos := _, after := _, guard := _ }) (v := .slice (some ⟨g, 0, none⟩) n c) rfl (by kernel_rfl) (by kernel_rfl) (by kernel_rfl) (fun _ _ _ h => h) (Or.inl ⟨by rfl, fun w hSw => by go_simp⟩) (by trivial) ?_
          try simp only [Act.put, List.setIfInBounds_toArray, List.set_cons_zero, List.set_cons_succ]
          refine wpAnyH_take (i := 11) (oi := { dst := some 124, op := _, type := _, pos := _, after := _, guard := _ }) (v := .int .i64 (j : Int)) rfl (by kernel_rfl) (by kernel_rfl) (by kernel_rfl) (fun _ _ _ h => h) (Or.inl ⟨by rfl, fun w hSw => by go_simp⟩) (by trivial) ?_
          try simp only [Act.put, List.setIfInBounds_toArray, List.set_cons_zero, List.set_cons_succ]
          refine wpAnyH_take (i := 12) (oi := { dst := some 125, op := _, type := _, pos := _, after := _, guard := _ }) (v := .pointer (some ⟨g, j * 2, none⟩)) rfl (by kernel_rfl) (by kernel_rfl) (by kernel_rfl) (fun _ _ _ h => h) (Or.inl ⟨by rfl, fun w hSw => by go_simp⟩) (by trivial) ?_
          try simp only [Act.put, List.setIfInBounds_toArray, List.set_cons_zero, List.set_cons_succ]
          refine wpAnyH_ready (rs := [9, 13]) (by kernel_rfl) (by simp) (AllReadyH.cons (o := { dst := some 122, op := _, type := _, pos := _, after := _, guard := _ }) rfl ?_ (AllReadyH.cons (o := { dst := some 126, op := _, type := _, pos := _, after := _, guard := _ }) rfl ?_ AllReadyH.nil))
          · intro K1 hK1
            go_simp
            refine hK1.out _ _ trivial (fun _ => ?_)
            clear hK1 K1
            try simp only [Act.put, List.setIfInBounds_toArray, List.set_cons_zero, List.set_cons_succ]
            refine wpAnyH_ready (rs := [13]) (by kernel_rfl) (by simp) (AllReadyH.cons (o := { dst := some 126, op := _, type := _, pos := _, after := _, guard := _ }) rfl ?_ AllReadyH.nil)
            intro K2 hK2
            go_simp
            refine hK2.out _ _ trivial (fun _ => ?_)
            clear hK2 K2
            try simp only [Act.put, List.setIfInBounds_toArray, List.set_cons_zero, List.set_cons_succ]
            refine wpAnyH_take (i := 14) (oi := { dst := some 127, op := _, type := _, pos := _, after := _, guard := _ }) (v := .pointer (some ⟨g, j * 2, none⟩)) rfl (by kernel_rfl) (by kernel_rfl) (by kernel_rfl) (fun _ _ _ h => h) (Or.inl ⟨by rfl, fun w hSw => by go_simp⟩) (by trivial) ?_
            try simp only [Act.put, List.setIfInBounds_toArray, List.set_cons_zero, List.set_cons_succ]
            refine wpAnyH_ready (rs := [15]) (by kernel_rfl) (by simp) (AllReadyH.cons (o := { dst := none, op := _, type := _, pos := _, after := _, guard := _ }) rfl ?_ AllReadyH.nil)
            intro K3 hK3
            go_simp
            refine hK3.out _ _ trivial (fun _ => ?_)
            clear hK3 K3
            try simp only [Act.put, List.setIfInBounds_toArray, List.set_cons_zero, List.set_cons_succ]
            refine wpAnyH_take (i := 16) (oi := { dst := some 128, op := _, type := _, pos := _, after := _, guard := _ }) (v := .pointer (some ⟨g, k * 2, none⟩)) rfl (by kernel_rfl) (by kernel_rfl) (by kernel_rfl) (fun _ _ _ h => h) (Or.inl ⟨by rfl, fun w hSw => by go_simp⟩) (by trivial) ?_
            try simp only [Act.put, List.setIfInBounds_toArray, List.set_cons_zero, List.set_cons_succ]
            refine wpAnyH_ready (rs := [17]) (by kernel_rfl) (by simp) (AllReadyH.cons (o := { dst := none, op := _, type := _, pos := _, after := _, guard := _ }) rfl ?_ AllReadyH.nil)
            intro K4 hK4
            go_simp
            refine hK4.out _ _ trivial (fun _ => ?_)
            clear hK4 K4
            try simp only [Act.put, List.setIfInBounds_toArray, List.set_cons_zero, List.set_cons_succ]
            refine wpAnyH_done (by kernel_rfl) ?_ _
            go_wp2
            go_roundw
            case rel => exact ⟨U1, x :: U2, by rw [HU12.out]; simp, by omega, by (have hkj := HKJ.out; congr 1; omega), HN2.out, HG2.out⟩
            case measure => simp [intOf]; omega
          · intro K5 hK5
            go_simp
            refine hK5.out _ _ trivial (fun _ => ?_)
            clear hK5 K5
            try simp only [Act.put, List.setIfInBounds_toArray, List.set_cons_zero, List.set_cons_succ]
            refine wpAnyH_ready (rs := [9]) (by kernel_rfl) (by simp) (AllReadyH.cons (o := { dst := some 122, op := _, type := _, pos := _, after := _, guard := _ }) rfl ?_ AllReadyH.nil)
            intro K6 hK6
            go_simp
            refine hK6.out _ _ trivial (fun _ => ?_)
            clear hK6 K6
            try simp only [Act.put, List.setIfInBounds_toArray, List.set_cons_zero, List.set_cons_succ]
            refine wpAnyH_take (i := 14) (oi := { dst := some 127, op := _, type := _, pos := _, after := _, guard := _ }) (v := .pointer (some ⟨g, j * 2, none⟩)) rfl (by kernel_rfl) (by kernel_rfl) (by kernel_rfl) (fun _ _ _ h => h) (Or.inl ⟨by rfl, fun w hSw => by go_simp⟩) (by trivial) ?_
            try simp only [Act.put, List.setIfInBounds_toArray, List.set_cons_zero, List.set_cons_succ]
            refine wpAnyH_ready (rs := [15]) (by kernel_rfl) (by simp) (AllReadyH.cons (o := { dst := none, op := _, type := _, pos := _, after := _, guard := _ }) rfl ?_ AllReadyH.nil)
            intro K7 hK7
            go_simp
            refine hK7.out _ _ trivial (fun _ => ?_)
            clear hK7 K7
            try simp only [Act.put, List.setIfInBounds_toArray, List.set_cons_zero, List.set_cons_succ]
            refine wpAnyH_take (i := 16) (oi := { dst := some 128, op := _, type := _, pos := _, after := _, guard := _ }) (v := .pointer (some ⟨g, k * 2, none⟩)) rfl (by kernel_rfl) (by kernel_rfl) (by kernel_rfl) (fun _ _ _ h => h) (Or.inl ⟨by rfl, fun w hSw => by go_simp⟩) (by trivial) ?_
            try simp only [Act.put, List.setIfInBounds_toArray, List.set_cons_zero, List.set_cons_succ]
            refine wpAnyH_ready (rs := [17]) (by kernel_rfl) (by simp) (AllReadyH.cons (o := { dst := none, op := _, type := _, pos := _, after := _, guard := _ }) rfl ?_ AllReadyH.nil)
            intro K8 hK8
            go_simp
            refine hK8.out _ _ trivial (fun _ => ?_)
            clear hK8 K8
            try simp only [Act.put, List.setIfInBounds_toArray, List.set_cons_zero, List.set_cons_succ]
            refine wpAnyH_done (by kernel_rfl) ?_ _
            go_wp2
            go_roundw
            case rel => exact ⟨U1, x :: U2, by rw [HU12.out]; simp, by omega, by (have hkj := HKJ.out; congr 1; omega), HN2.out, HG2.out⟩
            case measure => simp [intOf]; omega
        · have hz : U1.length = p := by omega
          have HR3 : Hid (Row (encS sl) base g c n (X ++ ((U.take p ++ v :: U.drop p) ++ Z)) wr) := by
            have h1 := HRk.out
            have e1 : U.take p = U1 := by rw [hU12, ← hz]; simp
            have e2 : U.drop p = U2 := by rw [hU12, ← hz]; simp
            unfold Hid; rw [e1, e2]; simpa using h1
          have HFF := HF
          clear hU12 HRk
          rw [hz, ← hlo]
          clear hlo
          go_wp2
          (try simp only [Exit.inBlock, Exit.then]); refine bodyPost_ret (results_none rfl _ _ _) rfl ?_
          exact ⟨rfl, _, HFF.out.1, HFF.out.2.1, HFF.out.2.2, HR3.out, HGk.out⟩
end Go.Proofs.Ytailoeloonnoeaa.Stb
