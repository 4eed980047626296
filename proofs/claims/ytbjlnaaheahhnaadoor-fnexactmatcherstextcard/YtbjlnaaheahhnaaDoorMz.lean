/- The text of good matchers: what the model's l2MatchersText comes to. -/
import Derived.Test.YtbjlnaaheahhnaaDoorMy
import Derived.Deep.RegionHeld
namespace Go.Proofs.YtbjlnaaheahhnaaDoor.Pat
open Go.RowKit

/-- A matcher in its box. -/
abbrev S5 (w : World) (s : ByteArray) (j : Nat) (t : ByteArray) (w' : World) : Prop :=
  w'.cell? ⟨w.heap.size, 0, none⟩ = some (.string s) ∧ w'.cell? ⟨w.heap.size, 1, none⟩ = some (.int .i64 j) ∧ w'.cell? ⟨w.heap.size, 2, none⟩ = some (.string t) ∧ Below w.heap.size w w'
theorem S5.below {w W W' : World} {s t : ByteArray} {j : Nat} (h : S5 w s j t W) (hb : Below W.heap.size W W') : S5 w s j t W' := by
  obtain ⟨h1, h2, h3, h6⟩ := h
  have l := World.block_lt_of_cell? W _ h2
  exact ⟨(hb.cell (p := ⟨w.heap.size, 0, none⟩) l).trans h1, (hb.cell (p := ⟨w.heap.size, 1, none⟩) l).trans h2, (hb.cell (p := ⟨w.heap.size, 2, none⟩) l).trans h3, h6.trans (hb.mono h6.size)⟩
theorem S5.drew {w W : World} {s t : ByteArray} {j : Nat} (h : S5 w s j t W) : S5 w s j t W.drew := h.below (Below.refl _ _).drew
theorem S5.new (w : World) (s t : ByteArray) (j : Nat) : S5 w s j t (w.alloc (.cells #[.string s, .int .i64 j, .string t] 37)) := by
  have h := heap_alloc_new w (.cells #[.string s, .int .i64 j, .string t] 37)
  obtain ⟨h1, h2, h3⟩ := three_at h
  exact ⟨h1, h2, h3, (Below.refl _ _).alloc (Nat.le_refl _) _⟩
theorem f29x (w : World) (j : Nat) (hj : j < 5) : Calls Tryd.prog 29 #[] w fun e w' => ∃ g, e = .returned (.slice (some ⟨g, 0, none⟩) 5 5) ∧ w'.cell? ⟨g, j, none⟩ = some (.string (sgA j)) ∧ g < w'.heap.size ∧ Below w.heap.size w w' := by
  refine (f29 w).mono ?_
  rintro e w' ⟨rfl, rfl⟩
  exact ⟨_, rfl, ops_at w j hj, by simp, (Below.refl _ _).alloc (Nat.le_refl _) _⟩

/-- What holds behind each operation under a narrower condition holds under a wider one. -/
theorem wpAnyH_mono {P : Program} {md : Region.Mode} {ops : Array Oper} {Q : Exit → Act → World → Prop} {S T : World → Prop} (h : ∀ w, S w → T w) : ∀ (fuel : Nat) (listed : Array Bool) (a : Act) (w : World), wpAnyH P md ops Q S fuel listed a w → wpAnyH P md ops Q T fuel listed a w
  | 0, _, _, _, hh => hh
  | fuel + 1, _, _, _, hh => ⟨hh.1, fun i hi => wpOp_mono (fun a' w' h' => ⟨h w' h'.1, wpAnyH_mono h fuel _ a' w' h'.2⟩) (hh.2 i hi)⟩
/-- A matcher in its box, and the row of signs. -/
abbrev S6 (w : World) (s : ByteArray) (j : Nat) (t : ByteArray) (g : Nat) (w' : World) : Prop :=
  w'.cell? ⟨g, j, none⟩ = some (.string (sgA j)) ∧ g < w'.heap.size ∧ S5 w s j t w'
theorem S6.below {w W W' : World} {s t : ByteArray} {j g : Nat} (h : S6 w s j t g W) (hb : Below W.heap.size W W') : S6 w s j t g W' :=
  ⟨(hb.cell (p := ⟨g, j, none⟩) h.2.1).trans h.1, Nat.lt_of_lt_of_le h.2.1 hb.size, h.2.2.below hb⟩

set_option maxHeartbeats 4000000 in
theorem f16 (a : Option Addr) (n c : Nat) (ms : List Mt) (w : World) (hn : ms.length = n) (hr : HasM w a ms) (hs : SmlM ms) :
    Calls Tryd.prog 16 #[.slice a n c] w fun e w' => e = .returned (.string (mkS (txtM ms))) ∧ Below w.heap.size w w' := by
  have h20 : n ≤ 10 := by have := hs.1; omega
  have HN := hid hn
  have HS := hid hs
  have HR := hid hr
  clear hn hs hr
  go_enter Tryd.func16, Tryd.ntmps16
  go_wp2
  go_loopw [3, 8] (fun so si wr => ∃ (k : Nat) (t : ByteArray), k ≤ n ∧ si = .int .i64 k ∧ so = .string t ∧ Hid (t = mkS ([123] ++ bodyM (ms.take k))) ∧ Hid (Below w.heap.size w wr)) (fun _ si _ => n - (intOf si).toNat)
  case atStart => exact ⟨0, ⟨#[123]⟩, Nat.zero_le _, rfl, rfl, rfl, Below.refl _ _⟩
  case round =>
    obtain ⟨k, u, hk, rfl, rfl, HO, HX⟩ := hrel
    by_cases hlt : k < n
    · rcases HR.out with hr | ⟨bb, off, rfl, hbl, hc⟩
      · exact absurd HN.out (by rw [hr]; simp; omega)
      obtain ⟨c0, c1', c2'⟩ := hc k (by rw [HN.out]; exact hlt)
      have d0 := (HX.out.cell (p := ⟨bb, off + k * 3, none⟩) hbl).trans c0
      have d1 := (HX.out.cell (p := ⟨bb, off + k * 3 + 1, none⟩) hbl).trans c1'
      have d2 := (HX.out.cell (p := ⟨bb, off + k * 3 + 2, none⟩) hbl).trans c2'
      have HSZ := hid (HS.out.2 k (by rw [HN.out]; exact hlt))
      have ht : u.size ≤ 2451 := by rw [HO.out]; exact outM_size HS.out k
      have HF : Hid (0 = k → u ++ mkS (matT (ms.getD k m0)) = mkS ([123] ++ bodyM (ms.take (k + 1)))) := by
        intro h; subst h
        rw [HO.out]; exact outM_first (by rw [HN.out]; exact hlt)
      have HG : Hid (0 < k → u ++ ⟨#[44]⟩ ++ mkS (matT (ms.getD k m0)) = mkS ([123] ++ bodyM (ms.take (k + 1)))) := by
        intro h
        rw [HO.out]; exact outM_next (by rw [HN.out]; exact hlt) h
      clear hc c0 c1' c2'
      generalize ms.getD k m0 = p at *
      obtain ⟨s, o, t⟩ := p
      obtain ⟨z1, z2, j, hj, hj5⟩ := HSZ.out
      simp only at z1 z2 hj
      subst hj
      have HS1 := hid (S5.new wr s t j)
      have HLS := hid (mat_str s t j)
      have hq := quo_size z2
      have hsg := sgA_size j
      have e44 : (⟨#[44]⟩ : ByteArray).size = 1 := rfl
      have a1 := Lab.add_run s (sgA j) (by omega)
      have a2 := Lab.add_run (s ++ sgA j) (mkS (Str.quoB t.data.toList)) (by rw [ByteArray.size_append]; omega)
      have a3 := Lab.add_run u ⟨#[44]⟩ (by omega)
      have a4 := Lab.add_run (u ++ ⟨#[44]⟩) (s ++ sgA j ++ mkS (Str.quoB t.data.toList)) (by
        simp only [ByteArray.size_append]; omega)
      have a5 := Lab.add_run u (s ++ sgA j ++ mkS (Str.quoB t.data.toList)) (by
        simp only [ByteArray.size_append]; omega)
      clear hq ht e44 hsg
      by_cases h0 : 0 < k
      · go_wp2_with fail
        refine wp_region_held_drew (S := fun w' => S5 wr s j t w') rfl HS1.out.drew (fun hHeld => ?_)
        refine wpAnyH_take (i := 0) (oi := { dst := some 17, op := Op.move (Operand.tmp 3), type := 9, pos := "l2_label.go:437", after := #[], guard := none }) (v := .string (u ++ ⟨#[44]⟩)) rfl (by kernel_rfl) (by kernel_rfl) (by kernel_rfl) (fun _ _ _ h => h) (Or.inl ⟨by rfl, fun w hSw => by (try dsimp only at hSw); go_split_ands; go_simp⟩) (by assumption) ?_
        simp only [Act.put, List.setIfInBounds_toArray, List.set_cons_zero, List.set_cons_succ]
        refine wpAnyH_take (i := 1) (oi := { dst := some 18, op := Op.fieldAddr 37 (Operand.tmp 5) 0, type := 0, pos := "l2_label.go:437", after := #[], guard := none }) (v := .pointer (some ⟨wr.heap.size, 0, none⟩)) rfl (by kernel_rfl) (by kernel_rfl) (by kernel_rfl) (fun _ _ _ h => h) (Or.inl ⟨by rfl, fun w hSw => by (try dsimp only at hSw); go_split_ands; go_simp⟩) (by assumption) ?_
        simp only [Act.put, List.setIfInBounds_toArray, List.set_cons_zero, List.set_cons_succ]
        refine wpAnyH_take (i := 2) (oi := { dst := some 19, op := Op.load 9 (Operand.tmp 18), type := 9, pos := "l2_label.go:437", after := #[{ on := 1, ground := Ground.data }], guard := none }) (v := .string s) rfl (by kernel_rfl) (by kernel_rfl) (by kernel_rfl) (fun _ _ _ h => h) (Or.inl ⟨by rfl, fun w hSw => by (try dsimp only at hSw); go_split_ands; go_simp⟩) (by assumption) ?_
        simp only [Act.put, List.setIfInBounds_toArray, List.set_cons_zero, List.set_cons_succ]
        refine wpAnyH_take (i := 4) (oi := { dst := some 21, op := Op.fieldAddr 37 (Operand.tmp 5) 1, type := 0, pos := "l2_label.go:437", after := #[], guard := none }) (v := .pointer (some ⟨wr.heap.size, 1, none⟩)) rfl (by kernel_rfl) (by kernel_rfl) (by kernel_rfl) (fun _ _ _ h => h) (Or.inl ⟨by rfl, fun w hSw => by (try dsimp only at hSw); go_split_ands; go_simp⟩) (by assumption) ?_
        simp only [Act.put, List.setIfInBounds_toArray, List.set_cons_zero, List.set_cons_succ]
        refine wpAnyH_take (i := 5) (oi := { dst := some 22, op := Op.load 3 (Operand.tmp 21), type := 3, pos := "l2_label.go:437", after := #[{ on := 4, ground := Ground.data }], guard := none }) (v := .int .i64 (j : Int)) rfl (by kernel_rfl) (by kernel_rfl) (by kernel_rfl) (fun _ _ _ h => h) (Or.inl ⟨by rfl, fun w hSw => by (try dsimp only at hSw); go_split_ands; go_simp⟩) (by assumption) ?_
        simp only [Act.put, List.setIfInBounds_toArray, List.set_cons_zero, List.set_cons_succ]
        refine wpAnyH_take (i := 9) (oi := { dst := some 26, op := Op.fieldAddr 37 (Operand.tmp 5) 2, type := 0, pos := "l2_label.go:437", after := #[], guard := none }) (v := .pointer (some ⟨wr.heap.size, 2, none⟩)) rfl (by kernel_rfl) (by kernel_rfl) (by kernel_rfl) (fun _ _ _ h => h) (Or.inl ⟨by rfl, fun w hSw => by (try dsimp only at hSw); go_split_ands; go_simp⟩) (by assumption) ?_
        simp only [Act.put, List.setIfInBounds_toArray, List.set_cons_zero, List.set_cons_succ]
        refine wpAnyH_take (i := 10) (oi := { dst := some 27, op := Op.load 9 (Operand.tmp 26), type := 9, pos := "l2_label.go:437", after := #[{ on := 9, ground := Ground.data }], guard := none }) (v := .string t) rfl (by kernel_rfl) (by kernel_rfl) (by kernel_rfl) (fun _ _ _ h => h) (Or.inl ⟨by rfl, fun w hSw => by (try dsimp only at hSw); go_split_ands; go_simp⟩) (by assumption) ?_
        simp only [Act.put, List.setIfInBounds_toArray, List.set_cons_zero, List.set_cons_succ]
        refine wpAnyH_ready (rs := [3]) (by kernel_rfl) (by simp) (AllReadyH.cons (o := { dst := some 20, op := Op.call { callee := Callee.value (Operand.func 29), args := #[], argTypes := #[] }, type := 47, pos := "l2_label.go:437", after := #[], guard := none }) rfl ?_ AllReadyH.nil)
        intro K' hK'
        go_simp
        go_wp2_with (go_at_call 29; refine (f29x _ j hj5).mono ?_; rintro e w2 ⟨g, rfl, k2, l2, hb2⟩; have hs2 := S5.below hHeld hb2; clear hb2)
        refine hK'.out _ _ hs2 (fun _ => ?_)
        clear hK' K' hHeld
        refine wpAnyH_mono (S := fun w' => S6 wr s j t g w') (fun _ h => h.2.2) _ _ _ _ ?_
        have hHeld2 : S6 wr s j t g w2 := ⟨k2, l2, hs2⟩
        clear hs2 k2 l2
        refine wpAnyH_take (i := 6) (oi := { dst := some 23, op := Op.indexAddr 47 (Operand.tmp 20) (Operand.tmp 22), type := 0, pos := "l2_label.go:437", after := #[{ on := 3, ground := Ground.data }, { on := 5, ground := Ground.data }], guard := none }) (v := .pointer (some ⟨g, j, none⟩)) rfl (by kernel_rfl) (by kernel_rfl) (by kernel_rfl) (fun _ _ _ h => h) (Or.inl ⟨by rfl, fun w hSw => by (try dsimp only at hSw); go_split_ands; go_simp; intro h; omega⟩) (by assumption) ?_
        simp only [Act.put, List.setIfInBounds_toArray, List.set_cons_zero, List.set_cons_succ]
        refine wpAnyH_take (i := 7) (oi := { dst := some 24, op := Op.load 9 (Operand.tmp 23), type := 9, pos := "l2_label.go:437", after := #[{ on := 6, ground := Ground.data }], guard := none }) (v := .string (sgA j)) rfl (by kernel_rfl) (by kernel_rfl) (by kernel_rfl) (fun _ _ _ h => h) (Or.inl ⟨by rfl, fun w hSw => by (try dsimp only at hSw); go_split_ands; go_simp⟩) (by assumption) ?_
        simp only [Act.put, List.setIfInBounds_toArray, List.set_cons_zero, List.set_cons_succ]
        refine wpAnyH_take (i := 8) (oi := { dst := some 25, op := Op.binOp BinOp.add 9 (Operand.tmp 19) (Operand.tmp 24) 9, type := 9, pos := "l2_label.go:437", after := #[{ on := 2, ground := Ground.data }, { on := 7, ground := Ground.data }], guard := none }) (v := .string (s ++ sgA j)) rfl (by kernel_rfl) (by kernel_rfl) (by kernel_rfl) (fun _ _ _ h => h) (Or.inl ⟨by rfl, fun w hSw => by (try dsimp only at hSw); go_split_ands; go_simp⟩) (by assumption) ?_
        simp only [Act.put, List.setIfInBounds_toArray, List.set_cons_zero, List.set_cons_succ]
        refine wpAnyH_ready (rs := [11]) (by kernel_rfl) (by simp) (AllReadyH.cons (o := { dst := some 28, op := Op.call { callee := Callee.value (Operand.func 30), args := #[Operand.tmp 27], argTypes := #[9] }, type := 9, pos := "l2_label.go:437", after := #[{ on := 10, ground := Ground.data }, { on := 3, ground := Ground.chain }], guard := none }) rfl ?_ AllReadyH.nil)
        intro K2 hK2
        go_simp
        go_wp2_with (go_at_call 30; refine (Str.f30 t _ (by omega)).mono ?_; rintro e w3 ⟨rfl, hb3⟩; have hs3 := S6.below hHeld2 hb3; clear hb3)
        refine hK2.out _ _ hs3 (fun _ => ?_)
        clear hK2 K2 hHeld2
        refine wpAnyH_take (i := 12) (oi := { dst := some 29, op := Op.binOp BinOp.add 9 (Operand.tmp 25) (Operand.tmp 28) 9, type := 9, pos := "l2_label.go:437", after := #[{ on := 8, ground := Ground.data }, { on := 11, ground := Ground.data }], guard := none }) (v := .string (s ++ sgA j ++ mkS (Str.quoB t.data.toList))) rfl (by kernel_rfl) (by kernel_rfl) (by kernel_rfl) (fun _ _ _ h => h) (Or.inl ⟨by rfl, fun w hSw => by (try dsimp only at hSw); go_split_ands; go_simp⟩) (by assumption) ?_
        simp only [Act.put, List.setIfInBounds_toArray, List.set_cons_zero, List.set_cons_succ]
        refine wpAnyH_take (i := 13) (oi := { dst := some 30, op := Op.binOp BinOp.add 9 (Operand.tmp 17) (Operand.tmp 29) 9, type := 9, pos := "l2_label.go:437", after := #[{ on := 0, ground := Ground.data }, { on := 12, ground := Ground.data }], guard := none }) (v := .string ((u ++ ⟨#[44]⟩) ++ (s ++ sgA j ++ mkS (Str.quoB t.data.toList)))) rfl (by kernel_rfl) (by kernel_rfl) (by kernel_rfl) (fun _ _ _ h => h) (Or.inl ⟨by rfl, fun w hSw => by (try dsimp only at hSw); go_split_ands; go_simp⟩) (by assumption) ?_
        simp only [Act.put, List.setIfInBounds_toArray, List.set_cons_zero, List.set_cons_succ]
        refine wpAnyH_take (i := 14) (oi := { dst := some 3, op := Op.assign (Operand.tmp 30), type := 9, pos := "l2_label.go:437", after := #[{ on := 13, ground := Ground.data }, { on := 11, ground := Ground.chain }, { on := 0, ground := Ground.phase }, { on := 1, ground := Ground.phase }, { on := 2, ground := Ground.phase }, { on := 3, ground := Ground.phase }, { on := 4, ground := Ground.phase }, { on := 5, ground := Ground.phase }, { on := 6, ground := Ground.phase }, { on := 7, ground := Ground.phase }, { on := 8, ground := Ground.phase }, { on := 9, ground := Ground.phase }, { on := 10, ground := Ground.phase }, { on := 11, ground := Ground.phase }, { on := 12, ground := Ground.phase }, { on := 13, ground := Ground.phase }], guard := none }) (v := .string ((u ++ ⟨#[44]⟩) ++ (s ++ sgA j ++ mkS (Str.quoB t.data.toList)))) rfl (by kernel_rfl) (by kernel_rfl) (by kernel_rfl) (fun _ _ _ h => h) (Or.inl ⟨by rfl, fun w hSw => by (try dsimp only at hSw); go_split_ands; go_simp⟩) (by assumption) ?_
        simp only [Act.put, List.setIfInBounds_toArray, List.set_cons_zero, List.set_cons_succ]
        refine wpAnyH_done (by kernel_rfl) ?_ _
        have HX2 := hid (HX.out.trans (hs3.2.2.2.2.2.mono HX.out.size))
        clear hs3
        go_wp2
        go_roundw
        case rel => exact ⟨k + 1, _, by omega, by go_num, rfl, by unfold Hid; rw [← HG.out h0, ← HLS.out], HX2⟩
        case measure => simp [intOf]; omega
      · go_wp2_with fail
        refine wp_region_held_drew (S := fun w' => S5 wr s j t w') rfl HS1.out.drew (fun hHeld => ?_)
        refine wpAnyH_take (i := 0) (oi := { dst := some 17, op := Op.move (Operand.tmp 3), type := 9, pos := "l2_label.go:437", after := #[], guard := none }) (v := .string u) rfl (by kernel_rfl) (by kernel_rfl) (by kernel_rfl) (fun _ _ _ h => h) (Or.inl ⟨by rfl, fun w hSw => by (try dsimp only at hSw); go_split_ands; go_simp⟩) (by assumption) ?_
        simp only [Act.put, List.setIfInBounds_toArray, List.set_cons_zero, List.set_cons_succ]
        refine wpAnyH_take (i := 1) (oi := { dst := some 18, op := Op.fieldAddr 37 (Operand.tmp 5) 0, type := 0, pos := "l2_label.go:437", after := #[], guard := none }) (v := .pointer (some ⟨wr.heap.size, 0, none⟩)) rfl (by kernel_rfl) (by kernel_rfl) (by kernel_rfl) (fun _ _ _ h => h) (Or.inl ⟨by rfl, fun w hSw => by (try dsimp only at hSw); go_split_ands; go_simp⟩) (by assumption) ?_
        simp only [Act.put, List.setIfInBounds_toArray, List.set_cons_zero, List.set_cons_succ]
        refine wpAnyH_take (i := 2) (oi := { dst := some 19, op := Op.load 9 (Operand.tmp 18), type := 9, pos := "l2_label.go:437", after := #[{ on := 1, ground := Ground.data }], guard := none }) (v := .string s) rfl (by kernel_rfl) (by kernel_rfl) (by kernel_rfl) (fun _ _ _ h => h) (Or.inl ⟨by rfl, fun w hSw => by (try dsimp only at hSw); go_split_ands; go_simp⟩) (by assumption) ?_
        simp only [Act.put, List.setIfInBounds_toArray, List.set_cons_zero, List.set_cons_succ]
        refine wpAnyH_take (i := 4) (oi := { dst := some 21, op := Op.fieldAddr 37 (Operand.tmp 5) 1, type := 0, pos := "l2_label.go:437", after := #[], guard := none }) (v := .pointer (some ⟨wr.heap.size, 1, none⟩)) rfl (by kernel_rfl) (by kernel_rfl) (by kernel_rfl) (fun _ _ _ h => h) (Or.inl ⟨by rfl, fun w hSw => by (try dsimp only at hSw); go_split_ands; go_simp⟩) (by assumption) ?_
        simp only [Act.put, List.setIfInBounds_toArray, List.set_cons_zero, List.set_cons_succ]
        refine wpAnyH_take (i := 5) (oi := { dst := some 22, op := Op.load 3 (Operand.tmp 21), type := 3, pos := "l2_label.go:437", after := #[{ on := 4, ground := Ground.data }], guard := none }) (v := .int .i64 (j : Int)) rfl (by kernel_rfl) (by kernel_rfl) (by kernel_rfl) (fun _ _ _ h => h) (Or.inl ⟨by rfl, fun w hSw => by (try dsimp only at hSw); go_split_ands; go_simp⟩) (by assumption) ?_
        simp only [Act.put, List.setIfInBounds_toArray, List.set_cons_zero, List.set_cons_succ]
        refine wpAnyH_take (i := 9) (oi := { dst := some 26, op := Op.fieldAddr 37 (Operand.tmp 5) 2, type := 0, pos := "l2_label.go:437", after := #[], guard := none }) (v := .pointer (some ⟨wr.heap.size, 2, none⟩)) rfl (by kernel_rfl) (by kernel_rfl) (by kernel_rfl) (fun _ _ _ h => h) (Or.inl ⟨by rfl, fun w hSw => by (try dsimp only at hSw); go_split_ands; go_simp⟩) (by assumption) ?_
        simp only [Act.put, List.setIfInBounds_toArray, List.set_cons_zero, List.set_cons_succ]
        refine wpAnyH_take (i := 10) (oi := { dst := some 27, op := Op.load 9 (Operand.tmp 26), type := 9, pos := "l2_label.go:437", after := #[{ on := 9, ground := Ground.data }], guard := none }) (v := .string t) rfl (by kernel_rfl) (by kernel_rfl) (by kernel_rfl) (fun _ _ _ h => h) (Or.inl ⟨by rfl, fun w hSw => by (try dsimp only at hSw); go_split_ands; go_simp⟩) (by assumption) ?_
        simp only [Act.put, List.setIfInBounds_toArray, List.set_cons_zero, List.set_cons_succ]
        refine wpAnyH_ready (rs := [3]) (by kernel_rfl) (by simp) (AllReadyH.cons (o := { dst := some 20, op := Op.call { callee := Callee.value (Operand.func 29), args := #[], argTypes := #[] }, type := 47, pos := "l2_label.go:437", after := #[], guard := none }) rfl ?_ AllReadyH.nil)
        intro K' hK'
        go_simp
        go_wp2_with (go_at_call 29; refine (f29x _ j hj5).mono ?_; rintro e w2 ⟨g, rfl, k2, l2, hb2⟩; have hs2 := S5.below hHeld hb2; clear hb2)
        refine hK'.out _ _ hs2 (fun _ => ?_)
        clear hK' K' hHeld
        refine wpAnyH_mono (S := fun w' => S6 wr s j t g w') (fun _ h => h.2.2) _ _ _ _ ?_
        have hHeld2 : S6 wr s j t g w2 := ⟨k2, l2, hs2⟩
        clear hs2 k2 l2
        refine wpAnyH_take (i := 6) (oi := { dst := some 23, op := Op.indexAddr 47 (Operand.tmp 20) (Operand.tmp 22), type := 0, pos := "l2_label.go:437", after := #[{ on := 3, ground := Ground.data }, { on := 5, ground := Ground.data }], guard := none }) (v := .pointer (some ⟨g, j, none⟩)) rfl (by kernel_rfl) (by kernel_rfl) (by kernel_rfl) (fun _ _ _ h => h) (Or.inl ⟨by rfl, fun w hSw => by (try dsimp only at hSw); go_split_ands; go_simp; intro h; omega⟩) (by assumption) ?_
        simp only [Act.put, List.setIfInBounds_toArray, List.set_cons_zero, List.set_cons_succ]
        refine wpAnyH_take (i := 7) (oi := { dst := some 24, op := Op.load 9 (Operand.tmp 23), type := 9, pos := "l2_label.go:437", after := #[{ on := 6, ground := Ground.data }], guard := none }) (v := .string (sgA j)) rfl (by kernel_rfl) (by kernel_rfl) (by kernel_rfl) (fun _ _ _ h => h) (Or.inl ⟨by rfl, fun w hSw => by (try dsimp only at hSw); go_split_ands; go_simp⟩) (by assumption) ?_
        simp only [Act.put, List.setIfInBounds_toArray, List.set_cons_zero, List.set_cons_succ]
        refine wpAnyH_take (i := 8) (oi := { dst := some 25, op := Op.binOp BinOp.add 9 (Operand.tmp 19) (Operand.tmp 24) 9, type := 9, pos := "l2_label.go:437", after := #[{ on := 2, ground := Ground.data }, { on := 7, ground := Ground.data }], guard := none }) (v := .string (s ++ sgA j)) rfl (by kernel_rfl) (by kernel_rfl) (by kernel_rfl) (fun _ _ _ h => h) (Or.inl ⟨by rfl, fun w hSw => by (try dsimp only at hSw); go_split_ands; go_simp⟩) (by assumption) ?_
        simp only [Act.put, List.setIfInBounds_toArray, List.set_cons_zero, List.set_cons_succ]
        refine wpAnyH_ready (rs := [11]) (by kernel_rfl) (by simp) (AllReadyH.cons (o := { dst := some 28, op := Op.call { callee := Callee.value (Operand.func 30), args := #[Operand.tmp 27], argTypes := #[9] }, type := 9, pos := "l2_label.go:437", after := #[{ on := 10, ground := Ground.data }, { on := 3, ground := Ground.chain }], guard := none }) rfl ?_ AllReadyH.nil)
        intro K2 hK2
        go_simp
        go_wp2_with (go_at_call 30; refine (Str.f30 t _ (by omega)).mono ?_; rintro e w3 ⟨rfl, hb3⟩; have hs3 := S6.below hHeld2 hb3; clear hb3)
        refine hK2.out _ _ hs3 (fun _ => ?_)
        clear hK2 K2 hHeld2
        refine wpAnyH_take (i := 12) (oi := { dst := some 29, op := Op.binOp BinOp.add 9 (Operand.tmp 25) (Operand.tmp 28) 9, type := 9, pos := "l2_label.go:437", after := #[{ on := 8, ground := Ground.data }, { on := 11, ground := Ground.data }], guard := none }) (v := .string (s ++ sgA j ++ mkS (Str.quoB t.data.toList))) rfl (by kernel_rfl) (by kernel_rfl) (by kernel_rfl) (fun _ _ _ h => h) (Or.inl ⟨by rfl, fun w hSw => by (try dsimp only at hSw); go_split_ands; go_simp⟩) (by assumption) ?_
        simp only [Act.put, List.setIfInBounds_toArray, List.set_cons_zero, List.set_cons_succ]
        refine wpAnyH_take (i := 13) (oi := { dst := some 30, op := Op.binOp BinOp.add 9 (Operand.tmp 17) (Operand.tmp 29) 9, type := 9, pos := "l2_label.go:437", after := #[{ on := 0, ground := Ground.data }, { on := 12, ground := Ground.data }], guard := none }) (v := .string (u ++ (s ++ sgA j ++ mkS (Str.quoB t.data.toList)))) rfl (by kernel_rfl) (by kernel_rfl) (by kernel_rfl) (fun _ _ _ h => h) (Or.inl ⟨by rfl, fun w hSw => by (try dsimp only at hSw); go_split_ands; go_simp⟩) (by assumption) ?_
        simp only [Act.put, List.setIfInBounds_toArray, List.set_cons_zero, List.set_cons_succ]
        refine wpAnyH_take (i := 14) (oi := { dst := some 3, op := Op.assign (Operand.tmp 30), type := 9, pos := "l2_label.go:437", after := #[{ on := 13, ground := Ground.data }, { on := 11, ground := Ground.chain }, { on := 0, ground := Ground.phase }, { on := 1, ground := Ground.phase }, { on := 2, ground := Ground.phase }, { on := 3, ground := Ground.phase }, { on := 4, ground := Ground.phase }, { on := 5, ground := Ground.phase }, { on := 6, ground := Ground.phase }, { on := 7, ground := Ground.phase }, { on := 8, ground := Ground.phase }, { on := 9, ground := Ground.phase }, { on := 10, ground := Ground.phase }, { on := 11, ground := Ground.phase }, { on := 12, ground := Ground.phase }, { on := 13, ground := Ground.phase }], guard := none }) (v := .string (u ++ (s ++ sgA j ++ mkS (Str.quoB t.data.toList)))) rfl (by kernel_rfl) (by kernel_rfl) (by kernel_rfl) (fun _ _ _ h => h) (Or.inl ⟨by rfl, fun w hSw => by (try dsimp only at hSw); go_split_ands; go_simp⟩) (by assumption) ?_
        simp only [Act.put, List.setIfInBounds_toArray, List.set_cons_zero, List.set_cons_succ]
        refine wpAnyH_done (by kernel_rfl) ?_ _
        have HX2 := hid (HX.out.trans (hs3.2.2.2.2.2.mono HX.out.size))
        clear hs3
        go_wp2
        go_roundw
        case rel => exact ⟨k + 1, _, by omega, by go_num, rfl, by unfold Hid; rw [← HF.out (by omega), ← HLS.out], HX2⟩
        case measure => simp [intOf]; omega
    · have HE := hid (bodyM_all (ms := ms) (k := k) (by rw [HN.out]; omega))
      have ht : u.size ≤ 2451 := by rw [HO.out]; exact outM_size HS.out k
      have a1 := Lab.add_run u ⟨#[125]⟩ (by have : (⟨#[125]⟩ : ByteArray).size = 1 := rfl; omega)
      have HT : Hid (u ++ ⟨#[125]⟩ = mkS (txtM ms)) := by
        unfold Hid
        rw [HO.out, HE.out]; apply ByteArray.ext; simp [txtM]
      clear ht
      go_wp2
      go_ret
      exact ⟨by rw [← HT.out]; rfl, HX.out⟩
end Go.Proofs.YtbjlnaaheahhnaaDoor.Pat
