import Derived.Test.YteblbcbfaomdmaaDoorUcD
import Derived.Test.YteblbcbfaomdmaaDoorVl
import Derived.Laws.BytesArg
/- The model's UnpackChunk. -/
namespace Go.Proofs.YteblbcbfaomdmaaDoor.Chk
open Go.RowKit Go.Proofs.YteblbcbfaomdmaaDoor.Bts
open Go.Proofs.YteblbcbfaomdmaaDoor.Smp hiding hid ret_int below_drewN

theorem conv_has (w : World) (a : Option Addr) (n c : Nat) (xs : List Int) (hn : xs.length = n) (h : Byt.Has w a xs) : (convert 22 9 (.slice a n c)).run Tryd.prog w = .ok (.string (strOfNums xs)) w := by
  rcases h with rfl | ⟨b, off, rfl, _, h3⟩
  · subst hn
    rw [run_convert_bytes_string w 22 9 5 _ _ c Tryd.underlying22 Tryd.underlying5 Tryd.underlying9]
    cases a <;> simp [Conv.bytesToString, loadCells]
    all_goals rfl
  · exact run_convert_bytes_arg (P := Tryd.prog) w 22 5 Tryd.underlying22 Tryd.underlying5 b off n c xs hn (fun i hi => h3 i (by omega)) 9 Tryd.underlying9
theorem strOf_toList (xs : List Int) : (strOfNums xs).toList = xs.map fun n => UInt8.ofNat n.toNat := by
  unfold strOfNums
  rw [ByteArray.toList_eq]
theorem strOf_inj {xs ys : List Int} (hx : ∀ z ∈ xs, 0 ≤ z ∧ z ≤ 255) (hy : ∀ z ∈ ys, 0 ≤ z ∧ z ≤ 255) : ((strOfNums xs).toList == (strOfNums ys).toList) = decide (xs = ys) := by
  rw [Bool.eq_iff_iff, beq_iff_eq, decide_eq_true_eq, strOf_toList, strOf_toList]
  constructor
  · intro h
    have hl : xs.length = ys.length := by have := congrArg List.length h; simpa using this
    refine List.ext_getElem hl fun k h1 h2 => ?_
    have hk := congrArg (fun l => l[k]?) h
    simp only [List.getElem?_map, List.getElem?_eq_getElem h1, List.getElem?_eq_getElem h2, Option.map_some, Option.some.injEq] at hk
    have b1 := hx _ (List.getElem_mem h1)
    have b2 := hy _ (List.getElem_mem h2)
    have := congrArg UInt8.toNat hk
    simp only [UInt8.toNat_ofNat'] at this
    omega
  · intro h; rw [h]
theorem f73 (a a' : Option Addr) (n n' c c' : Nat) (xs ys : List Int) (w : World) (hn : xs.length = n) (hn' : ys.length = n') (h : Byt.Has w a xs) (h' : Byt.Has w a' ys) (hx : ∀ z ∈ xs, 0 ≤ z ∧ z ≤ 255) (hy : ∀ z ∈ ys, 0 ≤ z ∧ z ≤ 255) :
    Calls Tryd.prog 73 #[.slice a n c, .slice a' n' c'] w fun e w' => e = .returned (.bool (decide (xs = ys))) ∧ w' = w := by
  have c1 := conv_has w a n c xs hn h
  have c2 := conv_has w a' n' c' ys hn' h'
  have HE := hid (strOf_inj hx hy)
  go_enter Tryd.func73, Tryd.ntmps73
  go_wp2
  go_ret
  exact ⟨ret_bool HE.out, rfl⟩
theorem byte_mem {p : Bt} (h : GB p) : ∀ z ∈ p.1, 0 ≤ z ∧ z ≤ 255 := h.byte

set_option maxHeartbeats 2000000 in
theorem f56 (a a' : Option Addr) (n n' c c' : Nat) (p q : Bt) (w : World) (hn : p.1.length = n) (hn' : q.1.length = n') (h : Byt.Has w a p.1) (h' : Byt.Has w a' q.1) (hp : GB p) (hq : GB q) :
    Calls Tryd.prog 56 #[.agg #[.slice a n c, .int .i64 (p.2 : Int)], .agg #[.slice a' n' c', .int .i64 (q.2 : Int)]] w fun e w' => e = .returned (.bool (decide (p = q))) ∧ Below w.heap.size w w' := by
  have HB := hid (((Below.refl w.heap.size w).alloc (Nat.le_refl _) (.cells #[.slice a n c, .int .i64 (p.2 : Int)] 26)).alloc (by simp) (.cells #[.slice a' n' c', .int .i64 (q.2 : Int)] 26))
  have HC := hid (fun (W : World) (h1 : Byt.Has W a p.1) (h2 : Byt.Has W a' q.1) => f73 a a' n n' c c' p.1 q.1 W hn hn' h1 h2 hp.byte hq.byte)
  have HH := hid h
  have HH' := hid h'
  clear h h' hn hn'
  obtain ⟨xs, s⟩ := p
  obtain ⟨ys, t⟩ := q
  simp only at HC HH HH' HB
  by_cases hst : s = t
  · subst hst
    have hd : decide ((xs, s) = (ys, s)) = decide (xs = ys) := by rw [decide_eq_decide]; simp
    rw [hd]
    have hss : ((s : Int) == (s : Int)) = true := by simp
    go_enter Tryd.func56, Tryd.ntmps56
    go_wp2_with fail
    refine (HC.out _ (HH.out.below HB.out) (HH'.out.below HB.out)).mono ?_
    rintro e w1 ⟨rfl, rfl⟩
    go_wp2
    go_ret
    exact ⟨rfl, HB.out⟩
  · have hd : decide ((xs, s) = (ys, t)) = false := decide_eq_false (by intro e; exact hst (Prod.mk.inj e).2)
    rw [hd]
    have hss : ((s : Int) == (t : Int)) = false := by simp; omega
    go_enter Tryd.func56, Tryd.ntmps56
    go_wp2
    go_ret
    exact ⟨rfl, HB.out⟩

/-! ### what both answer -/
theorem is_unique {q : Bt} {l l' : List Sm} (h : Is q l) (h' : Is q l') : l = l' := (read_back h).2.symm.trans (read_back h').2
open Classical in
noncomputable def unpB (zs : List Int) (s : Int) : List Sm × Bool := if h : good zs s = true ∧ ∃ l, Is (zs, s.toNat) l then (Classical.choose h.2, true) else ([], false)
theorem unpB_yes {zs : List Int} {s : Nat} {l : List Sm} (hg : good zs s = true) (h : Is (zs, s) l) : unpB zs s = (l, true) := by
  have hx : good zs (s : Int) = true ∧ ∃ l, Is (zs, (s : Int).toNat) l := ⟨hg, l, by rw [Int.toNat_natCast]; exact h⟩
  unfold unpB
  rw [dif_pos hx]
  have h2 := Classical.choose_spec hx.2
  have e := is_unique (show Is (zs, s) _ from h2) h
  exact Prod.ext e rfl
theorem unpB_no {zs : List Int} {s : Nat} (h : ¬ ∃ l, Is (zs, s) l) : unpB zs s = ([], false) := by
  unfold unpB
  rw [dif_neg (by rintro ⟨_, l, hl⟩; rw [Int.toNat_natCast] at hl; exact h ⟨l, hl⟩)]
theorem unpB_bad {zs : List Int} {s : Int} (h : good zs s = false) : unpB zs s = ([], false) := by
  unfold unpB
  rw [dif_neg (by rintro ⟨hg, _⟩; rw [h] at hg; cases hg)]
theorem unpB_len (zs : List Int) (s : Int) : (unpB zs s).1.length ≤ 120 := by
  unfold unpB
  split
  · rename_i h; exact (Classical.choose_spec h.2).2.1
  · simp
/-- What UnpackChunk answers. -/
def Ans (w : World) (r : List Sm × Bool) (e : Ending) (w' : World) : Prop := ∃ v, e = .returned (.tuple #[v, .bool r.2]) ∧ Smp.Own w' w.heap.size v r.1 ∧ Below w.heap.size w w'
abbrev S2b (B : Nat) (a : Option Addr) (n c : Nat) (s : Int) (w' : World) : Prop := w'.cell? ⟨B, 0, none⟩ = some (.slice a n c) ∧ w'.cell? ⟨B, 1, none⟩ = some (.int .i64 s) ∧ w'.heap[B]? = some (.cells #[.slice a n c, .int .i64 s] 26 (0, 0))
theorem s2b_of {B : Nat} {a : Option Addr} {n c : Nat} {s : Int} {w' : World} (h : w'.heap[B]? = some (.cells #[.slice a n c, .int .i64 s] 26 (0, 0))) : S2b B a n c s w' := ⟨cell_at h 0, cell_at h 1, h⟩
theorem S2b.below {B : Nat} {a : Option Addr} {n c : Nat} {s : Int} {W w' : World} (h : S2b B a n c s W) (hb : Below W.heap.size W w') : S2b B a n c s w' := s2b_of (box_below h.2.2 hb)

theorem hasB {w : World} {B : Nat} {a : Option Addr} {n cap : Nat} {p : Bt} (h : w.ownsRow B 5 1 (.slice a n cap) n (p.1.map (Value.int .u8))) : p.1.length = n ∧ Byt.Has w a p.1 := by
  have hl : p.1.length = n := by have := h.1; rw [List.length_map, Nat.mul_one] at this; exact this
  refine ⟨hl, ?_⟩
  rcases h.2 with ⟨h1, h2⟩ | ⟨g, c, cur, h1, _⟩
  · exact .inl (List.eq_nil_of_length_eq_zero (by omega))
  · simp only [Value.slice.injEq] at h1
    obtain ⟨rfl, -, rfl⟩ := h1
    exact Byt.Has.own h
set_option maxRecDepth 100000 in
set_option maxHeartbeats 8000000 in
theorem unpackM (a : Option Addr) (n c s : Nat) (zs : List Int) (w : World) (hk : Mk0 n s zs) (hr : Byt.Has w a zs) (hg : good zs s = true) (hG : GB (zs, s)) :
    Calls Tryd.prog 28 #[.agg #[.slice a n c, .int .i64 (s : Int)]] w (Ans w (unpB zs s)) := by
  have HK := hid hk
  have HR := hid hr
  obtain ⟨l0, hl0⟩ : ∃ l0, (∃ l, Is (zs, s) l) → Is (zs, s) l0 := by
    by_cases h : ∃ l, Is (zs, s) l
    · exact ⟨h.choose, fun _ => h.choose_spec⟩
    · exact ⟨[], fun h' => absurd h' h⟩
  have HL0 := hid hl0
  have HBA := hid ((Below.refl w.heap.size w).alloc (Nat.le_refl _) (.cells #[.slice a n c, .int .i64 (s : Int)] 26))
  have HXA := hid (heap_alloc_new w (.cells #[.slice a n c, .int .i64 (s : Int)] 26))
  have HGB := hid hG
  have HGD := hid hg
  clear hk hr hl0
  go_enter Tryd.func28, Tryd.ntmps28
  go_wp2_with fail
  refine (f54 a n c s zs _ HK.out.dk.len HK.out.dk.le (HR.out.below HBA.out) HK.out.dk.byte).mono ?_
  rw [hg]
  rintro e w1 ⟨rfl, hb1⟩
  have HX1 := hid (box_below HXA.out hb1)
  have HB1 := hid (HBA.out.trans (hb1.mono HBA.out.size))
  have x0 : w1.cell? ⟨w.heap.size, 0, none⟩ = some (.slice a n c) := cell_at HX1.out 0
  have x1 : w1.cell? ⟨w.heap.size, 1, none⟩ = some (.int .i64 (s : Int)) := cell_at HX1.out 1
  clear hb1 hg hG
  go_wp2_with fail
  refine (f55 a n c s zs l0 w1 HK.out (HR.out.below HB1.out)).mono ?_
  rintro e w4 ⟨v0, L, b, rfl, ho4, hl4, hv4, hb4, hk4⟩
  have HX4 := hid (box_below HX1.out hb4)
  have HB4 := hid (HB1.out.trans (hb4.mono HB1.out.size))
  have HO4 := hid (Smp.Own.mono ho4 HB1.out.size)
  have HV4 := hid hv4
  have HK4 := hid hk4
  obtain ⟨av, cv', rfl⟩ := own_form ho4
  have HHS := hid ((Smp.Own.has ho4).2)
  have HSB := hid (s2b_of HX4.out)
  have x2 : w4.cell? ⟨w.heap.size, 0, none⟩ = some (.slice a n c) := cell_at HX4.out 0
  have x3 : w4.cell? ⟨w.heap.size, 1, none⟩ = some (.int .i64 (s : Int)) := cell_at HX4.out 1
  clear hb4 ho4 hv4 hk4 x0 x1
  -- nothing is a chunk unless what was read, packed again, is the bits
  have hno : (¬ (b = true ∧ GoodP L ∧ L.length ≤ 120 ∧ (packK L L.length).b = (zs, s))) → unpB zs s = ([], false) := by
    intro h
    refine unpB_no fun hex => h ?_
    have h0 := HL0.out hex
    obtain ⟨e1, e2⟩ := HK4.out h0
    rw [e1]
    exact ⟨e2, h0.1, h0.2.1, h0.2.2.2⟩
  have hans : unpB zs s = ([], false) → ∀ W, Below w.heap.size w W → Ans w (unpB zs s) (.returned (.tuple #[.slice none 0 0, .bool false])) W := fun he W hW => by rw [he]; exact ⟨_, rfl, Smp.Own.nil _ _, hW⟩
  have HHD : Hid (HasS w4.drew av L) := HHS.out.below (Below.refl _ w4).drew
  have HNO := hid hno
  have hGS := fun (W : World) (hh : HasS W av L) => Smp.f10 av cv' L W (by omega) hh
  clear hno
  cases b with
  | false =>
    have he := HNO.out (by rintro ⟨h, _⟩; cases h)
    have HAN := hid (hans he)
    clear he hans
    go_wp2_with fail
    go_quiet (fail)
    go_wp2
    go_ret2
    exact HAN.out _ (below_drewN HB4.out _)
  | true =>
    by_cases hgp : GoodP L
    · have hgs : goodS L = true := decide_eq_true hgp
      rw [hgs] at hGS
      have HGS := hid hGS
      by_cases h120 : L.length ≤ 120
      · have HGP := hid hgp
        have HGK := hid (packK_ok L L.length h120).1
        have h120' : ¬ ((120 : Int) < (L.length : Int)) := by omega
        have hyes : (packK L L.length).b = (zs, s) → ∀ W, Below w4.heap.size w4 W → Ans w (unpB zs s) (.returned (.tuple #[.slice av L.length cv', .bool true])) W := by
          intro e W hW
          rw [unpB_yes HGD.out ⟨HGP.out, h120, HV4.out, e⟩]
          exact ⟨_, rfl, HO4.out.below hW, HB4.out.trans (hW.mono HB4.out.size)⟩
        have HYE := hid hyes
        have HHN : Hid ((packK L L.length).b ≠ (zs, s) → ∀ W, Below w4.heap.size w4 W → Ans w (unpB zs s) (.returned (.tuple #[.slice none 0 0, .bool false])) W) := fun e W hW => hans (HNO.out (by rintro ⟨_, _, _, h⟩; exact e h)) W (HB4.out.trans (hW.mono HB4.out.size))
        clear hGS hgs hgp hans hyes x2 x3
        by_cases hpk : (packK L L.length).b = (zs, s)
        · have hd : decide ((packK L L.length).b = (zs, s)) = true := decide_eq_true hpk
          have HD := hid hd
          have HAN := hid (HYE.out hpk)
          clear hpk hd HHN HYE
          go_wp2_with fail
          refine wp_region_held_drew (S := fun x => S2b w.heap.size a n c (s : Int) x) rfl HSB.out (fun hHeld => ?_)
          refine wpAnyH_take (i := 0) (oi := { dst := some 14, op := Op.move (Operand.tmp 5), type := 4, pos := "l6_chunk.go:165", after := #[], guard := none }) (v := .bool true) rfl (by kernel_rfl) (by kernel_rfl) (by kernel_rfl) (fun _ _ _ h => h) (Or.inl ⟨by rfl, fun w hSw => by (try dsimp only at hSw); go_split_ands; go_simp⟩) (by assumption) ?_
          simp only [Act.put, List.setIfInBounds_toArray, List.set_cons_zero, List.set_cons_succ]
          refine wpAnyH_take (i := 1) (oi := { dst := some 15, op := Op.unOp UnOp.not 4 (Operand.tmp 14), type := 4, pos := "l6_chunk.go:165", after := #[{ on := 0, ground := Ground.data }], guard := none }) (v := .bool false) rfl (by kernel_rfl) (by kernel_rfl) (by kernel_rfl) (fun _ _ _ h => h) (Or.inl ⟨by rfl, fun w hSw => by (try dsimp only at hSw); go_split_ands; go_simp⟩) (by assumption) ?_
          simp only [Act.put, List.setIfInBounds_toArray, List.set_cons_zero, List.set_cons_succ]
          refine wpAnyH_take (i := 2) (oi := { dst := some 16, op := Op.move (Operand.tmp 15), type := 4, pos := "l6_chunk.go:165", after := #[{ on := 1, ground := Ground.data }], guard := none }) (v := .bool false) rfl (by kernel_rfl) (by kernel_rfl) (by kernel_rfl) (fun _ _ _ h => h) (Or.inl ⟨by rfl, fun w hSw => by (try dsimp only at hSw); go_split_ands; go_simp⟩) (by assumption) ?_
          simp only [Act.put, List.setIfInBounds_toArray, List.set_cons_zero, List.set_cons_succ]
          refine wpAnyH_take (i := 3) (oi := { dst := some 17, op := Op.move (Operand.tmp 4), type := 23, pos := "l6_chunk.go:165", after := #[{ on := 2, ground := Ground.guard }], guard := some (2, false) }) (v := .slice av L.length cv') rfl (by kernel_rfl) (by kernel_rfl) (by kernel_rfl) (fun _ _ _ h => h) (Or.inl ⟨by rfl, fun w hSw => by (try dsimp only at hSw); go_split_ands; go_simp⟩) (by assumption) ?_
          simp only [Act.put, List.setIfInBounds_toArray, List.set_cons_zero, List.set_cons_succ]
          refine wpAnyH_ready (rs := [4]) (by kernel_rfl) (by simp) (AllReadyH.cons (o := { dst := some 18, op := Op.call { callee := Callee.value (Operand.func 10), args := #[Operand.tmp 17], argTypes := #[23] }, type := 4, pos := "l6_chunk.go:165", after := #[{ on := 3, ground := Ground.data }, { on := 2, ground := Ground.chain }, { on := 2, ground := Ground.guard }], guard := some (2, false) }) rfl ?_ AllReadyH.nil)
          intro K1 hK1
          go_simp
          go_wp2_with (go_at_call 10; refine (HGS.out _ HHD.out).mono ?_; rintro e w5 ⟨rfl, hb5⟩; have hh5 := HHD.out.below hb5; have hs5 := s2b_of (box_below (w := World.drew _) HX4.out hb5))
          refine hK1.out _ _ hs5 (fun _ => ?_)
          clear hK1 K1
          refine wpAnyH_take (i := 5) (oi := { dst := some 19, op := Op.unOp UnOp.not 4 (Operand.tmp 18), type := 4, pos := "l6_chunk.go:165", after := #[{ on := 4, ground := Ground.data }, { on := 2, ground := Ground.guard }], guard := some (2, false) }) (v := .bool false) rfl (by kernel_rfl) (by kernel_rfl) (by kernel_rfl) (fun _ _ _ h => h) (Or.inl ⟨by rfl, fun w hSw => by (try dsimp only at hSw); go_split_ands; go_simp⟩) (by assumption) ?_
          simp only [Act.put, List.setIfInBounds_toArray, List.set_cons_zero, List.set_cons_succ]
          refine wpAnyH_take (i := 6) (oi := { dst := some 20, op := Op.pick (Operand.tmp 16) (Operand.const (Value.bool true)) (Operand.tmp 19), type := 4, pos := "l6_chunk.go:165", after := #[{ on := 2, ground := Ground.data }, { on := 5, ground := Ground.data }], guard := none }) (v := .bool false) rfl (by kernel_rfl) (by kernel_rfl) (by kernel_rfl) (fun _ _ _ h => h) (Or.inl ⟨by rfl, fun w hSw => by (try dsimp only at hSw); go_split_ands; go_simp⟩) (by assumption) ?_
          simp only [Act.put, List.setIfInBounds_toArray, List.set_cons_zero, List.set_cons_succ]
          refine wpAnyH_take (i := 7) (oi := { dst := some 21, op := Op.move (Operand.tmp 20), type := 4, pos := "l6_chunk.go:165", after := #[{ on := 6, ground := Ground.data }, { on := 4, ground := Ground.chain }], guard := none }) (v := .bool false) rfl (by kernel_rfl) (by kernel_rfl) (by kernel_rfl) (fun _ _ _ h => h) (Or.inl ⟨by rfl, fun w hSw => by (try dsimp only at hSw); go_split_ands; go_simp⟩) (by assumption) ?_
          simp only [Act.put, List.setIfInBounds_toArray, List.set_cons_zero, List.set_cons_succ]
          refine wpAnyH_take (i := 8) (oi := { dst := some 22, op := Op.move (Operand.tmp 4), type := 23, pos := "l6_chunk.go:165", after := #[{ on := 7, ground := Ground.guard }], guard := some (7, false) }) (v := .slice av L.length cv') rfl (by kernel_rfl) (by kernel_rfl) (by kernel_rfl) (fun _ _ _ h => h) (Or.inl ⟨by rfl, fun w hSw => by (try dsimp only at hSw); go_split_ands; go_simp⟩) (by assumption) ?_
          simp only [Act.put, List.setIfInBounds_toArray, List.set_cons_zero, List.set_cons_succ]
          refine wpAnyH_take (i := 9) (oi := { dst := some 23, op := Op.call { callee := Callee.builtin Builtin.len, args := #[Operand.tmp 22], argTypes := #[23] }, type := 3, pos := "l6_chunk.go:165", after := #[{ on := 8, ground := Ground.data }, { on := 7, ground := Ground.guard }], guard := some (7, false) }) (v := .int .i64 (L.length : Int)) rfl (by kernel_rfl) (by kernel_rfl) (by kernel_rfl) (fun _ _ _ h => h) (Or.inl ⟨by rfl, fun w hSw => by (try dsimp only at hSw); go_split_ands; go_simp⟩) (by assumption) ?_
          simp only [Act.put, List.setIfInBounds_toArray, List.set_cons_zero, List.set_cons_succ]
          refine wpAnyH_take (i := 10) (oi := { dst := some 24, op := Op.binOp BinOp.gtr 3 (Operand.tmp 23) (Operand.const (Value.int IntKind.i64 120)) 3, type := 4, pos := "l6_chunk.go:165", after := #[{ on := 9, ground := Ground.data }, { on := 7, ground := Ground.guard }], guard := some (7, false) }) (v := .bool false) rfl (by kernel_rfl) (by kernel_rfl) (by kernel_rfl) (fun _ _ _ h => h) (Or.inl ⟨by rfl, fun w hSw => by (try dsimp only at hSw); go_split_ands; go_simp⟩) (by assumption) ?_
          simp only [Act.put, List.setIfInBounds_toArray, List.set_cons_zero, List.set_cons_succ]
          refine wpAnyH_take (i := 11) (oi := { dst := some 25, op := Op.pick (Operand.tmp 21) (Operand.const (Value.bool true)) (Operand.tmp 24), type := 4, pos := "l6_chunk.go:165", after := #[{ on := 7, ground := Ground.data }, { on := 10, ground := Ground.data }], guard := none }) (v := .bool false) rfl (by kernel_rfl) (by kernel_rfl) (by kernel_rfl) (fun _ _ _ h => h) (Or.inl ⟨by rfl, fun w hSw => by (try dsimp only at hSw); go_split_ands; go_simp⟩) (by assumption) ?_
          simp only [Act.put, List.setIfInBounds_toArray, List.set_cons_zero, List.set_cons_succ]
          refine wpAnyH_take (i := 12) (oi := { dst := some 26, op := Op.move (Operand.tmp 25), type := 4, pos := "l6_chunk.go:165", after := #[{ on := 11, ground := Ground.data }, { on := 7, ground := Ground.chain }], guard := none }) (v := .bool false) rfl (by kernel_rfl) (by kernel_rfl) (by kernel_rfl) (fun _ _ _ h => h) (Or.inl ⟨by rfl, fun w hSw => by (try dsimp only at hSw); go_split_ands; go_simp⟩) (by assumption) ?_
          simp only [Act.put, List.setIfInBounds_toArray, List.set_cons_zero, List.set_cons_succ]
          refine wpAnyH_take (i := 13) (oi := { dst := some 27, op := Op.move (Operand.tmp 4), type := 23, pos := "l6_chunk.go:165", after := #[{ on := 12, ground := Ground.guard }], guard := some (12, false) }) (v := .slice av L.length cv') rfl (by kernel_rfl) (by kernel_rfl) (by kernel_rfl) (fun _ _ _ h => h) (Or.inl ⟨by rfl, fun w hSw => by (try dsimp only at hSw); go_split_ands; go_simp⟩) (by assumption) ?_
          simp only [Act.put, List.setIfInBounds_toArray, List.set_cons_zero, List.set_cons_succ]
          refine wpAnyH_take (i := 15) (oi := { dst := some 29, op := Op.load 26 (Operand.tmp 1), type := 26, pos := "l6_chunk.go:165", after := #[{ on := 12, ground := Ground.guard }], guard := some (12, false) }) (v := .agg #[.slice a n c, .int .i64 (s : Int)]) rfl (by kernel_rfl) (by kernel_rfl) (by kernel_rfl) (fun _ _ _ h => h) (Or.inl ⟨by rfl, fun w hSw => by (try dsimp only at hSw); go_split_ands; go_simp⟩) (by assumption) ?_
          simp only [Act.put, List.setIfInBounds_toArray, List.set_cons_zero, List.set_cons_succ]
          refine wpAnyH_ready (rs := [14]) (by kernel_rfl) (by simp) (AllReadyH.cons (o := { dst := some 28, op := Op.call { callee := Callee.value (Operand.func 48), args := #[Operand.tmp 27], argTypes := #[23] }, type := 26, pos := "l6_chunk.go:165", after := #[{ on := 13, ground := Ground.data }, { on := 12, ground := Ground.chain }, { on := 12, ground := Ground.guard }], guard := some (12, false) }) rfl ?_ AllReadyH.nil)
          intro K2 hK2
          go_simp
          go_wp2_with (go_at_call 48; refine (f48 av cv' L _ HGP.out h120 hh5).mono ?_; rintro e w6 ⟨v6, rfl, ⟨a6, n6, c6, rfl, how6⟩, hb6⟩; have hs6 := s2b_of (box_below hs5.2.2 hb6))
          refine hK2.out _ _ hs6 (fun _ => ?_)
          clear hK2 K2
          refine wpAnyH_ready (rs := [16]) (by kernel_rfl) (by simp) (AllReadyH.cons (o := { dst := some 30, op := Op.call { callee := Callee.value (Operand.func 56), args := #[Operand.tmp 28, Operand.tmp 29], argTypes := #[26, 26] }, type := 4, pos := "l6_chunk.go:165", after := #[{ on := 14, ground := Ground.data }, { on := 15, ground := Ground.data }, { on := 14, ground := Ground.chain }, { on := 12, ground := Ground.guard }], guard := some (12, false) }) rfl ?_ AllReadyH.nil)
          intro K3 hK3
          go_simp
          go_wp2_with (go_at_call 56; refine (f56 a6 a n6 n c6 c (packK L L.length).b (zs, s) _ (hasB how6).1 HK.out.dk.len (hasB how6).2 (HR.out.below (HB4.out.trans (((Bts.below_drew hb5).trans (hb6.mono hb5.size)).mono HB4.out.size))) HGK.out HGB.out).mono ?_; rw [HD.out]; rintro e w7 ⟨rfl, hb7⟩; have hs7 := s2b_of (box_below hs6.2.2 hb7))
          refine hK3.out _ _ hs7 (fun _ => ?_)
          clear hK3 K3
          refine wpAnyH_take (i := 17) (oi := { dst := some 31, op := Op.unOp UnOp.not 4 (Operand.tmp 30), type := 4, pos := "l6_chunk.go:165", after := #[{ on := 16, ground := Ground.data }, { on := 12, ground := Ground.guard }], guard := some (12, false) }) (v := .bool false) rfl (by kernel_rfl) (by kernel_rfl) (by kernel_rfl) (fun _ _ _ h => h) (Or.inl ⟨by rfl, fun w hSw => by (try dsimp only at hSw); go_split_ands; go_simp⟩) (by assumption) ?_
          simp only [Act.put, List.setIfInBounds_toArray, List.set_cons_zero, List.set_cons_succ]
          refine wpAnyH_take (i := 18) (oi := { dst := some 32, op := Op.pick (Operand.tmp 26) (Operand.const (Value.bool true)) (Operand.tmp 31), type := 4, pos := "l6_chunk.go:165", after := #[{ on := 12, ground := Ground.data }, { on := 17, ground := Ground.data }], guard := none }) (v := .bool false) rfl (by kernel_rfl) (by kernel_rfl) (by kernel_rfl) (fun _ _ _ h => h) (Or.inl ⟨by rfl, fun w hSw => by (try dsimp only at hSw); go_split_ands; go_simp⟩) (by assumption) ?_
          simp only [Act.put, List.setIfInBounds_toArray, List.set_cons_zero, List.set_cons_succ]
          refine wpAnyH_done (by kernel_rfl) ?_ _
          have HW7 := hid (((Bts.below_drew hb5).trans (hb6.mono hb5.size)).trans (hb7.mono (Nat.le_trans hb5.size hb6.size)))
          clear hs5 hs6 hs7 hb5 hb6 hb7 hh5 how6
          go_wp2
          go_ret2
          exact HAN.out w7 HW7.out
        · have hd : decide ((packK L L.length).b = (zs, s)) = false := decide_eq_false hpk
          have HD := hid hd
          have HAN := hid (HHN.out hpk)
          clear hpk hd HHN HYE
          go_wp2_with fail
          refine wp_region_held_drew (S := fun x => S2b w.heap.size a n c (s : Int) x) rfl HSB.out (fun hHeld => ?_)
          refine wpAnyH_take (i := 0) (oi := { dst := some 14, op := Op.move (Operand.tmp 5), type := 4, pos := "l6_chunk.go:165", after := #[], guard := none }) (v := .bool true) rfl (by kernel_rfl) (by kernel_rfl) (by kernel_rfl) (fun _ _ _ h => h) (Or.inl ⟨by rfl, fun w hSw => by (try dsimp only at hSw); go_split_ands; go_simp⟩) (by assumption) ?_
          simp only [Act.put, List.setIfInBounds_toArray, List.set_cons_zero, List.set_cons_succ]
          refine wpAnyH_take (i := 1) (oi := { dst := some 15, op := Op.unOp UnOp.not 4 (Operand.tmp 14), type := 4, pos := "l6_chunk.go:165", after := #[{ on := 0, ground := Ground.data }], guard := none }) (v := .bool false) rfl (by kernel_rfl) (by kernel_rfl) (by kernel_rfl) (fun _ _ _ h => h) (Or.inl ⟨by rfl, fun w hSw => by (try dsimp only at hSw); go_split_ands; go_simp⟩) (by assumption) ?_
          simp only [Act.put, List.setIfInBounds_toArray, List.set_cons_zero, List.set_cons_succ]
          refine wpAnyH_take (i := 2) (oi := { dst := some 16, op := Op.move (Operand.tmp 15), type := 4, pos := "l6_chunk.go:165", after := #[{ on := 1, ground := Ground.data }], guard := none }) (v := .bool false) rfl (by kernel_rfl) (by kernel_rfl) (by kernel_rfl) (fun _ _ _ h => h) (Or.inl ⟨by rfl, fun w hSw => by (try dsimp only at hSw); go_split_ands; go_simp⟩) (by assumption) ?_
          simp only [Act.put, List.setIfInBounds_toArray, List.set_cons_zero, List.set_cons_succ]
          refine wpAnyH_take (i := 3) (oi := { dst := some 17, op := Op.move (Operand.tmp 4), type := 23, pos := "l6_chunk.go:165", after := #[{ on := 2, ground := Ground.guard }], guard := some (2, false) }) (v := .slice av L.length cv') rfl (by kernel_rfl) (by kernel_rfl) (by kernel_rfl) (fun _ _ _ h => h) (Or.inl ⟨by rfl, fun w hSw => by (try dsimp only at hSw); go_split_ands; go_simp⟩) (by assumption) ?_
          simp only [Act.put, List.setIfInBounds_toArray, List.set_cons_zero, List.set_cons_succ]
          refine wpAnyH_ready (rs := [4]) (by kernel_rfl) (by simp) (AllReadyH.cons (o := { dst := some 18, op := Op.call { callee := Callee.value (Operand.func 10), args := #[Operand.tmp 17], argTypes := #[23] }, type := 4, pos := "l6_chunk.go:165", after := #[{ on := 3, ground := Ground.data }, { on := 2, ground := Ground.chain }, { on := 2, ground := Ground.guard }], guard := some (2, false) }) rfl ?_ AllReadyH.nil)
          intro K1 hK1
          go_simp
          go_wp2_with (go_at_call 10; refine (HGS.out _ HHD.out).mono ?_; rintro e w5 ⟨rfl, hb5⟩; have hh5 := HHD.out.below hb5; have hs5 := s2b_of (box_below (w := World.drew _) HX4.out hb5))
          refine hK1.out _ _ hs5 (fun _ => ?_)
          clear hK1 K1
          refine wpAnyH_take (i := 5) (oi := { dst := some 19, op := Op.unOp UnOp.not 4 (Operand.tmp 18), type := 4, pos := "l6_chunk.go:165", after := #[{ on := 4, ground := Ground.data }, { on := 2, ground := Ground.guard }], guard := some (2, false) }) (v := .bool false) rfl (by kernel_rfl) (by kernel_rfl) (by kernel_rfl) (fun _ _ _ h => h) (Or.inl ⟨by rfl, fun w hSw => by (try dsimp only at hSw); go_split_ands; go_simp⟩) (by assumption) ?_
          simp only [Act.put, List.setIfInBounds_toArray, List.set_cons_zero, List.set_cons_succ]
          refine wpAnyH_take (i := 6) (oi := { dst := some 20, op := Op.pick (Operand.tmp 16) (Operand.const (Value.bool true)) (Operand.tmp 19), type := 4, pos := "l6_chunk.go:165", after := #[{ on := 2, ground := Ground.data }, { on := 5, ground := Ground.data }], guard := none }) (v := .bool false) rfl (by kernel_rfl) (by kernel_rfl) (by kernel_rfl) (fun _ _ _ h => h) (Or.inl ⟨by rfl, fun w hSw => by (try dsimp only at hSw); go_split_ands; go_simp⟩) (by assumption) ?_
          simp only [Act.put, List.setIfInBounds_toArray, List.set_cons_zero, List.set_cons_succ]
          refine wpAnyH_take (i := 7) (oi := { dst := some 21, op := Op.move (Operand.tmp 20), type := 4, pos := "l6_chunk.go:165", after := #[{ on := 6, ground := Ground.data }, { on := 4, ground := Ground.chain }], guard := none }) (v := .bool false) rfl (by kernel_rfl) (by kernel_rfl) (by kernel_rfl) (fun _ _ _ h => h) (Or.inl ⟨by rfl, fun w hSw => by (try dsimp only at hSw); go_split_ands; go_simp⟩) (by assumption) ?_
          simp only [Act.put, List.setIfInBounds_toArray, List.set_cons_zero, List.set_cons_succ]
          refine wpAnyH_take (i := 8) (oi := { dst := some 22, op := Op.move (Operand.tmp 4), type := 23, pos := "l6_chunk.go:165", after := #[{ on := 7, ground := Ground.guard }], guard := some (7, false) }) (v := .slice av L.length cv') rfl (by kernel_rfl) (by kernel_rfl) (by kernel_rfl) (fun _ _ _ h => h) (Or.inl ⟨by rfl, fun w hSw => by (try dsimp only at hSw); go_split_ands; go_simp⟩) (by assumption) ?_
          simp only [Act.put, List.setIfInBounds_toArray, List.set_cons_zero, List.set_cons_succ]
          refine wpAnyH_take (i := 9) (oi := { dst := some 23, op := Op.call { callee := Callee.builtin Builtin.len, args := #[Operand.tmp 22], argTypes := #[23] }, type := 3, pos := "l6_chunk.go:165", after := #[{ on := 8, ground := Ground.data }, { on := 7, ground := Ground.guard }], guard := some (7, false) }) (v := .int .i64 (L.length : Int)) rfl (by kernel_rfl) (by kernel_rfl) (by kernel_rfl) (fun _ _ _ h => h) (Or.inl ⟨by rfl, fun w hSw => by (try dsimp only at hSw); go_split_ands; go_simp⟩) (by assumption) ?_
          simp only [Act.put, List.setIfInBounds_toArray, List.set_cons_zero, List.set_cons_succ]
          refine wpAnyH_take (i := 10) (oi := { dst := some 24, op := Op.binOp BinOp.gtr 3 (Operand.tmp 23) (Operand.const (Value.int IntKind.i64 120)) 3, type := 4, pos := "l6_chunk.go:165", after := #[{ on := 9, ground := Ground.data }, { on := 7, ground := Ground.guard }], guard := some (7, false) }) (v := .bool false) rfl (by kernel_rfl) (by kernel_rfl) (by kernel_rfl) (fun _ _ _ h => h) (Or.inl ⟨by rfl, fun w hSw => by (try dsimp only at hSw); go_split_ands; go_simp⟩) (by assumption) ?_
          simp only [Act.put, List.setIfInBounds_toArray, List.set_cons_zero, List.set_cons_succ]
          refine wpAnyH_take (i := 11) (oi := { dst := some 25, op := Op.pick (Operand.tmp 21) (Operand.const (Value.bool true)) (Operand.tmp 24), type := 4, pos := "l6_chunk.go:165", after := #[{ on := 7, ground := Ground.data }, { on := 10, ground := Ground.data }], guard := none }) (v := .bool false) rfl (by kernel_rfl) (by kernel_rfl) (by kernel_rfl) (fun _ _ _ h => h) (Or.inl ⟨by rfl, fun w hSw => by (try dsimp only at hSw); go_split_ands; go_simp⟩) (by assumption) ?_
          simp only [Act.put, List.setIfInBounds_toArray, List.set_cons_zero, List.set_cons_succ]
          refine wpAnyH_take (i := 12) (oi := { dst := some 26, op := Op.move (Operand.tmp 25), type := 4, pos := "l6_chunk.go:165", after := #[{ on := 11, ground := Ground.data }, { on := 7, ground := Ground.chain }], guard := none }) (v := .bool false) rfl (by kernel_rfl) (by kernel_rfl) (by kernel_rfl) (fun _ _ _ h => h) (Or.inl ⟨by rfl, fun w hSw => by (try dsimp only at hSw); go_split_ands; go_simp⟩) (by assumption) ?_
          simp only [Act.put, List.setIfInBounds_toArray, List.set_cons_zero, List.set_cons_succ]
          refine wpAnyH_take (i := 13) (oi := { dst := some 27, op := Op.move (Operand.tmp 4), type := 23, pos := "l6_chunk.go:165", after := #[{ on := 12, ground := Ground.guard }], guard := some (12, false) }) (v := .slice av L.length cv') rfl (by kernel_rfl) (by kernel_rfl) (by kernel_rfl) (fun _ _ _ h => h) (Or.inl ⟨by rfl, fun w hSw => by (try dsimp only at hSw); go_split_ands; go_simp⟩) (by assumption) ?_
          simp only [Act.put, List.setIfInBounds_toArray, List.set_cons_zero, List.set_cons_succ]
          refine wpAnyH_take (i := 15) (oi := { dst := some 29, op := Op.load 26 (Operand.tmp 1), type := 26, pos := "l6_chunk.go:165", after := #[{ on := 12, ground := Ground.guard }], guard := some (12, false) }) (v := .agg #[.slice a n c, .int .i64 (s : Int)]) rfl (by kernel_rfl) (by kernel_rfl) (by kernel_rfl) (fun _ _ _ h => h) (Or.inl ⟨by rfl, fun w hSw => by (try dsimp only at hSw); go_split_ands; go_simp⟩) (by assumption) ?_
          simp only [Act.put, List.setIfInBounds_toArray, List.set_cons_zero, List.set_cons_succ]
          refine wpAnyH_ready (rs := [14]) (by kernel_rfl) (by simp) (AllReadyH.cons (o := { dst := some 28, op := Op.call { callee := Callee.value (Operand.func 48), args := #[Operand.tmp 27], argTypes := #[23] }, type := 26, pos := "l6_chunk.go:165", after := #[{ on := 13, ground := Ground.data }, { on := 12, ground := Ground.chain }, { on := 12, ground := Ground.guard }], guard := some (12, false) }) rfl ?_ AllReadyH.nil)
          intro K2 hK2
          go_simp
          go_wp2_with (go_at_call 48; refine (f48 av cv' L _ HGP.out h120 hh5).mono ?_; rintro e w6 ⟨v6, rfl, ⟨a6, n6, c6, rfl, how6⟩, hb6⟩; have hs6 := s2b_of (box_below hs5.2.2 hb6))
          refine hK2.out _ _ hs6 (fun _ => ?_)
          clear hK2 K2
          refine wpAnyH_ready (rs := [16]) (by kernel_rfl) (by simp) (AllReadyH.cons (o := { dst := some 30, op := Op.call { callee := Callee.value (Operand.func 56), args := #[Operand.tmp 28, Operand.tmp 29], argTypes := #[26, 26] }, type := 4, pos := "l6_chunk.go:165", after := #[{ on := 14, ground := Ground.data }, { on := 15, ground := Ground.data }, { on := 14, ground := Ground.chain }, { on := 12, ground := Ground.guard }], guard := some (12, false) }) rfl ?_ AllReadyH.nil)
          intro K3 hK3
          go_simp
          go_wp2_with (go_at_call 56; refine (f56 a6 a n6 n c6 c (packK L L.length).b (zs, s) _ (hasB how6).1 HK.out.dk.len (hasB how6).2 (HR.out.below (HB4.out.trans (((Bts.below_drew hb5).trans (hb6.mono hb5.size)).mono HB4.out.size))) HGK.out HGB.out).mono ?_; rw [HD.out]; rintro e w7 ⟨rfl, hb7⟩; have hs7 := s2b_of (box_below hs6.2.2 hb7))
          refine hK3.out _ _ hs7 (fun _ => ?_)
          clear hK3 K3
          refine wpAnyH_take (i := 17) (oi := { dst := some 31, op := Op.unOp UnOp.not 4 (Operand.tmp 30), type := 4, pos := "l6_chunk.go:165", after := #[{ on := 16, ground := Ground.data }, { on := 12, ground := Ground.guard }], guard := some (12, false) }) (v := .bool true) rfl (by kernel_rfl) (by kernel_rfl) (by kernel_rfl) (fun _ _ _ h => h) (Or.inl ⟨by rfl, fun w hSw => by (try dsimp only at hSw); go_split_ands; go_simp⟩) (by assumption) ?_
          simp only [Act.put, List.setIfInBounds_toArray, List.set_cons_zero, List.set_cons_succ]
          refine wpAnyH_take (i := 18) (oi := { dst := some 32, op := Op.pick (Operand.tmp 26) (Operand.const (Value.bool true)) (Operand.tmp 31), type := 4, pos := "l6_chunk.go:165", after := #[{ on := 12, ground := Ground.data }, { on := 17, ground := Ground.data }], guard := none }) (v := .bool true) rfl (by kernel_rfl) (by kernel_rfl) (by kernel_rfl) (fun _ _ _ h => h) (Or.inl ⟨by rfl, fun w hSw => by (try dsimp only at hSw); go_split_ands; go_simp⟩) (by assumption) ?_
          simp only [Act.put, List.setIfInBounds_toArray, List.set_cons_zero, List.set_cons_succ]
          refine wpAnyH_done (by kernel_rfl) ?_ _
          have HW7 := hid (((Bts.below_drew hb5).trans (hb6.mono hb5.size)).trans (hb7.mono (Nat.le_trans hb5.size hb6.size)))
          clear hs5 hs6 hs7 hb5 hb6 hb7 hh5 how6
          go_wp2
          go_ret2
          exact HAN.out w7 HW7.out
      · have he := HNO.out (by rintro ⟨_, _, h, _⟩; exact h120 h)
        have hgt : (120 : Int) < (L.length : Int) := by omega
        have HAN := hid (hans he)
        clear hGS hgs hgp he hans
        go_wp2_with fail
        refine wp_region_held_drew (S := fun x => S2b w.heap.size a n c (s : Int) x) rfl HSB.out (fun hHeld => ?_)
        refine wpAnyH_take (i := 0) (oi := { dst := some 14, op := Op.move (Operand.tmp 5), type := 4, pos := "l6_chunk.go:165", after := #[], guard := none }) (v := .bool true) rfl (by kernel_rfl) (by kernel_rfl) (by kernel_rfl) (fun _ _ _ h => h) (Or.inl ⟨by rfl, fun w hSw => by (try dsimp only at hSw); go_split_ands; go_simp⟩) (by assumption) ?_
        simp only [Act.put, List.setIfInBounds_toArray, List.set_cons_zero, List.set_cons_succ]
        refine wpAnyH_take (i := 1) (oi := { dst := some 15, op := Op.unOp UnOp.not 4 (Operand.tmp 14), type := 4, pos := "l6_chunk.go:165", after := #[{ on := 0, ground := Ground.data }], guard := none }) (v := .bool false) rfl (by kernel_rfl) (by kernel_rfl) (by kernel_rfl) (fun _ _ _ h => h) (Or.inl ⟨by rfl, fun w hSw => by (try dsimp only at hSw); go_split_ands; go_simp⟩) (by assumption) ?_
        simp only [Act.put, List.setIfInBounds_toArray, List.set_cons_zero, List.set_cons_succ]
        refine wpAnyH_take (i := 2) (oi := { dst := some 16, op := Op.move (Operand.tmp 15), type := 4, pos := "l6_chunk.go:165", after := #[{ on := 1, ground := Ground.data }], guard := none }) (v := .bool false) rfl (by kernel_rfl) (by kernel_rfl) (by kernel_rfl) (fun _ _ _ h => h) (Or.inl ⟨by rfl, fun w hSw => by (try dsimp only at hSw); go_split_ands; go_simp⟩) (by assumption) ?_
        simp only [Act.put, List.setIfInBounds_toArray, List.set_cons_zero, List.set_cons_succ]
        refine wpAnyH_take (i := 3) (oi := { dst := some 17, op := Op.move (Operand.tmp 4), type := 23, pos := "l6_chunk.go:165", after := #[{ on := 2, ground := Ground.guard }], guard := some (2, false) }) (v := .slice av L.length cv') rfl (by kernel_rfl) (by kernel_rfl) (by kernel_rfl) (fun _ _ _ h => h) (Or.inl ⟨by rfl, fun w hSw => by (try dsimp only at hSw); go_split_ands; go_simp⟩) (by assumption) ?_
        simp only [Act.put, List.setIfInBounds_toArray, List.set_cons_zero, List.set_cons_succ]
        refine wpAnyH_ready (rs := [4]) (by kernel_rfl) (by simp) (AllReadyH.cons (o := { dst := some 18, op := Op.call { callee := Callee.value (Operand.func 10), args := #[Operand.tmp 17], argTypes := #[23] }, type := 4, pos := "l6_chunk.go:165", after := #[{ on := 3, ground := Ground.data }, { on := 2, ground := Ground.chain }, { on := 2, ground := Ground.guard }], guard := some (2, false) }) rfl ?_ AllReadyH.nil)
        intro K1 hK1
        go_simp
        go_wp2_with (go_at_call 10; refine (HGS.out _ HHD.out).mono ?_; rintro e w5 ⟨rfl, hb5⟩; have hs5 := s2b_of (box_below (w := World.drew _) HX4.out hb5))
        refine hK1.out _ _ hs5 (fun _ => ?_)
        clear hK1 K1
        refine wpAnyH_take (i := 5) (oi := { dst := some 19, op := Op.unOp UnOp.not 4 (Operand.tmp 18), type := 4, pos := "l6_chunk.go:165", after := #[{ on := 4, ground := Ground.data }, { on := 2, ground := Ground.guard }], guard := some (2, false) }) (v := .bool false) rfl (by kernel_rfl) (by kernel_rfl) (by kernel_rfl) (fun _ _ _ h => h) (Or.inl ⟨by rfl, fun w hSw => by (try dsimp only at hSw); go_split_ands; go_simp⟩) (by assumption) ?_
        simp only [Act.put, List.setIfInBounds_toArray, List.set_cons_zero, List.set_cons_succ]
        refine wpAnyH_take (i := 6) (oi := { dst := some 20, op := Op.pick (Operand.tmp 16) (Operand.const (Value.bool true)) (Operand.tmp 19), type := 4, pos := "l6_chunk.go:165", after := #[{ on := 2, ground := Ground.data }, { on := 5, ground := Ground.data }], guard := none }) (v := .bool false) rfl (by kernel_rfl) (by kernel_rfl) (by kernel_rfl) (fun _ _ _ h => h) (Or.inl ⟨by rfl, fun w hSw => by (try dsimp only at hSw); go_split_ands; go_simp⟩) (by assumption) ?_
        simp only [Act.put, List.setIfInBounds_toArray, List.set_cons_zero, List.set_cons_succ]
        refine wpAnyH_take (i := 7) (oi := { dst := some 21, op := Op.move (Operand.tmp 20), type := 4, pos := "l6_chunk.go:165", after := #[{ on := 6, ground := Ground.data }, { on := 4, ground := Ground.chain }], guard := none }) (v := .bool false) rfl (by kernel_rfl) (by kernel_rfl) (by kernel_rfl) (fun _ _ _ h => h) (Or.inl ⟨by rfl, fun w hSw => by (try dsimp only at hSw); go_split_ands; go_simp⟩) (by assumption) ?_
        simp only [Act.put, List.setIfInBounds_toArray, List.set_cons_zero, List.set_cons_succ]
        refine wpAnyH_take (i := 8) (oi := { dst := some 22, op := Op.move (Operand.tmp 4), type := 23, pos := "l6_chunk.go:165", after := #[{ on := 7, ground := Ground.guard }], guard := some (7, false) }) (v := .slice av L.length cv') rfl (by kernel_rfl) (by kernel_rfl) (by kernel_rfl) (fun _ _ _ h => h) (Or.inl ⟨by rfl, fun w hSw => by (try dsimp only at hSw); go_split_ands; go_simp⟩) (by assumption) ?_
        simp only [Act.put, List.setIfInBounds_toArray, List.set_cons_zero, List.set_cons_succ]
        refine wpAnyH_take (i := 9) (oi := { dst := some 23, op := Op.call { callee := Callee.builtin Builtin.len, args := #[Operand.tmp 22], argTypes := #[23] }, type := 3, pos := "l6_chunk.go:165", after := #[{ on := 8, ground := Ground.data }, { on := 7, ground := Ground.guard }], guard := some (7, false) }) (v := .int .i64 (L.length : Int)) rfl (by kernel_rfl) (by kernel_rfl) (by kernel_rfl) (fun _ _ _ h => h) (Or.inl ⟨by rfl, fun w hSw => by (try dsimp only at hSw); go_split_ands; go_simp⟩) (by assumption) ?_
        simp only [Act.put, List.setIfInBounds_toArray, List.set_cons_zero, List.set_cons_succ]
        refine wpAnyH_take (i := 10) (oi := { dst := some 24, op := Op.binOp BinOp.gtr 3 (Operand.tmp 23) (Operand.const (Value.int IntKind.i64 120)) 3, type := 4, pos := "l6_chunk.go:165", after := #[{ on := 9, ground := Ground.data }, { on := 7, ground := Ground.guard }], guard := some (7, false) }) (v := .bool true) rfl (by kernel_rfl) (by kernel_rfl) (by kernel_rfl) (fun _ _ _ h => h) (Or.inl ⟨by rfl, fun w hSw => by (try dsimp only at hSw); go_split_ands; go_simp⟩) (by assumption) ?_
        simp only [Act.put, List.setIfInBounds_toArray, List.set_cons_zero, List.set_cons_succ]
        refine wpAnyH_take (i := 11) (oi := { dst := some 25, op := Op.pick (Operand.tmp 21) (Operand.const (Value.bool true)) (Operand.tmp 24), type := 4, pos := "l6_chunk.go:165", after := #[{ on := 7, ground := Ground.data }, { on := 10, ground := Ground.data }], guard := none }) (v := .bool true) rfl (by kernel_rfl) (by kernel_rfl) (by kernel_rfl) (fun _ _ _ h => h) (Or.inl ⟨by rfl, fun w hSw => by (try dsimp only at hSw); go_split_ands; go_simp⟩) (by assumption) ?_
        simp only [Act.put, List.setIfInBounds_toArray, List.set_cons_zero, List.set_cons_succ]
        refine wpAnyH_take (i := 12) (oi := { dst := some 26, op := Op.move (Operand.tmp 25), type := 4, pos := "l6_chunk.go:165", after := #[{ on := 11, ground := Ground.data }, { on := 7, ground := Ground.chain }], guard := none }) (v := .bool true) rfl (by kernel_rfl) (by kernel_rfl) (by kernel_rfl) (fun _ _ _ h => h) (Or.inl ⟨by rfl, fun w hSw => by (try dsimp only at hSw); go_split_ands; go_simp⟩) (by assumption) ?_
        simp only [Act.put, List.setIfInBounds_toArray, List.set_cons_zero, List.set_cons_succ]
        refine wpAnyH_take (i := 13) (oi := { dst := some 27, op := Op.move (Operand.tmp 4), type := 23, pos := "l6_chunk.go:165", after := #[{ on := 12, ground := Ground.guard }], guard := some (12, false) }) (v := undef) rfl (by kernel_rfl) (by kernel_rfl) (by kernel_rfl) (fun _ _ _ h => h) (Or.inr ⟨by rfl, rfl⟩) (by assumption) ?_
        simp only [Act.put, List.setIfInBounds_toArray, List.set_cons_zero, List.set_cons_succ]
        refine wpAnyH_take (i := 14) (oi := { dst := some 28, op := Op.call { callee := Callee.value (Operand.func 48), args := #[Operand.tmp 27], argTypes := #[23] }, type := 26, pos := "l6_chunk.go:165", after := #[{ on := 13, ground := Ground.data }, { on := 12, ground := Ground.chain }, { on := 12, ground := Ground.guard }], guard := some (12, false) }) (v := undef) rfl (by kernel_rfl) (by kernel_rfl) (by kernel_rfl) (fun _ _ _ h => h) (Or.inr ⟨by rfl, rfl⟩) (by assumption) ?_
        simp only [Act.put, List.setIfInBounds_toArray, List.set_cons_zero, List.set_cons_succ]
        refine wpAnyH_take (i := 15) (oi := { dst := some 29, op := Op.load 26 (Operand.tmp 1), type := 26, pos := "l6_chunk.go:165", after := #[{ on := 12, ground := Ground.guard }], guard := some (12, false) }) (v := undef) rfl (by kernel_rfl) (by kernel_rfl) (by kernel_rfl) (fun _ _ _ h => h) (Or.inr ⟨by rfl, rfl⟩) (by assumption) ?_
        simp only [Act.put, List.setIfInBounds_toArray, List.set_cons_zero, List.set_cons_succ]
        refine wpAnyH_take (i := 16) (oi := { dst := some 30, op := Op.call { callee := Callee.value (Operand.func 56), args := #[Operand.tmp 28, Operand.tmp 29], argTypes := #[26, 26] }, type := 4, pos := "l6_chunk.go:165", after := #[{ on := 14, ground := Ground.data }, { on := 15, ground := Ground.data }, { on := 14, ground := Ground.chain }, { on := 12, ground := Ground.guard }], guard := some (12, false) }) (v := undef) rfl (by kernel_rfl) (by kernel_rfl) (by kernel_rfl) (fun _ _ _ h => h) (Or.inr ⟨by rfl, rfl⟩) (by assumption) ?_
        simp only [Act.put, List.setIfInBounds_toArray, List.set_cons_zero, List.set_cons_succ]
        refine wpAnyH_take (i := 17) (oi := { dst := some 31, op := Op.unOp UnOp.not 4 (Operand.tmp 30), type := 4, pos := "l6_chunk.go:165", after := #[{ on := 16, ground := Ground.data }, { on := 12, ground := Ground.guard }], guard := some (12, false) }) (v := undef) rfl (by kernel_rfl) (by kernel_rfl) (by kernel_rfl) (fun _ _ _ h => h) (Or.inr ⟨by rfl, rfl⟩) (by assumption) ?_
        simp only [Act.put, List.setIfInBounds_toArray, List.set_cons_zero, List.set_cons_succ]
        refine wpAnyH_take (i := 18) (oi := { dst := some 32, op := Op.pick (Operand.tmp 26) (Operand.const (Value.bool true)) (Operand.tmp 31), type := 4, pos := "l6_chunk.go:165", after := #[{ on := 12, ground := Ground.data }, { on := 17, ground := Ground.data }], guard := none }) (v := .bool true) rfl (by kernel_rfl) (by kernel_rfl) (by kernel_rfl) (fun _ _ _ h => h) (Or.inl ⟨by rfl, fun w hSw => by (try dsimp only at hSw); go_split_ands; go_simp⟩) (by assumption) ?_
        simp only [Act.put, List.setIfInBounds_toArray, List.set_cons_zero, List.set_cons_succ]
        refine wpAnyH_done (by kernel_rfl) ?_ _
        have HB5 := hid (HB4.out.trans ((Bts.below_drew hb5).mono HB4.out.size))
        clear hs5 hb5
        go_wp2
        go_ret2
        exact HAN.out _ HB5.out
    · have hgs : goodS L = false := decide_eq_false hgp
      have he := HNO.out (by rintro ⟨_, h, _⟩; exact hgp h)
      rw [hgs] at hGS
      have HGS := hid hGS
      have HAN := hid (hans he)
      clear hGS hgs hgp he hans
      go_wp2_with fail
      refine wp_region_held_drew (S := fun x => S2b w.heap.size a n c (s : Int) x) rfl HSB.out (fun hHeld => ?_)
      refine wpAnyH_take (i := 0) (oi := { dst := some 14, op := Op.move (Operand.tmp 5), type := 4, pos := "l6_chunk.go:165", after := #[], guard := none }) (v := .bool true) rfl (by kernel_rfl) (by kernel_rfl) (by kernel_rfl) (fun _ _ _ h => h) (Or.inl ⟨by rfl, fun w hSw => by (try dsimp only at hSw); go_split_ands; go_simp⟩) (by assumption) ?_
      simp only [Act.put, List.setIfInBounds_toArray, List.set_cons_zero, List.set_cons_succ]
      refine wpAnyH_take (i := 1) (oi := { dst := some 15, op := Op.unOp UnOp.not 4 (Operand.tmp 14), type := 4, pos := "l6_chunk.go:165", after := #[{ on := 0, ground := Ground.data }], guard := none }) (v := .bool false) rfl (by kernel_rfl) (by kernel_rfl) (by kernel_rfl) (fun _ _ _ h => h) (Or.inl ⟨by rfl, fun w hSw => by (try dsimp only at hSw); go_split_ands; go_simp⟩) (by assumption) ?_
      simp only [Act.put, List.setIfInBounds_toArray, List.set_cons_zero, List.set_cons_succ]
      refine wpAnyH_take (i := 2) (oi := { dst := some 16, op := Op.move (Operand.tmp 15), type := 4, pos := "l6_chunk.go:165", after := #[{ on := 1, ground := Ground.data }], guard := none }) (v := .bool false) rfl (by kernel_rfl) (by kernel_rfl) (by kernel_rfl) (fun _ _ _ h => h) (Or.inl ⟨by rfl, fun w hSw => by (try dsimp only at hSw); go_split_ands; go_simp⟩) (by assumption) ?_
      simp only [Act.put, List.setIfInBounds_toArray, List.set_cons_zero, List.set_cons_succ]
      refine wpAnyH_take (i := 3) (oi := { dst := some 17, op := Op.move (Operand.tmp 4), type := 23, pos := "l6_chunk.go:165", after := #[{ on := 2, ground := Ground.guard }], guard := some (2, false) }) (v := .slice av L.length cv') rfl (by kernel_rfl) (by kernel_rfl) (by kernel_rfl) (fun _ _ _ h => h) (Or.inl ⟨by rfl, fun w hSw => by (try dsimp only at hSw); go_split_ands; go_simp⟩) (by assumption) ?_
      simp only [Act.put, List.setIfInBounds_toArray, List.set_cons_zero, List.set_cons_succ]
      refine wpAnyH_ready (rs := [4]) (by kernel_rfl) (by simp) (AllReadyH.cons (o := { dst := some 18, op := Op.call { callee := Callee.value (Operand.func 10), args := #[Operand.tmp 17], argTypes := #[23] }, type := 4, pos := "l6_chunk.go:165", after := #[{ on := 3, ground := Ground.data }, { on := 2, ground := Ground.chain }, { on := 2, ground := Ground.guard }], guard := some (2, false) }) rfl ?_ AllReadyH.nil)
      intro K1 hK1
      go_simp
      go_wp2_with (go_at_call 10; refine (HGS.out _ HHD.out).mono ?_; rintro e w5 ⟨rfl, hb5⟩; have hs5 := s2b_of (box_below (w := World.drew _) HX4.out hb5))
      refine hK1.out _ _ hs5 (fun _ => ?_)
      clear hK1 K1
      refine wpAnyH_take (i := 5) (oi := { dst := some 19, op := Op.unOp UnOp.not 4 (Operand.tmp 18), type := 4, pos := "l6_chunk.go:165", after := #[{ on := 4, ground := Ground.data }, { on := 2, ground := Ground.guard }], guard := some (2, false) }) (v := .bool true) rfl (by kernel_rfl) (by kernel_rfl) (by kernel_rfl) (fun _ _ _ h => h) (Or.inl ⟨by rfl, fun w hSw => by (try dsimp only at hSw); go_split_ands; go_simp⟩) (by assumption) ?_
      simp only [Act.put, List.setIfInBounds_toArray, List.set_cons_zero, List.set_cons_succ]
      refine wpAnyH_take (i := 6) (oi := { dst := some 20, op := Op.pick (Operand.tmp 16) (Operand.const (Value.bool true)) (Operand.tmp 19), type := 4, pos := "l6_chunk.go:165", after := #[{ on := 2, ground := Ground.data }, { on := 5, ground := Ground.data }], guard := none }) (v := .bool true) rfl (by kernel_rfl) (by kernel_rfl) (by kernel_rfl) (fun _ _ _ h => h) (Or.inl ⟨by rfl, fun w hSw => by (try dsimp only at hSw); go_split_ands; go_simp⟩) (by assumption) ?_
      simp only [Act.put, List.setIfInBounds_toArray, List.set_cons_zero, List.set_cons_succ]
      refine wpAnyH_take (i := 7) (oi := { dst := some 21, op := Op.move (Operand.tmp 20), type := 4, pos := "l6_chunk.go:165", after := #[{ on := 6, ground := Ground.data }, { on := 4, ground := Ground.chain }], guard := none }) (v := .bool true) rfl (by kernel_rfl) (by kernel_rfl) (by kernel_rfl) (fun _ _ _ h => h) (Or.inl ⟨by rfl, fun w hSw => by (try dsimp only at hSw); go_split_ands; go_simp⟩) (by assumption) ?_
      simp only [Act.put, List.setIfInBounds_toArray, List.set_cons_zero, List.set_cons_succ]
      refine wpAnyH_take (i := 8) (oi := { dst := some 22, op := Op.move (Operand.tmp 4), type := 23, pos := "l6_chunk.go:165", after := #[{ on := 7, ground := Ground.guard }], guard := some (7, false) }) (v := undef) rfl (by kernel_rfl) (by kernel_rfl) (by kernel_rfl) (fun _ _ _ h => h) (Or.inr ⟨by rfl, rfl⟩) (by assumption) ?_
      simp only [Act.put, List.setIfInBounds_toArray, List.set_cons_zero, List.set_cons_succ]
      refine wpAnyH_take (i := 9) (oi := { dst := some 23, op := Op.call { callee := Callee.builtin Builtin.len, args := #[Operand.tmp 22], argTypes := #[23] }, type := 3, pos := "l6_chunk.go:165", after := #[{ on := 8, ground := Ground.data }, { on := 7, ground := Ground.guard }], guard := some (7, false) }) (v := undef) rfl (by kernel_rfl) (by kernel_rfl) (by kernel_rfl) (fun _ _ _ h => h) (Or.inr ⟨by rfl, rfl⟩) (by assumption) ?_
      simp only [Act.put, List.setIfInBounds_toArray, List.set_cons_zero, List.set_cons_succ]
      refine wpAnyH_take (i := 10) (oi := { dst := some 24, op := Op.binOp BinOp.gtr 3 (Operand.tmp 23) (Operand.const (Value.int IntKind.i64 120)) 3, type := 4, pos := "l6_chunk.go:165", after := #[{ on := 9, ground := Ground.data }, { on := 7, ground := Ground.guard }], guard := some (7, false) }) (v := undef) rfl (by kernel_rfl) (by kernel_rfl) (by kernel_rfl) (fun _ _ _ h => h) (Or.inr ⟨by rfl, rfl⟩) (by assumption) ?_
      simp only [Act.put, List.setIfInBounds_toArray, List.set_cons_zero, List.set_cons_succ]
      refine wpAnyH_take (i := 11) (oi := { dst := some 25, op := Op.pick (Operand.tmp 21) (Operand.const (Value.bool true)) (Operand.tmp 24), type := 4, pos := "l6_chunk.go:165", after := #[{ on := 7, ground := Ground.data }, { on := 10, ground := Ground.data }], guard := none }) (v := .bool true) rfl (by kernel_rfl) (by kernel_rfl) (by kernel_rfl) (fun _ _ _ h => h) (Or.inl ⟨by rfl, fun w hSw => by (try dsimp only at hSw); go_split_ands; go_simp⟩) (by assumption) ?_
      simp only [Act.put, List.setIfInBounds_toArray, List.set_cons_zero, List.set_cons_succ]
      refine wpAnyH_take (i := 12) (oi := { dst := some 26, op := Op.move (Operand.tmp 25), type := 4, pos := "l6_chunk.go:165", after := #[{ on := 11, ground := Ground.data }, { on := 7, ground := Ground.chain }], guard := none }) (v := .bool true) rfl (by kernel_rfl) (by kernel_rfl) (by kernel_rfl) (fun _ _ _ h => h) (Or.inl ⟨by rfl, fun w hSw => by (try dsimp only at hSw); go_split_ands; go_simp⟩) (by assumption) ?_
      simp only [Act.put, List.setIfInBounds_toArray, List.set_cons_zero, List.set_cons_succ]
      refine wpAnyH_take (i := 13) (oi := { dst := some 27, op := Op.move (Operand.tmp 4), type := 23, pos := "l6_chunk.go:165", after := #[{ on := 12, ground := Ground.guard }], guard := some (12, false) }) (v := undef) rfl (by kernel_rfl) (by kernel_rfl) (by kernel_rfl) (fun _ _ _ h => h) (Or.inr ⟨by rfl, rfl⟩) (by assumption) ?_
      simp only [Act.put, List.setIfInBounds_toArray, List.set_cons_zero, List.set_cons_succ]
      refine wpAnyH_take (i := 14) (oi := { dst := some 28, op := Op.call { callee := Callee.value (Operand.func 48), args := #[Operand.tmp 27], argTypes := #[23] }, type := 26, pos := "l6_chunk.go:165", after := #[{ on := 13, ground := Ground.data }, { on := 12, ground := Ground.chain }, { on := 12, ground := Ground.guard }], guard := some (12, false) }) (v := undef) rfl (by kernel_rfl) (by kernel_rfl) (by kernel_rfl) (fun _ _ _ h => h) (Or.inr ⟨by rfl, rfl⟩) (by assumption) ?_
      simp only [Act.put, List.setIfInBounds_toArray, List.set_cons_zero, List.set_cons_succ]
      refine wpAnyH_take (i := 15) (oi := { dst := some 29, op := Op.load 26 (Operand.tmp 1), type := 26, pos := "l6_chunk.go:165", after := #[{ on := 12, ground := Ground.guard }], guard := some (12, false) }) (v := undef) rfl (by kernel_rfl) (by kernel_rfl) (by kernel_rfl) (fun _ _ _ h => h) (Or.inr ⟨by rfl, rfl⟩) (by assumption) ?_
      simp only [Act.put, List.setIfInBounds_toArray, List.set_cons_zero, List.set_cons_succ]
      refine wpAnyH_take (i := 16) (oi := { dst := some 30, op := Op.call { callee := Callee.value (Operand.func 56), args := #[Operand.tmp 28, Operand.tmp 29], argTypes := #[26, 26] }, type := 4, pos := "l6_chunk.go:165", after := #[{ on := 14, ground := Ground.data }, { on := 15, ground := Ground.data }, { on := 14, ground := Ground.chain }, { on := 12, ground := Ground.guard }], guard := some (12, false) }) (v := undef) rfl (by kernel_rfl) (by kernel_rfl) (by kernel_rfl) (fun _ _ _ h => h) (Or.inr ⟨by rfl, rfl⟩) (by assumption) ?_
      simp only [Act.put, List.setIfInBounds_toArray, List.set_cons_zero, List.set_cons_succ]
      refine wpAnyH_take (i := 17) (oi := { dst := some 31, op := Op.unOp UnOp.not 4 (Operand.tmp 30), type := 4, pos := "l6_chunk.go:165", after := #[{ on := 16, ground := Ground.data }, { on := 12, ground := Ground.guard }], guard := some (12, false) }) (v := undef) rfl (by kernel_rfl) (by kernel_rfl) (by kernel_rfl) (fun _ _ _ h => h) (Or.inr ⟨by rfl, rfl⟩) (by assumption) ?_
      simp only [Act.put, List.setIfInBounds_toArray, List.set_cons_zero, List.set_cons_succ]
      refine wpAnyH_take (i := 18) (oi := { dst := some 32, op := Op.pick (Operand.tmp 26) (Operand.const (Value.bool true)) (Operand.tmp 31), type := 4, pos := "l6_chunk.go:165", after := #[{ on := 12, ground := Ground.data }, { on := 17, ground := Ground.data }], guard := none }) (v := .bool true) rfl (by kernel_rfl) (by kernel_rfl) (by kernel_rfl) (fun _ _ _ h => h) (Or.inl ⟨by rfl, fun w hSw => by (try dsimp only at hSw); go_split_ands; go_simp⟩) (by assumption) ?_
      simp only [Act.put, List.setIfInBounds_toArray, List.set_cons_zero, List.set_cons_succ]
      refine wpAnyH_done (by kernel_rfl) ?_ _
      have HB5 := hid (HB4.out.trans ((Bts.below_drew hb5).mono HB4.out.size))
      clear hs5 hb5
      go_wp2
      go_ret2
      exact HAN.out _ HB5.out

/-- The model's, of any bits. -/
theorem f28 (a : Option Addr) (n c : Nat) (s : Int) (zs : List Int) (w : World) (hk : Dk n zs) (hr : Byt.Has w a zs) :
    Calls Tryd.prog 28 #[.agg #[.slice a n c, .int .i64 s]] w (Ans w (unpB zs s)) := by
  cases hg : good zs s with
  | true =>
    obtain ⟨g0, g1, g2, g3⟩ := good_bd zs s hg
    obtain ⟨s, rfl⟩ := Int.eq_ofNat_of_zero_le g0
    rw [hk.len] at g2
    exact unpackM a n c s zs w ⟨hk, by omega, by omega⟩ hr hg (G_of_good zs s hg hk.byte)
  | false =>
    have he := unpB_bad hg
    have HR := hid hr
    have HBA := hid ((Below.refl w.heap.size w).alloc (Nat.le_refl _) (.cells #[.slice a n c, .int .i64 s] 26))
    have HG := hid (f54 a n c s zs (w.alloc (.cells #[.slice a n c, .int .i64 s] 26)) hk.len hk.le (hr.below HBA.out) hk.byte)
    rw [hg] at HG
    have HE := hid he
    clear he hr hg
    go_enter Tryd.func28, Tryd.ntmps28
    go_wp2_with fail
    refine HG.out.mono ?_
    rintro e w1 ⟨rfl, hb1⟩
    have HB1 := hid (HBA.out.trans (hb1.mono HBA.out.size))
    clear hb1
    go_wp2
    go_ret2
    rw [HE.out]
    exact ⟨_, rfl, Smp.Own.nil _ _, HB1.out⟩
end Go.Proofs.YteblbcbfaomdmaaDoor.Chk
/- Both UnpackChunks alike; both CountOfs; the walk of FnExactCountOf. -/
namespace Go.Proofs.YteblbcbfaomdmaaDoor.Chk
open Go.RowKit Go.Proofs.YteblbcbfaomdmaaDoor.Bts
open Go.Proofs.YteblbcbfaomdmaaDoor.Smp hiding hid ret_int below_drewN

theorem f11a (a : Option Addr) (n c : Nat) (s : Int) (zs : List Int) (w : World) (hk : Dk n zs) (hr : Byt.Has w a zs) (hc : Cls w) (ht : Tab w) (h2 : 2 ≤ w.heap.size) :
    Calls Tryd.prog 11 #[.agg #[.slice a n c, .int .i64 s]] w (Ans w (unpB zs s)) := by
  cases hg : good zs s with
  | true =>
    obtain ⟨g0, g1, g2, g3⟩ := good_bd zs s hg
    obtain ⟨s, rfl⟩ := Int.eq_ofNat_of_zero_le g0
    rw [hk.len] at g2
    have hG : GB (zs, s) := G_of_good zs s hg hk.byte
    refine (f11 a n c s zs w hk hr hg (by omega) hc ht h2).mono ?_
    rintro e w' (⟨hok, v, rfl, ho, hb⟩ | ⟨hno, rfl, hb⟩)
    · rw [unpB_yes hg (read_only (q := (zs, s)) hG hok)]
      exact ⟨v, rfl, ho, hb⟩
    · rw [unpB_no (fun ⟨l, hl⟩ => hno (read_back hl).1)]
      exact ⟨_, rfl, Smp.Own.nil _ _, hb⟩
  | false =>
    have he := unpB_bad hg
    have HBA := hid ((Below.refl w.heap.size w).alloc (Nat.le_refl _) (.cells #[.slice a n c, .int .i64 s] 26))
    have HG := hid (f14 a n c s zs (w.alloc (.cells #[.slice a n c, .int .i64 s] 26)) hk.len hk.le (hr.below HBA.out) hk.byte)
    rw [hg] at HG
    have HE := hid he
    clear he hr hg hc ht
    go_enter Tryd.func11, Tryd.ntmps11
    go_wp2_with fail
    refine HG.out.mono ?_
    rintro e w1 ⟨rfl, hb1⟩
    have HB1 := hid (HBA.out.trans (hb1.mono HBA.out.size))
    clear hb1
    go_wp2
    go_ret2
    rw [HE.out]
    exact ⟨_, rfl, Smp.Own.nil _ _, HB1.out⟩

noncomputable def cntB (zs : List Int) (s : Int) : Int := if (unpB zs s).2 = true then ((unpB zs s).1.length : Int) else -1
set_option maxHeartbeats 2000000 in
theorem f33 (a : Option Addr) (n c : Nat) (s : Int) (zs : List Int) (w : World) (hk : Dk n zs) (hr : Byt.Has w a zs) :
    Calls Tryd.prog 33 #[.agg #[.slice a n c, .int .i64 s]] w fun e w' => e = .returned (.int .i64 (cntB zs s)) ∧ Below w.heap.size w w' := by
  have HBA := hid ((Below.refl w.heap.size w).alloc (Nat.le_refl _) (.cells #[.slice a n c, .int .i64 s] 26))
  have hu := f28 a n c s zs (w.alloc (.cells #[.slice a n c, .int .i64 s] 26)) hk (hr.below HBA.out)
  have hlen := unpB_len zs s
  unfold cntB
  obtain ⟨L, b, hLb⟩ : ∃ L b, unpB zs s = (L, b) := ⟨_, _, rfl⟩
  rw [hLb] at hu hlen ⊢
  have HU := hid hu
  clear hu hLb hk hr
  simp only at hlen ⊢
  go_enter Tryd.func33, Tryd.ntmps33
  go_wp2_with fail
  refine HU.out.mono ?_
  rintro e w1 ⟨v, rfl, ho, hb⟩
  obtain ⟨av, cv', rfl⟩ := own_form ho
  have HB := hid (HBA.out.trans (hb.mono HBA.out.size))
  clear ho hb
  cases b with
  | true =>
    go_wp2
    go_ret
    exact ⟨rfl, HB.out⟩
  | false =>
    go_wp2
    go_ret
    exact ⟨rfl, HB.out⟩
set_option maxHeartbeats 2000000 in
theorem f13 (a : Option Addr) (n c : Nat) (s : Int) (zs : List Int) (w : World) (hk : Dk n zs) (hr : Byt.Has w a zs) (hc : Cls w) (ht : Tab w) (h2 : 2 ≤ w.heap.size) :
    Calls Tryd.prog 13 #[.agg #[.slice a n c, .int .i64 s]] w fun e w' => e = .returned (.int .i64 (cntB zs s)) ∧ Below w.heap.size w w' := by
  have HBA := hid ((Below.refl w.heap.size w).alloc (Nat.le_refl _) (.cells #[.slice a n c, .int .i64 s] 26))
  have hu := f11a a n c s zs (w.alloc (.cells #[.slice a n c, .int .i64 s] 26)) hk (hr.below HBA.out) (hc.below HBA.out) (ht.bel HBA.out h2) (by simp; omega)
  have hlen := unpB_len zs s
  unfold cntB
  obtain ⟨L, b, hLb⟩ : ∃ L b, unpB zs s = (L, b) := ⟨_, _, rfl⟩
  rw [hLb] at hu hlen ⊢
  have HU := hid hu
  clear hu hLb hk hr hc ht
  simp only at hlen ⊢
  go_enter Tryd.func13, Tryd.ntmps13
  go_wp2_with fail
  refine HU.out.mono ?_
  rintro e w1 ⟨v, rfl, ho, hb⟩
  obtain ⟨av, cv', rfl⟩ := own_form ho
  have HB := hid (HBA.out.trans (hb.mono HBA.out.size))
  clear ho hb
  cases b with
  | true =>
    go_wp2
    go_ret
    exact ⟨rfl, HB.out⟩
  | false =>
    go_wp2
    go_ret
    exact ⟨rfl, HB.out⟩
/-- Two boxes of bits. -/
abbrev S4b (B X : Nat) (a : Option Addr) (n c : Nat) (s : Int) (g : Nat) (w' : World) : Prop :=
  w'.cell? ⟨B, 0, none⟩ = some (.slice a n c) ∧ w'.cell? ⟨B, 1, none⟩ = some (.int .i64 s) ∧ w'.cell? ⟨X, 0, none⟩ = some (.slice (some ⟨g, 0, none⟩) n n) ∧ w'.cell? ⟨X, 1, none⟩ = some (.int .i64 s)
theorem s4b_of {B X n c g : Nat} {a : Option Addr} {s : Int} {w' : World} {t t' : TypeId} (h : w'.heap[B]? = some (.cells #[.slice a n c, .int .i64 s] t (0, 0))) (h' : w'.heap[X]? = some (.cells #[.slice (some ⟨g, 0, none⟩) n n, .int .i64 s] t' (0, 0))) : S4b B X a n c s g w' :=
  ⟨cell_at h 0, cell_at h 1, cell_at h' 0, cell_at h' 1⟩

set_option maxRecDepth 100000 in
set_option maxHeartbeats 8000000 in
theorem walkCount (a : Option Addr) (n c : Nat) (s : Int) (zs : List Int) (w : World) (hn : zs.length = n) (hlen : n ≤ 9223372036854775807) (h255 : ∀ j, 0 ≤ zs.getD j 0 ∧ zs.getD j 0 ≤ 255) (hr : Byt.Has w a zs) (hc : Cls w) (ht : Tab w) :
    Calls Tryd.prog 7 #[.agg #[.slice a n c, .int .i64 s]] w fun e w' => e = .returned (.bool true) ∧ Below w.heap.size w w' := by
  have hw2 : 2 ≤ w.heap.size := World.block_lt_of_cell? w _ (ht 0 (by decide))
  have HBA := hid ((Below.refl w.heap.size w).alloc (Nat.le_refl _) (.cells #[.slice a n c, .int .i64 s] 46))
  have HXA := hid (heap_alloc_new w (.cells #[.slice a n c, .int .i64 s] 46))
  have HR := hid hr
  have HC := hid hc
  have HT := hid ht
  have HN := hid hn
  clear hr hc ht
  by_cases hbig : n ≤ 1048576
  · have HK : Hid (Dk n zs) := ⟨hn, hbig, h255⟩
    have hif : (if n ≤ 1048576 then 1048576 - (n : Int) else -1) = 1048576 - (n : Int) := if_pos hbig
    have hcc : (cntB zs s != cntB zs s) = false := by simp
    clear hn h255
    go_enter Tryd.func7, Tryd.ntmps7
    go_wp2_with fail
    refine (f27 a n c s _ hlen).mono ?_
    rw [hif]
    rintro e w1 ⟨rfl, hb1⟩
    have HX1 := hid (box_below HXA.out hb1)
    have HB1 := hid (HBA.out.trans (hb1.mono HBA.out.size))
    have x0 : w1.cell? ⟨w.heap.size, 0, none⟩ = some (.slice a n c) := cell_at HX1.out 0
    have x1 : w1.cell? ⟨w.heap.size, 1, none⟩ = some (.int .i64 s) := cell_at HX1.out 1
    clear hb1 hif
    go_wp2_with fail
    refine (f29 a n c s zs _ HN.out (by omega) (HR.out.below HB1.out)).mono ?_
    rintro e w2 ⟨g2, rfl, _, ho2, hb2⟩
    have HX2 := hid (box_below HX1.out hb2)
    have HB2 := hid (HB1.out.trans (hb2.mono HB1.out.size))
    have A2 := hid (Byt.Has.own ho2)
    clear hb2 ho2 x0 x1
    go_wp2_with fail
    refine (f33 _ _ _ s zs _ HK.out A2.out).mono ?_
    rintro e w3 ⟨rfl, hb3⟩
    have HX3 := hid (box_below HX2.out hb3)
    have HB3 := hid (HB2.out.trans (hb3.mono HB2.out.size))
    have x0 : w3.cell? ⟨w.heap.size, 0, none⟩ = some (.slice a n c) := cell_at HX3.out 0
    have x1 : w3.cell? ⟨w.heap.size, 1, none⟩ = some (.int .i64 s) := cell_at HX3.out 1
    clear hb3 A2
    go_wp2_with fail
    refine (f29 a n c s zs _ HN.out (by omega) (HR.out.below HB3.out)).mono ?_
    rintro e w4 ⟨g4, rfl, _, ho4, hb4⟩
    have hal := (Below.refl w4.heap.size w4).alloc (Nat.le_refl _) (.cells #[.slice (some ⟨g4, 0, none⟩) n n, .int .i64 s] 26)
    have HX5 := hid (box_below (box_below HX3.out hb4) hal)
    have HB5 := hid ((HB3.out.trans (hb4.mono HB3.out.size)).trans (hal.mono (HB3.out.trans (hb4.mono HB3.out.size)).size))
    have HY5 := hid (heap_alloc_new w4 (.cells #[.slice (some ⟨g4, 0, none⟩) n n, .int .i64 s] 26))
    have A5 := hid ((Byt.Has.own ho4).below hal)
    clear hb4 ho4 x0 x1 hal
    go_wp2_with fail
    refine (f13 _ _ _ s zs _ HK.out A5.out (HC.out.below HB5.out) (HT.out.bel HB5.out hw2) (Nat.le_trans hw2 HB5.out.size)).mono ?_
    rintro e w6 ⟨rfl, hb6⟩
    have HX6 := hid (box_below HX5.out hb6)
    have HY6 := hid (box_below HY5.out hb6)
    have HB6 := hid (HB5.out.trans (hb6.mono HB5.out.size))
    have A6 := hid (A5.out.below hb6)
    have HS := hid (s4b_of HX6.out HY6.out)
    clear hb6 A5
    go_wp2_with fail
    go_region_held3 (fun w' => S4b w.heap.size w4.heap.size a n c s g4 w') (first | exact HS.out | assumption) (first | (go_at_call 29; refine (f29 a n c s zs (World.drew _) HN.out (by omega) ((HR.out.below HB6.out).below (Below.refl _ _).drew)).mono ?_; rintro e w7 ⟨g7, rfl, _, ho7, hb7⟩; have hs7 := s4b_of (box_below (w := World.drew _) HX6.out hb7) (box_below (w := World.drew _) HY6.out hb7)) | (go_at_call 22; refine (f22 _ _ n _ _ s zs _ HN.out (by omega) ((A6.out.below (Below.refl _ _).drew).below hb7) (Byt.Has.own ho7)).mono ?_; rintro e w8 ⟨rfl, hb8⟩; have hs8 := s4b_of (box_below (box_below (w := World.drew _) HX6.out hb7) hb8) (box_below (box_below (w := World.drew _) HY6.out hb7) hb8)))
    have HB8 := hid (HB6.out.trans (((Bts.below_drew hb7).trans (hb8.mono hb7.size)).mono HB6.out.size))
    clear hb7 hb8 hs7 hs8 ho7
    go_wp2
    go_ret
    exact ⟨rfl, HB8.out⟩
  · have hif : (if n ≤ 1048576 then 1048576 - (n : Int) else -1) = -1 := if_neg hbig
    clear hn h255
    go_enter Tryd.func7, Tryd.ntmps7
    go_wp2_with fail
    refine (f27 a n c s _ hlen).mono ?_
    rw [hif]
    rintro e w1 ⟨rfl, hb1⟩
    have HB1 := hid (HBA.out.trans (hb1.mono HBA.out.size))
    clear hb1
    go_wp2
    go_ret
    exact ⟨rfl, HB1.out⟩
end Go.Proofs.YteblbcbfaomdmaaDoor.Chk
