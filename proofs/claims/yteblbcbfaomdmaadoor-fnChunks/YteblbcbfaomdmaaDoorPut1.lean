/- What l1Put of the model comes to: one bit behind others, in memory of its own. -/
import Derived.Test.YteblbcbfaomdmaaDoorAd
import Derived.Test.YteblbcbfaomdmaaDoorPutw
import Derived.OneCell
namespace Go.Proofs.YteblbcbfaomdmaaDoor.Bts
open Go.RowKit Go.Proofs.YteblbcbfaomdmaaDoor.Byt

theorem grown_setCell {w w' : World} {r : Option Nat} (h : w.grownBy w' r) {p : Addr} (hp : w.heap.size ≤ p.block) (u : Value) : w.grownBy (w'.setCell p u) r :=
  ⟨h.os, h.tape, h.output, by simpa using h.size, fun k hk hne => (Below.heap_setCell w' p u k (by omega)).trans (h.block k hk hne)⟩
theorem grown_setRow {w w' : World} {g o : Nat} (h : w.grownBy w' (some g)) (u : Value) : w.grownBy (w'.setCell ⟨g, o, none⟩ u) (some g) :=
  ⟨h.os, h.tape, h.output, by simpa using h.size, fun k hk hne => (Below.heap_setCell w' ⟨g, o, none⟩ u k (by intro e; exact hne (by simp [e]))).trans (h.block k hk hne)⟩
theorem grown_alloc {w w' : World} {r : Option Nat} (h : w.grownBy w' r) (o : Obj) : w.grownBy (w'.alloc o) r :=
  ⟨h.os, h.tape, h.output, by have := h.size; simp; omega, fun k hk hne => (Below.heap_alloc w' o k (Nat.lt_of_lt_of_le hk h.size)).trans (h.block k hk hne)⟩
theorem grown_drewN {w w' : World} {r : Option Nat} (h : w.grownBy w' r) (q : Nat) : w.grownBy (w'.drewN q) r := ⟨h.os, h.tape, h.output, h.size, h.block⟩
theorem grown_drew {w w' : World} {r : Option Nat} (h : w.grownBy w' r) : w.grownBy w'.drew r := ⟨h.os, h.tape, h.output, h.size, h.block⟩

theorem put_zero {zs : List Int} {s : Nat} (h : G zs s) : putq zs s 1 0 = ext zs s := by
  have hl := h.ext_len
  have hlt : s / 8 < (ext zs s).length := by omega
  unfold putq
  rw [Int.zero_mul, Int.add_zero]
  have : (ext zs s).getD (s / 8) 0 = (ext zs s)[s / 8] := by simp [hlt]
  rw [this, List.set_getElem_self]
theorem put_one {zs : List Int} {s : Nat} : putq zs s 1 1 = (ext zs s).set (s / 8) ((ext zs s).getD (s / 8) 0 + 2 ^ (7 - s % 8)) := by
  unfold putq
  rw [Int.one_mul, show 8 - s % 8 - 1 = 7 - s % 8 from by omega]

theorem shr128 (r : Nat) (h : r < 8) : (128 : Int) / 2 ^ r = 2 ^ (7 - r) := by
  match r, h with
  | 0, _ => rfl
  | 1, _ => rfl
  | 2, _ => rfl
  | 3, _ => rfl
  | 4, _ => rfl
  | 5, _ => rfl
  | 6, _ => rfl
  | 7, _ => rfl

/-- What lies below B is as it was, and so is every block that is no row of bytes. -/
structure Keeps (B : Nat) (w w' : World) : Prop where
  below : Below B w w'
  other : ∀ (k : Nat) (cs : Array Value) (t : TypeId) (f : Nat × Nat), t ≠ 5 → w.heap[k]? = some (.cells cs t f) → w'.heap[k]? = some (.cells cs t f)

theorem Keeps.refl (B : Nat) (w : World) : Keeps B w w := ⟨Below.refl _ _, fun _ _ _ _ _ h => h⟩
theorem Keeps.trans {B : Nat} {a b c : World} (h : Keeps B a b) (k : Keeps B b c) : Keeps B a c := ⟨h.below.trans k.below, fun i cs t f ht hi => k.other i cs t f ht (h.other i cs t f ht hi)⟩
theorem Keeps.drew {B : Nat} {a b : World} (h : Keeps B a b) : Keeps B a b.drew := ⟨h.below.drew, h.other⟩
theorem Keeps.alloc {B : Nat} {a b : World} (h : Keeps B a b) (hB : B ≤ b.heap.size) (o : Obj) : Keeps B a (b.alloc o) :=
  ⟨h.below.alloc hB o, fun k cs t f ht hk => by
    have := h.other k cs t f ht hk
    rw [Below.heap_alloc b o k (lt_of_block this)]; exact this⟩
theorem Keeps.set_new {B : Nat} {a b : World} (h : Keeps B a b) (hB : B ≤ a.heap.size) {p : Addr} (hp : a.heap.size ≤ p.block) (u : Value) : Keeps B a (b.setCell p u) :=
  ⟨h.below.setCell (by omega) u, fun k cs t f ht hk => by
    rw [Below.heap_setCell b p u k (by have := lt_of_block hk; omega)]; exact h.other k cs t f ht hk⟩
theorem own_type {w : World} {base n : Nat} {v : Value} {xs : List Value} (h : w.ownsRow base 5 1 v n xs) {g : Nat} (hg : v.ownBlock = some g) : ∃ cur, w.heap[g]? = some (.cells cur 5 (0, 0)) := by
  rcases h.2 with ⟨h1, _⟩ | ⟨g', cap, cur, h1, _, h3, _⟩
  · rw [h1] at hg; cases hg
  · rw [h1] at hg
    simp only [Value.ownBlock, Option.some.injEq] at hg
    subst hg
    exact ⟨cur, h3⟩
theorem Keeps.set_row {B : Nat} {a b : World} (h : Keeps B a b) {g o n c : Nat} {xs : List Value} (hown : b.ownsRow B 5 1 (.slice (some ⟨g, 0, none⟩) n c) n xs) (u : Value) : Keeps B a (b.setCell ⟨g, o, none⟩ u) := by
  have hgl := (hown.lt g rfl).1
  obtain ⟨cur, hc⟩ := own_type hown (g := g) rfl
  refine ⟨h.below.setCell hgl u, fun k cs t f ht hk => ?_⟩
  have h1 := h.other k cs t f ht hk
  have hne : k ≠ g := by
    intro e
    subst e
    rw [hc] at h1
    simp only [Option.some.injEq, Obj.cells.injEq] at h1
    exact ht h1.2.1.symm
  rw [Below.heap_setCell b ⟨g, o, none⟩ u k hne]; exact h1
theorem Keeps.grown {B : Nat} {a b c : World} {v : Value} {n : Nat} {xs : List Value} (h : Keeps B a b) (hown : b.ownsRow B 5 1 v n xs) (hg : b.grownBy c v.ownBlock) (hB : B ≤ b.heap.size) : Keeps B a c := by
  refine ⟨h.below.grown hg hB (fun k hk => (hown.lt k hk).1), fun k cs t f ht hk => ?_⟩
  have h1 := h.other k cs t f ht hk
  rw [hg.block k (lt_of_block h1) ?_]
  · exact h1
  · intro e
    obtain ⟨cur, hc⟩ := own_type hown e.symm
    rw [hc] at h1
    simp only [Option.some.injEq, Obj.cells.injEq] at h1
    exact ht h1.2.1.symm

/-- No byte is laid: the last one has room. -/
theorem f82a (g n cap s B : Nat) (bit : Int) (zs : List Int) (w : World) (hown : w.ownsRow B 5 1 (.slice (some ⟨g, 0, none⟩) n cap) n (zs.map (Value.int .u8))) (hG : G zs s) (h8 : ¬ s % 8 = 0) (hs : s ≤ 80000) (hn : zs.length = n) (hB : B ≤ w.heap.size) (hbit : bit = 0 ∨ bit = 1) :
    Calls Tryd.prog 82 #[.agg #[.slice (some ⟨g, 0, none⟩) n cap, .int .i64 s], .int .i64 bit] w fun e w' =>
      e = .returned (.agg #[.slice (some ⟨g, 0, none⟩) n cap, .int .i64 ((s + 1 : Nat) : Int)]) ∧ w'.ownsRow B 5 1 (.slice (some ⟨g, 0, none⟩) n cap) n ((putq zs s 1 bit).map (Value.int .u8)) ∧ Keeps B w w' := by
  have h8' : ((s : Int) % 8 == 0) = false := by simp; omega
  have hx : ext zs s = zs := by unfold ext; rw [if_neg h8]
  have hgl := hown.lt g rfl
  have hsn : s / 8 < n := by have := hG.len; omega
  rcases hbit with rfl | rfl
  · have HP : Hid (putq zs s 1 0 = zs) := by unfold Hid; rw [put_zero hG, hx]
    have HO := hid hown
    clear hn hx hown
    go_enter Tryd.func82, Tryd.ntmps82
    go_wp2
    refine bodyPost_ret (v := .agg #[.slice (some ⟨g, 0, none⟩) n cap, .int .i64 ((s + 1 : Nat) : Int)]) (by simp [results, Tryd.results82, go_sem]) rfl ⟨rfl, ?_, ?_⟩
    · rw [HP.out]; exact (HO.out.alloc _).alloc _
    · exact ((Keeps.refl _ _).alloc hB _).alloc (by simp; omega) _
  · have HP : Hid (putq zs s 1 1 = zs.set (s / 8) (zs.getD (s / 8) 0 + 2 ^ (7 - s % 8))) := by unfold Hid; rw [put_one, hx]
    obtain ⟨e1, e2, e3⟩ := hG.ext_low
    rw [hx] at e1 e2 e3
    obtain ⟨q1, q2, q3, q4⟩ := one_bit _ (s % 8) e2 e3 (by omega) e1
    have hsh := shr128 (s % 8) (by omega)
    have hc : w.cell? ⟨g, s / 8, none⟩ = some (.int .u8 (zs.getD (s / 8) 0)) := by
      have := hown.cellAt (s / 8) (by omega)
      rw [this, List.getElem?_map, List.getElem?_eq_getElem (by omega)]
      simp [show s / 8 < zs.length from by omega]
    have hf := hown.frozenAt (s / 8)
    have HS := hid (hown.stored (s / 8) (.int .u8 (zs.getD (s / 8) 0 + 2 ^ (7 - s % 8))))
    have HK := hid ((Keeps.refl B w).set_row (o := s / 8) hown (.int .u8 (zs.getD (s / 8) 0 + 2 ^ (7 - s % 8))))
    generalize zs.getD (s / 8) 0 = L at *
    clear hn hx hown
    go_enter Tryd.func82, Tryd.ntmps82
    go_wp2
    go_region
    all_goals go_wp2
    all_goals refine bodyPost_ret (v := .agg #[.slice (some ⟨g, 0, none⟩) n cap, .int .i64 ((s + 1 : Nat) : Int)]) (by simp [results, Tryd.results82, go_sem]) rfl ⟨rfl, ?_, ?_⟩
    · rw [HP.out, List.map_set]; exact ((HS.out.1.alloc _).alloc _).drew
    · exact ((HK.out.alloc (by simp; omega) _).alloc (by simp; omega) _).drew

theorem two0 {w : World} {b : Nat} {u v : Value} {t : TypeId} (h : w.heap[b]? = some (.cells #[u, v] t (0, 0))) : w.cell? ⟨b, 0, none⟩ = some u := by simp [World.cell?, h]
theorem two1 {w : World} {b : Nat} {u v : Value} {t : TypeId} (h : w.heap[b]? = some (.cells #[u, v] t (0, 0))) : w.cell? ⟨b, 1, none⟩ = some v := by simp [World.cell?, h]
theorem twof {w : World} {b o : Nat} {u v : Value} {t : TypeId} (h : w.heap[b]? = some (.cells #[u, v] t (0, 0))) : w.frozen? ⟨b, o, none⟩ = false := by simp [World.frozen?, h]
/-- A row of bytes is no struct. -/
theorem own_ne {w : World} {base g n c X t : Nat} {xs cs : List Value} (h : w.ownsRow base 5 1 (.slice (some ⟨g, 0, none⟩) n c) n xs) (hX : w.heap[X]? = some (.cells cs.toArray t (0, 0))) (ht : t ≠ 5) : g ≠ X := by
  intro e
  subst e
  rcases h.2 with ⟨h1, _⟩ | ⟨g', cap, cur, h1, _, h3, _⟩
  · cases h1
  · simp only [Value.slice.injEq, Option.some.injEq, Addr.mk.injEq, and_true, true_and] at h1
    obtain ⟨rfl, _⟩ := h1
    rw [h3] at hX
    simp only [Option.some.injEq, Obj.cells.injEq] at hX
    exact ht hX.2.1.symm

/-- A byte is laid first. -/
theorem f82b (a : Option Addr) (n cap s B : Nat) (bit : Int) (zs : List Int) (w : World) (hown : w.ownsRow B 5 1 (.slice a n cap) n (zs.map (Value.int .u8))) (hG : G zs s) (h8 : s % 8 = 0) (hs : s ≤ 80000) (hn : zs.length = n) (hB : B ≤ w.heap.size) (hbit : bit = 0 ∨ bit = 1) :
    Calls Tryd.prog 82 #[.agg #[.slice a n cap, .int .i64 s], .int .i64 bit] w fun e w' =>
      ∃ g cap', e = .returned (.agg #[.slice (some ⟨g, 0, none⟩) (n + 1) cap', .int .i64 ((s + 1 : Nat) : Int)]) ∧ w'.ownsRow B 5 1 (.slice (some ⟨g, 0, none⟩) (n + 1) cap') (n + 1) ((putq zs s 1 bit).map (Value.int .u8)) ∧ Keeps B w w' := by
  obtain ⟨i0, hi, hz0, hz1, hz2⟩ := info_parts info5
  have h8' : ((s : Int) % 8 == 0) = true := by simp; omega
  have hx : ext zs s = zs ++ [0] := by unfold ext; rw [if_pos h8]
  have hns : n = s / 8 := by have := hG.len; omega
  have HN := hid hns
  have hn1 : n ≤ 10000 := by omega
  have HLT := hid hown.lt
  have HM : Hid (∀ bit, bit = 0 ∨ bit = 1 → putq zs s 1 bit = (zs ++ [0]).set n (bit * 2 ^ (7 - s % 8))) := by
    intro bit hb
    unfold putq
    rw [hx, ← hns, show 8 - s % 8 - 1 = 7 - s % 8 from by omega]
    have : (zs ++ [0]).getD n 0 = 0 := by simp [← hn]
    rw [this, Int.zero_add]
  clear hn hx hns
  go_enter Tryd.func82, Tryd.ntmps82
  go_wp2_with (at_builtin; refine wpList_append_own _ rfl (.tmp 10) (.tmp 11) 22 rfl B 5 i0 (.int .u8 0) 1 1 Tryd.underlying22 hi hz0 hz1 hz2 rfl (by decide) _ _ _ rfl (((hown.alloc _).alloc _).alloc _) ⟨w.heap.size + 1 + 1, 0, none⟩ 1 1 [.int .u8 0] rfl rfl ?d1 ?d2 ?d3 ?d4 ?d5 ?_)
  case d1 =>
    have h := Put.one_new ((w.alloc (.cells #[.slice a n cap, .int .i64 s] 26)).alloc (.cells #[.slice none 0 0, .int .i64 0] 26)) (.int .u8 0) 5
    simpa only [World.size_alloc] using h
  case d2 => first | rfl | (intro u hu; simp at hu; subst hu; rfl)
  case d3 => unfold maxLen; omega
  case d4 => omega
  case d5 => simp; omega
  intro v1 w1 hown1 hgr1 _
  obtain ⟨g, cap1, rfl, hg1, hg2, hg3⟩ := Put.own_shape hown1 (by omega)
  have hXl : ∀ k, (Value.slice a n cap).ownBlock = some k → k < w.heap.size := fun k hk => (HLT.out k hk).2
  have hX : w1.heap[w.heap.size]? = some (.cells #[.slice a n cap, .int .i64 s] 26 (0, 0)) := by
    rw [hgr1.block w.heap.size (by simp only [World.size_alloc]; omega) (fun e => by have := hXl _ e.symm; omega)]
    rw [Below.heap_alloc _ _ _ (by simp only [World.size_alloc]; omega), Below.heap_alloc _ _ _ (by simp)]
    exact heap_alloc_new w _
  have hY : w1.heap[w.heap.size + 1]? = some (.cells #[.slice none 0 0, .int .i64 0] 26 (0, 0)) := by
    rw [hgr1.block (w.heap.size + 1) (by simp) (fun e => by have := hXl _ e.symm; omega)]
    rw [Below.heap_alloc _ _ _ (by simp)]
    have := heap_alloc_new (w.alloc (.cells #[.slice a n cap, .int .i64 s] 26)) (.cells #[.slice none 0 0, .int .i64 0] 26)
    simpa only [World.size_alloc] using this
  have x0 := two0 hX
  have x1 := two1 hX
  have xf0 := twof (o := 0) hX
  have xf1 := twof (o := 1) hX
  have y0 := two0 hY
  have y1 := two1 hY
  have yf0 := twof (o := 0) hY
  have yf1 := twof (o := 1) hY
  have nX := own_ne (cs := [_, _]) hown1 hX (by decide)
  have nY := own_ne (cs := [_, _]) hown1 hY (by decide)
  have hgr : Keeps B w w1 := ((((Keeps.refl _ _).alloc hB _).alloc (by simp; omega) _).alloc (by simp; omega) _).grown (((hown.alloc _).alloc _).alloc _) hgr1 (by simp; omega)
  have HG := hid hgr
  have HO := hid hown1
  have hdl := hown1.cellAt n (by omega)
  have hdf := hown1.frozenAt n
  have HL : Hid (zs.length = n) := by have h := hown.1; rw [List.length_map, Nat.mul_one] at h; exact h
  have hc : w1.cell? ⟨g, n, none⟩ = some (.int .u8 0) := by
    rw [hdl, List.getElem?_append_right (by simp [HL.out])]
    simp [HL.out]
  have hrow : s / 8 = n := HN.out.symm
  clear hX hY hdl hgr1 hgr hown hown1
  rcases hbit with rfl | rfl
  · go_wp2
    refine bodyPost_ret (v := .agg #[.slice (some ⟨g, 0, none⟩) (n + 1) cap1, .int .i64 ((s + 1 : Nat) : Int)]) (by simp [results, Tryd.results82, go_sem, y0, y1]) rfl ⟨g, cap1, rfl, ?_, ?_⟩
    · rw [HM.out 0 (.inl rfl), Int.zero_mul]
      have e : ((zs ++ [0]).set n 0) = zs ++ [0] := by rw [List.set_append_right _ _ (by rw [HL.out]; exact Nat.le_refl _), HL.out, Nat.sub_self]; rfl
      rw [e, List.map_append]
      exact ownsRow_setCell_other (ownsRow_setCell_other (ownsRow_setCell_other (ownsRow_setCell_other HO.out (by simpa [Value.ownBlock] using nX) _) (by simpa [Value.ownBlock] using nX) _) (by simpa [Value.ownBlock] using nY) _) (by simpa [Value.ownBlock] using nY) _
    · exact (((HG.out.set_new hB (Nat.le_refl _) _).set_new hB (Nat.le_refl _) _).set_new hB (by simp) _).set_new hB (by simp) _
  · have hsh := shr128 (s % 8) (by omega)
    have HV : Hid (bits .or .u8 0 128 = 1 * 2 ^ (7 - s % 8)) := by
      unfold Hid
      rw [h8]
      exact u8_or_nat 0 128 (by omega) (by omega)
    go_wp2
    go_region
    all_goals go_wp2
    all_goals refine bodyPost_ret (v := .agg #[.slice (some ⟨g, 0, none⟩) (n + 1) cap1, .int .i64 ((s + 1 : Nat) : Int)]) (by simp [results, Tryd.results82, go_sem, y0, y1]) rfl ⟨g, cap1, rfl, ?_, ?_⟩
    · rw [HM.out 1 (.inr rfl), List.map_set, List.map_append, HV.out]
      exact (ownsRow_setCell_other (ownsRow_setCell_other (ownsRow_setCell_other ((ownsRow_setCell_other HO.out (by simpa [Value.ownBlock] using nX) _).stored n _).1 (by simpa [Value.ownBlock] using nX) _) (by simpa [Value.ownBlock] using nY) _) (by simpa [Value.ownBlock] using nY) _).drew
    · exact (((((HG.out.set_new hB (Nat.le_refl _) _).set_row (ownsRow_setCell_other HO.out (by simpa [Value.ownBlock] using nX) _) _).set_new hB (Nat.le_refl _) _).set_new hB (by simp) _).set_new hB (by simp) _).drew
end Go.Proofs.YteblbcbfaomdmaaDoor.Bts
