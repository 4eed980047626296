/- One matcher is read: what readMatcher comes to. -/
import Derived.Test.YtbjlnaaheahhnaaDoorNa
namespace Go.Proofs.YtbjlnaaheahhnaaDoor.Lab
open Go.RowKit Go.Proofs.YtbjlnaaheahhnaaDoor.Str

/-- The Op whose sign stands at the beginning, the signs of two bytes first. -/
def opA (l : List UInt8) : Option Nat := if pfx l (Pat.sgA 4) = true then some 4 else if pfx l (Pat.sgA 3) = true then some 3 else if pfx l (Pat.sgA 2) = true then some 2 else if pfx l (Pat.sgA 1) = true then some 1 else none
theorem opA_some {l : List UInt8} {j : Nat} (h1 : 1 ≤ j) (h4 : j ≤ 4) (hj : pfx l (Pat.sgA j) = true) (hn : ∀ i, j < i → i ≤ 4 → pfx l (Pat.sgA i) = false) : opA l = some j := by
  unfold opA
  have c : j = 1 ∨ j = 2 ∨ j = 3 ∨ j = 4 := by omega
  rcases c with rfl | rfl | rfl | rfl
  · rw [hn 4 (by omega) (by omega), hn 3 (by omega) (by omega), hn 2 (by omega) (by omega), hj]; rfl
  · rw [hn 4 (by omega) (by omega), hn 3 (by omega) (by omega), hj]; rfl
  · rw [hn 4 (by omega) (by omega), hj]; rfl
  · rw [hj]; rfl
theorem opA_none {l : List UInt8} (hn : ∀ i, 0 < i → i ≤ 4 → pfx l (Pat.sgA i) = false) : opA l = none := by
  unfold opA
  rw [hn 4 (by omega) (by omega), hn 3 (by omega) (by omega), hn 2 (by omega) (by omega), hn 1 (by omega) (by omega)]; rfl
/-- One matcher from a place on: it, and the place behind it. -/
def oneM (s : ByteArray) (t : Nat) : Option (Pat.Mt × Nat) :=
  (opA ((by' s).drop (nmE (by' s) t))).bind fun j => (quo s (nmE (by' s) t + (Pat.sgA j).size)).map fun p => ((s.extract t (nmE (by' s) t), (j : Int), mkS p.1), p.2)
/-- What the call of readMatcher leaves. -/
def MatR (R : Nat) (s : ByteArray) (t : Nat) (w : World) (e : Ending) (w' : World) : Prop :=
  w.grownBy w' (some R) ∧ ((oneM s t = none ∧ ∃ a b, ∃ o : Int, e = .returned (.tuple #[.agg #[.string a, .int .i64 o, .string b], .bool false])) ∨ ∃ p k, oneM s t = some (p, k) ∧ e = .returned (.tuple #[.agg #[.string p.1, .int .i64 p.2.1, .string p.2.2], .bool true]) ∧ Rdr R s k w')
theorem tri_set0 {w : World} {b : Nat} {u v x u' : Value} {t : TypeId} (h : w.heap[b]? = some (.cells #[u, v, x] t (0, 0))) : (w.setCell ⟨b, 0, none⟩ u').heap[b]? = some (.cells #[u', v, x] t (0, 0)) := by
  have hlt := lt_block h
  have h' : w.heap[b] = .cells #[u, v, x] t (0, 0) := by simpa [Array.getElem?_eq_getElem hlt] using h
  show (w.heap.modify b _)[b]? = _
  rw [Array.getElem?_eq_getElem (by simpa using hlt), Array.getElem_modify_self, h']
  rfl
theorem tri_set1 {w : World} {b : Nat} {u v x v' : Value} {t : TypeId} (h : w.heap[b]? = some (.cells #[u, v, x] t (0, 0))) : (w.setCell ⟨b, 1, none⟩ v').heap[b]? = some (.cells #[u, v', x] t (0, 0)) := by
  have hlt := lt_block h
  have h' : w.heap[b] = .cells #[u, v, x] t (0, 0) := by simpa [Array.getElem?_eq_getElem hlt] using h
  show (w.heap.modify b _)[b]? = _
  rw [Array.getElem?_eq_getElem (by simpa using hlt), Array.getElem_modify_self, h']
  rfl
theorem tri_set2 {w : World} {b : Nat} {u v x x' : Value} {t : TypeId} (h : w.heap[b]? = some (.cells #[u, v, x] t (0, 0))) : (w.setCell ⟨b, 2, none⟩ x').heap[b]? = some (.cells #[u, v, x'] t (0, 0)) := by
  have hlt := lt_block h
  have h' : w.heap[b] = .cells #[u, v, x] t (0, 0) := by simpa [Array.getElem?_eq_getElem hlt] using h
  show (w.heap.modify b _)[b]? = _
  rw [Array.getElem?_eq_getElem (by simpa using hlt), Array.getElem_modify_self, h']
  rfl
theorem tri_frz {w : World} {b o : Nat} {u v x : Value} {t : TypeId} (h : w.heap[b]? = some (.cells #[u, v, x] t (0, 0))) : w.frozen? ⟨b, o, none⟩ = false := by simp [World.frozen?, h]
theorem sgn_kept {w w' : World} {R : Nat} (h : Pat.Sgn w) (hg : w.grownBy w' (some R)) (hR : 0 < R) : Pat.Sgn w' := by
  refine ⟨Nat.lt_of_lt_of_le h.1 hg.size, fun l hl => ?_⟩
  rw [← h.2 l hl]
  unfold World.cell?
  have := hg.block 0 h.1 (by simp; omega)
  simp only [this]
/-- A reader, the box of the answer, the signs. -/
structure Ms (R X : Nat) (s : ByteArray) (w0 : World) (k : Nat) (w : World) : Prop where
  rdr : Rdr R s k w
  box : w.heap[X]? = some (.cells #[.string ByteArray.empty, .int .i64 0, .string ByteArray.empty] 37 (0, 0))
  sgn : Pat.Sgn w
  grw : w0.grownBy w (some R)
theorem Ms.moved {R X : Nat} {s : ByteArray} {w0 w w' : World} {k k' : Nat} (h : Ms R X s w0 k w) (hr : Rdr R s k' w') (hg : w.grownBy w' (some R)) (h0 : 0 < R) (hX : X ≠ R) : Ms R X s w0 k' w' :=
  ⟨hr, kept_at hg h.box hX, sgn_kept h.sgn hg h0, Lib.grownBy_trans h.grw hg⟩

set_option maxHeartbeats 4000000 in
set_option maxRecDepth 100000 in
theorem f24 (R : Nat) (s : ByteArray) (t : Nat) (w : World) (hs : s.size ≤ 1048576) (h : Rdr R s t w) (hR0 : 0 < R) (hg : Pat.Sgn w) : Calls Tryd.prog 24 #[.pointer (some ⟨R, 0, none⟩)] w (MatR R s t w) := by
  have hRw : R < w.heap.size := lt_block h.1
  have HM0 : Hid (Ms R w.heap.size s w t (w.alloc (.cells #[.string ByteArray.empty, .int .i64 0, .string ByteArray.empty] 37))) := ⟨⟨box_alloc h.1 _, h.2⟩, heap_alloc_new w _, sgn_kept hg (World.grownBy_alloc w _ (some R)) hR0, World.grownBy_alloc w _ _⟩
  clear h hg
  go_enter Tryd.func24, Tryd.ntmps24
  go_wp2_with fail
  refine (f38 R s t _ hs HM0.out.rdr).mono ?_
  rintro e w1 ⟨rfl, hr1, hg1⟩
  have HM1 := hid (HM0.out.moved hr1 hg1 hR0 (by omega))
  obtain ⟨E, hE⟩ : ∃ E, E = nmE (by' s) t := ⟨_, rfl⟩
  have HE := hid hE
  rw [← hE] at HM1 ⊢
  clear hr1 hg1 HM0 hE
  go_wp2
  go_loopw [5] (fun sj wr => ∃ (j : Nat), sj = .int .i64 j ∧ j ≤ 4 ∧ Hid (∀ i, j < i → i ≤ 4 → pfx ((by' s).drop E) (Pat.sgA i) = false) ∧ Hid (Ms R w.heap.size s w E wr)) (fun sj _ => (intOf sj).toNat)
  case atStart => exact ⟨4, rfl, Nat.le_refl _, fun i h1 h2 => by omega, HM1⟩
  case round =>
    obtain ⟨j, rfl, hj4, HN, HM⟩ := hrel
    by_cases hj : 1 ≤ j
    · have cj := HM.out.sgn.2 j (by omega)
      have i1 : (j : Int) < 5 := by omega
      have i2 : (0 : Int) ≤ (j : Int) := by omega
      have i3 : (1 : Int) ≤ (j : Int) := by omega
      by_cases hp : pfx ((by' s).drop E) (Pat.sgA j) = true
      · have HO := hid (opA_some hj hj4 hp HN.out)
        go_wp2_with fail
        refine (f39g R s (Pat.sgA j) E _ hs (Pat.sgA_size j) HM.out.rdr hp).mono ?_
        rintro e w2 ⟨rfl, hr2, hg2⟩
        have HM2 := hid (HM.out.moved hr2 hg2 hR0 (by omega))
        clear hr2 hg2 hp cj
        go_wp2_with fail
        refine (f40 R s _ _ hs HM2.out.rdr).mono ?_
        rintro e w3 ⟨hg3, h3⟩
        have HX3 := hid (kept_at hg3 HM2.out.box (by omega))
        have HG3 := hid (Lib.grownBy_trans HM2.out.grw hg3)
        obtain ⟨c0, c1, c2⟩ := Pat.three_at HX3.out
        have z0 := tri_frz (o := 0) HX3.out
        have z1 := tri_frz (o := 1) HX3.out
        have z2 := tri_frz (o := 2) HX3.out
        rcases h3 with ⟨hq, rfl⟩ | ⟨v, k, hq, rfl, hr3⟩
        · have HF : Hid (oneM s t = none) := by unfold Hid oneM; rw [← HE.out, HO.out]; simp [hq]
          clear hg3 hq
          go_wp2
          have y := tri_set2 (x' := .string ⟨#[]⟩) (tri_set1 (v' := .int .i64 (j : Int)) (tri_set0 (u' := .string (s.extract t E)) HX3.out))
          obtain ⟨y0, y1, y2⟩ := Pat.three_at y
          refine bodyPost_ret (v := .tuple #[.agg #[.string (s.extract t E), .int .i64 (j : Int), .string ⟨#[]⟩], .bool false]) ?_ rfl ⟨grown_new (grown_new (grown_new HG3.out (Nat.le_refl _)) (Nat.le_refl _)) (Nat.le_refl _), .inl ⟨HF.out, _, _, _, rfl⟩⟩
          rw [results_cell_tmp rfl]
          go_simp
        · have HF : Hid (oneM s t = some ((s.extract t E, (j : Int), mkS v), k)) := by unfold Hid oneM; rw [← HE.out, HO.out]; simp [hq]
          have HR3 := hid hr3
          clear hg3 hq hr3
          go_wp2
          have y := tri_set2 (x' := .string (mkS v)) (tri_set1 (v' := .int .i64 (j : Int)) (tri_set0 (u' := .string (s.extract t E)) HX3.out))
          obtain ⟨y0, y1, y2⟩ := Pat.three_at y
          refine bodyPost_ret (v := .tuple #[.agg #[.string (s.extract t E), .int .i64 (j : Int), .string (mkS v)], .bool true]) ?_ rfl ⟨grown_new (grown_new (grown_new HG3.out (Nat.le_refl _)) (Nat.le_refl _)) (Nat.le_refl _), .inr ⟨_, k, HF.out, rfl, rdr_new (rdr_new (rdr_new HR3.out (by omega)) (by omega)) (by omega)⟩⟩
          rw [results_cell_tmp rfl]
          go_simp
      · have hp' : pfx ((by' s).drop E) (Pat.sgA j) = false := by simpa using hp
        have HN2 : Hid (∀ i, j - 1 < i → i ≤ 4 → pfx ((by' s).drop E) (Pat.sgA i) = false) := by
          intro i h1 h2
          by_cases h3 : i = j
          · rw [h3]; exact hp'
          · exact HN.out i (by omega) h2
        go_wp2_with fail
        refine (f39h R s (Pat.sgA j) E _ hs (Pat.sgA_size j) HM.out.rdr hp').mono ?_
        rintro e w2 ⟨rfl, hr2, hg2⟩
        have HM2 := hid (HM.out.moved hr2 hg2 hR0 (by omega))
        clear hr2 hg2 hp hp' cj
        go_wp2
        go_roundw
        case rel => exact ⟨j - 1, by go_num, by omega, HN2, HM2⟩
        case measure => simp [intOf]; omega
    · have HF : Hid (oneM s t = none) := by unfold Hid oneM; rw [← HE.out, opA_none (fun i h1 h2 => HN.out i (by omega) h2)]; rfl
      have HX3 := hid HM.out.box
      obtain ⟨c0, c1, c2⟩ := Pat.three_at HX3.out
      have z0 := tri_frz (o := 0) HX3.out
      have z1 := tri_frz (o := 1) HX3.out
      have z2 := tri_frz (o := 2) HX3.out
      have i3 : ¬ (1 : Int) ≤ (j : Int) := by omega
      go_wp2
      have y := tri_set2 (x' := .string ByteArray.empty) (tri_set1 (v' := .int .i64 0) (tri_set0 (u' := .string ByteArray.empty) HX3.out))
      obtain ⟨y0, y1, y2⟩ := Pat.three_at y
      refine bodyPost_ret (v := .tuple #[.agg #[.string ByteArray.empty, .int .i64 0, .string ByteArray.empty], .bool false]) ?_ rfl ⟨grown_new (grown_new (grown_new HM.out.grw (Nat.le_refl _)) (Nat.le_refl _)) (Nat.le_refl _), .inl ⟨HF.out, _, _, _, rfl⟩⟩
      rw [results_cell_tmp rfl]
      go_simp
      rfl
end Go.Proofs.YtbjlnaaheahhnaaDoor.Lab
