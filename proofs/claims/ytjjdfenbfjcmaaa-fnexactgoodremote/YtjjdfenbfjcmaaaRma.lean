/- Configurations of remote writing: copied, both GoodRemotes; such that came in; the walk of FnExactGoodRemote. -/
import Derived.Test.YtjjdfenbfjcmaaaRows
import Derived.WalkKit
import Derived.ProofKit
import Derived.Handy
import Derived.BigQuiet
import Derived.OpenShut
import Derived.ChangeOld
import Derived.Deep.Fields
import Derived.Deep.QuietTactic
import Derived.Deep.RegionHeld3
import Derived.Below
import Derived.WalkSmall
import Derived.Deep.SlicePairs
namespace Go.Proofs.Ytjjdfenbfjcmaaa.Rmo
open Go.ChangeShapes Go.WideShapes Go.ChangeAt Go.RowKit Go.Deep Go.WideElems Go.Maps

theorem hid {p : Prop} (h : p) : Hid p := h
theorem ret_bool {a b : Bool} (h : a = b) : Ending.returned (.bool a) = .returned (.bool b) := by rw [h]

/-- A configuration of these numbers. -/
abbrev rc (A B C D E : Int) : Value := .agg #[.int .i64 A, .int .i64 B, .int .i64 C, .int .i64 D, .int .i64 E]
/-- A good one. -/
def OkR (A B C D E : Int) : Prop := (1 ≤ A ∧ A ≤ 500) ∧ (1 ≤ B ∧ B ≤ 2000) ∧ (0 ≤ C ∧ C ≤ 10000) ∧ (1 ≤ D ∧ D ≤ 10000) ∧ (1 ≤ E ∧ E ≤ 10000)
instance (A B C D E : Int) : Decidable (OkR A B C D E) := by unfold OkR; infer_instance

set_option maxHeartbeats 1000000 in
theorem f6 (A B C D E : Int) (w : World) : Calls Try.prog 6 #[rc A B C D E] w fun e w' => e = .returned (rc A B C D E) ∧ Below w.heap.size w w' := by
  go_enter Try.func6, Try.ntmps6
  go_wp2
  refine bodyPost_ret (v := rc A B C D E) (by simp [results, Try.results6, go_sem]) rfl ⟨rfl, ?_⟩
  refine Below.alloc (Below.alloc (Below.alloc (Below.refl w.heap.size w) (Nat.le_refl _) _) (by simp) _) (by simp only [World.size_alloc]; omega) _
theorem f17 (n : Int) (w : World) : Calls Try.prog 17 #[.int .i64 n] w fun e w' => e = .returned (.bool (decide (1 ≤ n ∧ n ≤ 10000))) ∧ w' = w := by
  go_enter Try.func17, Try.ntmps17
  by_cases h2 : 1 ≤ n <;> go_wp2 <;> go_ret <;> exact ⟨ret_bool (by simp [h2] <;> omega), rfl⟩
set_option maxHeartbeats 2000000 in
theorem f5 (A B C D E : Int) (w : World) : Calls Try.prog 5 #[rc A B C D E] w fun e w' => e = .returned (.bool (decide (OkR A B C D E))) ∧ Below w.heap.size w w' := by
  have HB := hid ((Below.refl w.heap.size w).alloc (Nat.le_refl _) (.cells #[.int .i64 A, .int .i64 B, .int .i64 C, .int .i64 D, .int .i64 E] 25))
  go_enter Try.func5, Try.ntmps5
  by_cases h0 : 1 ≤ A
  · by_cases h1 : A ≤ 500
    · by_cases h2 : 1 ≤ B
      · by_cases h3 : B ≤ 2000
        · by_cases h4 : 0 ≤ C
          · by_cases h5 : C ≤ 10000
            · by_cases h6 : 1 ≤ D
              · by_cases h7 : D ≤ 10000
                · by_cases h8 : 1 ≤ E
                  · by_cases h9 : E ≤ 10000
                    · have HE : Hid (decide (OkR A B C D E) = true) := decide_eq_true ⟨⟨h0, h1⟩, ⟨h2, h3⟩, ⟨h4, h5⟩, ⟨h6, h7⟩, ⟨h8, h9⟩⟩
                      go_wp2
                      go_ret
                      exact ⟨ret_bool HE.out.symm, HB.out⟩
                    · have HE : Hid (decide (OkR A B C D E) = false) := decide_eq_false fun h => h9 h.2.2.2.2.2
                      go_wp2
                      go_ret
                      exact ⟨ret_bool HE.out.symm, HB.out⟩
                  · have HE : Hid (decide (OkR A B C D E) = false) := decide_eq_false fun h => h8 h.2.2.2.2.1
                    go_wp2
                    go_ret
                    exact ⟨ret_bool HE.out.symm, HB.out⟩
                · have HE : Hid (decide (OkR A B C D E) = false) := decide_eq_false fun h => h7 h.2.2.2.1.2
                  go_wp2
                  go_ret
                  exact ⟨ret_bool HE.out.symm, HB.out⟩
              · have HE : Hid (decide (OkR A B C D E) = false) := decide_eq_false fun h => h6 h.2.2.2.1.1
                go_wp2
                go_ret
                exact ⟨ret_bool HE.out.symm, HB.out⟩
            · have HE : Hid (decide (OkR A B C D E) = false) := decide_eq_false fun h => h5 h.2.2.1.2
              go_wp2
              go_ret
              exact ⟨ret_bool HE.out.symm, HB.out⟩
          · have HE : Hid (decide (OkR A B C D E) = false) := decide_eq_false fun h => h4 h.2.2.1.1
            go_wp2
            go_ret
            exact ⟨ret_bool HE.out.symm, HB.out⟩
        · have HE : Hid (decide (OkR A B C D E) = false) := decide_eq_false fun h => h3 h.2.1.2
          go_wp2
          go_ret
          exact ⟨ret_bool HE.out.symm, HB.out⟩
      · have HE : Hid (decide (OkR A B C D E) = false) := decide_eq_false fun h => h2 h.2.1.1
        go_wp2
        go_ret
        exact ⟨ret_bool HE.out.symm, HB.out⟩
    · have HE : Hid (decide (OkR A B C D E) = false) := decide_eq_false fun h => h1 h.1.2
      go_wp2
      go_ret
      exact ⟨ret_bool HE.out.symm, HB.out⟩
  · have HE : Hid (decide (OkR A B C D E) = false) := decide_eq_false fun h => h0 h.1.1
    go_wp2
    go_ret
    exact ⟨ret_bool HE.out.symm, HB.out⟩
set_option maxHeartbeats 2000000 in
theorem f7 (A B C D E : Int) (w : World) : Calls Try.prog 7 #[rc A B C D E] w fun e w' => e = .returned (.bool (decide (OkR A B C D E))) ∧ Below w.heap.size w w' := by
  have HB := hid ((Below.refl w.heap.size w).alloc (Nat.le_refl _) (.cells #[.int .i64 A, .int .i64 B, .int .i64 C, .int .i64 D, .int .i64 E] 25))
  go_enter Try.func7, Try.ntmps7
  by_cases h0 : 1 ≤ A
  · by_cases h1 : A ≤ 500
    · by_cases h2 : 1 ≤ B
      · by_cases h3 : B ≤ 2000
        · by_cases h4 : C = 0
          · subst h4
            have hD : Hid (decide (OkR A B 0 D E) = decide ((1 ≤ D ∧ D ≤ 10000) ∧ (1 ≤ E ∧ E ≤ 10000))) := decide_eq_decide.2 ⟨fun h => h.2.2.2, fun h => ⟨⟨h0, h1⟩, ⟨h2, h3⟩, ⟨by omega, by omega⟩, h⟩⟩
            go_wp2_with fail
            refine (f17 D _).mono ?_
            rintro e w1 ⟨rfl, hw⟩; subst w1
            by_cases h6 : 1 ≤ D ∧ D ≤ 10000
            · rw [decide_eq_true h6]
              have HE : Hid (decide ((1 ≤ D ∧ D ≤ 10000) ∧ (1 ≤ E ∧ E ≤ 10000)) = decide (1 ≤ E ∧ E ≤ 10000)) := decide_eq_decide.2 ⟨fun h => h.2, fun h => ⟨h6, h⟩⟩
              clear h6
              go_wp2_with fail
              refine (f17 E _).mono ?_
              rintro e w1 ⟨rfl, hw⟩; subst w1
              generalize decide (1 ≤ E ∧ E ≤ 10000) = T at HE ⊢
              go_wp2
              go_ret
              exact ⟨ret_bool (hD.out.trans HE.out).symm, HB.out⟩
            · rw [decide_eq_false h6]
              have HE : Hid (decide ((1 ≤ D ∧ D ≤ 10000) ∧ (1 ≤ E ∧ E ≤ 10000)) = false) := decide_eq_false fun h => h6 h.1
              clear h6
              go_wp2
              go_ret
              exact ⟨ret_bool (hD.out.trans HE.out).symm, HB.out⟩
          · go_wp2_with fail
            refine (f17 C _).mono ?_
            rintro e w1 ⟨rfl, hw⟩; subst w1
            by_cases h5 : 1 ≤ C ∧ C ≤ 10000
            · rw [decide_eq_true h5]
              have hD : Hid (decide (OkR A B C D E) = decide ((1 ≤ D ∧ D ≤ 10000) ∧ (1 ≤ E ∧ E ≤ 10000))) := decide_eq_decide.2 ⟨fun h => h.2.2.2, fun h => ⟨⟨h0, h1⟩, ⟨h2, h3⟩, ⟨by omega, by omega⟩, h⟩⟩
              clear h5
              go_wp2_with fail
              refine (f17 D _).mono ?_
              rintro e w1 ⟨rfl, hw⟩; subst w1
              by_cases h6 : 1 ≤ D ∧ D ≤ 10000
              · rw [decide_eq_true h6]
                have HE : Hid (decide ((1 ≤ D ∧ D ≤ 10000) ∧ (1 ≤ E ∧ E ≤ 10000)) = decide (1 ≤ E ∧ E ≤ 10000)) := decide_eq_decide.2 ⟨fun h => h.2, fun h => ⟨h6, h⟩⟩
                clear h6
                go_wp2_with fail
                refine (f17 E _).mono ?_
                rintro e w1 ⟨rfl, hw⟩; subst w1
                generalize decide (1 ≤ E ∧ E ≤ 10000) = T at HE ⊢
                go_wp2
                go_ret
                exact ⟨ret_bool (hD.out.trans HE.out).symm, HB.out⟩
              · rw [decide_eq_false h6]
                have HE : Hid (decide ((1 ≤ D ∧ D ≤ 10000) ∧ (1 ≤ E ∧ E ≤ 10000)) = false) := decide_eq_false fun h => h6 h.1
                clear h6
                go_wp2
                go_ret
                exact ⟨ret_bool (hD.out.trans HE.out).symm, HB.out⟩
            · rw [decide_eq_false h5]
              have HE : Hid (decide (OkR A B C D E) = false) := decide_eq_false fun h => by have := h.2.2.1; omega
              clear h5
              go_wp2
              go_ret
              exact ⟨ret_bool HE.out.symm, HB.out⟩
        · have HE : Hid (decide (OkR A B C D E) = false) := decide_eq_false fun h => h3 h.2.1.2
          go_wp2
          go_ret
          exact ⟨ret_bool HE.out.symm, HB.out⟩
      · have HE : Hid (decide (OkR A B C D E) = false) := decide_eq_false fun h => h2 h.2.1.1
        go_wp2
        go_ret
        exact ⟨ret_bool HE.out.symm, HB.out⟩
    · have HE : Hid (decide (OkR A B C D E) = false) := decide_eq_false fun h => h1 h.1.2
      go_wp2
      go_ret
      exact ⟨ret_bool HE.out.symm, HB.out⟩
  · have HE : Hid (decide (OkR A B C D E) = false) := decide_eq_false fun h => h0 h.1.1
    go_wp2
    go_ret
    exact ⟨ret_bool HE.out.symm, HB.out⟩
theorem array5 {α : Type} {cs : Array α} (h : cs.size = 5) : ∃ c0 c1 c2 c3 c4, cs = #[c0, c1, c2, c3, c4] := by
  obtain ⟨l⟩ := cs
  match l, h with
  | [c0, c1, c2, c3, c4], _ => exact ⟨c0, c1, c2, c3, c4, rfl⟩
theorem open_five {H : Type} {enc : TypeId × Value → H} {P : Program} {w : World} {base : Nat} {spare : Nat → Bool} {held : Bool} {r : Reach} {b0 : Nat} {t : TypeId} {g0 g1 g2 g3 g4 : Field} {v : Value} {d : DataW H} {p : List MemPlace} (hs : P.underlying t = some (.struct #[g0, g1, g2, g3, g4])) (hone : oneCellFields P #[g0, g1, g2, g3, g4] = true) (hC : P.cellsOf t = 5)
    (hv : Value.okWide P w r b0 t v) (h : DataW.Trod enc P w base spare held t v d p) :
    ∃ (v0 v1 v2 v3 v4 : Value) (y0 y1 y2 y3 y4 : DataW H × List MemPlace) (n : Nat), v = .agg #[v0, v1, v2, v3, v4] ∧
      DataW.trod enc P w base spare held n g0.type [v0] = some y0 ∧ DataW.trod enc P w base spare held n g1.type [v1] = some y1 ∧ DataW.trod enc P w base spare held n g2.type [v2] = some y2 ∧ DataW.trod enc P w base spare held n g3.type [v3] = some y3 ∧ DataW.trod enc P w base spare held n g4.type [v4] = some y4 := by
  obtain ⟨cs, rfl, hsz⟩ := okWide_struct hs hv
  obtain ⟨c0, c1, c2, c3, c4, rfl⟩ := array5 (hsz.trans hC)
  obtain ⟨fuel, hf⟩ := h
  obtain ⟨xs, n, _, _, hl, hlen, hg⟩ := DataW.trod_struct hs hf
  match xs, hlen with
  | [y0, y1, y2, y3, y4], _ =>
    obtain ⟨o0, k0⟩ := hone_of hone 0 g0 rfl
    obtain ⟨o1, k1⟩ := hone_of hone 1 g1 rfl
    obtain ⟨o2, k2⟩ := hone_of hone 2 g2 rfl
    obtain ⟨o3, k3⟩ := hone_of hone 3 g3 rfl
    obtain ⟨o4, k4⟩ := hone_of hone 4 g4 rfl
    exact ⟨c0, c1, c2, c3, c4, y0, y1, y2, y3, y4, n, rfl, by simpa [Value.cells, o0, k0] using hg 0 g0 rfl, by simpa [Value.cells, o1, k1] using hg 1 g1 rfl, by simpa [Value.cells, o2, k2] using hg 2 g2 rfl, by simpa [Value.cells, o3, k3] using hg 3 g3 rfl, by simpa [Value.cells, o4, k4] using hg 4 g4 rfl⟩
set_option maxRecDepth 100000 in
theorem open_remote {H : Type} {enc : TypeId × Value → H} {W : World} {base : Nat} {v : Value} {d : DataW H} {p : List MemPlace} (hv : Value.okWide Try.prog W .any base 23 v) (h : DataW.Trod enc Try.prog W 0 (fun _ => true) true 23 v d p) :
    ∃ A B C D E : Int, v = rc A B C D E := by
  obtain ⟨v0, v1, v2, v3, v4, y0, y1, y2, y3, y4, n, rfl, h0, h1, h2, h3, h4⟩ := open_five Try.underlying23 (by kernel_rfl) (by kernel_rfl) hv h
  obtain ⟨A, e0, _, _⟩ := DataW.trod_int Try.underlying3 h0
  obtain ⟨B, e1, _, _⟩ := DataW.trod_int Try.underlying3 h1
  obtain ⟨C, e2, _, _⟩ := DataW.trod_int Try.underlying3 h2
  obtain ⟨D, e3, _, _⟩ := DataW.trod_int Try.underlying3 h3
  obtain ⟨E, e4, _, _⟩ := DataW.trod_int Try.underlying3 h4
  simp only [List.cons.injEq, and_true] at e0 e1 e2 e3 e4
  subst e0 e1 e2 e3 e4
  exact ⟨A, B, C, D, E, rfl⟩
theorem five {x : World} {b : Nat} {v0 v1 v2 v3 v4 : Value} {t : TypeId} (h : x.heap[b]? = some (.cells #[v0, v1, v2, v3, v4] t)) : x.cell? ⟨b, 0, none⟩ = some v0 ∧ x.cell? ⟨b, 1, none⟩ = some v1 ∧ x.cell? ⟨b, 2, none⟩ = some v2 ∧ x.cell? ⟨b, 3, none⟩ = some v3 ∧ x.cell? ⟨b, 4, none⟩ = some v4 := by
  refine ⟨?_, ?_, ?_, ?_, ?_⟩ <;> simp [World.cell?, h]
theorem lt_at {x : World} {b : Nat} {o : Obj} (h : x.heap[b]? = some o) : b < x.heap.size := (Array.getElem?_eq_some_iff.1 h).1
theorem kept {x y : World} {b : Nat} {o : Obj} (h : x.heap[b]? = some o) (hb : Below x.heap.size x y) : y.heap[b]? = some o := (hb.block b (lt_at h)).trans h
abbrev CL (A B C D E : Int) (t : TypeId) : Obj := .cells #[.int .i64 A, .int .i64 B, .int .i64 C, .int .i64 D, .int .i64 E] t
set_option maxHeartbeats 1000000 in
theorem walkRemote (A B C D E : Int) (w : World) : Calls Try.prog 3 #[rc A B C D E] w fun e w' => e = .returned (.bool true) ∧ Below w.heap.size w w' := by
  have HX : Hid ((w.alloc (CL A B C D E 23)).heap[w.heap.size]? = some (CL A B C D E 23) ∧ Below w.heap.size w (w.alloc (CL A B C D E 23))) := ⟨heap_alloc_new w _, (Below.refl w.heap.size w).alloc (Nat.le_refl _) _⟩
  go_enter Try.func3, Try.ntmps3
  go_wp2_with fail
  generalize w.alloc _ = x1 at HX ⊢
  refine (f6 A B C D E _).mono ?_
  rintro e x2 ⟨rfl, hb⟩
  have HX2 : Hid (x2.heap[w.heap.size]? = some (CL A B C D E 23) ∧ Below w.heap.size w x2) := ⟨kept HX.out.1 hb, HX.out.2.trans (hb.mono HX.out.2.size)⟩
  clear hb HX
  go_wp2_with fail
  refine (f5 A B C D E _).mono ?_
  rintro e x3 ⟨rfl, hb⟩
  have HX3 : Hid (x3.heap[w.heap.size]? = some (CL A B C D E 23) ∧ Below w.heap.size w x3) := ⟨kept HX2.out.1 hb, HX2.out.2.trans (hb.mono HX2.out.2.size)⟩
  clear hb HX2
  obtain ⟨c0, c1, c2, c3, c4⟩ := five HX3.out.1
  obtain ⟨T, hT⟩ : ∃ T, T = decide (OkR A B C D E) := ⟨_, rfl⟩
  have HT := hid hT
  rw [← hT]
  clear hT
  go_wp2_with fail
  refine (f6 A B C D E _).mono ?_
  rintro e x4 ⟨rfl, hb⟩
  have HX4 : Hid (Below w.heap.size w x4) := HX3.out.2.trans (hb.mono HX3.out.2.size)
  clear hb HX3 c0 c1 c2 c3 c4
  go_wp2_with fail
  refine (f7 A B C D E _).mono ?_
  rw [← HT.out]
  rintro e x5 ⟨rfl, hb⟩
  have HX5 : Hid (Below w.heap.size w x5) := HX4.out.trans (hb.mono HX4.out.size)
  clear hb HX4
  have g : (T != T) = false := by simp
  go_wp2
  go_ret
  exact ⟨rfl, HX5.out⟩
end Go.Proofs.Ytjjdfenbfjcmaaa.Rmo
