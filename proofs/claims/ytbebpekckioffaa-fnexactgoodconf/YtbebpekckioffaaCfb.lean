/- Configurations that came in; the walk of FnExactGoodConf. -/
import Derived.Test.YtbebpekckioffaaCfa
import Derived.OpenShut
import Derived.ChangeOld
import Derived.Deep.Fields
namespace Go.Proofs.Ytbebpekckioffaa.Cfs
open Go.ChangeShapes Go.WideShapes Go.ChangeAt Go.RowKit Go.Deep Go.WideElems Go.Maps Go.Proofs.Ytbebpekckioffaa.Smp Go.Proofs.Ytbebpekckioffaa.Hdn

theorem array4 {α : Type} {cs : Array α} (h : cs.size = 4) : ∃ c0 c1 c2 c3, cs = #[c0, c1, c2, c3] := by
  obtain ⟨l⟩ := cs
  match l, h with
  | [c0, c1, c2, c3], _ => exact ⟨c0, c1, c2, c3, rfl⟩
theorem open_four {H : Type} {enc : TypeId × Value → H} {P : Program} {w : World} {base : Nat} {spare : Nat → Bool} {held : Bool} {r : Reach} {b0 : Nat} {t : TypeId} {g0 g1 g2 g3 : Field} {v : Value} {d : DataW H} {p : List MemPlace} (hs : P.underlying t = some (.struct #[g0, g1, g2, g3])) (hone : oneCellFields P #[g0, g1, g2, g3] = true) (hC : P.cellsOf t = 4)
    (hv : Value.okWide P w r b0 t v) (h : DataW.Trod enc P w base spare held t v d p) :
    ∃ (v0 v1 v2 v3 : Value) (y0 y1 y2 y3 : DataW H × List MemPlace) (n : Nat), v = .agg #[v0, v1, v2, v3] ∧
      DataW.trod enc P w base spare held n g0.type [v0] = some y0 ∧ DataW.trod enc P w base spare held n g1.type [v1] = some y1 ∧ DataW.trod enc P w base spare held n g2.type [v2] = some y2 ∧ DataW.trod enc P w base spare held n g3.type [v3] = some y3 := by
  obtain ⟨cs, rfl, hsz⟩ := okWide_struct hs hv
  obtain ⟨c0, c1, c2, c3, rfl⟩ := array4 (hsz.trans hC)
  obtain ⟨fuel, hf⟩ := h
  obtain ⟨xs, n, _, _, hl, hlen, hg⟩ := DataW.trod_struct hs hf
  match xs, hlen with
  | [y0, y1, y2, y3], _ =>
    obtain ⟨o0, k0⟩ := hone_of hone 0 g0 rfl
    obtain ⟨o1, k1⟩ := hone_of hone 1 g1 rfl
    obtain ⟨o2, k2⟩ := hone_of hone 2 g2 rfl
    obtain ⟨o3, k3⟩ := hone_of hone 3 g3 rfl
    exact ⟨c0, c1, c2, c3, y0, y1, y2, y3, n, rfl, by simpa [Value.cells, o0, k0] using hg 0 g0 rfl, by simpa [Value.cells, o1, k1] using hg 1 g1 rfl, by simpa [Value.cells, o2, k2] using hg 2 g2 rfl, by simpa [Value.cells, o3, k3] using hg 3 g3 rfl⟩
set_option maxRecDepth 100000 in
theorem open_conf {H : Type} {enc : TypeId × Value → H} {W : World} {base : Nat} {v : Value} {d : DataW H} {p : List MemPlace} (hv : Value.okWide Try.prog W .any base 23 v) (h : DataW.Trod enc Try.prog W 0 (fun _ => true) true 23 v d p) :
    ∃ A B C D : Int, v = cf A B C D := by
  obtain ⟨v0, v1, v2, v3, y0, y1, y2, y3, n, rfl, h0, h1, h2, h3⟩ := open_four Try.underlying23 (by kernel_rfl) (by kernel_rfl) hv h
  obtain ⟨A, e0, _, _⟩ := DataW.trod_int Try.underlying3 h0
  obtain ⟨B, e1, _, _⟩ := DataW.trod_int Try.underlying3 h1
  obtain ⟨C, e2, _, _⟩ := DataW.trod_int Try.underlying3 h2
  obtain ⟨D, e3, _, _⟩ := DataW.trod_int Try.underlying3 h3
  simp only [List.cons.injEq, and_true] at e0 e1 e2 e3
  subst e0 e1 e2 e3
  exact ⟨A, B, C, D, rfl⟩
theorem four {x : World} {b : Nat} {v0 v1 v2 v3 : Value} {t : TypeId} (h : x.heap[b]? = some (.cells #[v0, v1, v2, v3] t)) : x.cell? ⟨b, 0, none⟩ = some v0 ∧ x.cell? ⟨b, 1, none⟩ = some v1 ∧ x.cell? ⟨b, 2, none⟩ = some v2 ∧ x.cell? ⟨b, 3, none⟩ = some v3 := by
  refine ⟨?_, ?_, ?_, ?_⟩ <;> simp [World.cell?, h]
theorem lt_at {x : World} {b : Nat} {o : Obj} (h : x.heap[b]? = some o) : b < x.heap.size := (Array.getElem?_eq_some_iff.1 h).1
theorem kept {x y : World} {b : Nat} {o : Obj} (h : x.heap[b]? = some o) (hb : Below x.heap.size x y) : y.heap[b]? = some o := (hb.block b (lt_at h)).trans h
set_option maxHeartbeats 1000000 in
theorem walkConf (A B C D : Int) (w : World) : Calls Try.prog 3 #[cf A B C D] w fun e w' => e = .returned (.bool true) ∧ Below w.heap.size w w' := by
  have HX : Hid ((w.alloc (.cells #[.int .i64 A, .int .i64 B, .int .i64 C, .int .i64 D] 23)).heap[w.heap.size]? = some (.cells #[.int .i64 A, .int .i64 B, .int .i64 C, .int .i64 D] 23) ∧ Below w.heap.size w (w.alloc (.cells #[.int .i64 A, .int .i64 B, .int .i64 C, .int .i64 D] 23))) := ⟨heap_alloc_new w _, (Below.refl w.heap.size w).alloc (Nat.le_refl _) _⟩
  go_enter Try.func3, Try.ntmps3
  go_wp2_with fail
  generalize w.alloc _ = x1 at HX ⊢
  refine (f6 A B C D _).mono ?_
  rintro e x2 ⟨rfl, hb⟩
  have HX2 : Hid (x2.heap[w.heap.size]? = some (.cells #[.int .i64 A, .int .i64 B, .int .i64 C, .int .i64 D] 23) ∧ Below w.heap.size w x2) := ⟨kept HX.out.1 hb, HX.out.2.trans (hb.mono HX.out.2.size)⟩
  clear hb HX
  go_wp2_with fail
  refine (f5 A B C D _).mono ?_
  rintro e x3 ⟨rfl, hb⟩
  have HX3 : Hid (x3.heap[w.heap.size]? = some (.cells #[.int .i64 A, .int .i64 B, .int .i64 C, .int .i64 D] 23) ∧ Below w.heap.size w x3) := ⟨kept HX2.out.1 hb, HX2.out.2.trans (hb.mono HX2.out.2.size)⟩
  clear hb HX2
  obtain ⟨c0, c1, c2, c3⟩ := four HX3.out.1
  obtain ⟨T, hT⟩ : ∃ T, T = decide (OkC A B C D) := ⟨_, rfl⟩
  have HT := hid hT
  rw [← hT]
  clear hT
  go_wp2_with fail
  refine (f6 A B C D _).mono ?_
  rintro e x4 ⟨rfl, hb⟩
  have HX4 : Hid (Below w.heap.size w x4) := HX3.out.2.trans (hb.mono HX3.out.2.size)
  clear hb HX3 c0 c1 c2 c3
  go_wp2_with fail
  refine (f7 A B C D _).mono ?_
  rw [← HT.out]
  rintro e x5 ⟨rfl, hb⟩
  have HX5 : Hid (Below w.heap.size w x5) := HX4.out.trans (hb.mono HX4.out.size)
  clear hb HX4
  have g : (T != T) = false := by simp
  go_wp2
  go_ret
  exact ⟨rfl, HX5.out⟩
end Go.Proofs.Ytbebpekckioffaa.Cfs
