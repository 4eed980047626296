/- What is told of aggs: tellerOf, tellAll. -/
import Derived.Test.YtpbnneelpdacdaaBc
import Derived.Test.YtpbnneelpdacdaaEva
namespace Go.Proofs.Ytpbnneelpdacdaa.Agl
open Go.RowKit Go.Shelf

/-- A quotient, down. -/
def fl (a b : Int) : Int := if a.tmod b < 0 then wrap64 (wrap64 (a.tdiv b) - 1) else wrap64 (a.tdiv b)
/-- What an agg says. -/
def ovr (o : Int) (p : Ag) : Option Int := if o = 1 then some (p.n) else if o = 2 then some (p.s) else if o = 3 then some (p.mi) else if o = 4 then some (p.ma) else if o = 5 then some (fl p.s p.n) else if o = 6 then some (p.r) else if o = 7 then some (p.f) else if o = 8 then some (p.l) else none
def tel (o : Int) (L : List Ag) : Int × Bool := match L with
  | [] => (0, false)
  | p :: _ => match ovr o p with
    | some v => (v, true)
    | none => (0, false)
theorem tel_nil (o : Int) : tel o [] = (0, false) := rfl
theorem tel_none {o : Int} (h : ∀ p, ovr o p = none) (L : List Ag) : tel o L = (0, false) := by
  cases L with
  | nil => rfl
  | cons p L => simp [tel, h]
theorem fl_qt (a b : Int) (hb : 0 < b) : Quo.qt a b = fl a b := by
  unfold Quo.qt fl
  rw [if_neg (by omega)]
  by_cases h : a.tmod b < 0
  · rw [if_pos h, if_pos ⟨by omega, by omega⟩]
  · rw [if_neg h, if_neg (fun g => g.2 ⟨fun x => absurd x h, fun x => by omega⟩)]
theorem fQuot (a b : Int) (w : World) (hb : 0 < b) : Calls Try.prog 85 #[.int .i64 a, .int .i64 b] w fun e w' => e = .returned (.int .i64 (fl a b)) ∧ w' = w := by
  have h := Quo.f85 a b w
  rw [fl_qt a b hb] at h
  exact h
theorem f73 (x0 x1 x2 x3 x4 x5 x6 x7 : Int) (w : World) (_hb : 0 < x1) : Calls Try.prog 73 #[.agg #[.int .i64 x0, .int .i64 x1, .int .i64 x2, .int .i64 x3, .int .i64 x4, .int .i64 x5, .int .i64 x6, .int .i64 x7]] w fun e w' => e = .returned (.int .i64 (x1)) ∧ Below w.heap.size w w' := by
  have HB := hid ((Below.refl w.heap.size w).alloc (Nat.le_refl _) (.cells #[.int .i64 x0, .int .i64 x1, .int .i64 x2, .int .i64 x3, .int .i64 x4, .int .i64 x5, .int .i64 x6, .int .i64 x7] 33))
  go_enter Try.func73, Try.ntmps73
  go_wp2
  go_ret
  exact ⟨rfl, HB.out⟩
theorem f74 (x0 x1 x2 x3 x4 x5 x6 x7 : Int) (w : World) (_hb : 0 < x1) : Calls Try.prog 74 #[.agg #[.int .i64 x0, .int .i64 x1, .int .i64 x2, .int .i64 x3, .int .i64 x4, .int .i64 x5, .int .i64 x6, .int .i64 x7]] w fun e w' => e = .returned (.int .i64 (x2)) ∧ Below w.heap.size w w' := by
  have HB := hid ((Below.refl w.heap.size w).alloc (Nat.le_refl _) (.cells #[.int .i64 x0, .int .i64 x1, .int .i64 x2, .int .i64 x3, .int .i64 x4, .int .i64 x5, .int .i64 x6, .int .i64 x7] 33))
  go_enter Try.func74, Try.ntmps74
  go_wp2
  go_ret
  exact ⟨rfl, HB.out⟩
theorem f75 (x0 x1 x2 x3 x4 x5 x6 x7 : Int) (w : World) (_hb : 0 < x1) : Calls Try.prog 75 #[.agg #[.int .i64 x0, .int .i64 x1, .int .i64 x2, .int .i64 x3, .int .i64 x4, .int .i64 x5, .int .i64 x6, .int .i64 x7]] w fun e w' => e = .returned (.int .i64 (x3)) ∧ Below w.heap.size w w' := by
  have HB := hid ((Below.refl w.heap.size w).alloc (Nat.le_refl _) (.cells #[.int .i64 x0, .int .i64 x1, .int .i64 x2, .int .i64 x3, .int .i64 x4, .int .i64 x5, .int .i64 x6, .int .i64 x7] 33))
  go_enter Try.func75, Try.ntmps75
  go_wp2
  go_ret
  exact ⟨rfl, HB.out⟩
theorem f76 (x0 x1 x2 x3 x4 x5 x6 x7 : Int) (w : World) (_hb : 0 < x1) : Calls Try.prog 76 #[.agg #[.int .i64 x0, .int .i64 x1, .int .i64 x2, .int .i64 x3, .int .i64 x4, .int .i64 x5, .int .i64 x6, .int .i64 x7]] w fun e w' => e = .returned (.int .i64 (x4)) ∧ Below w.heap.size w w' := by
  have HB := hid ((Below.refl w.heap.size w).alloc (Nat.le_refl _) (.cells #[.int .i64 x0, .int .i64 x1, .int .i64 x2, .int .i64 x3, .int .i64 x4, .int .i64 x5, .int .i64 x6, .int .i64 x7] 33))
  go_enter Try.func76, Try.ntmps76
  go_wp2
  go_ret
  exact ⟨rfl, HB.out⟩
theorem f77 (x0 x1 x2 x3 x4 x5 x6 x7 : Int) (w : World) (hb : 0 < x1) : Calls Try.prog 77 #[.agg #[.int .i64 x0, .int .i64 x1, .int .i64 x2, .int .i64 x3, .int .i64 x4, .int .i64 x5, .int .i64 x6, .int .i64 x7]] w fun e w' => e = .returned (.int .i64 (fl x2 x1)) ∧ Below w.heap.size w w' := by
  have HF := fun x => hid (fQuot x2 x1 x hb)
  have HB := hid ((Below.refl w.heap.size w).alloc (Nat.le_refl _) (.cells #[.int .i64 x0, .int .i64 x1, .int .i64 x2, .int .i64 x3, .int .i64 x4, .int .i64 x5, .int .i64 x6, .int .i64 x7] 33))
  go_enter Try.func77, Try.ntmps77
  go_wp2_with fail
  refine (HF _).out.mono ?_
  rintro e w2 ⟨rfl, rfl⟩
  go_wp2
  go_ret
  exact ⟨rfl, HB.out⟩
theorem f78 (x0 x1 x2 x3 x4 x5 x6 x7 : Int) (w : World) (_hb : 0 < x1) : Calls Try.prog 78 #[.agg #[.int .i64 x0, .int .i64 x1, .int .i64 x2, .int .i64 x3, .int .i64 x4, .int .i64 x5, .int .i64 x6, .int .i64 x7]] w fun e w' => e = .returned (.int .i64 (x7)) ∧ Below w.heap.size w w' := by
  have HB := hid ((Below.refl w.heap.size w).alloc (Nat.le_refl _) (.cells #[.int .i64 x0, .int .i64 x1, .int .i64 x2, .int .i64 x3, .int .i64 x4, .int .i64 x5, .int .i64 x6, .int .i64 x7] 33))
  go_enter Try.func78, Try.ntmps78
  go_wp2
  go_ret
  exact ⟨rfl, HB.out⟩
theorem f79 (x0 x1 x2 x3 x4 x5 x6 x7 : Int) (w : World) (_hb : 0 < x1) : Calls Try.prog 79 #[.agg #[.int .i64 x0, .int .i64 x1, .int .i64 x2, .int .i64 x3, .int .i64 x4, .int .i64 x5, .int .i64 x6, .int .i64 x7]] w fun e w' => e = .returned (.int .i64 (x5)) ∧ Below w.heap.size w w' := by
  have HB := hid ((Below.refl w.heap.size w).alloc (Nat.le_refl _) (.cells #[.int .i64 x0, .int .i64 x1, .int .i64 x2, .int .i64 x3, .int .i64 x4, .int .i64 x5, .int .i64 x6, .int .i64 x7] 33))
  go_enter Try.func79, Try.ntmps79
  go_wp2
  go_ret
  exact ⟨rfl, HB.out⟩
theorem f80 (x0 x1 x2 x3 x4 x5 x6 x7 : Int) (w : World) (_hb : 0 < x1) : Calls Try.prog 80 #[.agg #[.int .i64 x0, .int .i64 x1, .int .i64 x2, .int .i64 x3, .int .i64 x4, .int .i64 x5, .int .i64 x6, .int .i64 x7]] w fun e w' => e = .returned (.int .i64 (x6)) ∧ Below w.heap.size w w' := by
  have HB := hid ((Below.refl w.heap.size w).alloc (Nat.le_refl _) (.cells #[.int .i64 x0, .int .i64 x1, .int .i64 x2, .int .i64 x3, .int .i64 x4, .int .i64 x5, .int .i64 x6, .int .i64 x7] 33))
  go_enter Try.func80, Try.ntmps80
  go_wp2
  go_ret
  exact ⟨rfl, HB.out⟩
theorem teller1 (w : World) : Calls Try.prog 64 #[.int .i64 1] w fun e w' => e = .returned (.func (.func 73) #[] #[]) ∧ w' = w := by
  go_enter Try.func64, Try.ntmps64
  go_wp2
  go_ret
  exact ⟨rfl, rfl⟩
theorem teller2 (w : World) : Calls Try.prog 64 #[.int .i64 2] w fun e w' => e = .returned (.func (.func 74) #[] #[]) ∧ w' = w := by
  go_enter Try.func64, Try.ntmps64
  go_wp2
  go_ret
  exact ⟨rfl, rfl⟩
theorem teller3 (w : World) : Calls Try.prog 64 #[.int .i64 3] w fun e w' => e = .returned (.func (.func 75) #[] #[]) ∧ w' = w := by
  go_enter Try.func64, Try.ntmps64
  go_wp2
  go_ret
  exact ⟨rfl, rfl⟩
theorem teller4 (w : World) : Calls Try.prog 64 #[.int .i64 4] w fun e w' => e = .returned (.func (.func 76) #[] #[]) ∧ w' = w := by
  go_enter Try.func64, Try.ntmps64
  go_wp2
  go_ret
  exact ⟨rfl, rfl⟩
theorem teller5 (w : World) : Calls Try.prog 64 #[.int .i64 5] w fun e w' => e = .returned (.func (.func 77) #[] #[]) ∧ w' = w := by
  go_enter Try.func64, Try.ntmps64
  go_wp2
  go_ret
  exact ⟨rfl, rfl⟩
theorem teller6 (w : World) : Calls Try.prog 64 #[.int .i64 6] w fun e w' => e = .returned (.func (.func 78) #[] #[]) ∧ w' = w := by
  go_enter Try.func64, Try.ntmps64
  go_wp2
  go_ret
  exact ⟨rfl, rfl⟩
theorem teller7 (w : World) : Calls Try.prog 64 #[.int .i64 7] w fun e w' => e = .returned (.func (.func 79) #[] #[]) ∧ w' = w := by
  go_enter Try.func64, Try.ntmps64
  go_wp2
  go_ret
  exact ⟨rfl, rfl⟩
theorem teller8 (w : World) : Calls Try.prog 64 #[.int .i64 8] w fun e w' => e = .returned (.func (.func 80) #[] #[]) ∧ w' = w := by
  go_enter Try.func64, Try.ntmps64
  go_wp2
  go_ret
  exact ⟨rfl, rfl⟩
theorem teller0 (o : Int) (w : World) (h1 : o ≠ 1) (h2 : o ≠ 2) (h3 : o ≠ 3) (h4 : o ≠ 4) (h5 : o ≠ 5) (h6 : o ≠ 6) (h7 : o ≠ 7) (h8 : o ≠ 8) : Calls Try.prog 64 #[.int .i64 o] w fun e w' => e = .returned .nilFunc ∧ w' = w := by
  have b1 : (o == 1) = false := by rw [beq_eq_false_iff_ne]; exact h1
  have b2 : (o == 2) = false := by rw [beq_eq_false_iff_ne]; exact h2
  have b3 : (o == 3) = false := by rw [beq_eq_false_iff_ne]; exact h3
  have b4 : (o == 4) = false := by rw [beq_eq_false_iff_ne]; exact h4
  have b5 : (o == 5) = false := by rw [beq_eq_false_iff_ne]; exact h5
  have b6 : (o == 6) = false := by rw [beq_eq_false_iff_ne]; exact h6
  have b7 : (o == 7) = false := by rw [beq_eq_false_iff_ne]; exact h7
  have b8 : (o == 8) = false := by rw [beq_eq_false_iff_ne]; exact h8
  go_enter Try.func64, Try.ntmps64
  go_wp2
  go_ret
  exact ⟨rfl, rfl⟩
theorem win0 (t : Int) (w : World) : Calls Try.prog 65 (#[.int .i64 t] ++ #[]) w fun e w' => e = .returned (.int .i64 ((fun _ : Int => (0 : Int)) t)) ∧ w' = w := by
  go_enter Try.func65, Try.ntmps65
  go_wp2
  go_ret
  exact ⟨rfl, rfl⟩
def z0 : Int → Int := fun _ => 0
theorem eqF (k : Nat) (w : World) : (binOp .eql 83 (.func (.func k) #[] #[]) .nilFunc).run Try.prog w = .ok (.bool false) w := by rfl
theorem eqN (w : World) : (binOp .eql 83 .nilFunc .nilFunc).run Try.prog w = .ok (.bool true) w := by rfl

set_option maxRecDepth 100000 in
set_option maxHeartbeats 4000000 in
theorem tellAll1 {gf : Nat} {lb : Array Value} (xs : List Ag) (w : World) (hl : xs.length ≤ 1048576) (eg : ∀ args w, (callFunc gf args).run Try.prog w = .ok (.enter gf args) w) (hseq : SeqStopsK Fence.wide 2 Try.prog gf lb (fun p : Ag => #[valA p]) (Below w.heap.size) (fun ys => ys = xs) (fun pre => pre <+: xs) xs.length w) (hc : ∀ p ∈ fw z0 xs, 0 < p.n) :
    Calls Try.prog 39 #[.func (.func gf) #[] lb, .int .i64 1] w fun e w' => e = .returned (.tuple #[.int .i64 (tel 1 (fw z0 xs)).1, .bool (tel 1 (fw z0 xs)).2]) ∧ Below w.heap.size w w' := by
  have HF := hid (fold0 z0 xs w hl (fun t W _ => win0 t W) eg hseq)
  have HT := hid (teller1 w)
  have hq := eqF 73
  go_enter Try.func39, Try.ntmps39
  go_wp2_with fail
  refine HT.out.mono ?_
  rintro e w1 ⟨rfl, rfl⟩
  go_wp2_with fail
  refine HF.out.mono ?_
  rintro e w2 ⟨v, rfl, hrow, hnil, hb2⟩
  have HB2 := hid hb2
  by_cases hp : fw z0 xs = []
  · obtain rfl := hnil.2 hp
    have HTl : Hid (tel 1 (fw z0 xs) = (0, false)) := by unfold Hid; rw [hp]; rfl
    clear hp hnil hrow hb2 hc hseq eg
    go_wp2
    refine bodyPost_ret (v := .tuple #[.int .i64 0, .bool false]) (by simp [results, Try.results39, go_sem]) rfl ⟨by rw [HTl.out], HB2.out⟩
  · obtain ⟨p, L, hL⟩ : ∃ p L, fw z0 xs = p :: L := by
      cases h : fw z0 xs with
      | nil => exact absurd h hp
      | cons p L => exact ⟨p, L, rfl⟩
    have hn : 0 < p.n := hc p (by rw [hL]; exact List.mem_cons_self)
    rw [hL] at hrow
    obtain ⟨x0, x1, x2, x3, x4, x5, x6, x7⟩ := p
    have HTl : Hid (tel 1 (fw z0 xs) = (x1, true)) := by unfold Hid; rw [hL]; rfl
    obtain ⟨g, cap, rfl⟩ := ownsRow_succ (k := L.length) hrow
    obtain ⟨y0, y1, y2, y3, y4, y5, y6, y7⟩ := flat_get (⟨x0, x1, x2, x3, x4, x5, x6, x7⟩ :: L) 0 (by simp)
    simp only [List.getD_cons_zero, Nat.zero_mul, Nat.zero_add] at y0 y1 y2 y3 y4 y5 y6 y7
    have r0 := (hrow.cellAt 0 (by first | omega | (simp only [List.length_cons]; omega))).trans y0
    have r1 := (hrow.cellAt 1 (by first | omega | (simp only [List.length_cons]; omega))).trans y1
    have r2 := (hrow.cellAt 2 (by first | omega | (simp only [List.length_cons]; omega))).trans y2
    have r3 := (hrow.cellAt 3 (by first | omega | (simp only [List.length_cons]; omega))).trans y3
    have r4 := (hrow.cellAt 4 (by first | omega | (simp only [List.length_cons]; omega))).trans y4
    have r5 := (hrow.cellAt 5 (by first | omega | (simp only [List.length_cons]; omega))).trans y5
    have r6 := (hrow.cellAt 6 (by first | omega | (simp only [List.length_cons]; omega))).trans y6
    have r7 := (hrow.cellAt 7 (by first | omega | (simp only [List.length_cons]; omega))).trans y7
    have HC := hid (fun x => f73 x0 x1 x2 x3 x4 x5 x6 x7 x hn)
    have hne : ((L.length : Int) + 1 == 0) = false := by rw [beq_eq_false_iff_ne]; omega
    have hlt : ¬ ((L.length : Int) + 1 ≤ 0) := by omega
    clear hp hnil hrow hb2 hc hseq eg hL hn y0 y1 y2 y3 y4 y5 y6 y7
    go_wp2_with (go_at_call 73; refine (HC.out _).mono ?_; rintro e w3 ⟨rfl, hb3⟩)
    have HB3 := hid (HB2.out.trans (hb3.mono HB2.out.size))
    go_wp2
    refine bodyPost_ret (v := .tuple #[.int .i64 (x1), .bool true]) (by simp [results, Try.results39, go_sem]) rfl ⟨by rw [HTl.out], HB3.out⟩

set_option maxRecDepth 100000 in
set_option maxHeartbeats 4000000 in
theorem tellAll2 {gf : Nat} {lb : Array Value} (xs : List Ag) (w : World) (hl : xs.length ≤ 1048576) (eg : ∀ args w, (callFunc gf args).run Try.prog w = .ok (.enter gf args) w) (hseq : SeqStopsK Fence.wide 2 Try.prog gf lb (fun p : Ag => #[valA p]) (Below w.heap.size) (fun ys => ys = xs) (fun pre => pre <+: xs) xs.length w) (hc : ∀ p ∈ fw z0 xs, 0 < p.n) :
    Calls Try.prog 39 #[.func (.func gf) #[] lb, .int .i64 2] w fun e w' => e = .returned (.tuple #[.int .i64 (tel 2 (fw z0 xs)).1, .bool (tel 2 (fw z0 xs)).2]) ∧ Below w.heap.size w w' := by
  have HF := hid (fold0 z0 xs w hl (fun t W _ => win0 t W) eg hseq)
  have HT := hid (teller2 w)
  have hq := eqF 74
  go_enter Try.func39, Try.ntmps39
  go_wp2_with fail
  refine HT.out.mono ?_
  rintro e w1 ⟨rfl, rfl⟩
  go_wp2_with fail
  refine HF.out.mono ?_
  rintro e w2 ⟨v, rfl, hrow, hnil, hb2⟩
  have HB2 := hid hb2
  by_cases hp : fw z0 xs = []
  · obtain rfl := hnil.2 hp
    have HTl : Hid (tel 2 (fw z0 xs) = (0, false)) := by unfold Hid; rw [hp]; rfl
    clear hp hnil hrow hb2 hc hseq eg
    go_wp2
    refine bodyPost_ret (v := .tuple #[.int .i64 0, .bool false]) (by simp [results, Try.results39, go_sem]) rfl ⟨by rw [HTl.out], HB2.out⟩
  · obtain ⟨p, L, hL⟩ : ∃ p L, fw z0 xs = p :: L := by
      cases h : fw z0 xs with
      | nil => exact absurd h hp
      | cons p L => exact ⟨p, L, rfl⟩
    have hn : 0 < p.n := hc p (by rw [hL]; exact List.mem_cons_self)
    rw [hL] at hrow
    obtain ⟨x0, x1, x2, x3, x4, x5, x6, x7⟩ := p
    have HTl : Hid (tel 2 (fw z0 xs) = (x2, true)) := by unfold Hid; rw [hL]; rfl
    obtain ⟨g, cap, rfl⟩ := ownsRow_succ (k := L.length) hrow
    obtain ⟨y0, y1, y2, y3, y4, y5, y6, y7⟩ := flat_get (⟨x0, x1, x2, x3, x4, x5, x6, x7⟩ :: L) 0 (by simp)
    simp only [List.getD_cons_zero, Nat.zero_mul, Nat.zero_add] at y0 y1 y2 y3 y4 y5 y6 y7
    have r0 := (hrow.cellAt 0 (by first | omega | (simp only [List.length_cons]; omega))).trans y0
    have r1 := (hrow.cellAt 1 (by first | omega | (simp only [List.length_cons]; omega))).trans y1
    have r2 := (hrow.cellAt 2 (by first | omega | (simp only [List.length_cons]; omega))).trans y2
    have r3 := (hrow.cellAt 3 (by first | omega | (simp only [List.length_cons]; omega))).trans y3
    have r4 := (hrow.cellAt 4 (by first | omega | (simp only [List.length_cons]; omega))).trans y4
    have r5 := (hrow.cellAt 5 (by first | omega | (simp only [List.length_cons]; omega))).trans y5
    have r6 := (hrow.cellAt 6 (by first | omega | (simp only [List.length_cons]; omega))).trans y6
    have r7 := (hrow.cellAt 7 (by first | omega | (simp only [List.length_cons]; omega))).trans y7
    have HC := hid (fun x => f74 x0 x1 x2 x3 x4 x5 x6 x7 x hn)
    have hne : ((L.length : Int) + 1 == 0) = false := by rw [beq_eq_false_iff_ne]; omega
    have hlt : ¬ ((L.length : Int) + 1 ≤ 0) := by omega
    clear hp hnil hrow hb2 hc hseq eg hL hn y0 y1 y2 y3 y4 y5 y6 y7
    go_wp2_with (go_at_call 74; refine (HC.out _).mono ?_; rintro e w3 ⟨rfl, hb3⟩)
    have HB3 := hid (HB2.out.trans (hb3.mono HB2.out.size))
    go_wp2
    refine bodyPost_ret (v := .tuple #[.int .i64 (x2), .bool true]) (by simp [results, Try.results39, go_sem]) rfl ⟨by rw [HTl.out], HB3.out⟩

set_option maxRecDepth 100000 in
set_option maxHeartbeats 4000000 in
theorem tellAll3 {gf : Nat} {lb : Array Value} (xs : List Ag) (w : World) (hl : xs.length ≤ 1048576) (eg : ∀ args w, (callFunc gf args).run Try.prog w = .ok (.enter gf args) w) (hseq : SeqStopsK Fence.wide 2 Try.prog gf lb (fun p : Ag => #[valA p]) (Below w.heap.size) (fun ys => ys = xs) (fun pre => pre <+: xs) xs.length w) (hc : ∀ p ∈ fw z0 xs, 0 < p.n) :
    Calls Try.prog 39 #[.func (.func gf) #[] lb, .int .i64 3] w fun e w' => e = .returned (.tuple #[.int .i64 (tel 3 (fw z0 xs)).1, .bool (tel 3 (fw z0 xs)).2]) ∧ Below w.heap.size w w' := by
  have HF := hid (fold0 z0 xs w hl (fun t W _ => win0 t W) eg hseq)
  have HT := hid (teller3 w)
  have hq := eqF 75
  go_enter Try.func39, Try.ntmps39
  go_wp2_with fail
  refine HT.out.mono ?_
  rintro e w1 ⟨rfl, rfl⟩
  go_wp2_with fail
  refine HF.out.mono ?_
  rintro e w2 ⟨v, rfl, hrow, hnil, hb2⟩
  have HB2 := hid hb2
  by_cases hp : fw z0 xs = []
  · obtain rfl := hnil.2 hp
    have HTl : Hid (tel 3 (fw z0 xs) = (0, false)) := by unfold Hid; rw [hp]; rfl
    clear hp hnil hrow hb2 hc hseq eg
    go_wp2
    refine bodyPost_ret (v := .tuple #[.int .i64 0, .bool false]) (by simp [results, Try.results39, go_sem]) rfl ⟨by rw [HTl.out], HB2.out⟩
  · obtain ⟨p, L, hL⟩ : ∃ p L, fw z0 xs = p :: L := by
      cases h : fw z0 xs with
      | nil => exact absurd h hp
      | cons p L => exact ⟨p, L, rfl⟩
    have hn : 0 < p.n := hc p (by rw [hL]; exact List.mem_cons_self)
    rw [hL] at hrow
    obtain ⟨x0, x1, x2, x3, x4, x5, x6, x7⟩ := p
    have HTl : Hid (tel 3 (fw z0 xs) = (x3, true)) := by unfold Hid; rw [hL]; rfl
    obtain ⟨g, cap, rfl⟩ := ownsRow_succ (k := L.length) hrow
    obtain ⟨y0, y1, y2, y3, y4, y5, y6, y7⟩ := flat_get (⟨x0, x1, x2, x3, x4, x5, x6, x7⟩ :: L) 0 (by simp)
    simp only [List.getD_cons_zero, Nat.zero_mul, Nat.zero_add] at y0 y1 y2 y3 y4 y5 y6 y7
    have r0 := (hrow.cellAt 0 (by first | omega | (simp only [List.length_cons]; omega))).trans y0
    have r1 := (hrow.cellAt 1 (by first | omega | (simp only [List.length_cons]; omega))).trans y1
    have r2 := (hrow.cellAt 2 (by first | omega | (simp only [List.length_cons]; omega))).trans y2
    have r3 := (hrow.cellAt 3 (by first | omega | (simp only [List.length_cons]; omega))).trans y3
    have r4 := (hrow.cellAt 4 (by first | omega | (simp only [List.length_cons]; omega))).trans y4
    have r5 := (hrow.cellAt 5 (by first | omega | (simp only [List.length_cons]; omega))).trans y5
    have r6 := (hrow.cellAt 6 (by first | omega | (simp only [List.length_cons]; omega))).trans y6
    have r7 := (hrow.cellAt 7 (by first | omega | (simp only [List.length_cons]; omega))).trans y7
    have HC := hid (fun x => f75 x0 x1 x2 x3 x4 x5 x6 x7 x hn)
    have hne : ((L.length : Int) + 1 == 0) = false := by rw [beq_eq_false_iff_ne]; omega
    have hlt : ¬ ((L.length : Int) + 1 ≤ 0) := by omega
    clear hp hnil hrow hb2 hc hseq eg hL hn y0 y1 y2 y3 y4 y5 y6 y7
    go_wp2_with (go_at_call 75; refine (HC.out _).mono ?_; rintro e w3 ⟨rfl, hb3⟩)
    have HB3 := hid (HB2.out.trans (hb3.mono HB2.out.size))
    go_wp2
    refine bodyPost_ret (v := .tuple #[.int .i64 (x3), .bool true]) (by simp [results, Try.results39, go_sem]) rfl ⟨by rw [HTl.out], HB3.out⟩

set_option maxRecDepth 100000 in
set_option maxHeartbeats 4000000 in
theorem tellAll4 {gf : Nat} {lb : Array Value} (xs : List Ag) (w : World) (hl : xs.length ≤ 1048576) (eg : ∀ args w, (callFunc gf args).run Try.prog w = .ok (.enter gf args) w) (hseq : SeqStopsK Fence.wide 2 Try.prog gf lb (fun p : Ag => #[valA p]) (Below w.heap.size) (fun ys => ys = xs) (fun pre => pre <+: xs) xs.length w) (hc : ∀ p ∈ fw z0 xs, 0 < p.n) :
    Calls Try.prog 39 #[.func (.func gf) #[] lb, .int .i64 4] w fun e w' => e = .returned (.tuple #[.int .i64 (tel 4 (fw z0 xs)).1, .bool (tel 4 (fw z0 xs)).2]) ∧ Below w.heap.size w w' := by
  have HF := hid (fold0 z0 xs w hl (fun t W _ => win0 t W) eg hseq)
  have HT := hid (teller4 w)
  have hq := eqF 76
  go_enter Try.func39, Try.ntmps39
  go_wp2_with fail
  refine HT.out.mono ?_
  rintro e w1 ⟨rfl, rfl⟩
  go_wp2_with fail
  refine HF.out.mono ?_
  rintro e w2 ⟨v, rfl, hrow, hnil, hb2⟩
  have HB2 := hid hb2
  by_cases hp : fw z0 xs = []
  · obtain rfl := hnil.2 hp
    have HTl : Hid (tel 4 (fw z0 xs) = (0, false)) := by unfold Hid; rw [hp]; rfl
    clear hp hnil hrow hb2 hc hseq eg
    go_wp2
    refine bodyPost_ret (v := .tuple #[.int .i64 0, .bool false]) (by simp [results, Try.results39, go_sem]) rfl ⟨by rw [HTl.out], HB2.out⟩
  · obtain ⟨p, L, hL⟩ : ∃ p L, fw z0 xs = p :: L := by
      cases h : fw z0 xs with
      | nil => exact absurd h hp
      | cons p L => exact ⟨p, L, rfl⟩
    have hn : 0 < p.n := hc p (by rw [hL]; exact List.mem_cons_self)
    rw [hL] at hrow
    obtain ⟨x0, x1, x2, x3, x4, x5, x6, x7⟩ := p
    have HTl : Hid (tel 4 (fw z0 xs) = (x4, true)) := by unfold Hid; rw [hL]; rfl
    obtain ⟨g, cap, rfl⟩ := ownsRow_succ (k := L.length) hrow
    obtain ⟨y0, y1, y2, y3, y4, y5, y6, y7⟩ := flat_get (⟨x0, x1, x2, x3, x4, x5, x6, x7⟩ :: L) 0 (by simp)
    simp only [List.getD_cons_zero, Nat.zero_mul, Nat.zero_add] at y0 y1 y2 y3 y4 y5 y6 y7
    have r0 := (hrow.cellAt 0 (by first | omega | (simp only [List.length_cons]; omega))).trans y0
    have r1 := (hrow.cellAt 1 (by first | omega | (simp only [List.length_cons]; omega))).trans y1
    have r2 := (hrow.cellAt 2 (by first | omega | (simp only [List.length_cons]; omega))).trans y2
    have r3 := (hrow.cellAt 3 (by first | omega | (simp only [List.length_cons]; omega))).trans y3
    have r4 := (hrow.cellAt 4 (by first | omega | (simp only [List.length_cons]; omega))).trans y4
    have r5 := (hrow.cellAt 5 (by first | omega | (simp only [List.length_cons]; omega))).trans y5
    have r6 := (hrow.cellAt 6 (by first | omega | (simp only [List.length_cons]; omega))).trans y6
    have r7 := (hrow.cellAt 7 (by first | omega | (simp only [List.length_cons]; omega))).trans y7
    have HC := hid (fun x => f76 x0 x1 x2 x3 x4 x5 x6 x7 x hn)
    have hne : ((L.length : Int) + 1 == 0) = false := by rw [beq_eq_false_iff_ne]; omega
    have hlt : ¬ ((L.length : Int) + 1 ≤ 0) := by omega
    clear hp hnil hrow hb2 hc hseq eg hL hn y0 y1 y2 y3 y4 y5 y6 y7
    go_wp2_with (go_at_call 76; refine (HC.out _).mono ?_; rintro e w3 ⟨rfl, hb3⟩)
    have HB3 := hid (HB2.out.trans (hb3.mono HB2.out.size))
    go_wp2
    refine bodyPost_ret (v := .tuple #[.int .i64 (x4), .bool true]) (by simp [results, Try.results39, go_sem]) rfl ⟨by rw [HTl.out], HB3.out⟩

set_option maxRecDepth 100000 in
set_option maxHeartbeats 4000000 in
theorem tellAll5 {gf : Nat} {lb : Array Value} (xs : List Ag) (w : World) (hl : xs.length ≤ 1048576) (eg : ∀ args w, (callFunc gf args).run Try.prog w = .ok (.enter gf args) w) (hseq : SeqStopsK Fence.wide 2 Try.prog gf lb (fun p : Ag => #[valA p]) (Below w.heap.size) (fun ys => ys = xs) (fun pre => pre <+: xs) xs.length w) (hc : ∀ p ∈ fw z0 xs, 0 < p.n) :
    Calls Try.prog 39 #[.func (.func gf) #[] lb, .int .i64 5] w fun e w' => e = .returned (.tuple #[.int .i64 (tel 5 (fw z0 xs)).1, .bool (tel 5 (fw z0 xs)).2]) ∧ Below w.heap.size w w' := by
  have HF := hid (fold0 z0 xs w hl (fun t W _ => win0 t W) eg hseq)
  have HT := hid (teller5 w)
  have hq := eqF 77
  go_enter Try.func39, Try.ntmps39
  go_wp2_with fail
  refine HT.out.mono ?_
  rintro e w1 ⟨rfl, rfl⟩
  go_wp2_with fail
  refine HF.out.mono ?_
  rintro e w2 ⟨v, rfl, hrow, hnil, hb2⟩
  have HB2 := hid hb2
  by_cases hp : fw z0 xs = []
  · obtain rfl := hnil.2 hp
    have HTl : Hid (tel 5 (fw z0 xs) = (0, false)) := by unfold Hid; rw [hp]; rfl
    clear hp hnil hrow hb2 hc hseq eg
    go_wp2
    refine bodyPost_ret (v := .tuple #[.int .i64 0, .bool false]) (by simp [results, Try.results39, go_sem]) rfl ⟨by rw [HTl.out], HB2.out⟩
  · obtain ⟨p, L, hL⟩ : ∃ p L, fw z0 xs = p :: L := by
      cases h : fw z0 xs with
      | nil => exact absurd h hp
      | cons p L => exact ⟨p, L, rfl⟩
    have hn : 0 < p.n := hc p (by rw [hL]; exact List.mem_cons_self)
    rw [hL] at hrow
    obtain ⟨x0, x1, x2, x3, x4, x5, x6, x7⟩ := p
    have HTl : Hid (tel 5 (fw z0 xs) = (fl x2 x1, true)) := by unfold Hid; rw [hL]; rfl
    obtain ⟨g, cap, rfl⟩ := ownsRow_succ (k := L.length) hrow
    obtain ⟨y0, y1, y2, y3, y4, y5, y6, y7⟩ := flat_get (⟨x0, x1, x2, x3, x4, x5, x6, x7⟩ :: L) 0 (by simp)
    simp only [List.getD_cons_zero, Nat.zero_mul, Nat.zero_add] at y0 y1 y2 y3 y4 y5 y6 y7
    have r0 := (hrow.cellAt 0 (by first | omega | (simp only [List.length_cons]; omega))).trans y0
    have r1 := (hrow.cellAt 1 (by first | omega | (simp only [List.length_cons]; omega))).trans y1
    have r2 := (hrow.cellAt 2 (by first | omega | (simp only [List.length_cons]; omega))).trans y2
    have r3 := (hrow.cellAt 3 (by first | omega | (simp only [List.length_cons]; omega))).trans y3
    have r4 := (hrow.cellAt 4 (by first | omega | (simp only [List.length_cons]; omega))).trans y4
    have r5 := (hrow.cellAt 5 (by first | omega | (simp only [List.length_cons]; omega))).trans y5
    have r6 := (hrow.cellAt 6 (by first | omega | (simp only [List.length_cons]; omega))).trans y6
    have r7 := (hrow.cellAt 7 (by first | omega | (simp only [List.length_cons]; omega))).trans y7
    have HC := hid (fun x => f77 x0 x1 x2 x3 x4 x5 x6 x7 x hn)
    have hne : ((L.length : Int) + 1 == 0) = false := by rw [beq_eq_false_iff_ne]; omega
    have hlt : ¬ ((L.length : Int) + 1 ≤ 0) := by omega
    clear hp hnil hrow hb2 hc hseq eg hL hn y0 y1 y2 y3 y4 y5 y6 y7
    go_wp2_with (go_at_call 77; refine (HC.out _).mono ?_; rintro e w3 ⟨rfl, hb3⟩)
    have HB3 := hid (HB2.out.trans (hb3.mono HB2.out.size))
    go_wp2
    refine bodyPost_ret (v := .tuple #[.int .i64 (fl x2 x1), .bool true]) (by simp [results, Try.results39, go_sem]) rfl ⟨by rw [HTl.out], HB3.out⟩

set_option maxRecDepth 100000 in
set_option maxHeartbeats 4000000 in
theorem tellAll6 {gf : Nat} {lb : Array Value} (xs : List Ag) (w : World) (hl : xs.length ≤ 1048576) (eg : ∀ args w, (callFunc gf args).run Try.prog w = .ok (.enter gf args) w) (hseq : SeqStopsK Fence.wide 2 Try.prog gf lb (fun p : Ag => #[valA p]) (Below w.heap.size) (fun ys => ys = xs) (fun pre => pre <+: xs) xs.length w) (hc : ∀ p ∈ fw z0 xs, 0 < p.n) :
    Calls Try.prog 39 #[.func (.func gf) #[] lb, .int .i64 6] w fun e w' => e = .returned (.tuple #[.int .i64 (tel 6 (fw z0 xs)).1, .bool (tel 6 (fw z0 xs)).2]) ∧ Below w.heap.size w w' := by
  have HF := hid (fold0 z0 xs w hl (fun t W _ => win0 t W) eg hseq)
  have HT := hid (teller6 w)
  have hq := eqF 78
  go_enter Try.func39, Try.ntmps39
  go_wp2_with fail
  refine HT.out.mono ?_
  rintro e w1 ⟨rfl, rfl⟩
  go_wp2_with fail
  refine HF.out.mono ?_
  rintro e w2 ⟨v, rfl, hrow, hnil, hb2⟩
  have HB2 := hid hb2
  by_cases hp : fw z0 xs = []
  · obtain rfl := hnil.2 hp
    have HTl : Hid (tel 6 (fw z0 xs) = (0, false)) := by unfold Hid; rw [hp]; rfl
    clear hp hnil hrow hb2 hc hseq eg
    go_wp2
    refine bodyPost_ret (v := .tuple #[.int .i64 0, .bool false]) (by simp [results, Try.results39, go_sem]) rfl ⟨by rw [HTl.out], HB2.out⟩
  · obtain ⟨p, L, hL⟩ : ∃ p L, fw z0 xs = p :: L := by
      cases h : fw z0 xs with
      | nil => exact absurd h hp
      | cons p L => exact ⟨p, L, rfl⟩
    have hn : 0 < p.n := hc p (by rw [hL]; exact List.mem_cons_self)
    rw [hL] at hrow
    obtain ⟨x0, x1, x2, x3, x4, x5, x6, x7⟩ := p
    have HTl : Hid (tel 6 (fw z0 xs) = (x7, true)) := by unfold Hid; rw [hL]; rfl
    obtain ⟨g, cap, rfl⟩ := ownsRow_succ (k := L.length) hrow
    obtain ⟨y0, y1, y2, y3, y4, y5, y6, y7⟩ := flat_get (⟨x0, x1, x2, x3, x4, x5, x6, x7⟩ :: L) 0 (by simp)
    simp only [List.getD_cons_zero, Nat.zero_mul, Nat.zero_add] at y0 y1 y2 y3 y4 y5 y6 y7
    have r0 := (hrow.cellAt 0 (by first | omega | (simp only [List.length_cons]; omega))).trans y0
    have r1 := (hrow.cellAt 1 (by first | omega | (simp only [List.length_cons]; omega))).trans y1
    have r2 := (hrow.cellAt 2 (by first | omega | (simp only [List.length_cons]; omega))).trans y2
    have r3 := (hrow.cellAt 3 (by first | omega | (simp only [List.length_cons]; omega))).trans y3
    have r4 := (hrow.cellAt 4 (by first | omega | (simp only [List.length_cons]; omega))).trans y4
    have r5 := (hrow.cellAt 5 (by first | omega | (simp only [List.length_cons]; omega))).trans y5
    have r6 := (hrow.cellAt 6 (by first | omega | (simp only [List.length_cons]; omega))).trans y6
    have r7 := (hrow.cellAt 7 (by first | omega | (simp only [List.length_cons]; omega))).trans y7
    have HC := hid (fun x => f78 x0 x1 x2 x3 x4 x5 x6 x7 x hn)
    have hne : ((L.length : Int) + 1 == 0) = false := by rw [beq_eq_false_iff_ne]; omega
    have hlt : ¬ ((L.length : Int) + 1 ≤ 0) := by omega
    clear hp hnil hrow hb2 hc hseq eg hL hn y0 y1 y2 y3 y4 y5 y6 y7
    go_wp2_with (go_at_call 78; refine (HC.out _).mono ?_; rintro e w3 ⟨rfl, hb3⟩)
    have HB3 := hid (HB2.out.trans (hb3.mono HB2.out.size))
    go_wp2
    refine bodyPost_ret (v := .tuple #[.int .i64 (x7), .bool true]) (by simp [results, Try.results39, go_sem]) rfl ⟨by rw [HTl.out], HB3.out⟩

set_option maxRecDepth 100000 in
set_option maxHeartbeats 4000000 in
theorem tellAll7 {gf : Nat} {lb : Array Value} (xs : List Ag) (w : World) (hl : xs.length ≤ 1048576) (eg : ∀ args w, (callFunc gf args).run Try.prog w = .ok (.enter gf args) w) (hseq : SeqStopsK Fence.wide 2 Try.prog gf lb (fun p : Ag => #[valA p]) (Below w.heap.size) (fun ys => ys = xs) (fun pre => pre <+: xs) xs.length w) (hc : ∀ p ∈ fw z0 xs, 0 < p.n) :
    Calls Try.prog 39 #[.func (.func gf) #[] lb, .int .i64 7] w fun e w' => e = .returned (.tuple #[.int .i64 (tel 7 (fw z0 xs)).1, .bool (tel 7 (fw z0 xs)).2]) ∧ Below w.heap.size w w' := by
  have HF := hid (fold0 z0 xs w hl (fun t W _ => win0 t W) eg hseq)
  have HT := hid (teller7 w)
  have hq := eqF 79
  go_enter Try.func39, Try.ntmps39
  go_wp2_with fail
  refine HT.out.mono ?_
  rintro e w1 ⟨rfl, rfl⟩
  go_wp2_with fail
  refine HF.out.mono ?_
  rintro e w2 ⟨v, rfl, hrow, hnil, hb2⟩
  have HB2 := hid hb2
  by_cases hp : fw z0 xs = []
  · obtain rfl := hnil.2 hp
    have HTl : Hid (tel 7 (fw z0 xs) = (0, false)) := by unfold Hid; rw [hp]; rfl
    clear hp hnil hrow hb2 hc hseq eg
    go_wp2
    refine bodyPost_ret (v := .tuple #[.int .i64 0, .bool false]) (by simp [results, Try.results39, go_sem]) rfl ⟨by rw [HTl.out], HB2.out⟩
  · obtain ⟨p, L, hL⟩ : ∃ p L, fw z0 xs = p :: L := by
      cases h : fw z0 xs with
      | nil => exact absurd h hp
      | cons p L => exact ⟨p, L, rfl⟩
    have hn : 0 < p.n := hc p (by rw [hL]; exact List.mem_cons_self)
    rw [hL] at hrow
    obtain ⟨x0, x1, x2, x3, x4, x5, x6, x7⟩ := p
    have HTl : Hid (tel 7 (fw z0 xs) = (x5, true)) := by unfold Hid; rw [hL]; rfl
    obtain ⟨g, cap, rfl⟩ := ownsRow_succ (k := L.length) hrow
    obtain ⟨y0, y1, y2, y3, y4, y5, y6, y7⟩ := flat_get (⟨x0, x1, x2, x3, x4, x5, x6, x7⟩ :: L) 0 (by simp)
    simp only [List.getD_cons_zero, Nat.zero_mul, Nat.zero_add] at y0 y1 y2 y3 y4 y5 y6 y7
    have r0 := (hrow.cellAt 0 (by first | omega | (simp only [List.length_cons]; omega))).trans y0
    have r1 := (hrow.cellAt 1 (by first | omega | (simp only [List.length_cons]; omega))).trans y1
    have r2 := (hrow.cellAt 2 (by first | omega | (simp only [List.length_cons]; omega))).trans y2
    have r3 := (hrow.cellAt 3 (by first | omega | (simp only [List.length_cons]; omega))).trans y3
    have r4 := (hrow.cellAt 4 (by first | omega | (simp only [List.length_cons]; omega))).trans y4
    have r5 := (hrow.cellAt 5 (by first | omega | (simp only [List.length_cons]; omega))).trans y5
    have r6 := (hrow.cellAt 6 (by first | omega | (simp only [List.length_cons]; omega))).trans y6
    have r7 := (hrow.cellAt 7 (by first | omega | (simp only [List.length_cons]; omega))).trans y7
    have HC := hid (fun x => f79 x0 x1 x2 x3 x4 x5 x6 x7 x hn)
    have hne : ((L.length : Int) + 1 == 0) = false := by rw [beq_eq_false_iff_ne]; omega
    have hlt : ¬ ((L.length : Int) + 1 ≤ 0) := by omega
    clear hp hnil hrow hb2 hc hseq eg hL hn y0 y1 y2 y3 y4 y5 y6 y7
    go_wp2_with (go_at_call 79; refine (HC.out _).mono ?_; rintro e w3 ⟨rfl, hb3⟩)
    have HB3 := hid (HB2.out.trans (hb3.mono HB2.out.size))
    go_wp2
    refine bodyPost_ret (v := .tuple #[.int .i64 (x5), .bool true]) (by simp [results, Try.results39, go_sem]) rfl ⟨by rw [HTl.out], HB3.out⟩

set_option maxRecDepth 100000 in
set_option maxHeartbeats 4000000 in
theorem tellAll8 {gf : Nat} {lb : Array Value} (xs : List Ag) (w : World) (hl : xs.length ≤ 1048576) (eg : ∀ args w, (callFunc gf args).run Try.prog w = .ok (.enter gf args) w) (hseq : SeqStopsK Fence.wide 2 Try.prog gf lb (fun p : Ag => #[valA p]) (Below w.heap.size) (fun ys => ys = xs) (fun pre => pre <+: xs) xs.length w) (hc : ∀ p ∈ fw z0 xs, 0 < p.n) :
    Calls Try.prog 39 #[.func (.func gf) #[] lb, .int .i64 8] w fun e w' => e = .returned (.tuple #[.int .i64 (tel 8 (fw z0 xs)).1, .bool (tel 8 (fw z0 xs)).2]) ∧ Below w.heap.size w w' := by
  have HF := hid (fold0 z0 xs w hl (fun t W _ => win0 t W) eg hseq)
  have HT := hid (teller8 w)
  have hq := eqF 80
  go_enter Try.func39, Try.ntmps39
  go_wp2_with fail
  refine HT.out.mono ?_
  rintro e w1 ⟨rfl, rfl⟩
  go_wp2_with fail
  refine HF.out.mono ?_
  rintro e w2 ⟨v, rfl, hrow, hnil, hb2⟩
  have HB2 := hid hb2
  by_cases hp : fw z0 xs = []
  · obtain rfl := hnil.2 hp
    have HTl : Hid (tel 8 (fw z0 xs) = (0, false)) := by unfold Hid; rw [hp]; rfl
    clear hp hnil hrow hb2 hc hseq eg
    go_wp2
    refine bodyPost_ret (v := .tuple #[.int .i64 0, .bool false]) (by simp [results, Try.results39, go_sem]) rfl ⟨by rw [HTl.out], HB2.out⟩
  · obtain ⟨p, L, hL⟩ : ∃ p L, fw z0 xs = p :: L := by
      cases h : fw z0 xs with
      | nil => exact absurd h hp
      | cons p L => exact ⟨p, L, rfl⟩
    have hn : 0 < p.n := hc p (by rw [hL]; exact List.mem_cons_self)
    rw [hL] at hrow
    obtain ⟨x0, x1, x2, x3, x4, x5, x6, x7⟩ := p
    have HTl : Hid (tel 8 (fw z0 xs) = (x6, true)) := by unfold Hid; rw [hL]; rfl
    obtain ⟨g, cap, rfl⟩ := ownsRow_succ (k := L.length) hrow
    obtain ⟨y0, y1, y2, y3, y4, y5, y6, y7⟩ := flat_get (⟨x0, x1, x2, x3, x4, x5, x6, x7⟩ :: L) 0 (by simp)
    simp only [List.getD_cons_zero, Nat.zero_mul, Nat.zero_add] at y0 y1 y2 y3 y4 y5 y6 y7
    have r0 := (hrow.cellAt 0 (by first | omega | (simp only [List.length_cons]; omega))).trans y0
    have r1 := (hrow.cellAt 1 (by first | omega | (simp only [List.length_cons]; omega))).trans y1
    have r2 := (hrow.cellAt 2 (by first | omega | (simp only [List.length_cons]; omega))).trans y2
    have r3 := (hrow.cellAt 3 (by first | omega | (simp only [List.length_cons]; omega))).trans y3
    have r4 := (hrow.cellAt 4 (by first | omega | (simp only [List.length_cons]; omega))).trans y4
    have r5 := (hrow.cellAt 5 (by first | omega | (simp only [List.length_cons]; omega))).trans y5
    have r6 := (hrow.cellAt 6 (by first | omega | (simp only [List.length_cons]; omega))).trans y6
    have r7 := (hrow.cellAt 7 (by first | omega | (simp only [List.length_cons]; omega))).trans y7
    have HC := hid (fun x => f80 x0 x1 x2 x3 x4 x5 x6 x7 x hn)
    have hne : ((L.length : Int) + 1 == 0) = false := by rw [beq_eq_false_iff_ne]; omega
    have hlt : ¬ ((L.length : Int) + 1 ≤ 0) := by omega
    clear hp hnil hrow hb2 hc hseq eg hL hn y0 y1 y2 y3 y4 y5 y6 y7
    go_wp2_with (go_at_call 80; refine (HC.out _).mono ?_; rintro e w3 ⟨rfl, hb3⟩)
    have HB3 := hid (HB2.out.trans (hb3.mono HB2.out.size))
    go_wp2
    refine bodyPost_ret (v := .tuple #[.int .i64 (x6), .bool true]) (by simp [results, Try.results39, go_sem]) rfl ⟨by rw [HTl.out], HB3.out⟩

set_option maxRecDepth 100000 in
set_option maxHeartbeats 4000000 in
theorem tellAll0 (o : Int) {gf : Nat} {lb : Array Value} (xs : List Ag) (w : World) (hl : xs.length ≤ 1048576) (eg : ∀ args w, (callFunc gf args).run Try.prog w = .ok (.enter gf args) w) (hseq : SeqStopsK Fence.wide 2 Try.prog gf lb (fun p : Ag => #[valA p]) (Below w.heap.size) (fun ys => ys = xs) (fun pre => pre <+: xs) xs.length w) (h1 : o ≠ 1) (h2 : o ≠ 2) (h3 : o ≠ 3) (h4 : o ≠ 4) (h5 : o ≠ 5) (h6 : o ≠ 6) (h7 : o ≠ 7) (h8 : o ≠ 8) :
    Calls Try.prog 39 #[.func (.func gf) #[] lb, .int .i64 o] w fun e w' => e = .returned (.tuple #[.int .i64 (tel o (fw z0 xs)).1, .bool (tel o (fw z0 xs)).2]) ∧ Below w.heap.size w w' := by
  have HF := hid (fold0 z0 xs w hl (fun t W _ => win0 t W) eg hseq)
  have HT := hid (teller0 o w h1 h2 h3 h4 h5 h6 h7 h8)
  have hq := eqN
  go_enter Try.func39, Try.ntmps39
  go_wp2_with fail
  refine HT.out.mono ?_
  rintro e w1 ⟨rfl, rfl⟩
  go_wp2_with fail
  refine HF.out.mono ?_
  rintro e w2 ⟨v, rfl, hrow, hnil, hb2⟩
  have HB2 := hid hb2
  have HTl : Hid (tel o (fw z0 xs) = (0, false)) := tel_none (fun p => by simp [ovr, h1, h2, h3, h4, h5, h6, h7, h8]) _
  clear hnil hrow hb2 hseq eg
  go_wp2
  refine bodyPost_ret (v := .tuple #[.int .i64 0, .bool false]) (by simp [results, Try.results39, go_sem]) rfl ⟨by rw [HTl.out], HB2.out⟩

theorem f39 (o : Int) {gf : Nat} {lb : Array Value} (xs : List Ag) (w : World) (hl : xs.length ≤ 1048576) (eg : ∀ args w, (callFunc gf args).run Try.prog w = .ok (.enter gf args) w) (hseq : SeqStopsK Fence.wide 2 Try.prog gf lb (fun p : Ag => #[valA p]) (Below w.heap.size) (fun ys => ys = xs) (fun pre => pre <+: xs) xs.length w) (hc : ∀ p ∈ fw z0 xs, 0 < p.n) :
    Calls Try.prog 39 #[.func (.func gf) #[] lb, .int .i64 o] w fun e w' => e = .returned (.tuple #[.int .i64 (tel o (fw z0 xs)).1, .bool (tel o (fw z0 xs)).2]) ∧ Below w.heap.size w w' := by
  by_cases h1 : o = 1
  · rw [h1]; exact tellAll1 xs w hl eg hseq hc
  by_cases h2 : o = 2
  · rw [h2]; exact tellAll2 xs w hl eg hseq hc
  by_cases h3 : o = 3
  · rw [h3]; exact tellAll3 xs w hl eg hseq hc
  by_cases h4 : o = 4
  · rw [h4]; exact tellAll4 xs w hl eg hseq hc
  by_cases h5 : o = 5
  · rw [h5]; exact tellAll5 xs w hl eg hseq hc
  by_cases h6 : o = 6
  · rw [h6]; exact tellAll6 xs w hl eg hseq hc
  by_cases h7 : o = 7
  · rw [h7]; exact tellAll7 xs w hl eg hseq hc
  by_cases h8 : o = 8
  · rw [h8]; exact tellAll8 xs w hl eg hseq hc
  exact tellAll0 o xs w hl eg hseq h1 h2 h3 h4 h5 h6 h7 h8
end Go.Proofs.Ytpbnneelpdacdaa.Agl
