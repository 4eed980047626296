/- The table of actions. -/
import Derived.Test.YtooackaijhpohaaGreatDoorTx
import Derived.Carry
import Derived.Maps.Own
import Derived.Maps.Views
namespace Go.Proofs.YtooackaijhpohaaGreatDoor.Rul
open Go.RowKit Go.Proofs.YtooackaijhpohaaGreatDoor.Fil

/-- How a function value reads: by its number. -/
def RF : Value → Option (DataW Unit × List MemPlace)
  | .func (.func f) ts us => if ts.size = 0 ∧ us.size = 0 then some (.lit (.int .i64 f), []) else none
  | .nilFunc => some (.nil, [])
  | _ => none
theorem rf_cell {v : Value} {z : DataW Unit × List MemPlace} (h : RF v = some z) : v.oneCell' = true := by
  unfold RF at h
  split at h
  · rfl
  · rfl
  · cases h
/-- What reads as a function's number is that function. -/
theorem rf_func {v : Value} {f : Nat} {p : List MemPlace} (h : RF v = some (.lit (.int .i64 f), p)) : v = .func (.func f) #[] #[] := by
  cases v with
  | func fn ts us =>
    cases fn with
    | func g =>
      simp only [RF] at h
      split at h
      · rename_i hs
        have e1 := Array.eq_empty_of_size_eq_zero hs.1
        have e2 := Array.eq_empty_of_size_eq_zero hs.2
        simp only [Option.some.injEq, Prod.mk.injEq, DataW.lit.injEq, Lit.int.injEq, true_and] at h
        have h1 : (g : Int) = (f : Int) := h.1
        rw [e1, e2, show g = f from Int.ofNat.inj h1]
      · cases h
    | _ => simp [RF] at h
  | _ => simp [RF] at h
def D1 : DataW Unit := (.map [] : DataW Unit).put (.int .i64 1) (.lit (.int .i64 72))
def D2 : DataW Unit := D1.put (.int .i64 2) (.lit (.int .i64 73))
def D3 : DataW Unit := D2.put (.int .i64 3) (.lit (.int .i64 74))
def D4 : DataW Unit := D3.put (.int .i64 4) (.lit (.int .i64 75))
def D5 : DataW Unit := D4.put (.int .i64 5) (.lit (.int .i64 76))
def D6 : DataW Unit := D5.put (.int .i64 6) (.lit (.int .i64 77))
def D7 : DataW Unit := D6.put (.int .i64 7) (.lit (.int .i64 78))
def D8 : DataW Unit := D7.put (.int .i64 8) (.lit (.int .i64 79))
theorem keyI (a : Int) (h : (Lit.int .i64 a).wf = true) : keyOf Tryz.prog 3 (.int .i64 a) = some (.int .i64 a) := Maps.keyOf_int_mk Tryz.underlying3 h
theorem keyedI : Maps.Keyed Tryz.prog 3 := Maps.int_keyed Tryz.underlying3
set_option maxRecDepth 100000 in
theorem f48 (w : World) : Calls Tryz.prog 48 #[] w fun e w' => e = .returned (.map (some w.heap.size)) ∧ w'.ownsMap Tryz.prog 3 RF w.heap.size 8 D8 ∧ Below w.heap.size w w' := by
  have km := run_makeMap (P := Tryz.prog) 75 w
  have hb0 := (Below.refl w.heap.size w).alloc (Nat.le_refl _) (.map #[] 0)
  have o0 := World.ownsMap_made w Tryz.prog 3 RF
  generalize w.alloc (.map #[] 0) = w0 at *
  obtain ⟨w1, r1, o1, g1⟩ := o0.update (t := 75) (val := .func (.func 72) #[] #[]) keyedI Tryz.underlying75 (by unfold maxLen; omega) (keyI 1 (by decide)) rfl
  have hb1 := hb0.grown g1 hb0.size (fun k h => by cases h; exact Nat.le_refl _)
  obtain ⟨w2, r2, o2, g2⟩ := o1.update (t := 75) (val := .func (.func 73) #[] #[]) keyedI Tryz.underlying75 (by unfold maxLen; omega) (keyI 2 (by decide)) rfl
  have hb2 := hb1.grown g2 hb1.size (fun k h => by cases h; exact Nat.le_refl _)
  obtain ⟨w3, r3, o3, g3⟩ := o2.update (t := 75) (val := .func (.func 74) #[] #[]) keyedI Tryz.underlying75 (by unfold maxLen; omega) (keyI 3 (by decide)) rfl
  have hb3 := hb2.grown g3 hb2.size (fun k h => by cases h; exact Nat.le_refl _)
  obtain ⟨w4, r4, o4, g4⟩ := o3.update (t := 75) (val := .func (.func 75) #[] #[]) keyedI Tryz.underlying75 (by unfold maxLen; omega) (keyI 4 (by decide)) rfl
  have hb4 := hb3.grown g4 hb3.size (fun k h => by cases h; exact Nat.le_refl _)
  obtain ⟨w5, r5, o5, g5⟩ := o4.update (t := 75) (val := .func (.func 76) #[] #[]) keyedI Tryz.underlying75 (by unfold maxLen; omega) (keyI 5 (by decide)) rfl
  have hb5 := hb4.grown g5 hb4.size (fun k h => by cases h; exact Nat.le_refl _)
  obtain ⟨w6, r6, o6, g6⟩ := o5.update (t := 75) (val := .func (.func 77) #[] #[]) keyedI Tryz.underlying75 (by unfold maxLen; omega) (keyI 6 (by decide)) rfl
  have hb6 := hb5.grown g6 hb5.size (fun k h => by cases h; exact Nat.le_refl _)
  obtain ⟨w7, r7, o7, g7⟩ := o6.update (t := 75) (val := .func (.func 78) #[] #[]) keyedI Tryz.underlying75 (by unfold maxLen; omega) (keyI 7 (by decide)) rfl
  have hb7 := hb6.grown g7 hb6.size (fun k h => by cases h; exact Nat.le_refl _)
  obtain ⟨w8, r8, o8, g8⟩ := o7.update (t := 75) (val := .func (.func 79) #[] #[]) keyedI Tryz.underlying75 (by unfold maxLen; omega) (keyI 8 (by decide)) rfl
  have hb8 := hb7.grown g8 hb7.size (fun k h => by cases h; exact Nat.le_refl _)
  have HO := hid o8
  have HB := hid hb8
  clear o0 o1 o2 o3 o4 o5 o6 o7 o8 g1 g2 g3 g4 g5 g6 g7 g8 hb0 hb1 hb2 hb3 hb4 hb5 hb6 hb7 hb8
  go_enter Tryz.func48, Tryz.ntmps48
  go_wp2
  go_ret
  exact ⟨rfl, HO.out, HB.out⟩
end Go.Proofs.YtooackaijhpohaaGreatDoor.Rul
