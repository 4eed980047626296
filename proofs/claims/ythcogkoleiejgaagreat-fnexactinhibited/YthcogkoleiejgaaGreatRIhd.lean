/- Which inhibits bite: what is asked, and the program's. -/
import Derived.Test.YthcogkoleiejgaaGreatRIhb
import Derived.Test.YthcogkoleiejgaaGreatRLss
import Derived.Test.YthcogkoleiejgaaGreatRFm
namespace Go.Proofs.YthcogkoleiejgaaGreat.Inh
open Go.RowKit
open Go.Proofs.YthcogkoleiejgaaGreat.Pat (Mt HasM FitM goodM allM)
open Go.Proofs.YthcogkoleiejgaaGreat.Lab (Lb HasL goodL GoodP OfV str_eq str_ne)
open Go.Proofs.YthcogkoleiejgaaGreat.Fil (HasT)
open Go.Proofs.YthcogkoleiejgaaGreat.Rwc

noncomputable def vl (ls : List Lb) (x : ByteArray) : ByteArray := Classical.choose (Lab.has_of ls x)
theorem vl_of (ls : List Lb) (x : ByteArray) : OfV ls x (vl ls x) := Classical.choose_spec (Lab.has_of ls x)
noncomputable def fit (ms : List Mt) (ls : List Lb) : Bool := allM ms (vl ls)
def SayP (f l : List Lb) (es : List ByteArray) (k : Nat) : Prop := ∀ i, i < k → vl f (es.getD i ByteArray.empty) = vl l (es.getD i ByteArray.empty)
noncomputable def says (f l : List Lb) (es : List ByteArray) : Bool := @decide (SayP f l es es.length) (Classical.propDecidable _)
theorem says_yes {f l : List Lb} {es : List ByteArray} {k : Nat} (h : SayP f l es k) (hk : es.length ≤ k) : says f l es = true := by
  unfold says; exact @decide_eq_true _ (_) fun i hi => h i (by omega)
theorem says_no {f l : List Lb} {es : List ByteArray} {k : Nat} (hk : k < es.length) (h : ¬ vl f (es.getD k ByteArray.empty) = vl l (es.getD k ByteArray.empty)) : says f l es = false := by
  unfold says; exact @decide_eq_false _ (_) fun g => h (g k hk)
theorem SayP.succ {f l : List Lb} {es : List ByteArray} {k : Nat} (h : SayP f l es k) (e : vl f (es.getD k ByteArray.empty) = vl l (es.getD k ByteArray.empty)) : SayP f l es (k + 1) := by
  intro i hi
  by_cases c : i = k
  · subst c; exact e
  · exact h i (by omega)
/-- One that fires bites. -/
noncomputable def hit (q : T) (f l : List Lb) : Bool := fit q.ms f && says f l q.es && (!fit q.rs f || !fit q.ms l)
def Bites (q : T) (fs : List Lss.T) (l : List Lb) (m : Nat) : Prop := ∃ j, j < m ∧ hit q (fs.getD j Lss.t0).l l = true
def InhP (ts : List T) (fs : List Lss.T) (l : List Lb) (k : Nat) : Prop := ∃ i, i < k ∧ fit (ts.getD i t0).rs l = true ∧ Bites (ts.getD i t0) fs l fs.length
noncomputable def inh (ts : List T) (fs : List Lss.T) (l : List Lb) : Bool := @decide (InhP ts fs l ts.length) (Classical.propDecidable _)
theorem inh_yes {ts : List T} {fs : List Lss.T} {l : List Lb} {k j : Nat} (hk : k < ts.length) (hf : fit (ts.getD k t0).rs l = true) (hj : j < fs.length) (h : hit (ts.getD k t0) (fs.getD j Lss.t0).l l = true) : inh ts fs l = true := by
  unfold inh; exact @decide_eq_true _ (_) ⟨k, hk, hf, j, hj, h⟩
theorem inh_no {ts : List T} {fs : List Lss.T} {l : List Lb} {k : Nat} (hk : ts.length ≤ k) (h : ¬ InhP ts fs l k) : inh ts fs l = false := by
  unfold inh; exact @decide_eq_false _ (_) fun ⟨i, hi, g⟩ => h ⟨i, by omega, g⟩
theorem InhP.zero {ts : List T} {fs : List Lss.T} {l : List Lb} : ¬ InhP ts fs l 0 := fun ⟨i, hi, _⟩ => by omega
theorem Bites.zero {q : T} {fs : List Lss.T} {l : List Lb} : ¬ Bites q fs l 0 := fun ⟨i, hi, _⟩ => by omega
theorem InhP.step {ts : List T} {fs : List Lss.T} {l : List Lb} {k : Nat} (h : ¬ InhP ts fs l k) (g : ¬ (fit (ts.getD k t0).rs l = true ∧ Bites (ts.getD k t0) fs l fs.length)) : ¬ InhP ts fs l (k + 1) := fun ⟨i, hi, c⟩ => by
  by_cases e : i = k
  · subst e; exact g c
  · exact h ⟨i, by omega, c⟩
theorem Bites.step {q : T} {fs : List Lss.T} {l : List Lb} {k : Nat} (h : ¬ Bites q fs l k) (g : hit q (fs.getD k Lss.t0).l l = false) : ¬ Bites q fs l (k + 1) := fun ⟨i, hi, c⟩ => by
  by_cases e : i = k
  · subst e; rw [g] at c; cases c
  · exact h ⟨i, by omega, c⟩
theorem okX_parts {q : T} (h : okX q = true) : goodM q.ms = true ∧ goodM q.rs = true := by
  unfold okX some1 at h
  simp only [Bool.and_eq_true] at h
  exact ⟨h.1.1.2, h.1.2.2⟩

/-- Lists of labels that may fire. -/
def fires (fs : List Lss.T) : Bool := decide (fs.length ≤ 200 ∧ ∀ i, i < fs.length → goodL (fs.getD i Lss.t0).l = true)
theorem fires_no {fs : List Lss.T} {k : Nat} (hk : k < fs.length) (h : goodL (fs.getD k Lss.t0).l = false) : fires fs = false := decide_eq_false fun g => by have := g.2 k hk; rw [h] at this; cases this
theorem fires_long {fs : List Lss.T} (h : 200 < fs.length) : fires fs = false := decide_eq_false fun g => by have := g.1; omega
theorem fires_yes {fs : List Lss.T} {k : Nat} (hk : fs.length ≤ k) (h : ∀ i, i < k → goodL (fs.getD i Lss.t0).l = true) (hl : fs.length ≤ 200) : fires fs = true := decide_eq_true ⟨hl, fun i hi => h i (by omega)⟩
theorem fires_at {fs : List Lss.T} (h : fires fs = true) (k : Nat) (hk : k < fs.length) : goodL (fs.getD k Lss.t0).l = true := (of_decide_eq_true h).2 k hk
theorem fires_len {fs : List Lss.T} (h : fires fs = true) : fs.length ≤ 200 := (of_decide_eq_true h).1

set_option maxHeartbeats 4000000 in
theorem f23 (a : Option Addr) (n c : Nat) (fs : List Lss.T) (w : World) (hn : fs.length = n) (hb : n ≤ 1048576) (hr : Lss.Has w a fs) (hf : Lss.Fit fs) :
    Calls Tryz.prog 23 #[.slice a n c] w fun e w' => e = .returned (.bool (fires fs)) ∧ Below w.heap.size w w' := by
  have HN := hid hn
  have HR := hid hr
  have HF := hid hf
  clear hn hr hf
  by_cases g : (n : Int) > 200
  · have HX := hid (fires_long (fs := fs) (by have := HN.out; omega))
    go_enter Tryz.func23, Tryz.ntmps23
    go_wp2
    go_ret
    exact ⟨by rw [HX.out]; rfl, Below.refl _ _⟩
  go_enter Tryz.func23, Tryz.ntmps23
  go_wp2
  go_loopw [10] (fun i wr => ∃ k : Nat, k ≤ n ∧ i = .int .i64 k ∧ Hid (∀ i, i < k → goodL (fs.getD i Lss.t0).l = true) ∧ Hid (Below w.heap.size w wr)) (fun i _ => n - (intOf i).toNat)
  case atStart => exact ⟨0, Nat.zero_le _, rfl, fun i hi => absurd hi (by omega), Below.refl _ _⟩
  case round =>
    obtain ⟨k, hk, rfl, HA, HB⟩ := hrel
    by_cases hlt : k < n
    · obtain ⟨b, off, rfl, hbl, hc, hl⟩ := (HR.out.below HB.out).at2 k (by rw [HN.out]; exact hlt)
      have HL := hid hl
      have G := hid (HF.out k)
      have HNo : Hid (goodL (fs.getD k Lss.t0).l = false → fires fs = false) := fun h => fires_no (by rw [HN.out]; exact hlt) h
      have HNx : Hid (goodL (fs.getD k Lss.t0).l = true → ∀ i, i < k + 1 → goodL (fs.getD i Lss.t0).l = true) := by
        intro h i hi
        by_cases e : i = k
        · subst e; exact h
        · exact HA.out i (by omega)
      have i1 : (k : Int) < (n : Int) := by omega
      clear hl hbl
      generalize fs.getD k Lss.t0 = q at *
      go_wp2_with fail
      refine (Lab.f24 q.a q.l.length q.c q.l _ rfl G.out.2 HL.out G.out.1).mono ?_
      rintro e w2 ⟨rfl, hb2⟩
      have HB2 := hid (HB.out.trans (hb2.mono HB.out.size))
      clear hb2
      cases hx : goodL q.l
      · have HY := hid (HNo.out hx)
        clear hx
        go_wp2
        go_ret
        exact ⟨by rw [HY.out]; rfl, HB2.out⟩
      · have HY := hid (HNx.out hx)
        clear hx
        go_wp2
        go_roundw
        case rel => exact ⟨k + 1, by omega, by go_num, HY, HB2⟩
        case measure => simp [intOf]; omega
    · have HY := hid (fires_yes (fs := fs) (k := k) (by have := HN.out; omega) HA.out (by have := HN.out; omega))
      have i1 : ¬ (k : Int) < (n : Int) := by omega
      go_wp2
      go_ret
      exact ⟨by rw [HY.out]; rfl, HB.out⟩

end Go.Proofs.YthcogkoleiejgaaGreat.Inh
