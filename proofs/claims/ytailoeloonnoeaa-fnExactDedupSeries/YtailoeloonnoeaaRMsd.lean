/- The library's stable sort at series that lie somewhere, at any length. -/
import Derived.Test.YtailoeloonnoeaaRMsb
import Derived.Test.YtailoeloonnoeaaRMsc
namespace Go.Proofs.Ytailoeloonnoeaa.Stb
open Go.RowKit
open Go.Proofs.Ytailoeloonnoeaa.Lab (Lb HasL cmpList)
open Go.Proofs.Ytailoeloonnoeaa.Smp (Sm HasS)
open Go.Proofs.Ytailoeloonnoeaa.Srs (Q HasQ agQ pl q0 Pl)

theorem ins00 (a : Option Addr) (c : Nat) (w : World) :
    Calls Try.prog 67 #[.slice a 0 c, .int .i64 0, .int .i64 0, fvC] w fun e w' => e = .returned (.tuple #[]) ∧ w' = w := by
  go_enter Try.func67, Try.ntmps67
  go_wp2
  go_loopw [8] (fun si wr => si = .int .i64 1 ∧ Hid (wr = w)) (fun _ _ => 0)
  case atStart => exact ⟨rfl, rfl⟩
  case round =>
    obtain ⟨rfl, hw⟩ := hrel
    go_wp2
    go_end0
    exact ⟨rfl, hw.out⟩
theorem stable00 (a : Option Addr) (c : Nat) (w : World) :
    Calls Try.prog 49 #[.slice a 0 c, .int .i64 0, fvC] w fun e w' => e = .returned (.tuple #[]) ∧ w' = w := by
  have HI := fun x => hid (ins00 a c x)
  go_enter Try.func49, Try.ntmps49
  go_wp2
  go_loopw [7, 8] (fun sa sb wr => sa = .int .i64 0 ∧ sb = .int .i64 20 ∧ Hid (wr = w)) (fun _ _ _ => 0)
  case atStart => exact ⟨rfl, rfl, rfl⟩
  case round =>
    obtain ⟨rfl, rfl, hw⟩ := hrel
    go_wp2_with fail
    refine (HI _).out.mono ?_
    rintro e w1 ⟨rfl, h1⟩
    have HW : Hid (w1 = w) := by rw [h1]; exact hw.out
    clear h1 hw
    go_wp2
    go_loopw [6] (fun sa wr => sa = .int .i64 20 ∧ Hid (wr = w)) (fun _ _ => 0)
    case atStart => exact ⟨rfl, HW.out⟩
    case round =>
      obtain ⟨rfl, hw⟩ := hrel
      go_wp2
      go_end0
      exact ⟨rfl, hw.out⟩
theorem sort00 (a : Option Addr) (c : Nat) (w : World) :
    Calls Try.prog 23 #[.slice a 0 c, fvC] w fun e w' => e = .returned (.tuple #[]) ∧ w' = w := by
  have HF := hid (stable00 a c w)
  go_enter Try.func23, Try.ntmps23
  go_wp2_with fail
  refine HF.out.mono ?_
  rintro e w1 ⟨rfl, rfl⟩
  go_wp2
  go_end0
  exact ⟨rfl, rfl⟩
theorem cmpOkA (wA w0 : World) (g : Nat) (D : List Q) (hA : Below wA.heap.size wA w0) (hg : wA.heap.size ≤ g) (h : ∀ x ∈ D, x.l.length ≤ 1048576 ∧ HasL wA x.a x.l) : CmpOk slQ ltQ w0 g D where
  cmp W x y hx hy hgr := by
    have hb : Below wA.heap.size wA W := hA.grown hgr hA.size (fun k hk => by cases hk; exact hg)
    refine (Srs.f24 x y W (h x hx).1 (h y hy).1 ((h x hx).2.below hb) ((h y hy).2.below hb)).mono ?_
    rintro e w' ⟨rfl, hb⟩
    exact ⟨_, rfl, rfl, hb⟩
/-- A row of series of the call's own, sorted. -/
theorem sortQ (wA w0 : World) (v : Value) (D : List Q) (hn : D.length ≤ 1048576) (hA : Below wA.heap.size wA w0) (h : ∀ x ∈ D, x.l.length ≤ 1048576 ∧ HasL wA x.a x.l) (hr : w0.ownsRow wA.heap.size 40 2 v D.length (Srs.flat D)) :
    Calls Try.prog 23 #[v, fvC] w0 fun e w' => e = .returned (.tuple #[]) ∧ w'.ownsRow wA.heap.size 40 2 v D.length (Srs.flat (isort ltQ D)) ∧ Below wA.heap.size wA w' := by
  by_cases h0 : D.length = 0
  · have hD : D = [] := List.eq_nil_of_length_eq_zero h0
    obtain ⟨a, c, rfl⟩ := Smp.own_form hr
    subst hD
    refine (sort00 a c w0).mono ?_
    rintro e w' ⟨rfl, rfl⟩
    exact ⟨rfl, hr, hA⟩
  · obtain ⟨a, c, rfl⟩ := Smp.own_form hr
    obtain ⟨g, hag, hg⟩ : ∃ g, a = some ⟨g, 0, none⟩ ∧ wA.heap.size ≤ g := by
      rcases hr.2 with ⟨_, h2⟩ | ⟨g, cap, cur, h1, _⟩
      · exact absurd h2 h0
      · simp only [Value.slice.injEq] at h1
        rw [h1.1] at hr
        exact ⟨g, h1.1, (hr.lt g rfl).1⟩
    subst hag
    refine (fSortStable slQ ltQ ordQ wA.heap.size g c D.length D w0 hn (by omega) (cmpOkA wA w0 g D hA hg h) hr).mono ?_
    rintro e w' ⟨rfl, h1, h2⟩
    exact ⟨rfl, h1, hA.grown h2 hA.size (fun k hk => by cases hk; exact hg)⟩
theorem isort_mem {α : Type} {lt : α → α → Bool} {L : List α} {x : α} : x ∈ isort lt L ↔ x ∈ L := (isort_perm L).mem_iff
theorem isort_len {α : Type} (lt : α → α → Bool) (L : List α) : (isort lt L).length = L.length := (isort_perm L).length_eq
end Go.Proofs.Ytailoeloonnoeaa.Stb
