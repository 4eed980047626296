/- Both Postings. -/
import Derived.Test.YtkbaaidnkkcpoaaGreatRJg
import Derived.Test.YtkbaaidnkkcpoaaGreatRGI
namespace Go.Proofs.YtkbaaidnkkcpoaaGreat.Blk
open Go.RowKit
open Go.Proofs.YtkbaaidnkkcpoaaGreat.Lab (Lb HasL OfV GoodP goodL e0 str_eq str_ne)
open Go.Proofs.YtkbaaidnkkcpoaaGreat.Srs (hid lt_at kept Q HasQ FitQ SmlQ GoodQ agQ q0 two good_goodP)
open Go.Proofs.YtkbaaidnkkcpoaaGreat.Ino (Own Now own_form one_row info3)
open Go.Proofs.YtkbaaidnkkcpoaaGreat.Smp (ret_bool)

theorem has_of (ls : List Lb) (x : ByteArray) : ∃ v, OfV ls x v := by
  by_cases h : ∃ k, k < ls.length ∧ (ls.getD k e0).1 = x
  · obtain ⟨k, hk, hx⟩ := h
    have key : ∀ n, (∃ k, k < n ∧ k < ls.length ∧ (ls.getD k e0).1 = x) → ∃ v, OfV ls x v := by
      intro n
      induction n with
      | zero => rintro ⟨k, h, _⟩; omega
      | succ n ih =>
        rintro ⟨k, h1, h2, h3⟩
        by_cases h4 : ∃ k, k < n ∧ k < ls.length ∧ (ls.getD k e0).1 = x
        · exact ih h4
        · exact ⟨(ls.getD k e0).2, .inl ⟨k, h2, h3, rfl, fun i hi he => h4 ⟨i, by omega, by omega, he⟩⟩⟩
    exact key (k + 1) ⟨k, by omega, hk, hx⟩
  · exact ⟨ByteArray.empty, .inr ⟨fun k hk he => h ⟨k, hk, he⟩, rfl⟩⟩
/-- The value under a name. -/
noncomputable def val (ls : List Lb) (x : ByteArray) : ByteArray := Classical.choose (has_of ls x)
theorem val_of (ls : List Lb) (x : ByteArray) : OfV ls x (val ls x) := Classical.choose_spec (has_of ls x)
/-- The numbers among the first k series whose value under x is a right one. -/
noncomputable def pst (R : ByteArray → Bool) (qs : List Q) (x : ByteArray) : Nat → List Int
  | 0 => []
  | k + 1 => pst R qs x k ++ (if R (val (lb qs k) x) = true then [(k : Int)] else [])
theorem pst_len (R : ByteArray → Bool) (qs : List Q) (x : ByteArray) : ∀ k, (pst R qs x k).length ≤ k := by
  intro k
  induction k with
  | zero => exact Nat.le_refl _
  | succ k ih => simp only [pst, List.length_append]; split <;> simp <;> omega
/-- The same text. -/
noncomputable def isV (v u : ByteArray) : Bool := decide (u = v)
noncomputable def pos (h : Bk) (x v : ByteArray) : List Int := if gdB h = true then pst (isV v) h.qs x h.qs.length else []
theorem pos_no {h : Bk} {x v : ByteArray} (g : gdB h = false) : pos h x v = [] := by unfold pos; rw [g]; rfl
theorem pos_yes {h : Bk} {x v : ByteArray} (g : gdB h = true) : pos h x v = pst (isV v) h.qs x h.qs.length := by unfold pos; rw [if_pos g]
theorem pos_len (h : Bk) (x v : ByteArray) : (pos h x v).length ≤ 200 := by
  cases g : gdB h
  · rw [pos_no g]; exact Nat.zero_le _
  · rw [pos_yes g]; exact Nat.le_trans (pst_len _ _ _ _) (gdB_iff.1 g).2.1.1
/-- What a call gives: a row of its own, and nothing else has turned. -/
def Gives (w : World) (L : List Int) (e : Ending) (w' : World) : Prop := ∃ v, e = .returned v ∧ Own w' w.heap.size v L ∧ Below w.heap.size w w'
theorem gives_no {w w' : World} {L : List Int} (h : L = []) (hb : Below w.heap.size w w') : Gives w L (.returned (.slice none 0 0)) w' := by
  subst h; exact ⟨_, rfl, Ino.Own.nil _ _, hb⟩
theorem string_cell {w : World} {b : Nat} {u : Value} {t : TypeId} (h : w.heap[b]? = some (.cells #[u] t)) : w.cell? ⟨b, 0, none⟩ = some u := by
  unfold World.cell?; simp only [h]; rfl

end Go.Proofs.YtkbaaidnkkcpoaaGreat.Blk
