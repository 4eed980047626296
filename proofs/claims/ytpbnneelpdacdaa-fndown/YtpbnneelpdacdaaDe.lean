/- Aggs marked and held; the model's DownSamples; the walk of FnExactDownSamples. -/
import Derived.Test.YtpbnneelpdacdaaDd
namespace Go.Proofs.Ytpbnneelpdacdaa.Agl
open Go.RowKit
open Go.Proofs.Ytpbnneelpdacdaa.Smp (Sm HasS goodS grown_refl grown_setRow below_grown)

def markA (k n : Nat) : List Ag := (List.range n).map fun i => ⟨((k + 8 * i : Nat) : Int), ((k + 8 * i + 1 : Nat) : Int), ((k + 8 * i + 2 : Nat) : Int), ((k + 8 * i + 3 : Nat) : Int), ((k + 8 * i + 4 : Nat) : Int), ((k + 8 * i + 5 : Nat) : Int), ((k + 8 * i + 6 : Nat) : Int), ((k + 8 * i + 7 : Nat) : Int)⟩
theorem markA_len (k n : Nat) : (markA k n).length = n := by simp [markA]
theorem markA_get (k n i : Nat) (h : i < n) : (markA k n).getD i a0 = ⟨((k + 8 * i : Nat) : Int), ((k + 8 * i + 1 : Nat) : Int), ((k + 8 * i + 2 : Nat) : Int), ((k + 8 * i + 3 : Nat) : Int), ((k + 8 * i + 4 : Nat) : Int), ((k + 8 * i + 5 : Nat) : Int), ((k + 8 * i + 6 : Nat) : Int), ((k + 8 * i + 7 : Nat) : Int)⟩ := by simp [markA, h]
/-- The row while it is being marked. -/
def markR (k : Nat) (ls : List Ag) (i : Nat) : List Ag := (markA k i) ++ ls.drop i
theorem markR_zero (k : Nat) (ls : List Ag) : markR k ls 0 = ls := by simp [markR, markA]
theorem markR_end (k n : Nat) (ls : List Ag) (h : ls.length = n) : markR k ls n = markA k n := by simp [markR, ← h]
theorem markR_len (k n i : Nat) (ls : List Ag) (h : ls.length = n) (hi : i ≤ n) : (markR k ls i).length = n := by simp [markR, markA_len]; omega
theorem markR_set (k n i : Nat) (ls : List Ag) (h : ls.length = n) (hi : i < n) : (markR k ls i).set i ⟨((k + 8 * i : Nat) : Int), ((k + 8 * i + 1 : Nat) : Int), ((k + 8 * i + 2 : Nat) : Int), ((k + 8 * i + 3 : Nat) : Int), ((k + 8 * i + 4 : Nat) : Int), ((k + 8 * i + 5 : Nat) : Int), ((k + 8 * i + 6 : Nat) : Int), ((k + 8 * i + 7 : Nat) : Int)⟩ = markR k ls (i + 1) := by
  unfold markR
  rw [List.set_append_right _ _ (by rw [markA_len]; exact Nat.le_refl _), markA_len, Nat.sub_self, List.drop_eq_getElem_cons (by omega), List.set_cons_zero]
  have : markA k (i + 1) = markA k i ++ [⟨((k + 8 * i : Nat) : Int), ((k + 8 * i + 1 : Nat) : Int), ((k + 8 * i + 2 : Nat) : Int), ((k + 8 * i + 3 : Nat) : Int), ((k + 8 * i + 4 : Nat) : Int), ((k + 8 * i + 5 : Nat) : Int), ((k + 8 * i + 6 : Nat) : Int), ((k + 8 * i + 7 : Nat) : Int)⟩] := by simp [markA, List.range_succ]
  rw [this, List.append_assoc]
  rfl

theorem OwnA.cases {w : World} {base : Nat} {v : Value} {L : List Ag} (h : OwnA w base v L) : (L = [] ∧ v = .slice none 0 0) ∨ ∃ g c, v = .slice (some ⟨g, 0, none⟩) L.length c := by
  unfold OwnA at h
  rcases h.2 with ⟨h1, h2⟩ | ⟨g, cap, cur, h1, _⟩
  · exact .inl ⟨List.eq_nil_of_length_eq_zero h2, h1⟩
  · exact .inr ⟨g, cap, h1⟩
theorem OwnA.has {w : World} {base : Nat} {a : Option Addr} {n c : Nat} {L : List Ag} (h : OwnA w base (.slice a n c) L) : n = L.length ∧ HasA w a L := by
  obtain ⟨a', c', h1⟩ := form_a h
  simp only [Value.slice.injEq] at h1
  obtain ⟨rfl, rfl, rfl⟩ := h1
  exact ⟨rfl, HasA.own h⟩
theorem OwnA.below {w w' : World} {base : Nat} {v : Value} {L : List Ag} (h : OwnA w base v L) (hb : Below w.heap.size w w') : OwnA w' base v L := own_below h hb
theorem OwnA.kept {w w' : World} {base : Nat} {r : Option Nat} {v : Value} {L : List Ag} (h : OwnA w base v L) (hg : w.grownBy w' r) (hne : ∀ k, v.ownBlock = some k → r ≠ some k) : OwnA w' base v L :=
  World.ownsRow.kept h hg (by
    cases hv : v.ownBlock with
    | none => exact .inl rfl
    | some k => exact .inr (fun e => hne k hv e.symm))
theorem OwnA.lt {w : World} {base : Nat} {v : Value} {L : List Ag} (h : OwnA w base v L) : ∀ k, v.ownBlock = some k → base ≤ k ∧ k < w.heap.size := World.ownsRow.lt h
theorem eqO {w : World} {b b' : Nat} {v v' : Value} {L : List Ag} (hb : L.length ≤ 1048576) (h : OwnA w b v L) (h' : OwnA w b' v' L) :
    Calls Try.prog 22 #[v, v'] w fun e w' => e = .returned (.bool true) ∧ Below w.heap.size w w' := by
  obtain ⟨a, c, rfl⟩ := form_a h
  obtain ⟨a', c', rfl⟩ := form_a h'
  exact f22 a a' c c' L w hb h.has.2 h'.has.2
theorem dwn_len (res : Int) (ls : List Sm) : (dwn res ls).length ≤ ls.length := by
  unfold dwn
  split
  · exact Nat.le_trans (fw_len _ _) (ones_len _)
  · simp

set_option maxHeartbeats 4000000 in
theorem f11 (a : Option Addr) (c : Nat) (res : Int) (ls : List Sm) (w : World) (hmax : ls.length ≤ 1048576) (hr : HasS w a ls) (hfit : Smp.Fit ls) :
    Calls Try.prog 11 #[.slice a ls.length c, .int .i64 res] w fun e w' => ∃ v, e = .returned v ∧ OwnA w' w.heap.size v (dwn res ls) ∧ Below w.heap.size w w' := by
  have HGd := hid (Smp.f8 a c ls w hmax hr)
  have HR := hid hr
  clear hr
  by_cases hg : goodS ls = true
  rotate_left
  · have hg' : goodS ls = false := by simpa using hg
    have HA : Hid (dwn res ls = []) := if_neg fun h => hg h.1
    rw [hg'] at HGd
    go_enter Try.func11, Try.ntmps11
    go_wp2_with (go_at_call 8; refine HGd.out.mono ?_; rintro e w2 ⟨rfl, hb2⟩)
    go_ret
    exact ⟨_, rfl, by rw [HA.out]; exact OwnA.nil _ _, hb2⟩
  have HGood := hid hg
  rw [hg] at HGd
  clear hg
  by_cases hs : ResP res
  rotate_left
  · have HSp := hid (decide_eq_false hs)
    have HA : Hid (dwn res ls = []) := if_neg fun h => hs h.2
    clear hs
    go_enter Try.func11, Try.ntmps11
    go_wp2_with (first | (go_at_call 8; refine HGd.out.mono ?_; rintro e w2 ⟨rfl, hb2⟩) | (go_at_call 34; refine (f34 res _).mono ?_; rw [HSp.out]; rintro e w3 ⟨rfl, rfl⟩))
    go_ret
    exact ⟨_, rfl, by rw [HA.out]; exact OwnA.nil _ _, hb2⟩
  have HSp := hid (decide_eq_true hs)
  have HA : Hid (dwn res ls = fw (winOf res) (ones ls)) := if_pos ⟨HGood.out, hs⟩
  have HD := fun x (hx : HasS x a ls) => hid (f35 a c res ls x hmax hx (good_s HGood.out) hs hfit)
  clear hs
  go_enter Try.func11, Try.ntmps11
  go_wp2_with (first | (go_at_call 8; refine HGd.out.mono ?_; rintro e w2 ⟨rfl, hb2⟩) | (go_at_call 34; refine (f34 res _).mono ?_; rw [HSp.out]; rintro e w3 ⟨rfl, rfl⟩) | (go_at_call 35; refine (HD _ (HR.out.below hb2)).out.mono ?_; rintro e w4 ⟨v4, rfl, ho4, hb4⟩))
  have HB4 := hid (hb2.trans (hb4.mono hb2.size))
  have HO4 := hid (World.ownsRow.mono ho4 hb2.size)
  go_wp2
  go_ret
  exact ⟨_, rfl, by rw [HA.out]; exact HO4.out, HB4.out⟩

end Go.Proofs.Ytpbnneelpdacdaa.Agl
