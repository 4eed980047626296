/- An alternative asked about a text: what its parts come to (plain facts; one run). -/
import Derived.Test.YtpobpanmkdjkjaaPb
namespace Go.Proofs.Ytpobpanmkdjkjaa.Pat
open Go.RowKit

theorem pre_take : ∀ (r : List Int) (l : List UInt8) (m : Nat), r.length ≤ m → pre r (l.take m) = pre r l
  | [], _, _, _ => by simp [pre]
  | x :: r, [], m, _ => by simp
  | x :: r, c :: l, 0, h => by simp at h
  | x :: r, c :: l, m + 1, h => by
    simp only [List.take_succ_cons, pre]
    rw [pre_take r l m (by simp at h; omega)]
theorem findE_is {f : Nat → Bool} {n k : Nat} (hk : k < n) (hf : f k = true) (hm : ∀ j, j < k → f j = false) : findE f n 0 = some k := by
  cases h : findE f n 0 with
  | none => have := findE_none f n 0 h k (by omega) (by omega); rw [hf] at this; cases this
  | some j =>
    obtain ⟨_, h2, h3, h4⟩ := findE_some f n 0 j h
    by_cases h5 : j < k
    · rw [hm j h5] at h3; cases h3
    · by_cases h6 : k < j
      · have := h4 k (by omega) h6; rw [hf] at this; cases this
      · have : j = k := by omega
        rw [this]
theorem pre_in {r : List Int} {L : List UInt8} {m e : Nat} (h : e + r.length ≤ m) : pre r ((L.take m).drop e) = pre r (L.drop e) := by
  rw [List.drop_take, pre_take _ _ _ (by omega)]
theorem goM_none {r l : List Int} {ms : List (List Int)} {L : List UInt8} {t : Nat} (ht : t + l.length ≤ L.length) (h : FindR r (L.take (L.length - l.length)) t none) : goM (r :: ms) l (L.drop t) = none := by
  have : findE (standsAt r l (L.drop t)) ((L.drop t).length + 1) 0 = none := by
    cases hf : findE (standsAt r l (L.drop t)) ((L.drop t).length + 1) 0 with
    | none => rfl
    | some e =>
      obtain ⟨_, _, h3, _⟩ := findE_some _ _ _ _ hf
      unfold standsAt at h3
      simp only [Bool.and_eq_true, decide_eq_true_eq, List.length_drop, List.drop_drop] at h3
      have := h (t + e) (by omega) (by simp; omega)
      rw [pre_in (by omega), h3.2] at this
      cases this
  simp only [goM, this]
theorem goM_some {r l : List Int} {ms : List (List Int)} {L : List UInt8} {t k : Nat} (ht : t + l.length ≤ L.length) (h : FindR r (L.take (L.length - l.length)) t (some k)) : goM (r :: ms) l (L.drop t) = (goM ms l (L.drop (k + r.length))).map fun q => (L.drop t).take (k - t) :: q := by
  obtain ⟨h1, h2, h3, h4⟩ := h
  simp only [List.length_take] at h2
  rw [pre_in (by omega)] at h3
  have : findE (standsAt r l (L.drop t)) ((L.drop t).length + 1) 0 = some (k - t) := by
    refine findE_is (by simp; omega) ?_ (fun j hj => ?_)
    · unfold standsAt
      rw [List.drop_drop, show t + (k - t) = k from by omega, h3]
      simp; omega
    · unfold standsAt
      by_cases hr : j + r.length + l.length ≤ (L.drop t).length
      · have := h4 (t + j) (by omega) (by omega)
        simp only [List.length_drop] at hr
        rw [pre_in (by omega)] at this
        rw [List.drop_drop, this]; simp
      · simp at hr ⊢; intro h; omega
  simp only [goM, this]
  rw [List.drop_drop, show t + (k - t + r.length) = k + r.length from by omega]
abbrev mkS (l : List UInt8) : ByteArray := ⟨l.toArray⟩
theorem ext_mkS (s : ByteArray) (a b : Nat) : s.extract a b = mkS ((s.data.toList.drop a).take (b - a)) := by
  apply ByteArray.ext
  apply Array.toList_inj.1
  rw [Lib.extract_data]
def txts (ps : List (List UInt8)) : List Value := ps.map fun q => .string (mkS q)
theorem txts_snoc (ps : List (List UInt8)) (q : List UInt8) : txts (ps ++ [q]) = txts ps ++ [.string (mkS q)] := by simp [txts]
theorem txts_len (ps : List (List UInt8)) : (txts ps).length = ps.length := by simp [txts]
/-- What a call of parts leaves. -/
def PartsR (o : Option (List (List UInt8))) (w : World) (e : Ending) (w' : World) : Prop :=
  Below w.heap.size w w' ∧ ((o = none ∧ e = .returned (.tuple #[.slice none 0 0, .bool false])) ∨ ∃ ps a c, o = some ps ∧ e = .returned (.tuple #[.slice a ps.length c, .bool true]) ∧ w'.ownsRow w.heap.size 9 1 (.slice a ps.length c) ps.length (txts ps))

/-- Two cells of a row that are read, in a world that came from w. -/
abbrev CC (w : World) (g i j : Nat) (u v : Value) (w' : World) : Prop := w'.cell? ⟨g, i, none⟩ = some u ∧ w'.cell? ⟨g, j, none⟩ = some v ∧ Below w.heap.size w w' ∧ Agree (fun _ => True) w w'
theorem CC.drew {w w' : World} {g i j : Nat} {u v : Value} (h : CC w g i j u v w') : CC w g i j u v w'.drew := ⟨h.1, h.2.1, h.2.2.1.drew, h.2.2.2⟩

set_option maxHeartbeats 2000000 in
theorem f73a (S : Blk) (v : Value) (r : List Int) (s : ByteArray) (w : World) (h : AltW S w v [r]) (hrun : Run r) (hr : r.length ≤ 1000) (hs : s.size ≤ 1000) :
    Calls Try.prog 73 #[v, .string s] w (PartsR (partsI [r] s.data.toList) w) := by
  obtain ⟨vs, h1, h2, h3⟩ := h
  obtain ⟨u, hu, hR⟩ := h3 0 r rfl
  obtain ⟨ar, cr, rfl⟩ : ∃ a c, u = .slice a r.length c := by obtain ⟨_, h1, _⟩ := hR; exact own_form h1
  rcases h1.2 with ⟨_, h0⟩ | ⟨g, cap, cur, hv, _⟩
  · simp at h0
  simp only [List.length_singleton] at hv h1
  subst hv
  have c0 := (h1.cellAt 0 (by omega)).trans (show vs[0]? = some _ from hu)
  have HC : Hid (CC w g 0 0 (.slice ar r.length cr) (.slice ar r.length cr) w) := ⟨c0, c0, Below.refl _ _, fun _ _ => rfl⟩
  have HP := hid (partsI_one r s.data.toList hrun)
  have HF := hid (f83 S _ r s w.drew (hR.agree (fun _ _ => rfl)) hr (by unfold maxLen; omega))
  have HL : Hid (s.data.toList.length = s.size) := by unfold Hid; simp
  obtain ⟨n, hn⟩ : ∃ n, n = r.length := ⟨_, rfl⟩
  have HN := hid hn
  rw [← hn] at HC HF hr
  have q1 : IntKind.i64.wrap (((1 : Nat) : Int) - 1) = 0 := by decide
  have q2 : IntKind.i64.wrap ((1 : Int) - 1) = 0 := by decide
  have q3 : IntKind.i64.wrap (0 : Int) = 0 := by decide
  clear h1 h2 h3 hu hR c0 hn
  by_cases hsz : s.size = n
  · have e1 : ((s.size : Int) == (n : Int)) = true := by simp; omega
    have HZ := hid hsz
    clear hsz
    go_enter Try.func73, Try.ntmps73
    go_wp2_with fail
    go_region_held3 (fun w' => CC w g 0 0 (.slice ar n cr) (.slice ar n cr) w') (first | exact HC.out.drew | exact CC.drew (by assumption) | assumption) (first | fail)
    have HB := hid (HC.out.drew.2.2.1)
    go_wp2_with fail
    refine HF.out.mono ?_
    rintro e w' ⟨rfl, hw⟩
    have hw2 := hw.symm
    subst hw2
    by_cases hp : pre r s.data.toList = true
    · have HPP : Hid (partsI [r] s.data.toList = some []) := by unfold Hid; rw [HP.out, if_pos ⟨by rw [HL.out, ← HN.out]; exact HZ.out, hp⟩]
      rw [hp]
      clear hp hw
      go_wp2
      go_ret2
      exact ⟨HB.out, .inr ⟨[], none, 0, HPP.out, rfl, World.ownsRow_nil _ _ _ _⟩⟩
    · have HPP : Hid (partsI [r] s.data.toList = none) := by unfold Hid; rw [HP.out, if_neg (fun h => hp h.2)]
      have hp' : pre r s.data.toList = false := by simpa using hp
      rw [hp']
      clear hp hp' hw
      go_wp2
      go_ret2
      exact ⟨HB.out, .inl ⟨HPP.out, rfl⟩⟩
  · have e1 : ((s.size : Int) == (n : Int)) = false := by simp; omega
    have HPP : Hid (partsI [r] s.data.toList = none) := by unfold Hid; rw [HP.out, if_neg (fun h => hsz (by have := h.1; rw [HL.out, ← HN.out] at this; exact this))]
    clear hsz
    go_enter Try.func73, Try.ntmps73
    go_wp2_with fail
    go_region_held3 (fun w' => CC w g 0 0 (.slice ar n cr) (.slice ar n cr) w') (first | exact HC.out.drew | exact CC.drew (by assumption) | assumption) (first | fail)
    have HB := hid (HC.out.drew.2.2.1)
    go_wp2
    go_ret2
    exact ⟨HB.out, .inl ⟨HPP.out, rfl⟩⟩
end Go.Proofs.Ytpobpanmkdjkjaa.Pat
