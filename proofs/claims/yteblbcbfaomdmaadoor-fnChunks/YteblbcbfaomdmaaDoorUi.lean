/- FnChunks: zBytes, zInt, and what a chunk of good samples is, plainly. -/
import Derived.Test.YteblbcbfaomdmaaDoorUh
import Derived.Test.YteblbcbfaomdmaaDoorUg
import Derived.Test.YteblbcbfaomdmaaDoorZh
namespace Go.Proofs.YteblbcbfaomdmaaDoor.Chk
open Go.RowKit Go.Proofs.YteblbcbfaomdmaaDoor.Bts
open Go.Proofs.YteblbcbfaomdmaaDoor.Smp hiding hid ret_int below_drewN

theorem f16 (a a' : Option Addr) (n n' c c' : Nat) (xs : List Int) (w : World) (hn : xs.length = n) (hn' : xs.length = n') (h : Byt.Has w a xs) (h' : Byt.Has w a' xs) :
    Calls Tryd.prog 16 #[.slice a n c, .slice a' n' c'] w fun e w' => e = .returned (.bool true) ∧ w' = w := by
  have c1 := conv_has w a n c xs hn h
  have c2 := conv_has w a' n' c' xs hn' h'
  go_enter Tryd.func16, Tryd.ntmps16
  go_wp2
  go_ret
  exact ⟨by simp, rfl⟩

theorem zByteI (a : Option Addr) (n c : Nat) (i : Int) (w : World) (h : Smp.Bya w a n) (h0 : 0 ≤ i) (hi : i ≤ 1000) :
    Calls Tryd.prog 17 #[.slice a n c, .int .i64 i] w fun e w' => ∃ x : Int, e = .returned (.int .i64 x) ∧ 0 ≤ x ∧ x ≤ 255 ∧ w' = w := by
  obtain ⟨k, rfl⟩ : ∃ k : Nat, i = (k : Int) := ⟨i.toNat, by omega⟩
  exact Smp.f17 a n c k w h (by omega)

set_option maxHeartbeats 2000000 in
theorem f18 (a : Option Addr) (n c : Nat) (w : World) (h : Smp.Bya w a n) :
    Calls Tryd.prog 18 #[.slice a n c, .int .i64 1] w fun e w' => ∃ x : Int, e = .returned (.int .i64 x) ∧ Smp.Fit64 x ∧ w' = w := by
  have HH := hid h
  clear h
  go_enter Tryd.func18, Tryd.ntmps18
  go_wp2
  go_loopw [5, 6] (fun s5 s6 wr => ∃ (k : Nat) (x : Int), k ≤ 8 ∧ s6 = .int .i64 k ∧ s5 = .int .i64 x ∧ Hid (Smp.Fit64 x) ∧ wr = w) (fun _ s6 _ => 8 - (intOf s6).toNat)
  case atStart => exact ⟨0, 0, by omega, rfl, rfl, ⟨by decide, by decide⟩, rfl⟩
  case round =>
    obtain ⟨k, x, hk, rfl, rfl, HX, rfl⟩ := hrel
    by_cases hlt : k < 8
    · have hlt' : (k : Int) < 8 := by omega
      go_wp2_with fail
      refine (zByteI a n c _ _ HH.out (by omega) (by omega)).mono ?_
      rintro e w1 ⟨z, rfl, z0, z1, rfl⟩
      go_wp2
      go_roundw
      case rel => exact ⟨k + 1, _, by omega, by go_num, rfl, by first | exact Smp.fit_wrap _ | exact Smp.fit_wrap64 _, trivial⟩
      case measure => simp [intOf]; omega
    · have hlt' : ¬ (k : Int) < 8 := by omega
      go_wp2
      go_ret
      exact ⟨x, rfl, HX, rfl⟩

/-! ### plain -/
theorem good_of_G {p : Bt} (h : GB p) (h8 : p.2 ≤ 80000) : good p.1 (p.2 : Int) = true := by
  rw [good_in p.1 p.2 h8 h.len, decide_eq_true_iff]
  by_cases e : p.2 % 8 = 0
  · exact .inl e
  · refine .inr ?_
    have h1 := h.low e
    have h2 := h.len
    rwa [show p.1.length - 1 = p.2 / 8 by omega]
theorem pack_is {l : List Sm} (hg : GoodP l) (hl : l.length ≤ 120) (hv : Vfit l) : Is (packOf l) l := ⟨hg, hl, hv, by unfold packOf; rw [if_pos ⟨hg, hl⟩]⟩
theorem packOf_G {l : List Sm} (hg : GoodP l) (hl : l.length ≤ 120) : GB (packOf l) ∧ (packOf l).2 ≤ 80000 := by
  unfold packOf; rw [if_pos ⟨hg, hl⟩]
  obtain ⟨h1, _, h3⟩ := packK_ok l l.length hl
  exact ⟨h1, by omega⟩
theorem unp_pack {l : List Sm} (hg : GoodP l) (hl : l.length ≤ 120) (hv : Vfit l) : unpB (packOf l).1 ((packOf l).2 : Int) = (l, true) := by
  obtain ⟨h1, h2⟩ := packOf_G hg hl
  exact unpB_yes (good_of_G h1 h2) (pack_is hg hl hv)
theorem cnt_pack {l : List Sm} (hg : GoodP l) (hl : l.length ≤ 120) (hv : Vfit l) : cntB (packOf l).1 ((packOf l).2 : Int) = (l.length : Int) := by
  unfold cntB; rw [unp_pack hg hl hv]; rfl
theorem take_get (l : List Sm) (m k : Nat) (h : k < m) : (l.take m).getD k e0 = l.getD k e0 := by
  simp [List.getD, h]
theorem take_good {l : List Sm} (m : Nat) (hm : m ≤ l.length) (hg : GoodP l) : GoodP (l.take m) := by
  have hlt : (l.take m).length = m := by simp; omega
  refine ⟨by have := hg.1; omega, fun i hi => ?_⟩
  rw [hlt] at hi
  have := hg.2 i (by omega)
  unfold OkAt at this ⊢
  rw [take_get l m i hi, take_get l m (i - 1) (by omega)]
  exact this
theorem take_fit {l : List Sm} (m : Nat) (hm : m ≤ l.length) (hv : Vfit l) : Vfit (l.take m) := by
  have hlt : (l.take m).length = m := by simp; omega
  intro k hk
  rw [hlt] at hk
  rw [take_get l m k hk]
  exact hv k (by omega)
theorem app_pack {l : List Sm} {m : Nat} (hm : l.length = m + 1) (hg : GoodP l) (hl : l.length ≤ 120) (hv : Vfit l) : appB (packOf (l.take m)).1 ((packOf (l.take m)).2 : Int) (l.getD m e0) = packOf l := by
  have hlt : (l.take m).length = m := by simp; omega
  have e : l.take m ++ [l.getD m e0] = l := by
    have : l.getD m e0 = l[m]'(by omega) := by simp [List.getD, show m < l.length by omega]
    rw [this, ← List.take_succ_eq_append_getElem (by omega)]
    exact List.take_of_length_le (by omega)
  unfold appB
  rw [unp_pack (take_good m (by omega) hg) (by omega) (take_fit m (by omega) hv)]
  simp only [if_true]
  rw [e]
theorem has_take {w : World} {a : Option Addr} {l : List Sm} (m : Nat) (hm : m ≤ l.length) (h : HasS w a l) : HasS w a (l.take m) := by
  rcases h with h | ⟨b, off, h1, h2, h3⟩
  · subst h; exact .inl (by simp)
  · refine .inr ⟨b, off, h1, h2, fun k hk => ?_⟩
    have hk' : k < m := by simp at hk; omega
    rw [take_get l m k hk']
    exact h3 k (by omega)
theorem dk_pack {l : List Sm} {n : Nat} (hn : (packOf l).1.length = n) (h : GB (packOf l)) : Dk n (packOf l).1 := by
  refine ⟨hn, by have := packOf_len l; omega, fun j => ?_⟩
  by_cases hj : j < (packOf l).1.length
  · have := h.byte _ (List.getElem_mem hj)
    simpa [List.getD, hj] using this
  · simp [List.getD, hj]
end Go.Proofs.YteblbcbfaomdmaaDoor.Chk
