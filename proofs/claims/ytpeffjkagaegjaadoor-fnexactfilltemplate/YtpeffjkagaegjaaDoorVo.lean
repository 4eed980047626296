/- The value under a name: both ValueOf. -/
import Derived.Test.YtpeffjkagaegjaaDoorBs
import Derived.Test.YtpeffjkagaegjaaDoorClw
namespace Go.Proofs.YtpeffjkagaegjaaDoor.Lab
open Go.RowKit Go.Proofs.YtpeffjkagaegjaaDoor.Str

theorem ret_str {a b : ByteArray} (h : a = b) : Ending.returned (.string a) = .returned (.string b) := by rw [h]
theorem str_eq {a b : ByteArray} (h : a = b) : (a.toList == b.toList) = true := by rw [h]; simp
theorem str_ne {a b : ByteArray} (h : a ≠ b) : (a.toList == b.toList) = false := by
  rw [beq_eq_false_iff_ne]
  intro e
  rw [ByteArray.toList_eq, ByteArray.toList_eq] at e
  exact h (WideShapes.bytes_inj e)
/-- v is the value of the first label with the name x, empty where there is none. -/
def OfV (ls : List Lb) (x v : ByteArray) : Prop :=
  (∃ k, k < ls.length ∧ (ls.getD k e0).1 = x ∧ (ls.getD k e0).2 = v ∧ ∀ i, i < k → (ls.getD i e0).1 ≠ x) ∨ ((∀ k, k < ls.length → (ls.getD k e0).1 ≠ x) ∧ v = ByteArray.empty)
theorem OfV.uniq {ls : List Lb} {x v v' : ByteArray} (h : OfV ls x v) (h' : OfV ls x v') : v = v' := by
  rcases h with ⟨k, hk, h1, h2, h3⟩ | ⟨h1, h2⟩
  · rcases h' with ⟨k', hk', h1', h2', h3'⟩ | ⟨h1', _⟩
    · have e : k = k' := by
        rcases Nat.lt_trichotomy k k' with h | h | h
        · exact absurd h1 (h3' k h)
        · exact h
        · exact absurd h1' (h3 k' h)
      subst e
      rw [← h2, ← h2']
    · exact absurd h1 (h1' k hk)
  · rcases h' with ⟨k', hk', h1', _⟩ | ⟨_, h2'⟩
    · exact absurd h1' (h1 k' hk')
    · rw [h2, h2']
def OfR (ls : List Lb) (x v : ByteArray) : Prop := (goodL ls = true ∧ OfV ls x v) ∨ (goodL ls = false ∧ v = ByteArray.empty)
theorem OfR.uniq {ls : List Lb} {x v v' : ByteArray} (h : OfR ls x v) (h' : OfR ls x v') : v = v' := by
  rcases h with ⟨h1, h2⟩ | ⟨h1, h2⟩
  · rcases h' with ⟨_, h2'⟩ | ⟨h1', _⟩
    · exact h2.uniq h2'
    · rw [h1] at h1'; cases h1'
  · rcases h' with ⟨h1', _⟩ | ⟨_, h2'⟩
    · rw [h1] at h1'; cases h1'
    · rw [h2, h2']

theorem Place.found {ls : List Lb} {x : ByteArray} {lo : Nat} (h : Place ls (x, ByteArray.empty) lo) (hl : lo < ls.length) (hc : cmpN (ls.getD lo e0) (x, ByteArray.empty) = 0) : OfV ls x (ls.getD lo e0).2 :=
  .inl ⟨lo, hl, cmpN_zero hc, rfl, fun i hi e => by have := h.less i hi; rw [cmpN_eq (q := (x, ByteArray.empty)) e] at this; omega⟩
theorem Place.missed {ls : List Lb} {x : ByteArray} {lo : Nat} (h : Place ls (x, ByteArray.empty) lo) (hg : GoodP ls) (hc : ¬ (lo < ls.length ∧ cmpN (ls.getD lo e0) (x, ByteArray.empty) = 0)) : ∀ k, k < ls.length → (ls.getD k e0).1 ≠ x := by
  intro k hk e
  have ek := cmpN_eq (p := ls.getD k e0) (q := (x, ByteArray.empty)) e
  by_cases h1 : k < lo
  · have := h.less k h1; omega
  · by_cases h2 : k = lo
    · subst h2; exact hc ⟨hk, ek⟩
    · have h3 := rise_lt hg (show lo < k by omega) hk
      have h4 := h.geq (by omega)
      have h5 : cmpN (ls.getD lo e0) (x, ByteArray.empty) = cmpN (ls.getD lo e0) (ls.getD k e0) := by unfold cmpN; rw [← e]
      omega

theorem f45 (a : Option Addr) (n c : Nat) (ls : List Lb) (x : ByteArray) (w : World) (hn : ls.length = n) (hg : GoodP ls) (hr : HasL w a ls) :
    Calls Tryd.prog 45 #[.slice a n c, .string x] w fun e w' => ∃ v, OfV ls x v ∧ e = .returned (.string v) ∧ Below w.heap.size w w' := by
  have HN := hid hn
  have HG := hid hg
  clear hn hg
  go_enter Tryd.func45, Tryd.ntmps45
  go_wp2_with fail
  refine (f51 a n c ls x _ HN.out HG.out hr).mono ?_
  rintro e w1 ⟨lo, hp, rfl, hb⟩
  have HP := hid hp
  by_cases hd : lo < n ∧ cmpN (ls.getD lo e0) (x, ByteArray.empty) = 0
  · have HV : Hid (OfV ls x (ls.getD lo e0).2) := HP.out.found (by rw [HN.out]; exact hd.1) hd.2
    have hlt := hd.1
    rw [decide_eq_true hd]
    rcases hr with hr | ⟨b, off, rfl, hbl, hc⟩
    · exact absurd HN.out (by rw [hr]; simp; omega)
    obtain ⟨c0, c1⟩ := hc lo (by rw [HN.out]; exact hlt)
    have d1 := (hb.cell (p := ⟨b, off + lo * 2 + 1, none⟩) hbl).trans c1
    clear hc c0 c1 hp hd
    generalize (ls.getD lo e0).2 = v at *
    go_wp2
    go_ret
    exact ⟨v, HV.out, rfl, hb⟩
  · rw [decide_eq_false hd]
    have HV := hid (HP.out.missed HG.out (by rw [HN.out]; exact hd))
    clear hp hd
    go_wp2
    go_ret
    exact ⟨_, .inr ⟨HV.out, rfl⟩, rfl, hb⟩

set_option maxHeartbeats 1000000 in
theorem f23 (a : Option Addr) (n c : Nat) (ls : List Lb) (x : ByteArray) (w : World) (hn : ls.length = n) (h20 : n ≤ 20) (hr : HasL w a ls) :
    Calls Tryd.prog 23 #[.slice a n c, .string x] w fun e w' => ∃ v, OfV ls x v ∧ e = .returned (.string v) ∧ Below w.heap.size w w' := by
  have HN := hid hn
  clear hn
  go_enter Tryd.func23, Tryd.ntmps23
  go_wp2
  go_loopw [9] (fun i wr => ∃ k : Nat, k ≤ n ∧ i = .int .i64 k ∧ Hid (∀ i, i < k → (ls.getD i e0).1 ≠ x) ∧ Below w.heap.size w wr) (fun i _ => n - (intOf i).toNat)
  case atStart => exact ⟨0, Nat.zero_le _, rfl, fun i hi => by omega, Below.refl _ _⟩
  case round =>
    obtain ⟨k, hk, rfl, hu, hnx⟩ := hrel
    have HX := hid hnx
    by_cases hlt : k < n
    · rcases hr with hr | ⟨b, off, rfl, hbl, hc⟩
      · exact absurd HN.out (by rw [hr]; simp; omega)
      obtain ⟨c0, c1⟩ := hc k (by rw [HN.out]; exact hlt)
      have d0 := (hnx.cell (p := ⟨b, off + k * 2, none⟩) hbl).trans c0
      have d1 := (hnx.cell (p := ⟨b, off + k * 2 + 1, none⟩) hbl).trans c1
      by_cases he : (ls.getD k e0).1 = x
      · have HV : Hid (OfV ls x (ls.getD k e0).2) := .inl ⟨k, by rw [HN.out]; exact hlt, he, rfl, hu.out⟩
        have he' : ((ls.getD k e0).1.toList == x.toList) = true := str_eq he
        clear hc c0 c1 hnx he
        generalize (ls.getD k e0).1 = s at *
        generalize (ls.getD k e0).2 = t at *
        go_wp2
        go_ret
        exact ⟨t, HV.out, rfl, HX.out.alloc HX.out.size _⟩
      · have HU : Hid (∀ i, i < k + 1 → (ls.getD i e0).1 ≠ x) := by
          intro i hi
          by_cases e : i = k
          · subst e; exact he
          · exact hu.out i (by omega)
        have he' : ((ls.getD k e0).1.toList == x.toList) = false := str_ne he
        clear hc c0 c1 hnx he
        generalize (ls.getD k e0).1 = s at *
        generalize (ls.getD k e0).2 = t at *
        go_wp2
        go_roundw
        case rel => exact ⟨k + 1, by omega, by go_num, HU.out, HX.out.alloc HX.out.size _⟩
        case measure => simp [intOf]; omega
    · go_wp2
      go_ret
      exact ⟨_, .inr ⟨fun i hi => hu.out i (by have := HN.out; omega), rfl⟩, rfl, HX.out⟩

theorem good_iff {ls : List Lb} (h : goodL ls = true) : GoodP ls := of_decide_eq_true h

end Go.Proofs.YtpeffjkagaegjaaDoor.Lab
