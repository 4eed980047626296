/- Samples between two times: the search for a place, the piece, its copy; the model's. -/
import Derived.Test.YtpbnneelpdacdaaTb
import Derived.Test.YtpbnneelpdacdaaTc
import Derived.Deep.CutRange
import Derived.Maps.AppendAt
import Derived.Laws.AppendOwnNone
import Derived.Deep.Onto
import Derived.Lib.LazyBuf
namespace Go.Proofs.Ytpbnneelpdacdaa.Smp
open Go.RowKit

def cmpI (x y : Int) : Int := if x < y then -1 else if y < x then 1 else 0
theorem f86 (x : Int) (w : World) : Calls Try.prog 86 #[.int .i64 x] w fun e w' => e = .returned (.bool false) ∧ w' = w := by
  go_enter Try.func86, Try.ntmps86
  go_wp2
  go_ret
  exact ⟨rfl, rfl⟩
theorem f83 (x y : Int) (w : World) : Calls Try.prog 83 #[.int .i64 x, .int .i64 y] w fun e w' => e = .returned (.int .i64 (cmpI x y)) ∧ w' = w := by
  unfold cmpI
  by_cases h1 : x < y
  · rw [if_pos h1]
    go_enter Try.func83, Try.ntmps83
    go_wp2_with (go_at_call 86; refine (f86 _ _).mono ?_; rintro e w' ⟨rfl, rfl⟩)
    go_ret
    exact ⟨rfl, rfl⟩
  · rw [if_neg h1]
    by_cases h2 : y < x
    · rw [if_pos h2]
      go_enter Try.func83, Try.ntmps83
      go_wp2_with (go_at_call 86; refine (f86 _ _).mono ?_; rintro e w' ⟨rfl, rfl⟩)
      go_ret
      exact ⟨rfl, rfl⟩
    · rw [if_neg h2]
      go_enter Try.func83, Try.ntmps83
      go_wp2_with (go_at_call 86; refine (f86 _ _).mono ?_; rintro e w' ⟨rfl, rfl⟩)
      go_ret
      exact ⟨rfl, rfl⟩
theorem f82 (s t y : Int) (w : World) : Calls Try.prog 82 #[.agg #[.int .i64 s, .int .i64 t], .int .i64 y] w fun e w' => e = .returned (.int .i64 (cmpI s y)) ∧ Below w.heap.size w w' := by
  have hb := hid ((Below.refl w.heap.size w).alloc (Nat.le_refl _) (.cells #[.int .i64 s, .int .i64 t] 58))
  go_enter Try.func82, Try.ntmps82
  go_wp2_with (go_at_call 83; refine (f83 _ _ _).mono ?_; rintro e w' ⟨rfl, rfl⟩)
  go_ret
  exact ⟨rfl, hb.out⟩

theorem cmpI_lt {x y : Int} : cmpI x y < 0 ↔ x < y := by
  unfold cmpI
  split
  · constructor <;> intro h <;> omega
  · split <;> constructor <;> intro h <;> omega
theorem cmpI_eq {x y : Int} : cmpI x y = 0 ↔ x = y := by
  unfold cmpI
  split
  · constructor <;> intro h <;> omega
  · split <;> constructor <;> intro h <;> omega

/-- They rise. -/
theorem rise_lt {ls : List Sm} (h : GoodP ls) : ∀ {i j : Nat}, i < j → j < ls.length → (ls.getD i e0).1 < (ls.getD j e0).1 := by
  intro i j
  induction j with
  | zero => intro h; omega
  | succ j ih =>
    intro hij hj
    have h1 := (h.2 (j + 1) hj).2 (by omega)
    rw [Nat.add_sub_cancel] at h1
    by_cases e : i = j
    · subst e; exact h1
    · have := ih (by omega) (by omega); omega
/-- lo is the first that is not ahead of x. -/
structure Place (ls : List Sm) (x : Int) (lo : Nat) : Prop where
  le : lo ≤ ls.length
  less : ∀ i, i < lo → (ls.getD i e0).1 < x
  geq : ∀ i, lo ≤ i → i < ls.length → x ≤ (ls.getD i e0).1
theorem ret_tup {i : Int} {a b : Bool} (h : a = b) : Ending.returned (.tuple #[.int .i64 i, .bool a]) = .returned (.tuple #[.int .i64 i, .bool b]) := by rw [h]

set_option maxHeartbeats 2000000 in
theorem f81 (a : Option Addr) (c : Nat) (ls : List Sm) (x : Int) (w : World) (hg : GoodP ls) (hr : HasS w a ls) :
    Calls Try.prog 81 #[.slice a ls.length c, .int .i64 x, .func (.func 82) #[] #[]] w fun e w' => ∃ lo : Nat, Place ls x lo ∧ e = .returned (.tuple #[.int .i64 lo, .bool (decide (lo < ls.length ∧ (ls.getD lo e0).1 = x))]) ∧ Below w.heap.size w w' := by
  have HG := hid hg
  have h20 := hg.1
  generalize hn : ls.length = n at *
  have HN := hid hn
  clear hn hg
  go_enter Try.func81, Try.ntmps81
  go_wp2
  go_loopw [9, 10] (fun si sj wr => ∃ (lo hi : Nat), lo ≤ hi ∧ hi ≤ n ∧ si = .int .i64 lo ∧ sj = .int .i64 hi ∧ Hid (∀ i, i < lo → (ls.getD i e0).1 < x) ∧ Hid (∀ i, hi ≤ i → i < n → x ≤ (ls.getD i e0).1) ∧ Below w.heap.size w wr) (fun si sj _ => (intOf sj).toNat - (intOf si).toNat)
  case atStart => exact ⟨0, n, Nat.zero_le _, Nat.le_refl _, rfl, rfl, fun i hi => by omega, fun i h1 h2 => by omega, Below.refl _ _⟩
  case round =>
    obtain ⟨lo, hi, hlh, hhn, rfl, rfl, hlow, hhigh, hnx⟩ := hrel
    have HX := hid hnx
    by_cases hlt : lo < hi
    · obtain ⟨h, hh⟩ : ∃ h, h = (lo + hi) / 2 := ⟨_, rfl⟩
      have hh1 : lo ≤ h := by omega
      have hh2 : h < hi := by omega
      have hh3 : ((lo : Int) + (hi : Int)) / 2 = (h : Int) := by omega
      have HHI := hid hh3
      clear hh hh3
      rcases hr with hr | ⟨b, off, rfl, hbl, hc⟩
      · exact absurd HN.out (by rw [hr]; simp; omega)
      obtain ⟨c0, c1⟩ := hc h (by rw [HN.out]; omega)
      have d0 := (hnx.cell (p := ⟨b, off + h * 2, none⟩) hbl).trans c0
      have d1 := (hnx.cell (p := ⟨b, off + h * 2 + 1, none⟩) hbl).trans c1
      have i1 : (h : Int) < (n : Int) := by omega
      have HLow : Hid ((ls.getD h e0).1 < x → ∀ i, i < h + 1 → (ls.getD i e0).1 < x) := by
        intro hx i hi
        by_cases e : i = h
        · subst e; exact hx
        · have := rise_lt HG.out (show i < h by omega) (by rw [HN.out]; omega); omega
      have HHigh : Hid (¬ (ls.getD h e0).1 < x → ∀ i, h ≤ i → i < n → x ≤ (ls.getD i e0).1) := by
        intro h1 i hi1 hi2
        by_cases e : i = h
        · subst e; omega
        · have := rise_lt HG.out (show h < i by omega) (by rw [HN.out]; omega); omega
      clear hc c0 c1 hnx
      generalize (ls.getD h e0).1 = s at *
      generalize (ls.getD h e0).2 = t at *
      by_cases h3 : s < x
      · have h4 := cmpI_lt.2 h3
        go_upto_region 5 with fail
        rw [HHI.out]
        go_wp2_with fail
        refine (f82 s t x _).mono ?_
        rintro e w2 ⟨rfl, hb2⟩
        have HX2 := hid (HX.out.trans (hb2.mono HX.out.size))
        clear hb2
        generalize cmpI s x = cc at *
        go_wp2
        go_roundw
        case rel => exact ⟨h + 1, hi, by omega, hhn, by go_num, rfl, HLow.out h3, hhigh, HX2.out⟩
        case measure => simp [intOf]; omega
      · have h4 : ¬ cmpI s x < 0 := fun h => h3 (cmpI_lt.1 h)
        go_upto_region 5 with fail
        rw [HHI.out]
        go_wp2_with fail
        refine (f82 s t x _).mono ?_
        rintro e w2 ⟨rfl, hb2⟩
        have HX2 := hid (HX.out.trans (hb2.mono HX.out.size))
        clear hb2
        generalize cmpI s x = cc at *
        go_wp2
        go_roundw
        case rel => exact ⟨lo, h, hh1, by omega, rfl, rfl, hlow, HHigh.out h3, HX2.out⟩
        case measure => simp [intOf]; omega
    · obtain rfl : lo = hi := by omega
      have HP : Hid (Place ls x lo) := ⟨by rw [HN.out]; exact hhn, hlow.out, fun i h1 h2 => hhigh.out i h1 (by rw [HN.out] at h2; exact h2)⟩
      by_cases hln : lo < n
      · rcases hr with hr | ⟨b, off, rfl, hbl, hc⟩
        · exact absurd HN.out (by rw [hr]; simp; omega)
        obtain ⟨c0, c1⟩ := hc lo (by rw [HN.out]; omega)
        have d0 := (hnx.cell (p := ⟨b, off + lo * 2, none⟩) hbl).trans c0
        have d1 := (hnx.cell (p := ⟨b, off + lo * 2 + 1, none⟩) hbl).trans c1
        have i1 : (lo : Int) < (n : Int) := by omega
        clear hc c0 c1 hnx
        have HD : Hid (decide (lo < n ∧ (ls.getD lo e0).1 = x) = (cmpI (ls.getD lo e0).1 x == 0)) := by
          unfold Hid; rw [Bool.eq_iff_iff]; simp [hln, cmpI_eq]
        generalize hs : (ls.getD lo e0).1 = s at *
        generalize (ls.getD lo e0).2 = t at *
        have HS1 := hid hs
        clear hlow hhigh hs
        go_wp2_with (go_at_call 82; refine (f82 s t x _).mono ?_; rintro e w2 ⟨rfl, hb2⟩)
        go_ret2
        exact ⟨lo, HP.out, ret_tup (by rw [HS1.out, HD.out]), HX.out.trans (hb2.mono HX.out.size)⟩
      · have i1 : ¬ (lo : Int) < (n : Int) := by omega
        clear hnx
        go_wp2
        go_ret2
        exact ⟨lo, HP.out, ret_tup (by rw [show decide (lo < n) = false from decide_eq_false (by omega)]; rfl), HX.out⟩

theorem f66 (a : Option Addr) (c : Nat) (ls : List Sm) (x : Int) (w : World) (hg : GoodP ls) (hr : HasS w a ls) :
    Calls Try.prog 66 #[.slice a ls.length c, .int .i64 x] w fun e w' => ∃ lo : Nat, Place ls x lo ∧ e = .returned (.tuple #[.int .i64 lo, .bool (decide (lo < ls.length ∧ (ls.getD lo e0).1 = x))]) ∧ Below w.heap.size w w' := by
  have HG := hid hg
  clear hg
  go_enter Try.func66, Try.ntmps66
  go_wp2_with fail
  refine (f81 a c ls x _ HG.out hr).mono ?_
  rintro e w1 ⟨lo, hp, rfl, hb⟩
  have HP := hid hp
  generalize hd : decide (lo < ls.length ∧ (ls.getD lo e0).1 = x) = d
  clear hp
  go_wp2
  go_ret2
  exact ⟨lo, HP.out, ret_tup hd.symm, hb⟩

def cut (ls : List Sm) (x y : Int) : List Sm := ls.filter fun p => decide (x ≤ p.1 ∧ p.1 ≤ y)
theorem filter_mid (P : Sm → Bool) : ∀ (ls : List Sm) (f e : Nat), (∀ i, i < ls.length → P (ls.getD i e0) = decide (f ≤ i ∧ i < e)) → ls.filter P = (ls.take e).drop f := by
  intro ls
  induction ls with
  | nil => intro f e _; simp
  | cons p L ih =>
    intro f e h
    have h0 := h 0 (by simp)
    have hs : ∀ i, i < L.length → P (L.getD i e0) = decide (f - 1 ≤ i ∧ i < e - 1) := by
      intro i hi
      have := h (i + 1) (by simp; omega)
      simp only [List.getD_cons_succ] at this
      rw [this, decide_eq_decide]
      omega
    have := ih (f - 1) (e - 1) hs
    simp only [List.getD_cons_zero] at h0
    cases e with
    | zero =>
      have h1 : P p = false := by rw [h0]; simp
      rw [List.filter_cons_of_neg (by simp [h1]), this]; simp
    | succ e =>
      cases f with
      | zero =>
        have h1 : P p = true := by rw [h0]; simp
        rw [List.filter_cons_of_pos h1, this]; simp
      | succ f =>
        have h1 : P p = false := by rw [h0]; simp
        rw [List.filter_cons_of_neg (by simp [h1]), this]; simp
/-- Behind the last one that is not behind x. -/
def endAt (ls : List Sm) (x : Int) (lo : Nat) : Nat := if lo < ls.length ∧ (ls.getD lo e0).1 = x then lo + 1 else lo
theorem end_spec {ls : List Sm} {x : Int} {lo : Nat} (hg : GoodP ls) (h : Place ls x lo) : endAt ls x lo ≤ ls.length ∧ (∀ i, i < ls.length → (i < endAt ls x lo ↔ (ls.getD i e0).1 ≤ x)) := by
  unfold endAt
  split
  · rename_i hm
    refine ⟨by omega, fun i hi => ⟨fun h1 => ?_, fun h1 => ?_⟩⟩
    · by_cases e : i = lo
      · subst e; omega
      · have := h.less i (by omega); omega
    · by_cases e : i ≤ lo
      · omega
      · have := rise_lt hg (show lo < i by omega) hi; omega
  · rename_i hm
    refine ⟨h.le, fun i hi => ⟨fun h1 => ?_, fun h1 => ?_⟩⟩
    · have := h.less i h1; omega
    · by_cases e : i < lo
      · exact e
      · have h2 := h.geq i (by omega) hi
        have h3 := h.geq lo (by omega) (by omega)
        exfalso
        by_cases e2 : i = lo
        · subst e2; exact hm ⟨hi, by omega⟩
        · have := rise_lt hg (show lo < i by omega) hi; omega
theorem cut_mid {ls : List Sm} {x y : Int} {f lo : Nat} (hg : GoodP ls) (hf : Place ls x f) (hl : Place ls y lo) : cut ls x y = (ls.take (endAt ls y lo)).drop f := by
  refine filter_mid _ ls _ _ fun i hi => ?_
  rw [decide_eq_decide]
  have h1 := (end_spec hg hl).2 i hi
  have h2 : f ≤ i ↔ x ≤ (ls.getD i e0).1 := ⟨fun h => hf.geq i h hi, fun h => by
    by_cases e : i < f
    · have := hf.less i e; omega
    · omega⟩
  rw [h1, h2]

/-- What samplesWithin gives: nothing, or a piece of the list. -/
def Piece (w : World) (L : List Sm) (v : Value) : Prop := (L = [] ∧ v = .slice none 0 0) ∨ (0 < L.length ∧ ∃ b off, v = .slice (some ⟨b, off, none⟩) L.length L.length ∧ HasS w (some ⟨b, off, none⟩) L)

theorem has_mid {w : World} {b off f e : Nat} {ls : List Sm} (h : HasS w (some ⟨b, off, none⟩) ls) (he : e ≤ ls.length) : HasS w (some ⟨b, off + f * 2, none⟩) ((ls.take e).drop f) := by
  by_cases hz : e ≤ f
  · exact .inl (List.eq_nil_of_length_eq_zero (by simp; omega))
  rcases h with h | ⟨b', off', hbo, hb, hc⟩
  · rw [h] at he; simp at he; omega
  · simp only [Option.some.injEq, Addr.mk.injEq, and_true] at hbo
    obtain ⟨rfl, rfl⟩ := hbo
    refine .inr ⟨b, off + f * 2, rfl, hb, fun i hi => ?_⟩
    have hi' : f + i < e := by simp at hi; omega
    have h1 : ((ls.take e).drop f).getD i e0 = ls.getD (f + i) e0 := by
      simp only [List.getD_eq_getElem?_getD, List.getElem?_drop, List.getElem?_take, hi', if_true]
    rw [h1, show off + f * 2 + i * 2 = off + (f + i) * 2 from by omega]
    exact hc (f + i) (by omega)

set_option maxHeartbeats 2000000 in
theorem f40 (a : Option Addr) (c : Nat) (ls : List Sm) (x y : Int) (w : World) (hg : GoodP ls) (hr : HasS w a ls) (hc : ls.length ≤ c) :
    Calls Try.prog 40 #[.slice a ls.length c, .int .i64 x, .int .i64 y] w fun e w' => ∃ v, e = .returned v ∧ Piece w' (cut ls x y) v ∧ Below w.heap.size w w' := by
  have HG := hid hg
  have h20 := hg.1
  have HR := hid hr
  clear hg hr
  go_enter Try.func40, Try.ntmps40
  go_wp2_with fail
  refine (f66 a c ls x _ HG.out HR.out).mono ?_
  rintro e w1 ⟨f, hp, rfl, hb1⟩
  have HP := hid hp
  have HB1 := hid hb1
  have hfl := hp.le
  clear hp hb1
  generalize decide (f < ls.length ∧ (ls.getD f e0).1 = x) = d
  go_wp2_with fail
  refine (f66 a c ls y _ HG.out (HR.out.below HB1.out)).mono ?_
  rintro e w2 ⟨lo, hp, rfl, hb2⟩
  have HQ := hid hp
  have HB2 := hid (HB1.out.trans (hb2.mono HB1.out.size))
  have hll := hp.le
  have HE := hid (end_spec HG.out hp)
  have HCM := hid (cut_mid HG.out HP.out hp)
  clear hp hb2
  have HR2 := hid (HR.out.below HB2.out)
  have hle := HE.out.1
  by_cases hm : lo < ls.length ∧ (ls.getD lo e0).1 = y
  · have hd := decide_eq_true hm
    have hea : endAt ls y lo = lo + 1 := if_pos hm
    rw [hea] at hle
    have HEA := hid hea
    rw [hd]
    clear hea hm hd
    by_cases hfe : lo + 1 ≤ f
    · go_wp2
      go_ret
      refine ⟨_, rfl, .inl ⟨?_, rfl⟩, HB2.out⟩
      rw [HCM.out, HEA.out]; exact List.eq_nil_of_length_eq_zero (by simp; omega)
    · obtain ⟨b, off, rfl⟩ : ∃ b off, a = some ⟨b, off, none⟩ := by
        rcases HR.out with h | ⟨b, off, h, _⟩
        · rw [h] at hle; simp at hle
        · exact ⟨b, off, h⟩
      have HL : Hid ((cut ls x y).length = lo + 1 - f) := by unfold Hid; rw [HCM.out, HEA.out]; simp; omega
      go_wp2
      go_ret
      refine ⟨_, rfl, .inr ⟨by rw [HL.out]; omega, b, off + f * 2, ?_, ?_⟩, HB2.out⟩
      · rw [HL.out]; rfl
      · rw [HCM.out, HEA.out]; exact has_mid HR2.out hle
  · have hd := decide_eq_false hm
    have hea : endAt ls y lo = lo := if_neg hm
    have HEA := hid hea
    rw [hd]
    clear hea hm hd
    by_cases hfe : lo ≤ f
    · go_wp2
      go_ret
      refine ⟨_, rfl, .inl ⟨?_, rfl⟩, HB2.out⟩
      rw [HCM.out, HEA.out]; exact List.eq_nil_of_length_eq_zero (by simp; omega)
    · obtain ⟨b, off, rfl⟩ : ∃ b off, a = some ⟨b, off, none⟩ := by
        rcases HR.out with h | ⟨b, off, h, _⟩
        · rw [h] at hll; simp at hll; omega
        · exact ⟨b, off, h⟩
      have HL : Hid ((cut ls x y).length = lo - f) := by unfold Hid; rw [HCM.out, HEA.out]; simp; omega
      go_wp2
      go_ret
      refine ⟨_, rfl, .inr ⟨by rw [HL.out]; omega, b, off + f * 2, ?_, ?_⟩, HB2.out⟩
      · rw [HL.out]; rfl
      · rw [HCM.out, HEA.out]; exact has_mid HR2.out hll
end Go.Proofs.Ytpbnneelpdacdaa.Smp
