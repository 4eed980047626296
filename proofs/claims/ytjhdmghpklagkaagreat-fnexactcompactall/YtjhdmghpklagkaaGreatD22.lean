import Derived.Test.YtjhdmghpklagkaaGreatD00
import Derived.Deep.CutRange
import Derived.Maps.AppendAt
import Derived.Laws.AppendOwnNone
import Derived.Deep.Onto
import Derived.Lib.LazyBuf
namespace Go.Proofs.YtjhdmghpklagkaaGreat.Smp
open Go.RowKit

def cmpI (x y : Int) : Int := if x < y then -1 else if y < x then 1 else 0
theorem f187 (x : Int) (w : World) : Calls Tryz.prog 187 #[.int .i64 x] w fun e w' => e = .returned (.bool false) ∧ w' = w := by
  go_enter Tryz.func187, Tryz.ntmps187
  go_wp2
  go_ret
  exact ⟨rfl, rfl⟩
theorem f174 (x y : Int) (w : World) : Calls Tryz.prog 174 #[.int .i64 x, .int .i64 y] w fun e w' => e = .returned (.int .i64 (cmpI x y)) ∧ w' = w := by
  unfold cmpI
  by_cases h1 : x < y
  · rw [if_pos h1]
    go_enter Tryz.func174, Tryz.ntmps174
    go_wp2_with (go_at_call 187; refine (f187 _ _).mono ?_; rintro e w' ⟨rfl, rfl⟩)
    go_ret
    exact ⟨rfl, rfl⟩
  · rw [if_neg h1]
    by_cases h2 : y < x
    · rw [if_pos h2]
      go_enter Tryz.func174, Tryz.ntmps174
      go_wp2_with (go_at_call 187; refine (f187 _ _).mono ?_; rintro e w' ⟨rfl, rfl⟩)
      go_ret
      exact ⟨rfl, rfl⟩
    · rw [if_neg h2]
      go_enter Tryz.func174, Tryz.ntmps174
      go_wp2_with (go_at_call 187; refine (f187 _ _).mono ?_; rintro e w' ⟨rfl, rfl⟩)
      go_ret
      exact ⟨rfl, rfl⟩
theorem f194 (s t y : Int) (w : World) : Calls Tryz.prog 194 #[.agg #[.int .i64 s, .int .i64 t], .int .i64 y] w fun e w' => e = .returned (.int .i64 (cmpI s y)) ∧ Below w.heap.size w w' := by
  have hb := hid ((Below.refl w.heap.size w).alloc (Nat.le_refl _) (.cells #[.int .i64 s, .int .i64 t] 119))
  go_enter Tryz.func194, Tryz.ntmps194
  go_wp2_with (go_at_call 174; refine (f174 _ _ _).mono ?_; rintro e w' ⟨rfl, rfl⟩)
  go_ret
  exact ⟨rfl, hb.out⟩

theorem cmpI_lt {x y : Int} : cmpI x y < 0 ↔ x < y := by
  unfold cmpI
  split
  · constructor <;> intro h <;> omega
  · split <;> constructor <;> intro h <;> omega
theorem cmpI_eq {x y : Int} : cmpI x y = 0 ↔ x = y := by
  unfold cmpI
  split
  · constructor <;> intro h <;> omega
  · split <;> constructor <;> intro h <;> omega

theorem rise_lt {ls : List Sm} (h : GoodP ls) : ∀ {i j : Nat}, i < j → j < ls.length → (ls.getD i e0).1 < (ls.getD j e0).1 := by
  intro i j
  induction j with
  | zero => intro h; omega
  | succ j ih =>
    intro hij hj
    have h1 := (h.2 (j + 1) hj).2 (by omega)
    rw [Nat.add_sub_cancel] at h1
    by_cases e : i = j
    · subst e; exact h1
    · have := ih (by omega) (by omega); omega
structure Place (ls : List Sm) (x : Int) (lo : Nat) : Prop where
  le : lo ≤ ls.length
  less : ∀ i, i < lo → (ls.getD i e0).1 < x
  geq : ∀ i, lo ≤ i → i < ls.length → x ≤ (ls.getD i e0).1
theorem ret_tup {i : Int} {a b : Bool} (h : a = b) : Ending.returned (.tuple #[.int .i64 i, .bool a]) = .returned (.tuple #[.int .i64 i, .bool b]) := by rw [h]

set_option maxHeartbeats 2000000 in
theorem f193 (a : Option Addr) (c : Nat) (ls : List Sm) (x : Int) (w : World) (hg : GoodP ls) (hr : HasS w a ls) :
    Calls Tryz.prog 193 #[.slice a ls.length c, .int .i64 x, .func (.func 194) #[] #[]] w fun e w' => ∃ lo : Nat, Place ls x lo ∧ e = .returned (.tuple #[.int .i64 lo, .bool (decide (lo < ls.length ∧ (ls.getD lo e0).1 = x))]) ∧ Below w.heap.size w w' := by
  have HG := hid hg
  have h20 := hg.1
  generalize hn : ls.length = n at *
  have HN := hid hn
  clear hn hg
  go_enter Tryz.func193, Tryz.ntmps193
  go_wp2
  go_loopw [9, 10] (fun si sj wr => ∃ (lo hi : Nat), lo ≤ hi ∧ hi ≤ n ∧ si = .int .i64 lo ∧ sj = .int .i64 hi ∧ Hid (∀ i, i < lo → (ls.getD i e0).1 < x) ∧ Hid (∀ i, hi ≤ i → i < n → x ≤ (ls.getD i e0).1) ∧ Below w.heap.size w wr) (fun si sj _ => (intOf sj).toNat - (intOf si).toNat)
  case atStart => exact ⟨0, n, Nat.zero_le _, Nat.le_refl _, rfl, rfl, fun i hi => by omega, fun i h1 h2 => by omega, Below.refl _ _⟩
  case round =>
    obtain ⟨lo, hi, hlh, hhn, rfl, rfl, hlow, hhigh, hnx⟩ := hrel
    have HX := hid hnx
    by_cases hlt : lo < hi
    · obtain ⟨h, hh⟩ : ∃ h, h = (lo + hi) / 2 := ⟨_, rfl⟩
      have hh1 : lo ≤ h := by omega
      have hh2 : h < hi := by omega
      have hh3 : ((lo : Int) + (hi : Int)) / 2 = (h : Int) := by omega
      have HHI := hid hh3
      clear hh hh3
      rcases hr with hr | ⟨b, off, rfl, hbl, hc⟩
      · exact absurd HN.out (by rw [hr]; simp; omega)
      obtain ⟨c0, c1⟩ := hc h (by rw [HN.out]; omega)
      have d0 := (hnx.cell (p := ⟨b, off + h * 2, none⟩) hbl).trans c0
      have d1 := (hnx.cell (p := ⟨b, off + h * 2 + 1, none⟩) hbl).trans c1
      have i1 : (h : Int) < (n : Int) := by omega
      have HLow : Hid ((ls.getD h e0).1 < x → ∀ i, i < h + 1 → (ls.getD i e0).1 < x) := by
        intro hx i hi
        by_cases e : i = h
        · subst e; exact hx
        · have := rise_lt HG.out (show i < h by omega) (by rw [HN.out]; omega); omega
      have HHigh : Hid (¬ (ls.getD h e0).1 < x → ∀ i, h ≤ i → i < n → x ≤ (ls.getD i e0).1) := by
        intro h1 i hi1 hi2
        by_cases e : i = h
        · subst e; omega
        · have := rise_lt HG.out (show h < i by omega) (by rw [HN.out]; omega); omega
      clear hc c0 c1 hnx
      generalize (ls.getD h e0).1 = s at *
      generalize (ls.getD h e0).2 = t at *
      by_cases h3 : s < x
      · have h4 := cmpI_lt.2 h3
        go_upto_region 5 with fail
        rw [HHI.out]
        go_wp2_with fail
        refine (f194 s t x _).mono ?_
        rintro e w2 ⟨rfl, hb2⟩
        have HX2 := hid (HX.out.trans (hb2.mono HX.out.size))
        clear hb2
        generalize cmpI s x = cc at *
        go_wp2
        go_roundw
        case rel => exact ⟨h + 1, hi, by omega, hhn, by go_num, rfl, HLow.out h3, hhigh, HX2.out⟩
        case measure => simp [intOf]; omega
      · have h4 : ¬ cmpI s x < 0 := fun h => h3 (cmpI_lt.1 h)
        go_upto_region 5 with fail
        rw [HHI.out]
        go_wp2_with fail
        refine (f194 s t x _).mono ?_
        rintro e w2 ⟨rfl, hb2⟩
        have HX2 := hid (HX.out.trans (hb2.mono HX.out.size))
        clear hb2
        generalize cmpI s x = cc at *
        go_wp2
        go_roundw
        case rel => exact ⟨lo, h, hh1, by omega, rfl, rfl, hlow, HHigh.out h3, HX2.out⟩
        case measure => simp [intOf]; omega
    · obtain rfl : lo = hi := by omega
      have HP : Hid (Place ls x lo) := ⟨by rw [HN.out]; exact hhn, hlow.out, fun i h1 h2 => hhigh.out i h1 (by rw [HN.out] at h2; exact h2)⟩
      by_cases hln : lo < n
      · rcases hr with hr | ⟨b, off, rfl, hbl, hc⟩
        · exact absurd HN.out (by rw [hr]; simp; omega)
        obtain ⟨c0, c1⟩ := hc lo (by rw [HN.out]; omega)
        have d0 := (hnx.cell (p := ⟨b, off + lo * 2, none⟩) hbl).trans c0
        have d1 := (hnx.cell (p := ⟨b, off + lo * 2 + 1, none⟩) hbl).trans c1
        have i1 : (lo : Int) < (n : Int) := by omega
        clear hc c0 c1 hnx
        have HD : Hid (decide (lo < n ∧ (ls.getD lo e0).1 = x) = (cmpI (ls.getD lo e0).1 x == 0)) := by
          unfold Hid; rw [Bool.eq_iff_iff]; simp [hln, cmpI_eq]
        generalize hs : (ls.getD lo e0).1 = s at *
        generalize (ls.getD lo e0).2 = t at *
        have HS1 := hid hs
        clear hlow hhigh hs
        go_wp2_with (go_at_call 194; refine (f194 s t x _).mono ?_; rintro e w2 ⟨rfl, hb2⟩)
        go_ret2
        exact ⟨lo, HP.out, ret_tup (by rw [HS1.out, HD.out]), HX.out.trans (hb2.mono HX.out.size)⟩
      · have i1 : ¬ (lo : Int) < (n : Int) := by omega
        clear hnx
        go_wp2
        go_ret2
        exact ⟨lo, HP.out, ret_tup (by rw [show decide (lo < n) = false from decide_eq_false (by omega)]; rfl), HX.out⟩

theorem f184 (a : Option Addr) (c : Nat) (ls : List Sm) (x : Int) (w : World) (hg : GoodP ls) (hr : HasS w a ls) :
    Calls Tryz.prog 184 #[.slice a ls.length c, .int .i64 x] w fun e w' => ∃ lo : Nat, Place ls x lo ∧ e = .returned (.tuple #[.int .i64 lo, .bool (decide (lo < ls.length ∧ (ls.getD lo e0).1 = x))]) ∧ Below w.heap.size w w' := by
  have HG := hid hg
  clear hg
  go_enter Tryz.func184, Tryz.ntmps184
  go_wp2_with fail
  refine (f193 a c ls x _ HG.out hr).mono ?_
  rintro e w1 ⟨lo, hp, rfl, hb⟩
  have HP := hid hp
  generalize hd : decide (lo < ls.length ∧ (ls.getD lo e0).1 = x) = d
  clear hp
  go_wp2
  go_ret2
  exact ⟨lo, HP.out, ret_tup hd.symm, hb⟩

def cut (ls : List Sm) (x y : Int) : List Sm := ls.filter fun p => decide (x ≤ p.1 ∧ p.1 ≤ y)
theorem filter_mid (P : Sm → Bool) : ∀ (ls : List Sm) (f e : Nat), (∀ i, i < ls.length → P (ls.getD i e0) = decide (f ≤ i ∧ i < e)) → ls.filter P = (ls.take e).drop f := by
  intro ls
  induction ls with
  | nil => intro f e _; simp
  | cons p L ih =>
    intro f e h
    have h0 := h 0 (by simp)
    have hs : ∀ i, i < L.length → P (L.getD i e0) = decide (f - 1 ≤ i ∧ i < e - 1) := by
      intro i hi
      have := h (i + 1) (by simp; omega)
      simp only [List.getD_cons_succ] at this
      rw [this, decide_eq_decide]
      omega
    have := ih (f - 1) (e - 1) hs
    simp only [List.getD_cons_zero] at h0
    cases e with
    | zero =>
      have h1 : P p = false := by rw [h0]; simp
      rw [List.filter_cons_of_neg (by simp [h1]), this]; simp
    | succ e =>
      cases f with
      | zero =>
        have h1 : P p = true := by rw [h0]; simp
        rw [List.filter_cons_of_pos h1, this]; simp
      | succ f =>
        have h1 : P p = false := by rw [h0]; simp
        rw [List.filter_cons_of_neg (by simp [h1]), this]; simp
def endAt (ls : List Sm) (x : Int) (lo : Nat) : Nat := if lo < ls.length ∧ (ls.getD lo e0).1 = x then lo + 1 else lo
theorem end_spec {ls : List Sm} {x : Int} {lo : Nat} (hg : GoodP ls) (h : Place ls x lo) : endAt ls x lo ≤ ls.length ∧ (∀ i, i < ls.length → (i < endAt ls x lo ↔ (ls.getD i e0).1 ≤ x)) := by
  unfold endAt
  split
  · rename_i hm
    refine ⟨by omega, fun i hi => ⟨fun h1 => ?_, fun h1 => ?_⟩⟩
    · by_cases e : i = lo
      · subst e; omega
      · have := h.less i (by omega); omega
    · by_cases e : i ≤ lo
      · omega
      · have := rise_lt hg (show lo < i by omega) hi; omega
  · rename_i hm
    refine ⟨h.le, fun i hi => ⟨fun h1 => ?_, fun h1 => ?_⟩⟩
    · have := h.less i h1; omega
    · by_cases e : i < lo
      · exact e
      · have h2 := h.geq i (by omega) hi
        have h3 := h.geq lo (by omega) (by omega)
        exfalso
        by_cases e2 : i = lo
        · subst e2; exact hm ⟨hi, by omega⟩
        · have := rise_lt hg (show lo < i by omega) hi; omega
theorem cut_mid {ls : List Sm} {x y : Int} {f lo : Nat} (hg : GoodP ls) (hf : Place ls x f) (hl : Place ls y lo) : cut ls x y = (ls.take (endAt ls y lo)).drop f := by
  refine filter_mid _ ls _ _ fun i hi => ?_
  rw [decide_eq_decide]
  have h1 := (end_spec hg hl).2 i hi
  have h2 : f ≤ i ↔ x ≤ (ls.getD i e0).1 := ⟨fun h => hf.geq i h hi, fun h => by
    by_cases e : i < f
    · have := hf.less i e; omega
    · omega⟩
  rw [h1, h2]

def Piece (w : World) (L : List Sm) (v : Value) : Prop := (L = [] ∧ v = .slice none 0 0) ∨ (0 < L.length ∧ ∃ b off, v = .slice (some ⟨b, off, none⟩) L.length L.length ∧ HasS w (some ⟨b, off, none⟩) L)

theorem has_mid {w : World} {b off f e : Nat} {ls : List Sm} (h : HasS w (some ⟨b, off, none⟩) ls) (he : e ≤ ls.length) : HasS w (some ⟨b, off + f * 2, none⟩) ((ls.take e).drop f) := by
  by_cases hz : e ≤ f
  · exact .inl (List.eq_nil_of_length_eq_zero (by simp; omega))
  rcases h with h | ⟨b', off', hbo, hb, hc⟩
  · rw [h] at he; simp at he; omega
  · simp only [Option.some.injEq, Addr.mk.injEq, and_true] at hbo
    obtain ⟨rfl, rfl⟩ := hbo
    refine .inr ⟨b, off + f * 2, rfl, hb, fun i hi => ?_⟩
    have hi' : f + i < e := by simp at hi; omega
    have h1 : ((ls.take e).drop f).getD i e0 = ls.getD (f + i) e0 := by
      simp only [List.getD_eq_getElem?_getD, List.getElem?_drop, List.getElem?_take, hi', if_true]
    rw [h1, show off + f * 2 + i * 2 = off + (f + i) * 2 from by omega]
    exact hc (f + i) (by omega)

set_option maxHeartbeats 2000000 in
theorem f158 (a : Option Addr) (c : Nat) (ls : List Sm) (x y : Int) (w : World) (hg : GoodP ls) (hr : HasS w a ls) (hc : ls.length ≤ c) :
    Calls Tryz.prog 158 #[.slice a ls.length c, .int .i64 x, .int .i64 y] w fun e w' => ∃ v, e = .returned v ∧ Piece w' (cut ls x y) v ∧ Below w.heap.size w w' := by
  have HG := hid hg
  have h20 := hg.1
  have HR := hid hr
  clear hg hr
  go_enter Tryz.func158, Tryz.ntmps158
  go_wp2_with fail
  refine (f184 a c ls x _ HG.out HR.out).mono ?_
  rintro e w1 ⟨f, hp, rfl, hb1⟩
  have HP := hid hp
  have HB1 := hid hb1
  have hfl := hp.le
  clear hp hb1
  generalize decide (f < ls.length ∧ (ls.getD f e0).1 = x) = d
  go_wp2_with fail
  refine (f184 a c ls y _ HG.out (HR.out.below HB1.out)).mono ?_
  rintro e w2 ⟨lo, hp, rfl, hb2⟩
  have HQ := hid hp
  have HB2 := hid (HB1.out.trans (hb2.mono HB1.out.size))
  have hll := hp.le
  have HE := hid (end_spec HG.out hp)
  have HCM := hid (cut_mid HG.out HP.out hp)
  clear hp hb2
  have HR2 := hid (HR.out.below HB2.out)
  have hle := HE.out.1
  by_cases hm : lo < ls.length ∧ (ls.getD lo e0).1 = y
  · have hd := decide_eq_true hm
    have hea : endAt ls y lo = lo + 1 := if_pos hm
    rw [hea] at hle
    have HEA := hid hea
    rw [hd]
    clear hea hm hd
    by_cases hfe : lo + 1 ≤ f
    · go_wp2
      go_ret
      refine ⟨_, rfl, .inl ⟨?_, rfl⟩, HB2.out⟩
      rw [HCM.out, HEA.out]; exact List.eq_nil_of_length_eq_zero (by simp; omega)
    · obtain ⟨b, off, rfl⟩ : ∃ b off, a = some ⟨b, off, none⟩ := by
        rcases HR.out with h | ⟨b, off, h, _⟩
        · rw [h] at hle; simp at hle
        · exact ⟨b, off, h⟩
      have HL : Hid ((cut ls x y).length = lo + 1 - f) := by unfold Hid; rw [HCM.out, HEA.out]; simp; omega
      go_wp2
      go_ret
      refine ⟨_, rfl, .inr ⟨by rw [HL.out]; omega, b, off + f * 2, ?_, ?_⟩, HB2.out⟩
      · rw [HL.out]; rfl
      · rw [HCM.out, HEA.out]; exact has_mid HR2.out hle
  · have hd := decide_eq_false hm
    have hea : endAt ls y lo = lo := if_neg hm
    have HEA := hid hea
    rw [hd]
    clear hea hm hd
    by_cases hfe : lo ≤ f
    · go_wp2
      go_ret
      refine ⟨_, rfl, .inl ⟨?_, rfl⟩, HB2.out⟩
      rw [HCM.out, HEA.out]; exact List.eq_nil_of_length_eq_zero (by simp; omega)
    · obtain ⟨b, off, rfl⟩ : ∃ b off, a = some ⟨b, off, none⟩ := by
        rcases HR.out with h | ⟨b, off, h, _⟩
        · rw [h] at hll; simp at hll; omega
        · exact ⟨b, off, h⟩
      have HL : Hid ((cut ls x y).length = lo - f) := by unfold Hid; rw [HCM.out, HEA.out]; simp; omega
      go_wp2
      go_ret
      refine ⟨_, rfl, .inr ⟨by rw [HL.out]; omega, b, off + f * 2, ?_, ?_⟩, HB2.out⟩
      · rw [HL.out]; rfl
      · rw [HCM.out, HEA.out]; exact has_mid HR2.out hll
end Go.Proofs.YtjhdmghpklagkaaGreat.Smp
namespace Go.Proofs.YtjhdmghpklagkaaGreat.Smp
open Go.RowKit

theorem two0 {w : World} {b t : Nat} {x y : Value} {q : Nat × Nat} (h : w.heap[b]? = some (.cells #[x, y] t q)) : w.cell? ⟨b, 0, none⟩ = some x := by
  unfold World.cell?; simp only [h]; rfl
theorem two1 {w : World} {b t : Nat} {x y : Value} {q : Nat × Nat} (h : w.heap[b]? = some (.cells #[x, y] t q)) : w.cell? ⟨b, 1, none⟩ = some y := by
  unfold World.cell?; simp only [h]; rfl
theorem two_new (w : World) (x y : Value) (t : TypeId) : ∀ j u, [x, y][j]? = some u → (w.alloc (.cells #[x, y] t)).cell? ((⟨w.heap.size, 0, none⟩ : Addr).add j) = some u := by
  intro j u hj
  have h := heap_alloc_new w (.cells #[x, y] t)
  match j, hj with
  | 0, hj =>
    simp at hj; subst hj
    have : (⟨w.heap.size, 0, none⟩ : Addr).add 0 = ⟨w.heap.size, 0, none⟩ := by simp [Addr.add]
    rw [this]; exact two0 h
  | 1, hj =>
    simp at hj; subst hj
    have : (⟨w.heap.size, 0, none⟩ : Addr).add 1 = ⟨w.heap.size, 1, none⟩ := by simp [Addr.add]
    rw [this]; exact two1 h
  | j + 2, hj => simp at hj
theorem own_form {w : World} {base e size n : Nat} {v : Value} {xs : List Value} (h : w.ownsRow base e size v n xs) : ∃ a c, v = .slice a n c := by
  rcases h.2 with ⟨h1, h2⟩ | ⟨g, cap, cur, h1, _⟩
  · subst h2; exact ⟨none, 0, h1⟩
  · exact ⟨_, _, h1⟩
def Own (w : World) (base : Nat) (v : Value) (L : List Sm) : Prop := w.ownsRow base 119 2 v L.length (flat L)
theorem Own.nil (w : World) (base : Nat) : Own w base (.slice none 0 0) [] := World.ownsRow_nil w base 119 2
theorem Own.below {w w' : World} {base : Nat} {v : Value} {L : List Sm} (h : Own w base v L) (hb : Below w.heap.size w w') : Own w' base v L := own_below h hb
theorem cut_yes {ls : List Sm} {x y : Int} {k : Nat} (hk : k < ls.length) (h1 : x ≤ (ls.getD k e0).1) (h2 : (ls.getD k e0).1 ≤ y) : cut (ls.take (k + 1)) x y = cut (ls.take k) x y ++ [ls.getD k e0] := by
  have e : ls.getD k e0 = ls[k] := by simp [hk]
  rw [e] at h1 h2 ⊢
  unfold cut
  rw [List.take_succ_eq_append_getElem hk, List.filter_append]
  simp [h1, h2]
theorem cut_no {ls : List Sm} {x y : Int} {k : Nat} (hk : k < ls.length) (h : ¬ (x ≤ (ls.getD k e0).1 ∧ (ls.getD k e0).1 ≤ y)) : cut (ls.take (k + 1)) x y = cut (ls.take k) x y := by
  have e : ls.getD k e0 = ls[k] := by simp [hk]
  rw [e] at h
  unfold cut
  rw [List.take_succ_eq_append_getElem hk, List.filter_append]
  simp
  omega
theorem cut_len (ls : List Sm) (x y : Int) : (cut ls x y).length ≤ ls.length := List.length_filter_le _ _
theorem cut_take_len (ls : List Sm) (x y : Int) (k : Nat) : (cut (ls.take k) x y).length ≤ k := Nat.le_trans (cut_len _ _ _) (by simp; omega)
theorem cut_all {ls : List Sm} {x y : Int} {k : Nat} (hk : ls.length ≤ k) : cut (ls.take k) x y = cut ls x y := by rw [List.take_of_length_le hk]

set_option maxHeartbeats 2000000 in
theorem f148 (a : Option Addr) (c : Nat) (ls : List Sm) (x y : Int) (w : World) (h20 : ls.length ≤ 1048576) (hr : HasS w a ls) :
    Calls Tryz.prog 148 #[.slice a ls.length c, .int .i64 x, .int .i64 y] w fun e w' => ∃ v, e = .returned v ∧ Own w' w.heap.size v (cut ls x y) ∧ Below w.heap.size w w' := by
  obtain ⟨i0, hi, hz0, hz1, hz2⟩ := info_parts infoS
  generalize hn : ls.length = n at *
  have HN := hid hn
  clear hn
  go_enter Tryz.func148, Tryz.ntmps148
  go_wp2
  go_loopw [7, 12] (fun so si wr => ∃ (k : Nat), k ≤ n ∧ si = .int .i64 k ∧ Own wr w.heap.size so (cut (ls.take k) x y) ∧ Below w.heap.size w wr) (fun _ si _ => n - (intOf si).toNat)
  case atStart => exact ⟨0, Nat.zero_le _, rfl, Own.nil _ _, Below.refl _ _⟩
  case round =>
    obtain ⟨k, hk, rfl, hown, hnx⟩ := hrel
    have HX := hid hnx
    have HO := hid hown
    obtain ⟨ao, co, rfl⟩ := own_form hown
    have hcl := cut_take_len ls x y k
    by_cases hlt : k < n
    · rcases hr with hr | ⟨bb, off, rfl, hbl, hc⟩
      · exact absurd HN.out (by rw [hr]; simp; omega)
      obtain ⟨c0, c1'⟩ := hc k (by rw [HN.out]; exact hlt)
      have d0 := (hnx.cell (p := ⟨bb, off + k * 2, none⟩) hbl).trans c0
      have d1 := (hnx.cell (p := ⟨bb, off + k * 2 + 1, none⟩) hbl).trans c1'
      have HY := hid (cut_yes (x := x) (y := y) (k := k) (by rw [HN.out]; exact hlt))
      have HZ := hid (cut_no (x := x) (y := y) (k := k) (by rw [HN.out]; exact hlt))
      clear hc c0 c1' hnx hown
      have HP : Hid (ls.getD k e0 = ((ls.getD k e0).1, (ls.getD k e0).2)) := rfl
      generalize hp : ls.getD k e0 = p at *
      obtain ⟨s, t⟩ := p
      clear hp HP
      simp only at d0 d1 HY HZ
      by_cases h1 : x ≤ s
      · by_cases h2 : s ≤ y
        · generalize cut (ls.take k) x y = K at *
          go_wp2_with (at_builtin; refine wpList_append_own _ rfl (.tmp 26) (.tmp 28) 78 rfl w.heap.size 119 i0 (.agg #[.int .i64 0, .int .i64 0]) 2 16 Tryz.underlying78 hi hz0 hz1 hz2 rfl (by decide) _ _ _ rfl ((World.ownsRow.alloc HO.out _).alloc _) ⟨wr.heap.size + 1, 0, none⟩ 1 1 [.int .i64 s, .int .i64 t] rfl rfl ?d1 ?d2 ?d3 ?d4 ?d5 ?_)
          case d1 =>
            have := two_new (wr.alloc (.cells #[.int .i64 s, .int .i64 t] 119)) (.int .i64 s) (.int .i64 t) 119
            simp only [World.size_alloc] at this
            exact this
          case d2 => intro u hu; simp at hu; rcases hu with rfl | rfl <;> rfl
          case d3 => unfold maxLen; omega
          case d4 => omega
          case d5 => have := HX.out.size; simp; omega
          intro v1 w3 hown1 hgr1 _
          have HO2 : Hid (Own w3 w.heap.size v1 (cut (ls.take (k + 1)) x y)) := by unfold Hid Own; rw [HY.out h1 h2, flat_append, List.length_append]; exact hown1
          have HX2 := hid ((((HX.out.alloc HX.out.size (.cells #[.int .i64 s, .int .i64 t] 119)).alloc (by have := HX.out.size; simp; omega) (.cells #[.int .i64 s, .int .i64 t] 119))).grown hgr1 (by have := HX.out.size; simp; omega) (fun k hk => (World.ownsRow.lt HO.out k hk).1))
          clear hown1 hgr1
          go_wp2
          go_roundw
          case rel => exact ⟨k + 1, by omega, by go_num, HO2.out, HX2.out⟩
          case measure => simp [intOf]; omega
        · go_wp2
          go_roundw
          case rel => exact ⟨k + 1, by omega, by go_num, by rw [HZ.out (by omega)]; exact World.ownsRow.alloc HO.out _, HX.out.alloc HX.out.size _⟩
          case measure => simp [intOf]; omega
      · go_wp2
        go_roundw
        case rel => exact ⟨k + 1, by omega, by go_num, by rw [HZ.out (by omega)]; exact World.ownsRow.alloc HO.out _, HX.out.alloc HX.out.size _⟩
        case measure => simp [intOf]; omega
    · go_wp2
      go_ret
      exact ⟨_, rfl, by rw [← cut_all (ls := ls) (k := k) (by rw [HN.out]; omega)]; exact HO.out, HX.out⟩

theorem flat_cells {w : World} {b off : Nat} {L : List Sm} (hr : HasS w (some ⟨b, off, none⟩) L) : ∀ j u, (flat L)[j]? = some u → w.cell? ((⟨b, off, none⟩ : Addr).add j) = some u := by
  intro j u hj
  have hjl : j < L.length * 2 := by
    have := (List.getElem?_eq_some_iff.1 hj).1
    rw [flat_len] at this; exact this
  rcases hr with h | ⟨b', off', hbo, hb, hc⟩
  · rw [h] at hjl; simp at hjl
  · simp only [Option.some.injEq, Addr.mk.injEq, and_true] at hbo
    obtain ⟨rfl, rfl⟩ := hbo
    obtain ⟨i, hi⟩ : ∃ i, i = j / 2 := ⟨_, rfl⟩
    obtain ⟨g0, g1⟩ := flat_get L i (by omega)
    obtain ⟨c0, c1⟩ := hc i (by omega)
    rw [add_none]
    rcases (show j = i * 2 ∨ j = i * 2 + 1 by omega) with h | h
    · subst h
      rw [c0, ← g0]; exact hj
    · subst h
      rw [show off + (i * 2 + 1) = off + i * 2 + 1 from by omega, c1, ← g1]; exact hj
theorem flat_oneCell (L : List Sm) : ∀ u ∈ flat L, u.oneCell' = true := by
  intro u hu
  unfold flat at hu
  simp only [List.mem_flatMap] at hu
  obtain ⟨p, _, hu⟩ := hu
  simp at hu
  rcases hu with rfl | rfl <;> rfl
theorem eqNil (w : World) (a : Option Addr) (l c : Nat) : (binOp .eql 78 (.slice a l c) (.slice none 0 0)).run Tryz.prog w = .ok (.bool a.isNone) w := Go.run_eql_slice_nil w _ _ a l c Tryz.underlying78

set_option maxHeartbeats 2000000 in
theorem f149 (L : List Sm) (v : Value) (w : World) (h20 : L.length ≤ 1048576) (hp : Piece w L v) :
    Calls Tryz.prog 149 #[v] w fun e w' => ∃ v', e = .returned v' ∧ Own w' w.heap.size v' L ∧ Below w.heap.size w w' := by
  obtain ⟨i0, hi, hz0, hz1, hz2⟩ := info_parts infoS
  have q := eqNil
  rcases hp with ⟨rfl, rfl⟩ | ⟨hpos, b, off, rfl, hr⟩
  · go_enter Tryz.func149, Tryz.ntmps149
    go_wp2
    go_ret
    exact ⟨_, rfl, Own.nil _ _, Below.refl _ _⟩
  · have HN := hid (flat_cells (hr.alloc (.cells #[] 119)))
    have H1 := hid (flat_oneCell L)
    clear hr
    go_enter Tryz.func149, Tryz.ntmps149
    go_wp2_with (at_builtin; refine wpList_append_own _ rfl (.tmp 5) (.tmp 6) 78 rfl w.heap.size 119 i0 (.agg #[.int .i64 0, .int .i64 0]) 2 16 Tryz.underlying78 hi hz0 hz1 hz2 rfl (by decide) _ _ _ rfl (World.ownsRow_made w #[] 0 (Nat.le_refl _) (Nat.zero_le _) rfl) ⟨b, off, none⟩ L.length L.length (flat L) rfl (flat_len L) HN.out H1.out ?d3 ?d4 ?d5 ?_)
    case d3 => unfold maxLen; omega
    case d4 => omega
    case d5 => simp
    intro v1 w3 hown1 hgr1 _
    go_wp2
    go_ret
    refine ⟨v1, rfl, ?_, ?_⟩
    · unfold Own; simpa using hown1
    · exact ((Below.refl _ w).alloc (Nat.le_refl _) _).grown hgr1 (by simp) (by intro k hk; simp [Value.ownBlock] at hk; omega)

end Go.Proofs.YtjhdmghpklagkaaGreat.Smp
