/- The order of texts: total, and what rises rises throughout. -/
import Derived.Test.YtcknlidbjnmbjaaGreatDoorRGL
import Derived.Test.YtcknlidbjnmbjaaGreatDoorRCL
namespace Go.Proofs.YtcknlidbjnmbjaaGreatDoor.Lab
open Go.RowKit Go.Proofs.YtcknlidbjnmbjaaGreatDoor.Str Go.Lib

theorem cb_cons (x y : UInt8) (a b : List UInt8) : compareBytes (x :: a) (y :: b) = if x.toNat < y.toNat then -1 else if y.toNat < x.toNat then 1 else compareBytes a b := by
  conv => lhs; unfold compareBytes
  simp only [UInt8.lt_iff_toNat_lt]
theorem cb_neg : ∀ (a b : List UInt8), compareBytes b a = - compareBytes a b := by
  intro a
  induction a with
  | nil => intro b; cases b <;> simp [compareBytes]
  | cons x a ih =>
    intro b
    cases b with
    | nil => simp [compareBytes]
    | cons y b =>
      rw [cb_cons, cb_cons, ih b]
      split
      · rw [if_neg (by omega)]
      · split
        · rfl
        · rfl
theorem cb_zero : ∀ (a b : List UInt8), compareBytes a b = 0 → a = b := by
  intro a
  induction a with
  | nil => intro b h; cases b with
    | nil => rfl
    | cons y b => simp [compareBytes] at h
  | cons x a ih =>
    intro b h
    cases b with
    | nil => simp [compareBytes] at h
    | cons y b =>
      rw [cb_cons] at h
      split at h
      · omega
      · split at h
        · omega
        · rw [ih b h, UInt8.toNat_inj.1 (show x.toNat = y.toNat by omega)]
theorem cb_self (a : List UInt8) : compareBytes a a = 0 := by
  induction a with
  | nil => rfl
  | cons x a ih => rw [cb_cons, if_neg (by omega), if_neg (by omega), ih]
theorem cb_trans : ∀ (a b c : List UInt8), compareBytes a b < 0 → compareBytes b c < 0 → compareBytes a c < 0 := by
  intro a
  induction a with
  | nil =>
    intro b c h1 h2
    cases c with
    | nil =>
      cases b with
      | nil => simp [compareBytes] at h1
      | cons y b => simp [compareBytes] at h2
    | cons z c => simp [compareBytes]
  | cons x a ih =>
    intro b c h1 h2
    cases b with
    | nil => simp [compareBytes] at h1
    | cons y b =>
      cases c with
      | nil => simp [compareBytes] at h2
      | cons z c =>
        rw [cb_cons] at h1 h2 ⊢
        by_cases e1 : x.toNat < z.toNat
        · rw [if_pos e1]; omega
        · rw [if_neg e1]
          by_cases f1 : x.toNat < y.toNat
          · rw [if_neg (by omega), if_pos (by omega)] at h2
            omega
          · rw [if_neg f1] at h1
            by_cases f2 : y.toNat < x.toNat
            · rw [if_pos f2] at h1; omega
            · rw [if_neg f2] at h1
              by_cases g1 : y.toNat < z.toNat
              · omega
              · rw [if_neg g1] at h2
                by_cases g2 : z.toNat < y.toNat
                · rw [if_pos g2] at h2; omega
                · rw [if_neg g2] at h2
                  rw [if_neg (by omega)]
                  exact ih b c h1 h2

theorem cmpN_trans {p q r : Lb} (h1 : cmpN p q < 0) (h2 : cmpN q r < 0) : cmpN p r < 0 := cb_trans _ _ _ h1 h2
theorem cmpN_neg (p q : Lb) : cmpN q p = - cmpN p q := cb_neg _ _
theorem cmpN_zero {p q : Lb} (h : cmpN p q = 0) : p.1 = q.1 := by
  have := cb_zero _ _ h
  have e : p.1.data = q.1.data := Array.toList_inj.1 this
  cases hp : p.1; cases hq : q.1; rw [hp, hq] at e; simpa using e
theorem cmpN_eq {p q : Lb} (h : p.1 = q.1) : cmpN p q = 0 := by unfold cmpN; rw [h]; exact cb_self _

theorem rise_all {ls : List Lb} (h : GoodP ls) : ∀ (d i : Nat), i + d + 1 < ls.length → cmpN (ls.getD i e0) (ls.getD (i + d + 1) e0) < 0 := by
  intro d
  induction d with
  | zero => intro i hi; exact (h.2 (i + 1) hi).2 (by omega)
  | succ d ih =>
    intro i hi
    exact cmpN_trans (ih i (by omega)) ((h.2 (i + (d + 1) + 1) hi).2 (by omega))
theorem rise_lt {ls : List Lb} (h : GoodP ls) {i j : Nat} (hij : i < j) (hj : j < ls.length) : cmpN (ls.getD i e0) (ls.getD j e0) < 0 := by
  have := rise_all h (j - i - 1) i (by omega)
  rwa [show i + (j - i - 1) + 1 = j from by omega] at this
end Go.Proofs.YtcknlidbjnmbjaaGreatDoor.Lab
/- Where a name stands in good labels: the binary search. -/
namespace Go.Proofs.YtcknlidbjnmbjaaGreatDoor.Lab
open Go.RowKit Go.Proofs.YtcknlidbjnmbjaaGreatDoor.Str

theorem ret_tup {i : Int} {a b : Bool} (h : a = b) : Ending.returned (.tuple #[.int .i64 i, .bool a]) = .returned (.tuple #[.int .i64 i, .bool b]) := by rw [h]
/-- lo is where x stands, or is to stand. -/
structure Place (ls : List Lb) (x : Lb) (lo : Nat) : Prop where
  le : lo ≤ ls.length
  less : ∀ i, i < lo → cmpN (ls.getD i e0) x < 0
  geq : lo < ls.length → 0 ≤ cmpN (ls.getD lo e0) x

abbrev TT (w : World) (b off lo : Nat) (p x : Lb) (w' : World) : Prop :=
  w'.cell? ⟨b, off + lo * 2, none⟩ = some (.string p.1) ∧ w'.cell? ⟨b, off + lo * 2 + 1, none⟩ = some (.string p.2) ∧ w'.cell? ⟨w.heap.size, 0, none⟩ = some (.string x.1) ∧ w'.cell? ⟨w.heap.size, 1, none⟩ = some (.string x.2) ∧ Below w.heap.size w w' ∧ b < w'.heap.size
theorem TT.below {w W W' : World} {b off lo : Nat} {p x : Lb} (h : TT w b off lo p x W) (hb : Below W.heap.size W W') : TT w b off lo p x W' := by
  obtain ⟨h1, h2, h3, h4, h5, h6⟩ := h
  have l := World.block_lt_of_cell? W _ h3
  exact ⟨(hb.cell (p := ⟨b, off + lo * 2, none⟩) h6).trans h1, (hb.cell (p := ⟨b, off + lo * 2 + 1, none⟩) h6).trans h2, (hb.cell (p := ⟨w.heap.size, 0, none⟩) l).trans h3, (hb.cell (p := ⟨w.heap.size, 1, none⟩) l).trans h4, h5.trans (hb.mono h5.size), Nat.lt_of_lt_of_le h6 hb.size⟩
theorem TT.drew {w W : World} {b off lo : Nat} {p x : Lb} (h : TT w b off lo p x W) : TT w b off lo p x W.drew := ⟨h.1, h.2.1, h.2.2.1, h.2.2.2.1, h.2.2.2.2.1.drew, h.2.2.2.2.2⟩

set_option maxHeartbeats 2000000 in
theorem f62 (a : Option Addr) (n c : Nat) (ls : List Lb) (x : Lb) (w : World) (hn : ls.length = n) (hg : GoodP ls) (hr : HasL w a ls) :
    Calls Tryz.prog 62 #[.slice a n c, .agg #[.string x.1, .string x.2], .func (.func 43) #[] #[]] w fun e w' => ∃ lo : Nat, Place ls x lo ∧ e = .returned (.tuple #[.int .i64 lo, .bool (decide (lo < n ∧ cmpN (ls.getD lo e0) x = 0))]) ∧ Below w.heap.size w w' := by
  have HN := hid hn
  have h20 : n ≤ 20 := by have := hg.1; omega
  have HG := hid hg
  have HX0 := hid ((Below.refl w.heap.size w).alloc (Nat.le_refl _) (.cells #[.string x.1, .string x.2] 48))
  have HB0 := hid (heap_alloc_new w (.cells #[.string x.1, .string x.2] 48))
  clear hn hg
  go_enter Tryz.func62, Tryz.ntmps62
  go_wp2
  go_loopw [9, 10] (fun si sj wr => ∃ (lo hi : Nat), lo ≤ hi ∧ hi ≤ n ∧ si = .int .i64 lo ∧ sj = .int .i64 hi ∧ Hid (∀ i, i < lo → cmpN (ls.getD i e0) x < 0) ∧ Hid (hi < n → 0 ≤ cmpN (ls.getD hi e0) x) ∧ wr.heap[w.heap.size]? = some (.cells #[.string x.1, .string x.2] 48 (0, 0)) ∧ Below w.heap.size w wr) (fun si sj _ => (intOf sj).toNat - (intOf si).toNat)
  case atStart => exact ⟨0, n, Nat.zero_le _, Nat.le_refl _, rfl, rfl, fun i hi => by omega, fun h => by omega, HB0.out, HX0.out⟩
  case round =>
    obtain ⟨lo, hi, hlh, hhn, rfl, rfl, hlow, hhigh, hbx, hnx⟩ := hrel
    have HX := hid hnx
    have HBX := hid hbx
    have x0 := two0 hbx
    have x1 := two1 hbx
    have lx := lt_block hbx
    by_cases hlt : lo < hi
    · obtain ⟨h, hh⟩ : ∃ h, h = (lo + hi) / 2 := ⟨_, rfl⟩
      have hh1 : lo ≤ h := by omega
      have hh2 : h < hi := by omega
      have hh3 : ((lo : Int) + (hi : Int)) / 2 = (h : Int) := by omega
      have HHI := hid hh3
      clear hh hh3
      rcases hr with hr | ⟨b, off, rfl, hbl, hc⟩
      · exact absurd HN.out (by rw [hr]; simp; omega)
      obtain ⟨c0, c1⟩ := hc h (by rw [HN.out]; omega)
      have d0 := (hnx.cell (p := ⟨b, off + h * 2, none⟩) hbl).trans c0
      have d1 := (hnx.cell (p := ⟨b, off + h * 2 + 1, none⟩) hbl).trans c1
      have i1 : (h : Int) < (n : Int) := by omega
      have HLow : Hid (cmpN (ls.getD h e0) x < 0 → ∀ i, i < h + 1 → cmpN (ls.getD i e0) x < 0) := by
        intro hx i hi
        by_cases e : i = h
        · subst e; exact hx
        · exact cmpN_trans (rise_lt HG.out (show i < h by omega) (by rw [HN.out]; omega)) hx
      have HHigh : Hid (¬ cmpN (ls.getD h e0) x < 0 → h < n → 0 ≤ cmpN (ls.getD h e0) x) := fun h1 _ => by omega
      clear hc c0 c1 hnx hbx
      generalize hp : ls.getD h e0 = p at *
      by_cases h3 : cmpN p x < 0
      · go_wp2_with fail
        rw [HHI.out]
        go_region_with (go_at_call 43; refine (f43 p x _).mono ?_; rintro e w2 ⟨rfl, hb2⟩)
        all_goals
          have HX2 := hid (HX.out.trans ((below_undrew hb2).mono HX.out.size))
          have HBX2 := hid (box_below HBX.out (below_undrew hb2))
          clear hb2
          go_wp2
          go_roundw
          case rel => exact ⟨h + 1, hi, by omega, hhn, by go_num, rfl, HLow.out h3, hhigh, HBX2.out, HX2.out⟩
          case measure => simp [intOf]; omega
      · go_wp2_with fail
        rw [HHI.out]
        go_region_with (go_at_call 43; refine (f43 p x _).mono ?_; rintro e w2 ⟨rfl, hb2⟩)
        all_goals
          have HX2 := hid (HX.out.trans ((below_undrew hb2).mono HX.out.size))
          have HBX2 := hid (box_below HBX.out (below_undrew hb2))
          clear hb2
          go_wp2
          go_roundw
          case rel => exact ⟨lo, h, hh1, by omega, rfl, by go_num, hlow, by unfold Hid; rw [hp]; exact HHigh.out (by omega), HBX2.out, HX2.out⟩
          case measure => simp [intOf]; omega
    · obtain rfl : lo = hi := by omega
      have HP : Hid (Place ls x lo) := ⟨by rw [HN.out]; exact hhn, hlow.out, fun h => hhigh.out (by rw [HN.out] at h; exact h)⟩
      by_cases hln : lo < n
      · rcases hr with hr | ⟨b, off, rfl, hbl, hc⟩
        · exact absurd HN.out (by rw [hr]; simp; omega)
        obtain ⟨c0, c1⟩ := hc lo (by rw [HN.out]; omega)
        have d0 := (hnx.cell (p := ⟨b, off + lo * 2, none⟩) hbl).trans c0
        have d1 := (hnx.cell (p := ⟨b, off + lo * 2 + 1, none⟩) hbl).trans c1
        have i1 : (lo : Int) < (n : Int) := by omega
        clear hc c0 c1 hnx hbx
        have HD : Hid (decide (lo < n ∧ cmpN (ls.getD lo e0) x = 0) = (cmpN (ls.getD lo e0) x == 0)) := by
          unfold Hid; rw [Bool.eq_iff_iff]; simp [hln]
        generalize hp : ls.getD lo e0 = p at *
        have HS : Hid (TT w b off lo p x wr) := ⟨d0, d1, x0, x1, HX.out, Nat.lt_of_lt_of_le hbl HX.out.size⟩
        clear d0 d1 x0 x1 hlow hhigh
        go_wp2_with fail
        go_region_held3 (fun w' => TT w b off lo p x w') (first | exact HS.out.drew | assumption) (first | (go_at_call 43; refine (f43 p x _).mono ?_; rintro e w2 ⟨rfl, hb2⟩; have hs2 := TT.below (by assumption) hb2; clear hb2))
        go_wp2
        go_ret2
        exact ⟨lo, HP.out, ret_tup (by rw [hp, HD.out]), hs2.2.2.2.2.1⟩
      · have HD : Hid (decide (lo < n ∧ cmpN (ls.getD lo e0) x = 0) = false) := by
          unfold Hid; rw [decide_eq_false_iff_not]; intro h; exact hln h.1
        have i1 : ¬ (lo : Int) < (n : Int) := by omega
        clear hnx hbx
        go_wp2_with fail
        go_quiet (fail)
        go_wp2
        go_ret2
        exact ⟨lo, HP.out, ret_tup HD.out.symm, below_drewN HX.out _⟩

theorem f44 (a : Option Addr) (n c : Nat) (ls : List Lb) (x : ByteArray) (w : World) (hn : ls.length = n) (hg : GoodP ls) (hr : HasL w a ls) :
    Calls Tryz.prog 44 #[.slice a n c, .string x] w fun e w' => ∃ lo : Nat, Place ls (x, ByteArray.empty) lo ∧ e = .returned (.tuple #[.int .i64 lo, .bool (decide (lo < n ∧ cmpN (ls.getD lo e0) (x, ByteArray.empty) = 0))]) ∧ Below w.heap.size w w' := by
  have HN := hid hn
  have HG := hid hg
  clear hn hg
  go_enter Tryz.func44, Tryz.ntmps44
  go_wp2_with fail
  refine (f62 a n c ls (x, ByteArray.empty) _ HN.out HG.out hr).mono ?_
  rintro e w1 ⟨lo, hp, rfl, hb⟩
  have HP := hid hp
  generalize hd : decide (lo < n ∧ cmpN (ls.getD lo e0) (x, ByteArray.empty) = 0) = d
  clear hp
  go_wp2
  go_ret2
  exact ⟨lo, HP.out, ret_tup hd.symm, hb⟩
end Go.Proofs.YtcknlidbjnmbjaaGreatDoor.Lab
/- The value under a name: both ValueOf. -/
namespace Go.Proofs.YtcknlidbjnmbjaaGreatDoor.Lab
open Go.RowKit Go.Proofs.YtcknlidbjnmbjaaGreatDoor.Str

theorem ret_str {a b : ByteArray} (h : a = b) : Ending.returned (.string a) = .returned (.string b) := by rw [h]
theorem str_eq {a b : ByteArray} (h : a = b) : (a.toList == b.toList) = true := by rw [h]; simp
theorem str_ne {a b : ByteArray} (h : a ≠ b) : (a.toList == b.toList) = false := by
  rw [beq_eq_false_iff_ne]
  intro e
  rw [ByteArray.toList_eq, ByteArray.toList_eq] at e
  exact h (WideShapes.bytes_inj e)
/-- v is the value of the first label with the name x, empty where there is none. -/
def OfV (ls : List Lb) (x v : ByteArray) : Prop :=
  (∃ k, k < ls.length ∧ (ls.getD k e0).1 = x ∧ (ls.getD k e0).2 = v ∧ ∀ i, i < k → (ls.getD i e0).1 ≠ x) ∨ ((∀ k, k < ls.length → (ls.getD k e0).1 ≠ x) ∧ v = ByteArray.empty)
theorem OfV.uniq {ls : List Lb} {x v v' : ByteArray} (h : OfV ls x v) (h' : OfV ls x v') : v = v' := by
  rcases h with ⟨k, hk, h1, h2, h3⟩ | ⟨h1, h2⟩
  · rcases h' with ⟨k', hk', h1', h2', h3'⟩ | ⟨h1', _⟩
    · have e : k = k' := by
        rcases Nat.lt_trichotomy k k' with h | h | h
        · exact absurd h1 (h3' k h)
        · exact h
        · exact absurd h1' (h3 k' h)
      subst e
      rw [← h2, ← h2']
    · exact absurd h1 (h1' k hk)
  · rcases h' with ⟨k', hk', h1', _⟩ | ⟨_, h2'⟩
    · exact absurd h1' (h1 k' hk')
    · rw [h2, h2']
def OfR (ls : List Lb) (x v : ByteArray) : Prop := (goodL ls = true ∧ OfV ls x v) ∨ (goodL ls = false ∧ v = ByteArray.empty)
theorem OfR.uniq {ls : List Lb} {x v v' : ByteArray} (h : OfR ls x v) (h' : OfR ls x v') : v = v' := by
  rcases h with ⟨h1, h2⟩ | ⟨h1, h2⟩
  · rcases h' with ⟨_, h2'⟩ | ⟨h1', _⟩
    · exact h2.uniq h2'
    · rw [h1] at h1'; cases h1'
  · rcases h' with ⟨h1', _⟩ | ⟨_, h2'⟩
    · rw [h1] at h1'; cases h1'
    · rw [h2, h2']

theorem Place.found {ls : List Lb} {x : ByteArray} {lo : Nat} (h : Place ls (x, ByteArray.empty) lo) (hl : lo < ls.length) (hc : cmpN (ls.getD lo e0) (x, ByteArray.empty) = 0) : OfV ls x (ls.getD lo e0).2 :=
  .inl ⟨lo, hl, cmpN_zero hc, rfl, fun i hi e => by have := h.less i hi; rw [cmpN_eq (q := (x, ByteArray.empty)) e] at this; omega⟩
theorem Place.missed {ls : List Lb} {x : ByteArray} {lo : Nat} (h : Place ls (x, ByteArray.empty) lo) (hg : GoodP ls) (hc : ¬ (lo < ls.length ∧ cmpN (ls.getD lo e0) (x, ByteArray.empty) = 0)) : ∀ k, k < ls.length → (ls.getD k e0).1 ≠ x := by
  intro k hk e
  have ek := cmpN_eq (p := ls.getD k e0) (q := (x, ByteArray.empty)) e
  by_cases h1 : k < lo
  · have := h.less k h1; omega
  · by_cases h2 : k = lo
    · subst h2; exact hc ⟨hk, ek⟩
    · have h3 := rise_lt hg (show lo < k by omega) hk
      have h4 := h.geq (by omega)
      have h5 : cmpN (ls.getD lo e0) (x, ByteArray.empty) = cmpN (ls.getD lo e0) (ls.getD k e0) := by unfold cmpN; rw [← e]
      omega

theorem f38 (a : Option Addr) (n c : Nat) (ls : List Lb) (x : ByteArray) (w : World) (hn : ls.length = n) (hg : GoodP ls) (hr : HasL w a ls) :
    Calls Tryz.prog 38 #[.slice a n c, .string x] w fun e w' => ∃ v, OfV ls x v ∧ e = .returned (.string v) ∧ Below w.heap.size w w' := by
  have HN := hid hn
  have HG := hid hg
  clear hn hg
  go_enter Tryz.func38, Tryz.ntmps38
  go_wp2_with fail
  refine (f44 a n c ls x _ HN.out HG.out hr).mono ?_
  rintro e w1 ⟨lo, hp, rfl, hb⟩
  have HP := hid hp
  by_cases hd : lo < n ∧ cmpN (ls.getD lo e0) (x, ByteArray.empty) = 0
  · have HV : Hid (OfV ls x (ls.getD lo e0).2) := HP.out.found (by rw [HN.out]; exact hd.1) hd.2
    have hlt := hd.1
    rw [decide_eq_true hd]
    rcases hr with hr | ⟨b, off, rfl, hbl, hc⟩
    · exact absurd HN.out (by rw [hr]; simp; omega)
    obtain ⟨c0, c1⟩ := hc lo (by rw [HN.out]; exact hlt)
    have d1 := (hb.cell (p := ⟨b, off + lo * 2 + 1, none⟩) hbl).trans c1
    clear hc c0 c1 hp hd
    generalize (ls.getD lo e0).2 = v at *
    go_wp2
    go_ret
    exact ⟨v, HV.out, rfl, hb⟩
  · rw [decide_eq_false hd]
    have HV := hid (HP.out.missed HG.out (by rw [HN.out]; exact hd))
    clear hp hd
    go_wp2
    go_ret
    exact ⟨_, .inr ⟨HV.out, rfl⟩, rfl, hb⟩

set_option maxHeartbeats 1000000 in
theorem f35 (a : Option Addr) (n c : Nat) (ls : List Lb) (x : ByteArray) (w : World) (hn : ls.length = n) (h20 : n ≤ 20) (hr : HasL w a ls) :
    Calls Tryz.prog 35 #[.slice a n c, .string x] w fun e w' => ∃ v, OfV ls x v ∧ e = .returned (.string v) ∧ Below w.heap.size w w' := by
  have HN := hid hn
  clear hn
  go_enter Tryz.func35, Tryz.ntmps35
  go_wp2
  go_loopw [9] (fun i wr => ∃ k : Nat, k ≤ n ∧ i = .int .i64 k ∧ Hid (∀ i, i < k → (ls.getD i e0).1 ≠ x) ∧ Below w.heap.size w wr) (fun i _ => n - (intOf i).toNat)
  case atStart => exact ⟨0, Nat.zero_le _, rfl, fun i hi => by omega, Below.refl _ _⟩
  case round =>
    obtain ⟨k, hk, rfl, hu, hnx⟩ := hrel
    have HX := hid hnx
    by_cases hlt : k < n
    · rcases hr with hr | ⟨b, off, rfl, hbl, hc⟩
      · exact absurd HN.out (by rw [hr]; simp; omega)
      obtain ⟨c0, c1⟩ := hc k (by rw [HN.out]; exact hlt)
      have d0 := (hnx.cell (p := ⟨b, off + k * 2, none⟩) hbl).trans c0
      have d1 := (hnx.cell (p := ⟨b, off + k * 2 + 1, none⟩) hbl).trans c1
      by_cases he : (ls.getD k e0).1 = x
      · have HV : Hid (OfV ls x (ls.getD k e0).2) := .inl ⟨k, by rw [HN.out]; exact hlt, he, rfl, hu.out⟩
        have he' : ((ls.getD k e0).1.toList == x.toList) = true := str_eq he
        clear hc c0 c1 hnx he
        generalize (ls.getD k e0).1 = s at *
        generalize (ls.getD k e0).2 = t at *
        go_wp2
        go_ret
        exact ⟨t, HV.out, rfl, HX.out.alloc HX.out.size _⟩
      · have HU : Hid (∀ i, i < k + 1 → (ls.getD i e0).1 ≠ x) := by
          intro i hi
          by_cases e : i = k
          · subst e; exact he
          · exact hu.out i (by omega)
        have he' : ((ls.getD k e0).1.toList == x.toList) = false := str_ne he
        clear hc c0 c1 hnx he
        generalize (ls.getD k e0).1 = s at *
        generalize (ls.getD k e0).2 = t at *
        go_wp2
        go_roundw
        case rel => exact ⟨k + 1, by omega, by go_num, HU.out, HX.out.alloc HX.out.size _⟩
        case measure => simp [intOf]; omega
    · go_wp2
      go_ret
      exact ⟨_, .inr ⟨fun i hi => hu.out i (by have := HN.out; omega), rfl⟩, rfl, HX.out⟩

theorem good_iff {ls : List Lb} (h : goodL ls = true) : GoodP ls := of_decide_eq_true h

end Go.Proofs.YtcknlidbjnmbjaaGreatDoor.Lab
