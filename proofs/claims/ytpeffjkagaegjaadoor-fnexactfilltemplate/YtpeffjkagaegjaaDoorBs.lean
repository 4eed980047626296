/- Where a name stands in good labels: the binary search. -/
import Derived.Test.YtpeffjkagaegjaaDoorCb
import Derived.Test.YtpeffjkagaegjaaDoorCn
namespace Go.Proofs.YtpeffjkagaegjaaDoor.Lab
open Go.RowKit Go.Proofs.YtpeffjkagaegjaaDoor.Str

theorem ret_tup {i : Int} {a b : Bool} (h : a = b) : Ending.returned (.tuple #[.int .i64 i, .bool a]) = .returned (.tuple #[.int .i64 i, .bool b]) := by rw [h]
/-- lo is where x stands, or is to stand. -/
structure Place (ls : List Lb) (x : Lb) (lo : Nat) : Prop where
  le : lo ≤ ls.length
  less : ∀ i, i < lo → cmpN (ls.getD i e0) x < 0
  geq : lo < ls.length → 0 ≤ cmpN (ls.getD lo e0) x

abbrev TT (w : World) (b off lo : Nat) (p x : Lb) (w' : World) : Prop :=
  w'.cell? ⟨b, off + lo * 2, none⟩ = some (.string p.1) ∧ w'.cell? ⟨b, off + lo * 2 + 1, none⟩ = some (.string p.2) ∧ w'.cell? ⟨w.heap.size, 0, none⟩ = some (.string x.1) ∧ w'.cell? ⟨w.heap.size, 1, none⟩ = some (.string x.2) ∧ Below w.heap.size w w' ∧ b < w'.heap.size
theorem TT.below {w W W' : World} {b off lo : Nat} {p x : Lb} (h : TT w b off lo p x W) (hb : Below W.heap.size W W') : TT w b off lo p x W' := by
  obtain ⟨h1, h2, h3, h4, h5, h6⟩ := h
  have l := World.block_lt_of_cell? W _ h3
  exact ⟨(hb.cell (p := ⟨b, off + lo * 2, none⟩) h6).trans h1, (hb.cell (p := ⟨b, off + lo * 2 + 1, none⟩) h6).trans h2, (hb.cell (p := ⟨w.heap.size, 0, none⟩) l).trans h3, (hb.cell (p := ⟨w.heap.size, 1, none⟩) l).trans h4, h5.trans (hb.mono h5.size), Nat.lt_of_lt_of_le h6 hb.size⟩
theorem TT.drew {w W : World} {b off lo : Nat} {p x : Lb} (h : TT w b off lo p x W) : TT w b off lo p x W.drew := ⟨h.1, h.2.1, h.2.2.1, h.2.2.2.1, h.2.2.2.2.1.drew, h.2.2.2.2.2⟩

set_option maxHeartbeats 2000000 in
theorem f55 (a : Option Addr) (n c : Nat) (ls : List Lb) (x : Lb) (w : World) (hn : ls.length = n) (hg : GoodP ls) (hr : HasL w a ls) :
    Calls Tryd.prog 55 #[.slice a n c, .agg #[.string x.1, .string x.2], .func (.func 29) #[] #[]] w fun e w' => ∃ lo : Nat, Place ls x lo ∧ e = .returned (.tuple #[.int .i64 lo, .bool (decide (lo < n ∧ cmpN (ls.getD lo e0) x = 0))]) ∧ Below w.heap.size w w' := by
  have HN := hid hn
  have h20 : n ≤ 20 := by have := hg.1; omega
  have HG := hid hg
  have HX0 := hid ((Below.refl w.heap.size w).alloc (Nat.le_refl _) (.cells #[.string x.1, .string x.2] 34))
  have HB0 := hid (heap_alloc_new w (.cells #[.string x.1, .string x.2] 34))
  clear hn hg
  go_enter Tryd.func55, Tryd.ntmps55
  go_wp2
  go_loopw [9, 10] (fun si sj wr => ∃ (lo hi : Nat), lo ≤ hi ∧ hi ≤ n ∧ si = .int .i64 lo ∧ sj = .int .i64 hi ∧ Hid (∀ i, i < lo → cmpN (ls.getD i e0) x < 0) ∧ Hid (hi < n → 0 ≤ cmpN (ls.getD hi e0) x) ∧ wr.heap[w.heap.size]? = some (.cells #[.string x.1, .string x.2] 34 (0, 0)) ∧ Below w.heap.size w wr) (fun si sj _ => (intOf sj).toNat - (intOf si).toNat)
  case atStart => exact ⟨0, n, Nat.zero_le _, Nat.le_refl _, rfl, rfl, fun i hi => by omega, fun h => by omega, HB0.out, HX0.out⟩
  case round =>
    obtain ⟨lo, hi, hlh, hhn, rfl, rfl, hlow, hhigh, hbx, hnx⟩ := hrel
    have HX := hid hnx
    have HBX := hid hbx
    have x0 := two0 hbx
    have x1 := two1 hbx
    have lx := lt_block hbx
    by_cases hlt : lo < hi
    · obtain ⟨h, hh⟩ : ∃ h, h = (lo + hi) / 2 := ⟨_, rfl⟩
      have hh1 : lo ≤ h := by omega
      have hh2 : h < hi := by omega
      have hh3 : ((lo : Int) + (hi : Int)) / 2 = (h : Int) := by omega
      have HHI := hid hh3
      clear hh hh3
      rcases hr with hr | ⟨b, off, rfl, hbl, hc⟩
      · exact absurd HN.out (by rw [hr]; simp; omega)
      obtain ⟨c0, c1⟩ := hc h (by rw [HN.out]; omega)
      have d0 := (hnx.cell (p := ⟨b, off + h * 2, none⟩) hbl).trans c0
      have d1 := (hnx.cell (p := ⟨b, off + h * 2 + 1, none⟩) hbl).trans c1
      have i1 : (h : Int) < (n : Int) := by omega
      have HLow : Hid (cmpN (ls.getD h e0) x < 0 → ∀ i, i < h + 1 → cmpN (ls.getD i e0) x < 0) := by
        intro hx i hi
        by_cases e : i = h
        · subst e; exact hx
        · exact cmpN_trans (rise_lt HG.out (show i < h by omega) (by rw [HN.out]; omega)) hx
      have HHigh : Hid (¬ cmpN (ls.getD h e0) x < 0 → h < n → 0 ≤ cmpN (ls.getD h e0) x) := fun h1 _ => by omega
      clear hc c0 c1 hnx hbx
      generalize hp : ls.getD h e0 = p at *
      by_cases h3 : cmpN p x < 0
      · go_wp2_with fail
        rw [HHI.out]
        go_region_with (go_at_call 29; refine (f29 p x _).mono ?_; rintro e w2 ⟨rfl, hb2⟩)
        all_goals
          have HX2 := hid (HX.out.trans ((below_undrew hb2).mono HX.out.size))
          have HBX2 := hid (box_below HBX.out (below_undrew hb2))
          clear hb2
          go_wp2
          go_roundw
          case rel => exact ⟨h + 1, hi, by omega, hhn, by go_num, rfl, HLow.out h3, hhigh, HBX2.out, HX2.out⟩
          case measure => simp [intOf]; omega
      · go_wp2_with fail
        rw [HHI.out]
        go_region_with (go_at_call 29; refine (f29 p x _).mono ?_; rintro e w2 ⟨rfl, hb2⟩)
        all_goals
          have HX2 := hid (HX.out.trans ((below_undrew hb2).mono HX.out.size))
          have HBX2 := hid (box_below HBX.out (below_undrew hb2))
          clear hb2
          go_wp2
          go_roundw
          case rel => exact ⟨lo, h, hh1, by omega, rfl, by go_num, hlow, by unfold Hid; rw [hp]; exact HHigh.out (by omega), HBX2.out, HX2.out⟩
          case measure => simp [intOf]; omega
    · obtain rfl : lo = hi := by omega
      have HP : Hid (Place ls x lo) := ⟨by rw [HN.out]; exact hhn, hlow.out, fun h => hhigh.out (by rw [HN.out] at h; exact h)⟩
      by_cases hln : lo < n
      · rcases hr with hr | ⟨b, off, rfl, hbl, hc⟩
        · exact absurd HN.out (by rw [hr]; simp; omega)
        obtain ⟨c0, c1⟩ := hc lo (by rw [HN.out]; omega)
        have d0 := (hnx.cell (p := ⟨b, off + lo * 2, none⟩) hbl).trans c0
        have d1 := (hnx.cell (p := ⟨b, off + lo * 2 + 1, none⟩) hbl).trans c1
        have i1 : (lo : Int) < (n : Int) := by omega
        clear hc c0 c1 hnx hbx
        have HD : Hid (decide (lo < n ∧ cmpN (ls.getD lo e0) x = 0) = (cmpN (ls.getD lo e0) x == 0)) := by
          unfold Hid; rw [Bool.eq_iff_iff]; simp [hln]
        generalize hp : ls.getD lo e0 = p at *
        have HS : Hid (TT w b off lo p x wr) := ⟨d0, d1, x0, x1, HX.out, Nat.lt_of_lt_of_le hbl HX.out.size⟩
        clear d0 d1 x0 x1 hlow hhigh
        go_wp2_with fail
        go_region_held3 (fun w' => TT w b off lo p x w') (first | exact HS.out.drew | assumption) (first | (go_at_call 29; refine (f29 p x _).mono ?_; rintro e w2 ⟨rfl, hb2⟩; have hs2 := TT.below (by assumption) hb2; clear hb2))
        go_wp2
        go_ret2
        exact ⟨lo, HP.out, ret_tup (by rw [hp, HD.out]), hs2.2.2.2.2.1⟩
      · have HD : Hid (decide (lo < n ∧ cmpN (ls.getD lo e0) x = 0) = false) := by
          unfold Hid; rw [decide_eq_false_iff_not]; intro h; exact hln h.1
        have i1 : ¬ (lo : Int) < (n : Int) := by omega
        clear hnx hbx
        go_wp2_with fail
        go_quiet (fail)
        go_wp2
        go_ret2
        exact ⟨lo, HP.out, ret_tup HD.out.symm, below_drewN HX.out _⟩

theorem f51 (a : Option Addr) (n c : Nat) (ls : List Lb) (x : ByteArray) (w : World) (hn : ls.length = n) (hg : GoodP ls) (hr : HasL w a ls) :
    Calls Tryd.prog 51 #[.slice a n c, .string x] w fun e w' => ∃ lo : Nat, Place ls (x, ByteArray.empty) lo ∧ e = .returned (.tuple #[.int .i64 lo, .bool (decide (lo < n ∧ cmpN (ls.getD lo e0) (x, ByteArray.empty) = 0))]) ∧ Below w.heap.size w w' := by
  have HN := hid hn
  have HG := hid hg
  clear hn hg
  go_enter Tryd.func51, Tryd.ntmps51
  go_wp2_with fail
  refine (f55 a n c ls (x, ByteArray.empty) _ HN.out HG.out hr).mono ?_
  rintro e w1 ⟨lo, hp, rfl, hb⟩
  have HP := hid hp
  generalize hd : decide (lo < n ∧ cmpN (ls.getD lo e0) (x, ByteArray.empty) = 0) = d
  clear hp
  go_wp2
  go_ret2
  exact ⟨lo, HP.out, ret_tup hd.symm, hb⟩
end Go.Proofs.YtpeffjkagaegjaaDoor.Lab
