/- The program's readPair. -/
import Derived.Test.YtigakbhficoonaaPrd
import Derived.Deep.CutRange
namespace Go.Proofs.Ytigakbhficoonaa.Prs
open Go.RowKit
open Go.Proofs.Ytigakbhficoonaa.Rdd
open Go.Proofs.Ytigakbhficoonaa.Pat (hid nbC)
open Go.Proofs.Ytigakbhficoonaa.Lab (Lb)
open Go.Proofs.Ytigakbhficoonaa.Str (nameL valueL)

theorem hd0_v (v : ByteArray) : hd0 v 34 = decide ((bys v)[0]? = some 34) := by
  have h := hd0_at v 0 34
  rw [show v.extract 0 v.size = v by simp] at h
  exact h
theorem two_set {w : World} {B : Nat} {a b x y : Value} {t : TypeId} (h : w.heap[B]? = some (.cells #[a, b] t (0, 0))) : ((w.setCell ⟨B, 0, none⟩ x).setCell ⟨B, 1, none⟩ y).heap[B]? = some (.cells #[x, y] t (0, 0)) := by
  have h1 : (w.setCell ⟨B, 0, none⟩ x).heap[B]? = some (.cells #[x, b] t (0, 0)) := by
    have hlt := lt_block h
    have h' : w.heap[B] = .cells #[a, b] t (0, 0) := by simpa [Array.getElem?_eq_getElem hlt] using h
    show (w.heap.modify B _)[B]? = _
    rw [Array.getElem?_eq_getElem (by simpa using hlt), Array.getElem_modify_self, h']
    rfl
  exact two_set1 h1
theorem box_kept {w w' : World} {R B : Nat} {o : Obj} (h : w.heap[B]? = some o) (hg : w.grownBy w' (some R)) (hne : B ≠ R) : w'.heap[B]? = some o := (hg.block B (lt_block h) (fun e => hne (Option.some.inj e))).trans h
theorem bel_grown {w w1 w2 : World} {R : Nat} (h : Below w.heap.size w w1) (hg : w1.grownBy w2 (some R)) (hR : w.heap.size ≤ R) : Below w.heap.size w w2 :=
  ⟨hg.os.trans h.os, hg.tape.trans h.tape, hg.output.trans h.output, Nat.le_trans h.size hg.size, fun j hj => (hg.block j (by have := h.size; omega) (fun e => by have := Option.some.inj e; omega)).trans (h.block j hj)⟩
theorem quo_len {v : ByteArray} {u : List UInt8} {k : Nat} (h : quo v 0 = some (u, k)) : u.length ≤ v.size := by
  unfold quo at h
  split at h
  · have := (unqA_bd h).2.2
    simpa using this
  · cases h
/-- What readPair leaves. -/
def PairR (x : ByteArray) (w : World) (e : Ending) (w' : World) : Prop :=
  ∃ (nm vv : ByteArray) (b : Bool), e = .returned (.tuple #[.agg #[.string nm, .string vv], .bool b]) ∧ rdP x = (if b = true then some (nm, vv) else none) ∧ nm.size ≤ 1048576 ∧ Below w.heap.size w w'
theorem rd_no {x : ByteArray} {i : Nat} (h : (bys x)[i]? = some 61) (hn : ∀ k, k < i → (bys x)[k]? ≠ some 61) (hv : vl (x.extract (i + 1) x.size) = none) : rdP x = none := by
  rw [rd_hit h hn, hv]
  split <;> rfl
theorem rd_noname {x : ByteArray} {i : Nat} (h : (bys x)[i]? = some 61) (hn : ∀ k, k < i → (bys x)[k]? ≠ some 61) (hg : nameL (bys (x.extract 0 i)) = false) : rdP x = none := by
  rw [rd_hit h hn, hg]; rfl
theorem rd_val {x u : ByteArray} {i : Nat} (h : (bys x)[i]? = some 61) (hn : ∀ k, k < i → (bys x)[k]? ≠ some 61) (hg : nameL (bys (x.extract 0 i)) = true) (hv : vl (x.extract (i + 1) x.size) = some u) : rdP x = if valueL (bys u) = true then some (x.extract 0 i, u) else none := by
  rw [rd_hit h hn, hg, hv]; rfl
theorem vl_plain {v : ByteArray} (h : hd0 v 34 = false) : vl v = some v := by
  rw [hd0_v] at h
  unfold vl; rw [if_neg (of_decide_eq_false h)]
theorem vl_none {v : ByteArray} (h : hd0 v 34 = true) (hq : quo v 0 = none) : vl v = none := by
  rw [hd0_v] at h
  unfold vl; rw [if_pos (of_decide_eq_true h), hq]; rfl
theorem vl_quo {v : ByteArray} {u : List UInt8} {k : Nat} (h : hd0 v 34 = true) (hq : quo v 0 = some (u, k)) : vl v = if k = v.size then some (mkS u) else none := by
  rw [hd0_v] at h
  unfold vl; rw [if_pos (of_decide_eq_true h), hq]; rfl
abbrev BL : Obj := .cells #[.string ⟨#[]⟩, .string ⟨#[]⟩] 33
set_option maxRecDepth 100000 in
set_option maxHeartbeats 8000000 in
theorem f33 (x : ByteArray) (w : World) (hs : x.size ≤ 1000) : Calls Try.prog 33 #[.string x] w (PairR x w) := by
  have HX0 := hid (heap_alloc_new w BL)
  have HB0 := hid ((Below.refl w.heap.size w).alloc (Nat.le_refl _) BL)
  have hP34 : (⟨#[34]⟩ : ByteArray).size = 1 := rfl
  rcases ix_cases x with ⟨hix, hno⟩ | ⟨i, hix, hi, h61, hno⟩
  · have HR : Hid (rdP x = none) := rd_miss hno
    have HC := fun w => hid (f49n x w hix)
    have HH : ∀ w, Hid (Calls Try.prog 50 #[.string ⟨#[]⟩, .string ⟨#[34]⟩] w fun e w' => e = .returned (.bool false) ∧ w' = w) := fun w => f50 ⟨#[]⟩ 34 w (by decide)
    have hnz : x.size ≤ 1048576 := by omega
    clear hno hix
    go_enter Try.func33, Try.ntmps33
    go_wp2_with fail
    refine (HC _).out.mono ?_
    rintro e w1 ⟨rfl, hb⟩
    have HB1 := hid (HB0.out.trans (hb.mono HB0.out.size))
    have HX1 := hid ((hb.block _ (lt_block HX0.out)).trans HX0.out)
    clear hb HX0 HB0
    go_wp2_with fail
    refine (HH _).out.mono ?_
    rintro e w2 ⟨rfl, rfl⟩
    obtain ⟨b0, b1⟩ := And.intro (two0 HX1.out) (two1 HX1.out)
    have f0 := two_frz (o := 0) HX1.out
    have f1 := two_frz (o := 1) HX1.out
    go_wp2
    have HZ := two_set (x := .string x) (y := .string ⟨#[]⟩) HX1.out
    refine bodyPost_ret (v := .tuple #[.agg #[.string x, .string ⟨#[]⟩], .bool false]) ?_ rfl ?_
    · have z0 := two0 HZ
      have z1 := two1 HZ
      rw [results_cell_tmp rfl]
      go_simp
    · exact ⟨x, ⟨#[]⟩, false, rfl, by rw [HR.out]; rfl, hnz, (HB1.out.setCell (Nat.le_refl _) _).setCell (Nat.le_refl _) _⟩
  have HC := fun w => hid (f49y x i w hix hi (by omega))
  obtain ⟨v, hv⟩ : ∃ v, v = x.extract (i + 1) x.size := ⟨_, rfl⟩
  have hvs : v.size ≤ 1000 := by rw [hv, ByteArray.size_extract]; omega
  have HNO : Hid (vl v = none → rdP x = none) := fun h => rd_no h61 hno (by rw [← hv]; exact h)
  have HNN : Hid (nameL (bys (x.extract 0 i)) = false → rdP x = none) := fun h => rd_noname h61 hno h
  have HVL : Hid (∀ u, nameL (bys (x.extract 0 i)) = true → vl v = some u → rdP x = if valueL (bys u) = true then some (x.extract 0 i, u) else none) := fun u h1 h2 => rd_val h61 hno h1 (by rw [← hv]; exact h2)
  rw [← hv] at HC
  have hnz : (x.extract 0 i).size ≤ 1048576 := by rw [ByteArray.size_extract]; omega
  have hnz2 : (x.extract 0 i).size ≤ maxLen := by unfold maxLen; omega
  have HN := fun w => hid (Str.f52 (x.extract 0 i) w hnz2)
  clear hv h61 hno hix
  generalize x.extract 0 i = nm at *
  have HH := fun w => hid (f50 v 34 w (by omega))
  cases h34 : hd0 v 34
  · have hvl := vl_plain h34
    have HV := fun w => hid (Str.f37 v w (by unfold maxLen; omega))
    simp only [h34] at HH
    cases hn : nameL (bys nm)
    · have HR := hid (HNN.out hn)
      simp only [bys] at hn
      simp only [hn] at HN
      clear HNO HNN HVL h34 hvl hn
      go_enter Try.func33, Try.ntmps33
      go_wp2_with fail
      refine (HC _).out.mono ?_
      rintro e w1 ⟨rfl, hb⟩
      have HB1 := hid (HB0.out.trans (hb.mono HB0.out.size))
      have HX1 := hid ((hb.block _ (lt_block HX0.out)).trans HX0.out)
      clear hb HX0 HB0
      go_wp2_with fail
      refine (HH _).out.mono ?_
      rintro e w2 ⟨rfl, rfl⟩
      obtain ⟨b0, b1⟩ := And.intro (two0 HX1.out) (two1 HX1.out)
      have f0 := two_frz (o := 0) HX1.out
      have f1 := two_frz (o := 1) HX1.out
      go_wp2_with (first | (go_at_call 52; refine (HN _).out.mono ?_; rintro e wy ⟨rfl, rfl⟩) | (go_at_call 37; refine (HV _).out.mono ?_; rintro e wy ⟨rfl, rfl⟩) | fail)
      have HZ := two_set (x := .string nm) (y := .string v) HX1.out
      refine bodyPost_ret (v := .tuple #[.agg #[.string nm, .string v], .bool false]) ?_ rfl ?_
      · have z0 := two0 HZ
        have z1 := two1 HZ
        rw [results_cell_tmp rfl]
        go_simp
      · exact ⟨nm, v, false, rfl, by rw [HR.out]; rfl, hnz, (HB1.out.setCell (Nat.le_refl _) _).setCell (Nat.le_refl _) _⟩
    have HR0 := hid (HVL.out v hn hvl)
    simp only [bys] at hn
    simp only [hn] at HN
    cases hvv : valueL (bys v)
    · have HR : Hid (rdP x = none) := by unfold Hid; rw [HR0.out, hvv]; rfl
      simp only [bys] at hvv
      simp only [hvv] at HV
      clear HNO HNN HVL h34 hvl hn HR0 hvv
      go_enter Try.func33, Try.ntmps33
      go_wp2_with fail
      refine (HC _).out.mono ?_
      rintro e w1 ⟨rfl, hb⟩
      have HB1 := hid (HB0.out.trans (hb.mono HB0.out.size))
      have HX1 := hid ((hb.block _ (lt_block HX0.out)).trans HX0.out)
      clear hb HX0 HB0
      go_wp2_with fail
      refine (HH _).out.mono ?_
      rintro e w2 ⟨rfl, rfl⟩
      obtain ⟨b0, b1⟩ := And.intro (two0 HX1.out) (two1 HX1.out)
      have f0 := two_frz (o := 0) HX1.out
      have f1 := two_frz (o := 1) HX1.out
      go_wp2_with (first | (go_at_call 52; refine (HN _).out.mono ?_; rintro e wy ⟨rfl, rfl⟩) | (go_at_call 37; refine (HV _).out.mono ?_; rintro e wy ⟨rfl, rfl⟩) | fail)
      have HZ := two_set (x := .string nm) (y := .string v) HX1.out
      refine bodyPost_ret (v := .tuple #[.agg #[.string nm, .string v], .bool false]) ?_ rfl ?_
      · have z0 := two0 HZ
        have z1 := two1 HZ
        rw [results_cell_tmp rfl]
        go_simp
      · exact ⟨nm, v, false, rfl, by rw [HR.out]; rfl, hnz, (HB1.out.setCell (Nat.le_refl _) _).setCell (Nat.le_refl _) _⟩
    · have HR : Hid (rdP x = some (nm, v)) := by unfold Hid; rw [HR0.out, hvv]; rfl
      simp only [bys] at hvv
      simp only [hvv] at HV
      clear HNO HNN HVL h34 hvl hn HR0 hvv
      go_enter Try.func33, Try.ntmps33
      go_wp2_with fail
      refine (HC _).out.mono ?_
      rintro e w1 ⟨rfl, hb⟩
      have HB1 := hid (HB0.out.trans (hb.mono HB0.out.size))
      have HX1 := hid ((hb.block _ (lt_block HX0.out)).trans HX0.out)
      clear hb HX0 HB0
      go_wp2_with fail
      refine (HH _).out.mono ?_
      rintro e w2 ⟨rfl, rfl⟩
      obtain ⟨b0, b1⟩ := And.intro (two0 HX1.out) (two1 HX1.out)
      have f0 := two_frz (o := 0) HX1.out
      have f1 := two_frz (o := 1) HX1.out
      go_wp2_with (first | (go_at_call 52; refine (HN _).out.mono ?_; rintro e wy ⟨rfl, rfl⟩) | (go_at_call 37; refine (HV _).out.mono ?_; rintro e wy ⟨rfl, rfl⟩) | fail)
      have HZ := two_set (x := .string nm) (y := .string v) HX1.out
      refine bodyPost_ret (v := .tuple #[.agg #[.string nm, .string v], .bool true]) ?_ rfl ?_
      · have z0 := two0 HZ
        have z1 := two1 HZ
        rw [results_cell_tmp rfl]
        go_simp
      · exact ⟨nm, v, true, rfl, by rw [HR.out]; rfl, hnz, (HB1.out.setCell (Nat.le_refl _) _).setCell (Nat.le_refl _) _⟩
  · simp only [h34] at HH
    go_enter Try.func33, Try.ntmps33
    go_wp2_with fail
    refine (HC _).out.mono ?_
    rintro e w1 ⟨rfl, hb⟩
    have HB1 := hid (HB0.out.trans (hb.mono HB0.out.size))
    have HX1 := hid ((hb.block _ (lt_block HX0.out)).trans HX0.out)
    clear hb HX0 HB0
    go_wp2_with fail
    refine (HH _).out.mono ?_
    rintro e w2 ⟨rfl, rfl⟩
    have HR2 : Hid (Rdr w2.heap.size v 0 (w2.alloc (.cells #[.string v, .int .i64 0] 60))) := ⟨heap_alloc_new w2 _, Nat.zero_le _⟩
    have HB2 := hid (HB1.out.alloc HB1.out.size (.cells #[.string v, .int .i64 0] 60))
    have HX2 := hid (box_alloc HX1.out (.cells #[.string v, .int .i64 0] 60))
    have hlt := lt_block HX1.out
    clear HB1 HX1
    go_upto_region 4 with fail
    generalize w2.alloc (.cells #[.string v, .int .i64 0] 60) = w3 at *
    generalize w2.heap.size = R at *
    go_wp2_with fail
    refine (f51 R v 0 _ (by omega) HR2.out).mono ?_
    rintro e w4 ⟨hg, hq⟩
    have HB4 := hid (bel_grown HB2.out hg (by omega))
    have HX4 := hid (box_kept HX2.out hg (by omega))
    clear hg HB2 HX2 HR2
    rcases hq with ⟨hq, rfl, k, hr⟩ | ⟨u, k, hq, rfl, hr⟩
    · have HR := hid (HNO.out (vl_none h34 hq))
      clear HNO HNN HVL h34 hq hr HN
      obtain ⟨b0, b1⟩ := And.intro (two0 HX4.out) (two1 HX4.out)
      have f0 := two_frz (o := 0) HX4.out
      have f1 := two_frz (o := 1) HX4.out
      go_wp2
      have HZ := two_set (x := .string nm) (y := .string ⟨#[]⟩) HX4.out
      refine bodyPost_ret (v := .tuple #[.agg #[.string nm, .string ⟨#[]⟩], .bool false]) ?_ rfl ?_
      · have z0 := two0 HZ
        have z1 := two1 HZ
        rw [results_cell_tmp rfl]
        go_simp
      · exact ⟨nm, ⟨#[]⟩, false, rfl, by rw [HR.out]; rfl, hnz, (HB4.out.setCell (Nat.le_refl _) _).setCell (Nat.le_refl _) _⟩
    have r1 := two1 hr.1
    have hvq := vl_quo h34 hq
    have hus : (mkS u).size ≤ 1000 := by
      have := quo_len hq
      show u.toArray.size ≤ 1000
      simp; omega
    clear hr
    by_cases hk : k = v.size
    rotate_left
    · have HR := hid (HNO.out (by rw [hvq, if_neg hk]))
      have ek : ((k : Int) == (v.size : Int)) = false := by rw [beq_eq_false_iff_ne]; omega
      clear HNO HNN HVL h34 hq HN hvq
      obtain ⟨b0, b1⟩ := And.intro (two0 HX4.out) (two1 HX4.out)
      have f0 := two_frz (o := 0) HX4.out
      have f1 := two_frz (o := 1) HX4.out
      go_wp2
      have HZ := two_set (x := .string nm) (y := .string (mkS u)) HX4.out
      refine bodyPost_ret (v := .tuple #[.agg #[.string nm, .string (mkS u)], .bool false]) ?_ rfl ?_
      · have z0 := two0 HZ
        have z1 := two1 HZ
        rw [results_cell_tmp rfl]
        go_simp
      · exact ⟨nm, (mkS u), false, rfl, by rw [HR.out]; rfl, hnz, (HB4.out.setCell (Nat.le_refl _) _).setCell (Nat.le_refl _) _⟩
    have ek : ((k : Int) == (v.size : Int)) = true := by rw [beq_iff_eq]; omega
    rw [if_pos hk] at hvq
    have HV := fun w => hid (Str.f37 (mkS u) w (by unfold maxLen; omega))
    clear hk
    cases hn : nameL (bys nm)
    · have HR := hid (HNN.out hn)
      simp only [bys] at hn
      simp only [hn] at HN
      clear HNO HNN HVL h34 hvq hn hq
      obtain ⟨b0, b1⟩ := And.intro (two0 HX4.out) (two1 HX4.out)
      have f0 := two_frz (o := 0) HX4.out
      have f1 := two_frz (o := 1) HX4.out
      go_wp2_with (first | (go_at_call 52; refine (HN _).out.mono ?_; rintro e wy ⟨rfl, rfl⟩) | (go_at_call 37; refine (HV _).out.mono ?_; rintro e wy ⟨rfl, rfl⟩) | fail)
      have HZ := two_set (x := .string nm) (y := .string (mkS u)) HX4.out
      refine bodyPost_ret (v := .tuple #[.agg #[.string nm, .string (mkS u)], .bool false]) ?_ rfl ?_
      · have z0 := two0 HZ
        have z1 := two1 HZ
        rw [results_cell_tmp rfl]
        go_simp
      · exact ⟨nm, (mkS u), false, rfl, by rw [HR.out]; rfl, hnz, (HB4.out.setCell (Nat.le_refl _) _).setCell (Nat.le_refl _) _⟩
    have HR0 := hid (HVL.out _ hn hvq)
    simp only [bys] at hn
    simp only [hn] at HN
    cases hvv : valueL (bys (mkS u))
    · have HR : Hid (rdP x = none) := by unfold Hid; rw [HR0.out, hvv]; rfl
      simp only [bys] at hvv
      simp only [hvv] at HV
      clear HNO HNN HVL h34 hvq hn HR0 hvv hq
      obtain ⟨b0, b1⟩ := And.intro (two0 HX4.out) (two1 HX4.out)
      have f0 := two_frz (o := 0) HX4.out
      have f1 := two_frz (o := 1) HX4.out
      go_wp2_with (first | (go_at_call 52; refine (HN _).out.mono ?_; rintro e wy ⟨rfl, rfl⟩) | (go_at_call 37; refine (HV _).out.mono ?_; rintro e wy ⟨rfl, rfl⟩) | fail)
      have HZ := two_set (x := .string nm) (y := .string (mkS u)) HX4.out
      refine bodyPost_ret (v := .tuple #[.agg #[.string nm, .string (mkS u)], .bool false]) ?_ rfl ?_
      · have z0 := two0 HZ
        have z1 := two1 HZ
        rw [results_cell_tmp rfl]
        go_simp
      · exact ⟨nm, (mkS u), false, rfl, by rw [HR.out]; rfl, hnz, (HB4.out.setCell (Nat.le_refl _) _).setCell (Nat.le_refl _) _⟩
    · have HR : Hid (rdP x = some (nm, mkS u)) := by unfold Hid; rw [HR0.out, hvv]; rfl
      simp only [bys] at hvv
      simp only [hvv] at HV
      clear HNO HNN HVL h34 hvq hn HR0 hvv hq
      obtain ⟨b0, b1⟩ := And.intro (two0 HX4.out) (two1 HX4.out)
      have f0 := two_frz (o := 0) HX4.out
      have f1 := two_frz (o := 1) HX4.out
      go_wp2_with (first | (go_at_call 52; refine (HN _).out.mono ?_; rintro e wy ⟨rfl, rfl⟩) | (go_at_call 37; refine (HV _).out.mono ?_; rintro e wy ⟨rfl, rfl⟩) | fail)
      have HZ := two_set (x := .string nm) (y := .string (mkS u)) HX4.out
      refine bodyPost_ret (v := .tuple #[.agg #[.string nm, .string (mkS u)], .bool true]) ?_ rfl ?_
      · have z0 := two0 HZ
        have z1 := two1 HZ
        rw [results_cell_tmp rfl]
        go_simp
      · exact ⟨nm, (mkS u), true, rfl, by rw [HR.out]; rfl, hnz, (HB4.out.setCell (Nat.le_refl _) _).setCell (Nat.le_refl _) _⟩
end Go.Proofs.Ytigakbhficoonaa.Prs
