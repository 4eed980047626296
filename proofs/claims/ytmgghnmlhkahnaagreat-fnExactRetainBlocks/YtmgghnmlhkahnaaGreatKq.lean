/- The walk of FnExactRetainBlocks. -/
import Derived.Test.YtmgghnmlhkahnaaGreatKp
import Derived.Test.YtmgghnmlhkahnaaGreatKd
namespace Go.Proofs.YtmgghnmlhkahnaaGreat.Blk
open Go.RowKit
open Go.Proofs.YtmgghnmlhkahnaaGreat.Smp (Sm HasS own_form ret_bool)
open Go.Proofs.YtmgghnmlhkahnaaGreat.Srs (hid lt_at kept blk own_base own_below own_grown Q q0 HasQ SmlQ OwnG Own2 Fr own_fr tot)
open Go.Proofs.YtmgghnmlhkahnaaGreat.Stn (T t0 OwnT HasT SmlT mk)

theorem SameK.trans {n : Nat} {bs d e : List Bk} (s : SameK n bs d) (r : SameK n bs e) : SameK n d e := fun i hi => (s i hi).trans (r i hi)
theorem totq_sameK {n : Nat} {qs d : List Q} (h : Srs.Same n qs d) : ∀ k, k ≤ n → Srs.tot d k = Srs.tot qs k := by
  intro k
  induction k with
  | zero => intro _; rfl
  | succ k ih =>
    intro hk
    have e := h k (by omega)
    simp only [Srs.pl, Prod.mk.injEq] at e
    simp only [Srs.tot]
    rw [ih (by omega), e.1, e.2]
theorem tott_sameK {n : Nat} {ts d : List T} (h : Stn.Same n ts d) : ∀ k, k ≤ n → Stn.tot d k = Stn.tot ts k := by
  intro k
  induction k with
  | zero => intro _; rfl
  | succ k ih =>
    intro hk
    have e := same_l (h k (by omega))
    simp only [Stn.tot]
    rw [ih (by omega), e.1]
theorem SameB.tk {h h' : Bk} (s : SameB h h') : Blk.tk h' = Blk.tk h := by
  unfold Blk.tk
  rw [s.lq, s.lt, totq_sameK s.sq _ (Nat.le_refl _), tott_sameK s.st _ (Nat.le_refl _)]
theorem SameK.totK {n : Nat} {bs d : List Bk} (s : SameK n bs d) : ∀ k, k ≤ n → Blk.totK d k = Blk.totK bs k := by
  intro k
  induction k with
  | zero => intro _; rfl
  | succ k ih => intro hk; simp only [Blk.totK]; rw [ih (by omega), (s k (by omega)).tk]
theorem totK_sum : ∀ (L : List Bk), totK L L.length = (L.map tk).sum := by
  intro L
  have key : ∀ k, k ≤ L.length → totK L k = ((L.take k).map tk).sum := by
    intro k
    induction k with
    | zero => intro _; rfl
    | succ k ih =>
      intro hk
      rw [totK, ih (by omega), List.take_succ_eq_append_getElem (by omega), List.map_append, List.sum_append]
      have e : L.getD k k0 = L[k] := by simp [show k < L.length by omega]
      rw [e]
      simp
  rw [key L.length (Nat.le_refl _), List.take_length]
theorem kp_sum (x : Int) : ∀ (L : List Bk), ((kp x L).map tk).sum ≤ (L.map tk).sum := by
  intro L
  induction L with
  | nil => exact Nat.le_refl _
  | cons h L ih =>
    unfold kp at ih ⊢
    rw [List.filter_cons]
    split
    · simp only [List.map_cons, List.sum_cons]; omega
    · simp only [List.map_cons, List.sum_cons]; omega
theorem mkK_tot (R : List Bk) : ∀ k, mkK R k ≤ 3 * k + 2 * totK R k := by
  intro k
  induction k with
  | zero => exact Nat.le_refl _
  | succ k ih =>
    simp only [mkK, totK]
    have : mkb (R.getD k k0) ≤ 3 + 2 * tk (R.getD k k0) := by unfold mkb tk mk; omega
    omega
theorem rt_same {b x : Int} {n : Nat} {bs d : List Bk} (s : SameK n bs d) (hn : bs.length = n) (hl : d.length = n) : (rt b d x).length = (rt b bs x).length ∧ SameK (rt b bs x).length (rt b bs x) (rt b d x) := by
  unfold rt
  rw [s.gd hn hl]
  split
  · exact s.kp hn hl
  · exact ⟨rfl, fun i hi => by simp at hi⟩
theorem sameB_to {p q r : Bk} (h1 : SameB p q) (h2 : SameB q r) : SameB p r := h1.symm.trans h2
theorem rt_sml {b x : Int} {bs : List Bk} (h : totK bs bs.length ≤ 1048576) : totK (rt b bs x) (rt b bs x).length ≤ 1048576 ∧ SmlK (rt b bs x) := by
  have h1 : totK (rt b bs x) (rt b bs x).length ≤ 1048576 := by
    unfold rt
    split
    · rw [totK_sum]; have := kp_sum x bs; rw [← totK_sum bs] at this; omega
    · exact Nat.zero_le _
  exact ⟨h1, sml_totK h1⟩
theorem rt_len (b x : Int) (bs : List Bk) : (rt b bs x).length ≤ bs.length := by
  unfold rt
  split
  · exact kp_len x bs
  · exact Nat.zero_le _
theorem fr_belowK {X Y B : Nat} {w x : World} (h : Fr X Y w x) (hb : B ≤ X) (hs : B ≤ w.heap.size) : Below B w x := ⟨h.os, h.tape, h.output, h.size, fun k hk => h.block k (by omega) (.inl (by omega))⟩
theorem rowk_fr {X X' Y' n c : Nat} {a : Option Addr} {R : List Bk} {L U : Nat → Nat} {w x : World} (h : RowK OwnC X a n c R L U w) (hlo : ∀ i, i < n → X ≤ L i) (hf : Fr X' Y' w x) (hd : Y' ≤ X) : RowK OwnC X a n c R L U x := by
  refine ⟨h.len, ?_, fun i hi => ownc_fr (h.each i hi) hf (.inl (by have := hlo i hi; omega)), h.off⟩
  rcases h.row.2 with ⟨h1, h2⟩ | ⟨g, cap, cur, h1, _⟩
  · have hr := h.row
    simp only [Value.slice.injEq] at h1
    obtain ⟨rfl, rfl, rfl⟩ := h1
    have e : flatK R = [] := List.eq_nil_of_length_eq_zero (by have h5 := hr.1; simpa using h5)
    rw [e]; exact World.ownsRow_nil _ _ _ _
  · have hr := h.row
    simp only [Value.slice.injEq] at h1
    obtain ⟨rfl, -, rfl⟩ := h1
    exact own_fr hr hf (.inr (Nat.le_trans hd (hr.lt g rfl).1))
/-- The argument, and the model's answer. -/
structure Kw (w : World) (a : Option Addr) (bs : List Bk) (aW : Option Addr) (R : List Bk) (x : World) : Prop where
  arg : HasK x a bs
  ans : HasK x aW R
  bel : Below w.heap.size w x
theorem Kw.below {w : World} {a : Option Addr} {bs : List Bk} {aW : Option Addr} {R : List Bk} {x y : World} (g : Kw w a bs aW R x) (hb : Below x.heap.size x y) : Kw w a bs aW R y := ⟨g.arg.below hb, g.ans.below hb, g.bel.trans (hb.mono g.bel.size)⟩
set_option maxHeartbeats 8000000 in
theorem walkRetain (b : Int) (a : Option Addr) (n c : Nat) (bs : List Bk) (x : Int) (w : World) (hb0 : -9223372036854775808 ≤ b) (hb1 : b ≤ 9223372036854775807) (hn : bs.length = n) (hmax : n ≤ maxLen) (hr : HasK w a bs) (hf : FitK bs) :
    Calls Tryz.prog 3 #[.int .i64 b, .slice a n c, .int .i64 x] w fun e w' => e = .returned (.bool true) ∧ Below w.heap.size w w' := by
  have HN := hid hn
  have HR := hid hr
  have HF := hid hf
  have HM := hid hmax
  clear hn hr hf hmax
  have HLn : Hid ((rt b bs x).length ≤ n) := by unfold Hid; have := rt_len b x bs; rw [HN.out] at this; exact this
  have HRt : Hid (totK bs bs.length ≤ 1048576 → totK (rt b bs x) (rt b bs x).length ≤ 1048576 ∧ SmlK (rt b bs x)) := fun h => rt_sml h
  have HSp : Hid (∀ (d : List Bk) (R0 : Nat) (Z : Nat → Nat) (w' : World), SmlK bs → n ≤ 1048576 → OwnK R0 Z n bs d w' → Calls Tryz.prog 5 #[.int .i64 b, .slice (some ⟨R0, 0, none⟩) n n, .int .i64 x] w' fun e w'' => ∃ (a' : Option Addr) (m c' : Nat) (R : List Bk), e = .returned (.slice a' m c') ∧ Hid (R.length = m ∧ m = (rt b bs x).length ∧ SameK m (rt b bs x) R ∧ HasK w'' a' R) ∧ Below w'.heap.size w' w'') := by
    intro d R0 Z w' hz hle o
    refine (f5 b _ n n d x w' hb0 hb1 o.kin.len hle o.has (o.kin.same.fit o.kin.len HF.out) (o.kin.same.sml o.kin.len HN.out hz) (ownk_cap o)).mono ?_
    rintro e w'' ⟨a', m, c', R, rfl, h1, hb⟩
    obtain ⟨s1, s2⟩ := rt_same (b := b) (x := x) o.kin.same HN.out o.kin.len
    obtain ⟨q1, q2, q3, q4⟩ := h1.out
    exact ⟨a', m, c', R, rfl, ⟨q1, by rw [q2, s1], fun i hi => sameB_to (s2 i (by rw [← s1, ← q2]; exact hi)) (q3 i hi), q4⟩, hb⟩
  have HIm : Hid (∀ (d : List Bk) (R0 : Nat) (Z : Nat → Nat) (w' : World), SmlK bs → n ≤ 1048576 → OwnK R0 Z n bs d w' → Calls Tryz.prog 7 #[.int .i64 b, .slice (some ⟨R0, 0, none⟩) n n, .int .i64 x] w' fun e w'' => ∃ (a' : Option Addr) (m c' : Nat) (R : List Bk), e = .returned (.slice a' m c') ∧ Hid (R.length = m ∧ m = (rt b bs x).length ∧ SameK m (rt b bs x) R ∧ Ans w'.heap.size a' m c' R w'') ∧ Below w'.heap.size w' w'') := by
    intro d R0 Z w' hz hle o
    refine (f7 b _ n n d x w' hb0 hb1 o.kin.len hle o.has (o.kin.same.fit o.kin.len HF.out) (o.kin.same.sml o.kin.len HN.out hz) (ownk_cap o)).mono ?_
    rintro e w'' ⟨a', m, c', R, rfl, h1, hb⟩
    obtain ⟨s1, s2⟩ := rt_same (b := b) (x := x) o.kin.same HN.out o.kin.len
    obtain ⟨q1, q2, q3, q4⟩ := h1.out
    exact ⟨a', m, c', R, rfl, ⟨q1, by rw [q2, s1], fun i hi => sameB_to (s2 i (by rw [← s1, ← q2]; exact hi)) (q3 i hi), q4⟩, hb⟩
  generalize rt b bs x = sel at *
  go_enter Tryz.func3, Tryz.ntmps3
  go_wp2_with fail
  refine (f4 a n c 1048576 bs _ (by omega) (by omega) HN.out HR.out HF.out HM.out).mono ?_
  rintro e w1 ⟨y, rfl, y0, y1, hy, hb⟩
  have HB1 := hid hb
  have HR1 := hid (HR.out.below hb)
  clear hb
  by_cases g0 : y < 0
  · go_wp2
    go_ret
    exact ⟨rfl, HB1.out⟩
  have h1 := hy (by omega)
  have hle : n ≤ 1048576 := by omega
  have HTt : Hid (totK bs n ≤ 1048576) := by unfold Hid; omega
  have HZ : Hid (SmlK bs) := sml_totK (by rw [HN.out]; exact HTt.out)
  have HSel := hid (HRt.out (by rw [HN.out]; exact HTt.out))
  clear h1 hy HRt
  -- the model
  go_wp2_with fail
  refine (f6 a n c bs _ HN.out hle HR1.out HZ.out).mono ?_
  rintro e w2 ⟨d2, Z2, rfl, ho, hb⟩
  have HB2 := hid (HB1.out.trans (hb.mono HB1.out.size))
  have HO2 := hid ho
  clear hb ho HB1 HR1
  generalize w1.heap.size = X1 at *
  go_wp2_with fail
  refine (HSp.out d2 X1 Z2 _ HZ.out hle HO2.out).mono ?_
  rintro e w3 ⟨aW, mW, cW, RW, rfl, hW, hb⟩
  have HK3 : Hid (Kw w a bs aW RW w3) := by
    have hb' := HB2.out.trans (hb.mono HB2.out.size)
    exact ⟨HR.out.below hb', hW.out.2.2.2, hb'⟩
  have HWl := hid hW.out.1
  have HWn := hid hW.out.2.1
  have HWs := hid hW.out.2.2.1
  clear hb hW HO2 HB2
  -- the program
  go_wp2_with fail
  refine (f6 a n c bs _ HN.out hle HK3.out.arg HZ.out).mono ?_
  rintro e w4 ⟨d4, Z4, rfl, ho4, hb⟩
  have HB4 := hid hb
  have HO4 := hid ho4
  have hS : w3.heap.size < w4.heap.size := (ho4.row.lt w3.heap.size rfl).2
  clear hb ho4
  go_wp2_with fail
  refine (HIm.out d4 _ Z4 _ HZ.out hle HO4.out).mono ?_
  rintro e w5 ⟨aG, mG, cG, RG, rfl, hG, hb⟩
  have HB5 : Hid (Below w3.heap.size w3 w5) := HB4.out.trans (hb.mono (Nat.le_of_lt hS))
  have HO5 := hid (HO4.out.below hb)
  have HGl := hid hG.out.1
  have HGn := hid hG.out.2.1
  have HGs := hid hG.out.2.2.1
  obtain ⟨LG, UG, hrow, hlo, hord⟩ := hG.out.2.2.2.ex
  have HA5 := hid hrow
  have HLo := hid hlo
  have HOr := hid hord
  have HTop4 : Hid (∀ i, i < n → Z4 (i + 1) ≤ w4.heap.size) := fun i hi => Nat.le_trans (zmono HO4.out.kin n (i + 1) hi (Nat.le_refl _)) HO4.out.kin.top
  have HZ4m := hid (zmono HO4.out.kin)
  have HZ4l := hid HO4.out.kin.lo
  have HD4l := hid HO4.out.kin.len
  have HD4s := hid HO4.out.kin.same
  have hmm : mW = mG := by rw [HWn.out, HGn.out]
  subst hmm
  clear hG hb hrow hlo hord HB4 HO4
  have hmn : mW ≤ n := by rw [HWn.out]; exact HLn.out
  have HRGs : Hid (SmlK RG) := HGs.out.sml HGl.out HWn.out.symm HSel.out.2
  have HSme : Hid (SameK mW RG RW) := HGs.out.trans HWs.out
  have HTG : Hid (1 + mkK RG mW ≤ 100000000) := by
    unfold Hid
    have h1 := mkK_tot RG mW
    have h2 := HGs.out.totK mW (Nat.le_refl _)
    have h3 := HSel.out.1
    rw [← HWn.out] at h3
    omega
  have HTD : Hid (1 + mkK d4 n ≤ 100000000) := by
    unfold Hid
    have h1 := mkK_tot d4 n
    have h2 := HD4s.out.totK n (Nat.le_refl _)
    have h3 := HTt.out
    omega
  have HD4z : Hid (SmlK d4) := HD4s.out.sml HD4l.out HN.out HZ.out
  generalize w4.heap.size = S4 at *
  -- alike
  have HK5 := hid (HK3.out.below HB5.out)
  go_wp2_with fail
  refine (f8 aG aW mW cG cW RG RW _ HGl.out HWl.out (by omega) (HA5.out.has wayOwn) HK5.out.ans HSme.out HRGs.out).mono ?_
  rintro e w6 ⟨rfl, hb⟩
  have HB6 := hid (HB5.out.trans (hb.mono HB5.out.size))
  have HO6 := hid (HO5.out.below hb)
  have HA6 := hid (HA5.out.below wayOwn hb)
  have HK6 := hid (HK5.out.below hb)
  clear hb HB5 HO5 HA5 HK5
  -- the argument is as it was
  go_wp2_with fail
  refine (f6 a n c bs _ HN.out hle HK6.out.arg HZ.out).mono ?_
  rintro e w7 ⟨d7, Z7, rfl, ho7, hb⟩
  have HB7 := hid (HB6.out.trans (hb.mono HB6.out.size))
  have HO7 := hid (HO6.out.below hb)
  have HA7 := hid (HA6.out.below wayOwn hb)
  have HP7 := hid ho7
  clear hb ho7 HB6 HO6 HA6 HK6
  generalize w6.heap.size = S6 at *
  go_wp2_with fail
  refine (f8 _ _ n n n d4 d7 _ HD4l.out HP7.out.kin.len hle HO7.out.has HP7.out.has (HD4s.out.trans HP7.out.kin.same) HD4z.out).mono ?_
  rintro e w8 ⟨rfl, hb⟩
  have HB8 := hid (HB7.out.trans (hb.mono HB7.out.size))
  have HO8 := hid (HO7.out.below hb)
  have HA8 := hid (HA7.out.below wayOwn hb)
  clear hb HB7 HO7 HA7 HP7
  -- what came in is marked
  have hs8 : w3.heap.size ≤ w8.heap.size := HB8.out.size
  go_wp2_with fail
  refine (f9 w3.heap.size S4 _ n n 1 d4 Z4 (fun i => Z4 (i + 1)) _ hle HTD.out (ownk_row HO8.out) (fun i hi => Nat.le_of_lt (HZ4l.out i (by omega))) (fun i j hij hj => HZ4m.out j (i + 1) (by omega) (by omega)) HTop4.out (fun g e => by cases e; exact hS) (fun i hi => HD4z.out i (by rw [HD4l.out]; exact hi))).mono ?_
  rintro e w9 ⟨rfl, _, hf9⟩
  have HB9 := hid (HB8.out.trans (fr_belowK hf9 (Nat.le_refl _) hs8))
  have HA9 := hid (rowk_fr HA8.out HLo.out hf9 (Nat.le_refl _))
  clear hf9 HB8 HO8 HA8
  obtain ⟨k1, hk1⟩ : ∃ k1 : Nat, k1 = 1 + mkK d4 n := ⟨_, rfl⟩
  rw [← hk1]
  clear hk1
  have hk2 : ¬ (k1 : Int) < 0 := by omega
  have HK9 := hid (HK3.out.below HB9.out)
  go_wp2_with fail
  refine (f8 aG aW mW cG cW RG RW _ HGl.out HWl.out (by omega) (HA9.out.has wayOwn) HK9.out.ans HSme.out HRGs.out).mono ?_
  rintro e w10 ⟨rfl, hb⟩
  have HB10 := hid (HB9.out.trans (hb.mono HB9.out.size))
  have HA10 := hid (HA9.out.below wayOwn hb)
  clear hb HB9 HA9 HK9
  -- what came out is marked, and held
  have hS4 : S4 ≤ w10.heap.size ∨ mW = 0 := by
    by_cases h0 : mW = 0
    · exact .inr h0
    · have h2 := HLo.out 0 (by omega)
      have h3 := (HA10.out.each 0 (by omega)).ex
      obtain ⟨g, k, M, _, _, _, _, o1, _, _, _, _, _, _, _⟩ := h3
      have h4 := o1.row.lt g rfl
      exact .inl (by omega)
  have HMk : Hid (Calls Tryz.prog 9 #[.slice aG mW cG, .int .i64 1] w10 fun e w' => e = .returned (.int .i64 ((1 + mkK RG mW : Nat) : Int)) ∧ RowK OwnC S4 aG mW cG (mbs 1 RG) LG UG w' ∧ Below w3.heap.size w10 w') := by
    refine (f9 S4 w10.heap.size aG mW cG 1 RG LG UG w10 (by omega) HTG.out HA10.out HLo.out HOr.out (fun i hi => (HA10.out.each i hi).top) (fun g e => (HA10.out.row.lt g e).2) (fun i hi => HRGs.out i (by rw [HGl.out]; exact hi))).mono ?_
    rintro e w' ⟨h1, h2, h3⟩
    exact ⟨h1, h2, fr_belowK h3 (Nat.le_of_lt hS) (HB10.out.size)⟩
  obtain ⟨k4, hk4⟩ : ∃ k4 : Nat, k4 = 1 + mkK RG mW := ⟨_, rfl⟩
  have HK4 := hid hk4
  rw [← hk4] at HMk
  clear hk4
  have hk5 : ¬ (k4 : Int) < 0 := by omega
  go_wp2_with fail
  refine HMk.out.mono ?_
  rintro e w11 ⟨rfl, hr11, hb⟩
  have HB11 := hid (HB10.out.trans hb)
  have HA11 := hid hr11
  clear hb hr11 HB10 HA10 HMk hS4
  have HHd : Hid (∀ z, RowK OwnC S4 aG mW cG (mbs 1 RG) LG UG z → Calls Tryz.prog 10 #[.slice aG mW cG, .int .i64 1] z fun e w' => e = .returned (.int .i64 (k4 : Int)) ∧ Below z.heap.size z w') := by
    intro z hz
    have := f10 S4 aG mW cG 1 RG LG UG z HGl.out (by omega) HTG.out hz (fun i hi => HRGs.out i (by rw [HGl.out]; exact hi))
    rw [← HK4.out] at this
    exact this
  go_wp2_with fail
  refine (HHd.out _ HA11.out).mono ?_
  rintro e w12 ⟨rfl, hb⟩
  have HB12 := hid (HB11.out.trans (hb.mono HB11.out.size))
  have HA12 := hid (HA11.out.below wayOwn hb)
  clear hb HB11 HA11
  -- once more
  have HK12 := hid (HK3.out.below HB12.out)
  go_wp2_with fail
  refine (f6 a n c bs _ HN.out hle HK12.out.arg HZ.out).mono ?_
  rintro e w13 ⟨d13, Z13, rfl, ho13, hb⟩
  have HB13 := hid (HB12.out.trans (hb.mono HB12.out.size))
  have HA13 := hid (HA12.out.below wayOwn hb)
  have HP13 := hid ho13
  clear hb ho13 HB12 HA12 HK12
  generalize w12.heap.size = S12 at *
  go_wp2_with fail
  refine (HIm.out d13 _ Z13 _ HZ.out hle HP13.out).mono ?_
  rintro e w14 ⟨aH, mH, cH, RH, rfl, hH, hb⟩
  have HB14 := hid (HB13.out.trans (hb.mono HB13.out.size))
  have HA14 := hid (HA13.out.below wayOwn hb)
  have HHl := hid hH.out.1
  have HHs := hid hH.out.2.2.1
  have hmH : mW = mH := by rw [HWn.out, hH.out.2.1]
  obtain ⟨LH, UH, hrowH, _, _⟩ := hH.out.2.2.2.ex
  have HHh := hid (hrowH.has wayOwn)
  subst hmH
  clear hH hb hrowH HB13 HA13 HP13
  have HK14 := hid (HK3.out.below HB14.out)
  go_wp2_with fail
  refine (f8 aH aW mW cH cW RH RW _ HHl.out HWl.out (by omega) HHh.out HK14.out.ans (HHs.out.trans HWs.out) (HHs.out.sml HHl.out HWn.out.symm HSel.out.2)).mono ?_
  rintro e w15 ⟨rfl, hb⟩
  have HB15 := hid (HB14.out.trans (hb.mono HB14.out.size))
  have HA15 := hid (HA14.out.below wayOwn hb)
  clear hb HB14 HA14 HK14 HHh
  go_wp2_with fail
  refine (HHd.out _ HA15.out).mono ?_
  rintro e w16 ⟨rfl, hb⟩
  have HB16 := hid (HB15.out.trans (hb.mono HB15.out.size))
  have HEnd := hid (HK3.out.below HB16.out).bel
  clear hb HB15 HA15
  go_wp2
  go_ret
  exact ⟨rfl, HEnd.out⟩
end Go.Proofs.YtmgghnmlhkahnaaGreat.Blk
