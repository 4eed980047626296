/- The model's tree of routes: l20Take, GoodRoutes. -/
import Derived.Test.YthcogkoleiejgaaGreatDoorRRT
import Derived.Deep.CutRange
import Derived.Test.YthcogkoleiejgaaGreatDoorRRH
namespace Go.Proofs.YthcogkoleiejgaaGreatDoor.Rou
open Go.RowKit
open Go.Proofs.YthcogkoleiejgaaGreatDoor.Rwc

/-- What l20Take gives of the rows from a place on. -/
def TakeR (ts : List T) (at_ d : Nat) (w : World) (e : Ending) (w' : World) : Prop :=
  Below w.heap.size w w' ∧ ((e = .returned (.int .i64 (-1)) ∧ ∀ t x, (ts.map pl).drop at_ = rows t ++ x → ¬ Gt NR d t) ∨
    ∃ t x, e = .returned (.int .i64 ((at_ + (rows t).length : Nat) : Int)) ∧ (ts.map pl).drop at_ = rows t ++ x ∧ Gt NR d t ∧ at_ + (rows t).length ≤ ts.length)
def TakeOk (D : Nat) : Prop := ∀ (ts : List T) (a : Option Addr) (c at_ d : Nat) (w : World), 9 ≤ d + D → d ≤ 9 → at_ ≤ ts.length → ts.length ≤ 1048576 → Has w a ts → Fit ts → Sml ts →
  Calls Tryz.prog 52 #[.slice a ts.length c, .int .i64 at_, .int .i64 d] w (TakeR ts at_ d w)
theorem drop_at {ts : List T} {k : Nat} (h : k < ts.length) : (ts.map pl).drop k = pl (ts.getD k t0) :: (ts.map pl).drop (k + 1) := by
  rw [List.drop_eq_getElem_cons (by simpa using h)]
  simp [List.getD_eq_getElem?_getD, h]
set_option maxHeartbeats 8000000 in
/-- Where there is none for sure. -/
theorem take_none (ts : List T) (a : Option Addr) (c at_ d : Nat) (w : World) (hd : d ≤ 9) (_hat : at_ ≤ ts.length) (_hl : ts.length ≤ 1048576) (h : at_ = ts.length ∨ d = 9) :
    Calls Tryz.prog 52 #[.slice a ts.length c, .int .i64 at_, .int .i64 d] w (TakeR ts at_ d w) := by
  have HY : Hid (∀ t x, (ts.map pl).drop at_ = rows t ++ x → ¬ Gt NR d t) := by
    intro t x e
    rcases h with h | h
    · rw [List.drop_eq_nil_of_le (by simp; omega)] at e
      exact no_rows t x e
    · obtain ⟨r, ks⟩ := t
      rintro ⟨_, h2, _⟩
      have := h2.2
      omega
  by_cases h1 : (at_ : Int) ≥ (ts.length : Int)
  · clear h
    generalize ts.length = n at *
    go_enter Tryz.func52, Tryz.ntmps52
    go_wp2
    go_ret
    exact ⟨Below.refl _ _, .inl ⟨rfl, HY.out⟩⟩
  · have h2 : (d : Int) > 8 := by omega
    clear h
    generalize ts.length = n at *
    go_enter Tryz.func52, Tryz.ntmps52
    go_wp2
    go_ret
    exact ⟨Below.refl _ _, .inl ⟨rfl, HY.out⟩⟩
set_option maxHeartbeats 8000000 in
theorem take_step (D : Nat) (IH : TakeOk D) : TakeOk (D + 1) := by
  intro ts a c at_ d w hD hd hat hlen hr hf hz
  by_cases h0 : at_ = ts.length ∨ d = 9
  · exact take_none ts a c at_ d w hd hat hlen h0
  have hd8 : ¬ (d : Int) > 8 := by omega
  have HIH := hid IH
  have HR := hid hr
  have HF := hid hf
  have HZ := hid hz
  obtain ⟨n, hn⟩ : ∃ n, n = ts.length := ⟨_, rfl⟩
  have HN := hid hn
  rw [← hn] at hlen hat ⊢
  have hlt : at_ < n := by omega
  have i1 : ¬ (at_ : Int) ≥ (n : Int) := by omega
  have i2 : (at_ : Int) < (n : Int) := by omega
  clear IH hr hf hz hn h0
  obtain ⟨b, off, hab, hbl, hcl, hlst⟩ := HR.out.at2 at_ (by rw [← HN.out]; exact hlt)
  have HD1 := hid (drop_at (ts := ts) (k := at_) (by rw [← HN.out]; exact hlt))
  have G := hid (HF.out at_)
  have Z := hid (HZ.out at_ (by rw [← HN.out]; exact hlt))
  have HL := hid hlst
  generalize ts.getD at_ t0 = q at *
  subst hab
  have HCL := hid hcl
  obtain ⟨c0, c1, c2, c3, c4, c5, c6, c7, c8⟩ := hcl.all
  have HNH : Hid ((∀ ks : List Tr, (pl q).kd = ks.length → ¬ NR d (pl q) ks) → ∀ t x, (ts.map pl).drop at_ = rows t ++ x → ¬ Gt NR d t) := by
    intro h t x e; rw [HD1.out] at e; exact no_here h t x e
  clear hlst hcl
  by_cases hk0 : q.kd < 0
  · have HY := hid (HNH.out (fun ks e _ => by have : q.kd = ks.length := e; omega))
    go_enter Tryz.func52, Tryz.ntmps52
    go_wp2
    go_ret
    exact ⟨Below.refl _ _, .inl ⟨rfl, HY.out⟩⟩
  have HC := hid (f86 q w HL.out G.out Z.out)
  cases hok : okR q
  · rw [hok] at HC
    have HY := hid (HNH.out (fun ks e h => by have := h.1; rw [show okP (pl q) = false from hok] at this; cases this))
    clear hok
    go_enter Tryz.func52, Tryz.ntmps52
    go_wp2_with fail
    refine HC.out.mono ?_
    rintro e w1 ⟨rfl, hb1⟩
    have HB1 := hid hb1
    clear hb1 HC
    go_wp2
    go_ret
    exact ⟨HB1.out, .inl ⟨rfl, HY.out⟩⟩
  rw [hok] at HC
  have HOK : Hid (okP (pl q) = true) := hok
  clear hok
  have HT0 : Hid ((ts.map pl).drop at_ = pl q :: (rowsL [] ++ (ts.map pl).drop (at_ + 1))) := by unfold Hid; rw [HD1.out]; simp [rowsL]
  go_enter Tryz.func52, Tryz.ntmps52
  go_wp2_with fail
  refine HC.out.mono ?_
  rintro e w1 ⟨rfl, hb1⟩
  have HB1 := hid hb1
  clear hb1 HC c0 c1 c2 c3 c4 c5 c6 c7 c8
  go_wp2
  go_loopw [7, 8] (fun s7 s8 wr => ∃ (ks : List Tr) (k' : Nat), s7 = .int .i64 k' ∧ s8 = .int .i64 ks.length ∧ k' ≤ n ∧ at_ + 1 ≤ k' ∧ Hid (k' = at_ + 1 + (rowsL ks).length) ∧ Hid ((ts.map pl).drop at_ = pl q :: (rowsL ks ++ (ts.map pl).drop k')) ∧ Hid (GtL NR (d + 1) ks) ∧ (ks.length : Int) ≤ q.kd ∧ ks.length ≤ n ∧ Hid (Below w.heap.size w wr)) (fun _ s8 _ => (q.kd - intOf s8).toNat)
  case atStart => exact ⟨[], at_ + 1, by go_num, rfl, by omega, Nat.le_refl _, by unfold Hid; simp [rowsL], HT0, by unfold Hid; simp [GtL], by simp; omega, by simp, HB1⟩
  case round =>
    obtain ⟨ks, k', rfl, rfl, hk1, hk3, HK2, HT, HG, hj, hj2, HB⟩ := hrel
    have x8 := (HCL.out.below HB.out hbl).all.2.2.2.2.2.2.2.2
    by_cases hlt2 : (ks.length : Int) < q.kd
    · have HCALL := hid (HIH.out ts (some ⟨b, off, none⟩) c k' (d + 1) wr (by omega) (by omega) (by have := HN.out; omega) (by have := HN.out; omega) (HR.out.below HB.out) HF.out HZ.out)
      rw [← HN.out] at HCALL
      go_wp2_with fail
      refine HCALL.out.mono ?_
      clear HCALL
      rintro e w2 ⟨hb2, hk⟩
      have HB2 := hid (HB.out.trans (hb2.mono HB.out.size))
      rcases hk with ⟨rfl, hno⟩ | ⟨t, x, rfl, he2, hgt, hle⟩
      · have HNO := hid hno
        clear hno hb2 x8
        go_wp2
        go_ret
        refine ⟨HB2.out, .inl ⟨rfl, fun t x e => ?_⟩⟩
        rw [HT.out] at e
        exact no_more HG.out hlt2 (fun t' x' e' hg' _ _ _ => HNO.out t' x' e' hg') t x e
      · have HT4 : Hid ((ts.map pl).drop at_ = pl q :: (rowsL (ks ++ [t]) ++ (ts.map pl).drop (k' + (rows t).length))) := by
          unfold Hid
          have e2 : (ts.map pl).drop (k' + (rows t).length) = x := by rw [← List.drop_drop, he2, List.drop_left]
          rw [HT.out, he2, e2, rowsL_append]; simp [rowsL]
        have HG4 : Hid (GtL NR (d + 1) (ks ++ [t])) := by unfold Hid; rw [GtL_append]; exact ⟨HG.out, by simp only [GtL]; exact ⟨hgt, trivial⟩⟩
        have HK4 : Hid (k' + (rows t).length = at_ + 1 + (rowsL (ks ++ [t])).length) := by unfold Hid; rw [rowsL_append, HK2.out]; simp [rowsL]; omega
        have hle' : k' + (rows t).length ≤ n := by have := HN.out; omega
        have hrp := rows_pos t
        have hj4 : ks.length + 1 ≤ n := by have := HK4.out; rw [rowsL_append] at this; have := rowsL_len ks; simp [rowsL] at *; omega
        clear he2 hgt hle hb2 x8
        generalize (rows t).length = R at *
        go_wp2
        go_roundw
        case rel => exact ⟨ks ++ [t], k' + R, by go_num, by simp, hle', by omega, HK4, HT4, HG4, by simp; omega, by simpa using hj4, HB2⟩
        case measure => simp [intOf]; omega
    · go_wp2
      go_ret
      refine ⟨HB.out, .inr ⟨.nd (pl q) ks, (ts.map pl).drop k', ?_, ?_, ?_, ?_⟩⟩
      · rw [HK2.out]; simp [rows]; omega
      · rw [HT.out]; simp [rows]
      · exact kids_all (by show q.kd = _; omega) ⟨HOK.out, by omega⟩ HG.out
      · simp [rows]; have := HN.out; have := HK2.out; omega
theorem take_ok : ∀ D, TakeOk D
  | 0 => fun ts a c at_ d w h1 h2 h3 h4 _ _ _ => take_none ts a c at_ d w h2 h3 h4 (.inr (by omega))
  | D + 1 => take_step D (take_ok D)
end Go.Proofs.YthcogkoleiejgaaGreatDoor.Rou
/- The model's GoodRoutes. -/
namespace Go.Proofs.YthcogkoleiejgaaGreatDoor.Rou
open Go.RowKit
open Go.Proofs.YthcogkoleiejgaaGreatDoor.Rwc

set_option maxHeartbeats 8000000 in
theorem f22 (ts : List T) (a : Option Addr) (c : Nat) (w : World) (_hb : ts.length ≤ 1048576) (hr : Has w a ts) (hf : Fit ts) (hz : Sml ts) :
    Calls Tryz.prog 22 #[.slice a ts.length c] w fun e w' => e = .returned (.bool (goodR ts)) ∧ Below w.heap.size w w' := by
  have HR := hid hr
  have HF := hid hf
  have HZ := hid hz
  clear hr hf hz
  by_cases h0 : ts.length = 0
  · have HY : Hid (goodR ts = false) := goodP_false fun g => by
      obtain ⟨_, t, ht⟩ := g
      have := rows_pos t
      rw [← ht.rows] at this
      simp at this
      rw [List.length_eq_zero_iff.1 h0] at this; simp at this
    have g0 : ¬ ((ts.length : Int) > 0) := by omega
    rw [HY.out, h0]
    clear h0 g0
    go_enter Tryz.func22, Tryz.ntmps22
    go_wp2
    go_ret
    exact ⟨rfl, Below.refl _ _⟩
  obtain ⟨n, hn⟩ : ∃ n, n = ts.length := ⟨_, rfl⟩
  have HN := hid hn
  have g0 : (n : Int) > 0 := by omega
  have g0' : ¬ n = 0 := by omega
  by_cases h40 : (n : Int) ≤ 40
  rotate_left
  · have HY : Hid (goodR ts = false) := goodP_false fun g => by have := g.1; simp at this; omega
    rw [HY.out, ← hn]
    clear hn h0
    go_enter Tryz.func22, Tryz.ntmps22
    go_wp2
    go_ret
    exact ⟨rfl, Below.refl _ _⟩
  have HC : Hid (Calls Tryz.prog 52 #[.slice a ts.length c, .int .i64 0, .int .i64 1] w (TakeR ts 0 1 w)) := take_ok 8 ts a c 0 1 w (by omega) (by omega) (Nat.zero_le _) (by omega) HR.out HF.out HZ.out
  obtain ⟨b, off, hab, hbl, hcl, _⟩ := HR.out.at2 0 (by omega)
  have hcl' : Cells w b off (ts.getD 0 t0) := by simpa using hcl
  have HCL := hid hcl'
  have HD1 := hid (drop_at (ts := ts) (k := 0) (by omega))
  generalize ts.getD 0 t0 = q at *
  subst hab
  rw [← hn] at HC ⊢
  clear hcl hcl' hn h0
  obtain ⟨R, hR⟩ : ∃ R, R = goodR ts := ⟨_, rfl⟩
  have HRR := hid hR
  rw [← hR]
  clear hR
  go_enter Tryz.func22, Tryz.ntmps22
  go_wp2_with fail
  refine HC.out.mono ?_
  clear HC
  rintro e w1 ⟨hb1, hk⟩
  have HB1 := hid hb1
  obtain ⟨x0, x1, x2, x3, x4, x5, x6, x7, x8⟩ := (HCL.out.below hb1 hbl).all
  rcases hk with ⟨rfl, hno⟩ | ⟨t, x, rfl, he2, hgt, hle⟩
  · have HY : Hid (R = false) := by
      unfold Hid; rw [HRR.out]
      refine goodP_false fun g => ?_
      obtain ⟨_, t, ht⟩ := g
      exact hno t [] (by simpa using ht.rows) ht.gt
    have e1 : ((-1 : Int) == (n : Int)) = false := by first | simp | (simp; omega)
    clear hno hb1
    go_wp2
    go_ret
    exact ⟨by rw [HY.out]; first | rfl | simp, HB1.out⟩
  · have HE2 : Hid (ts.map pl = rows t ++ x) := he2
    have HGT := hid hgt
    have HLN : Hid (n = (rows t).length + x.length) := by unfold Hid; have := congrArg List.length he2; simp at this; have := HN.out; omega
    have HR0 : Hid (t.r = pl q) := by
      obtain ⟨r, ks⟩ := t
      have := HD1.out
      have h2 := he2
      rw [h2] at this
      simp only [rows, List.cons_append, List.cons.injEq] at this
      exact this.1
    have HONE : Hid (∀ t', Is (ts.map pl) t' → t' = t ∧ x = []) := fun t' h => by
      have h1 : rows t' ++ [] = rows t ++ x := by rw [List.append_nil, ← h.rows]; exact he2
      obtain ⟨e1, e2⟩ := rows_one NR NR t' t 1 1 [] x h.gt hgt h1
      exact ⟨e1, e2.symm⟩
    clear he2 hgt hle hb1
    rw [Nat.zero_add]
    by_cases hx : (rows t).length = n
    rotate_left
    · have HY : Hid (R = false) := by
        unfold Hid; rw [HRR.out]
        refine goodP_false fun g => ?_
        obtain ⟨_, t', ht⟩ := g
        have := (HONE.out t' ht).2
        have h2 := HLN.out
        rw [this] at h2
        simp at h2
        omega
      have e1 : (((rows t).length : Int) == (n : Int)) = false := by simp; omega
      generalize (rows t).length = L at *
      go_wp2
      go_ret
      exact ⟨by rw [HY.out]; first | rfl | simp, HB1.out⟩
    have hx0 : x = [] := List.length_eq_zero_iff.1 (by have := HLN.out; omega)
    have HX0 := hid hx0
    have HM : Hid (t.r.ms = q.ms) := by unfold Hid; rw [HR0.out]; rfl
    have HO : Hid (t.r.on = q.on) := by unfold Hid; rw [HR0.out]; rfl
    rw [hx]
    have e1 : ((n : Int) == (n : Int)) = true := by simp
    clear hx hx0
    by_cases hms : q.ms.length = 0
    rotate_left
    · have HY : Hid (R = false) := by
        unfold Hid; rw [HRR.out]
        refine goodP_false fun g => ?_
        obtain ⟨_, t', ht⟩ := g
        have := ht.ms
        rw [(HONE.out t' ht).1] at this
        exact hms (by rw [← HM.out, this]; rfl)
      have e2 : ((q.ms.length : Int) == 0) = false := by simp; intro h; exact hms (by rw [h]; rfl)
      go_wp2
      go_ret
      exact ⟨by rw [HY.out]; first | rfl | simp, HB1.out⟩
    have HM0 := hid (List.length_eq_zero_iff.1 hms)
    rw [hms] at x1
    clear hms
    have HY : Hid (R = !q.on) := by
      unfold Hid; rw [HRR.out]
      cases hon : q.on
      · exact goodP_true ⟨by simp; have := HN.out; omega, t, by have := HE2.out; rw [HX0.out, List.append_nil] at this; exact this, HGT.out, HM.out.trans HM0.out, HO.out.trans hon⟩
      · refine goodP_false fun g => ?_
        obtain ⟨_, t', ht⟩ := g
        have := ht.on
        rw [(HONE.out t' ht).1, HO.out, hon] at this
        cases this
    go_wp2
    go_ret
    exact ⟨by rw [HY.out]; rfl, HB1.out⟩
end Go.Proofs.YthcogkoleiejgaaGreatDoor.Rou
/- The walk of FnExactGoodRoutes. -/
namespace Go.Proofs.YthcogkoleiejgaaGreatDoor.Rou
open Go.RowKit
open Go.Proofs.YthcogkoleiejgaaGreatDoor.Rwc
theorem f22n (a : Option Addr) (n c : Nat) (ts : List T) (w : World) (hn : ts.length = n) (hb : n ≤ 1048576) (hr : Has w a ts) (hf : Fit ts) (hz : Sml ts) :
    Calls Tryz.prog 22 #[.slice a n c] w fun e w' => e = .returned (.bool (goodR ts)) ∧ Below w.heap.size w w' := by
  subst hn; exact f22 ts a c w hb hr hf hz
theorem f30n (a : Option Addr) (n c : Nat) (ts : List T) (w : World) (hn : ts.length = n) (hb : n ≤ 1048576) (hr : Has w a ts) (hf : Fit ts) (hz : Sml ts) :
    Calls Tryz.prog 30 #[.slice a n c] w fun e w' => e = .returned (.bool (goodR ts)) ∧ Below w.heap.size w w' := by
  subst hn; exact f30 ts a c w hb hr hf hz

end Go.Proofs.YthcogkoleiejgaaGreatDoor.Rou
