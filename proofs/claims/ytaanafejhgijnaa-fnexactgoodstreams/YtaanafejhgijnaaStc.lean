/- The program's GoodStreams. -/
import Derived.Test.YtaanafejhgijnaaStb
namespace Go.Proofs.Ytaanafejhgijnaa.Stm
open Go.RowKit
open Go.Proofs.Ytaanafejhgijnaa.Lab (Lb HasL goodL cmpList)
open Go.Proofs.Ytaanafejhgijnaa.Lin (Ln HasZ)
open Go.Proofs.Ytaanafejhgijnaa.Rwc
open Go.Proofs.Ytaanafejhgijnaa.Str (printL ret_bool)

/-- The time of the line ahead; 0 where there is none. -/
def lst (ns : List Ln) (k : Nat) : Int := if k = 0 then 0 else (ns.getD (k - 1) Lin.e0).1
theorem ok_lst {ns : List Ln} {k : Nat} : LnOk ns k ↔ lst ns k ≤ (ns.getD k Lin.e0).1 ∧ TimeP (ns.getD k Lin.e0).1 ∧ textB (ns.getD k Lin.e0).2 500 = true := by
  unfold LnOk lst
  by_cases h : k = 0
  · subst h; exact ⟨fun g => ⟨by simpa using g.1.1, g.1, g.2.1⟩, fun g => ⟨g.2.1, g.2.2, fun h0 => absurd h0 (by omega)⟩⟩
  · rw [if_neg h]; exact ⟨fun g => ⟨g.2.2 (by omega), g.1, g.2.1⟩, fun g => ⟨g.2.1, g.2.2, fun _ => g.1⟩⟩
set_option maxHeartbeats 4000000 in
theorem f16 (a : Option Addr) (n c : Nat) (ns : List Ln) (w : World) (hn : ns.length = n) (hb : n ≤ 1048576) (hr : HasZ w a ns) (hf : Lin.Fit ns) :
    Calls Try.prog 16 #[.slice a n c] w fun e w' => e = .returned (.bool (lnsB ns)) ∧ Below w.heap.size w w' := by
  have HN := hid hn
  have HR := hid hr
  have HF := hid hf
  clear hn hr hf
  by_cases h1 : (n : Int) < 1
  · have HY : Hid (lnsB ns = false) := decide_eq_false fun g => by have := g.1.1; have := HN.out; omega
    go_enter Try.func16, Try.ntmps16
    go_wp2
    go_ret
    exact ⟨by rw [HY.out]; rfl, Below.refl _ _⟩
  by_cases h4 : (n : Int) > 400
  · have HY : Hid (lnsB ns = false) := decide_eq_false fun g => by have := g.1.2; have := HN.out; omega
    go_enter Try.func16, Try.ntmps16
    go_wp2
    go_ret
    exact ⟨by rw [HY.out]; rfl, Below.refl _ _⟩
  go_enter Try.func16, Try.ntmps16
  go_wp2
  go_loopw [3, 16] (fun la i wr => ∃ k : Nat, k ≤ n ∧ i = .int .i64 k ∧ la = .int .i64 (lst ns k) ∧ Hid (∀ i, i < k → LnOk ns i) ∧ Hid (Below w.heap.size w wr)) (fun _ i _ => n - (intOf i).toNat)
  case atStart => exact ⟨0, Nat.zero_le _, rfl, rfl, fun i hi => by omega, Below.refl _ _⟩
  case round =>
    obtain ⟨k, hk, rfl, rfl, HU, HX⟩ := hrel
    by_cases hlt : k < n
    rotate_left
    · have HY := hid (lns_yes (ns := ns) (k := k) (by have := HN.out; omega) (by have := HN.out; omega) (by have := HN.out; omega) HU.out)
      have i1 : ¬ (k : Int) < (n : Int) := by omega
      go_wp2
      go_ret
      exact ⟨by rw [HY.out]; rfl, HX.out⟩
    have HNo := hid (lns_no (ns := ns) (k := k) (by rw [HN.out]; exact hlt))
    have HUs := hid (upto_succ HU.out)
    have HOk := hid (ok_lst (ns := ns) (k := k))
    have HLs : Hid (lst ns (k + 1) = (ns.getD k Lin.e0).1) := by unfold Hid lst; rw [if_neg (by omega)]; rfl
    rcases (HR.out.below HX.out) with h | ⟨b, off, rfl, hbl, hc⟩
    · exfalso; rw [h] at HN; have := HN.out; simp at this; omega
    obtain ⟨c0, c1⟩ := hc k (by rw [HN.out]; exact hlt)
    have hft := (HF.out k).2
    have HTm := fun x => hid (f33 (ns.getD k Lin.e0).1 x)
    have HTx := fun x => hid (f34 (ns.getD k Lin.e0).2 x hft)
    have i1 : (k : Int) < (n : Int) := by omega
    have i0 : (0 : Int) ≤ (k : Int) := by omega
    clear hc hft
    generalize (ns.getD k Lin.e0).1 = t at *
    generalize (ns.getD k Lin.e0).2 = s at *
    generalize lst ns k = l at *
    have HX1 := hid (HX.out.alloc HX.out.size (.cells #[.int .i64 t, .string s] 41))
    by_cases g1 : t < l
    · have HY := hid (HNo.out (fun g => by have := (HOk.out.1 g).1; omega))
      clear HNo HUs HOk HLs HTm HTx
      go_wp2
      go_ret
      exact ⟨by rw [HY.out]; rfl, HX1.out⟩
    by_cases g2 : TimeP t
    rotate_left
    · have HY := hid (HNo.out (fun g => g2 (HOk.out.1 g).2.1))
      simp only [decide_eq_false g2] at HTm
      clear HNo HUs HOk HLs HTx
      go_wp2_with (first | (go_at_call 33; refine (HTm _).out.mono ?_; rintro e wy ⟨rfl, rfl⟩) | fail)
      go_ret
      exact ⟨by rw [HY.out]; rfl, HX1.out⟩
    simp only [decide_eq_true g2] at HTm
    cases g3 : textB s 500
    · have HY := hid (HNo.out (fun g => by have := (HOk.out.1 g).2.2; rw [g3] at this; cases this))
      simp only [g3] at HTx
      clear HNo HUs HOk HLs
      go_wp2_with (first | (go_at_call 33; refine (HTm _).out.mono ?_; rintro e wy ⟨rfl, rfl⟩) | (go_at_call 34; refine (HTx _).out.mono ?_; rintro e wy ⟨rfl, rfl⟩) | fail)
      go_ret
      exact ⟨by rw [HY.out]; rfl, HX1.out⟩
    simp only [g3] at HTx
    have HY := hid (HUs.out (HOk.out.2 ⟨by omega, g2, g3⟩))
    clear HNo HUs HOk
    go_wp2_with (first | (go_at_call 33; refine (HTm _).out.mono ?_; rintro e wy ⟨rfl, rfl⟩) | (go_at_call 34; refine (HTx _).out.mono ?_; rintro e wy ⟨rfl, rfl⟩) | fail)
    go_roundw
    case rel => exact ⟨k + 1, by omega, by go_num, by rw [HLs.out], HY.out, HX1.out⟩
    case measure => simp [intOf]; omega

set_option maxHeartbeats 1000000 in
theorem f18 (q p : T) (w : World) (n1 : q.ls.length ≤ 1048576) (n2 : p.ls.length ≤ 1048576) (hq : HasL w q.la q.ls) (hp : HasL w p.la p.ls) :
    Calls Try.prog 18 #[agT q, agT p] w fun e w' => e = .returned (.int .i64 (cmpList q.ls p.ls)) ∧ Below w.heap.size w w' := by
  have HB := hid (((Below.refl w.heap.size w).alloc (Nat.le_refl _) (BX q)).alloc (by simp) (BX p))
  have HL := hid (hq.below HB.out)
  have HL' := hid (hp.below HB.out)
  have H1 := fun x a b => hid (Lab.f35 q.la p.la q.ls.length p.ls.length q.lc p.lc q.ls p.ls x rfl rfl n1 n2 a b)
  clear hq hp
  simp only [agT]
  go_enter Try.func18, Try.ntmps18
  go_wp2_with fail
  refine (H1 _ HL.out HL'.out).out.mono ?_
  rintro e w1 ⟨rfl, hb1⟩
  have HB1 := hid (HB.out.trans (hb1.mono HB.out.size))
  clear hb1
  go_wp2
  go_ret
  exact ⟨rfl, HB1.out⟩
def RiseP (ts : List T) : Prop := ∀ i, i < ts.length → 0 < i → cmpList (ts.getD (i - 1) t0).ls (ts.getD i t0).ls < 0
instance (ts : List T) : Decidable (RiseP ts) := by unfold RiseP; infer_instance
def riseW (ts : List T) : Bool := decide (RiseP ts)
set_option maxHeartbeats 4000000 in
theorem f17 (a : Option Addr) (n c : Nat) (ts : List T) (w : World) (hn : ts.length = n) (hb : n ≤ 1048576) (hr : Has w a ts) (hz : Sml ts) :
    Calls Try.prog 17 #[.slice a n c, .func (.func 18) #[] #[]] w fun e w' => e = .returned (.bool (riseW ts)) ∧ Below w.heap.size w w' := by
  have HN := hid hn
  have HR := hid hr
  have HZ := hid hz
  clear hn hr hz
  go_enter Try.func17, Try.ntmps17
  go_wp2
  go_loopw [5] (fun i wr => ∃ k : Nat, (k ≤ n ∨ k = 0) ∧ i = .int .i64 ((k : Int) + 1) ∧ Hid (∀ i, i ≤ k → 0 < i → cmpList (ts.getD (i - 1) t0).ls (ts.getD i t0).ls < 0) ∧ Hid (Below w.heap.size w wr)) (fun i _ => n + 1 - (intOf i).toNat)
  case atStart => exact ⟨0, .inr rfl, by go_num, fun i hi h => by omega, Below.refl _ _⟩
  case round =>
    obtain ⟨k, hk, rfl, HU, HX⟩ := hrel
    by_cases hlt : k + 1 < n
    · obtain ⟨b, off, rfl, hbl, hc, t1⟩ := (HR.out.below HX.out).at2 k (by rw [HN.out]; omega)
      obtain ⟨b', off', e0, hbl', hc', t1'⟩ := (HR.out.below HX.out).at2 (k + 1) (by rw [HN.out]; omega)
      obtain ⟨rfl, rfl⟩ : b = b' ∧ off = off' := by cases e0; exact ⟨rfl, rfl⟩
      obtain ⟨c0, c1⟩ := hc.all
      obtain ⟨c0', c1'⟩ := hc'.all
      have i1 : (k : Int) < (n : Int) := by omega
      have i2 : (k : Int) + 1 < (n : Int) := by omega
      have i3 : (0 : Int) ≤ (k : Int) := by omega
      have i4 : (0 : Int) ≤ (k : Int) + 1 := by omega
      have i5 : ((k : Int) + 1).toNat = k + 1 := by omega
      have hw1 : IntKind.i64.wrap (k : Int) = (k : Int) := by rw [IntKind.wrap_i64]; omega
      have hw2 : IntKind.i64.wrap ((k : Int) + 1 - 1) = (k : Int) := by rw [IntKind.wrap_i64]; omega
      have HNo : Hid (¬ cmpList (ts.getD k t0).ls (ts.getD (k + 1) t0).ls < 0 → riseW ts = false) := fun h => decide_eq_false fun g => h (g (k + 1) (by rw [HN.out]; exact hlt) (by omega))
      have HUs : Hid (cmpList (ts.getD k t0).ls (ts.getD (k + 1) t0).ls < 0 → ∀ i, i ≤ k + 1 → 0 < i → cmpList (ts.getD (i - 1) t0).ls (ts.getD i t0).ls < 0) := by
        intro h i hi h0
        by_cases e : i = k + 1
        · subst e; exact h
        · exact HU.out i (by omega) h0
      have N1 : Hid ((ts.getD k t0).ls.length ≤ 1048576) := by have := HZ.out k (by rw [HN.out]; omega); unfold wt at this; unfold Hid; omega
      have N2 : Hid ((ts.getD (k + 1) t0).ls.length ≤ 1048576) := by have := HZ.out (k + 1) (by rw [HN.out]; omega); unfold wt at this; unfold Hid; omega
      generalize ts.getD k t0 = p at *
      generalize ts.getD (k + 1) t0 = q at *
      have HE : Hid (EE w p q b (off + k * 2) b (off + (k + 1) * 2) wr) := ⟨c0, c1, c0', c1', t1, t1', hbl, hbl, HX.out⟩
      clear c0 c1 c0' c1' t1 t1' hbl hbl' e0 hc hc'
      by_cases h3 : 0 ≤ cmpList p.ls q.ls
      · go_wp2_with fail
        go_region_held3 (fun x => EE w p q b (off + k * 2) b (off + (k + 1) * 2) x) (first | exact HE.out.drew | assumption) (first | (go_at_call 18; refine (f18 p q _ N1.out N2.out (EE.t1 (by assumption)).l (EE.t3 (by assumption)).l).mono ?_; rintro e w2 ⟨rfl, hb2⟩; have hs2 := EE.below (by assumption) hb2; clear hb2))
        have HX2 := hid hs2.bel
        clear hs2
        go_wp2
        go_ret
        exact ⟨ret_bool (HNo.out (by omega)).symm, HX2.out⟩
      · go_wp2_with fail
        go_region_held3 (fun x => EE w p q b (off + k * 2) b (off + (k + 1) * 2) x) (first | exact HE.out.drew | assumption) (first | (go_at_call 18; refine (f18 p q _ N1.out N2.out (EE.t1 (by assumption)).l (EE.t3 (by assumption)).l).mono ?_; rintro e w2 ⟨rfl, hb2⟩; have hs2 := EE.below (by assumption) hb2; clear hb2))
        have HX2 := hid hs2.bel
        clear hs2
        go_wp2
        go_roundw
        case rel => exact ⟨k + 1, .inl (by omega), by go_num, HUs.out (by omega), HX2.out⟩
        case measure => simp [intOf]; omega
    · go_wp2
      go_ret
      exact ⟨ret_bool (by symm; refine decide_eq_true fun i hi h0 => HU.out i (by have := HN.out; omega) h0), HX.out⟩
theorem good_split {ts : List T} (h1 : ts.length ≤ 50) (h : ∀ i, i < ts.length → goodL (ts.getD i t0).ls = true ∧ lnsB (ts.getD i t0).ns = true) : goodW ts = riseW ts := by
  unfold goodW riseW
  refine decide_eq_decide.2 ⟨fun g i hi h0 => (g.2 i hi).2.2 h0, fun g => ⟨h1, fun i hi => ⟨(h i hi).1, (h i hi).2, g i hi⟩⟩⟩
set_option maxHeartbeats 4000000 in
theorem f7 (a : Option Addr) (n c : Nat) (ts : List T) (w : World) (hn : ts.length = n) (hb : n ≤ 1048576) (hr : Has w a ts) (hf : Fit ts) (hz : Sml ts) :
    Calls Try.prog 7 #[.slice a n c] w fun e w' => e = .returned (.bool (goodW ts)) ∧ Below w.heap.size w w' := by
  have HN := hid hn
  have HR := hid hr
  have HF := hid hf
  have HZ := hid hz
  clear hn hr hf hz
  by_cases h50 : n ≤ 50
  rotate_left
  · have h50' : 50 < (n : Int) := by omega
    go_enter Try.func7, Try.ntmps7
    go_wp2
    go_ret
    exact ⟨ret_bool (good_long (by have := HN.out; omega)).symm, Below.refl _ _⟩
  go_enter Try.func7, Try.ntmps7
  go_wp2
  go_loopw [10] (fun i wr => ∃ k : Nat, k ≤ n ∧ i = .int .i64 k ∧ Hid (∀ i, i < k → goodL (ts.getD i t0).ls = true ∧ lnsB (ts.getD i t0).ns = true) ∧ Hid (Below w.heap.size w wr)) (fun i _ => n - (intOf i).toNat)
  case atStart => exact ⟨0, Nat.zero_le _, rfl, fun i hi => by omega, Below.refl _ _⟩
  case round =>
    obtain ⟨k, hk, rfl, HU, HX⟩ := hrel
    by_cases hlt : k < n
    rotate_left
    · have HE := hid (good_split (ts := ts) (by rw [HN.out]; exact h50) (fun i hi => HU.out i (by have := HN.out; omega)))
      have H1 := hid (f17 a n c ts wr HN.out hb (HR.out.below HX.out) HZ.out)
      have i1 : ¬ (k : Int) < (n : Int) := by omega
      go_wp2_with fail
      refine H1.out.mono ?_
      rintro e w2 ⟨rfl, hb2⟩
      have HX2 := hid (HX.out.trans (hb2.mono HX.out.size))
      clear hb2
      go_wp2
      go_ret
      exact ⟨ret_bool HE.out.symm, HX2.out⟩
    have HNo := hid (good_no (ts := ts) (k := k) (by rw [HN.out]; exact hlt))
    have HUs : Hid (goodL (ts.getD k t0).ls = true ∧ lnsB (ts.getD k t0).ns = true → ∀ i, i < k + 1 → goodL (ts.getD i t0).ls = true ∧ lnsB (ts.getD i t0).ns = true) := upto_succ HU.out
    have HOk : Hid (StOk ts k → goodL (ts.getD k t0).ls = true ∧ lnsB (ts.getD k t0).ns = true) := fun h => ⟨h.1, h.2.1⟩
    obtain ⟨b, off, rfl, hbl, hc, hl⟩ := (HR.out.below HX.out).at2 k (by rw [HN.out]; exact hlt)
    have HFq := hid (HF.out k)
    have HZq := hid (HZ.out k (by rw [HN.out]; exact hlt))
    obtain ⟨c0, c1⟩ := hc.all
    generalize ts.getD k t0 = q at *
    have hzn : q.ns.length ≤ 1048576 := by have := HZq.out; unfold wt at this; omega
    have HB0 := hid (HX.out.alloc HX.out.size (BX q))
    have HX0 := hid (heap_alloc_new wr (BX q))
    have HL0 := hid (hl.below ((Below.refl _ _).alloc (Nat.le_refl _) (BX q)))
    have H1 := fun x hx => hid (Lab.f15 q.la q.ls.length q.lc q.ls x rfl HFq.out.l.2 hx HFq.out.l.1)
    have H2 := fun x hx => hid (f16 q.na q.ns.length q.nc q.ns x rfl hzn hx HFq.out.n.1)
    have i1 : (k : Int) < (n : Int) := by omega
    have i0 : (0 : Int) ≤ (k : Int) := by omega
    obtain ⟨W0, hW⟩ : ∃ W, W = wr.alloc (BX q) := ⟨_, rfl⟩
    rw [← hW] at HB0 HX0 HL0
    have HW := hid hW
    clear hW hc hl
    go_upto_region 6 with fail
    rw [← HW.out]
    clear HW c0 c1 hbl HX
    generalize wr.heap.size = B at *
    obtain ⟨x0, x1⟩ := cellsN HX0.out
    generalize goodL q.ls = b1 at *
    generalize lnsB q.ns = b2 at *
    cases b1
    · have HY := hid (HNo.out (fun g => by have := (HOk.out g).1; cases this))
      go_wp2_with fail
      refine (H1 _ HL0.out.l).out.mono ?_
      rintro e w1 ⟨rfl, hb⟩
      have HB1 := hid (HB0.out.trans (hb.mono HB0.out.size))
      clear hb
      go_wp2
      go_ret
      exact ⟨ret_bool HY.out.symm, HB1.out⟩
    go_wp2_with fail
    refine (H1 _ HL0.out.l).out.mono ?_
    rintro e w1 ⟨rfl, hb⟩
    have HB1 := hid (HB0.out.trans (hb.mono HB0.out.size))
    have HX1 := hid (kept HX0.out hb)
    have HL1 := hid (HL0.out.below hb)
    clear hb HB0 HX0 HL0 x0 x1 H1
    obtain ⟨x0, x1⟩ := cellsN HX1.out
    cases b2
    · have HY := hid (HNo.out (fun g => by have := (HOk.out g).2; cases this))
      go_wp2_with fail
      refine (H2 _ HL1.out.n).out.mono ?_
      rintro e w2 ⟨rfl, hb⟩
      have HB2 := hid (HB1.out.trans (hb.mono HB1.out.size))
      clear hb
      go_wp2
      go_ret
      exact ⟨ret_bool HY.out.symm, HB2.out⟩
    have HY := hid (HUs.out (by simp))
    go_wp2_with fail
    refine (H2 _ HL1.out.n).out.mono ?_
    rintro e w2 ⟨rfl, hb⟩
    have HB2 := hid (HB1.out.trans (hb.mono HB1.out.size))
    clear hb
    go_wp2
    go_roundw
    case rel => exact ⟨k + 1, by omega, by go_num, HY.out, HB2.out⟩
    case measure => simp [intOf]; omega
end Go.Proofs.Ytaanafejhgijnaa.Stm
