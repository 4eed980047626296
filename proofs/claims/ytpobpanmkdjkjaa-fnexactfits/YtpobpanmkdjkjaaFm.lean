/- Matchers asked about labels: the program's Fits, and the walk of FnExactFits. -/
import Derived.Test.YtpobpanmkdjkjaaFj
namespace Go.Proofs.Ytpobpanmkdjkjaa.Lab
open Go.RowKit Go.Proofs.Ytpobpanmkdjkjaa.Str

set_option maxHeartbeats 1000000 in
theorem f24L (L : Int) (hL0 : 0 ≤ L) (hL1 : L ≤ 1048576) (a : Option Addr) (n c : Nat) (ls : List Lb) (w : World) (hn : ls.length = n) (hr : HasL w a ls) (hf : Fit ls) (hmax : n ≤ maxLen) :
    Calls Try.prog 17 #[.slice a n c, .int .i64 L] w fun e w' => ∃ y : Int, e = .returned (.int .i64 y) ∧ (0 ≤ y → n ≤ 1048576) ∧ -1 ≤ y ∧ y ≤ 1048576 ∧ Below w.heap.size w w' := by
  unfold maxLen at hmax
  by_cases hbig0 : (n : Int) ≤ L
  · have hbig : n ≤ 1048576 := by omega
    have HN := hid hn
    clear hn
    go_enter Try.func17, Try.ntmps17
    go_wp2
    go_loopw [1, 5] (fun sx i wr => ∃ (k : Nat) (x : Int), k ≤ n ∧ i = .int .i64 k ∧ sx = .int .i64 x ∧ 0 ≤ x ∧ x ≤ 1048576 ∧ Below w.heap.size w wr) (fun _ i _ => n - (intOf i).toNat)
    case atStart => exact ⟨0, _, Nat.zero_le _, rfl, rfl, by omega, by omega, Below.refl _ _⟩
    case round =>
      obtain ⟨k, x, hk, rfl, rfl, hx0, hx1, hb⟩ := hrel
      have HB := hid hb
      by_cases hlt : k < n
      · rcases hr with h | ⟨b, off, rfl, h2, h3⟩
        · exfalso; rw [h] at HN; have := HN.out; simp at this; omega
        obtain ⟨c0, c1⟩ := h3 k (by rw [HN.out]; exact hlt)
        obtain ⟨g0, g1⟩ := hf k
        have d0 := (hb.cell (p := ⟨b, off + k * 2, none⟩) h2).trans c0
        have d1 := (hb.cell (p := ⟨b, off + k * 2 + 1, none⟩) h2).trans c1
        clear h3 c0 c1 hb
        generalize (ls.getD k e0).1 = s at *
        generalize (ls.getD k e0).2 = t at *
        go_wp2_with fail
        refine (f36 s t x _ g0 g1 hx0 hx1).mono ?_
        rintro e w2 ⟨y, rfl, y0, y1, hb2⟩
        have HB2 := hid (HB.out.trans (hb2.mono HB.out.size))
        clear hb2 d0 d1
        by_cases hy : y < 0
        · go_wp2
          go_ret
          exact ⟨-1, rfl, fun h => absurd h (by omega), by omega, by omega, HB2.out⟩
        · go_wp2
          go_roundw
          case rel => exact ⟨k + 1, y, by omega, by go_num, rfl, by omega, y1, HB2.out⟩
          case measure => simp [intOf]; omega
      · go_wp2
        go_ret
        exact ⟨x, rfl, fun _ => hbig, by omega, hx1, HB.out⟩
  · go_enter Try.func17, Try.ntmps17
    go_wp2
    go_ret
    exact ⟨-1, rfl, fun h => absurd h (by omega), by omega, by omega, Below.refl _ _⟩


theorem has_of (ls : List Lb) (x : ByteArray) : ∃ v, OfV ls x v := by
  by_cases h : ∃ k, k < ls.length ∧ (ls.getD k e0).1 = x
  · obtain ⟨k, hk, hx⟩ := h
    have key : ∀ n, (∃ k, k < n ∧ k < ls.length ∧ (ls.getD k e0).1 = x) → ∃ v, OfV ls x v := by
      intro n
      induction n with
      | zero => rintro ⟨k, h, _⟩; omega
      | succ n ih =>
        rintro ⟨k, h1, h2, h3⟩
        by_cases h4 : ∃ k, k < n ∧ k < ls.length ∧ (ls.getD k e0).1 = x
        · exact ih h4
        · exact ⟨(ls.getD k e0).2, .inl ⟨k, h2, h3, rfl, fun i hi he => h4 ⟨i, by omega, by omega, he⟩⟩⟩
    exact key (k + 1) ⟨k, by omega, hk, hx⟩
  · exact ⟨ByteArray.empty, .inr ⟨fun k hk he => h ⟨k, hk, he⟩, rfl⟩⟩
theorem vals (ls : List Lb) : ∃ val : ByteArray → ByteArray, ∀ x, OfV ls x (val x) := ⟨fun x => Classical.choose (has_of ls x), fun x => Classical.choose_spec (has_of ls x)⟩
end Go.Proofs.Ytpobpanmkdjkjaa.Lab
namespace Go.Proofs.Ytpobpanmkdjkjaa.Pat
open Go.RowKit

/-- What both Fits come to. -/
def fitsF (ms : List Mt) (ls : List Lab.Lb) (val : ByteArray → ByteArray) : Bool := goodM ms && Lab.goodL ls && allM ms val
set_option maxHeartbeats 2000000 in
theorem f18 (a a' : Option Addr) (n c n' c' : Nat) (ms : List Mt) (ls : List Lab.Lb) (val : ByteArray → ByteArray) (w : World) (hn : ms.length = n) (hn' : ls.length = n') (hmax : n ≤ maxLen) (hmax' : n' ≤ maxLen) (hr : HasM w a ms) (hr' : Lab.HasL w a' ls) (hf : FitM ms) (hf' : Lab.Fit ls) (hval : ∀ x, Lab.OfV ls x (val x)) :
    Calls Try.prog 18 #[.slice a n c, .slice a' n' c'] w fun e w' => e = .returned (.bool (fitsF ms ls val)) ∧ Below w.heap.size w w' := by
  have HN := hid hn
  have HN' := hid hn'
  have HR := hid hr
  have HR' := hid hr'
  have HV := hid hval
  clear hn hn' hr hr' hval
  go_enter Try.func18, Try.ntmps18
  go_wp2_with fail
  refine (f37 a n c ms _ HN.out hmax HR.out hf).mono ?_
  rintro e w1 ⟨rfl, hb1⟩
  have HB1 := hid hb1
  clear hb1
  by_cases hm : goodM ms = true
  · have HM := hid hm
    rw [hm]
    clear hm
    go_wp2_with fail
    refine (Lab.f38 a' n' c' ls _ HN'.out hmax' (HR'.out.below HB1.out) hf').mono ?_
    rintro e w2 ⟨rfl, hb2⟩
    have HB2 := hid (HB1.out.trans (hb2.mono HB1.out.size))
    clear hb2
    by_cases hg : Lab.goodL ls = true
    · have HG := hid (Lab.good_iff hg)
      have HF : Hid (fitsF ms ls val = allM ms val) := by unfold Hid fitsF; rw [HM.out, hg]; rfl
      rw [hg]
      clear hg
      go_wp2_with fail
      refine (f39 a a' n c n' c' ms ls val _ HN.out HN'.out (HR.out.below HB2.out) (HR'.out.below HB2.out) HM.out HG.out HV.out).mono ?_
      rintro e w3 ⟨rfl, hb3⟩
      have HB3 := hid (HB2.out.trans (hb3.mono HB2.out.size))
      clear hb3
      go_wp2
      go_ret
      exact ⟨by rw [HF.out]; rfl, HB3.out⟩
    · have hg' : Lab.goodL ls = false := by simpa using hg
      have HF : Hid (fitsF ms ls val = false) := by unfold Hid fitsF; rw [hg']; simp
      rw [hg']
      clear hg hg'
      go_wp2
      go_ret
      exact ⟨by rw [HF.out]; rfl, HB2.out⟩
  · have hm' : goodM ms = false := by simpa using hm
    have HF : Hid (fitsF ms ls val = false) := by unfold Hid fitsF; rw [hm']; simp
    rw [hm']
    clear hm hm'
    go_wp2
    go_ret
    exact ⟨by rw [HF.out]; rfl, HB1.out⟩
set_option maxHeartbeats 4000000 in
theorem f44 (a a' : Option Addr) (n c n' c' : Nat) (ms : List Mt) (ls : List Lab.Lb) (val : ByteArray → ByteArray) (w : World) (hn : ms.length = n) (hn' : ls.length = n') (hm : goodM ms = true) (hg : Lab.goodL ls = true) (hr0 : HasM w a ms) (hr' : Lab.HasL w a' ls) (hval : ∀ x, Lab.OfV ls x (val x)) :
    Calls Try.prog 44 #[.slice a n c, .slice a' n' c'] w fun e w' => e = .returned (.bool (allM ms val)) ∧ Below w.heap.size w w' := by
  have HN := hid hn
  have HN' := hid hn'
  have HR := hid hr0
  have HR' := hid hr'
  have HV := hid hval
  have HM := hid hm
  have HG := hid (Lab.good_iff hg)
  have HSZ : Hid (∀ x, (val x).size ≤ 100) := fun x => val_size HG.out (HV.out x)
  have h20 : n' ≤ 20 := by rw [← HN'.out]; exact HG.out.1
  have h10 : n ≤ 10 := by rw [← HN.out]; exact (of_decide_eq_true HM.out : GoodMP ms).1
  have hr := HR.out
  clear hn hn' hr0 hr' hval hm hg
  go_enter Try.func44, Try.ntmps44
  go_wp2
  go_loopw [9] (fun i wr => ∃ k : Nat, k ≤ n ∧ i = .int .i64 k ∧ Hid (allM ms val = allM (ms.drop k) val) ∧ Hid (Below w.heap.size w wr)) (fun i _ => n - (intOf i).toNat)
  case atStart => exact ⟨0, Nat.zero_le _, rfl, rfl, Below.refl _ _⟩
  case round =>
    obtain ⟨k, hk, rfl, HA, HX⟩ := hrel
    by_cases hlt : k < n
    · rcases hr with hr | ⟨b, off, rfl, hbl, hc⟩
      · exact absurd HN.out (by rw [hr]; simp; omega)
      obtain ⟨c0, c1, c2⟩ := hc k (by rw [HN.out]; exact hlt)
      have d0 := (HX.out.cell (p := ⟨b, off + k * 3, none⟩) hbl).trans c0
      have d1 := (HX.out.cell (p := ⟨b, off + k * 3 + 1, none⟩) hbl).trans c1
      have d2 := (HX.out.cell (p := ⟨b, off + k * 3 + 2, none⟩) hbl).trans c2
      have HST := hid (all_step (val := val) (show k < ms.length by rw [HN.out]; exact hlt))
      have HOK := hid (good_ok HM.out (show k < ms.length by rw [HN.out]; exact hlt))
      have lb : b < wr.heap.size := Nat.lt_of_lt_of_le hbl HX.out.size
      clear hc c0 c1 c2
      generalize ms.getD k m0 = p at *
      obtain ⟨s, o, t⟩ := p
      have HS1 := hid (S3.new wr (s, o, t) (HR'.out.below HX.out))
      have HVs := hid (HV.out s)
      have HZs := hid (HSZ.out s)
      go_wp2_with fail
      go_region_held3 (fun w' => S3 wr (s, o, t) a' ls w') (first | exact HS1.out.drew | assumption) (first | (go_at_call 68; refine (Lab.f68 a' n' c' ls s _ HN'.out HG.out (S3.lab (by assumption))).mono ?_; rintro e w3 ⟨v, hv, rfl, hb2⟩; obtain rfl := hv.uniq HVs.out; have hs2 := S3.below (by assumption) hb2; clear hb2 hv) | (go_at_call 67; refine (f67 s t (val s) o _ HOK.out HZs.out).mono ?_; rintro e w4 ⟨rfl, hb3⟩; have hs3 := S3.below (by assumption) hb3; clear hb3))
      have HX2 := hid (HX.out.trans (hs3.2.2.2.2.mono HX.out.size))
      by_cases hf1 : fitM (s, o, t) (val s) = true
      · have HA2 : Hid (allM ms val = allM (ms.drop (k + 1)) val) := by unfold Hid; rw [HA.out, HST.out, hf1]; rfl
        rw [hf1]
        clear hf1
        go_wp2
        go_roundw
        case rel => exact ⟨k + 1, by omega, by go_num, HA2, HX2⟩
        case measure => simp [intOf]; omega
      · have hf2 : fitM (s, o, t) (val s) = false := by simpa using hf1
        have HA2 : Hid (allM ms val = false) := by unfold Hid; rw [HA.out, HST.out, hf2]; rfl
        rw [hf2]
        clear hf1 hf2
        go_wp2
        go_ret
        exact ⟨by rw [HA2.out]; rfl, HX2.out⟩
    · have HA2 : Hid (allM ms val = true) := by unfold Hid; rw [HA.out, List.drop_eq_nil_of_le (by rw [HN.out]; omega)]; rfl
      go_wp2
      go_ret
      exact ⟨by rw [HA2.out]; rfl, HX.out⟩
set_option maxHeartbeats 2000000 in
theorem f21 (a a' : Option Addr) (n c n' c' : Nat) (ms : List Mt) (ls : List Lab.Lb) (val : ByteArray → ByteArray) (w : World) (hn : ms.length = n) (hn' : ls.length = n') (hmax : n ≤ maxLen) (hmax' : n' ≤ maxLen) (hr0 : HasM w a ms) (hr' : Lab.HasL w a' ls) (hf : FitM ms) (hf' : Lab.Fit ls) (hval : ∀ x, Lab.OfV ls x (val x)) :
    Calls Try.prog 21 #[.slice a n c, .slice a' n' c'] w fun e w' => e = .returned (.bool (fitsF ms ls val)) ∧ Below w.heap.size w w' := by
  have HN := hid hn
  have HN' := hid hn'
  have HR := hid hr0
  have HR' := hid hr'
  have HV := hid hval
  clear hn hn' hr0 hr' hval
  go_enter Try.func21, Try.ntmps21
  go_wp2_with fail
  refine (f42 a n c ms _ HN.out hmax HR.out hf).mono ?_
  rintro e w1 ⟨rfl, hb1⟩
  have HB1 := hid hb1
  clear hb1
  by_cases hm : goodM ms = true
  · have HM := hid hm
    rw [hm]
    clear hm
    go_wp2_with fail
    refine (Lab.f43 a' n' c' ls _ HN'.out hmax' (HR'.out.below HB1.out) hf').mono ?_
    rintro e w2 ⟨rfl, hb2⟩
    have HB2 := hid (HB1.out.trans (hb2.mono HB1.out.size))
    clear hb2
    by_cases hg : Lab.goodL ls = true
    · have HF : Hid (fitsF ms ls val = allM ms val) := by unfold Hid fitsF; rw [HM.out, hg]; rfl
      have HG := hid hg
      rw [hg]
      clear hg
      go_wp2_with fail
      refine (f44 a a' n c n' c' ms ls val _ HN.out HN'.out HM.out HG.out (HR.out.below HB2.out) (HR'.out.below HB2.out) HV.out).mono ?_
      rintro e w3 ⟨rfl, hb3⟩
      have HB3 := hid (HB2.out.trans (hb3.mono HB2.out.size))
      clear hb3
      go_wp2
      go_ret
      exact ⟨by rw [HF.out]; rfl, HB3.out⟩
    · have hg' : Lab.goodL ls = false := by simpa using hg
      have HF : Hid (fitsF ms ls val = false) := by unfold Hid fitsF; rw [hg']; simp
      rw [hg']
      clear hg hg'
      go_wp2
      go_ret
      exact ⟨by rw [HF.out]; rfl, HB2.out⟩
  · have hm' : goodM ms = false := by simpa using hm
    have HF : Hid (fitsF ms ls val = false) := by unfold Hid fitsF; rw [hm']; simp
    rw [hm']
    clear hm hm'
    go_wp2
    go_ret
    exact ⟨by rw [HF.out]; rfl, HB1.out⟩

set_option maxHeartbeats 4000000 in
theorem walk8 (a a' : Option Addr) (n c n' c' : Nat) (ms : List Mt) (ls : List Lab.Lb) (w : World) (hn : ms.length = n) (hn' : ls.length = n') (hmax : n ≤ maxLen) (hmax' : n' ≤ maxLen) (hr : HasM w a ms) (hr' : Lab.HasL w a' ls) (hf : FitM ms) (hf' : Lab.Fit ls) :
    Calls Try.prog 6 #[.slice a n c, .slice a' n' c'] w fun e w' => e = .returned (.bool true) ∧ Below w.heap.size w w' := by
  obtain ⟨val, hval⟩ := Lab.vals ls
  have HN := hid hn
  have HN' := hid hn'
  have HR := hid hr
  have HR' := hid hr'
  have HV := hid hval
  clear hn hn' hr hr' hval
  go_enter Try.func6, Try.ntmps6
  go_wp2_with fail
  refine (f16 a n c ms _ HN.out HR.out hf hmax).mono ?_
  rintro e w1 ⟨y, rfl, hy, y0, y1, hb1⟩
  have HB1 := hid hb1
  clear hb1
  by_cases h0 : y < 0
  · go_wp2
    go_ret
    exact ⟨rfl, HB1.out⟩
  have hbig := hy (by omega)
  clear hy
  go_wp2_with fail
  refine (Lab.f24L y (by omega) y1 a' n' c' ls _ HN'.out (HR'.out.below HB1.out) hf' hmax').mono ?_
  rintro e w2 ⟨y', rfl, hy', y0', y1', hb2⟩
  have HB2 := hid (HB1.out.trans (hb2.mono HB1.out.size))
  clear hb2
  by_cases h0' : y' < 0
  · go_wp2
    go_ret
    exact ⟨rfl, HB2.out⟩
  have hbig' := hy' (by omega)
  clear hy'
  go_wp2_with fail
  refine (f19 a n c ms _ HN.out hbig (HR.out.below HB2.out)).mono ?_
  rintro e w3 ⟨rfl, ho3, hb3⟩
  have HB3 := hid (HB2.out.trans (hb3.mono HB2.out.size))
  have A3 := hid (HasM.own ho3)
  clear hb3 ho3
  go_wp2_with fail
  refine (Lab.f20 a' n' c' ls _ HN'.out hbig' (HR'.out.below HB3.out)).mono ?_
  rintro e w4 ⟨rfl, ho4, hb4⟩
  have HB4 := hid (HB3.out.trans (hb4.mono HB3.out.size))
  have A4 := hid (A3.out.below hb4)
  have L4 := hid (Lab.HasL.own ho4)
  clear hb4 ho4 A3
  go_wp2_with fail
  refine (f18 _ _ n n n' n' ms ls val _ HN.out HN'.out hmax hmax' A4.out L4.out hf hf' HV.out).mono ?_
  rintro e w5 ⟨rfl, hb5⟩
  have HB5 := hid (HB4.out.trans (hb5.mono HB4.out.size))
  clear hb5 A4 L4
  obtain ⟨bb, hbb⟩ : ∃ bb, bb = fitsF ms ls val := ⟨_, rfl⟩
  have HBB := hid hbb.symm
  have hq : (bb != bb) = false := by cases bb <;> rfl
  rw [HBB.out]
  clear hbb
  go_wp2_with fail
  refine (f19 a n c ms _ HN.out hbig (HR.out.below HB5.out)).mono ?_
  rintro e w6 ⟨rfl, ho6, hb6⟩
  have HB6 := hid (HB5.out.trans (hb6.mono HB5.out.size))
  have A6 := hid (HasM.own ho6)
  clear hb6 ho6
  go_wp2_with fail
  refine (Lab.f20 a' n' c' ls _ HN'.out hbig' (HR'.out.below HB6.out)).mono ?_
  rintro e w7 ⟨rfl, ho7, hb7⟩
  have HB7 := hid (HB6.out.trans (hb7.mono HB6.out.size))
  have A7 := hid (A6.out.below hb7)
  have L7 := hid (Lab.HasL.own ho7)
  clear hb7 ho7 A6
  go_wp2_with fail
  refine (f21 _ _ n n n' n' ms ls val _ HN.out HN'.out hmax hmax' A7.out L7.out hf hf' HV.out).mono ?_
  rintro e w8 ⟨rfl, hb8⟩
  have HB8 := hid (HB7.out.trans (hb8.mono HB7.out.size))
  have A8 := hid (A7.out.below hb8)
  have L8 := hid (L7.out.below hb8)
  rw [HBB.out]
  clear hb8 A7 L7
  go_wp2_with fail
  refine (f19 a n c ms _ HN.out hbig (HR.out.below HB8.out)).mono ?_
  rintro e w9 ⟨rfl, ho9, hb9⟩
  have HB9 := hid (HB8.out.trans (hb9.mono HB8.out.size))
  have A9 := hid (A8.out.below hb9)
  have L9 := hid (L8.out.below hb9)
  have C9 := hid (HasM.own ho9)
  clear hb9 ho9 A8 L8
  go_wp2_with fail
  refine (f22 _ _ n n n ms _ HN.out hbig A9.out C9.out).mono ?_
  rintro e w10 ⟨rfl, hb10⟩
  have HB10 := hid (HB9.out.trans (hb10.mono HB9.out.size))
  have L10 := hid (L9.out.below hb10)
  clear hb10 A9 L9 C9
  go_wp2_with fail
  refine (Lab.f20 a' n' c' ls _ HN'.out hbig' (HR'.out.below HB10.out)).mono ?_
  rintro e w11 ⟨rfl, ho11, hb11⟩
  have HB11 := hid (HB10.out.trans (hb11.mono HB10.out.size))
  have L11 := hid (L10.out.below hb11)
  have C11 := hid (Lab.HasL.own ho11)
  clear hb11 ho11 L10
  go_wp2_with fail
  refine (Lab.f23 _ _ n' n' n' ls _ HN'.out hbig' L11.out C11.out).mono ?_
  rintro e w12 ⟨rfl, hb12⟩
  have HB12 := hid (HB11.out.trans (hb12.mono HB11.out.size))
  clear hb12
  go_wp2
  go_ret
  exact ⟨rfl, HB12.out⟩
end Go.Proofs.Ytpobpanmkdjkjaa.Pat
