/- Matchers asked about labels: both Fits, and the walk of FnExactFits. -/
import Derived.Test.YtpobpanmkdjkjaaFi
namespace Go.Proofs.Ytpobpanmkdjkjaa.Pat
open Go.RowKit

theorem val_size {ls : List Lab.Lb} {x v : ByteArray} (hg : Lab.GoodP ls) (h : Lab.OfV ls x v) : v.size ≤ 100 := by
  rcases h with ⟨k, hk, _, h2, _⟩ | ⟨_, h2⟩
  · have := (hg.2 k hk).1
    unfold Lab.okL Str.valueL at this
    simp at this
    rw [← h2]
    simp at this ⊢
    omega
  · rw [h2]; simp
theorem good_ok {ms : List Mt} {k : Nat} (h : goodM ms = true) (hk : k < ms.length) : okM (ms.getD k m0) = true := (of_decide_eq_true h : GoodMP ms).2 k hk

set_option maxHeartbeats 4000000 in
theorem f39 (a a' : Option Addr) (n c n' c' : Nat) (ms : List Mt) (ls : List Lab.Lb) (val : ByteArray → ByteArray) (w : World) (hn : ms.length = n) (hn' : ls.length = n') (hr : HasM w a ms) (hr' : Lab.HasL w a' ls) (hm : goodM ms = true) (hg : Lab.GoodP ls) (hval : ∀ x, Lab.OfV ls x (val x)) :
    Calls Try.prog 39 #[.slice a n c, .slice a' n' c'] w fun e w' => e = .returned (.bool (allM ms val)) ∧ Below w.heap.size w w' := by
  have HN := hid hn
  have HN' := hid hn'
  have HM := hid hm
  have HV := hid hval
  have HSZ : Hid (∀ x, (val x).size ≤ 100) := fun x => val_size hg (hval x)
  have HR' := hid hr'
  have h20 : n' ≤ 20 := by rw [← hn']; exact hg.1
  have h10 : n ≤ 10 := by rw [← hn]; exact (of_decide_eq_true hm : GoodMP ms).1
  clear hn hn' hm hval hr' hg
  go_enter Try.func39, Try.ntmps39
  go_wp2
  go_loopw [9] (fun i wr => ∃ k : Nat, k ≤ n ∧ i = .int .i64 k ∧ Hid (allM ms val = allM (ms.drop k) val) ∧ Hid (Below w.heap.size w wr)) (fun i _ => n - (intOf i).toNat)
  case atStart => exact ⟨0, Nat.zero_le _, rfl, rfl, Below.refl _ _⟩
  case round =>
    obtain ⟨k, hk, rfl, HA, HX⟩ := hrel
    by_cases hlt : k < n
    · rcases hr with hr | ⟨b, off, rfl, hbl, hc⟩
      · exact absurd HN.out (by rw [hr]; simp; omega)
      obtain ⟨c0, c1, c2⟩ := hc k (by rw [HN.out]; exact hlt)
      have d0 := (HX.out.cell (p := ⟨b, off + k * 3, none⟩) hbl).trans c0
      have d1 := (HX.out.cell (p := ⟨b, off + k * 3 + 1, none⟩) hbl).trans c1
      have d2 := (HX.out.cell (p := ⟨b, off + k * 3 + 2, none⟩) hbl).trans c2
      have HST := hid (all_step (val := val) (show k < ms.length by rw [HN.out]; exact hlt))
      have HOK := hid (good_ok HM.out (show k < ms.length by rw [HN.out]; exact hlt))
      have lb : b < wr.heap.size := Nat.lt_of_lt_of_le hbl HX.out.size
      clear hc c0 c1 c2
      generalize ms.getD k m0 = p at *
      obtain ⟨s, o, t⟩ := p
      have HS1 := hid (S3.new wr (s, o, t) (HR'.out.below HX.out))
      have HVs := hid (HV.out s)
      have HZs := hid (HSZ.out s)
      go_wp2_with fail
      go_region_held3 (fun w' => S3 wr (s, o, t) a' ls w') (first | exact HS1.out.drew | assumption) (first | (go_at_call 61; refine (Lab.f61 a' n' c' ls s _ HN'.out h20 (S3.lab (by assumption))).mono ?_; rintro e w2 ⟨v, hv, rfl, hb2⟩; obtain rfl := hv.uniq HVs.out; have hs2 := S3.below (by assumption) hb2; clear hb2 hv) | (go_at_call 60; refine (f60 s t (val s) o _ HOK.out HZs.out).mono ?_; rintro e w3 ⟨rfl, hb3⟩; have hs3 := S3.below (by assumption) hb3; clear hb3))
      have HX2 := hid (HX.out.trans (hs3.2.2.2.2.mono HX.out.size))
      by_cases hf : fitM (s, o, t) (val s) = true
      · have HA2 : Hid (allM ms val = allM (ms.drop (k + 1)) val) := by unfold Hid; rw [HA.out, HST.out, hf]; rfl
        rw [hf]
        clear hf
        go_wp2
        go_roundw
        case rel => exact ⟨k + 1, by omega, by go_num, HA2, HX2⟩
        case measure => simp [intOf]; omega
      · have hf' : fitM (s, o, t) (val s) = false := by simpa using hf
        have HA2 : Hid (allM ms val = false) := by unfold Hid; rw [HA.out, HST.out, hf']; rfl
        rw [hf']
        clear hf hf'
        go_wp2
        go_ret
        exact ⟨by rw [HA2.out]; rfl, HX2.out⟩
    · have HA2 : Hid (allM ms val = true) := by unfold Hid; rw [HA.out, List.drop_eq_nil_of_le (by rw [HN.out]; omega)]; rfl
      go_wp2
      go_ret
      exact ⟨by rw [HA2.out]; rfl, HX.out⟩
end Go.Proofs.Ytpobpanmkdjkjaa.Pat
