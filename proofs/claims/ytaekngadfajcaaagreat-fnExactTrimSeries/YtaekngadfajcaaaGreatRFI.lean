/- Matchers asked about labels: what l2Match, matcherFits, l2All and both Fits come to. -/
import Derived.Test.YtaekngadfajcaaaGreatRGI
import Derived.Test.YtaekngadfajcaaaGreatRMgd
import Derived.Test.YtaekngadfajcaaaGreatRVo
namespace Go.Proofs.YtaekngadfajcaaaGreat.Pat
open Go.RowKit

/-- Whether a good matcher fits a value. -/
def fitM (m : Mt) (v : ByteArray) : Bool := if m.2.1 = 1 then (v.toList == m.2.2.toList) else if m.2.1 = 2 then !(v.toList == m.2.2.toList) else if m.2.1 = 3 then fitsB m.2.2 v else !fitsB m.2.2 v
theorem ok_parts {s t : ByteArray} {o : Int} (h : okM (s, o, t) = true) : (1 ≤ o ∧ o ≤ 4) ∧ t.size ≤ 100 ∧ s.size ≤ 40 ∧ (o < 3 ∨ patB t = true) := by
  unfold okM nameL at h
  simp at h
  exact ⟨by omega, by omega, by omega, h.2⟩
set_option maxHeartbeats 1000000 in
theorem f71 (s t v : ByteArray) (o : Int) (w : World) (ho : okM (s, o, t) = true) (hv : v.size ≤ 100) : Calls Tryz.prog 71 #[.agg #[.string s, .int .i64 o, .string t], .string v] w fun e w' => e = .returned (.bool (fitM (s, o, t) v)) ∧ Below w.heap.size w w' := by
  obtain ⟨h1, h2, _, h3⟩ := ok_parts ho
  have HB := hid ((Below.refl w.heap.size w).alloc (Nat.le_refl _) (.cells #[.string s, .int .i64 o, .string t] 75))
  clear ho
  by_cases e1 : o = 1
  · have q1 : (o == 1) = true := by simp [e1]
    have HF : Hid (fitM (s, o, t) v = (v.toList == t.toList)) := by unfold Hid fitM; simp [e1]
    clear e1 h1 h3
    go_enter Tryz.func71, Tryz.ntmps71
    go_wp2
    go_ret
    exact ⟨by rw [HF.out]; rfl, HB.out⟩
  have q1 : (o == 1) = false := by simp [e1]
  by_cases e2 : o = 2
  · have q2 : (o == 2) = true := by simp [e2]
    have HF : Hid (fitM (s, o, t) v = !(v.toList == t.toList)) := by unfold Hid fitM; simp [e2]
    clear e1 e2 h1 h3
    go_enter Tryz.func71, Tryz.ntmps71
    go_wp2
    go_ret
    exact ⟨by rw [HF.out]; rfl, HB.out⟩
  have q2 : (o == 2) = false := by simp [e2]
  have hp : patB t = true := by rcases h3 with h | h; omega; exact h
  have HA := hid (fits_any hp hv)
  have H37 := hid (f85 t v (w.alloc (.cells #[.string s, .int .i64 o, .string t] 75)) (by unfold maxLen; omega) hp (by omega))
  by_cases e3 : o = 3
  · have q3 : (o == 3) = true := by simp [e3]
    have HF : Hid (fitM (s, o, t) v = anyF (altsF t.data.toList []) v.data.toList) := by unfold Hid fitM; simp [e3]; exact HA.out
    clear e1 e2 e3 h1 h3 hp
    go_enter Tryz.func71, Tryz.ntmps71
    go_wp2_with fail
    refine H37.out.mono ?_
    rintro e w2 ⟨rfl, hb2⟩
    have HB2 := hid (HB.out.trans (hb2.mono (by simp)))
    clear hb2
    go_wp2
    go_ret
    exact ⟨by rw [HF.out]; rfl, HB2.out⟩
  · have q3 : (o == 3) = false := by simp [e3]
    have HF : Hid (fitM (s, o, t) v = !anyF (altsF t.data.toList []) v.data.toList) := by unfold Hid fitM; simp only [e1, e2, e3, if_false]; rw [HA.out]
    clear e1 e2 e3 h1 h3 hp
    go_enter Tryz.func71, Tryz.ntmps71
    go_wp2_with fail
    refine H37.out.mono ?_
    rintro e w2 ⟨rfl, hb2⟩
    have HB2 := hid (HB.out.trans (hb2.mono (by simp)))
    clear hb2
    go_wp2
    go_ret
    exact ⟨by rw [HF.out]; rfl, HB2.out⟩
set_option maxHeartbeats 1000000 in
theorem f80 (s t v : ByteArray) (o : Int) (w : World) (ho : okM (s, o, t) = true) (hv : v.size ≤ 100) : Calls Tryz.prog 80 #[.agg #[.string s, .int .i64 o, .string t], .string v] w fun e w' => e = .returned (.bool (fitM (s, o, t) v)) ∧ Below w.heap.size w w' := by
  obtain ⟨h1, h2, _, h3⟩ := ok_parts ho
  have HB := hid ((Below.refl w.heap.size w).alloc (Nat.le_refl _) (.cells #[.string s, .int .i64 o, .string t] 75))
  clear ho
  by_cases e1 : o = 1
  · have q1 : (o == 1) = true := by simp [e1]
    have HF : Hid (fitM (s, o, t) v = (v.toList == t.toList)) := by unfold Hid fitM; simp [e1]
    clear e1 h1 h3
    go_enter Tryz.func80, Tryz.ntmps80
    go_wp2
    go_ret
    exact ⟨by rw [HF.out]; rfl, HB.out⟩
  have q1 : (o == 1) = false := by simp [e1]
  by_cases e2 : o = 2
  · have q2 : (o == 2) = true := by simp [e2]
    have HF : Hid (fitM (s, o, t) v = !(v.toList == t.toList)) := by unfold Hid fitM; simp [e2]
    clear e1 e2 h1 h3
    go_enter Tryz.func80, Tryz.ntmps80
    go_wp2
    go_ret
    exact ⟨by rw [HF.out]; rfl, HB.out⟩
  have q2 : (o == 2) = false := by simp [e2]
  have H11 := hid (f95 t v (w.alloc (.cells #[.string s, .int .i64 o, .string t] 75)) (by unfold maxLen; omega) (by unfold maxLen; omega))
  by_cases e3 : o = 3
  · have q3 : (o == 3) = true := by simp [e3]
    have HF : Hid (fitM (s, o, t) v = fitsB t v) := by unfold Hid fitM; simp [e3]
    clear e1 e2 e3 h1 h3
    go_enter Tryz.func80, Tryz.ntmps80
    go_wp2_with fail
    refine H11.out.mono ?_
    rintro e w2 ⟨rfl, hb2⟩
    have HB2 := hid (HB.out.trans (hb2.mono (by simp)))
    clear hb2
    go_wp2
    go_ret
    exact ⟨by rw [HF.out]; rfl, HB2.out⟩
  · have q3 : (o == 3) = false := by simp [e3]
    have HF : Hid (fitM (s, o, t) v = !fitsB t v) := by unfold Hid fitM; simp only [e1, e2, e3, if_false]
    clear e1 e2 e3 h1 h3
    go_enter Tryz.func80, Tryz.ntmps80
    go_wp2_with fail
    refine H11.out.mono ?_
    rintro e w2 ⟨rfl, hb2⟩
    have HB2 := hid (HB.out.trans (hb2.mono (by simp)))
    clear hb2
    go_wp2
    go_ret
    exact ⟨by rw [HF.out]; rfl, HB2.out⟩

/-- A matcher in its box, the labels in their row. -/
abbrev S3 (w : World) (p : Mt) (a : Option Addr) (ls : List Lab.Lb) (w' : World) : Prop :=
  w'.cell? ⟨w.heap.size, 0, none⟩ = some (.string p.1) ∧ w'.cell? ⟨w.heap.size, 1, none⟩ = some (.int .i64 p.2.1) ∧ w'.cell? ⟨w.heap.size, 2, none⟩ = some (.string p.2.2) ∧ Lab.HasL w' a ls ∧ Below w.heap.size w w'
theorem S3.below {w W W' : World} {p : Mt} {a : Option Addr} {ls : List Lab.Lb} (h : S3 w p a ls W) (hb : Below W.heap.size W W') : S3 w p a ls W' := by
  obtain ⟨h1, h2, h3, h4, h5⟩ := h
  have l := World.block_lt_of_cell? W _ h2
  exact ⟨(hb.cell (p := ⟨w.heap.size, 0, none⟩) l).trans h1, (hb.cell (p := ⟨w.heap.size, 1, none⟩) l).trans h2, (hb.cell (p := ⟨w.heap.size, 2, none⟩) l).trans h3, h4.below hb, h5.trans (hb.mono h5.size)⟩
theorem S3.drew {w W : World} {p : Mt} {a : Option Addr} {ls : List Lab.Lb} (h : S3 w p a ls W) : S3 w p a ls W.drew := h.below (Below.refl _ _).drew
theorem three_at {w : World} {b : Nat} {x y z : Value} {t : TypeId} (h : w.heap[b]? = some (.cells #[x, y, z] t)) : w.cell? ⟨b, 0, none⟩ = some x ∧ w.cell? ⟨b, 1, none⟩ = some y ∧ w.cell? ⟨b, 2, none⟩ = some z := by
  refine ⟨?_, ?_, ?_⟩ <;> (unfold World.cell?; simp only [h]; rfl)
theorem S3.new (w : World) (p : Mt) {a : Option Addr} {ls : List Lab.Lb} (hr : Lab.HasL w a ls) : S3 w p a ls (w.alloc (.cells #[.string p.1, .int .i64 p.2.1, .string p.2.2] 75)) := by
  obtain ⟨h1, h2, h3⟩ := three_at (heap_alloc_new w (.cells #[.string p.1, .int .i64 p.2.1, .string p.2.2] 75))
  have hb := (Below.refl w.heap.size w).alloc (Nat.le_refl _) (.cells #[.string p.1, .int .i64 p.2.1, .string p.2.2] 75)
  exact ⟨h1, h2, h3, hr.below hb, hb⟩
theorem S3.lab {w W : World} {p : Mt} {a : Option Addr} {ls : List Lab.Lb} (h : S3 w p a ls W) : Lab.HasL W a ls := h.2.2.2.1
def allM (ms : List Mt) (val : ByteArray → ByteArray) : Bool := ms.all fun m => fitM m (val m.1)
theorem all_step {ms : List Mt} {val : ByteArray → ByteArray} {k : Nat} (hk : k < ms.length) : allM (ms.drop k) val = (fitM (ms.getD k m0) (val (ms.getD k m0).1) && allM (ms.drop (k + 1)) val) := by
  rw [List.drop_eq_getElem_cons hk]
  unfold allM
  rw [List.all_cons]
  simp [hk]
end Go.Proofs.YtaekngadfajcaaaGreat.Pat
/- Matchers asked about labels: both Fits, and the walk of FnExactFits. -/
namespace Go.Proofs.YtaekngadfajcaaaGreat.Pat
open Go.RowKit

theorem val_size {ls : List Lab.Lb} {x v : ByteArray} (hg : Lab.GoodP ls) (h : Lab.OfV ls x v) : v.size ≤ 100 := by
  rcases h with ⟨k, hk, _, h2, _⟩ | ⟨_, h2⟩
  · have := (hg.2 k hk).1
    unfold Lab.okL Str.valueL at this
    simp at this
    rw [← h2]
    simp at this ⊢
    omega
  · rw [h2]; simp
theorem good_ok {ms : List Mt} {k : Nat} (h : goodM ms = true) (hk : k < ms.length) : okM (ms.getD k m0) = true := (of_decide_eq_true h : GoodMP ms).2 k hk

set_option maxHeartbeats 4000000 in
theorem f43 (a a' : Option Addr) (n c n' c' : Nat) (ms : List Mt) (ls : List Lab.Lb) (val : ByteArray → ByteArray) (w : World) (hn : ms.length = n) (hn' : ls.length = n') (hr : HasM w a ms) (hr' : Lab.HasL w a' ls) (hm : goodM ms = true) (hg : Lab.GoodP ls) (hval : ∀ x, Lab.OfV ls x (val x)) :
    Calls Tryz.prog 43 #[.slice a n c, .slice a' n' c'] w fun e w' => e = .returned (.bool (allM ms val)) ∧ Below w.heap.size w w' := by
  have HN := hid hn
  have HN' := hid hn'
  have HM := hid hm
  have HV := hid hval
  have HSZ : Hid (∀ x, (val x).size ≤ 100) := fun x => val_size hg (hval x)
  have HR' := hid hr'
  have h20 : n' ≤ 20 := by rw [← hn']; exact hg.1
  have h10 : n ≤ 10 := by rw [← hn]; exact (of_decide_eq_true hm : GoodMP ms).1
  clear hn hn' hm hval hr' hg
  go_enter Tryz.func43, Tryz.ntmps43
  go_wp2
  go_loopw [9] (fun i wr => ∃ k : Nat, k ≤ n ∧ i = .int .i64 k ∧ Hid (allM ms val = allM (ms.drop k) val) ∧ Hid (Below w.heap.size w wr)) (fun i _ => n - (intOf i).toNat)
  case atStart => exact ⟨0, Nat.zero_le _, rfl, rfl, Below.refl _ _⟩
  case round =>
    obtain ⟨k, hk, rfl, HA, HX⟩ := hrel
    by_cases hlt : k < n
    · rcases hr with hr | ⟨b, off, rfl, hbl, hc⟩
      · exact absurd HN.out (by rw [hr]; simp; omega)
      obtain ⟨c0, c1, c2⟩ := hc k (by rw [HN.out]; exact hlt)
      have d0 := (HX.out.cell (p := ⟨b, off + k * 3, none⟩) hbl).trans c0
      have d1 := (HX.out.cell (p := ⟨b, off + k * 3 + 1, none⟩) hbl).trans c1
      have d2 := (HX.out.cell (p := ⟨b, off + k * 3 + 2, none⟩) hbl).trans c2
      have HST := hid (all_step (val := val) (show k < ms.length by rw [HN.out]; exact hlt))
      have HOK := hid (good_ok HM.out (show k < ms.length by rw [HN.out]; exact hlt))
      have lb : b < wr.heap.size := Nat.lt_of_lt_of_le hbl HX.out.size
      clear hc c0 c1 c2
      generalize ms.getD k m0 = p at *
      obtain ⟨s, o, t⟩ := p
      have HS1 := hid (S3.new wr (s, o, t) (HR'.out.below HX.out))
      have HVs := hid (HV.out s)
      have HZs := hid (HSZ.out s)
      go_wp2_with fail
      go_region_held3 (fun w' => S3 wr (s, o, t) a' ls w') (first | exact HS1.out.drew | assumption) (first | (go_at_call 64; refine (Lab.f64 a' n' c' ls s _ HN'.out h20 (S3.lab (by assumption))).mono ?_; rintro e w2 ⟨v, hv, rfl, hb2⟩; obtain rfl := hv.uniq HVs.out; have hs2 := S3.below (by assumption) hb2; clear hb2 hv) | (go_at_call 71; refine (f71 s t (val s) o _ HOK.out HZs.out).mono ?_; rintro e w3 ⟨rfl, hb3⟩; have hs3 := S3.below (by assumption) hb3; clear hb3))
      have HX2 := hid (HX.out.trans (hs3.2.2.2.2.mono HX.out.size))
      by_cases hf : fitM (s, o, t) (val s) = true
      · have HA2 : Hid (allM ms val = allM (ms.drop (k + 1)) val) := by unfold Hid; rw [HA.out, HST.out, hf]; rfl
        rw [hf]
        clear hf
        go_wp2
        go_roundw
        case rel => exact ⟨k + 1, by omega, by go_num, HA2, HX2⟩
        case measure => simp [intOf]; omega
      · have hf' : fitM (s, o, t) (val s) = false := by simpa using hf
        have HA2 : Hid (allM ms val = false) := by unfold Hid; rw [HA.out, HST.out, hf']; rfl
        rw [hf']
        clear hf hf'
        go_wp2
        go_ret
        exact ⟨by rw [HA2.out]; rfl, HX2.out⟩
    · have HA2 : Hid (allM ms val = true) := by unfold Hid; rw [HA.out, List.drop_eq_nil_of_le (by rw [HN.out]; omega)]; rfl
      go_wp2
      go_ret
      exact ⟨by rw [HA2.out]; rfl, HX.out⟩
end Go.Proofs.YtaekngadfajcaaaGreat.Pat
