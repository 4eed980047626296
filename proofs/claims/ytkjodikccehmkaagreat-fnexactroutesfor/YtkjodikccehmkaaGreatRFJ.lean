/- Matchers asked about labels: what l2Match, matcherFits, l2All and both Fits come to. -/
import Derived.Test.YtkjodikccehmkaaGreatRPI
import Derived.Test.YtkjodikccehmkaaGreatRRT
import Derived.Test.YtkjodikccehmkaaGreatRVo
namespace Go.Proofs.YtkjodikccehmkaaGreat.Pat
open Go.RowKit

/-- Whether a good matcher fits a value. -/
def fitM (m : Mt) (v : ByteArray) : Bool := if m.2.1 = 1 then (v.toList == m.2.2.toList) else if m.2.1 = 2 then !(v.toList == m.2.2.toList) else if m.2.1 = 3 then fitsB m.2.2 v else !fitsB m.2.2 v
theorem ok_parts {s t : ByteArray} {o : Int} (h : okM (s, o, t) = true) : (1 ≤ o ∧ o ≤ 4) ∧ t.size ≤ 100 ∧ s.size ≤ 40 ∧ (o < 3 ∨ patB t = true) := by
  unfold okM nameL at h
  simp at h
  exact ⟨by omega, by omega, by omega, h.2⟩
set_option maxHeartbeats 1000000 in
theorem f60 (s t v : ByteArray) (o : Int) (w : World) (ho : okM (s, o, t) = true) (hv : v.size ≤ 100) : Calls Tryz.prog 60 #[.agg #[.string s, .int .i64 o, .string t], .string v] w fun e w' => e = .returned (.bool (fitM (s, o, t) v)) ∧ Below w.heap.size w w' := by
  obtain ⟨h1, h2, _, h3⟩ := ok_parts ho
  have HB := hid ((Below.refl w.heap.size w).alloc (Nat.le_refl _) (.cells #[.string s, .int .i64 o, .string t] 85))
  clear ho
  by_cases e1 : o = 1
  · have q1 : (o == 1) = true := by simp [e1]
    have HF : Hid (fitM (s, o, t) v = (v.toList == t.toList)) := by unfold Hid fitM; simp [e1]
    clear e1 h1 h3
    go_enter Tryz.func60, Tryz.ntmps60
    go_wp2
    go_ret
    exact ⟨by rw [HF.out]; rfl, HB.out⟩
  have q1 : (o == 1) = false := by simp [e1]
  by_cases e2 : o = 2
  · have q2 : (o == 2) = true := by simp [e2]
    have HF : Hid (fitM (s, o, t) v = !(v.toList == t.toList)) := by unfold Hid fitM; simp [e2]
    clear e1 e2 h1 h3
    go_enter Tryz.func60, Tryz.ntmps60
    go_wp2
    go_ret
    exact ⟨by rw [HF.out]; rfl, HB.out⟩
  have q2 : (o == 2) = false := by simp [e2]
  have hp : patB t = true := by rcases h3 with h | h; omega; exact h
  have HA := hid (fits_any hp hv)
  have H37 := hid (f80 t v (w.alloc (.cells #[.string s, .int .i64 o, .string t] 85)) (by unfold maxLen; omega) hp (by omega))
  by_cases e3 : o = 3
  · have q3 : (o == 3) = true := by simp [e3]
    have HF : Hid (fitM (s, o, t) v = anyF (altsF t.data.toList []) v.data.toList) := by unfold Hid fitM; simp [e3]; exact HA.out
    clear e1 e2 e3 h1 h3 hp
    go_enter Tryz.func60, Tryz.ntmps60
    go_wp2_with fail
    refine H37.out.mono ?_
    rintro e w2 ⟨rfl, hb2⟩
    have HB2 := hid (HB.out.trans (hb2.mono (by simp)))
    clear hb2
    go_wp2
    go_ret
    exact ⟨by rw [HF.out]; rfl, HB2.out⟩
  · have q3 : (o == 3) = false := by simp [e3]
    have HF : Hid (fitM (s, o, t) v = !anyF (altsF t.data.toList []) v.data.toList) := by unfold Hid fitM; simp only [e1, e2, e3, if_false]; rw [HA.out]
    clear e1 e2 e3 h1 h3 hp
    go_enter Tryz.func60, Tryz.ntmps60
    go_wp2_with fail
    refine H37.out.mono ?_
    rintro e w2 ⟨rfl, hb2⟩
    have HB2 := hid (HB.out.trans (hb2.mono (by simp)))
    clear hb2
    go_wp2
    go_ret
    exact ⟨by rw [HF.out]; rfl, HB2.out⟩
set_option maxHeartbeats 1000000 in
theorem f89 (s t v : ByteArray) (o : Int) (w : World) (ho : okM (s, o, t) = true) (hv : v.size ≤ 100) : Calls Tryz.prog 89 #[.agg #[.string s, .int .i64 o, .string t], .string v] w fun e w' => e = .returned (.bool (fitM (s, o, t) v)) ∧ Below w.heap.size w w' := by
  obtain ⟨h1, h2, _, h3⟩ := ok_parts ho
  have HB := hid ((Below.refl w.heap.size w).alloc (Nat.le_refl _) (.cells #[.string s, .int .i64 o, .string t] 85))
  clear ho
  by_cases e1 : o = 1
  · have q1 : (o == 1) = true := by simp [e1]
    have HF : Hid (fitM (s, o, t) v = (v.toList == t.toList)) := by unfold Hid fitM; simp [e1]
    clear e1 h1 h3
    go_enter Tryz.func89, Tryz.ntmps89
    go_wp2
    go_ret
    exact ⟨by rw [HF.out]; rfl, HB.out⟩
  have q1 : (o == 1) = false := by simp [e1]
  by_cases e2 : o = 2
  · have q2 : (o == 2) = true := by simp [e2]
    have HF : Hid (fitM (s, o, t) v = !(v.toList == t.toList)) := by unfold Hid fitM; simp [e2]
    clear e1 e2 h1 h3
    go_enter Tryz.func89, Tryz.ntmps89
    go_wp2
    go_ret
    exact ⟨by rw [HF.out]; rfl, HB.out⟩
  have q2 : (o == 2) = false := by simp [e2]
  have H11 := hid (f98 t v (w.alloc (.cells #[.string s, .int .i64 o, .string t] 85)) (by unfold maxLen; omega) (by unfold maxLen; omega))
  by_cases e3 : o = 3
  · have q3 : (o == 3) = true := by simp [e3]
    have HF : Hid (fitM (s, o, t) v = fitsB t v) := by unfold Hid fitM; simp [e3]
    clear e1 e2 e3 h1 h3
    go_enter Tryz.func89, Tryz.ntmps89
    go_wp2_with fail
    refine H11.out.mono ?_
    rintro e w2 ⟨rfl, hb2⟩
    have HB2 := hid (HB.out.trans (hb2.mono (by simp)))
    clear hb2
    go_wp2
    go_ret
    exact ⟨by rw [HF.out]; rfl, HB2.out⟩
  · have q3 : (o == 3) = false := by simp [e3]
    have HF : Hid (fitM (s, o, t) v = !fitsB t v) := by unfold Hid fitM; simp only [e1, e2, e3, if_false]
    clear e1 e2 e3 h1 h3
    go_enter Tryz.func89, Tryz.ntmps89
    go_wp2_with fail
    refine H11.out.mono ?_
    rintro e w2 ⟨rfl, hb2⟩
    have HB2 := hid (HB.out.trans (hb2.mono (by simp)))
    clear hb2
    go_wp2
    go_ret
    exact ⟨by rw [HF.out]; rfl, HB2.out⟩

/-- A matcher in its box, the labels in their row. -/
abbrev S3 (w : World) (p : Mt) (a : Option Addr) (ls : List Lab.Lb) (w' : World) : Prop :=
  w'.cell? ⟨w.heap.size, 0, none⟩ = some (.string p.1) ∧ w'.cell? ⟨w.heap.size, 1, none⟩ = some (.int .i64 p.2.1) ∧ w'.cell? ⟨w.heap.size, 2, none⟩ = some (.string p.2.2) ∧ Lab.HasL w' a ls ∧ Below w.heap.size w w'
theorem S3.below {w W W' : World} {p : Mt} {a : Option Addr} {ls : List Lab.Lb} (h : S3 w p a ls W) (hb : Below W.heap.size W W') : S3 w p a ls W' := by
  obtain ⟨h1, h2, h3, h4, h5⟩ := h
  have l := World.block_lt_of_cell? W _ h2
  exact ⟨(hb.cell (p := ⟨w.heap.size, 0, none⟩) l).trans h1, (hb.cell (p := ⟨w.heap.size, 1, none⟩) l).trans h2, (hb.cell (p := ⟨w.heap.size, 2, none⟩) l).trans h3, h4.below hb, h5.trans (hb.mono h5.size)⟩
theorem S3.drew {w W : World} {p : Mt} {a : Option Addr} {ls : List Lab.Lb} (h : S3 w p a ls W) : S3 w p a ls W.drew := h.below (Below.refl _ _).drew
theorem three_at {w : World} {b : Nat} {x y z : Value} {t : TypeId} (h : w.heap[b]? = some (.cells #[x, y, z] t)) : w.cell? ⟨b, 0, none⟩ = some x ∧ w.cell? ⟨b, 1, none⟩ = some y ∧ w.cell? ⟨b, 2, none⟩ = some z := by
  refine ⟨?_, ?_, ?_⟩ <;> (unfold World.cell?; simp only [h]; rfl)
theorem S3.new (w : World) (p : Mt) {a : Option Addr} {ls : List Lab.Lb} (hr : Lab.HasL w a ls) : S3 w p a ls (w.alloc (.cells #[.string p.1, .int .i64 p.2.1, .string p.2.2] 85)) := by
  obtain ⟨h1, h2, h3⟩ := three_at (heap_alloc_new w (.cells #[.string p.1, .int .i64 p.2.1, .string p.2.2] 85))
  have hb := (Below.refl w.heap.size w).alloc (Nat.le_refl _) (.cells #[.string p.1, .int .i64 p.2.1, .string p.2.2] 85)
  exact ⟨h1, h2, h3, hr.below hb, hb⟩
theorem S3.lab {w W : World} {p : Mt} {a : Option Addr} {ls : List Lab.Lb} (h : S3 w p a ls W) : Lab.HasL W a ls := h.2.2.2.1
def allM (ms : List Mt) (val : ByteArray → ByteArray) : Bool := ms.all fun m => fitM m (val m.1)
theorem all_step {ms : List Mt} {val : ByteArray → ByteArray} {k : Nat} (hk : k < ms.length) : allM (ms.drop k) val = (fitM (ms.getD k m0) (val (ms.getD k m0).1) && allM (ms.drop (k + 1)) val) := by
  rw [List.drop_eq_getElem_cons hk]
  unfold allM
  rw [List.all_cons]
  simp [hk]
end Go.Proofs.YtkjodikccehmkaaGreat.Pat
/- Matchers asked about labels: both Fits, and the walk of FnExactFits. -/
namespace Go.Proofs.YtkjodikccehmkaaGreat.Pat
open Go.RowKit

theorem val_size {ls : List Lab.Lb} {x v : ByteArray} (hg : Lab.GoodP ls) (h : Lab.OfV ls x v) : v.size ≤ 100 := by
  rcases h with ⟨k, hk, _, h2, _⟩ | ⟨_, h2⟩
  · have := (hg.2 k hk).1
    unfold Lab.okL Str.valueL at this
    simp at this
    rw [← h2]
    simp at this ⊢
    omega
  · rw [h2]; simp
theorem good_ok {ms : List Mt} {k : Nat} (h : goodM ms = true) (hk : k < ms.length) : okM (ms.getD k m0) = true := (of_decide_eq_true h : GoodMP ms).2 k hk

set_option maxHeartbeats 4000000 in
theorem f39 (a a' : Option Addr) (n c n' c' : Nat) (ms : List Mt) (ls : List Lab.Lb) (val : ByteArray → ByteArray) (w : World) (hn : ms.length = n) (hn' : ls.length = n') (hr : HasM w a ms) (hr' : Lab.HasL w a' ls) (hm : goodM ms = true) (hg : Lab.GoodP ls) (hval : ∀ x, Lab.OfV ls x (val x)) :
    Calls Tryz.prog 39 #[.slice a n c, .slice a' n' c'] w fun e w' => e = .returned (.bool (allM ms val)) ∧ Below w.heap.size w w' := by
  have HN := hid hn
  have HN' := hid hn'
  have HM := hid hm
  have HV := hid hval
  have HSZ : Hid (∀ x, (val x).size ≤ 100) := fun x => val_size hg (hval x)
  have HR' := hid hr'
  have h20 : n' ≤ 20 := by rw [← hn']; exact hg.1
  have h10 : n ≤ 10 := by rw [← hn]; exact (of_decide_eq_true hm : GoodMP ms).1
  clear hn hn' hm hval hr' hg
  go_enter Tryz.func39, Tryz.ntmps39
  go_wp2
  go_loopw [9] (fun i wr => ∃ k : Nat, k ≤ n ∧ i = .int .i64 k ∧ Hid (allM ms val = allM (ms.drop k) val) ∧ Hid (Below w.heap.size w wr)) (fun i _ => n - (intOf i).toNat)
  case atStart => exact ⟨0, Nat.zero_le _, rfl, rfl, Below.refl _ _⟩
  case round =>
    obtain ⟨k, hk, rfl, HA, HX⟩ := hrel
    by_cases hlt : k < n
    · rcases hr with hr | ⟨b, off, rfl, hbl, hc⟩
      · exact absurd HN.out (by rw [hr]; simp; omega)
      obtain ⟨c0, c1, c2⟩ := hc k (by rw [HN.out]; exact hlt)
      have d0 := (HX.out.cell (p := ⟨b, off + k * 3, none⟩) hbl).trans c0
      have d1 := (HX.out.cell (p := ⟨b, off + k * 3 + 1, none⟩) hbl).trans c1
      have d2 := (HX.out.cell (p := ⟨b, off + k * 3 + 2, none⟩) hbl).trans c2
      have HST := hid (all_step (val := val) (show k < ms.length by rw [HN.out]; exact hlt))
      have HOK := hid (good_ok HM.out (show k < ms.length by rw [HN.out]; exact hlt))
      have lb : b < wr.heap.size := Nat.lt_of_lt_of_le hbl HX.out.size
      clear hc c0 c1 c2
      generalize ms.getD k m0 = p at *
      obtain ⟨s, o, t⟩ := p
      have HS1 := hid (S3.new wr (s, o, t) (HR'.out.below HX.out))
      have HVs := hid (HV.out s)
      have HZs := hid (HSZ.out s)
      go_wp2_with fail
      go_region_held3 (fun w' => S3 wr (s, o, t) a' ls w') (first | exact HS1.out.drew | assumption) (first | (go_at_call 61; refine (Lab.f61 a' n' c' ls s _ HN'.out h20 (S3.lab (by assumption))).mono ?_; rintro e w2 ⟨v, hv, rfl, hb2⟩; obtain rfl := hv.uniq HVs.out; have hs2 := S3.below (by assumption) hb2; clear hb2 hv) | (go_at_call 60; refine (f60 s t (val s) o _ HOK.out HZs.out).mono ?_; rintro e w3 ⟨rfl, hb3⟩; have hs3 := S3.below (by assumption) hb3; clear hb3))
      have HX2 := hid (HX.out.trans (hs3.2.2.2.2.mono HX.out.size))
      by_cases hf : fitM (s, o, t) (val s) = true
      · have HA2 : Hid (allM ms val = allM (ms.drop (k + 1)) val) := by unfold Hid; rw [HA.out, HST.out, hf]; rfl
        rw [hf]
        clear hf
        go_wp2
        go_roundw
        case rel => exact ⟨k + 1, by omega, by go_num, HA2, HX2⟩
        case measure => simp [intOf]; omega
      · have hf' : fitM (s, o, t) (val s) = false := by simpa using hf
        have HA2 : Hid (allM ms val = false) := by unfold Hid; rw [HA.out, HST.out, hf']; rfl
        rw [hf']
        clear hf hf'
        go_wp2
        go_ret
        exact ⟨by rw [HA2.out]; rfl, HX2.out⟩
    · have HA2 : Hid (allM ms val = true) := by unfold Hid; rw [HA.out, List.drop_eq_nil_of_le (by rw [HN.out]; omega)]; rfl
      go_wp2
      go_ret
      exact ⟨by rw [HA2.out]; rfl, HX.out⟩
end Go.Proofs.YtkjodikccehmkaaGreat.Pat
/- Matchers asked about labels: the program's Fits, and the walk of FnExactFits. -/
namespace Go.Proofs.YtkjodikccehmkaaGreat.Lab
open Go.RowKit Go.Proofs.YtkjodikccehmkaaGreat.Str

set_option maxHeartbeats 1000000 in
theorem f24L (L : Int) (hL0 : 0 ≤ L) (hL1 : L ≤ 1048576) (a : Option Addr) (n c : Nat) (ls : List Lb) (w : World) (hn : ls.length = n) (hr : HasL w a ls) (hf : Fit ls) (hmax : n ≤ maxLen) :
    Calls Tryz.prog 5 #[.slice a n c, .int .i64 L] w fun e w' => ∃ y : Int, e = .returned (.int .i64 y) ∧ (0 ≤ y → n ≤ 1048576) ∧ -1 ≤ y ∧ y ≤ 1048576 ∧ Below w.heap.size w w' := by
  unfold maxLen at hmax
  by_cases hbig0 : (n : Int) ≤ L
  · have hbig : n ≤ 1048576 := by omega
    have HN := hid hn
    clear hn
    go_enter Tryz.func5, Tryz.ntmps5
    go_wp2
    go_loopw [1, 5] (fun sx i wr => ∃ (k : Nat) (x : Int), k ≤ n ∧ i = .int .i64 k ∧ sx = .int .i64 x ∧ 0 ≤ x ∧ x ≤ 1048576 ∧ Below w.heap.size w wr) (fun _ i _ => n - (intOf i).toNat)
    case atStart => exact ⟨0, _, Nat.zero_le _, rfl, rfl, by omega, by omega, Below.refl _ _⟩
    case round =>
      obtain ⟨k, x, hk, rfl, rfl, hx0, hx1, hb⟩ := hrel
      have HB := hid hb
      by_cases hlt : k < n
      · rcases hr with h | ⟨b, off, rfl, h2, h3⟩
        · exfalso; rw [h] at HN; have := HN.out; simp at this; omega
        obtain ⟨c0, c1⟩ := h3 k (by rw [HN.out]; exact hlt)
        obtain ⟨g0, g1⟩ := hf k
        have d0 := (hb.cell (p := ⟨b, off + k * 2, none⟩) h2).trans c0
        have d1 := (hb.cell (p := ⟨b, off + k * 2 + 1, none⟩) h2).trans c1
        clear h3 c0 c1 hb
        generalize (ls.getD k e0).1 = s at *
        generalize (ls.getD k e0).2 = t at *
        go_wp2_with fail
        refine (f18 s t x _ g0 g1 hx0 hx1).mono ?_
        rintro e w2 ⟨y, rfl, y0, y1, hb2⟩
        have HB2 := hid (HB.out.trans (hb2.mono HB.out.size))
        clear hb2 d0 d1
        by_cases hy : y < 0
        · go_wp2
          go_ret
          exact ⟨-1, rfl, fun h => absurd h (by omega), by omega, by omega, HB2.out⟩
        · go_wp2
          go_roundw
          case rel => exact ⟨k + 1, y, by omega, by go_num, rfl, by omega, y1, HB2.out⟩
          case measure => simp [intOf]; omega
      · go_wp2
        go_ret
        exact ⟨x, rfl, fun _ => hbig, by omega, hx1, HB.out⟩
  · go_enter Tryz.func5, Tryz.ntmps5
    go_wp2
    go_ret
    exact ⟨-1, rfl, fun h => absurd h (by omega), by omega, by omega, Below.refl _ _⟩


theorem has_of (ls : List Lb) (x : ByteArray) : ∃ v, OfV ls x v := by
  by_cases h : ∃ k, k < ls.length ∧ (ls.getD k e0).1 = x
  · obtain ⟨k, hk, hx⟩ := h
    have key : ∀ n, (∃ k, k < n ∧ k < ls.length ∧ (ls.getD k e0).1 = x) → ∃ v, OfV ls x v := by
      intro n
      induction n with
      | zero => rintro ⟨k, h, _⟩; omega
      | succ n ih =>
        rintro ⟨k, h1, h2, h3⟩
        by_cases h4 : ∃ k, k < n ∧ k < ls.length ∧ (ls.getD k e0).1 = x
        · exact ih h4
        · exact ⟨(ls.getD k e0).2, .inl ⟨k, h2, h3, rfl, fun i hi he => h4 ⟨i, by omega, by omega, he⟩⟩⟩
    exact key (k + 1) ⟨k, by omega, hk, hx⟩
  · exact ⟨ByteArray.empty, .inr ⟨fun k hk he => h ⟨k, hk, he⟩, rfl⟩⟩
theorem vals (ls : List Lb) : ∃ val : ByteArray → ByteArray, ∀ x, OfV ls x (val x) := ⟨fun x => Classical.choose (has_of ls x), fun x => Classical.choose_spec (has_of ls x)⟩
end Go.Proofs.YtkjodikccehmkaaGreat.Lab
namespace Go.Proofs.YtkjodikccehmkaaGreat.Pat
open Go.RowKit

/-- What both Fits come to. -/
def fitsF (ms : List Mt) (ls : List Lab.Lb) (val : ByteArray → ByteArray) : Bool := goodM ms && Lab.goodL ls && allM ms val
set_option maxHeartbeats 4000000 in
theorem f74 (a a' : Option Addr) (n c n' c' : Nat) (ms : List Mt) (ls : List Lab.Lb) (val : ByteArray → ByteArray) (w : World) (hn : ms.length = n) (hn' : ls.length = n') (hm : goodM ms = true) (hg : Lab.goodL ls = true) (hr0 : HasM w a ms) (hr' : Lab.HasL w a' ls) (hval : ∀ x, Lab.OfV ls x (val x)) :
    Calls Tryz.prog 74 #[.slice a n c, .slice a' n' c'] w fun e w' => e = .returned (.bool (allM ms val)) ∧ Below w.heap.size w w' := by
  have HN := hid hn
  have HN' := hid hn'
  have HR := hid hr0
  have HR' := hid hr'
  have HV := hid hval
  have HM := hid hm
  have HG := hid (Lab.good_iff hg)
  have HSZ : Hid (∀ x, (val x).size ≤ 100) := fun x => val_size HG.out (HV.out x)
  have h20 : n' ≤ 20 := by rw [← HN'.out]; exact HG.out.1
  have h10 : n ≤ 10 := by rw [← HN.out]; exact (of_decide_eq_true HM.out : GoodMP ms).1
  have hr := HR.out
  clear hn hn' hr0 hr' hval hm hg
  go_enter Tryz.func74, Tryz.ntmps74
  go_wp2
  go_loopw [9] (fun i wr => ∃ k : Nat, k ≤ n ∧ i = .int .i64 k ∧ Hid (allM ms val = allM (ms.drop k) val) ∧ Hid (Below w.heap.size w wr)) (fun i _ => n - (intOf i).toNat)
  case atStart => exact ⟨0, Nat.zero_le _, rfl, rfl, Below.refl _ _⟩
  case round =>
    obtain ⟨k, hk, rfl, HA, HX⟩ := hrel
    by_cases hlt : k < n
    · rcases hr with hr | ⟨b, off, rfl, hbl, hc⟩
      · exact absurd HN.out (by rw [hr]; simp; omega)
      obtain ⟨c0, c1, c2⟩ := hc k (by rw [HN.out]; exact hlt)
      have d0 := (HX.out.cell (p := ⟨b, off + k * 3, none⟩) hbl).trans c0
      have d1 := (HX.out.cell (p := ⟨b, off + k * 3 + 1, none⟩) hbl).trans c1
      have d2 := (HX.out.cell (p := ⟨b, off + k * 3 + 2, none⟩) hbl).trans c2
      have HST := hid (all_step (val := val) (show k < ms.length by rw [HN.out]; exact hlt))
      have HOK := hid (good_ok HM.out (show k < ms.length by rw [HN.out]; exact hlt))
      have lb : b < wr.heap.size := Nat.lt_of_lt_of_le hbl HX.out.size
      clear hc c0 c1 c2
      generalize ms.getD k m0 = p at *
      obtain ⟨s, o, t⟩ := p
      have HS1 := hid (S3.new wr (s, o, t) (HR'.out.below HX.out))
      have HVs := hid (HV.out s)
      have HZs := hid (HSZ.out s)
      go_wp2_with fail
      go_region_held3 (fun w' => S3 wr (s, o, t) a' ls w') (first | exact HS1.out.drew | assumption) (first | (go_at_call 90; refine (Lab.f90 a' n' c' ls s _ HN'.out HG.out (S3.lab (by assumption))).mono ?_; rintro e w3 ⟨v, hv, rfl, hb2⟩; obtain rfl := hv.uniq HVs.out; have hs2 := S3.below (by assumption) hb2; clear hb2 hv) | (go_at_call 89; refine (f89 s t (val s) o _ HOK.out HZs.out).mono ?_; rintro e w4 ⟨rfl, hb3⟩; have hs3 := S3.below (by assumption) hb3; clear hb3))
      have HX2 := hid (HX.out.trans (hs3.2.2.2.2.mono HX.out.size))
      by_cases hf1 : fitM (s, o, t) (val s) = true
      · have HA2 : Hid (allM ms val = allM (ms.drop (k + 1)) val) := by unfold Hid; rw [HA.out, HST.out, hf1]; rfl
        rw [hf1]
        clear hf1
        go_wp2
        go_roundw
        case rel => exact ⟨k + 1, by omega, by go_num, HA2, HX2⟩
        case measure => simp [intOf]; omega
      · have hf2 : fitM (s, o, t) (val s) = false := by simpa using hf1
        have HA2 : Hid (allM ms val = false) := by unfold Hid; rw [HA.out, HST.out, hf2]; rfl
        rw [hf2]
        clear hf1 hf2
        go_wp2
        go_ret
        exact ⟨by rw [HA2.out]; rfl, HX2.out⟩
    · have HA2 : Hid (allM ms val = true) := by unfold Hid; rw [HA.out, List.drop_eq_nil_of_le (by rw [HN.out]; omega)]; rfl
      go_wp2
      go_ret
      exact ⟨by rw [HA2.out]; rfl, HX.out⟩
end Go.Proofs.YtkjodikccehmkaaGreat.Pat
