/- What both GoodMatchers come to. -/
import Derived.Test.YtjhdmghpklagkaaGreatP20
import Derived.Test.YtjhdmghpklagkaaGreatP36
import Derived.Test.YtjhdmghpklagkaaGreatP04
import Derived.Test.YtjhdmghpklagkaaGreatP23
import Derived.Test.YtjhdmghpklagkaaGreatP07
namespace Go.Proofs.YtjhdmghpklagkaaGreat.Pat
open Go.RowKit

def okM (m : Mt) : Bool := nameL m.1.data.toList && decide (1 ≤ m.2.1 ∧ m.2.1 ≤ 4) && decide (m.2.2.size ≤ 100) && printL m.2.2.data.toList && (decide (m.2.1 < 3) || patB m.2.2)
def GoodMP (ms : List Mt) : Prop := ms.length ≤ 10 ∧ ∀ i, i < ms.length → okM (ms.getD i m0) = true
instance (ms : List Mt) : Decidable (GoodMP ms) := by unfold GoodMP; infer_instance
def goodM (ms : List Mt) : Bool := decide (GoodMP ms)
theorem gm_no {ms : List Mt} {k : Nat} (hk : k < ms.length) (h : okM (ms.getD k m0) = false) : goodM ms = false := decide_eq_false fun g => by have := g.2 k hk; rw [h] at this; cases this
theorem gm_yes {ms : List Mt} {k : Nat} (hk : ms.length ≤ k) (h : ∀ i, i < k → okM (ms.getD i m0) = true) (h10 : ms.length ≤ 10) : goodM ms = true := decide_eq_true ⟨h10, fun i hi => h i (by omega)⟩
theorem gm_long {ms : List Mt} (h : 10 < ms.length) : goodM ms = false := decide_eq_false fun g => by have := g.1; omega

set_option maxHeartbeats 4000000 in
theorem f89 (s t : ByteArray) (o : Int) (w : World) (hs : s.size ≤ maxLen) (ht : t.size ≤ maxLen) :
    Calls Tryz.prog 89 #[.agg #[.string s, .int .i64 o, .string t]] w fun e w' => e = .returned (.bool (okM (s, o, t))) ∧ Below w.heap.size w w' := by
  have ht' := ht
  unfold maxLen at ht'
  have HB := hid ((Below.refl w.heap.size w).alloc (Nat.le_refl _) (.cells #[.string s, .int .i64 o, .string t] 74))
  have hsz := (heap_alloc_new w (.cells #[.string s, .int .i64 o, .string t] 74))
  clear hsz
  by_cases h1 : nameL s.data.toList = true
  · by_cases h2 : t.size ≤ 100
    · by_cases h3 : printL t.data.toList = true
      · by_cases o1 : o = 1
        · subst o1
          have HK : Hid (okM (s, 1, t) = true) := by unfold Hid okM; simp [h1, h2, h3]
          go_enter Tryz.func89, Tryz.ntmps89
          go_wp2_with (first | (go_at_call 126; refine (f126 s _ hs).mono ?_; rintro e w' ⟨rfl, hw'⟩; subst hw') | (go_at_call 127; refine (f127 t _ ht).mono ?_; rintro e w' ⟨rfl, hw'⟩; subst hw'))
          go_ret
          exact ⟨ret_bool HK.out.symm, HB.out⟩
        · have o1' : (o == 1) = false := by simp [o1]
          by_cases o2 : o = 2
          · subst o2
            have HK : Hid (okM (s, 2, t) = true) := by unfold Hid okM; simp [h1, h2, h3]
            go_enter Tryz.func89, Tryz.ntmps89
            go_wp2_with (first | (go_at_call 126; refine (f126 s _ hs).mono ?_; rintro e w' ⟨rfl, hw'⟩; subst hw') | (go_at_call 127; refine (f127 t _ ht).mono ?_; rintro e w' ⟨rfl, hw'⟩; subst hw'))
            go_ret
            exact ⟨ret_bool HK.out.symm, HB.out⟩
          · have o2' : (o == 2) = false := by simp [o2]
            by_cases o3 : o = 3
            · subst o3
              have HK : Hid (okM (s, 3, t) = patB t) := by unfold Hid okM; simp [h1, h2, h3]
              go_enter Tryz.func89, Tryz.ntmps89
              go_wp2_with (first | (go_at_call 126; refine (f126 s _ hs).mono ?_; rintro e w' ⟨rfl, hw'⟩; subst hw') | (go_at_call 127; refine (f127 t _ ht).mono ?_; rintro e w' ⟨rfl, hw'⟩; subst hw') | (go_at_call 128; refine (f128 t _ ht).mono ?_; rintro e w2 ⟨rfl, hb2⟩))
              go_ret
              exact ⟨ret_bool HK.out.symm, HB.out.trans (hb2.mono (by simp))⟩
            · have o3' : (o == 3) = false := by simp [o3]
              by_cases o4 : o = 4
              · subst o4
                have HK : Hid (okM (s, 4, t) = patB t) := by unfold Hid okM; simp [h1, h2, h3]
                go_enter Tryz.func89, Tryz.ntmps89
                go_wp2_with (first | (go_at_call 126; refine (f126 s _ hs).mono ?_; rintro e w' ⟨rfl, hw'⟩; subst hw') | (go_at_call 127; refine (f127 t _ ht).mono ?_; rintro e w' ⟨rfl, hw'⟩; subst hw') | (go_at_call 128; refine (f128 t _ ht).mono ?_; rintro e w2 ⟨rfl, hb2⟩))
                go_ret
                exact ⟨ret_bool HK.out.symm, HB.out.trans (hb2.mono (by simp))⟩
              · have o4' : (o == 4) = false := by simp [o4]
                have HK : Hid (okM (s, o, t) = false) := by
                  unfold Hid okM
                  have : decide (1 ≤ o ∧ o ≤ 4) = false := decide_eq_false (by omega)
                  simp only [this]; simp
                clear o1 o2 o3 o4
                go_enter Tryz.func89, Tryz.ntmps89
                go_wp2_with (first | (go_at_call 126; refine (f126 s _ hs).mono ?_; rintro e w' ⟨rfl, hw'⟩; subst hw') | (go_at_call 127; refine (f127 t _ ht).mono ?_; rintro e w' ⟨rfl, hw'⟩; subst hw'))
                go_ret
                exact ⟨ret_bool HK.out.symm, HB.out⟩
      · have h3' : printL t.data.toList = false := by simpa using h3
        have HK : Hid (okM (s, o, t) = false) := by unfold Hid okM; simp [h3']
        clear h3
        go_enter Tryz.func89, Tryz.ntmps89
        go_wp2_with (first | (go_at_call 126; refine (f126 s _ hs).mono ?_; rintro e w' ⟨rfl, hw'⟩; subst hw') | (go_at_call 127; refine (f127 t _ ht).mono ?_; rintro e w' ⟨rfl, hw'⟩; subst hw'))
        go_ret
        exact ⟨ret_bool HK.out.symm, HB.out⟩
    · have HK : Hid (okM (s, o, t) = false) := by
        unfold Hid okM
        have : decide (t.size ≤ 100) = false := decide_eq_false h2
        simp only [this]; simp
      go_enter Tryz.func89, Tryz.ntmps89
      go_wp2_with (first | (go_at_call 126; refine (f126 s _ hs).mono ?_; rintro e w' ⟨rfl, hw'⟩; subst hw') | (go_at_call 127; refine (f127 t _ ht).mono ?_; rintro e w' ⟨rfl, hw'⟩; subst hw'))
      go_ret
      exact ⟨ret_bool HK.out.symm, HB.out⟩
  · have h1' : nameL s.data.toList = false := by simpa using h1
    have HK : Hid (okM (s, o, t) = false) := by unfold Hid okM; simp [h1']
    clear h1
    go_enter Tryz.func89, Tryz.ntmps89
    go_wp2_with (first | (go_at_call 126; refine (f126 s _ hs).mono ?_; rintro e w' ⟨rfl, hw'⟩; subst hw') | (go_at_call 127; refine (f127 t _ ht).mono ?_; rintro e w' ⟨rfl, hw'⟩; subst hw'))
    go_ret
    exact ⟨ret_bool HK.out.symm, HB.out⟩

set_option maxHeartbeats 4000000 in
theorem f52 (a : Option Addr) (n c : Nat) (ms : List Mt) (w : World) (hn : ms.length = n) (hmax : n ≤ maxLen) (hr : HasM w a ms) (hf : FitM ms) :
    Calls Tryz.prog 52 #[.slice a n c] w fun e w' => e = .returned (.bool (goodM ms)) ∧ Below w.heap.size w w' := by
  unfold maxLen at hmax
  have HN := hid hn
  clear hn
  by_cases h10 : n ≤ 10
  · go_enter Tryz.func52, Tryz.ntmps52
    go_wp2
    go_loopw [10] (fun i wr => ∃ k : Nat, k ≤ n ∧ i = .int .i64 k ∧ Hid (∀ i, i < k → okM (ms.getD i m0) = true) ∧ Below w.heap.size w wr) (fun i _ => n - (intOf i).toNat)
    case atStart => exact ⟨0, Nat.zero_le _, rfl, fun i hi => by omega, Below.refl _ _⟩
    case round =>
      obtain ⟨k, hk, rfl, hu, hnx⟩ := hrel
      have HX := hid hnx
      by_cases hlt : k < n
      · rcases hr with hr | ⟨b, off, rfl, hbl, hc⟩
        · exact absurd HN.out (by rw [hr]; simp; omega)
        obtain ⟨c0, c1, c2⟩ := hc k (by rw [HN.out]; exact hlt)
        have d0 := (hnx.cell (p := ⟨b, off + k * 3, none⟩) hbl).trans c0
        have d1 := (hnx.cell (p := ⟨b, off + k * 3 + 1, none⟩) hbl).trans c1
        have d2 := (hnx.cell (p := ⟨b, off + k * 3 + 2, none⟩) hbl).trans c2
        obtain ⟨g0, g1, g2, g3⟩ := hf k
        have HNo := hid (gm_no (ms := ms) (k := k) (by rw [HN.out]; exact hlt))
        have HUs : Hid (okM (ms.getD k m0) = true → ∀ i, i < k + 1 → okM (ms.getD i m0) = true) := by
          intro h i hi
          by_cases e : i = k
          · subst e; exact h
          · exact hu.out i (by omega)
        have lb : b < wr.heap.size := Nat.lt_of_lt_of_le hbl hnx.size
        have hsz := hnx.size
        clear hc c0 c1 c2 hnx
        generalize ms.getD k m0 = p at *
        obtain ⟨s, o, t⟩ := p
        have HX1 := hid (HX.out.alloc HX.out.size (.cells #[.string s, .int .i64 o, .string t] 74))
        by_cases hok : okM (s, o, t) = true
        · go_wp2_with (go_at_call 89; refine (f89 s t o _ g0 g1).mono ?_; rintro e w2 ⟨rfl, hb2⟩)
          have HX2 := hid (HX1.out.trans (hb2.mono (by simp; omega)))
          clear hb2
          go_roundw
          case rel => exact ⟨k + 1, by omega, by go_num, HUs.out hok, HX2.out⟩
          case measure => simp [intOf]; omega
        · have hok' : okM (s, o, t) = false := by simpa using hok
          go_wp2_with (go_at_call 89; refine (f89 s t o _ g0 g1).mono ?_; rintro e w2 ⟨rfl, hb2⟩)
          have HX2 := hid (HX1.out.trans (hb2.mono (by simp; omega)))
          clear hb2
          go_ret
          exact ⟨ret_bool (HNo.out hok').symm, HX2.out⟩
      · go_wp2
        go_ret
        exact ⟨ret_bool (gm_yes (k := k) (by rw [HN.out]; omega) hu.out (by rw [HN.out]; exact h10)).symm, HX.out⟩
  · go_enter Tryz.func52, Tryz.ntmps52
    go_wp2
    go_ret
    exact ⟨ret_bool (gm_long (by rw [HN.out]; omega)).symm, Below.refl _ _⟩

end Go.Proofs.YtjhdmghpklagkaaGreat.Pat
namespace Go.Proofs.YtjhdmghpklagkaaGreat.Pat
open Go.RowKit

def fitM (m : Mt) (v : ByteArray) : Bool := if m.2.1 = 1 then (v.toList == m.2.2.toList) else if m.2.1 = 2 then !(v.toList == m.2.2.toList) else if m.2.1 = 3 then fitsB m.2.2 v else !fitsB m.2.2 v
theorem ok_parts {s t : ByteArray} {o : Int} (h : okM (s, o, t) = true) : (1 ≤ o ∧ o ≤ 4) ∧ t.size ≤ 100 ∧ s.size ≤ 40 ∧ (o < 3 ∨ patB t = true) := by
  unfold okM nameL at h
  simp at h
  exact ⟨by omega, by omega, by omega, h.2⟩
set_option maxHeartbeats 1000000 in
theorem f147 (s t v : ByteArray) (o : Int) (w : World) (ho : okM (s, o, t) = true) (hv : v.size ≤ 100) : Calls Tryz.prog 147 #[.agg #[.string s, .int .i64 o, .string t], .string v] w fun e w' => e = .returned (.bool (fitM (s, o, t) v)) ∧ Below w.heap.size w w' := by
  obtain ⟨h1, h2, _, h3⟩ := ok_parts ho
  have HB := hid ((Below.refl w.heap.size w).alloc (Nat.le_refl _) (.cells #[.string s, .int .i64 o, .string t] 74))
  clear ho
  by_cases e1 : o = 1
  · have q1 : (o == 1) = true := by simp [e1]
    have HF : Hid (fitM (s, o, t) v = (v.toList == t.toList)) := by unfold Hid fitM; simp [e1]
    clear e1 h1 h3
    go_enter Tryz.func147, Tryz.ntmps147
    go_wp2
    go_ret
    exact ⟨by rw [HF.out]; rfl, HB.out⟩
  have q1 : (o == 1) = false := by simp [e1]
  by_cases e2 : o = 2
  · have q2 : (o == 2) = true := by simp [e2]
    have HF : Hid (fitM (s, o, t) v = !(v.toList == t.toList)) := by unfold Hid fitM; simp [e2]
    clear e1 e2 h1 h3
    go_enter Tryz.func147, Tryz.ntmps147
    go_wp2
    go_ret
    exact ⟨by rw [HF.out]; rfl, HB.out⟩
  have q2 : (o == 2) = false := by simp [e2]
  have hp : patB t = true := by rcases h3 with h | h; omega; exact h
  have HA := hid (fits_any hp hv)
  have H37 := hid (f175 t v (w.alloc (.cells #[.string s, .int .i64 o, .string t] 74)) (by unfold maxLen; omega) hp (by omega))
  by_cases e3 : o = 3
  · have q3 : (o == 3) = true := by simp [e3]
    have HF : Hid (fitM (s, o, t) v = anyF (altsF t.data.toList []) v.data.toList) := by unfold Hid fitM; simp [e3]; exact HA.out
    clear e1 e2 e3 h1 h3 hp
    go_enter Tryz.func147, Tryz.ntmps147
    go_wp2_with fail
    refine H37.out.mono ?_
    rintro e w2 ⟨rfl, hb2⟩
    have HB2 := hid (HB.out.trans (hb2.mono (by simp)))
    clear hb2
    go_wp2
    go_ret
    exact ⟨by rw [HF.out]; rfl, HB2.out⟩
  · have q3 : (o == 3) = false := by simp [e3]
    have HF : Hid (fitM (s, o, t) v = !anyF (altsF t.data.toList []) v.data.toList) := by unfold Hid fitM; simp only [e1, e2, e3, if_false]; rw [HA.out]
    clear e1 e2 e3 h1 h3 hp
    go_enter Tryz.func147, Tryz.ntmps147
    go_wp2_with fail
    refine H37.out.mono ?_
    rintro e w2 ⟨rfl, hb2⟩
    have HB2 := hid (HB.out.trans (hb2.mono (by simp)))
    clear hb2
    go_wp2
    go_ret
    exact ⟨by rw [HF.out]; rfl, HB2.out⟩
set_option maxHeartbeats 1000000 in
theorem f157 (s t v : ByteArray) (o : Int) (w : World) (ho : okM (s, o, t) = true) (hv : v.size ≤ 100) : Calls Tryz.prog 157 #[.agg #[.string s, .int .i64 o, .string t], .string v] w fun e w' => e = .returned (.bool (fitM (s, o, t) v)) ∧ Below w.heap.size w w' := by
  obtain ⟨h1, h2, _, h3⟩ := ok_parts ho
  have HB := hid ((Below.refl w.heap.size w).alloc (Nat.le_refl _) (.cells #[.string s, .int .i64 o, .string t] 74))
  clear ho
  by_cases e1 : o = 1
  · have q1 : (o == 1) = true := by simp [e1]
    have HF : Hid (fitM (s, o, t) v = (v.toList == t.toList)) := by unfold Hid fitM; simp [e1]
    clear e1 h1 h3
    go_enter Tryz.func157, Tryz.ntmps157
    go_wp2
    go_ret
    exact ⟨by rw [HF.out]; rfl, HB.out⟩
  have q1 : (o == 1) = false := by simp [e1]
  by_cases e2 : o = 2
  · have q2 : (o == 2) = true := by simp [e2]
    have HF : Hid (fitM (s, o, t) v = !(v.toList == t.toList)) := by unfold Hid fitM; simp [e2]
    clear e1 e2 h1 h3
    go_enter Tryz.func157, Tryz.ntmps157
    go_wp2
    go_ret
    exact ⟨by rw [HF.out]; rfl, HB.out⟩
  have q2 : (o == 2) = false := by simp [e2]
  have H11 := hid (f183 t v (w.alloc (.cells #[.string s, .int .i64 o, .string t] 74)) (by unfold maxLen; omega) (by unfold maxLen; omega))
  by_cases e3 : o = 3
  · have q3 : (o == 3) = true := by simp [e3]
    have HF : Hid (fitM (s, o, t) v = fitsB t v) := by unfold Hid fitM; simp [e3]
    clear e1 e2 e3 h1 h3
    go_enter Tryz.func157, Tryz.ntmps157
    go_wp2_with fail
    refine H11.out.mono ?_
    rintro e w2 ⟨rfl, hb2⟩
    have HB2 := hid (HB.out.trans (hb2.mono (by simp)))
    clear hb2
    go_wp2
    go_ret
    exact ⟨by rw [HF.out]; rfl, HB2.out⟩
  · have q3 : (o == 3) = false := by simp [e3]
    have HF : Hid (fitM (s, o, t) v = !fitsB t v) := by unfold Hid fitM; simp only [e1, e2, e3, if_false]
    clear e1 e2 e3 h1 h3
    go_enter Tryz.func157, Tryz.ntmps157
    go_wp2_with fail
    refine H11.out.mono ?_
    rintro e w2 ⟨rfl, hb2⟩
    have HB2 := hid (HB.out.trans (hb2.mono (by simp)))
    clear hb2
    go_wp2
    go_ret
    exact ⟨by rw [HF.out]; rfl, HB2.out⟩

abbrev S3 (w : World) (p : Mt) (a : Option Addr) (ls : List Lab.Lb) (w' : World) : Prop :=
  w'.cell? ⟨w.heap.size, 0, none⟩ = some (.string p.1) ∧ w'.cell? ⟨w.heap.size, 1, none⟩ = some (.int .i64 p.2.1) ∧ w'.cell? ⟨w.heap.size, 2, none⟩ = some (.string p.2.2) ∧ Lab.HasL w' a ls ∧ Below w.heap.size w w'
theorem S3.below {w W W' : World} {p : Mt} {a : Option Addr} {ls : List Lab.Lb} (h : S3 w p a ls W) (hb : Below W.heap.size W W') : S3 w p a ls W' := by
  obtain ⟨h1, h2, h3, h4, h5⟩ := h
  have l := World.block_lt_of_cell? W _ h2
  exact ⟨(hb.cell (p := ⟨w.heap.size, 0, none⟩) l).trans h1, (hb.cell (p := ⟨w.heap.size, 1, none⟩) l).trans h2, (hb.cell (p := ⟨w.heap.size, 2, none⟩) l).trans h3, h4.below hb, h5.trans (hb.mono h5.size)⟩
theorem S3.drew {w W : World} {p : Mt} {a : Option Addr} {ls : List Lab.Lb} (h : S3 w p a ls W) : S3 w p a ls W.drew := h.below (Below.refl _ _).drew
theorem three_at {w : World} {b : Nat} {x y z : Value} {t : TypeId} (h : w.heap[b]? = some (.cells #[x, y, z] t)) : w.cell? ⟨b, 0, none⟩ = some x ∧ w.cell? ⟨b, 1, none⟩ = some y ∧ w.cell? ⟨b, 2, none⟩ = some z := by
  refine ⟨?_, ?_, ?_⟩ <;> (unfold World.cell?; simp only [h]; rfl)
theorem S3.new (w : World) (p : Mt) {a : Option Addr} {ls : List Lab.Lb} (hr : Lab.HasL w a ls) : S3 w p a ls (w.alloc (.cells #[.string p.1, .int .i64 p.2.1, .string p.2.2] 74)) := by
  obtain ⟨h1, h2, h3⟩ := three_at (heap_alloc_new w (.cells #[.string p.1, .int .i64 p.2.1, .string p.2.2] 74))
  have hb := (Below.refl w.heap.size w).alloc (Nat.le_refl _) (.cells #[.string p.1, .int .i64 p.2.1, .string p.2.2] 74)
  exact ⟨h1, h2, h3, hr.below hb, hb⟩
theorem S3.lab {w W : World} {p : Mt} {a : Option Addr} {ls : List Lab.Lb} (h : S3 w p a ls W) : Lab.HasL W a ls := h.2.2.2.1
def allM (ms : List Mt) (val : ByteArray → ByteArray) : Bool := ms.all fun m => fitM m (val m.1)
theorem all_step {ms : List Mt} {val : ByteArray → ByteArray} {k : Nat} (hk : k < ms.length) : allM (ms.drop k) val = (fitM (ms.getD k m0) (val (ms.getD k m0).1) && allM (ms.drop (k + 1)) val) := by
  rw [List.drop_eq_getElem_cons hk]
  unfold allM
  rw [List.all_cons]
  simp [hk]
end Go.Proofs.YtjhdmghpklagkaaGreat.Pat
namespace Go.Proofs.YtjhdmghpklagkaaGreat.Pat
open Go.RowKit

theorem val_size {ls : List Lab.Lb} {x v : ByteArray} (hg : Lab.GoodP ls) (h : Lab.OfV ls x v) : v.size ≤ 100 := by
  rcases h with ⟨k, hk, _, h2, _⟩ | ⟨_, h2⟩
  · have := (hg.2 k hk).1
    unfold Lab.okL Str.valueL at this
    simp at this
    rw [← h2]
    simp at this ⊢
    omega
  · rw [h2]; simp
theorem good_ok {ms : List Mt} {k : Nat} (h : goodM ms = true) (hk : k < ms.length) : okM (ms.getD k m0) = true := (of_decide_eq_true h : GoodMP ms).2 k hk

set_option maxHeartbeats 4000000 in
theorem f113 (a a' : Option Addr) (n c n' c' : Nat) (ms : List Mt) (ls : List Lab.Lb) (val : ByteArray → ByteArray) (w : World) (hn : ms.length = n) (hn' : ls.length = n') (hr : HasM w a ms) (hr' : Lab.HasL w a' ls) (hm : goodM ms = true) (hg : Lab.GoodP ls) (hval : ∀ x, Lab.OfV ls x (val x)) :
    Calls Tryz.prog 113 #[.slice a n c, .slice a' n' c'] w fun e w' => e = .returned (.bool (allM ms val)) ∧ Below w.heap.size w w' := by
  have HN := hid hn
  have HN' := hid hn'
  have HM := hid hm
  have HV := hid hval
  have HSZ : Hid (∀ x, (val x).size ≤ 100) := fun x => val_size hg (hval x)
  have HR' := hid hr'
  have h20 : n' ≤ 20 := by rw [← hn']; exact hg.1
  have h10 : n ≤ 10 := by rw [← hn]; exact (of_decide_eq_true hm : GoodMP ms).1
  clear hn hn' hm hval hr' hg
  go_enter Tryz.func113, Tryz.ntmps113
  go_wp2
  go_loopw [9] (fun i wr => ∃ k : Nat, k ≤ n ∧ i = .int .i64 k ∧ Hid (allM ms val = allM (ms.drop k) val) ∧ Hid (Below w.heap.size w wr)) (fun i _ => n - (intOf i).toNat)
  case atStart => exact ⟨0, Nat.zero_le _, rfl, rfl, Below.refl _ _⟩
  case round =>
    obtain ⟨k, hk, rfl, HA, HX⟩ := hrel
    by_cases hlt : k < n
    · rcases hr with hr | ⟨b, off, rfl, hbl, hc⟩
      · exact absurd HN.out (by rw [hr]; simp; omega)
      obtain ⟨c0, c1, c2⟩ := hc k (by rw [HN.out]; exact hlt)
      have d0 := (HX.out.cell (p := ⟨b, off + k * 3, none⟩) hbl).trans c0
      have d1 := (HX.out.cell (p := ⟨b, off + k * 3 + 1, none⟩) hbl).trans c1
      have d2 := (HX.out.cell (p := ⟨b, off + k * 3 + 2, none⟩) hbl).trans c2
      have HST := hid (all_step (val := val) (show k < ms.length by rw [HN.out]; exact hlt))
      have HOK := hid (good_ok HM.out (show k < ms.length by rw [HN.out]; exact hlt))
      have lb : b < wr.heap.size := Nat.lt_of_lt_of_le hbl HX.out.size
      clear hc c0 c1 c2
      generalize ms.getD k m0 = p at *
      obtain ⟨s, o, t⟩ := p
      have HS1 := hid (S3.new wr (s, o, t) (HR'.out.below HX.out))
      have HVs := hid (HV.out s)
      have HZs := hid (HSZ.out s)
      go_wp2_with fail
      go_region_held3 (fun w' => S3 wr (s, o, t) a' ls w') (first | exact HS1.out.drew | assumption) (first | (go_at_call 123; refine (Lab.f123 a' n' c' ls s _ HN'.out h20 (S3.lab (by assumption))).mono ?_; rintro e w2 ⟨v, hv, rfl, hb2⟩; obtain rfl := hv.uniq HVs.out; have hs2 := S3.below (by assumption) hb2; clear hb2 hv) | (go_at_call 147; refine (f147 s t (val s) o _ HOK.out HZs.out).mono ?_; rintro e w3 ⟨rfl, hb3⟩; have hs3 := S3.below (by assumption) hb3; clear hb3))
      have HX2 := hid (HX.out.trans (hs3.2.2.2.2.mono HX.out.size))
      by_cases hf : fitM (s, o, t) (val s) = true
      · have HA2 : Hid (allM ms val = allM (ms.drop (k + 1)) val) := by unfold Hid; rw [HA.out, HST.out, hf]; rfl
        rw [hf]
        clear hf
        go_wp2
        go_roundw
        case rel => exact ⟨k + 1, by omega, by go_num, HA2, HX2⟩
        case measure => simp [intOf]; omega
      · have hf' : fitM (s, o, t) (val s) = false := by simpa using hf
        have HA2 : Hid (allM ms val = false) := by unfold Hid; rw [HA.out, HST.out, hf']; rfl
        rw [hf']
        clear hf hf'
        go_wp2
        go_ret
        exact ⟨by rw [HA2.out]; rfl, HX2.out⟩
    · have HA2 : Hid (allM ms val = true) := by unfold Hid; rw [HA.out, List.drop_eq_nil_of_le (by rw [HN.out]; omega)]; rfl
      go_wp2
      go_ret
      exact ⟨by rw [HA2.out]; rfl, HX.out⟩
end Go.Proofs.YtjhdmghpklagkaaGreat.Pat
namespace Go.Proofs.YtjhdmghpklagkaaGreat.Srs
open Go.RowKit
open Go.Proofs.YtjhdmghpklagkaaGreat.Lab (Lb HasL OfV GoodP)
open Go.Proofs.YtjhdmghpklagkaaGreat.Smp (Sm HasS cut)
open Go.Proofs.YtjhdmghpklagkaaGreat.Pat (Mt HasM goodM allM FitM)

abbrev Vf := List Lb → ByteArray → ByteArray
def hit (val : Vf) (ms : List Mt) (x y : Int) (p : Pl) : List Pl := if cut p.2 x y = [] then [] else if allM ms (val p.1) = true then [(p.1, cut p.2 x y)] else []
def sl (val : Vf) (ms : List Mt) (qs : List Q) (x y : Int) : Nat → List Pl
  | 0 => []
  | k + 1 => sl val ms qs x y k ++ hit val ms x y (pl (qs.getD k q0))
theorem hit_len (val : Vf) (ms : List Mt) (x y : Int) (p : Pl) : (hit val ms x y p).length ≤ 1 := by
  unfold hit
  split
  · simp
  · split <;> simp
theorem hit_no {val : Vf} {ms : List Mt} {x y : Int} {q : Q} (hc : cut q.s x y = []) : hit val ms x y (pl q) = [] := if_pos hc
theorem hit_yes {val : Vf} {ms : List Mt} {x y : Int} {q : Q} (hc : ¬ cut q.s x y = []) : hit val ms x y (pl q) = if allM ms (val q.l) = true then [(q.l, cut q.s x y)] else [] := if_neg hc
theorem sl_len (val : Vf) (ms : List Mt) (qs : List Q) (x y : Int) : ∀ k, (sl val ms qs x y k).length ≤ k := by
  intro k
  induction k with
  | zero => exact Nat.le_refl _
  | succ k ih => rw [sl, List.length_append]; have := hit_len val ms x y (pl (qs.getD k q0)); omega
theorem infoQ' : (Tryz.prog.info? 80).map (fun i => (i.zero, i.size, i.bytes)) = some (some (.agg #[.slice none 0 0, .slice none 0 0]), 2, 48) := by kernel_rfl
theorem two_new (w : World) (x y : Value) (t : TypeId) : ∀ j u, [x, y][j]? = some u → (w.alloc (.cells #[x, y] t)).cell? ((⟨w.heap.size, 0, none⟩ : Addr).add j) = some u := Smp.two_new w x y t
theorem own_form' {w : World} {base e size n : Nat} {v : Value} {xs : List Value} (h : w.ownsRow base e size v n xs) (hp : 0 < n) : ∃ g c, v = .slice (some ⟨g, 0, none⟩) n c := by
  rcases h.2 with ⟨_, h2⟩ | ⟨g, cap, cur, h1, _⟩
  · omega
  · exact ⟨g, cap, h1⟩
theorem sel_len {R : List Q} {L : List Pl} (h : R.map pl = L) : R.length = L.length := by rw [← h]; simp
theorem named_ne {ls : List Lb} (h : Named ls) : ls ≠ [] := by
  rintro rfl
  exact h.2 (.inr ⟨fun k hk => by simp at hk, rfl⟩)
def LowQ (qs : List Q) : Prop := qs.length ≤ 200 ∧ ∀ i, i < qs.length → Named (qs.getD i q0).l ∧ (qs.getD i q0).s.length ≤ 2000
set_option maxHeartbeats 4000000 in
theorem f115w (val : Vf) (hv : ∀ ls x, OfV ls x (val ls x)) (a am : Option Addr) (n c nm cm : Nat) (qs : List Q) (ms : List Mt) (x y : Int) (w : World) (hn : qs.length = n) (hnm : ms.length = nm) (hr : HasQ w a qs) (hm : HasM w am ms) (hg : LowQ qs) (hgm : goodM ms = true) :
    Calls Tryz.prog 115 #[.slice a n c, .slice am nm cm, .int .i64 x, .int .i64 y] w fun e w' => ∃ a' m' c' R, e = .returned (.slice a' m' c') ∧ OwnO w.heap.size a' m' c' R w' ∧ R.map pl = sl val ms qs x y n ∧ Below w.heap.size w w' := by
  obtain ⟨i0, hi, hz0, hz1, hz2⟩ := info_parts infoQ'
  have HN := hid hn
  have HNM := hid hnm
  have HR := hid hr
  have HMs := hid hm
  have HG := hid hg
  have HGM := hid hgm
  have HV := hid hv
  have h200 : n ≤ 200 := by rw [← HN.out]; exact HG.out.1
  clear hn hnm hr hm hg hgm hv
  go_enter Tryz.func115, Tryz.ntmps115
  go_wp2
  go_loopw [9, 15] (fun so si wr => ∃ (k m c' : Nat) (a' : Option Addr) (R : List Q), k ≤ n ∧ si = .int .i64 k ∧ so = .slice a' m c' ∧ Hid (OwnO w.heap.size a' m c' R wr) ∧ Hid (R.map pl = sl val ms qs x y k) ∧ Hid (Below w.heap.size w wr)) (fun _ si _ => n - (intOf si).toNat)
  case atStart => exact ⟨0, 0, 0, none, [], Nat.zero_le _, rfl, rfl, OwnO.nil _ _, rfl, Below.refl _ _⟩
  case round =>
    obtain ⟨k, m, c', a', R, hk, rfl, rfl, HO, HS, HX⟩ := hrel
    by_cases hlt : k < n
    rotate_left
    · obtain rfl : k = n := by omega
      go_wp2
      go_ret
      exact ⟨a', m, c', R, rfl, HO.out, HS.out, HX.out⟩
    obtain ⟨b, off, rfl, hbl, c0, c1, t1, t2⟩ := (HR.out.below HX.out).at2 k (by rw [HN.out]; exact hlt)
    have HQ := hid (HG.out.2 k (by rw [HN.out]; exact hlt))
    have hm : m ≤ 200 := by have := HO.out.len; have := sel_len HS.out; have := sl_len val ms qs x y k; omega
    have HSl : Hid (sl val ms qs x y (k + 1) = sl val ms qs x y k ++ hit val ms x y (pl (qs.getD k q0))) := rfl
    generalize qs.getD k q0 = q at *
    have HGp := hid (good_goodP HQ.out.1.1)
    have hs2k : q.s.length ≤ 2000 := HQ.out.2
    have HNe := hid (named_ne HQ.out.1)
    have HG1 := hid (box_gg (w := w) (q := q) (p := q) c0 t1 t2 t1 hbl HX.out)
    have HW0 := hid ((Below.refl wr.heap.size wr).alloc (Nat.le_refl _) (.cells #[.slice q.a q.l.length q.c, .slice q.b q.s.length q.d] 80))
    clear t1 t2 hbl
    go_wp2_with fail
    refine (Smp.f148 q.b q.d q.s x y _ (by omega) (GG.t2 HG1.out)).mono ?_
    rintro e w2 ⟨v2, rfl, hv2, hb2⟩
    have HG2 := hid (GG.below HG1.out hb2)
    have HW2 := hid (HW0.out.trans (hb2.mono HW0.out.size))
    have HV2 : Hid (Smp.Own w2 wr.heap.size v2 (cut q.s x y)) := own_base hv2 HW0.out.size
    clear hb2 hv2 HG1 c0 c1
    obtain ⟨e0, e1, _⟩ := id HG2.out
    have HMs2 := hid (HMs.out.below HG2.out.bel)
    by_cases hc : cut q.s x y = []
    · have HE2 : Hid (sl val ms qs x y (k + 1) = sl val ms qs x y k) := by unfold Hid; rw [HSl.out, hit_no hc, List.append_nil]
      have HO2 := hid (HO.out.below HW2.out)
      have HX2 := hid HG2.out.bel
      obtain ⟨a2, c2, rfl⟩ := Smp.own_form HV2.out
      have hl2 : (cut q.s x y).length = 0 := by rw [hc]; rfl
      rw [hl2] at *
      go_wp2
      go_roundw
      case rel => exact ⟨k + 1, m, c', a', R, by omega, by go_num, rfl, HO2.out, by unfold Hid; rw [HE2.out]; exact HS.out, HX2.out⟩
      case measure => simp [intOf]; omega
    have hpos : 0 < (cut q.s x y).length := List.length_pos_iff.2 hc
    obtain ⟨gs, c2, rfl⟩ := own_form' HV2.out hpos
    have hle2 : (cut q.s x y).length ≤ 2000 := Nat.le_trans (Smp.cut_len _ _ _) hs2k
    have HHit : Hid (hit val ms x y (pl q) = if allM ms (val q.l) = true then [(q.l, cut q.s x y)] else []) := hid (hit_yes hc)
    clear hc
    generalize cut q.s x y = C at *
    have hpi : (0 : Int) < (C.length : Int) := by omega
    go_wp2_with fail
    refine (Pat.f113 am q.a nm cm q.l.length q.c ms q.l (val q.l) _ HNM.out rfl HMs2.out (GG.t1 HG2.out) HGM.out HGp.out (HV.out q.l)).mono ?_
    rintro e w3 ⟨rfl, hb3⟩
    have HG3 := hid (GG.below HG2.out hb3)
    have HW3 := hid (HW2.out.trans (hb3.mono HW2.out.size))
    have HV3 : Hid (Smp.Own w3 wr.heap.size (.slice (some ⟨gs, 0, none⟩) C.length c2) C) := own_below HV2.out hb3
    clear hb3 HG2 HV2 e0 e1 HMs2
    obtain ⟨e0, e1, _⟩ := id HG3.out
    cases hA : allM ms (val q.l)
    · have HE3 : Hid (sl val ms qs x y (k + 1) = sl val ms qs x y k) := by unfold Hid; rw [HSl.out, HHit.out, hA]; simp
      have HO3 := hid (HO.out.below HW3.out)
      have HX3 := hid HG3.out.bel
      go_wp2
      go_roundw
      case rel => exact ⟨k + 1, m, c', a', R, by omega, by go_num, rfl, HO3.out, by unfold Hid; rw [HE3.out]; exact HS.out, HX3.out⟩
      case measure => simp [intOf]; omega
    have HE3 : Hid (sl val ms qs x y (k + 1) = sl val ms qs x y k ++ [(q.l, C)]) := by unfold Hid; rw [HSl.out, HHit.out, hA]; simp
    obtain ⟨bl, ol, hql⟩ : ∃ b o, q.a = some ⟨b, o, none⟩ := by
      rcases GG.t1 HG3.out with h | ⟨b, o, h, _⟩
      · exact absurd h HNe.out
      · exact ⟨b, o, h⟩
    have HT3 := hid (GG.t1 HG3.out)
    rw [hql] at HT3 e0
    clear hql
    have hll : q.l.length ≤ 20 := HGp.out.1
    have hlp : 0 < q.l.length := List.length_pos_iff.2 HNe.out
    go_wp2_with fail
    refine (f111 bl ol q.c q.l _ (by omega) HT3.out).mono ?_
    rintro e w4 ⟨v4, rfl, ho4, hb4⟩
    have HG4 := hid (GG.below HG3.out hb4)
    have HW4 := hid (HW3.out.trans (hb4.mono HW3.out.size))
    obtain ⟨gl, cl4, rfl⟩ := own_form' ho4 hlp
    have HL4 : Hid (OwnL w4 wr.heap.size (.slice (some ⟨gl, 0, none⟩) q.l.length cl4) q.l) := own_base ho4 HW3.out.size
    have hgl : w3.heap.size ≤ gl := (ho4.lt gl rfl).1
    have HV4 : Hid (Smp.Own w4 wr.heap.size (.slice (some ⟨gs, 0, none⟩) C.length c2) C) := own_below HV3.out hb4
    have hgs : wr.heap.size ≤ gs ∧ gs < w3.heap.size := HV3.out.lt gs rfl
    clear ho4 hb4 HG3 HV3 HT3 e0 e1
    have hne : gl ≠ gs := by omega
    obtain ⟨q', hq'⟩ : ∃ q' : Q, q' = ⟨q.l, some ⟨gl, 0, none⟩, cl4, C, some ⟨gs, 0, none⟩, c2⟩ := ⟨_, rfl⟩
    have HQ4 : Hid (Own2 w.heap.size q' w4 ∧ wr.heap.size ≤ blk q'.a ∧ wr.heap.size ≤ blk q'.b ∧ pl q' = (q.l, C) ∧ cl q' = [.slice (some ⟨gl, 0, none⟩) q.l.length cl4, .slice (some ⟨gs, 0, none⟩) C.length c2]) := by
      rw [hq']
      exact ⟨⟨rfl, rfl, own_base HL4.out HX.out.size, own_base HV4.out HX.out.size, hne⟩, Nat.le_trans HW3.out.size hgl, hgs.1, rfl, rfl⟩
    clear hq' HL4 HV4
    have HO4 := hid (HO.out.below HW4.out)
    go_wp2_with (at_builtin; refine wpList_append_own_at _ rfl (.tmp 33) (.tmp 39) 33 rfl w.heap.size 80 i0 (.agg #[.slice none 0 0, .slice none 0 0]) 2 48 Tryz.underlying33 hi hz0 hz1 hz2 rfl (by decide) _ _ _ rfl (HO4.out.row.alloc _) ⟨w4.heap.size, 0, none⟩ 1 1 [.slice (some ⟨gl, 0, none⟩) q.l.length cl4, .slice (some ⟨gs, 0, none⟩) C.length c2] rfl rfl ?d1 ?d2 ?d3 ?d4 ?d5 ?_)
    case d1 => first | exact two_new w4 _ _ _ | exact fun j u h => h
    case d2 => first | (intro u hu; simp at hu; rcases hu with rfl | rfl <;> rfl) | (refine ⟨?_, ?_⟩ <;> rfl) | rfl
    case d3 => unfold maxLen; omega
    case d4 => omega
    case d5 => have := HG4.out.bel.size; simp; omega
    intro v6 w6 hown6 hgr6 _ hat6
    obtain ⟨a6, c6, rfl⟩ := Smp.own_form hown6
    have HX6 := hid ((HG4.out.bel.alloc HG4.out.bel.size (.cells #[.slice (some ⟨gl, 0, none⟩) q.l.length cl4, .slice (some ⟨gs, 0, none⟩) C.length c2] 80)).grown hgr6 (by have := HG4.out.bel.size; simp; omega) (fun j hj => (HO4.out.row.lt j hj).1))
    have HO6 : Hid (OwnO w.heap.size a6 (m + 1) c6 (R ++ [q']) w6) := by
      have hba := (Below.refl w4.heap.size w4).alloc (Nat.le_refl _) (.cells #[.slice (some ⟨gl, 0, none⟩) q.l.length cl4, .slice (some ⟨gs, 0, none⟩) C.length c2] 80)
      refine HO.out.push (HW4.out.trans (hba.mono HW4.out.size)) (HQ4.out.1.below hba) HQ4.out.2.1 HQ4.out.2.2.1 hgr6 ?_ (by rw [World.size_alloc]; exact hat6)
      have e : flat (R ++ [q']) = flat R ++ [.slice (some ⟨gl, 0, none⟩) q.l.length cl4, .slice (some ⟨gs, 0, none⟩) C.length c2] := by
        rw [flat_append]
        show flat R ++ (cl q' ++ []) = _
        rw [HQ4.out.2.2.2.2, List.append_nil]
      rw [e]
      exact hown6
    have HS6 : Hid ((R ++ [q']).map pl = sl val ms qs x y (k + 1)) := by unfold Hid; rw [HE3.out, List.map_append, HS.out, List.map_singleton, HQ4.out.2.2.2.1]
    clear hown6 hgr6 hat6
    go_wp2
    go_roundw
    case rel => exact ⟨k + 1, m + 1, c6, a6, R ++ [q'], by omega, by go_num, rfl, HO6.out, HS6.out, HX6.out⟩
    case measure => simp [intOf]; omega
end Go.Proofs.YtjhdmghpklagkaaGreat.Srs
