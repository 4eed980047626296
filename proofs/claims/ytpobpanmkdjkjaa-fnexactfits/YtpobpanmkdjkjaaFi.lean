/- Matchers asked about labels: what l2Match, matcherFits, l2All and both Fits come to. -/
import Derived.Test.YtpobpanmkdjkjaaPl
import Derived.Test.YtpobpanmkdjkjaaMgd
import Derived.Test.YtpobpanmkdjkjaaVo
namespace Go.Proofs.Ytpobpanmkdjkjaa.Pat
open Go.RowKit

/-- Whether a good matcher fits a value. -/
def fitM (m : Mt) (v : ByteArray) : Bool := if m.2.1 = 1 then (v.toList == m.2.2.toList) else if m.2.1 = 2 then !(v.toList == m.2.2.toList) else if m.2.1 = 3 then fitsB m.2.2 v else !fitsB m.2.2 v
theorem ok_parts {s t : ByteArray} {o : Int} (h : okM (s, o, t) = true) : (1 ≤ o ∧ o ≤ 4) ∧ t.size ≤ 100 ∧ s.size ≤ 40 ∧ (o < 3 ∨ patB t = true) := by
  unfold okM nameL at h
  simp at h
  exact ⟨by omega, by omega, by omega, h.2⟩
set_option maxHeartbeats 1000000 in
theorem f60 (s t v : ByteArray) (o : Int) (w : World) (ho : okM (s, o, t) = true) (hv : v.size ≤ 100) : Calls Try.prog 60 #[.agg #[.string s, .int .i64 o, .string t], .string v] w fun e w' => e = .returned (.bool (fitM (s, o, t) v)) ∧ Below w.heap.size w w' := by
  obtain ⟨h1, h2, _, h3⟩ := ok_parts ho
  have HB := hid ((Below.refl w.heap.size w).alloc (Nat.le_refl _) (.cells #[.string s, .int .i64 o, .string t] 70))
  clear ho
  by_cases e1 : o = 1
  · have q1 : (o == 1) = true := by simp [e1]
    have HF : Hid (fitM (s, o, t) v = (v.toList == t.toList)) := by unfold Hid fitM; simp [e1]
    clear e1 h1 h3
    go_enter Try.func60, Try.ntmps60
    go_wp2
    go_ret
    exact ⟨by rw [HF.out]; rfl, HB.out⟩
  have q1 : (o == 1) = false := by simp [e1]
  by_cases e2 : o = 2
  · have q2 : (o == 2) = true := by simp [e2]
    have HF : Hid (fitM (s, o, t) v = !(v.toList == t.toList)) := by unfold Hid fitM; simp [e2]
    clear e1 e2 h1 h3
    go_enter Try.func60, Try.ntmps60
    go_wp2
    go_ret
    exact ⟨by rw [HF.out]; rfl, HB.out⟩
  have q2 : (o == 2) = false := by simp [e2]
  have hp : patB t = true := by rcases h3 with h | h; omega; exact h
  have HA := hid (fits_any hp hv)
  have H37 := hid (f32 t v (w.alloc (.cells #[.string s, .int .i64 o, .string t] 70)) (by unfold maxLen; omega) hp (by omega))
  by_cases e3 : o = 3
  · have q3 : (o == 3) = true := by simp [e3]
    have HF : Hid (fitM (s, o, t) v = anyF (altsF t.data.toList []) v.data.toList) := by unfold Hid fitM; simp [e3]; exact HA.out
    clear e1 e2 e3 h1 h3 hp
    go_enter Try.func60, Try.ntmps60
    go_wp2_with fail
    refine H37.out.mono ?_
    rintro e w2 ⟨rfl, hb2⟩
    have HB2 := hid (HB.out.trans (hb2.mono (by simp)))
    clear hb2
    go_wp2
    go_ret
    exact ⟨by rw [HF.out]; rfl, HB2.out⟩
  · have q3 : (o == 3) = false := by simp [e3]
    have HF : Hid (fitM (s, o, t) v = !anyF (altsF t.data.toList []) v.data.toList) := by unfold Hid fitM; simp only [e1, e2, e3, if_false]; rw [HA.out]
    clear e1 e2 e3 h1 h3 hp
    go_enter Try.func60, Try.ntmps60
    go_wp2_with fail
    refine H37.out.mono ?_
    rintro e w2 ⟨rfl, hb2⟩
    have HB2 := hid (HB.out.trans (hb2.mono (by simp)))
    clear hb2
    go_wp2
    go_ret
    exact ⟨by rw [HF.out]; rfl, HB2.out⟩
set_option maxHeartbeats 1000000 in
theorem f67 (s t v : ByteArray) (o : Int) (w : World) (ho : okM (s, o, t) = true) (hv : v.size ≤ 100) : Calls Try.prog 67 #[.agg #[.string s, .int .i64 o, .string t], .string v] w fun e w' => e = .returned (.bool (fitM (s, o, t) v)) ∧ Below w.heap.size w w' := by
  obtain ⟨h1, h2, _, h3⟩ := ok_parts ho
  have HB := hid ((Below.refl w.heap.size w).alloc (Nat.le_refl _) (.cells #[.string s, .int .i64 o, .string t] 70))
  clear ho
  by_cases e1 : o = 1
  · have q1 : (o == 1) = true := by simp [e1]
    have HF : Hid (fitM (s, o, t) v = (v.toList == t.toList)) := by unfold Hid fitM; simp [e1]
    clear e1 h1 h3
    go_enter Try.func67, Try.ntmps67
    go_wp2
    go_ret
    exact ⟨by rw [HF.out]; rfl, HB.out⟩
  have q1 : (o == 1) = false := by simp [e1]
  by_cases e2 : o = 2
  · have q2 : (o == 2) = true := by simp [e2]
    have HF : Hid (fitM (s, o, t) v = !(v.toList == t.toList)) := by unfold Hid fitM; simp [e2]
    clear e1 e2 h1 h3
    go_enter Try.func67, Try.ntmps67
    go_wp2
    go_ret
    exact ⟨by rw [HF.out]; rfl, HB.out⟩
  have q2 : (o == 2) = false := by simp [e2]
  have H11 := hid (f9 t v (w.alloc (.cells #[.string s, .int .i64 o, .string t] 70)) (by unfold maxLen; omega) (by unfold maxLen; omega))
  by_cases e3 : o = 3
  · have q3 : (o == 3) = true := by simp [e3]
    have HF : Hid (fitM (s, o, t) v = fitsB t v) := by unfold Hid fitM; simp [e3]
    clear e1 e2 e3 h1 h3
    go_enter Try.func67, Try.ntmps67
    go_wp2_with fail
    refine H11.out.mono ?_
    rintro e w2 ⟨rfl, hb2⟩
    have HB2 := hid (HB.out.trans (hb2.mono (by simp)))
    clear hb2
    go_wp2
    go_ret
    exact ⟨by rw [HF.out]; rfl, HB2.out⟩
  · have q3 : (o == 3) = false := by simp [e3]
    have HF : Hid (fitM (s, o, t) v = !fitsB t v) := by unfold Hid fitM; simp only [e1, e2, e3, if_false]
    clear e1 e2 e3 h1 h3
    go_enter Try.func67, Try.ntmps67
    go_wp2_with fail
    refine H11.out.mono ?_
    rintro e w2 ⟨rfl, hb2⟩
    have HB2 := hid (HB.out.trans (hb2.mono (by simp)))
    clear hb2
    go_wp2
    go_ret
    exact ⟨by rw [HF.out]; rfl, HB2.out⟩

/-- A matcher in its box, the labels in their row. -/
abbrev S3 (w : World) (p : Mt) (a : Option Addr) (ls : List Lab.Lb) (w' : World) : Prop :=
  w'.cell? ⟨w.heap.size, 0, none⟩ = some (.string p.1) ∧ w'.cell? ⟨w.heap.size, 1, none⟩ = some (.int .i64 p.2.1) ∧ w'.cell? ⟨w.heap.size, 2, none⟩ = some (.string p.2.2) ∧ Lab.HasL w' a ls ∧ Below w.heap.size w w'
theorem S3.below {w W W' : World} {p : Mt} {a : Option Addr} {ls : List Lab.Lb} (h : S3 w p a ls W) (hb : Below W.heap.size W W') : S3 w p a ls W' := by
  obtain ⟨h1, h2, h3, h4, h5⟩ := h
  have l := World.block_lt_of_cell? W _ h2
  exact ⟨(hb.cell (p := ⟨w.heap.size, 0, none⟩) l).trans h1, (hb.cell (p := ⟨w.heap.size, 1, none⟩) l).trans h2, (hb.cell (p := ⟨w.heap.size, 2, none⟩) l).trans h3, h4.below hb, h5.trans (hb.mono h5.size)⟩
theorem S3.drew {w W : World} {p : Mt} {a : Option Addr} {ls : List Lab.Lb} (h : S3 w p a ls W) : S3 w p a ls W.drew := h.below (Below.refl _ _).drew
theorem three_at {w : World} {b : Nat} {x y z : Value} {t : TypeId} (h : w.heap[b]? = some (.cells #[x, y, z] t)) : w.cell? ⟨b, 0, none⟩ = some x ∧ w.cell? ⟨b, 1, none⟩ = some y ∧ w.cell? ⟨b, 2, none⟩ = some z := by
  refine ⟨?_, ?_, ?_⟩ <;> (unfold World.cell?; simp only [h]; rfl)
theorem S3.new (w : World) (p : Mt) {a : Option Addr} {ls : List Lab.Lb} (hr : Lab.HasL w a ls) : S3 w p a ls (w.alloc (.cells #[.string p.1, .int .i64 p.2.1, .string p.2.2] 70)) := by
  obtain ⟨h1, h2, h3⟩ := three_at (heap_alloc_new w (.cells #[.string p.1, .int .i64 p.2.1, .string p.2.2] 70))
  have hb := (Below.refl w.heap.size w).alloc (Nat.le_refl _) (.cells #[.string p.1, .int .i64 p.2.1, .string p.2.2] 70)
  exact ⟨h1, h2, h3, hr.below hb, hb⟩
theorem S3.lab {w W : World} {p : Mt} {a : Option Addr} {ls : List Lab.Lb} (h : S3 w p a ls W) : Lab.HasL W a ls := h.2.2.2.1
def allM (ms : List Mt) (val : ByteArray → ByteArray) : Bool := ms.all fun m => fitM m (val m.1)
theorem all_step {ms : List Mt} {val : ByteArray → ByteArray} {k : Nat} (hk : k < ms.length) : allM (ms.drop k) val = (fitM (ms.getD k m0) (val (ms.getD k m0).1) && allM (ms.drop (k + 1)) val) := by
  rw [List.drop_eq_getElem_cons hk]
  unfold allM
  rw [List.all_cons]
  simp [hk]
end Go.Proofs.Ytpobpanmkdjkjaa.Pat
