/- The reader's signs of more than one byte; one matcher is read: what sign and readMatcher come to. -/
import Derived.Test.YtbjlnaaheahhnaaDoorRb
import Derived.Test.YtbjlnaaheahhnaaDoorMx
namespace Go.Proofs.YtbjlnaaheahhnaaDoor.Lab
open Go.RowKit Go.Proofs.YtbjlnaaheahhnaaDoor.Str

/-- A text begins with v. -/
def pfx (l : List UInt8) (v : ByteArray) : Bool := decide (l.take v.size = v.data.toList)
theorem pfx_take (u v : ByteArray) : ((u.extract 0 v.size).toList == v.toList) = pfx u.data.toList v := by
  rw [ByteArray.toList_eq, ByteArray.toList_eq, Lib.extract_data]
  unfold pfx
  rw [Bool.eq_iff_iff]; simp
theorem pfx_short (u v : ByteArray) (h : ¬ v.size ≤ u.size) : pfx u.data.toList v = false := by
  unfold pfx
  refine decide_eq_false fun e => h ?_
  have := congrArg List.length e
  simp at this
  omega
def pfxU (u v : ByteArray) : Bool := pfx u.data.toList v
theorem f52g (u v : ByteArray) (w : World) (_hu : u.size ≤ 1048576) (_hv : v.size ≤ 1000) : Calls Tryd.prog 52 #[.string u, .string v] w fun e w' => e = .returned (.bool (pfxU u v)) ∧ w' = w := by
  by_cases h0 : v.size ≤ u.size
  · have HE := hid (pfx_take u v)
    go_enter Tryd.func52, Tryd.ntmps52
    go_wp2
    go_ret
    exact ⟨ret_bool HE.out, rfl⟩
  · have HE := hid (pfx_short u v h0)
    go_enter Tryd.func52, Tryd.ntmps52
    go_wp2
    go_ret
    exact ⟨ret_bool HE.out.symm, rfl⟩
theorem ext_drop (s : ByteArray) (t : Nat) : (s.extract t s.size).data.toList = (by' s).drop t := by
  rw [Lib.extract_data, List.take_of_length_le (by simp)]
theorem pfx_fits {s v : ByteArray} {t : Nat} (h : pfx ((by' s).drop t) v = true) (ht : t ≤ s.size) : t + v.size ≤ s.size := by
  unfold pfx at h
  have := congrArg List.length (of_decide_eq_true h)
  simp at this
  omega
set_option maxHeartbeats 1000000 in
theorem f39g (R : Nat) (s v : ByteArray) (t : Nat) (w : World) (hs : s.size ≤ 1048576) (hv : v.size ≤ 2) (h : Rdr R s t w) (hc : pfx ((by' s).drop t) v = true) : Calls Tryd.prog 39 #[.pointer (some ⟨R, 0, none⟩), .string v] w fun e w' => e = .returned (.bool true) ∧ Rdr R s (t + v.size) w' ∧ w.grownBy w' (some R) := by
  have HR := hid (SR.refl h)
  have ht := h.2
  have i0 : (0 : Int) ≤ (t : Int) := by omega
  have i1 : (t : Int) ≤ (s.size : Int) := by omega
  have hh : pfxU (s.extract t s.size) v = true := by unfold pfxU; rw [ext_drop]; exact hc
  have HT := hid (pfx_fits hc ht)
  clear h hc
  go_enter Tryd.func39, Tryd.ntmps39
  go_wp2_with fail
  go_region_held3 (fun w' => SR R s t w w') (first | exact HR.out.drew | exact SR.drew (by assumption) | assumption) (first | (go_at_call 52; refine (f52g _ v _ (ext_size hs) (by omega)).mono ?_; rintro e w' ⟨rfl, rfl⟩))
  have hx : SR R s t w w.drew := HR.out.drew
  have r1 := hx.2.1
  have rf := two_frz (o := 1) hx.2.2.1
  go_wp2
  go_ret
  refine ⟨rfl, ⟨?_, HT.out⟩, Lib.grownBy_setB hx.2.2.2 1 _⟩
  rw [show ((t + v.size : Nat) : Int) = (t : Int) + (v.size : Int) from by omega]
  exact two_set1 (v' := .int .i64 ((t : Int) + (v.size : Int))) hx.2.2.1
set_option maxHeartbeats 1000000 in
theorem f39h (R : Nat) (s v : ByteArray) (t : Nat) (w : World) (hs : s.size ≤ 1048576) (hv : v.size ≤ 2) (h : Rdr R s t w) (hc : pfx ((by' s).drop t) v = false) : Calls Tryd.prog 39 #[.pointer (some ⟨R, 0, none⟩), .string v] w fun e w' => e = .returned (.bool false) ∧ Rdr R s t w' ∧ w.grownBy w' (some R) := by
  have HR := hid (SR.refl h)
  have ht := h.2
  have i0 : (0 : Int) ≤ (t : Int) := by omega
  have i1 : (t : Int) ≤ (s.size : Int) := by omega
  have hh : pfxU (s.extract t s.size) v = false := by unfold pfxU; rw [ext_drop]; exact hc
  clear h hc
  go_enter Tryd.func39, Tryd.ntmps39
  go_wp2_with fail
  go_region_held3 (fun w' => SR R s t w w') (first | exact HR.out.drew | exact SR.drew (by assumption) | assumption) (first | (go_at_call 52; refine (f52g _ v _ (ext_size hs) (by omega)).mono ?_; rintro e w' ⟨rfl, rfl⟩))
  have hx : SR R s t w w.drew := HR.out.drew
  go_wp2
  go_ret
  exact ⟨rfl, ⟨hx.2.2.1, ht⟩, hx.2.2.2⟩
end Go.Proofs.YtbjlnaaheahhnaaDoor.Lab
