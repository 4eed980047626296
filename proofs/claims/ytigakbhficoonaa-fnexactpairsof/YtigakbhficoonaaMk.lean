/- The marks: what markText comes to. -/
import Derived.Test.YtigakbhficoonaaVo
import Derived.Laws.BytesArg
namespace Go.Proofs.Ytigakbhficoonaa.Lab
open Go.RowKit Go.Proofs.Ytigakbhficoonaa.Str

theorem one_new (w : World) (v : Value) (t : TypeId) : (w.alloc (.cells #[v] t)).cell? ⟨w.heap.size, 0, none⟩ = some v := by
  have h := heap_alloc_new w (.cells #[v] t)
  unfold World.cell?
  simp only [h]
  rfl

def dgs (k : Nat) (out : ByteArray) : ByteArray := if k = 0 then out else dgs (k / 10) (strOfNums [48 + (k : Int) % 10] ++ out)
termination_by k
decreasing_by omega
theorem dgs_zero (out : ByteArray) : dgs 0 out = out := by rw [dgs, if_pos rfl]
theorem dgs_pos (k : Nat) (out : ByteArray) (h : 0 < k) : dgs k out = dgs (k / 10) (strOfNums [48 + (k : Int) % 10] ++ out) := by rw [dgs, if_neg (by omega)]
def mkT (k : Nat) : ByteArray := if k = 0 then { data := #[109, 48] } else { data := #[109] } ++ dgs k ByteArray.empty

set_option maxHeartbeats 1000000 in
set_option maxRecDepth 100000 in
theorem f17 (k : Nat) (w : World) (hk : k ≤ 100000000) :
    Calls Try.prog 17 #[.int .i64 k] w fun e w' => e = .returned (.string (mkT k)) ∧ Below w.heap.size w w' := by
  by_cases h0 : k = 0
  · subst h0
    go_enter Try.func17, Try.ntmps17
    go_wp2
    go_ret
    exact ⟨ret_str (by unfold mkT; rw [if_pos rfl]), Below.refl _ _⟩
  have HE : Hid (mkT k = { data := #[109] } ++ dgs k ByteArray.empty) := by unfold Hid mkT; rw [if_neg h0]
  go_enter Try.func17, Try.ntmps17
  go_wp2
  go_loopw [0, 3] (fun sk so wr => ∃ (j : Nat) (out : ByteArray), out.size + j ≤ k ∧ sk = .int .i64 j ∧ so = .string out ∧ Hid (dgs j out = dgs k ByteArray.empty) ∧ Below w.heap.size w wr) (fun sk _ _ => (intOf sk).toNat)
  case atStart => exact ⟨k, ByteArray.empty, by simp, rfl, rfl, rfl, Below.refl _ _⟩
  case round =>
    obtain ⟨j, out, hj, rfl, rfl, hd, hnx⟩ := hrel
    have HX := hid hnx
    clear hnx
    by_cases hlt : 0 < j
    · have kc := run_convert_bytes_arg (P := Try.prog) (wr.alloc (.cells #[.int .u8 (48 + (j : Int) % 10)] 5)) 56 5 Try.underlying56 Try.underlying5 wr.heap.size 0 1 1 [48 + (j : Int) % 10] rfl (by
        intro i hi
        obtain rfl : i = 0 := by omega
        exact one_new wr _ 5) 9 Try.underlying9
      have HS : Hid ((strOfNums [48 + (j : Int) % 10]).size = 1) := rfl
      have hs2 : (strOfNums [48 + (j : Int) % 10]).size ≤ 1 := by rw [HS.out]; exact Nat.le_refl _
      have HD := hid (dgs_pos j out hlt)
      generalize strOfNums [48 + (j : Int) % 10] = u at *
      go_wp2
      go_roundw
      case rel =>
        refine ⟨j / 10, u ++ out, ?_, by go_num, rfl, by unfold Hid; rw [← HD.out]; exact hd.out, HX.out.alloc HX.out.size _⟩
        rw [ByteArray.size_append, HS.out]; omega
      case measure => simp [intOf]; omega
    · obtain rfl : j = 0 := by omega
      have hs : out.size ≤ 100000000 := by omega
      go_wp2
      go_ret
      exact ⟨ret_str (by rw [HE.out, ← hd.out, dgs_zero]), HX.out⟩
end Go.Proofs.Ytigakbhficoonaa.Lab
