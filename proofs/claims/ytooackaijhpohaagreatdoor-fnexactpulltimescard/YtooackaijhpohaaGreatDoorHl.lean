/- What both Mix and both HashLabels come to. -/
import Derived.Test.YtooackaijhpohaaGreatDoorTn
import Derived.Laws.BitsAllLaws
import Derived.Lib.ConvBytes
namespace Go.Proofs.YtooackaijhpohaaGreatDoor.Lab
open Go.RowKit Go.Proofs.YtooackaijhpohaaGreatDoor.Str

def step (x z : Int) : Int :=
  bits .xor .u64 (IntKind.u64.wrap (bits .xor .u64 x (IntKind.u64.wrap z) * 1099511628211)) (IntKind.u64.wrap (bits .xor .u64 x (IntKind.u64.wrap z) * 1099511628211) / 536870912)
def upto (zs : List UInt8) (k : Nat) : Int := (zs.take k).foldl (fun x z => step x z.toNat) 1469598103
def mix (zs : List UInt8) : Int := upto zs zs.length / 2

theorem bits_lo (op : BinOp) (x y : Int) : 0 ≤ bits op .u64 x y := by unfold bits; rw [IntKind.wrap_u64]; omega
theorem bits_hi (op : BinOp) (x y : Int) : bits op .u64 x y ≤ 18446744073709551615 := by unfold bits; rw [IntKind.wrap_u64]; omega

theorem upto_succ (zs : List UInt8) (k : Nat) (h : k < zs.length) : upto zs (k + 1) = step (upto zs k) ((zs.getD k 0).toNat : Nat) := by
  unfold upto; rw [List.take_succ_eq_append_getElem h, List.foldl_append]; simp [h]

/-- The row that begins at 'b' holds these bytes. -/
def HasB (w : World) (b : Nat) (zs : List UInt8) : Prop := ∀ k, k < zs.length → w.cell? ⟨b, k, none⟩ = some (.int .u8 (zs.getD k 0).toNat)

set_option maxHeartbeats 1000000 in
theorem f53 (b n c : Nat) (zs : List UInt8) (w : World) (hn : zs.length = n) (hb : n ≤ 1048576) (hr : HasB w b zs) :
    Calls Tryz.prog 53 #[.slice (some ⟨b, 0, none⟩) n c] w fun e w' => e = .returned (.int .i64 (mix zs)) ∧ w' = w := by
  have HN : Hid (zs.length = n) := hn
  have HR := hid hr
  clear hn hr
  go_enter Tryz.func53, Tryz.ntmps53
  go_wp2
  go_loop [3, 8] (fun h i => ∃ (k : Nat) (x : Int), k ≤ n ∧ i = .int .i64 k ∧ h = .int .u64 x ∧ 0 ≤ x ∧ x ≤ 18446744073709551615 ∧ Hid (x = upto zs k))
    (fun _ i => n - (intOf i).toNat)
  case atStart => exact ⟨0, 1469598103, Nat.zero_le _, rfl, rfl, by decide, by decide, rfl⟩
  case round =>
    obtain ⟨k, x, hk, rfl, rfl, hx0, hx1, HX⟩ := hrel
    by_cases hlt : k < n
    · have hcx := HR.out k (by rw [HN.out]; exact hlt)
      have HU := hid (upto_succ zs k (by rw [HN.out]; exact hlt))
      generalize zs.getD k 0 = z at *
      go_wp2
      go_round
      case rel => exact ⟨k + 1, _, by omega, by go_num, rfl, bits_lo _ _ _, bits_hi _ _ _, by rw [HU.out, ← HX.out]; rfl⟩
      case measure => simp [intOf]; omega
    · go_wp2
      go_ret
      refine ⟨ret_int ?_, rfl⟩
      have : k = n := by omega
      subst this
      unfold mix
      rw [HN.out, ← HX.out]
set_option maxHeartbeats 1000000 in
theorem f55 (b n c : Nat) (zs : List UInt8) (w : World) (hn : zs.length = n) (hb : n ≤ 1048576) (hr : HasB w b zs) :
    Calls Tryz.prog 55 #[.slice (some ⟨b, 0, none⟩) n c] w fun e w' => e = .returned (.int .i64 (mix zs)) ∧ w' = w := by
  have HN : Hid (zs.length = n) := hn
  have HR := hid hr
  clear hn hr
  go_enter Tryz.func55, Tryz.ntmps55
  go_wp2
  go_loop [3, 8] (fun h i => ∃ (k : Nat) (x : Int), k ≤ n ∧ i = .int .i64 k ∧ h = .int .u64 x ∧ 0 ≤ x ∧ x ≤ 18446744073709551615 ∧ Hid (x = upto zs k))
    (fun _ i => n - (intOf i).toNat)
  case atStart => exact ⟨0, 1469598103, Nat.zero_le _, rfl, rfl, by decide, by decide, rfl⟩
  case round =>
    obtain ⟨k, x, hk, rfl, rfl, hx0, hx1, HX⟩ := hrel
    by_cases hlt : k < n
    · have hcx := HR.out k (by rw [HN.out]; exact hlt)
      have HU := hid (upto_succ zs k (by rw [HN.out]; exact hlt))
      generalize zs.getD k 0 = z at *
      go_wp2
      go_round
      case rel => exact ⟨k + 1, _, by omega, by go_num, rfl, bits_lo _ _ _, bits_hi _ _ _, by rw [HU.out, ← HX.out]; rfl⟩
      case measure => simp [intOf]; omega
    · go_wp2
      go_ret
      refine ⟨ret_int ?_, rfl⟩
      have : k = n := by omega
      subst this
      unfold mix
      rw [HN.out, ← HX.out]

set_option maxRecDepth 100000 in
theorem conv_has (w : World) (l : List UInt8) : HasB (Lib.bytesWorld w 5 (mkS l)) w.heap.size l := by
  intro k hk
  have := Lib.bytesWorld_cell w 5 (mkS l) k (by rw [mkS_size]; exact hk)
  simpa using this
set_option maxRecDepth 100000 in
theorem conv_run (w : World) (l : List UInt8) (n : Nat) (hn : l.length = n) : (convert 9 87 (.string (mkS l))).run Tryz.prog w = .ok (.slice (some ⟨w.heap.size, 0, none⟩) n (grownCap w n 0 5)) (Lib.bytesWorld w 5 (mkS l)) := by
  have := Lib.run_convert_string_bytes (P := Tryz.prog) w 9 87 5 (mkS l) Tryz.underlying9 Tryz.underlying87 Tryz.underlying5
  rw [mkS_size, hn] at this
  exact this
theorem conv_below (w : World) (s : ByteArray) : Below w.heap.size w (Lib.bytesWorld w 5 s) := by
  unfold Lib.bytesWorld
  exact Lib.below_freeze ((Below.drew (Below.refl _ w)).alloc (Nat.le_refl _) _) (p := ⟨w.heap.size, _, none⟩) (Nat.le_refl _) _
theorem txtR_len (ls : List Lb) : (txtR ls).length ≤ 4882 := by
  by_cases h : goodL ls = true
  · rw [txtR_yes h]
    have := body_len (good_sml h) ls.length
    rw [body_all (Nat.le_refl _)] at this
    unfold txtL; simp; omega
  · rw [txtR_no (by simpa using h)]; simp

set_option maxHeartbeats 1000000 in
theorem f30 (a : Option Addr) (n c : Nat) (ls : List Lb) (w : World) (hn : ls.length = n) (hmax : n ≤ 1048576) (hr : HasL w a ls) (hf : Fit ls) :
    Calls Tryz.prog 30 #[.slice a n c] w fun e w' => e = .returned (.int .i64 (mix (txtR ls))) ∧ Below w.heap.size w w' := by
  have HN := hid hn
  have htl := txtR_len ls
  generalize htx : txtR ls = tx at *
  obtain ⟨m, hm⟩ : ∃ m, m = tx.length := ⟨_, rfl⟩
  have HM : Hid (tx.length = m) := hm.symm
  have HTX := hid htx
  have hm2 : m ≤ 4882 := by omega
  clear hn hm htl htx
  go_enter Tryz.func30, Tryz.ntmps30
  go_wp2_with fail
  refine (f54 a n c ls _ HN.out hmax hr hf).mono ?_
  rw [HTX.out]
  rintro e w1 ⟨rfl, hb1⟩
  have HB1 := hid hb1
  have hcv := conv_run w1 tx m HM.out
  have HC := hid (conv_has w1 tx)
  have HB2 := hid (HB1.out.trans ((conv_below w1 (mkS tx)).mono HB1.out.size))
  clear hb1
  go_wp2_with fail
  refine (f53 _ m _ tx _ HM.out (by omega) HC.out).mono ?_
  rintro e w3 ⟨rfl, rfl⟩
  go_wp2
  go_ret
  exact ⟨rfl, HB2.out⟩
set_option maxHeartbeats 1000000 in
theorem f31 (a : Option Addr) (n c : Nat) (ls : List Lb) (w : World) (hn : ls.length = n) (hmax : n ≤ 1048576) (hr : HasL w a ls) (hf : Fit ls) :
    Calls Tryz.prog 31 #[.slice a n c] w fun e w' => e = .returned (.int .i64 (mix (txtR ls))) ∧ Below w.heap.size w w' := by
  have HN := hid hn
  have htl := txtR_len ls
  generalize htx : txtR ls = tx at *
  obtain ⟨m, hm⟩ : ∃ m, m = tx.length := ⟨_, rfl⟩
  have HM : Hid (tx.length = m) := hm.symm
  have HTX := hid htx
  have hm2 : m ≤ 4882 := by omega
  clear hn hm htl htx
  go_enter Tryz.func31, Tryz.ntmps31
  go_wp2_with fail
  refine (f56 a n c ls _ HN.out hmax hr hf).mono ?_
  rw [HTX.out]
  rintro e w1 ⟨rfl, hb1⟩
  have HB1 := hid hb1
  have hcv := conv_run w1 tx m HM.out
  have HC := hid (conv_has w1 tx)
  have HB2 := hid (HB1.out.trans ((conv_below w1 (mkS tx)).mono HB1.out.size))
  clear hb1
  go_wp2_with fail
  refine (f55 _ m _ tx _ HM.out (by omega) HC.out).mono ?_
  rintro e w3 ⟨rfl, rfl⟩
  go_wp2
  go_ret
  exact ⟨rfl, HB2.out⟩
end Go.Proofs.YtooackaijhpohaaGreatDoor.Lab
