/- Lists of rules: whether they are good: the model's l4Rules. -/
import Derived.Test.YtooackaijhpohaaGreatDoorQa
import Derived.Test.YtooackaijhpohaaGreatDoorRe
namespace Go.Proofs.YtooackaijhpohaaGreatDoor.Rul
open Go.RowKit Go.Proofs.YtooackaijhpohaaGreatDoor.Fil Go.Proofs.YtooackaijhpohaaGreatDoor.Rel

/-- The rules are not too many, and each is good. -/
def gdQ (qs : List Q) : Bool := decide (qs.length ≤ 30 ∧ ∀ i, i < qs.length → goodR (qs.getD i q0).r = true)
theorem gdQ_many {qs : List Q} (h : 30 < qs.length) : gdQ qs = false := by
  unfold gdQ; rw [decide_eq_false]; omega
theorem gdQ_bad {qs : List Q} {k : Nat} (hk : k < qs.length) (h : goodR (qs.getD k q0).r = false) : gdQ qs = false := by
  unfold gdQ; rw [decide_eq_false]
  intro h2
  have := h2.2 k hk
  rw [h] at this; cases this
theorem gdQ_all {qs : List Q} (h0 : qs.length ≤ 30) (h : ∀ i, i < qs.length → goodR (qs.getD i q0).r = true) : gdQ qs = true := by
  unfold gdQ; exact decide_eq_true ⟨h0, h⟩
set_option maxHeartbeats 2000000 in
theorem f22 (a : Option Addr) (n c : Nat) (qs : List Q) (w : World) (hn : qs.length = n) (hb : n ≤ 1048576) (hr : HasR w a qs) (hz : SmlQ qs) :
    Calls Tryz.prog 22 #[.slice a n c] w fun e w' => e = .returned (.bool (gdQ qs)) ∧ Below w.heap.size w w' := by
  have HN := hid hn
  have HR := hid hr
  have HZ := hid hz
  clear hn hr hz
  by_cases h30 : 30 < n
  · have HG : Hid (gdQ qs = false) := gdQ_many (by rw [HN.out]; exact h30)
    go_enter Tryz.func22, Tryz.ntmps22
    go_wp2
    go_ret
    exact ⟨ret_bool HG.out.symm, Below.refl _ _⟩
  go_enter Tryz.func22, Tryz.ntmps22
  go_wp2
  go_loopw [10] (fun i wr => ∃ k : Nat, k ≤ n ∧ i = .int .i64 k ∧ Hid (∀ i, i < k → goodR (qs.getD i q0).r = true) ∧ Hid (Below w.heap.size w wr)) (fun i _ => n - (intOf i).toNat)
  case atStart => exact ⟨0, Nat.zero_le _, rfl, fun i hi => by omega, Below.refl _ _⟩
  case round =>
    obtain ⟨k, hk, rfl, HU, HX⟩ := hrel
    by_cases hlt : k < n
    · obtain ⟨b, off, rfl, hbl, c0, c1, c2, c3, c4, c5, c6, hT⟩ := (HR.out).at7 k (by rw [HN.out]; exact hlt)
      have d0 := (HX.out.cell (p := ⟨b, off + k * 7, none⟩) hbl).trans c0
      have d1 := (HX.out.cell (p := ⟨b, off + k * 7 + 1, none⟩) hbl).trans c1
      have d2 := (HX.out.cell (p := ⟨b, off + k * 7 + 2, none⟩) hbl).trans c2
      have d3 := (HX.out.cell (p := ⟨b, off + k * 7 + 3, none⟩) hbl).trans c3
      have d4 := (HX.out.cell (p := ⟨b, off + k * 7 + 4, none⟩) hbl).trans c4
      have d5 := (HX.out.cell (p := ⟨b, off + k * 7 + 5, none⟩) hbl).trans c5
      have d6 := (HX.out.cell (p := ⟨b, off + k * 7 + 6, none⟩) hbl).trans c6
      have HT := hid (hT.below HX.out)
      have HS := hid (HZ.out k (by rw [HN.out]; exact hlt))
      have HNo : Hid (goodR (qs.getD k q0).r = false → gdQ qs = false) := fun h => gdQ_bad (by rw [HN.out]; exact hlt) h
      have HUs : Hid (goodR (qs.getD k q0).r = true → ∀ i, i < k + 1 → goodR (qs.getD i q0).r = true) := by
        intro h i hi
        by_cases e : i = k
        · subst e; exact h
        · exact HU.out i (by omega)
      clear c0 c1 c2 c3 c4 c5 c6 hT hbl
      generalize qs.getD k q0 = q at *
      obtain ⟨r, aq, cq⟩ := q
      obtain ⟨wb, hwb⟩ : ∃ wb, wb = wr.alloc (.cells #[.int .i64 r.act, .slice aq r.from'.length cq, .string r.sep, .string r.pat, .string r.tgt, .string r.val, .int .i64 r.md] 65) := ⟨_, rfl⟩
      have HBb : Hid (Below wr.heap.size wr wb) := by rw [hwb]; exact (Below.refl _ _).alloc (Nat.le_refl _) _
      have HXb := hid (HX.out.trans (HBb.out.mono HX.out.size))
      have HTb := hid (HT.out.below HBb.out)
      have i1 : (k : Int) < (n : Int) := by omega
      go_wp2_with fail
      rw [← hwb]
      refine (f40 r aq r.from'.length cq _ rfl HTb.out HS.out).mono ?_
      rintro e w2 ⟨rfl, hb2⟩
      have HX2 := hid (HXb.out.trans (hb2.mono HXb.out.size))
      clear hb2 d0 d1 d2 d3 d4 d5 d6 hwb
      cases hg : goodR r
      · have HG := hid (HNo.out hg)
        go_wp2
        go_ret
        exact ⟨ret_bool HG.out.symm, HX2.out⟩
      · have HU2 := hid (HUs.out hg)
        go_wp2
        go_roundw
        case rel => exact ⟨k + 1, by omega, by go_num, HU2.out, HX2.out⟩
        case measure => simp [intOf]; omega
    · have HG : Hid (gdQ qs = true) := gdQ_all (by have := HN.out; omega) (fun i hi => HU.out i (by have := HN.out; omega))
      go_wp2
      go_ret
      exact ⟨ret_bool HG.out.symm, HX.out⟩
end Go.Proofs.YtooackaijhpohaaGreatDoor.Rul
