/- The model's l22Pieces. -/
import Derived.Test.YtigakbhficoonaaPrb
namespace Go.Proofs.Ytigakbhficoonaa.Prs
open Go.RowKit
open Go.Proofs.Ytigakbhficoonaa.Rdd
open Go.Proofs.Ytigakbhficoonaa.Pat (hid prB printL)

theorem Cs.last {s : ByteArray} {ds : List ByteArray} {q t t' : Bool} {now : List UInt8} {k : Nat} (h : Cs s ds q t now k) (hk : s.size ≤ k) : Cs s ds q t' now k := by
  unfold Cs at *
  rw [List.drop_eq_nil_of_le (by simpa using hk)] at h ⊢
  rw [h]
  cases t <;> cases t' <;> simp [pcs]
theorem bys_app (a b : ByteArray) : bys (a ++ b) = bys a ++ bys b := by simp [bys]
theorem sl_one {s : ByteArray} {k : Nat} (hk : k < s.size) : bys (s.extract k (k + 1)) = [s[k]] := by
  rw [sl_ext, ← sl_snoc (Nat.le_refl k) hk, sl_nil]; rfl
theorem sl_two {s : ByteArray} {k : Nat} (hk : k + 1 < s.size) : bys (s.extract k (k + 2)) = [s[k], s[k + 1]] := by
  rw [sl_ext, show k + 2 = (k + 1) + 1 from rfl, ← sl_snoc (by omega) hk, ← sl_snoc (Nat.le_refl k) (by omega), sl_nil]; rfl
theorem size_ext (s : ByteArray) (a b : Nat) (h : a ≤ b) : (s.extract a b).size ≤ b - a := by rw [ByteArray.size_extract]; omega
/-- The pieces by now. -/
structure Cm (w : World) (ds : List ByteArray) (a : Option Addr) (c : Nat) (x : World) : Prop where
  row : x.ownsRow w.heap.size 9 1 (.slice a ds.length c) ds.length (ds.map Value.string)
  bel : Below w.heap.size w x
theorem Cm.alloc {w x : World} {ds : List ByteArray} {a : Option Addr} {c : Nat} (h : Cm w ds a c x) (o : Obj) : Cm w ds a c (x.alloc o) :=
  have hb : Below x.heap.size x (x.alloc o) := (Below.refl _ _).alloc (Nat.le_refl _) o
  ⟨own_bel h.row hb, h.bel.trans (hb.mono h.bel.size)⟩
theorem Cm.app {d : ByteArray} {w x y : World} {ds : List ByteArray} {a a' : Option Addr} {c c' n : Nat} (h : Cm w ds a c x) (hg : x.grownBy y (Value.slice a ds.length c).ownBlock) (hr : y.ownsRow w.heap.size 9 1 (.slice a' n c') n (ds.map Value.string ++ [.string d])) (hn : n = ds.length + 1) : Cm w (ds ++ [d]) a' c' y := by
  have hne : ∀ g, (Value.slice a ds.length c).ownBlock = some g → w.heap.size ≤ g := fun g e => (own_blk h.row e).1
  subst hn
  refine ⟨by simpa using hr, ⟨hg.os.trans h.bel.os, hg.tape.trans h.bel.tape, hg.output.trans h.bel.output, Nat.le_trans h.bel.size hg.size, fun j hj => (hg.block j (by have := h.bel.size; omega) (fun e => by have := hne j e.symm; omega)).trans (h.bel.block j hj)⟩⟩
set_option maxRecDepth 100000 in
set_option maxHeartbeats 8000000 in
theorem f23 (s : ByteArray) (w : World) (hs : s.size ≤ 500) : Calls Try.prog 23 #[.string s] w (CutR s w) := by
  obtain ⟨i0, hi, hz0, hz1, hz2⟩ := info_parts infoS
  have H0 : Hid (Cm w [] none 0 w) := ⟨World.ownsRow_nil _ _ _ _, Below.refl _ _⟩
  go_enter Try.func23, Try.ntmps23
  go_wp2
  go_loopw [3, 4, 5, 6] (fun sp sn sq si wr => ∃ (k : Nat) (now : ByteArray) (q : Bool) (ds : List ByteArray) (a : Option Addr) (c : Nat), sp = .slice a ds.length c ∧ sn = .string now ∧ sq = .bool q ∧ si = .int .i64 k ∧ k ≤ s.size ∧ now.size ≤ k ∧ ds.length ≤ k ∧ Hid (Cs s ds q false (bys now) k) ∧ Hid (Cm w ds a c wr)) (fun _ _ _ si _ => s.size - (intOf si).toNat)
  case atStart => exact ⟨0, ⟨#[]⟩, false, [], none, 0, rfl, rfl, rfl, rfl, Nat.zero_le _, Nat.le_refl _, Nat.le_refl _, Cs.zero s, H0⟩
  case round =>
    clear H0
    obtain ⟨k, now, q, ds, a, c, rfl, rfl, rfl, rfl, hk, hnk, hdk, HC, HT⟩ := hrel
    by_cases hlt : k < s.size
    rotate_left
    · have HD := hid (HC.out.done (by omega) rfl)
      have i1 : ¬ (k : Int) < (s.size : Int) := by omega
      go_wp2_with (at_builtin; refine wpList_append_own _ rfl (.tmp 64) (.tmp 66) 35 rfl w.heap.size 9 i0 (.string ⟨#[]⟩) 1 16 Try.underlying35 hi hz0 hz1 hz2 rfl (by decide) _ _ _ rfl (HT.out.alloc _).row ⟨wr.heap.size, 0, none⟩ 1 1 [.string now] rfl rfl ?d1 ?d2 ?d3 ?d4 ?d5 ?_)
      case d2 => first | rfl | (intro u hu; simp at hu; subst hu; rfl)
      case d3 => unfold maxLen; omega
      case d4 => omega
      case d5 => have := HT.out.bel.size; simp; omega
      intro v3 w3 hown3 hgr3 _
      obtain ⟨a3, c3, rfl⟩ := own_form' hown3
      have HT3 := hid ((HT.out.alloc _).app (d := now) hgr3 hown3 (by simp))
      clear hown3 hgr3
      go_wp2
      go_ret
      exact ⟨ds ++ [now], a3, c3, by simp, HD.out, HT3.out.row, HT3.out.bel, by simp; omega⟩
    have i1 : (k : Int) < (s.size : Int) := by omega
    have i2 : (k : Int) + 1 ≤ (s.size : Int) := by omega
    have i5 : (0 : Int) ≤ (k : Int) := by omega
    have i6 : (k : Int) ≤ (k : Int) + 1 := by omega
    have i7 : (k : Int) ≤ (k : Int) + 2 := by omega
    have i8 : ((k : Int) + 1).toNat = k + 1 := by omega
    have i9 : ((k : Int) + 2).toNat = k + 2 := by omega
    have HO1 := hid (sl_one hlt)
    have hz1' := size_ext s k (k + 1) (by omega)
    by_cases c34 : s[k] = 34
    · have e34 : ((s[k].toNat : Int) == 34) = true := byte_eq c34
      have e92 : ((s[k].toNat : Int) == 92) = false := byte_neq (c := s[k]) (d := 92) (by rw [c34]; decide)
      have HC1 := hid (HC.out.quote hlt c34)
      have HB1 : Hid (bys (now ++ s.extract k (k + 1)) = bys now ++ [s[k]]) := by unfold Hid; rw [bys_app, HO1.out]
      clear HC c34
      cases q
      all_goals
        go_wp2
        go_roundw
        case rel => exact ⟨k + 1, _, _, ds, a, c, rfl, rfl, rfl, by go_num, by omega, by rw [ByteArray.size_append]; omega, by omega, by unfold Hid; rw [HB1.out]; exact HC1.out, HT⟩
        case measure => simp [intOf]; omega
    have e34 : ((s[k].toNat : Int) == 34) = false := byte_neq c34
    cases q
    rotate_left
    · have HC1 := hid (HC.out.within hlt c34)
      by_cases c92 : s[k] = 92
      · have e92 : ((s[k].toNat : Int) == 92) = true := byte_eq c92
        by_cases hl2 : k + 1 < s.size
        · have i3 : (k : Int) + 1 < (s.size : Int) := by omega
          have i4 : (k : Int) + 2 ≤ (s.size : Int) := by omega
          have HO2 := hid (sl_two hl2)
          have hz2' := size_ext s k (k + 2) (by omega)
          have HC2 : Hid (Cs s ds true false (bys now ++ [s[k]] ++ [s[k + 1]]) (k + 2)) := by
            have h := HC1.out
            rw [decide_eq_true c92] at h
            exact h.taken hl2
          have HB2 : Hid (bys (now ++ s.extract k (k + 2)) = bys now ++ [s[k]] ++ [s[k + 1]]) := by unfold Hid; rw [bys_app, HO2.out, List.append_assoc]; rfl
          clear HC HC1 c34 c92
          go_wp2
          go_roundw
          case rel => exact ⟨k + 2, _, true, ds, a, c, rfl, rfl, rfl, by go_num, by omega, by rw [ByteArray.size_append]; omega, by omega, by unfold Hid; rw [HB2.out]; exact HC2.out, HT⟩
          case measure => simp [intOf]; omega
        · have i3 : ¬ (k : Int) + 1 < (s.size : Int) := by omega
          have e32 : ((s[k].toNat : Int) == 32) = false := byte_neq (c := s[k]) (d := 32) (by rw [c92]; decide)
          have HC2 := hid (HC1.out.last (t' := false) (by omega))
          have HB1 : Hid (bys (now ++ s.extract k (k + 1)) = bys now ++ [s[k]]) := by unfold Hid; rw [bys_app, HO1.out]
          clear HC HC1 c34 c92
          go_wp2
          go_roundw
          case rel => exact ⟨k + 1, _, true, ds, a, c, rfl, rfl, rfl, by go_num, by omega, by rw [ByteArray.size_append]; omega, by omega, by unfold Hid; rw [HB1.out]; exact HC2.out, HT⟩
          case measure => simp [intOf]; omega
      · have e92 : ((s[k].toNat : Int) == 92) = false := byte_neq c92
        have HC2 : Hid (Cs s ds true false (bys now ++ [s[k]]) (k + 1)) := by
          have h := HC1.out
          rw [decide_eq_false c92] at h
          exact h
        have HB1 : Hid (bys (now ++ s.extract k (k + 1)) = bys now ++ [s[k]]) := by unfold Hid; rw [bys_app, HO1.out]
        clear HC HC1 c34 c92
        by_cases c32 : s[k] = 32
        · have e32 : ((s[k].toNat : Int) == 32) = true := byte_eq c32
          clear c32
          go_wp2
          go_roundw
          case rel => exact ⟨k + 1, _, true, ds, a, c, rfl, rfl, rfl, by go_num, by omega, by rw [ByteArray.size_append]; omega, by omega, by unfold Hid; rw [HB1.out]; exact HC2.out, HT⟩
          case measure => simp [intOf]; omega
        · have e32 : ((s[k].toNat : Int) == 32) = false := byte_neq c32
          clear c32
          go_wp2
          go_roundw
          case rel => exact ⟨k + 1, _, true, ds, a, c, rfl, rfl, rfl, by go_num, by omega, by rw [ByteArray.size_append]; omega, by omega, by unfold Hid; rw [HB1.out]; exact HC2.out, HT⟩
          case measure => simp [intOf]; omega
    by_cases c32 : s[k] = 32
    · have e32 : ((s[k].toNat : Int) == 32) = true := byte_eq c32
      have HC1 := hid (HC.out.cut hlt c32 rfl)
      clear HC c34 c32
      go_wp2_with (at_builtin; refine wpList_append_own _ rfl (.tmp 53) (.tmp 55) 35 rfl w.heap.size 9 i0 (.string ⟨#[]⟩) 1 16 Try.underlying35 hi hz0 hz1 hz2 rfl (by decide) _ _ _ rfl (HT.out.alloc _).row ⟨wr.heap.size, 0, none⟩ 1 1 [.string now] rfl rfl ?d1 ?d2 ?d3 ?d4 ?d5 ?_)
      case d2 => first | rfl | (intro u hu; simp at hu; subst hu; rfl)
      case d3 => unfold maxLen; omega
      case d4 => omega
      case d5 => have := HT.out.bel.size; simp; omega
      intro v3 w3 hown3 hgr3 _
      obtain ⟨a3, c3, rfl⟩ := own_form' hown3
      have HT3 := hid ((HT.out.alloc _).app (d := now) hgr3 hown3 (by simp))
      clear hown3 hgr3
      go_wp2
      go_roundw
      case rel => exact ⟨k + 1, ⟨#[]⟩, false, ds ++ [now], a3, c3, by simp, rfl, rfl, by go_num, by omega, Nat.zero_le _, by simp; omega, HC1, HT3⟩
      case measure => simp [intOf]; omega
    · have e32 : ((s[k].toNat : Int) == 32) = false := byte_neq c32
      have HC1 := hid (HC.out.other hlt c34 c32)
      have HB1 : Hid (bys (now ++ s.extract k (k + 1)) = bys now ++ [s[k]]) := by unfold Hid; rw [bys_app, HO1.out]
      clear HC c34 c32
      go_wp2
      go_roundw
      case rel => exact ⟨k + 1, _, false, ds, a, c, rfl, rfl, rfl, by go_num, by omega, by rw [ByteArray.size_append]; omega, by omega, by unfold Hid; rw [HB1.out]; exact HC1.out, HT⟩
      case measure => simp [intOf]; omega
end Go.Proofs.Ytigakbhficoonaa.Prs
