/- The program's cutAtBlanks. -/
import Derived.Test.YtigakbhficoonaaPra
namespace Go.Proofs.Ytigakbhficoonaa.Prs
open Go.RowKit
open Go.Proofs.Ytigakbhficoonaa.Rdd
open Go.Proofs.Ytigakbhficoonaa.Pat (hid prB printL)

theorem infoS : (Try.prog.info? 9).map (fun i => (i.zero, i.size, i.bytes)) = some (some (.string ⟨#[]⟩), 1, 16) := by kernel_rfl
theorem map_snoc (ds : List ByteArray) (d : ByteArray) : (ds ++ [d]).map Value.string = ds.map Value.string ++ [.string d] := by simp
/-- The iterator stands at k, and these pieces are cut. -/
structure Ct (s : ByteArray) (w : World) (k : Nat) (ds : List ByteArray) (a : Option Addr) (c : Nat) (x : World) : Prop where
  it : x.heap[w.heap.size]? = some (.stringIter s k)
  row : x.ownsRow (w.heap.size + 1) 9 1 (.slice a ds.length c) ds.length (ds.map Value.string)
  bel : Below w.heap.size w x
theorem Ct.lt {s : ByteArray} {w x : World} {k : Nat} {ds : List ByteArray} {a : Option Addr} {c : Nat} (h : Ct s w k ds a c x) : w.heap.size < x.heap.size := (Array.getElem?_eq_some_iff.1 h.it).1
theorem Ct.alloc {s : ByteArray} {w x : World} {k : Nat} {ds : List ByteArray} {a : Option Addr} {c : Nat} (h : Ct s w k ds a c x) (o : Obj) : Ct s w k ds a c (x.alloc o) :=
  have hb : Below x.heap.size x (x.alloc o) := (Below.refl _ _).alloc (Nat.le_refl _) o
  ⟨(hb.block _ h.lt).trans h.it, own_bel h.row hb, h.bel.trans (hb.mono h.bel.size)⟩
theorem Ct.step {s : ByteArray} {w x : World} {k : Nat} {ds : List ByteArray} {a : Option Addr} {c : Nat} (h : Ct s w k ds a c x) : Ct s w (k + 1) ds a c (x.iterAt w.heap.size s (k + 1)) := by
  refine ⟨Lib.iterAt_heap x w.heap.size s k (k + 1) h.it, ?_, Lib.below_iterAt h.bel (Nat.le_refl _) s (k + 1)⟩
  refine h.row.kept (row := some w.heap.size) ⟨rfl, rfl, rfl, by rw [Lib.iterAt_size]; exact Nat.le_refl _, fun j hj hne => Lib.iterAt_other x w.heap.size j s (k + 1) (fun e => hne (by rw [e]))⟩ (.inr ?_)
  intro e
  have := (own_blk h.row e).1
  omega
theorem Ct.app {s d : ByteArray} {w x y : World} {k : Nat} {ds : List ByteArray} {a a' : Option Addr} {c c' n : Nat} (h : Ct s w k ds a c x) (hg : x.grownBy y (Value.slice a ds.length c).ownBlock) (hr : y.ownsRow (w.heap.size + 1) 9 1 (.slice a' n c') n (ds.map Value.string ++ [.string d])) (hn : n = ds.length + 1) : Ct s w k (ds ++ [d]) a' c' y := by
  have hne : ∀ g, (Value.slice a ds.length c).ownBlock = some g → w.heap.size + 1 ≤ g := fun g e => (own_blk h.row e).1
  have hb : ∀ j, j < w.heap.size + 1 → y.heap[j]? = x.heap[j]? := fun j hj => hg.block j (by have := h.lt; omega) (fun e => by have := hne j e.symm; omega)
  refine ⟨(hb _ (by omega)).trans h.it, ?_, ⟨hg.os.trans h.bel.os, hg.tape.trans h.bel.tape, hg.output.trans h.bel.output, Nat.le_trans h.bel.size hg.size, fun j hj => (hb j (by omega)).trans (h.bel.block j hj)⟩⟩
  subst hn
  simpa using hr
/-- What cutAtBlanks leaves. -/
def CutR (s : ByteArray) (w : World) (e : Ending) (w' : World) : Prop :=
  ∃ (ds : List ByteArray) (a : Option Addr) (c : Nat), e = .returned (.slice a ds.length c) ∧ ds.map bys = pcs false false [] (by' s) ∧ w'.ownsRow w.heap.size 9 1 (.slice a ds.length c) ds.length (ds.map Value.string) ∧ Below w.heap.size w w' ∧ ds.length ≤ s.size + 1
theorem prB_lt {c : UInt8} (h : prB c = true) : c.toNat < 128 := by
  have := of_decide_eq_true h; omega
set_option maxHeartbeats 8000000 in
theorem f32 (s : ByteArray) (w : World) (hs : s.size ≤ 500) (hp : printL s.data.toList = true) : Calls Try.prog 32 #[.string s] w (CutR s w) := by
  have HP : Hid (∀ k (h : k < s.size), s[k].toNat < 128) := fun k h => prB_lt (List.all_eq_true.1 hp s[k] (List.getElem_mem (l := s.data.toList) (n := k) (by simpa using h)))
  clear hp
  obtain ⟨i0, hi, hz0, hz1, hz2⟩ := info_parts infoS
  have H0 : Hid (Ct s w 0 [] none 0 (w.iter s 0)) := ⟨World.iter_heap w s 0, World.ownsRow_nil _ _ _ _, (Below.refl _ _).alloc (Nat.le_refl _) _⟩
  go_enter Try.func32, Try.ntmps32
  go_wp2
  go_loopw [3, 4, 5, 6] (fun sp sf sq st wr => ∃ (k f : Nat) (q t : Bool) (ds : List ByteArray) (a : Option Addr) (c : Nat), sp = .slice a ds.length c ∧ sf = .int .i64 f ∧ sq = .bool q ∧ st = .bool t ∧ f ≤ k ∧ k ≤ s.size ∧ ds.length ≤ k ∧ Hid (Cs s ds q t (sl s f k) k) ∧ Hid (Ct s w k ds a c wr)) (fun _ _ _ _ wr => s.size - wr.iterPos w.heap.size)
  case atStart => exact ⟨0, 0, false, false, [], none, 0, rfl, rfl, rfl, rfl, Nat.le_refl _, Nat.zero_le _, Nat.le_refl _, by rw [sl_nil]; exact Cs.zero s, H0⟩
  case round =>
    clear H0
    obtain ⟨k, f, q, t, ds, a, c, rfl, rfl, rfl, rfl, hfk, hk, hdk, HC, HT⟩ := hrel
    have hk0 := HT.out.it
    have hmu : wr.iterPos w.heap.size = k := by simp [World.iterPos, hk0]
    have HMU := hid hmu
    by_cases hlt : k < s.size
    rotate_left
    · have hnext : ∀ ty, (Instr.next (.pointer (some ⟨w.heap.size, 0, none⟩)) true ty).run Try.prog wr = _ := fun ty => Lib.run_next_end_at wr w.heap.size s k ty hk0 hlt
      have hke : k = s.size := by omega
      have HD := hid (HC.out.done (by omega) (sl_ext s f k))
      have i1 : (f : Int) ≤ (s.size : Int) := by omega
      have i0' : (0 : Int) ≤ (f : Int) := by omega
      clear hmu hk0
      subst hke
      go_wp2_with (at_builtin; refine wpList_append_own _ rfl (.tmp 38) (.tmp 42) 35 rfl (w.heap.size + 1) 9 i0 (.string ⟨#[]⟩) 1 16 Try.underlying35 hi hz0 hz1 hz2 rfl (by decide) _ _ _ rfl (HT.out.alloc _).row ⟨wr.heap.size, 0, none⟩ 1 1 [.string (s.extract f s.size)] rfl rfl ?d1 ?d2 ?d3 ?d4 ?d5 ?_)
      case d1 => exact one_row _ _ _
      case d2 => intro u hu; simp at hu; subst hu; rfl
      case d3 => unfold maxLen; omega
      case d4 => omega
      case d5 => have := HT.out.lt; simp; omega
      intro v3 w3 hown3 hgr3 _
      obtain ⟨a3, c3, rfl⟩ := own_form' hown3
      have HT3 := hid ((HT.out.alloc _).app (d := s.extract f s.size) hgr3 hown3 (by simp))
      clear hown3 hgr3
      go_wp2
      go_ret
      refine ⟨ds ++ [s.extract f s.size], a3, c3, by simp, HD.out, own_down HT3.out.row (by omega), HT3.out.bel, by simp; omega⟩
    have h128 := HP.out k hlt
    have hnext : ∀ ty, (Instr.next (.pointer (some ⟨w.heap.size, 0, none⟩)) true ty).run Try.prog wr = _ := fun ty => Lib.run_next_ascii_at wr w.heap.size s k ty hk0 hlt h128
    have HT1 := hid HT.out.step
    have HS := hid (sl_snoc hfk hlt)
    have HM1 : Hid ((wr.iterAt w.heap.size s (k + 1)).iterPos w.heap.size = k + 1) := by unfold Hid; have := HT1.out.it; simp [World.iterPos, this]
    clear hmu hk0 h128
    obtain ⟨W1, hW1⟩ : ∃ W1, W1 = wr.iterAt w.heap.size s (k + 1) := ⟨_, rfl⟩
    rw [← hW1] at hnext HT1 HM1
    clear hW1 HT
    cases t
    rotate_left
    · have HC1 := hid (HC.out.taken hlt)
      clear HC
      go_wp2
      go_roundw
      case rel => exact ⟨k + 1, f, q, false, ds, a, c, rfl, rfl, rfl, rfl, by omega, by omega, by omega, by unfold Hid; rw [← HS.out]; exact HC1.out, HT1⟩
      case measure => rw [HMU.out, HM1.out]; omega
    by_cases c34 : s[k] = 34
    · have e34 : ((s[k].toNat : Int) == 34) = true := byte_eq c34
      have HC1 := hid (HC.out.quote hlt c34)
      clear HC c34
      go_wp2
      go_roundw
      case rel => exact ⟨k + 1, f, !q, false, ds, a, c, rfl, rfl, by cases q <;> rfl, rfl, by omega, by omega, by omega, by unfold Hid; rw [← HS.out]; exact HC1.out, HT1⟩
      case measure => rw [HMU.out, HM1.out]; omega
    have e34 : ((s[k].toNat : Int) == 34) = false := byte_neq c34
    cases q
    rotate_left
    · have HC1 := hid (HC.out.within hlt c34)
      have e92 : ((s[k].toNat : Int) == 92) = decide (s[k] = 92) := by
        by_cases h : s[k] = 92
        · rw [decide_eq_true h]; exact byte_eq h
        · rw [decide_eq_false h]; exact byte_neq h
      clear HC c34
      generalize decide (s[k] = 92) = t2 at *
      go_wp2
      go_roundw
      case rel => exact ⟨k + 1, f, true, t2, ds, a, c, rfl, rfl, rfl, rfl, by omega, by omega, by omega, by unfold Hid; rw [← HS.out]; exact HC1.out, HT1⟩
      case measure => rw [HMU.out, HM1.out]; omega
    by_cases c32 : s[k] = 32
    · have e32 : ((s[k].toNat : Int) == 32) = true := byte_eq c32
      have HC1 := hid (HC.out.cut hlt c32 (sl_ext s f k))
      have i1 : (f : Int) ≤ (k : Int) := by omega
      have i2 : (k : Int) ≤ (s.size : Int) := by omega
      have i0' : (0 : Int) ≤ (f : Int) := by omega
      clear HC c34 c32
      go_wp2_with (at_builtin; refine wpList_append_own _ rfl (.tmp 29) (.tmp 34) 35 rfl (w.heap.size + 1) 9 i0 (.string ⟨#[]⟩) 1 16 Try.underlying35 hi hz0 hz1 hz2 rfl (by decide) _ _ _ rfl (HT1.out.alloc _).row ⟨W1.heap.size, 0, none⟩ 1 1 [.string (s.extract f k)] rfl rfl ?d1 ?d2 ?d3 ?d4 ?d5 ?_)
      case d1 => exact one_row _ _ _
      case d2 => intro u hu; simp at hu; subst hu; rfl
      case d3 => unfold maxLen; omega
      case d4 => omega
      case d5 => have := HT1.out.lt; simp; omega
      intro v3 w3 hown3 hgr3 _
      obtain ⟨a3, c3, rfl⟩ := own_form' hown3
      have HT3 := hid ((HT1.out.alloc _).app (d := s.extract f k) hgr3 hown3 (by simp))
      have HM3 : Hid (w3.iterPos w.heap.size = k + 1) := by unfold Hid; have := HT3.out.it; simp [World.iterPos, this]
      clear hown3 hgr3
      go_wp2
      go_roundw
      case rel => exact ⟨k + 1, k + 1, false, false, ds ++ [s.extract f k], a3, c3, by simp, by go_num, rfl, rfl, Nat.le_refl _, by omega, by simp; omega, by unfold Hid; rw [sl_nil]; exact HC1.out, HT3⟩
      case measure => rw [HMU.out, HM3.out]; omega
    · have e32 : ((s[k].toNat : Int) == 32) = false := byte_neq c32
      have HC1 := hid (HC.out.other hlt c34 c32)
      clear HC c34 c32
      go_wp2
      go_roundw
      case rel => exact ⟨k + 1, f, false, false, ds, a, c, rfl, rfl, rfl, rfl, by omega, by omega, by omega, by unfold Hid; rw [← HS.out]; exact HC1.out, HT1⟩
      case measure => rw [HMU.out, HM1.out]; omega
end Go.Proofs.Ytigakbhficoonaa.Prs
