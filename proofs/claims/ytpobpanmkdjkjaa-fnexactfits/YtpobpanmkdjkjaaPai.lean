/- The pieces of readPattern: a sign looked for, tests made, a test added. -/
import Derived.Test.YtpobpanmkdjkjaaPat
namespace Go.Proofs.Ytpobpanmkdjkjaa.Pat
open Go.RowKit

theorem f52 (w : World) : Calls Try.prog 52 #[] w fun e w' => (∃ F, e = .returned (.func (.func F) #[] #[])) ∧ w' = w := by
  go_enter Try.func52, Try.ntmps52
  go_wp2
  go_ret
  exact ⟨⟨_, rfl⟩, rfl⟩
theorem f54 (z : Int) (w : World) : Calls Try.prog 54 #[.int .u8 z] w fun e w' => (∃ F ts us, e = .returned (.func (.func F) ts us)) ∧ Below w.heap.size w w' := by
  go_enter Try.func54, Try.ntmps54
  go_wp2
  go_ret
  exact ⟨⟨_, _, _, rfl⟩, (Below.refl _ _).alloc (Nat.le_refl _) _⟩

theorem info86 : (Try.prog.info? 82).map (fun i => (i.zero, i.size, i.bytes)) = some (some .nilFunc, 1, 8) := by kernel_rfl
theorem info91 : (Try.prog.info? 96).map (fun i => (i.zero, i.size, i.bytes)) = some (some (.slice none 0 0), 1, 24) := by kernel_rfl
theorem info63 : (Try.prog.info? 79).map (fun i => (i.zero, i.size, i.bytes)) = some (some (.slice none 0 0), 1, 24) := by kernel_rfl

set_option maxRecDepth 100000 in
theorem f71 (s : ByteArray) (c : Int) (w : World) : Calls Try.prog 71 #[.string s, .int .u8 c] w fun e w' => e = .returned (.int .i64 (Lib.indexByte s.data.toList c.toNat.toUInt8)) ∧ w' = w := by
  go_enter Try.func71, Try.ntmps71
  go_wp2
  rw [run_callFunc_extern Try.func82 (by kernel_rfl) (by kernel_rfl) (by kernel_rfl) (e := Extern.BytealgIndexByte.indexByte) (by kernel_rfl), Lib.run_indexByteString]
  simp only [Result.andThen]
  rw [Oper.upon_value]
  go_wp2
  go_ret
  exact ⟨rfl, rfl⟩
theorem f53' (s : ByteArray) (c : Int) (w : World) : Calls Try.prog 53 #[.string s, .int .u8 c] w fun e w' => e = .returned (.int .i64 (Lib.indexByte s.data.toList c.toNat.toUInt8)) ∧ w' = w := by
  go_enter Try.func53, Try.ntmps53
  go_wp2_with (go_at_call 71; refine (f71 _ _ _).mono ?_; rintro e w' ⟨rfl, rfl⟩)
  go_ret
  exact ⟨rfl, rfl⟩
theorem sign_found : ∀ n : Fin 256, decide (Lib.indexByte [42, 63, 124, 92] n.val.toUInt8 < 0) = !sgB (n.val : Int) := by decide +kernel
theorem f53 (c : UInt8) (w : World) : Calls Try.prog 53 #[.string { data := #[42, 63, 124, 92] }, .int .u8 (c.toNat : Int)] w fun e w' => (∃ y : Int, e = .returned (.int .i64 y) ∧ decide (y < 0) = !sgB (c.toNat : Int)) ∧ w' = w := by
  refine (f53' _ _ w).mono ?_
  rintro e w' ⟨rfl, rfl⟩
  exact ⟨⟨_, rfl, sign_found ⟨c.toNat, c.toNat_lt⟩⟩, rfl⟩

/-- The last run of an alternative's row, and that it is a row of tests. -/
structure Alt (B : Nat) (w : World) (g2 n2 c2 : Nat) (x2 : List Value) (a3 : Option Addr) (n3 c3 : Nat) (x3 : List Value) : Prop where
  own : w.ownsRow B 96 1 (.slice (some ⟨g2, 0, none⟩) n2 c2) n2 x2
  pos : 1 ≤ n2
  last : x2[n2 - 1]? = some (.slice a3 n3 c3)
  run : w.ownsRow B 82 1 (.slice a3 n3 c3) n3 x3

set_option maxHeartbeats 2000000 in
set_option maxRecDepth 100000 in
theorem f51 (B g2 n2 c2 n3 c3 : Nat) (a3 : Option Addr) (x2 x3 : List Value) (fid : FuncId) (ts us : Array Value) (w : World) (h : Alt B w g2 n2 c2 x2 a3 n3 c3 x3) (hB : B ≤ w.heap.size) (hn2 : n2 ≤ 1000) (hn3 : n3 ≤ 1000) :
    Calls Try.prog 51 #[.slice (some ⟨g2, 0, none⟩) n2 c2, .func (.func fid) ts us] w fun e w' => e = .returned (.tuple #[]) ∧ (∃ x2' a3' c3' x3', Alt B w' g2 n2 c2 x2' a3' (n3 + 1) c3' x3') ∧ Below B w w' ∧ ∀ (v : Value) (n : Nat) (xs : List Value), w.ownsRow B 79 1 v n xs → w'.ownsRow B 79 1 v n xs := by
  obtain ⟨i0, i1, i2, i3, i4⟩ := info_parts info86
  obtain ⟨k, rfl⟩ : ∃ k, n2 = k + 1 := ⟨n2 - 1, by have := h.pos; omega⟩
  have HL := hid h.last
  rw [Nat.add_sub_cancel] at HL
  have HO := hid h.own
  have HRn := hid h.run
  have hl2 : x2.length = k + 1 := by have := h.own.1; omega
  have c0 : w.cell? ⟨g2, k, none⟩ = some (.slice a3 n3 c3) := (HO.out.cellAt k (by omega)).trans HL.out
  have HL2 := hid hl2
  clear h hl2
  go_enter Try.func51, Try.ntmps51
  go_wp2_with (at_builtin; refine wpList_append_own _ rfl (.tmp 13) (.tmp 15) 96 rfl B 82 i0 .nilFunc 1 8 Try.underlying96 i1 i2 i3 i4 rfl (by decide) _ _ _ rfl (HRn.out.alloc _) ⟨w.heap.size, 0, none⟩ 1 1 [.func (.func fid) ts us] rfl rfl ?d1 ?d2 ?d3 ?d4 ?d5 ?_)
  case d1 => exact one_row _ _ _
  case d2 => intro u hu; simp at hu; subst hu; rfl
  case d3 => unfold maxLen; omega
  case d4 => omega
  case d5 => simp; omega
  intro v3 w3 hown3 hgr3 _
  obtain ⟨a4, c4, rfl⟩ := own_form hown3
  have HR3 := hid hown3
  have HO3 := hid ((HO.out.alloc (.cells #[.func (.func fid) ts us] 82)).kept hgr3 (own_apart HO.out HRn.out (by decide)))
  have HX3 := hid (((Below.refl B w).alloc hB (.cells #[.func (.func fid) ts us] 82)).grown hgr3 (by simp; omega) (fun j hj => (HRn.out.lt j hj).1))
  have HG3 : Hid (∀ (v : Value) (n : Nat) (xs : List Value), w.ownsRow B 79 1 v n xs → w3.ownsRow B 79 1 v n xs) := fun v n xs hv => (hv.alloc (.cells #[.func (.func fid) ts us] 82)).kept hgr3 (own_apart hv HRn.out (by decide))
  have fz := HO3.out.frozenAt k
  have c3' : w3.cell? ⟨g2, k, none⟩ = some (.slice a3 n3 c3) := (HO3.out.cellAt k (by omega)).trans HL.out
  have HS := hid (HO3.out.stored k (.slice a4 (n3 + 1) c4))
  have HBg := hid (HO.out.lt g2 rfl).1
  clear hown3 hgr3
  go_wp2
  refine bodyPost_end (v := .tuple #[]) (by simp [results, Try.results51]) rfl ⟨rfl, ⟨x2.set k (.slice a4 (n3 + 1) c4), a4, c4, _, ⟨HS.out.1, by omega, ?_, HR3.out.kept HS.out.2 (own_apart HR3.out HO3.out (by decide))⟩⟩, HX3.out.setCell HBg.out _, fun v n xs hv => (HG3.out v n xs hv).kept HS.out.2 (own_apart (HG3.out v n xs hv) HO3.out (by decide))⟩
  rw [Nat.add_sub_cancel, List.getElem?_set_self (by rw [HL2.out]; omega)]

/-- The pattern as it is read: a row of alternatives, its last one, that one's last run. -/
structure Rp (B : Nat) (w0 w : World) (g1 n1 c1 i : Nat) : Prop where
  ex : ∃ (x1 : List Value) (g2 n2 c2 : Nat) (x2 : List Value) (a3 : Option Addr) (n3 c3 : Nat) (x3 : List Value),
    w.ownsRow B 79 1 (.slice (some ⟨g1, 0, none⟩) n1 c1) n1 x1 ∧ x1[n1 - 1]? = some (.slice (some ⟨g2, 0, none⟩) n2 c2) ∧ Alt B w g2 n2 c2 x2 a3 n3 c3 x3 ∧ n2 ≤ i + 1 ∧ n3 ≤ i
  pos : 1 ≤ n1
  le : n1 ≤ i + 1
  below : Below B w0 w

/-- One alternative of the row, and a test that is to be added to it. -/
abbrev Ad (B : Nat) (w0 : World) (g1 n1 c1 : Nat) (x1 : List Value) (g2 n2 c2 : Nat) (x2 : List Value) (a3 : Option Addr) (n3 c3 : Nat) (x3 : List Value) (w : World) : Prop :=
  w.cell? ⟨g1, n1 - 1, none⟩ = some (.slice (some ⟨g2, 0, none⟩) n2 c2) ∧ w.ownsRow B 79 1 (.slice (some ⟨g1, 0, none⟩) n1 c1) n1 x1 ∧ Alt B w g2 n2 c2 x2 a3 n3 c3 x3 ∧ Below B w0 w
theorem own_below {w w' : World} {base e size n : Nat} {v : Value} {xs : List Value} (h : w.ownsRow base e size v n xs) (hb : Below w.heap.size w w') : w'.ownsRow base e size v n xs :=
  h.kept (row := none) ⟨hb.os, hb.tape, hb.output, hb.size, fun k hk _ => hb.block k hk⟩ (by cases hv : v.ownBlock <;> simp)
section
variable {B g1 n1 c1 g2 n2 c2 n3 c3 : Nat} {w0 w w' : World} {x1 x2 x3 : List Value} {a3 : Option Addr}
theorem Alt.below (h : Alt B w g2 n2 c2 x2 a3 n3 c3 x3) (hb : Below w.heap.size w w') : Alt B w' g2 n2 c2 x2 a3 n3 c3 x3 := ⟨own_below h.own hb, h.pos, h.last, own_below h.run hb⟩
theorem Ad.below (h : Ad B w0 g1 n1 c1 x1 g2 n2 c2 x2 a3 n3 c3 x3 w) (hb : Below w.heap.size w w') : Ad B w0 g1 n1 c1 x1 g2 n2 c2 x2 a3 n3 c3 x3 w' :=
  ⟨(hb.cell (p := ⟨g1, n1 - 1, none⟩) (h.2.1.lt g1 rfl).2).trans h.1, own_below h.2.1 hb, h.2.2.1.below hb, h.2.2.2.trans (hb.mono (Nat.le_of_lt (Nat.lt_of_le_of_lt (h.2.1.lt g1 rfl).1 (h.2.1.lt g1 rfl).2)))⟩
theorem Ad.drew (h : Ad B w0 g1 n1 c1 x1 g2 n2 c2 x2 a3 n3 c3 x3 w) : Ad B w0 g1 n1 c1 x1 g2 n2 c2 x2 a3 n3 c3 x3 w.drew := ⟨h.1, h.2.1, ⟨h.2.2.1.own, h.2.2.1.pos, h.2.2.1.last, h.2.2.1.run⟩, h.2.2.2.drew⟩
theorem Rp.open {i : Nat} (h : Rp B w0 w g1 n1 c1 i) : ∃ (x1 : List Value) (g2 n2 c2 : Nat) (x2 : List Value) (a3 : Option Addr) (n3 c3 : Nat) (x3 : List Value), Ad B w0 g1 n1 c1 x1 g2 n2 c2 x2 a3 n3 c3 x3 w ∧ x1[n1 - 1]? = some (.slice (some ⟨g2, 0, none⟩) n2 c2) ∧ n2 ≤ i + 1 ∧ n3 ≤ i := by
  obtain ⟨x1, g2, n2, c2, x2, a3, n3, c3, x3, h1, h2, h3, h4, h5⟩ := h.ex
  have hp := h.pos
  exact ⟨x1, g2, n2, c2, x2, a3, n3, c3, x3, ⟨(h1.cellAt (n1 - 1) (by omega)).trans h2, h1, h3, h.below⟩, h2, h4, h5⟩
/-- Behind a test that was added. -/
theorem Rp.added {i : Nat} (hA : Ad B w0 g1 n1 c1 x1 g2 n2 c2 x2 a3 n3 c3 x3 w) (hp : 1 ≤ n1) (hl : n1 ≤ i + 1) (h2 : x1[n1 - 1]? = some (.slice (some ⟨g2, 0, none⟩) n2 c2)) (h4 : n2 ≤ i + 1) (h5 : n3 ≤ i)
    (hk : (∃ x2' a3' c3' x3', Alt B w' g2 n2 c2 x2' a3' (n3 + 1) c3' x3') ∧ Below B w w' ∧ ∀ (v : Value) (n : Nat) (xs : List Value), w.ownsRow B 79 1 v n xs → w'.ownsRow B 79 1 v n xs) {j : Nat} (hj : i + 1 ≤ j) : Rp B w0 w' g1 n1 c1 j := by
  obtain ⟨⟨x2', a3', c3', x3', hA'⟩, hb, hg⟩ := hk
  exact ⟨⟨x1, g2, n2, c2, x2', a3', n3 + 1, c3', x3', hg _ _ _ hA.2.1, h2, hA', by omega, by omega⟩, hp, by omega, hA.2.2.2.trans hb⟩
end
end Go.Proofs.Ytpobpanmkdjkjaa.Pat
