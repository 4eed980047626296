/- A piece of a line read as a pair: plain; strings.Cut at one byte; the program's readPair. -/
import Derived.Test.YtigakbhficoonaaPrc
import Derived.Test.YtigakbhficoonaaGi
import Derived.Lib.IndexLaws
namespace Go.Proofs.Ytigakbhficoonaa.Prs
open Go.RowKit
open Go.Proofs.Ytigakbhficoonaa.Rdd
open Go.Proofs.Ytigakbhficoonaa.Pat (hid nbC)
open Go.Proofs.Ytigakbhficoonaa.Lab (Lb)
open Go.Proofs.Ytigakbhficoonaa.Str (nameL valueL)

/-- The value told behind the sign: as it stands, or quoted. -/
def vl (v : ByteArray) : Option ByteArray := if (bys v)[0]? = some 34 then (quo v 0).bind (fun p => if p.2 = v.size then some (mkS p.1) else none) else some v
/-- The label that a piece is. -/
def rdP (x : ByteArray) : Option Lb :=
  if (bys x)[nmE (bys x) 0]? = some 61 ∧ nameL (bys (x.extract 0 (nmE (bys x) 0))) = true then
    (vl (x.extract (nmE (bys x) 0 + 1) x.size)).bind (fun u => if valueL (bys u) = true then some (x.extract 0 (nmE (bys x) 0), u) else none)
  else none
theorem nb61 : nbC 61 = false := by decide
theorem all_nb {l : List UInt8} (h : nameL l = true) : ∀ c ∈ l, nbC c = true := by
  unfold nameL at h
  have := (Bool.and_eq_true _ _ ▸ h).2
  exact List.all_eq_true.1 this
theorem nmE_at {l : List UInt8} {i : Nat} (h : l[i]? = some 61) (ha : ∀ c ∈ l.take i, nbC c = true) : nmE l 0 = i := by
  unfold nmE
  have hi : i < l.length := by
    rcases Nat.lt_or_ge i l.length with h1 | h1
    · exact h1
    · rw [List.getElem?_eq_none h1] at h; cases h
  have hd : l = l.take i ++ 61 :: l.drop (i + 1) := by
    conv => lhs; rw [← List.take_append_drop i l]
    rw [drop_cons h]
  rw [List.drop_zero, hd, List.takeWhile_append_of_pos ha, List.takeWhile_cons_of_neg (by rw [nb61]; decide)]
  simp; omega
theorem tw_nb : ∀ (l : List UInt8) (k : Nat), k < (l.takeWhile nbC).length → ∃ c, l[k]? = some c ∧ nbC c = true := by
  intro l
  induction l with
  | nil => intro k h; simp at h
  | cons a l ih =>
    intro k h
    by_cases ha : nbC a = true
    · rw [List.takeWhile_cons_of_pos ha] at h
      cases k with
      | zero => exact ⟨a, rfl, ha⟩
      | succ k => exact ih k (by simpa using h)
    · rw [List.takeWhile_cons_of_neg ha] at h
      simp at h
theorem nmE_nb {l : List UInt8} {k : Nat} (h : k < nmE l 0) : ∃ c, l[k]? = some c ∧ nbC c = true := by
  unfold nmE at h
  rw [List.drop_zero] at h
  exact tw_nb l k (by omega)
theorem bys_take (x : ByteArray) (i : Nat) : bys (x.extract 0 i) = (bys x).take i := by rw [sl_ext]; unfold sl; simp
theorem rd_hit {x : ByteArray} {i : Nat} (h : (bys x)[i]? = some 61) (hn : ∀ k, k < i → (bys x)[k]? ≠ some 61) :
    rdP x = if nameL (bys (x.extract 0 i)) = true then (vl (x.extract (i + 1) x.size)).bind (fun u => if valueL (bys u) = true then some (x.extract 0 i, u) else none) else none := by
  cases hg : nameL (bys (x.extract 0 i))
  · rw [if_neg (by decide)]
    unfold rdP
    refine if_neg fun g => ?_
    have : nmE (bys x) 0 = i := by
      rcases Nat.lt_trichotomy (nmE (bys x) 0) i with h1 | h1 | h1
      · exact absurd g.1 (hn _ h1)
      · exact h1
      · obtain ⟨c, hc, hb⟩ := nmE_nb h1
        rw [h] at hc
        rw [← Option.some.inj hc, nb61] at hb
        cases hb
    rw [this, hg] at g
    exact absurd g.2 (by decide)
  · rw [if_pos rfl]
    have he : nmE (bys x) 0 = i := nmE_at h (fun c hc => all_nb hg c (by rw [bys_take]; exact hc))
    unfold rdP
    rw [he, if_pos ⟨h, hg⟩]
theorem rd_miss {x : ByteArray} (h : ∀ k : Nat, (bys x)[k]? ≠ some 61) : rdP x = none := by
  unfold rdP
  exact if_neg fun g => h _ g.1
/-- Where the sign first stands. -/
theorem ix_cases (x : ByteArray) : (Lib.indexByte (bys x) 61 = -1 ∧ ∀ k : Nat, (bys x)[k]? ≠ some 61) ∨ ∃ i : Nat, Lib.indexByte (bys x) 61 = i ∧ i < x.size ∧ (bys x)[i]? = some 61 ∧ ∀ k, k < i → (bys x)[k]? ≠ some 61 := by
  have hge := Lib.indexByte_ge (bys x) 61
  by_cases h : Lib.indexByte (bys x) 61 = -1
  · exact .inl ⟨h, Lib.indexByte_none h⟩
  · obtain ⟨i, hi⟩ : ∃ i : Nat, Lib.indexByte (bys x) 61 = i := ⟨(Lib.indexByte (bys x) 61).toNat, by omega⟩
    obtain ⟨h1, h2⟩ := Lib.indexByte_some hi
    refine .inr ⟨i, hi, ?_, h1, h2⟩
    rcases Nat.lt_or_ge i x.size with h3 | h3
    · exact h3
    · rw [List.getElem?_eq_none (by simpa using h3)] at h1; cases h1
set_option maxRecDepth 100000 in
theorem f92 (s : ByteArray) (c : Int) (w : World) : Calls Try.prog 92 #[.string s, .int .u8 c] w fun e w' => e = .returned (.int .i64 (Lib.indexByte s.data.toList c.toNat.toUInt8)) ∧ w' = w := by
  go_enter Try.func92, Try.ntmps92
  go_wp2
  rw [run_callFunc_extern Try.func98 (by kernel_rfl) (by kernel_rfl) (by kernel_rfl) (e := Extern.BytealgIndexByte.indexByte) (by kernel_rfl), Lib.run_indexByteString]
  simp only [Result.andThen]
  rw [Oper.upon_value]
  go_wp2
  go_ret
  exact ⟨rfl, rfl⟩
theorem ix_self {s : ByteArray} (h : (([61] : List UInt8) == s.toList) = true) : Lib.indexByte (bys s) 61 = 0 := by
  have e : s.toList = [61] := (beq_iff_eq.1 h).symm
  rw [ByteArray.toList_eq] at e
  show Lib.indexByte s.data.toList 61 = 0
  rw [e]; rfl
theorem f82 (s : ByteArray) (w : World) : Calls Try.prog 82 #[.string s, .string ⟨#[61]⟩] w fun e w' => e = .returned (.int .i64 (Lib.indexByte (bys s) 61)) ∧ w' = w := by
  have h1 : (⟨#[61]⟩ : ByteArray).size = 1 := rfl
  have HC := hid (f92 s 61 w)
  cases hq : (([61] : List UInt8) == s.toList)
  · go_enter Try.func82, Try.ntmps82
    go_wp2_with fail
    refine HC.out.mono ?_
    rintro e w1 ⟨rfl, rfl⟩
    go_wp2
    go_ret
    exact ⟨rfl, rfl⟩
  · rw [ix_self hq]
    clear HC
    go_enter Try.func82, Try.ntmps82
    go_wp2
    go_ret
    exact ⟨rfl, rfl⟩
set_option maxHeartbeats 2000000 in
theorem f49n (s : ByteArray) (w : World) (h : Lib.indexByte (bys s) 61 = -1) : Calls Try.prog 49 #[.string s, .string ⟨#[61]⟩] w fun e w' => e = .returned (.tuple #[.string s, .string ⟨#[]⟩, .bool false]) ∧ Below w.heap.size w w' := by
  have HI := fun w => hid (f82 s w)
  simp only [h] at HI
  have HC : Hid (∀ w, Calls Try.prog 64 #[.string s, .string ⟨#[61]⟩] w fun e w' => e = .returned (.tuple #[.string s, .string ⟨#[]⟩, .bool false]) ∧ Below w.heap.size w w') := by
    intro w
    go_enter Try.func64, Try.ntmps64
    go_wp2_with fail
    refine (HI _).out.mono ?_
    rintro e w1 ⟨rfl, rfl⟩
    go_wp2
    go_ret3
    exact ⟨rfl, Below.refl _ _⟩
  go_enter Try.func49, Try.ntmps49
  go_wp2_with fail
  refine (HC.out _).mono ?_
  rintro e w1 ⟨rfl, hb⟩
  have HB := hid hb
  clear hb
  go_wp2
  go_ret3
  exact ⟨rfl, HB.out⟩
set_option maxHeartbeats 2000000 in
theorem f49y (s : ByteArray) (i : Nat) (w : World) (h : Lib.indexByte (bys s) 61 = i) (hi : i < s.size) (hs : s.size ≤ 1048576) : Calls Try.prog 49 #[.string s, .string ⟨#[61]⟩] w fun e w' => e = .returned (.tuple #[.string (s.extract 0 i), .string (s.extract (i + 1) s.size), .bool true]) ∧ Below w.heap.size w w' := by
  have HI := fun w => hid (f82 s w)
  simp only [h] at HI
  have HC : Hid (∀ w, Calls Try.prog 64 #[.string s, .string ⟨#[61]⟩] w fun e w' => e = .returned (.tuple #[.string (s.extract 0 i), .string (s.extract (i + 1) s.size), .bool true]) ∧ Below w.heap.size w w') := by
    intro w
    have h1 : (⟨#[61]⟩ : ByteArray).size = 1 := rfl
    have i1 : (0 : Int) ≤ (i : Int) := by omega
    have i2 : (i : Int) ≤ (s.size : Int) := by omega
    have i3 : (i : Int) + 1 ≤ (s.size : Int) := by omega
    have i4 : ((i : Int) + 1).toNat = i + 1 := by omega
    have i5 : IntKind.i64.wrap ((i : Int) + 1) = (i : Int) + 1 := by rw [IntKind.wrap_i64]; omega
    have i6 : (0 : Int) ≤ (i : Int) + 1 := by omega
    go_enter Try.func64, Try.ntmps64
    go_wp2_with fail
    refine (HI _).out.mono ?_
    rintro e w1 ⟨rfl, rfl⟩
    go_wp2_with fail
    go_region
    all_goals
      go_wp2
      go_ret3
      exact ⟨by first | rfl | simp, (Below.refl _ _).drew⟩
  go_enter Try.func49, Try.ntmps49
  go_wp2_with fail
  refine (HC.out _).mono ?_
  rintro e w1 ⟨rfl, hb⟩
  have HB := hid hb
  clear hb
  go_wp2
  go_ret3
  exact ⟨rfl, HB.out⟩
end Go.Proofs.Ytigakbhficoonaa.Prs
