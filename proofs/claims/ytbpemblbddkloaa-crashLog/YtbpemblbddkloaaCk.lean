/- Both CrashLogs, and the walk of FnExactCrashLog. -/
import Derived.Test.YtbpemblbddkloaaByo
import Derived.Lib.LazyBuf
namespace Go.Proofs.Ytbpemblbddkloaa.Byt
open Go.RowKit

/-- What CrashLog gives. -/
def crash (zs : List Int) (n : Int) : List Int := if zs.length ≤ 200000 ∧ 0 ≤ n ∧ n ≤ zs.length then zs.take n.toNat else []

theorem Has.take {w : World} {a : Option Addr} {zs : List Int} (h : Has w a zs) (k : Nat) : Has w a (zs.take k) := by
  rcases h with rfl | ⟨b, off, h1, h2, h3⟩
  · exact .inl (by simp)
  · refine .inr ⟨b, off, h1, h2, fun i hi => ?_⟩
    simp only [List.length_take] at hi
    rw [h3 i (by omega)]
    simp [show i < k by omega]
theorem cells_of {w : World} {b off : Nat} {zs : List Int} (h : ∀ i, i < zs.length → w.cell? ⟨b, off + i, none⟩ = some (.int .u8 (zs.getD i 0))) :
    ∀ j u, (zs.map (Value.int .u8))[j]? = some u → w.cell? ((⟨b, off, none⟩ : Addr).add j) = some u := by
  intro j u hj
  rw [List.getElem?_map] at hj
  cases hz : zs[j]? with
  | none => rw [hz] at hj; cases hj
  | some z =>
    rw [hz] at hj
    simp only [Option.map_some, Option.some.injEq] at hj
    subst hj
    have hl : j < zs.length := (List.getElem?_eq_some_iff.1 hz).1
    have := h j hl
    rw [List.getD_eq_getElem?_getD, hz] at this
    by_cases h0 : j = 0
    · subst h0; simpa [Addr.add] using this
    · simpa [Addr.add, h0] using this
theorem one_of (zs : List Int) : ∀ u ∈ zs.map (Value.int .u8), u.oneCell' = true := by
  intro u hu
  simp only [List.mem_map] at hu
  obtain ⟨x, _, rfl⟩ := hu
  rfl

theorem Has.cells {w : World} {b : Nat} {zs : List Int} (h : Has w (some ⟨b, 0, none⟩) zs) : ∀ j u, (zs.map (Value.int .u8))[j]? = some u → w.cell? ((⟨b, 0, none⟩ : Addr).add j) = some u := by
  rcases h with rfl | ⟨b', off, h1, h2, h3⟩
  · intro j u hj; simp at hj
  · simp only [Option.some.injEq, Addr.mk.injEq, and_true] at h1
    obtain ⟨rfl, rfl⟩ := h1
    exact cells_of h3
theorem crash_no {zs : List Int} {n : Int} (h : ¬ (zs.length ≤ 200000 ∧ 0 ≤ n ∧ n ≤ zs.length)) : crash zs n = [] := if_neg h
theorem crash_len (zs : List Int) (n : Int) : (crash zs n).length ≤ zs.length := by
  unfold crash; split
  · simp; omega
  · simp

set_option maxHeartbeats 1000000 in
theorem f4 (b c : Nat) (zs : List Int) (n : Int) (w : World) (hb : zs.length ≤ 1048576) (hc : zs.length ≤ c) (hr : Has w (some ⟨b, 0, none⟩) zs) :
    Calls Try.prog 4 #[.slice (some ⟨b, 0, none⟩) zs.length c, .int .i64 n] w fun e w' => ∃ v, e = .returned v ∧ Own w' w.heap.size v (crash zs n) ∧ Below w.heap.size w w' := by
  obtain ⟨i0, hi, hz0, hz1, hz2⟩ := info_parts info5
  have HR := hid hr
  have HC := hid (crash_no (zs := zs) (n := n))
  clear hr
  by_cases h1 : zs.length ≤ 200000
  · by_cases h2 : 0 ≤ n
    · obtain ⟨m, rfl⟩ := Int.eq_ofNat_of_zero_le h2
      by_cases h3 : m ≤ zs.length
      · have e1 : crash zs (m : Int) = zs.take m := by unfold crash; rw [if_pos ⟨h1, h2, by omega⟩]; simp
        have e2 : (zs.take m).length = m := by simp; omega
        have E1 := hid e1
        have E2 := hid e2
        have HN := hid (HR.out.take m).cells
        have H1 := hid (one_of (zs.take m))
        have HL : Hid (((zs.take m).map (Value.int .u8)).length = m * 1) := by unfold Hid; rw [List.length_map, e2, Nat.mul_one]
        clear e1 e2 HC h2
        generalize zs.length = n at *
        go_enter Try.func4, Try.ntmps4
        go_wp2_with (at_builtin; refine wpList_append_own _ rfl (.tmp 19) (.tmp 22) 22 rfl w.heap.size 5 i0 (.int .u8 0) 1 1 Try.underlying22 hi hz0 hz1 hz2 rfl (by decide) _ _ _ rfl (World.ownsRow_nil w w.heap.size 5 1) ⟨b, 0, none⟩ m _ ((zs.take m).map (Value.int .u8)) rfl HL.out HN.out H1.out ?d3 ?d4 ?d5 ?_)
        case d3 => unfold maxLen; omega
        case d4 => omega
        case d5 => simp
        intro v1 w3 hown1 hgr1 _
        go_wp2
        go_ret
        refine ⟨v1, rfl, ?_, ?_⟩
        · rw [E1.out]; unfold Own; rw [E2.out]; simpa using hown1
        · exact (Below.refl _ w).grown hgr1 (by simp) (by intro k hk; simp [Value.ownBlock] at hk)
      · have e1 := hid (HC.out (by omega))
        clear HC
        generalize zs.length = n at *
        go_enter Try.func4, Try.ntmps4
        go_wp2
        go_ret
        exact ⟨_, rfl, by rw [e1.out]; exact Own.nil _ _, Below.refl _ _⟩
    · have e1 := hid (HC.out (by omega))
      clear HC
      generalize zs.length = n at *
      go_enter Try.func4, Try.ntmps4
      go_wp2
      go_ret
      exact ⟨_, rfl, by rw [e1.out]; exact Own.nil _ _, Below.refl _ _⟩
  · have e1 := hid (HC.out (by omega))
    clear HC
    generalize zs.length = n at *
    go_enter Try.func4, Try.ntmps4
    go_wp2
    go_ret
    exact ⟨_, rfl, by rw [e1.out]; exact Own.nil _ _, Below.refl _ _⟩

theorem eqNil (w : World) (a : Option Addr) (l c : Nat) : (binOp .eql 22 (.slice a l c) (.slice none 0 0)).run Try.prog w = .ok (.bool a.isNone) w := Go.run_eql_slice_nil w _ _ a l c Try.underlying22

set_option maxHeartbeats 1000000 in
theorem f10 (b n c : Nat) (zs : List Int) (w : World) (hn : zs.length = n) (hb : n ≤ 1048576) (hr : Has w (some ⟨b, 0, none⟩) zs) :
    Calls Try.prog 10 #[.slice (some ⟨b, 0, none⟩) n c] w fun e w' => ∃ v, e = .returned v ∧ Own w' w.heap.size v zs ∧ Below w.heap.size w w' := by
  obtain ⟨i0, hi, hz0, hz1, hz2⟩ := info_parts info5
  have q := eqNil
  have HL : Hid ((zs.map (Value.int .u8)).length = n * 1) := by unfold Hid; rw [List.length_map, hn, Nat.mul_one]
  have HN := hid (Has.cells (hr.below ((Below.refl w.heap.size w).alloc (Nat.le_refl _) (.cells #[] 5))))
  have H1 := hid (one_of zs)
  have E := hid hn
  clear hr hn
  go_enter Try.func10, Try.ntmps10
  go_wp2_with (at_builtin; refine wpList_append_own _ rfl (.tmp 5) (.tmp 6) 22 rfl w.heap.size 5 i0 (.int .u8 0) 1 1 Try.underlying22 hi hz0 hz1 hz2 rfl (by decide) _ _ _ rfl (World.ownsRow_made w #[] 0 (Nat.le_refl _) (Nat.zero_le _) rfl) ⟨b, 0, none⟩ n c (zs.map (Value.int .u8)) rfl HL.out HN.out H1.out ?d3 ?d4 ?d5 ?_)
  case d3 => unfold maxLen; omega
  case d4 => omega
  case d5 => simp
  intro v1 w3 hown1 hgr1 _
  go_wp2
  go_ret
  refine ⟨v1, rfl, ?_, ?_⟩
  · unfold Own; rw [E.out]; simpa using hown1
  · exact ((Below.refl _ w).alloc (Nat.le_refl _) _).grown hgr1 (by simp) (by intro k hk; simp [Value.ownBlock] at hk; omega)

set_option maxHeartbeats 1000000 in
theorem f6 (b c : Nat) (zs : List Int) (n : Int) (w : World) (hb : zs.length ≤ 1048576) (hc : zs.length ≤ c) (hr : Has w (some ⟨b, 0, none⟩) zs) :
    Calls Try.prog 6 #[.slice (some ⟨b, 0, none⟩) zs.length c, .int .i64 n] w fun e w' => ∃ v, e = .returned v ∧ Own w' w.heap.size v (crash zs n) ∧ Below w.heap.size w w' := by
  have HR := hid hr
  have HC := hid (crash_no (zs := zs) (n := n))
  clear hr
  by_cases h1 : zs.length ≤ 200000
  · by_cases h2 : 0 ≤ n
    · obtain ⟨m, rfl⟩ := Int.eq_ofNat_of_zero_le h2
      by_cases h3 : m ≤ zs.length
      · have e1 : crash zs (m : Int) = zs.take m := by unfold crash; rw [if_pos ⟨h1, h2, by omega⟩]; simp
        have e2 : (zs.take m).length = m := by simp; omega
        have E1 := hid e1
        have E2 := hid e2
        have HN := hid (HR.out.take m)
        clear e1 e2 HC h2
        generalize zs.length = n at *
        go_enter Try.func6, Try.ntmps6
        go_wp2_with fail
        refine (f10 b m _ (zs.take m) _ E2.out (by omega) HN.out).mono ?_
        rintro e w1 ⟨v, rfl, ho, hb1⟩
        go_wp2
        go_ret
        exact ⟨v, rfl, by rw [E1.out]; exact ho, hb1⟩
      · have e1 := hid (HC.out (by omega))
        clear HC
        generalize zs.length = n at *
        go_enter Try.func6, Try.ntmps6
        go_wp2
        go_ret
        exact ⟨_, rfl, by rw [e1.out]; exact Own.nil _ _, Below.refl _ _⟩
    · have e1 := hid (HC.out (by omega))
      clear HC
      generalize zs.length = n at *
      go_enter Try.func6, Try.ntmps6
      go_wp2
      go_ret
      exact ⟨_, rfl, by rw [e1.out]; exact Own.nil _ _, Below.refl _ _⟩
  · have e1 := hid (HC.out (by omega))
    clear HC
    generalize zs.length = n at *
    go_enter Try.func6, Try.ntmps6
    go_wp2
    go_ret
    exact ⟨_, rfl, by rw [e1.out]; exact Own.nil _ _, Below.refl _ _⟩
end Go.Proofs.Ytbpemblbddkloaa.Byt
