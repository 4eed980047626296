/- Good rules: what isGoodSource and the model's GoodRelabel come to. -/
import Derived.Test.YtcknlidbjnmbjaaGreatDoorRRA
import Derived.Test.YtcknlidbjnmbjaaGreatDoorRQE
import Derived.Test.YtcknlidbjnmbjaaGreatDoorRPaj
namespace Go.Proofs.YtcknlidbjnmbjaaGreatDoor.Rel
open Go.RowKit Go.Proofs.YtcknlidbjnmbjaaGreatDoor.Fil

def nm (s : ByteArray) : Bool := Pat.nameL s.data.toList
def em (s : ByteArray) : Bool := s.toList.isEmpty
def pr (s : ByteArray) : Bool := Pat.printL s.data.toList
def namesB (ss : List ByteArray) : Bool := ss.all nm
def baseB (r : Rule) : Bool := decide (1 ≤ r.act ∧ r.act ≤ 8) && (decide (r.from'.length ≤ 10) && (decide (r.sep.size ≤ 10) && (pr r.sep && Pat.patB r.pat)))
def kindB (r : Rule) : Bool :=
  if r.act = 3 then nm r.tgt && (filB r.val && decide (r.md = 0))
  else if r.act = 4 then em r.pat && (nm r.tgt && (em r.val && decide (1 ≤ r.md ∧ r.md ≤ 1000)))
  else if r.act = 5 then decide (r.from'.length = 0) && (em r.sep && (em r.tgt && (filB r.val && decide (r.md = 0))))
  else if r.act = 6 ∨ r.act = 7 then decide (r.from'.length = 0) && (em r.sep && (em r.tgt && (em r.val && decide (r.md = 0))))
  else if r.act = 8 then em r.pat && (nm r.tgt && (em r.val && decide (r.md = 0)))
  else em r.tgt && (em r.val && decide (r.md = 0))
def goodR (r : Rule) : Bool := baseB r && (namesB r.from' && kindB r)
theorem good_base {r : Rule} (h : baseB r = false) : goodR r = false := by unfold goodR; rw [h]; rfl
theorem good_names {r : Rule} (h : namesB r.from' = false) : goodR r = false := by unfold goodR; rw [h]; simp
theorem good_kind {r : Rule} (h : baseB r = true) (h1 : namesB r.from' = true) : goodR r = kindB r := by unfold goodR; rw [h, h1]; rfl
theorem names_no {ss : List ByteArray} {k : Nat} (hk : k < ss.length) (h : nm (ss.getD k ByteArray.empty) = false) : namesB ss = false := by
  unfold namesB
  rw [List.all_eq_false]
  have e : ss.getD k ByteArray.empty = ss[k] := by simp [hk]
  rw [e] at h
  exact ⟨ss[k], List.getElem_mem hk, by simp [h]⟩
theorem names_succ {ss : List ByteArray} {k : Nat} (hk : k < ss.length) (h0 : namesB (ss.take k) = true) (h : nm (ss.getD k ByteArray.empty) = true) : namesB (ss.take (k + 1)) = true := by
  unfold namesB at *
  have e : ss.getD k ByteArray.empty = ss[k] := by simp [hk]
  rw [e] at h
  rw [List.take_succ_eq_append_getElem hk, List.all_append, h0]
  simp [h]
theorem names_all {ss : List ByteArray} {k : Nat} (hk : ss.length ≤ k) (h0 : namesB (ss.take k) = true) : namesB ss = true := by rwa [List.take_of_length_le hk] at h0

def srcB (ss : List ByteArray) (sep : ByteArray) : Bool := decide (ss.length ≤ 10) && (decide (sep.size ≤ 10) && (pr sep && namesB ss))

set_option maxHeartbeats 2000000 in
theorem f108 (a : Option Addr) (n c : Nat) (ss : List ByteArray) (w : World) (hn : ss.length = n) (hb : n ≤ 1048576) (hz : ∀ i, i < n → (ss.getD i ByteArray.empty).size ≤ 1048576) (hr : HasT w a ss) :
    Calls Tryz.prog 108 #[.slice a n c] w fun e w' => e = .returned (.bool (namesB ss)) ∧ w' = w := by
  have HN := hid hn
  have HZ := hid hz
  have HR := hid hr
  clear hn hz hr
  go_enter Tryz.func108, Tryz.ntmps108
  go_wp2
  go_loop [7] (fun i => ∃ k : Nat, k ≤ n ∧ i = .int .i64 k ∧ Hid (namesB (ss.take k) = true)) (fun i => n - (intOf i).toNat)
  case atStart => exact ⟨0, Nat.zero_le _, rfl, rfl⟩
  case round =>
    obtain ⟨k, hk, rfl, HU⟩ := hrel
    by_cases hlt : k < n
    · rcases HR.out with hr | ⟨b, off, rfl, hbl, hc⟩
      · exact absurd HN.out (by rw [hr]; simp; omega)
      have c0 := hc k (by rw [HN.out]; exact hlt)
      have hsz := HZ.out k hlt
      have HS := hid (names_succ (ss := ss) (k := k) (by rw [HN.out]; exact hlt) HU.out)
      have HF := hid (names_no (ss := ss) (k := k) (by rw [HN.out]; exact hlt))
      clear hc
      generalize ss.getD k ByteArray.empty = s at *
      by_cases hnm : nm s = true
      · have HS2 := hid (HS.out hnm)
        unfold nm at hnm
        go_wp2_with (go_at_call 40; refine (Pat.f40 s _ (by unfold maxLen; omega)).mono ?_; rintro e w' ⟨rfl, hw'⟩; have hw2 := hw'.symm; clear hw'; subst hw2)
        go_round
        case rel => exact ⟨k + 1, by omega, by go_num, HS2.out⟩
        case measure => simp [intOf]; omega
      · have hnm' : nm s = false := by simpa using hnm
        have HF2 := hid (HF.out hnm')
        unfold nm at hnm'
        clear hnm
        go_wp2_with (go_at_call 40; refine (Pat.f40 s _ (by unfold maxLen; omega)).mono ?_; rintro e w' ⟨rfl, hw'⟩; have hw2 := hw'.symm; clear hw'; subst hw2)
        go_ret
        exact ⟨ret_bool (by rw [HF2.out]), rfl⟩
    · have HA := hid (names_all (by rw [HN.out]; omega) HU.out)
      go_wp2
      go_ret
      exact ⟨ret_bool (by rw [HA.out]), rfl⟩

set_option maxHeartbeats 2000000 in
theorem f80 (a : Option Addr) (n c : Nat) (ss : List ByteArray) (sep : ByteArray) (w : World) (hn : ss.length = n) (hb : n ≤ 1048576) (hs : sep.size ≤ 1048576) (hz : ∀ i, i < n → (ss.getD i ByteArray.empty).size ≤ 1048576) (hr : HasT w a ss) :
    Calls Tryz.prog 80 #[.slice a n c, .string sep] w fun e w' => e = .returned (.bool (srcB ss sep)) ∧ w' = w := by
  have HC := hid (f108 a n c ss w hn hb hz hr)
  have HN := hid hn
  clear hn hz hr
  by_cases h1 : n ≤ 10
  · by_cases h4 : namesB ss = true
    · by_cases h2 : sep.size ≤ 10
      · have HK : Hid (srcB ss sep = pr sep) := by unfold Hid srcB; rw [HN.out, h4, decide_eq_true h1, decide_eq_true h2]; simp
        unfold pr at HK
        go_enter Tryz.func80, Tryz.ntmps80
        go_wp2_with (first | (go_at_call 108; refine HC.out.mono ?_; rintro e w' ⟨rfl, hw'⟩; have hw2 := hw'.symm; clear hw'; subst hw2) | (go_at_call 60; refine (Pat.f60 sep _ (by unfold maxLen; omega)).mono ?_; rintro e w' ⟨rfl, hw'⟩; have hw2 := hw'.symm; clear hw'; subst hw2))
        go_ret
        exact ⟨ret_bool HK.out.symm, rfl⟩
      · have HK : Hid (srcB ss sep = false) := by unfold Hid srcB; rw [decide_eq_false h2]; simp
        go_enter Tryz.func80, Tryz.ntmps80
        go_wp2_with (go_at_call 108; refine HC.out.mono ?_; rintro e w' ⟨rfl, hw'⟩; have hw2 := hw'.symm; clear hw'; subst hw2)
        go_ret
        exact ⟨ret_bool HK.out.symm, rfl⟩
    · have h4' : namesB ss = false := by simpa using h4
      clear h4
      have HK : Hid (srcB ss sep = false) := by unfold Hid srcB; rw [h4']; simp
      go_enter Tryz.func80, Tryz.ntmps80
      go_wp2_with (go_at_call 108; refine HC.out.mono ?_; rintro e w' ⟨rfl, hw'⟩; have hw2 := hw'.symm; clear hw'; subst hw2)
      go_ret
      exact ⟨ret_bool HK.out.symm, rfl⟩
  · have HK : Hid (srcB ss sep = false) := by unfold Hid srcB; rw [HN.out, decide_eq_false h1]; rfl
    go_enter Tryz.func80, Tryz.ntmps80
    go_wp2
    go_ret
    exact ⟨ret_bool HK.out.symm, rfl⟩

/-- A rule in its box. -/
structure Rx (w : World) (r : Rule) (n c : Nat) (a : Option Addr) (x : World) : Prop where
  one : x.heap[w.heap.size]? = some (.cells #[.int .i64 r.act, .slice a n c, .string r.sep, .string r.pat, .string r.tgt, .string r.val, .int .i64 r.md] 63)
  txt : HasT x a r.from'
  bel : Below w.heap.size w x
theorem Rx.below {w : World} {r : Rule} {n c : Nat} {a : Option Addr} {x y : World} (h : Rx w r n c a x) (hb : Below x.heap.size x y) : Rx w r n c a y :=
  ⟨kept_at h.one hb, h.txt.below hb, h.bel.trans (hb.mono h.bel.size)⟩
theorem Rx.new {w : World} {r : Rule} {n c : Nat} {a : Option Addr} (hr : HasT w a r.from') : Rx w r n c a (w.alloc (.cells #[.int .i64 r.act, .slice a n c, .string r.sep, .string r.pat, .string r.tgt, .string r.val, .int .i64 r.md] 63)) := by
  have hbl := (Below.refl w.heap.size w).alloc (Nat.le_refl _) (.cells #[.int .i64 r.act, .slice a n c, .string r.sep, .string r.pat, .string r.tgt, .string r.val, .int .i64 r.md] 63)
  exact ⟨new_at _ _, hr.below hbl, hbl⟩
end Go.Proofs.YtcknlidbjnmbjaaGreatDoor.Rel
