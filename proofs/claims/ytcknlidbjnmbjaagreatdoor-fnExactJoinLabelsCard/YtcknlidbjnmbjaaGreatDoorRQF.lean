/- Lists of rules: whether they are good: the model's l4Rules. -/
import Derived.Test.YtcknlidbjnmbjaaGreatDoorRQA
import Derived.Test.YtcknlidbjnmbjaaGreatDoorRRe
import Derived.Test.YtcknlidbjnmbjaaGreatDoorRRd
namespace Go.Proofs.YtcknlidbjnmbjaaGreatDoor.Rul
open Go.RowKit Go.Proofs.YtcknlidbjnmbjaaGreatDoor.Fil Go.Proofs.YtcknlidbjnmbjaaGreatDoor.Rel

/-- The rules are not too many, and each is good. -/
def gdQ (qs : List Q) : Bool := decide (qs.length ≤ 30 ∧ ∀ i, i < qs.length → goodR (qs.getD i q0).r = true)
theorem gdQ_many {qs : List Q} (h : 30 < qs.length) : gdQ qs = false := by
  unfold gdQ; rw [decide_eq_false]; omega
theorem gdQ_bad {qs : List Q} {k : Nat} (hk : k < qs.length) (h : goodR (qs.getD k q0).r = false) : gdQ qs = false := by
  unfold gdQ; rw [decide_eq_false]
  intro h2
  have := h2.2 k hk
  rw [h] at this; cases this
theorem gdQ_all {qs : List Q} (h0 : qs.length ≤ 30) (h : ∀ i, i < qs.length → goodR (qs.getD i q0).r = true) : gdQ qs = true := by
  unfold gdQ; exact decide_eq_true ⟨h0, h⟩
set_option maxHeartbeats 2000000 in
theorem f31 (a : Option Addr) (n c : Nat) (qs : List Q) (w : World) (hn : qs.length = n) (hb : n ≤ 1048576) (hr : HasR w a qs) (hz : SmlQ qs) :
    Calls Tryz.prog 31 #[.slice a n c] w fun e w' => e = .returned (.bool (gdQ qs)) ∧ Below w.heap.size w w' := by
  have HN := hid hn
  have HR := hid hr
  have HZ := hid hz
  clear hn hr hz
  by_cases h30 : 30 < n
  · have HG : Hid (gdQ qs = false) := gdQ_many (by rw [HN.out]; exact h30)
    go_enter Tryz.func31, Tryz.ntmps31
    go_wp2
    go_ret
    exact ⟨ret_bool HG.out.symm, Below.refl _ _⟩
  go_enter Tryz.func31, Tryz.ntmps31
  go_wp2
  go_loopw [10] (fun i wr => ∃ k : Nat, k ≤ n ∧ i = .int .i64 k ∧ Hid (∀ i, i < k → goodR (qs.getD i q0).r = true) ∧ Hid (Below w.heap.size w wr)) (fun i _ => n - (intOf i).toNat)
  case atStart => exact ⟨0, Nat.zero_le _, rfl, fun i hi => by omega, Below.refl _ _⟩
  case round =>
    obtain ⟨k, hk, rfl, HU, HX⟩ := hrel
    by_cases hlt : k < n
    · obtain ⟨b, off, rfl, hbl, c0, c1, c2, c3, c4, c5, c6, hT⟩ := (HR.out).at7 k (by rw [HN.out]; exact hlt)
      have d0 := (HX.out.cell (p := ⟨b, off + k * 7, none⟩) hbl).trans c0
      have d1 := (HX.out.cell (p := ⟨b, off + k * 7 + 1, none⟩) hbl).trans c1
      have d2 := (HX.out.cell (p := ⟨b, off + k * 7 + 2, none⟩) hbl).trans c2
      have d3 := (HX.out.cell (p := ⟨b, off + k * 7 + 3, none⟩) hbl).trans c3
      have d4 := (HX.out.cell (p := ⟨b, off + k * 7 + 4, none⟩) hbl).trans c4
      have d5 := (HX.out.cell (p := ⟨b, off + k * 7 + 5, none⟩) hbl).trans c5
      have d6 := (HX.out.cell (p := ⟨b, off + k * 7 + 6, none⟩) hbl).trans c6
      have HT := hid (hT.below HX.out)
      have HS := hid (HZ.out k (by rw [HN.out]; exact hlt))
      have HNo : Hid (goodR (qs.getD k q0).r = false → gdQ qs = false) := fun h => gdQ_bad (by rw [HN.out]; exact hlt) h
      have HUs : Hid (goodR (qs.getD k q0).r = true → ∀ i, i < k + 1 → goodR (qs.getD i q0).r = true) := by
        intro h i hi
        by_cases e : i = k
        · subst e; exact h
        · exact HU.out i (by omega)
      clear c0 c1 c2 c3 c4 c5 c6 hT hbl
      generalize qs.getD k q0 = q at *
      obtain ⟨r, aq, cq⟩ := q
      obtain ⟨wb, hwb⟩ : ∃ wb, wb = wr.alloc (.cells #[.int .i64 r.act, .slice aq r.from'.length cq, .string r.sep, .string r.pat, .string r.tgt, .string r.val, .int .i64 r.md] 63) := ⟨_, rfl⟩
      have HBb : Hid (Below wr.heap.size wr wb) := by rw [hwb]; exact (Below.refl _ _).alloc (Nat.le_refl _) _
      have HXb := hid (HX.out.trans (HBb.out.mono HX.out.size))
      have HTb := hid (HT.out.below HBb.out)
      have i1 : (k : Int) < (n : Int) := by omega
      go_wp2_with fail
      rw [← hwb]
      refine (f49 r aq r.from'.length cq _ rfl HTb.out HS.out).mono ?_
      rintro e w2 ⟨rfl, hb2⟩
      have HX2 := hid (HXb.out.trans (hb2.mono HXb.out.size))
      clear hb2 d0 d1 d2 d3 d4 d5 d6 hwb
      cases hg : goodR r
      · have HG := hid (HNo.out hg)
        go_wp2
        go_ret
        exact ⟨ret_bool HG.out.symm, HX2.out⟩
      · have HU2 := hid (HUs.out hg)
        go_wp2
        go_roundw
        case rel => exact ⟨k + 1, by omega, by go_num, HU2.out, HX2.out⟩
        case measure => simp [intOf]; omega
    · have HG : Hid (gdQ qs = true) := gdQ_all (by have := HN.out; omega) (fun i hi => HU.out i (by have := HN.out; omega))
      go_wp2
      go_ret
      exact ⟨ret_bool HG.out.symm, HX.out⟩
end Go.Proofs.YtcknlidbjnmbjaaGreatDoor.Rul
/- Good rules: what the program's GoodRelabel comes to, where the table of shapes reads as its text lays it. -/
namespace Go.Proofs.YtcknlidbjnmbjaaGreatDoor.Rel
open Go.RowKit Go.Proofs.YtcknlidbjnmbjaaGreatDoor.Fil

def tabL : List Value := [.string ⟨#[]⟩, .bool false, .bool false, .bool false, .bool false, .bool false, .string ⟨#[107, 101, 101, 112]⟩, .bool true, .bool true, .bool false, .bool false, .bool false, .string ⟨#[100, 114, 111, 112]⟩, .bool true, .bool true, .bool false, .bool false, .bool false, .string ⟨#[115, 101, 116]⟩, .bool true, .bool true, .bool true, .bool true, .bool false, .string ⟨#[109, 111, 100]⟩, .bool true, .bool false, .bool true, .bool false, .bool true, .string ⟨#[109, 97, 112]⟩, .bool false, .bool true, .bool false, .bool true, .bool false, .string ⟨#[107, 101, 101, 112, 110, 97, 109, 101, 115]⟩, .bool false, .bool true, .bool false, .bool false, .bool false, .string ⟨#[100, 114, 111, 112, 110, 97, 109, 101, 115]⟩, .bool false, .bool true, .bool false, .bool false, .bool false, .string ⟨#[108, 111, 119, 101, 114]⟩, .bool true, .bool false, .bool true, .bool false, .bool false]
/-- The table of shapes, as it is laid. -/
def Tab (w : World) : Prop := 0 < w.heap.size ∧ ∀ i, i < 54 → w.cell? ⟨0, i, none⟩ = tabL[i]?
theorem Tab.below {w w' : World} (h : Tab w) (hb : Below w.heap.size w w') : Tab w' := ⟨Nat.lt_of_lt_of_le h.1 hb.size, fun i hi => (hb.cell (p := ⟨0, i, none⟩) h.1).trans (h.2 i hi)⟩
theorem em_fil {v : ByteArray} (h : em v = true) : filB v = true := by
  unfold em at h
  rw [List.isEmpty_iff, ByteArray.toList_eq] at h
  have : v.size = 0 := by
    have := congrArg List.length h
    simpa using this
  unfold filB
  rw [h, this]
  rfl
theorem good_nokind {r : Rule} (h : kindB r = false) : goodR r = false := by unfold goodR; rw [h]; simp
theorem good_fin {r : Rule} (hA : 1 ≤ r.act ∧ r.act ≤ 8) (h : kindB r = filB r.val) : goodR r = (srcB r.from' r.sep && (Pat.patB r.pat && filB r.val)) := by
  unfold goodR baseB srcB
  rw [h, decide_eq_true hA]
  cases decide (r.from'.length ≤ 10) <;> cases decide (r.sep.size ≤ 10) <;> cases pr r.sep <;> cases Pat.patB r.pat <;> cases namesB r.from' <;> rfl
theorem good_out {r : Rule} (h : ¬ (1 ≤ r.act ∧ r.act ≤ 8)) : goodR r = false := by
  apply good_base; unfold baseB; rw [decide_eq_false h]; rfl

/-- The rule in its box, and its action's shape in another one. -/
structure Sx (w : World) (r : Rule) (n c : Nat) (a : Option Addr) (sh : Array Value) (x : World) : Prop where
  one : x.heap[w.heap.size]? = some (.cells #[.int .i64 r.act, .slice a n c, .string r.sep, .string r.pat, .string r.tgt, .string r.val, .int .i64 r.md] 63)
  two : x.heap[w.heap.size + 1]? = some (.cells sh 103)
  txt : HasT x a r.from'
  bel : Below w.heap.size w x
theorem Sx.below {w : World} {r : Rule} {n c : Nat} {a : Option Addr} {sh : Array Value} {x y : World} (h : Sx w r n c a sh x) (hb : Below x.heap.size x y) : Sx w r n c a sh y :=
  ⟨kept_at h.one hb, kept_at h.two hb, h.txt.below hb, h.bel.trans (hb.mono h.bel.size)⟩
theorem Sx.new {w : World} {r : Rule} {n c : Nat} {a : Option Addr} (sh : Array Value) (hr : HasT w a r.from') : Sx w r n c a sh ((w.alloc (.cells #[.int .i64 r.act, .slice a n c, .string r.sep, .string r.pat, .string r.tgt, .string r.val, .int .i64 r.md] 63)).alloc (.cells sh 103)) := by
  have hbl := ((Below.refl w.heap.size w).alloc (Nat.le_refl _) (.cells #[.int .i64 r.act, .slice a n c, .string r.sep, .string r.pat, .string r.tgt, .string r.val, .int .i64 r.md] 63)).alloc (by simp) (.cells sh 103)
  obtain ⟨k1, k2⟩ := two_new w (.cells #[.int .i64 r.act, .slice a n c, .string r.sep, .string r.pat, .string r.tgt, .string r.val, .int .i64 r.md] 63) (.cells sh 103)
  exact ⟨k1, k2, hr.below hbl, hbl⟩
theorem cells6 {w : World} {b : Nat} {x0 x1 x2 x3 x4 x5 : Value} {t : TypeId} (h : w.heap[b]? = some (.cells #[x0, x1, x2, x3, x4, x5] t)) :
    w.cell? ⟨b, 0, none⟩ = some x0 ∧ w.cell? ⟨b, 1, none⟩ = some x1 ∧ w.cell? ⟨b, 2, none⟩ = some x2 ∧ w.cell? ⟨b, 3, none⟩ = some x3 ∧ w.cell? ⟨b, 4, none⟩ = some x4 ∧ w.cell? ⟨b, 5, none⟩ = some x5 := by
  simp [World.cell?, h]
end Go.Proofs.YtcknlidbjnmbjaaGreatDoor.Rel
