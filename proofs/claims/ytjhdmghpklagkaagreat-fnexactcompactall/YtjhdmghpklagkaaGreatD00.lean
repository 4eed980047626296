/- Lists of samples: what szSampleS, toSampleS and eqSampleS come to. -/
import Derived.Test.YtjhdmghpklagkaaGreatRows
import Derived.WalkKit
import Derived.ProofKit
import Derived.Handy
import Derived.BigQuiet
import Derived.Deep.QuietTactic
import Derived.Deep.RegionHeld3
import Derived.Deep.SlicePairs
import Derived.OpenShut
import Derived.ChangeOld
import Derived.Below
import Derived.WalkSmall
namespace Go.Proofs.YtjhdmghpklagkaaGreat.Smp
open Go.RowKit

theorem hid {p : Prop} (h : p) : Hid p := h
theorem ret_bool {a b : Bool} (h : a = b) : Ending.returned (.bool a) = .returned (.bool b) := by rw [h]
theorem ret_int {k : IntKind} {a b : Int} (h : a = b) : Ending.returned (.int k a) = .returned (.int k b) := by rw [h]
theorem below_drewN {B : Nat} {a w : World} (h : Below B a w) (q : Nat) : Below B a (w.drewN q) := ⟨h.os, h.tape, h.output, h.size, h.block⟩
theorem below_undrew {B : Nat} {a w : World} (h : Below B a.drew w) : Below B a w := ⟨h.os, h.tape, h.output, h.size, h.block⟩
abbrev Sm := Int × Int
def e0 : Sm := (0, 0)

def HasS (w : World) (a : Option Addr) (ls : List Sm) : Prop :=
  ls = [] ∨ ∃ b off, a = some ⟨b, off, none⟩ ∧ b < w.heap.size ∧ ∀ i, i < ls.length → w.cell? ⟨b, off + i * 2, none⟩ = some (.int .i64 (ls.getD i e0).1) ∧ w.cell? ⟨b, off + i * 2 + 1, none⟩ = some (.int .i64 (ls.getD i e0).2)

theorem HasS.below {w w' : World} {a : Option Addr} {ls : List Sm} (h : HasS w a ls) (hb : Below w.heap.size w w') : HasS w' a ls := by
  rcases h with h | ⟨b, off, h1, h2, h3⟩
  · exact .inl h
  · exact .inr ⟨b, off, h1, Nat.lt_of_lt_of_le h2 hb.size, fun i hi => ⟨(hb.cell (by exact h2)).trans (h3 i hi).1, (hb.cell (by exact h2)).trans (h3 i hi).2⟩⟩
theorem HasS.alloc {w : World} {a : Option Addr} {ls : List Sm} (h : HasS w a ls) (o : Obj) : HasS (w.alloc o) a ls := h.below ((Below.refl _ _).alloc (Nat.le_refl _) o)
def In64 (x : Int) : Prop := -9223372036854775808 ≤ x ∧ x ≤ 9223372036854775807
def Fit (ls : List Sm) : Prop := ∀ i, In64 (ls.getD i e0).1 ∧ In64 (ls.getD i e0).2

def flat (L : List Sm) : List Value := L.flatMap fun p => [.int .i64 p.1, .int .i64 p.2]
theorem flat_cons (p : Sm) (L : List Sm) : flat (p :: L) = .int .i64 p.1 :: .int .i64 p.2 :: flat L := rfl
theorem flat_append (L K : List Sm) : flat (L ++ K) = flat L ++ flat K := by simp [flat]
theorem flat_len (L : List Sm) : (flat L).length = L.length * 2 := by
  induction L with
  | nil => rfl
  | cons p L ih => rw [flat_cons]; simp [ih]; omega
theorem flat_get : ∀ (L : List Sm) (i : Nat), i < L.length → (flat L)[i * 2]? = some (.int .i64 (L.getD i e0).1) ∧ (flat L)[i * 2 + 1]? = some (.int .i64 (L.getD i e0).2) := by
  intro L
  induction L with
  | nil => intro i h; simp at h
  | cons p L ih =>
    intro i h
    cases i with
    | zero => exact ⟨rfl, rfl⟩
    | succ i =>
      have := ih i (by simpa using h)
      rw [flat_cons, show (i + 1) * 2 = i * 2 + 1 + 1 from by omega, show i * 2 + 1 + 1 + 1 = (i * 2 + 1) + 1 + 1 from rfl]
      simpa using this
theorem flat_set : ∀ (L : List Sm) (i : Nat) (s t : Int), i < L.length → ((flat L).set (i * 2) (.int .i64 s)).set (i * 2 + 1) (.int .i64 t) = flat (L.set i (s, t)) := by
  intro L
  induction L with
  | nil => intro i s t h; simp at h
  | cons p L ih =>
    intro i s t h
    cases i with
    | zero => rfl
    | succ i =>
      have := ih i s t (by simpa using h)
      rw [List.set_cons_succ, flat_cons, flat_cons, ← this, show (i + 1) * 2 = i * 2 + 1 + 1 from by omega, show i * 2 + 1 + 1 + 1 = (i * 2 + 1) + 1 + 1 from rfl]
      rfl
theorem made_two (n : Nat) : (madeCells #[.int .i64 0, .int .i64 0] (n * 2)).toList = flat (List.replicate n e0) := by
  apply List.ext_getElem?
  intro j
  by_cases hj : j < n * 2
  · have e1 : (madeCells #[.int .i64 0, .int .i64 0] (n * 2)).toList[j]? = some (.int .i64 0) := by
      have h2 : j % 2 = 0 ∨ j % 2 = 1 := by omega
      unfold madeCells
      simp [hj]
      rcases h2 with h | h <;> rw [h] <;> rfl
    rw [e1]
    obtain ⟨g0, g1⟩ := flat_get (List.replicate n e0) (j / 2) (by simp; omega)
    have h2 : (List.replicate n e0).getD (j / 2) e0 = e0 := by
      rw [List.getD_eq_getElem?_getD, List.getElem?_replicate]; split <;> rfl
    rw [h2] at g0 g1
    rcases (show j = j / 2 * 2 ∨ j = j / 2 * 2 + 1 by omega) with h | h
    · rw [h]; exact g0.symm
    · rw [h]; exact g1.symm
  · rw [List.getElem?_eq_none (by simp [size_madeCells]; omega), List.getElem?_eq_none (by rw [flat_len]; simp; omega)]

theorem own_below {w w' : World} {base e size n : Nat} {v : Value} {xs : List Value} (h : w.ownsRow base e size v n xs) (hb : Below w.heap.size w w') : w'.ownsRow base e size v n xs :=
  h.kept (row := none) ⟨hb.os, hb.tape, hb.output, hb.size, fun k hk _ => hb.block k hk⟩ (by cases hv : v.ownBlock <;> simp)
theorem HasS.own {w : World} {base c : Nat} {a : Option Addr} {ls : List Sm} (h : w.ownsRow base 119 2 (.slice a ls.length c) ls.length (flat ls)) : HasS w a ls := by
  rcases h.2 with ⟨h1, h2⟩ | ⟨g, cap, cur, h1, _⟩
  · exact .inl (List.eq_nil_of_length_eq_zero h2)
  · simp only [Value.slice.injEq] at h1
    obtain ⟨rfl, -, rfl⟩ := h1
    have hl := h.1
    rw [flat_len] at hl
    refine .inr ⟨g, 0, rfl, (h.lt g rfl).2, fun i hi => ?_⟩
    obtain ⟨h0, h1⟩ := flat_get ls i hi
    rw [Nat.zero_add]
    exact ⟨(h.cellAt (i * 2) (by omega)).trans h0, (h.cellAt (i * 2 + 1) (by omega)).trans h1⟩

theorem infoS : (Tryz.prog.info? 119).map (fun i => (i.zero, i.size, i.bytes)) = some (some (.agg #[.int .i64 0, .int .i64 0]), 2, 16) := by kernel_rfl

theorem step_set (ls : List Sm) (n k : Nat) (hn : ls.length = n) (hk : k < n) : (ls.take k ++ List.replicate (n - k) e0).set k (ls.getD k e0) = ls.take (k + 1) ++ List.replicate (n - (k + 1)) e0 := by
  have hl : (ls.take k).length = k := by simp; omega
  rw [List.set_append_right _ _ (by omega), hl, Nat.sub_self, show n - k = (n - (k + 1)) + 1 from by omega, List.replicate_succ, List.set_cons_zero, List.take_succ_eq_append_getElem (by omega), List.append_assoc]
  congr 2
  simp [hn, hk]
theorem step_len (ls : List Sm) (n k : Nat) (hn : ls.length = n) (hk : k ≤ n) : (ls.take k ++ List.replicate (n - k) e0).length = n := by simp; omega

theorem f140 (a : Option Addr) (n c : Nat) (x : Int) (w : World) (hmax : n ≤ maxLen) (hx0 : 0 ≤ x) (hx1 : x ≤ 1048576) :
    Calls Tryz.prog 140 #[.slice a n c, .int .i64 x] w fun e w' => e = .returned (.int .i64 (if x < n then -1 else x - n)) ∧ w' = w := by
  unfold maxLen at hmax
  by_cases h : x < n
  · go_enter Tryz.func140, Tryz.ntmps140
    go_wp2
    go_ret
    exact ⟨rfl, rfl⟩
  · go_enter Tryz.func140, Tryz.ntmps140
    go_wp2
    go_ret
    exact ⟨rfl, rfl⟩

theorem f170 (s t : Int) (w : World) : Calls Tryz.prog 170 #[.agg #[.int .i64 s, .int .i64 t]] w fun e w' => e = .returned (.agg #[.int .i64 s, .int .i64 t]) ∧ Below w.heap.size w w' := by
  go_enter Tryz.func170, Tryz.ntmps170
  go_wp2
  refine bodyPost_ret (v := .agg #[.int .i64 s, .int .i64 t]) (by simp [results, Tryz.results170, go_sem]) rfl ⟨rfl, ?_⟩
  exact (((Below.refl w.heap.size w).alloc (Nat.le_refl _) _).alloc (by simp) _).alloc (by simp; omega) _

set_option maxHeartbeats 1000000 in
theorem f143 (a : Option Addr) (c : Nat) (ls : List Sm) (w : World) (hb : ls.length ≤ 1048576) (hr : HasS w a ls) :
    Calls Tryz.prog 143 #[.slice a ls.length c] w fun e w' => e = .returned (.slice (some ⟨w.heap.size, 0, none⟩) ls.length ls.length) ∧
      w'.ownsRow w.heap.size 119 2 (.slice (some ⟨w.heap.size, 0, none⟩) ls.length ls.length) ls.length (flat ls) ∧ Below w.heap.size w w' := by
  obtain ⟨i0, hi, hz0, hz1, hz2⟩ := info_parts infoS
  generalize hn : ls.length = n at *
  have HN : Hid (ls.length = n) := hn
  clear hn
  go_enter Tryz.func143, Tryz.ntmps143
  go_wp2_with (at_make; refine wpList_make_full _ rfl _ _ 78 rfl w.heap.size 119 i0 (.agg #[.int .i64 0, .int .i64 0]) 2 Tryz.underlying78 hi hz0 hz1 _ _ _ _ n rfl rfl rfl rfl ?b2 ?b3 (Nat.le_refl _) ?_)
  case b2 => rw [hz2]; omega
  case b3 => unfold maxLen; omega
  intro w0 hown0 hgrow0
  have hown1 : Hid (w0.ownsRow w.heap.size 119 2 (.slice (some ⟨w.heap.size, 0, none⟩) n n) n (flat (List.replicate n e0))) := by
    rw [← made_two]; exact hown0
  have hb0 := hid ((Below.refl w.heap.size w).grown hgrow0 (Nat.le_refl _) (fun k h => by cases h))
  clear hown0 hgrow0
  go_wp2
  go_loopw [4] (fun i wr => ∃ k : Nat, k ≤ n ∧ i = .int .i64 k ∧ wr.ownsRow w.heap.size 119 2 (.slice (some ⟨w.heap.size, 0, none⟩) n n) n (flat (ls.take k ++ List.replicate (n - k) e0)) ∧ Below w.heap.size w wr)
    (fun i _ => n - (intOf i).toNat)
  case atStart => exact ⟨0, Nat.zero_le _, rfl, by simpa using hown1.out, hb0.out⟩
  case round =>
    obtain ⟨k, hk, rfl, hown, hnx⟩ := hrel
    by_cases hlt : k < n
    · rcases hr with hr | ⟨b, off, rfl, hbl, hc⟩
      · exact absurd HN.out (by rw [hr]; simp; omega)
      · obtain ⟨c0, c1⟩ := hc k (by rw [HN.out]; exact hlt)
        have d0 := (hnx.cell (p := ⟨b, off + k * 2, none⟩) hbl).trans c0
        have d1 := (hnx.cell (p := ⟨b, off + k * 2 + 1, none⟩) hbl).trans c1
        have HO := hid hown
        have HX := hid hnx
        have HST := hid (step_set ls n k HN.out hlt)
        have HSL := hid (step_len ls n k HN.out hk)
        clear hc c0 c1 hown hnx hown1 hb0
        generalize hp : ls.getD k e0 = p at *
        obtain ⟨s, t⟩ := p
        clear hp
        go_wp2_with fail
        refine (f170 s t _).mono ?_
        rintro e w2 ⟨rfl, hb2⟩
        have HO2 := hid (own_below HO.out hb2)
        have HX2 := hid (HX.out.trans (hb2.mono HX.out.size))
        have f0 := HO2.out.frozenAt (k * 2)
        have f1 := HO2.out.frozenAt (k * 2 + 1)
        have e0' := HO2.out.cellAt (k * 2) (by omega)
        have e1' := HO2.out.cellAt (k * 2 + 1) (by omega)
        obtain ⟨y0, y1⟩ := flat_get _ k (by rw [HSL.out]; exact hlt)
        rw [y0] at e0'
        rw [y1] at e1'
        have HS2 := hid (((HO2.out.stored (k * 2) (.int .i64 s)).1.stored (k * 2 + 1) (.int .i64 t)).1)
        clear hb2 y0 y1
        go_wp2
        go_roundw
        case rel =>
          refine ⟨k + 1, by omega, by go_num, ?_, (HX2.out.setCell (Nat.le_refl _) _).setCell (Nat.le_refl _) _⟩
          have := HS2.out
          rw [flat_set _ k s t (by rw [HSL.out]; exact hlt), HST.out] at this
          exact this
        case measure => simp [intOf]; omega
    · go_wp2
      go_ret
      have : k = n := by omega
      subst this
      refine ⟨rfl, ?_, hnx⟩
      have e := HN.out
      simpa [← e] using hown

theorem f138 (s t : Int) (w : World) : Calls Tryz.prog 138 #[.agg #[.int .i64 s, .int .i64 t], .agg #[.int .i64 s, .int .i64 t]] w fun e w' => e = .returned (.bool true) ∧ Below w.heap.size w w' := by
  have hb := hid (((Below.refl w.heap.size w).alloc (Nat.le_refl _) (.cells #[.int .i64 s, .int .i64 t] 119)).alloc (by simp) (.cells #[.int .i64 s, .int .i64 t] 119))
  go_enter Tryz.func138, Tryz.ntmps138
  go_wp2
  go_ret
  exact ⟨rfl, hb.out⟩

set_option maxHeartbeats 1000000 in
theorem f98 (a a' : Option Addr) (c c' : Nat) (ls : List Sm) (w : World) (hb : ls.length ≤ 1048576) (hr : HasS w a ls) (hr' : HasS w a' ls) :
    Calls Tryz.prog 98 #[.slice a ls.length c, .slice a' ls.length c'] w fun e w' => e = .returned (.bool true) ∧ Below w.heap.size w w' := by
  generalize hn : ls.length = n at *
  have HN := hid hn
  clear hn
  go_enter Tryz.func98, Tryz.ntmps98
  go_wp2
  go_loopw [5] (fun i wr => ∃ k : Nat, k ≤ n ∧ i = .int .i64 k ∧ Below w.heap.size w wr) (fun i _ => n - (intOf i).toNat)
  case atStart => exact ⟨0, Nat.zero_le _, rfl, Below.refl _ _⟩
  case round =>
    obtain ⟨k, hk, rfl, hnx⟩ := hrel
    have HX := hid hnx
    by_cases hlt : k < n
    · rcases hr with hr | ⟨b, off, rfl, hbl, hc⟩
      · exact absurd HN.out (by rw [hr]; simp; omega)
      rcases hr' with hr | ⟨b', off', rfl, hbl', hc'⟩
      · exact absurd HN.out (by rw [hr]; simp; omega)
      obtain ⟨c0, c1⟩ := hc k (by rw [HN.out]; exact hlt)
      obtain ⟨c0', c1'⟩ := hc' k (by rw [HN.out]; exact hlt)
      have d0 := (hnx.cell (p := ⟨b, off + k * 2, none⟩) hbl).trans c0
      have d1 := (hnx.cell (p := ⟨b, off + k * 2 + 1, none⟩) hbl).trans c1
      have d0' := (hnx.cell (p := ⟨b', off' + k * 2, none⟩) hbl').trans c0'
      have d1' := (hnx.cell (p := ⟨b', off' + k * 2 + 1, none⟩) hbl').trans c1'
      have i1 : (k : Int) < (n : Int) := by omega
      clear hc c0 c1 hc' c0' c1' hnx
      generalize ls.getD k e0 = p at *
      obtain ⟨s, t⟩ := p
      go_wp2_with fail
      go_region_with (go_at_call 138; refine (f138 s t _).mono ?_; rintro e w2 ⟨rfl, hb2⟩)
      all_goals
        have HX2 := hid (HX.out.trans ((below_undrew hb2).mono HX.out.size))
        clear hb2
        go_wp2
        go_roundw
        case rel => exact ⟨k + 1, by omega, by go_num, HX2.out⟩
        case measure => simp [intOf]; omega
    · go_wp2
      go_ret
      exact ⟨rfl, HX.out⟩
end Go.Proofs.YtjhdmghpklagkaaGreat.Smp
namespace Go.Proofs.YtjhdmghpklagkaaGreat.Smp
open Go.RowKit

def TimeP (t : Int) : Prop := 0 ≤ t ∧ t ≤ 1000000000000
instance (t : Int) : Decidable (TimeP t) := by unfold TimeP; infer_instance
def OkAt (ls : List Sm) (i : Nat) : Prop := TimeP (ls.getD i e0).1 ∧ (0 < i → (ls.getD (i - 1) e0).1 < (ls.getD i e0).1)
instance (ls : List Sm) (i : Nat) : Decidable (OkAt ls i) := by unfold OkAt; infer_instance
def GoodP (ls : List Sm) : Prop := ls.length ≤ 2000 ∧ ∀ i, i < ls.length → OkAt ls i
instance (ls : List Sm) : Decidable (GoodP ls) := by unfold GoodP; infer_instance
def goodS (ls : List Sm) : Bool := decide (GoodP ls)
def Upto (ls : List Sm) (k : Nat) : Prop := ∀ i, i < k → OkAt ls i
theorem Upto.succ {ls : List Sm} {k : Nat} (h : Upto ls k) (h1 : OkAt ls k) : Upto ls (k + 1) := by
  intro i hi
  by_cases e : i = k
  · subst e; exact h1
  · exact h i (by omega)
theorem good_no {ls : List Sm} {k : Nat} (hk : k < ls.length) (h : ¬ OkAt ls k) : goodS ls = false := decide_eq_false fun g => h (g.2 k hk)
theorem good_end {ls : List Sm} {k : Nat} (hk : ls.length ≤ k) (h : Upto ls k) : goodS ls = decide (ls.length ≤ 2000) := by
  unfold goodS
  rw [decide_eq_decide]
  exact ⟨fun g => g.1, fun g => ⟨g, fun i hi => h i (by omega)⟩⟩

theorem f101 (t : Int) (w : World) : Calls Tryz.prog 101 #[.int .i64 t] w fun e w' => e = .returned (.bool (decide (TimeP t))) ∧ w' = w := by
  by_cases h1 : 0 ≤ t
  · go_enter Tryz.func101, Tryz.ntmps101
    go_wp2
    go_ret
    exact ⟨ret_bool (by unfold TimeP; rw [Bool.eq_iff_iff]; simp [h1]), rfl⟩
  · go_enter Tryz.func101, Tryz.ntmps101
    go_wp2
    go_ret
    exact ⟨ret_bool (by symm; exact decide_eq_false fun h => absurd h.1 (by omega)), rfl⟩
theorem f106 (t : Int) (w : World) : Calls Tryz.prog 106 #[.int .i64 t] w fun e w' => e = .returned (.bool (decide (TimeP t))) ∧ w' = w := by
  by_cases h1 : 0 ≤ t
  · go_enter Tryz.func106, Tryz.ntmps106
    go_wp2
    go_ret
    exact ⟨ret_bool (by unfold TimeP; rw [Bool.eq_iff_iff]; simp [h1]), rfl⟩
  · go_enter Tryz.func106, Tryz.ntmps106
    go_wp2
    go_ret
    exact ⟨ret_bool (by symm; exact decide_eq_false fun h => absurd h.1 (by omega)), rfl⟩

set_option maxHeartbeats 2000000 in
theorem f87 (a : Option Addr) (c : Nat) (ls : List Sm) (w : World) (hmax : ls.length ≤ 1048576) (hr : HasS w a ls) :
    Calls Tryz.prog 87 #[.slice a ls.length c] w fun e w' => e = .returned (.bool (goodS ls)) ∧ Below w.heap.size w w' := by
  generalize hn : ls.length = n at *
  have HN := hid hn
  clear hn
  go_enter Tryz.func87, Tryz.ntmps87
  go_wp2
  go_loopw [7] (fun i wr => ∃ k : Nat, k ≤ n ∧ i = .int .i64 k ∧ Hid (Upto ls k) ∧ Below w.heap.size w wr) (fun i _ => n - (intOf i).toNat)
  case atStart => exact ⟨0, Nat.zero_le _, rfl, fun i hi => by omega, Below.refl _ _⟩
  case round =>
    obtain ⟨k, hk, rfl, hu, hnx⟩ := hrel
    have HX := hid hnx
    by_cases hlt : k < n
    · rcases hr with hr | ⟨b, off, rfl, hbl, hc⟩
      · exact absurd HN.out (by rw [hr]; simp; omega)
      obtain ⟨c0, c1⟩ := hc k (by rw [HN.out]; exact hlt)
      have d0 := (hnx.cell (p := ⟨b, off + k * 2, none⟩) hbl).trans c0
      have d1 := (hnx.cell (p := ⟨b, off + k * 2 + 1, none⟩) hbl).trans c1
      have HNo := hid (good_no (ls := ls) (k := k) (by rw [HN.out]; exact hlt))
      have HUs := hid (hu.out.succ (k := k))
      have lb : b < wr.heap.size := Nat.lt_of_lt_of_le hbl hnx.size
      have HQ : Hid (OkAt ls k ↔ TimeP (ls.getD k e0).1 ∧ (0 < k → (ls.getD (k - 1) e0).1 < (ls.getD k e0).1)) := Iff.rfl
      by_cases h1 : TimeP (ls.getD k e0).1
      · cases k with
        | zero =>
          clear hc c0 c1 hnx
          simp only [Nat.zero_mul, Nat.add_zero] at d0 d1
          generalize (ls.getD 0 e0).1 = s at *
          generalize (ls.getD 0 e0).2 = t at *
          have hd := decide_eq_true h1
          go_wp2
          go_quiet (first | (go_at_call 101; exact Calls.quiet_of_same (f101 s _)))
          go_wp2
          go_roundw
          case rel => exact ⟨1, by omega, by go_num, HUs.out (HQ.out.2 ⟨h1, fun h => by omega⟩), below_drewN (HX.out.alloc HX.out.size _) _⟩
          case measure => simp [intOf]; omega
        | succ j =>
          obtain ⟨p0, p1⟩ := hc j (by rw [HN.out]; omega)
          have q0 := (hnx.cell (p := ⟨b, off + j * 2, none⟩) hbl).trans p0
          simp only [Nat.add_sub_cancel] at HQ
          clear hc c0 c1 hnx p0 p1
          generalize (ls.getD (j + 1) e0).1 = s at *
          generalize (ls.getD (j + 1) e0).2 = t at *
          generalize (ls.getD j e0).1 = r at *
          have i1 : (j : Int) < (n : Int) := by omega
          have hd := decide_eq_true h1
          by_cases h3 : s ≤ r
          · go_wp2
            go_quiet (first | (go_at_call 101; exact Calls.quiet_of_same (f101 s _)))
            go_wp2
            go_ret
            exact ⟨ret_bool (HNo.out (fun h => by have := (HQ.out.1 h).2 (by omega); omega)).symm, below_drewN (HX.out.alloc HX.out.size _) _⟩
          · go_wp2
            go_quiet (first | (go_at_call 101; exact Calls.quiet_of_same (f101 s _)))
            go_wp2
            go_roundw
            case rel => exact ⟨j + 1 + 1, by omega, by go_num, HUs.out (HQ.out.2 ⟨h1, fun _ => by omega⟩), below_drewN (HX.out.alloc HX.out.size _) _⟩
            case measure => simp [intOf]; omega
      · clear hc c0 c1 hnx
        generalize (ls.getD k e0).1 = s at *
        generalize (ls.getD k e0).2 = t at *
        have hd := decide_eq_false h1
        go_wp2
        go_quiet (first | (go_at_call 101; exact Calls.quiet_of_same (f101 s _)))
        go_wp2
        go_ret
        exact ⟨ret_bool (HNo.out (fun h => h1 (HQ.out.1 h).1)).symm, below_drewN (HX.out.alloc HX.out.size _) _⟩
    · have HE := hid (good_end (k := k) (by rw [HN.out]; omega) hu.out)
      go_wp2
      go_ret
      exact ⟨ret_bool (by rw [HE.out, HN.out]; exact decide_eq_decide.2 (by omega)), HX.out⟩

def lastT (ls : List Sm) (k : Nat) : Int := if k = 0 then -1 else (ls.getD (k - 1) e0).1
theorem lastT_zero (ls : List Sm) : lastT ls 0 = -1 := rfl
theorem lastT_succ (ls : List Sm) (k : Nat) : lastT ls (k + 1) = (ls.getD k e0).1 := by simp [lastT]
theorem ok_last {ls : List Sm} {k : Nat} (h : Upto ls k) : OkAt ls k ↔ lastT ls k < (ls.getD k e0).1 ∧ (ls.getD k e0).1 ≤ 1000000000000 := by
  unfold OkAt TimeP
  cases k with
  | zero => rw [lastT_zero]; constructor <;> intro h <;> simp at * <;> omega
  | succ j =>
    rw [lastT_succ, Nat.add_sub_cancel]
    have := (h j (by omega)).1
    unfold TimeP at this
    constructor
    · intro g; exact ⟨g.2 (by omega), g.1.2⟩
    · intro g; exact ⟨⟨by omega, g.2⟩, fun _ => g.1⟩

set_option maxHeartbeats 2000000 in
theorem f95 (a : Option Addr) (c : Nat) (ls : List Sm) (w : World) (hmax : ls.length ≤ maxLen) (hr : HasS w a ls) :
    Calls Tryz.prog 95 #[.slice a ls.length c] w fun e w' => e = .returned (.bool (goodS ls)) ∧ Below w.heap.size w w' := by
  generalize hn : ls.length = n at *
  have HN := hid hn
  clear hn
  unfold maxLen at hmax
  by_cases h20 : n ≤ 2000
  · go_enter Tryz.func95, Tryz.ntmps95
    go_wp2
    go_loopw [3, 11] (fun sl i wr => ∃ (k : Nat) (l : Int), k ≤ n ∧ i = .int .i64 k ∧ sl = .int .i64 l ∧ Hid (l = lastT ls k) ∧ Hid (Upto ls k) ∧ Below w.heap.size w wr) (fun _ i _ => n - (intOf i).toNat)
    case atStart => exact ⟨0, -1, Nat.zero_le _, rfl, rfl, (lastT_zero ls).symm, fun i hi => by omega, Below.refl _ _⟩
    case round =>
      obtain ⟨k, l, hk, rfl, rfl, hl, hu, hnx⟩ := hrel
      have HX := hid hnx
      by_cases hlt : k < n
      · rcases hr with hr | ⟨b, off, rfl, hbl, hc⟩
        · exact absurd HN.out (by rw [hr]; simp; omega)
        obtain ⟨c0, c1⟩ := hc k (by rw [HN.out]; exact hlt)
        have d0 := (hnx.cell (p := ⟨b, off + k * 2, none⟩) hbl).trans c0
        have d1 := (hnx.cell (p := ⟨b, off + k * 2 + 1, none⟩) hbl).trans c1
        have HNo := hid (good_no (ls := ls) (k := k) (by rw [HN.out]; exact hlt))
        have HUs := hid (hu.out.succ (k := k))
        have HQ := hid (ok_last hu.out)
        have HL := hid (lastT_succ ls k)
        have lb : b < wr.heap.size := Nat.lt_of_lt_of_le hbl hnx.size
        clear hc c0 c1 hnx
        generalize (ls.getD k e0).1 = s at *
        generalize (ls.getD k e0).2 = t at *
        by_cases h1 : s ≤ l
        · go_wp2
          go_ret
          exact ⟨ret_bool (HNo.out (fun h => by have := (HQ.out.1 h).1; have := hl.out; omega)).symm, HX.out.alloc HX.out.size _⟩
        · by_cases h2 : 1000000000000 < s
          · go_wp2
            go_ret
            exact ⟨ret_bool (HNo.out (fun h => by have := (HQ.out.1 h).2; omega)).symm, HX.out.alloc HX.out.size _⟩
          · go_wp2
            go_roundw
            case rel => exact ⟨k + 1, s, by omega, by go_num, rfl, HL.out.symm, HUs.out (HQ.out.2 ⟨by have := hl.out; omega, by omega⟩), HX.out.alloc HX.out.size _⟩
            case measure => simp [intOf]; omega
      · have HE := hid (good_end (k := k) (by rw [HN.out]; omega) hu.out)
        go_wp2
        go_ret
        exact ⟨ret_bool (by rw [HE.out, HN.out]; simp [h20]), HX.out⟩
  · go_enter Tryz.func95, Tryz.ntmps95
    go_wp2
    go_ret
    exact ⟨ret_bool (by symm; exact decide_eq_false fun g => h20 (by rw [← HN.out]; exact g.1)), Below.refl _ _⟩
end Go.Proofs.YtjhdmghpklagkaaGreat.Smp
namespace Go.Proofs.YtjhdmghpklagkaaGreat.Smp
open Go.ChangeShapes Go.WideShapes Go.ChangeAt Go.RowKit

theorem add_none (b off j : Nat) : (⟨b, off, none⟩ : Addr).add j = ⟨b, off + j, none⟩ := by
  by_cases h : j = 0
  · subst h; simp [Addr.add]
  · simp [Addr.add, h]
theorem in64_zero : In64 0 := ⟨by omega, by omega⟩
theorem fit_nil : Fit [] := fun i => by simpa [e0] using in64_zero

theorem open_samples {H : Type} {enc : TypeId × Value → H} {W : World} {a0 : Option Addr} {len0 cap0 : Nat} {d : DataW H} {p : List MemPlace} (h : DataW.Trod enc Tryz.prog W 0 (fun _ => true) true 122 (.slice a0 len0 cap0) d p) :
    ∃ ls : List Sm, ls.length = len0 ∧ len0 ≤ maxLen ∧ HasS W a0 ls ∧ Fit ls := by
  obtain ⟨fuel, hf⟩ := h
  rcases Deep.open_slice_pairs Tryz.underlying122 Tryz.underlying187 (by kernel_rfl) rfl rfl (by kernel_rfl) (by kernel_rfl) hf with ⟨hcs, _⟩ | ⟨a, len, cap, m, n, V0, V1, D0, D1, P0, P1, hcs, _, hl, hm, hmm, _, hx⟩
  · simp [Value.cells] at hcs
    obtain ⟨rfl, rfl, rfl⟩ := hcs
    exact ⟨[], rfl, Nat.zero_le _, .inl rfl, fit_nil⟩
  · simp [Value.cells] at hcs
    obtain ⟨rfl, rfl, rfl⟩ := hcs
    simp only [if_true] at hmm
    have key : ∀ i, i < len0 → ∃ q : Sm, W.cell? (a.add (i * 2)) = some (.int .i64 q.1) ∧ W.cell? (a.add (i * 2 + 1)) = some (.int .i64 q.2) ∧ In64 q.1 ∧ In64 q.2 := by
      intro i hi
      obtain ⟨h1, h2, h3, h4⟩ := hx i (by omega)
      obtain ⟨s, hs, _, hs1⟩ := DataW.trod_int Tryz.underlying3 h3
      obtain ⟨t, ht, _, ht1⟩ := DataW.trod_int Tryz.underlying3 h4
      simp only [List.cons.injEq, and_true] at hs ht
      simp only [Lit.wf, Bool.and_eq_true, decide_eq_true_eq] at hs1 ht1
      exact ⟨(s, t), by rw [h1, hs], by rw [h2, ht], hs1, ht1⟩
    obtain ⟨q, hq⟩ := Deep.choose_lt (α := Sm) key
    have hg : ∀ i, i < len0 → ((List.range len0).map q).getD i e0 = q i := fun i hi => by simp [hi]
    refine ⟨(List.range len0).map q, by simp, by omega, ?_, ?_⟩
    · by_cases h0 : len0 = 0
      · subst h0; exact .inl rfl
      · obtain ⟨b, off, spot⟩ := a
        have h1 := (hq 0 (by omega)).1
        have hs : spot = none := by simpa [Addr.add] using World.cell?_spot h1
        subst hs
        refine .inr ⟨b, off, rfl, World.block_lt_of_cell? W _ h1, fun i hi => ?_⟩
        have hi' : i < len0 := by simpa using hi
        obtain ⟨g1, g2, _, _⟩ := hq i hi'
        rw [add_none] at g1 g2
        rw [hg i hi']
        exact ⟨g1, g2⟩
    · intro i
      by_cases hi : i < len0
      · rw [hg i hi]; exact (hq i hi).2.2
      · rw [List.getD_eq_getElem?_getD, List.getElem?_eq_none (by simp; omega)]; simpa [e0] using in64_zero

theorem grown_setRow {w w' : World} {g o : Nat} (h : w.grownBy w' (some g)) (u : Value) : w.grownBy (w'.setCell ⟨g, o, none⟩ u) (some g) :=
  ⟨h.os, h.tape, h.output, by simpa using h.size, fun i hi hne => (Below.heap_setCell w' ⟨g, o, none⟩ u i (by intro e; exact hne (by rw [e]))).trans (h.block i hi hne)⟩
def markL (k n : Nat) : List Sm := (List.range n).map fun i => (((k + 2 * i : Nat) : Int), ((k + 2 * i + 1 : Nat) : Int))
theorem markL_len (k n : Nat) : (markL k n).length = n := by simp [markL]
theorem markL_get (k n i : Nat) (h : i < n) : (markL k n).getD i e0 = (((k + 2 * i : Nat) : Int), ((k + 2 * i + 1 : Nat) : Int)) := by simp [markL, h]

def markR (k : Nat) (ls : List Sm) (i : Nat) : List Sm := (markL k i) ++ ls.drop i
theorem markR_zero (k : Nat) (ls : List Sm) : markR k ls 0 = ls := by simp [markR, markL]
theorem markR_end (k n : Nat) (ls : List Sm) (h : ls.length = n) : markR k ls n = markL k n := by simp [markR, ← h]
theorem markR_len (k n i : Nat) (ls : List Sm) (h : ls.length = n) (hi : i ≤ n) : (markR k ls i).length = n := by simp [markR, markL_len]; omega
theorem markR_set (k n i : Nat) (ls : List Sm) (h : ls.length = n) (hi : i < n) : (markR k ls i).set i (((k + 2 * i : Nat) : Int), ((k + 2 * i + 1 : Nat) : Int)) = markR k ls (i + 1) := by
  unfold markR
  rw [List.set_append_right _ _ (by rw [markL_len]; exact Nat.le_refl _), markL_len, Nat.sub_self, List.drop_eq_getElem_cons (by omega), List.set_cons_zero]
  have : markL k (i + 1) = markL k i ++ [(((k + 2 * i : Nat) : Int), ((k + 2 * i + 1 : Nat) : Int))] := by simp [markL, List.range_succ]
  rw [this, List.append_assoc]
  rfl

set_option maxHeartbeats 2000000 in
theorem f59 (g c base k : Nat) (ls : List Sm) (w : World) (hk : k + 2 * ls.length ≤ 100000000) (hown : w.ownsRow base 119 2 (.slice (some ⟨g, 0, none⟩) ls.length c) ls.length (flat ls)) :
    Calls Tryz.prog 59 #[.slice (some ⟨g, 0, none⟩) ls.length c, .int .i64 k] w fun e w' => e = .returned (.int .i64 ((k + 2 * ls.length : Nat) : Int)) ∧ w'.ownsRow base 119 2 (.slice (some ⟨g, 0, none⟩) ls.length c) ls.length (flat (markL k ls.length)) ∧ w.grownBy w' (some g) := by
  generalize hn : ls.length = n at *
  have HN := hid hn
  have HO0 := hid hown
  clear hn hown
  go_enter Tryz.func59, Tryz.ntmps59
  go_wp2
  go_loopw [1, 5] (fun sk si wr => ∃ (i m : Nat), i ≤ n ∧ si = .int .i64 i ∧ sk = .int .i64 (m : Int) ∧ Hid (m = k + 2 * i) ∧ wr.ownsRow base 119 2 (.slice (some ⟨g, 0, none⟩) n c) n (flat (markR k ls i)) ∧ w.grownBy wr (some g)) (fun _ si _ => n - (intOf si).toNat)
  case atStart => exact ⟨0, k, Nat.zero_le _, rfl, rfl, rfl, by rw [markR_zero]; exact HO0.out, ⟨rfl, rfl, rfl, Nat.le_refl _, fun _ _ _ => rfl⟩⟩
  case round =>
    obtain ⟨i, m, hi, rfl, rfl, hm, hown, hgr⟩ := hrel
    have HO := hid hown
    have HG := hid hgr
    have HM := hid (markR_len k n i ls HN.out hi)
    clear hown hgr HO0
    by_cases hlt : i < n
    · have HS := hid (markR_set k n i ls HN.out hlt)
      have hm1 : m ≤ 99999998 := by have := hm.out; omega
      have fz := HO.out.frozenAt (i * 2)
      obtain ⟨y0, y1⟩ := flat_get (markR k ls i) i (by rw [HM.out]; exact hlt)
      have cz := (HO.out.cellAt (i * 2) (by omega)).trans y0
      have HO3 := hid (HO.out.stored (i * 2) (.int .i64 (m : Int))).1
      have HG3 := hid (grown_setRow (o := i * 2) HG.out (.int .i64 (m : Int)))
      have fz4 := HO3.out.frozenAt (i * 2 + 1)
      have cz4 := (HO3.out.cellAt (i * 2 + 1) (by omega)).trans ((List.getElem?_set_ne (by omega)).trans y1)
      have HO5 := hid (HO3.out.stored (i * 2 + 1) (.int .i64 ((m : Int) + 1))).1
      have HG5 := hid (grown_setRow (o := i * 2 + 1) HG3.out (.int .i64 ((m : Int) + 1)))
      clear y0 y1
      go_wp2
      go_roundw
      case rel =>
        refine ⟨i + 1, m + 2, by omega, by go_num, by go_num, by have := hm.out; unfold Hid; omega, ?_, HG5.out⟩
        have := HO5.out
        rw [flat_set _ i _ _ (by rw [HM.out]; exact hlt)] at this
        rw [← HS.out, ← hm.out]
        exact this
      case measure => simp [intOf]; omega
    · obtain rfl : i = n := by omega
      go_wp2
      go_ret
      exact ⟨by rw [← hm.out]; rfl, by rw [← markR_end k i ls HN.out]; exact HO.out, HG.out⟩
set_option maxHeartbeats 2000000 in
theorem f61 (a : Option Addr) (n c k : Nat) (w : World) (hk : k + 2 * n ≤ 100000000) (hr : HasS w a (markL k n)) :
    Calls Tryz.prog 61 #[.slice a n c, .int .i64 k] w fun e w' => e = .returned (.int .i64 ((k + 2 * n : Nat) : Int)) ∧ w' = w := by
  go_enter Tryz.func61, Tryz.ntmps61
  go_wp2
  go_loop [1, 5] (fun sk si => ∃ (i m : Nat), i ≤ n ∧ si = .int .i64 i ∧ sk = .int .i64 (m : Int) ∧ Hid (m = k + 2 * i)) (fun _ si => n - (intOf si).toNat)
  case atStart => exact ⟨0, k, Nat.zero_le _, rfl, rfl, rfl⟩
  case round =>
    obtain ⟨i, m, hi, rfl, rfl, hm⟩ := hrel
    by_cases hlt : i < n
    · rcases hr with hr | ⟨b, off, rfl, hbl, hc⟩
      · have := markL_len k n; rw [hr] at this; simp at this; omega
      obtain ⟨c0, c1⟩ := hc i (by rw [markL_len]; exact hlt)
      rw [markL_get k n i hlt, ← hm.out] at c0 c1
      have c1' : w.cell? ⟨b, off + i * 2 + 1, none⟩ = some (.int .i64 ((m : Int) + 1)) := by rw [c1]; rfl
      have i1 : (i : Int) < (n : Int) := by omega
      have hm1 : m ≤ 99999998 := by have := hm.out; omega
      clear hc c1
      go_wp2
      go_round
      case rel => exact ⟨i + 1, m + 2, by omega, by go_num, by go_num, by have := hm.out; unfold Hid; omega⟩
      case measure => simp [intOf]; omega
    · obtain rfl : i = n := by omega
      go_wp2
      go_ret
      exact ⟨ret_int (by have := hm.out; omega), rfl⟩
end Go.Proofs.YtjhdmghpklagkaaGreat.Smp
