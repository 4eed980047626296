/- Series trimmed by needs: the plain facts; spans asked about a time. -/
import Derived.Test.YtaekngadfajcaaaGreatRSpa
import Derived.Test.YtaekngadfajcaaaGreatRGc
import Derived.Test.YtaekngadfajcaaaGreatRFm
import Derived.Test.YtaekngadfajcaaaGreatRNdc
namespace Go.Proofs.YtaekngadfajcaaaGreat.Trm
open Go.RowKit
open Go.Proofs.YtaekngadfajcaaaGreat.Lab (Lb HasL OfV GoodP)
open Go.Proofs.YtaekngadfajcaaaGreat.Smp (Sm HasS In64 ret_bool)
open Go.Proofs.YtaekngadfajcaaaGreat.Pat (Mt HasM goodM allM FitM)
open Go.Proofs.YtaekngadfajcaaaGreat.Srs (Q HasQ Vf gdQ GoodQ q0)
open Go.Proofs.YtaekngadfajcaaaGreat.Ned (T HasT t0)

theorem hid {p : Prop} (h : p) : Hid p := h
/-- A span has a time. -/
def hasB (s : Sm) (t : Int) : Bool := decide (s.1 ≤ t) && decide (t ≤ s.2)
/-- A time is covered by needs that fit. -/
def covN (val : ByteArray → ByteArray) (ps : List Ned.Pl) (t : Int) : Bool := ps.any fun p => hasB (p.2.1, p.2.2) t && allM p.1 val
def spn (val : ByteArray → ByteArray) (ps : List Ned.Pl) : List Sm := (ps.filter fun p => allM p.1 val).map fun p => (p.2.1, p.2.2)
theorem any_spn (val : ByteArray → ByteArray) (ps : List Ned.Pl) (t : Int) : (spn val ps).any (fun s => hasB s t) = covN val ps t := by
  induction ps with
  | nil => rfl
  | cons p ps ih =>
    unfold spn covN at *
    cases h : allM p.1 val
    · rw [List.filter_cons_of_neg (by simp [h]), ih]; simp [h]
    · rw [List.filter_cons_of_pos (by simp [h]), List.map_cons, List.any_cons, ih]; simp [h]
theorem spn_len (val : ByteArray → ByteArray) (ps : List Ned.Pl) : (spn val ps).length ≤ ps.length := by
  unfold spn; rw [List.length_map]; exact List.length_filter_le _ _
theorem spn_snoc (val : ByteArray → ByteArray) (ps : List Ned.Pl) (p : Ned.Pl) : spn val (ps ++ [p]) = spn val ps ++ if allM p.1 val = true then [(p.2.1, p.2.2)] else [] := by
  unfold spn
  cases h : allM p.1 val <;> simp [List.filter_append, h]
/-- The samples that are covered. -/
def trS (val : ByteArray → ByteArray) (ps : List Ned.Pl) (l : List Sm) : List Sm := l.filter fun s => covN val ps s.1
theorem trS_len (val : ByteArray → ByteArray) (ps : List Ned.Pl) (l : List Sm) : (trS val ps l).length ≤ l.length := List.length_filter_le _ _
theorem filter_snoc (f : Sm → Bool) (l : List Sm) (s : Sm) : (l ++ [s]).filter f = l.filter f ++ if f s = true then [s] else [] := by
  cases h : f s <;> simp [List.filter_append, h]
theorem take_snoc (ls : List Sm) (k : Nat) (h : k < ls.length) : ls.take (k + 1) = ls.take k ++ [ls.getD k Smp.e0] := by
  rw [List.take_succ_eq_append_getElem h]; simp [h]
theorem filter_step (f : Sm → Bool) (ls : List Sm) (k : Nat) (h : k < ls.length) : (ls.take (k + 1)).filter f = (ls.take k).filter f ++ if f (ls.getD k Smp.e0) = true then [ls.getD k Smp.e0] else [] := by
  rw [take_snoc ls k h, filter_snoc]
/-- What a series gives. -/
def hit (val : Vf) (ps : List Ned.Pl) (q : Srs.Pl) : List Srs.Pl := if trS (val q.1) ps q.2 = [] then [] else [(q.1, trS (val q.1) ps q.2)]
theorem hit_no {val : Vf} {ps : List Ned.Pl} {q : Srs.Pl} (h : trS (val q.1) ps q.2 = []) : hit val ps q = [] := if_pos h
theorem hit_yes {val : Vf} {ps : List Ned.Pl} {q : Srs.Pl} (h : trS (val q.1) ps q.2 ≠ []) : hit val ps q = [(q.1, trS (val q.1) ps q.2)] := if_neg h
def trL (val : Vf) (ps : List Ned.Pl) (qs : List Q) : Nat → List Srs.Pl
  | 0 => []
  | k + 1 => trL val ps qs k ++ hit val ps (Srs.pl (qs.getD k q0))
theorem hit_len (val : Vf) (ps : List Ned.Pl) (q : Srs.Pl) : (hit val ps q).length ≤ 1 := by unfold hit; split <;> simp
theorem trL_len (val : Vf) (ps : List Ned.Pl) (qs : List Q) : ∀ k, (trL val ps qs k).length ≤ k
  | 0 => Nat.le_refl _
  | k + 1 => by
    have := trL_len val ps qs k
    have := hit_len val ps (Srs.pl (qs.getD k q0))
    simp only [trL, List.length_append]; omega
/-- Needs that may be asked by. -/
def gdN (ps : List Ned.Pl) : Bool := decide (ps.length ≤ 60) && ps.all fun p => goodM p.1
def trF (val : Vf) (qs : List Q) (ps : List Ned.Pl) : List Srs.Pl := if gdQ qs = true ∧ gdN ps = true then trL val ps qs qs.length else []
theorem gdN_len {ps : List Ned.Pl} (h : gdN ps = true) : ps.length ≤ 60 := by unfold gdN at h; simp at h; exact h.1
theorem gdN_at {ts : List T} (h : gdN (ts.map Ned.pl) = true) {i : Nat} (hi : i < ts.length) : goodM (ts.getD i t0).l = true := by
  unfold gdN at h
  simp only [Bool.and_eq_true, List.all_eq_true] at h
  have h1 : ts.getD i t0 = ts[i] := by simp [hi]
  rw [h1]
  exact h.2 (Ned.pl ts[i]) (List.mem_map_of_mem (List.getElem_mem hi))
theorem gdN_no {ts : List T} {i : Nat} (hi : i < ts.length) (h : goodM (ts.getD i t0).l = false) : gdN (ts.map Ned.pl) = false := by
  cases e : gdN (ts.map Ned.pl)
  · rfl
  · rw [gdN_at e hi] at h; cases h
theorem gdN_yes {ts : List T} (hl : ts.length ≤ 60) (h : ∀ i, i < ts.length → goodM (ts.getD i t0).l = true) : gdN (ts.map Ned.pl) = true := by
  unfold gdN
  simp only [Bool.and_eq_true, List.all_eq_true, List.length_map, decide_eq_true_eq]
  refine ⟨hl, fun p hp => ?_⟩
  obtain ⟨q, hq, rfl⟩ := List.mem_map.1 hp
  obtain ⟨i, hi, e⟩ := List.getElem_of_mem hq
  have := h i hi
  have h1 : ts.getD i t0 = ts[i] := by simp [hi]
  rw [h1, e] at this
  exact this
theorem gdN_long {ts : List T} (h : 60 < ts.length) : gdN (ts.map Ned.pl) = false := by
  cases e : gdN (ts.map Ned.pl)
  · rfl
  · have := gdN_len e; simp at this; omega

set_option maxHeartbeats 1000000 in
theorem f55 (s t x : Int) (w : World) :
    Calls Tryz.prog 55 #[.agg #[.int .i64 s, .int .i64 t], .int .i64 x] w fun e w' => e = .returned (.bool (hasB (s, t) x)) ∧ Below w.heap.size w w' := by
  have HB := hid ((Below.refl w.heap.size w).alloc (Nat.le_refl _) (.cells #[.int .i64 s, .int .i64 t] 87))
  by_cases h1 : s ≤ x
  · by_cases h2 : x ≤ t
    · have HE : Hid (hasB (s, t) x = true) := by unfold Hid hasB; simp [h1, h2]
      go_enter Tryz.func55, Tryz.ntmps55
      go_wp2
      go_ret
      exact ⟨by rw [HE.out]; rfl, HB.out⟩
    · have HE : Hid (hasB (s, t) x = false) := by unfold Hid hasB; simp; omega
      go_enter Tryz.func55, Tryz.ntmps55
      go_wp2
      go_ret
      exact ⟨by rw [HE.out]; rfl, HB.out⟩
  · have HE : Hid (hasB (s, t) x = false) := by unfold Hid hasB; simp; omega
    go_enter Tryz.func55, Tryz.ntmps55
    go_wp2
    go_ret
    exact ⟨by rw [HE.out]; rfl, HB.out⟩
set_option maxHeartbeats 1000000 in
theorem f54 (s t x : Int) (B : Nat) (w : World) (hB : B < w.heap.size) (hc : w.cell? ⟨B, 0, none⟩ = some (.int .i64 x)) :
    Calls Tryz.prog 54 #[.agg #[.int .i64 s, .int .i64 t], .pointer (some ⟨B, 0, none⟩)] w fun e w' => e = .returned (.bool (hasB (s, t) x)) ∧ Below w.heap.size w w' := by
  have HB := hid ((Below.refl w.heap.size w).alloc (Nat.le_refl _) (.cells #[.int .i64 s, .int .i64 t] 87))
  have c1 := (HB.out.cell (p := ⟨B, 0, none⟩) hB).trans hc
  go_enter Tryz.func54, Tryz.ntmps54
  go_wp2_with fail
  refine (f55 s t x _).mono ?_
  rintro e w1 ⟨rfl, hb1⟩
  have HB1 := hid (HB.out.trans (hb1.mono HB.out.size))
  clear hb1
  go_wp2
  go_ret
  exact ⟨rfl, HB1.out⟩
theorem any_step {L : List Sm} {k : Nat} {x : Int} (h : ∀ j, j < k → hasB (L.getD j Spn.e0) x = false) (hk : L.length ≤ k) : L.any (fun s => hasB s x) = false := by
  rw [List.any_eq_false]
  intro s hs
  obtain ⟨i, hi, e⟩ := List.getElem_of_mem hs
  have := h i (by omega)
  have h1 : L.getD i Spn.e0 = L[i] := by simp [hi]
  rw [h1, e] at this
  simp [this]
theorem any_hit {L : List Sm} {k : Nat} {x : Int} (hk : k < L.length) (h : hasB (L.getD k Spn.e0) x = true) : L.any (fun s => hasB s x) = true := by
  rw [List.any_eq_true]
  have h1 : L.getD k Spn.e0 = L[k] := by simp [hk]
  rw [h1] at h
  exact ⟨_, List.getElem_mem hk, h⟩
set_option maxHeartbeats 2000000 in
theorem f79 (a : Option Addr) (n c : Nat) (L : List Sm) (x : Int) (B : Nat) (w : World) (hn : L.length = n) (h60 : n ≤ 1000) (hr : Spn.HasS w a L) (hB : B < w.heap.size) (hc : w.cell? ⟨B, 0, none⟩ = some (.int .i64 x)) :
    Calls Tryz.prog 79 #[.slice a n c, .func (.func 54) #[] #[.pointer (some ⟨B, 0, none⟩)]] w fun e w' => ∃ r : Int, e = .returned (.int .i64 r) ∧ Hid (decide (0 ≤ r) = L.any fun s => hasB s x) ∧ Below w.heap.size w w' := by
  have HN := hid hn
  have HR := hid hr
  clear hn hr
  go_enter Tryz.func79, Tryz.ntmps79
  go_wp2
  go_loopw [8] (fun si wr => ∃ k : Nat, k ≤ n ∧ si = .int .i64 k ∧ Hid (∀ j, j < k → hasB (L.getD j Spn.e0) x = false) ∧ Hid (Below w.heap.size w wr)) (fun si _ => n - (intOf si).toNat)
  case atStart => exact ⟨0, Nat.zero_le _, rfl, fun j hj => absurd hj (by omega), Below.refl _ _⟩
  case round =>
    obtain ⟨k, hk, rfl, HU, HX⟩ := hrel
    by_cases hlt : k < n
    rotate_left
    · have HE : Hid (decide ((0 : Int) ≤ -1) = L.any fun s => hasB s x) := by
        unfold Hid; rw [any_step HU.out (by rw [HN.out]; omega)]; rfl
      go_wp2
      go_ret
      exact ⟨-1, rfl, HE.out, HX.out⟩
    rcases HR.out with hr | ⟨b, off, rfl, hbl, hcs⟩
    · exact absurd HN.out (by rw [hr]; simp; omega)
    obtain ⟨c0, c1⟩ := hcs k (by rw [HN.out]; exact hlt)
    have d0 := (HX.out.cell (p := ⟨b, off + k * 2, none⟩) hbl).trans c0
    have d1 := (HX.out.cell (p := ⟨b, off + k * 2 + 1, none⟩) hbl).trans c1
    have e0 := (HX.out.cell (p := ⟨B, 0, none⟩) hB).trans hc
    have hB1 : B < wr.heap.size := Nat.lt_of_lt_of_le hB HX.out.size
    have HG : Hid (hasB (L.getD k Spn.e0) x = true → decide ((0 : Int) ≤ (k : Int)) = L.any fun s => hasB s x) := fun h => by
      rw [any_hit (by rw [HN.out]; exact hlt) h]; exact decide_eq_true (by omega)
    have HG2 : Hid (hasB (L.getD k Spn.e0) x = false → ∀ j, j < k + 1 → hasB (L.getD j Spn.e0) x = false) := fun h j hj => by
      by_cases e : j = k
      · rw [e]; exact h
      · exact HU.out j (by omega)
    clear hcs c0 c1 hbl
    generalize L.getD k Spn.e0 = p at *
    obtain ⟨s, t⟩ := p
    simp only at d0 d1
    go_wp2_with fail
    go_at_call 54
    refine (f54 s t x B _ hB1 e0).mono ?_
    rintro e w1 ⟨rfl, hb1⟩
    have HX1 := hid (HX.out.trans (hb1.mono HX.out.size))
    clear hb1 d0 d1 e0
    cases hh : hasB (s, t) x
    · have HU2 := hid (HG2.out hh)
      go_wp2
      go_roundw
      case rel => exact ⟨k + 1, by omega, by go_num, HU2.out, HX1.out⟩
      case measure => simp [intOf]; omega
    · have HE := hid (HG.out hh)
      go_wp2
      go_ret
      exact ⟨k, rfl, HE.out, HX1.out⟩
set_option maxHeartbeats 1000000 in
theorem f53 (a : Option Addr) (n c : Nat) (L : List Sm) (x : Int) (B : Nat) (w : World) (hn : L.length = n) (h60 : n ≤ 1000) (hr : Spn.HasS w a L) (hB : B < w.heap.size) (hc : w.cell? ⟨B, 0, none⟩ = some (.int .i64 x)) :
    Calls Tryz.prog 53 #[.slice a n c, .func (.func 54) #[] #[.pointer (some ⟨B, 0, none⟩)]] w fun e w' => e = .returned (.bool (L.any fun s => hasB s x)) ∧ Below w.heap.size w w' := by
  go_enter Tryz.func53, Tryz.ntmps53
  go_wp2_with fail
  refine (f79 a n c L x B _ hn h60 hr hB hc).mono ?_
  rintro e w1 ⟨r, rfl, HE, hb1⟩
  have HX := hid hb1
  clear hb1 hc
  go_wp2
  go_ret
  exact ⟨ret_bool HE.out, HX.out⟩
end Go.Proofs.YtaekngadfajcaaaGreat.Trm
