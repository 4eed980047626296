/- The aggs within a span: the program's aggsWithin, an iterator. -/
import Derived.Test.YtpbnneelpdacdaaBb
namespace Go.Proofs.Ytpbnneelpdacdaa.Agl
open Go.RowKit Go.Shelf
attribute [local go_sem] Oper.semAt_some

/-- In the span. -/
def inSp (fr to_ : Int) (p : Ag) : Bool := decide (fr < p.t) && decide (p.t ≤ to_)
def within (fr to_ : Int) (ls : List Ag) : List Ag := ls.filter (inSp fr to_)
theorem within_hit {fr to_ : Int} {ls : List Ag} {k : Nat} (hk : k < ls.length) (h : inSp fr to_ (ls.getD k a0) = true) : within fr to_ (ls.take (k + 1)) = within fr to_ (ls.take k) ++ [ls.getD k a0] := by
  have e : ls[k] = ls.getD k a0 := by simp [hk]
  unfold within
  rw [List.take_succ_eq_append_getElem hk, List.filter_append, e]
  generalize ls.getD k a0 = p at *
  simp [h]
theorem within_miss {fr to_ : Int} {ls : List Ag} {k : Nat} (hk : k < ls.length) (h : inSp fr to_ (ls.getD k a0) = false) : within fr to_ (ls.take (k + 1)) = within fr to_ (ls.take k) := by
  have e : ls[k] = ls.getD k a0 := by simp [hk]
  unfold within
  rw [List.take_succ_eq_append_getElem hk, List.filter_append, e]
  generalize ls.getD k a0 = p at *
  simp [h]
theorem within_pre (fr to_ : Int) (ls : List Ag) (k : Nat) : within fr to_ (ls.take k) <+: within fr to_ ls := by
  unfold within
  conv => rhs; rw [← List.take_append_drop k ls, List.filter_append]
  exact List.prefix_append _ _
theorem within_lt {fr to_ : Int} {ls : List Ag} {k : Nat} (hk : k < ls.length) (h : inSp fr to_ (ls.getD k a0) = true) : (within fr to_ (ls.take k)).length < (within fr to_ ls).length := by
  have h1 := (within_pre fr to_ ls (k + 1)).length_le
  rw [within_hit hk h, List.length_append] at h1
  simp at h1
  omega

set_option maxRecDepth 100000 in
set_option maxHeartbeats 4000000 in
theorem within_in (l B0 B1 B2 n₀ : Nat) (a : Option Addr) (c : Nat) (fr to_ : Int) (ls : List Ag) (J Jx : List Ag → World → Prop) (W : World) (hJ : AbidesFrom W.heap.size J)
    (hY : ∀ pre x W1, J pre W1 → pre.length < (within fr to_ ls).length → YieldAt Fence.wide (2 - 1) Try.prog l #[valA x] W1 fun e W' => (e = .returned (.bool true) ∧ J (pre ++ [x]) W' ∧ Below n₀ W1 W') ∨ (e = .returned (.bool false) ∧ Jx (pre ++ [x]) W'))
    (hl : ls.length ≤ 1048576) (hn : n₀ ≤ W.heap.size) (h0 : B0 < n₀) (h1 : B1 < n₀) (h2 : B2 < n₀) (c0 : W.cell? ⟨B0, 0, none⟩ = some (.slice a ls.length c)) (c1 : W.cell? ⟨B1, 0, none⟩ = some (.int .i64 fr)) (c2 : W.cell? ⟨B2, 0, none⟩ = some (.int .i64 to_))
    (hr : ls = [] ∨ ∃ b off, a = some ⟨b, off, none⟩ ∧ b < n₀ ∧ ∀ i, i < ls.length → AtA W b (off + i * 8) (ls.getD i a0)) (hs : J [] W) :
    CallsIn Fence.wide 2 Try.prog 67 #[.func (.yield l) #[] #[], .pointer (some ⟨B0, 0, none⟩), .pointer (some ⟨B1, 0, none⟩), .pointer (some ⟨B2, 0, none⟩)] W fun e W' => (∃ v, e = .returned v) ∧ ((∃ ys, ys = within fr to_ ls ∧ J ys W') ∨ (∃ pre, pre <+: within fr to_ ls ∧ Jx pre W')) := by
  generalize hn' : ls.length = n at *
  have HN := hid hn'
  clear hn'
  have HY := hid hY
  have HJ := hid hJ
  have HR := hid hr
  clear hY hJ hr
  refine callsIn_of_wp Try.func67 rfl trivial ?_ rfl
  simp only [Try.ntmps67, List.size_toArray, List.length_cons, List.length_nil, Nat.reduceAdd, Nat.reduceSub, Array.replicate_succ, Array.replicate_zero, List.push_toArray, List.append_toArray, List.nil_append, List.cons_append]
  gi_wp2
  gi_loopw [9] (fun si wr => ∃ k : Nat, k ≤ n ∧ si = .int .i64 k ∧ Hid (J (within fr to_ (ls.take k)) wr) ∧ Hid (Below n₀ W wr)) (fun si _ => n - (intOf si).toNat)
  case atStart => exact ⟨0, Nat.zero_le _, rfl, hs, Below.refl _ _⟩
  case round =>
    obtain ⟨k, hk, rfl, HJs, HX⟩ := hrel
    by_cases hlt : k < n
    rotate_left
    · obtain rfl : k = n := by omega
      have HE : Hid (J (within fr to_ ls) wr) := by
        have h := HJs.out
        rw [List.take_of_length_le (by rw [HN.out]; exact Nat.le_refl _)] at h
        exact h
      gi_wp2
      go_end0
      exact ⟨⟨_, rfl⟩, .inl ⟨_, rfl, HE.out⟩⟩
    rcases HR.out with hr | ⟨b, off, rfl, hbl, hc⟩
    · exact absurd HN.out (by rw [hr]; simp; omega)
    obtain ⟨d0, d1, d2, d3, d4, d5, d6, d7⟩ := (hc k hlt).below HX.out hbl
    have HHit := hid (within_hit (fr := fr) (to_ := to_) (ls := ls) (k := k) (by rw [HN.out]; exact hlt))
    have HMiss := hid (within_miss (fr := fr) (to_ := to_) (ls := ls) (k := k) (by rw [HN.out]; exact hlt))
    have HLt := hid (within_lt (fr := fr) (to_ := to_) (ls := ls) (k := k) (by rw [HN.out]; exact hlt))
    have HPre := hid (within_pre fr to_ ls (k + 1))
    have HSp : Hid (∀ p : Ag, inSp fr to_ p = (decide (fr < p.t) && decide (p.t ≤ to_))) := fun _ => rfl
    clear hc
    generalize ls.getD k a0 = p at *
    obtain ⟨x0, x1, x2, x3, x4, x5, x6, x7⟩ := p
    simp only at d0 d1 d2 d3 d4 d5 d6 d7
    have i1 : (k : Int) < (n : Int) := by omega
    have hsz := HX.out.size
    have l0 : B0 < wr.heap.size := by omega
    have l1 : B1 < wr.heap.size := by omega
    have l2 : B2 < wr.heap.size := by omega
    have lb : b < wr.heap.size := by omega
    have g1 := (HX.out.cell (p := ⟨B1, 0, none⟩) h1).trans c1
    have g2 := (HX.out.cell (p := ⟨B2, 0, none⟩) h2).trans c2
    have HJa := hid (HJ.out _ wr _ none HJs.out (World.grownBy_alloc wr (.cells #[.int .i64 x0, .int .i64 x1, .int .i64 x2, .int .i64 x3, .int .i64 x4, .int .i64 x5, .int .i64 x6, .int .i64 x7] 33) none) (fun r e => by cases e))
    have HXa := hid (HX.out.alloc (by omega) (.cells #[.int .i64 x0, .int .i64 x1, .int .i64 x2, .int .i64 x3, .int .i64 x4, .int .i64 x5, .int .i64 x6, .int .i64 x7] 33))
    clear HJs
    by_cases hf : fr < x0
    rotate_left
    · have HM := hid (HMiss.out (by rw [HSp.out]; simp [hf]))
      have hf' : decide (fr < x0) = false := decide_eq_false hf
      gi_wp2
      refine ⟨fun _ h => (by cases h), ?_⟩
      gi_wp2
      go_roundw
      case rel => exact ⟨k + 1, by omega, by go_num, by unfold Hid; rw [HM.out]; exact HJa.out, HXa⟩
      case measure => simp [intOf]; omega
    by_cases ht : x0 ≤ to_
    rotate_left
    · have HM := hid (HMiss.out (by rw [HSp.out]; simp [ht]))
      gi_wp2
      refine ⟨fun _ h => (by cases h), ?_⟩
      gi_wp2
      go_roundw
      case rel => exact ⟨k + 1, by omega, by go_num, by unfold Hid; rw [HM.out]; exact HJa.out, HXa⟩
      case measure => simp [intOf]; omega
    have hin : inSp fr to_ ⟨x0, x1, x2, x3, x4, x5, x6, x7⟩ = true := by rw [HSp.out]; simp [hf, ht]
    have HH := hid (HHit.out hin)
    obtain ⟨fn, tmps, assign, body, hy, hR⟩ := HY.out _ ⟨x0, x1, x2, x3, x4, x5, x6, x7⟩ _ HJa.out (HLt.out hin)
    simp only [valA] at hy
    have HRd := hid hR
    clear hR hin HHit HMiss HLt HJa
    gi_wp2
    refine HRd.out.mono ?_
    rintro e W3 (⟨rfl, hJ3, hk3⟩ | ⟨rfl, hJx3⟩)
    · have HJ3 := hid hJ3
      have HX3 := hid (HXa.out.trans hk3)
      clear hJ3 hk3
      gi_wp2
      go_roundw
      case rel => exact ⟨k + 1, by omega, by go_num, by unfold Hid; rw [HH.out]; exact HJ3.out, HX3⟩
      case measure => simp [intOf]; omega
    · have HJ3 := hid hJx3
      clear hJx3
      gi_wp2
      refine bodyPost_ret (results_none rfl _ _ _) rfl ?_
      exact ⟨⟨_, rfl⟩, .inr ⟨_, by rw [← HH.out]; exact HPre.out, HJ3.out⟩⟩

/-- aggsWithin hands back an iterator of its own. -/
theorem f41 (a : Option Addr) (n c : Nat) (fr to_ : Int) (w : World) :
    Calls Try.prog 41 #[.slice a n c, .int .i64 fr, .int .i64 to_] w fun e w' => e = .returned (.func (.func 67) #[] #[.pointer (some ⟨w.heap.size, 0, none⟩), .pointer (some ⟨w.heap.size + 1, 0, none⟩), .pointer (some ⟨w.heap.size + 2, 0, none⟩)]) ∧ w' = ((w.alloc (.cells #[.slice a n c] 28)).alloc (.cells #[.int .i64 fr] 3)).alloc (.cells #[.int .i64 to_] 3) := by
  go_enter Try.func41, Try.ntmps41
  go_wp2
  go_ret
  exact ⟨rfl, rfl⟩
theorem within_stops {w w' : World} {a : Option Addr} {c : Nat} {fr to_ : Int} {ls : List Ag} (hl : ls.length ≤ 1048576) (hr : HasA w a ls) (hw : w' = ((w.alloc (.cells #[.slice a ls.length c] 28)).alloc (.cells #[.int .i64 fr] 3)).alloc (.cells #[.int .i64 to_] 3)) :
    Below w.heap.size w w' ∧ SeqStopsK Fence.wide 2 Try.prog 67 #[.pointer (some ⟨w.heap.size, 0, none⟩), .pointer (some ⟨w.heap.size + 1, 0, none⟩), .pointer (some ⟨w.heap.size + 2, 0, none⟩)] (fun p : Ag => #[valA p]) (Below w'.heap.size) (fun ys => ys = within fr to_ ls) (fun pre => pre <+: within fr to_ ls) (within fr to_ ls).length w' := by
  have hb : Below w.heap.size w w' := by rw [hw]; exact (((Below.refl w.heap.size w).alloc (Nat.le_refl _) _).alloc (by simp) _).alloc (by simp; omega) _
  have hs : w'.heap.size = w.heap.size + 3 := by rw [hw]; simp
  have c0 : w'.cell? ⟨w.heap.size, 0, none⟩ = some (.slice a ls.length c) := by rw [hw]; go_simp
  have c1 : w'.cell? ⟨w.heap.size + 1, 0, none⟩ = some (.int .i64 fr) := by rw [hw]; go_simp
  have c2 : w'.cell? ⟨w.heap.size + 2, 0, none⟩ = some (.int .i64 to_) := by rw [hw]; go_simp
  refine ⟨hb, fun l J Jx W hW hJ _ hY h0 => ?_⟩
  refine within_in l _ _ _ w'.heap.size a c fr to_ ls J Jx W hJ hY hl hW.size (by omega) (by omega) (by omega) ((hW.cell (p := ⟨w.heap.size, 0, none⟩) (by simp only; omega)).trans c0) ((hW.cell (p := ⟨w.heap.size + 1, 0, none⟩) (by simp only; omega)).trans c1) ((hW.cell (p := ⟨w.heap.size + 2, 0, none⟩) (by simp only; omega)).trans c2) ?_ h0
  rcases hr with h | ⟨b, off, h1, h2, h3⟩
  · exact .inl h
  · exact .inr ⟨b, off, h1, by omega, fun i hi => ((h3 i hi).below hb h2).below hW (by omega)⟩
end Go.Proofs.Ytpbnneelpdacdaa.Agl
