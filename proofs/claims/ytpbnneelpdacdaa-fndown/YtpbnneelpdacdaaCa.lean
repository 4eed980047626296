/- What samples say one by one: the program's aggsOf, an iterator. -/
import Derived.Test.YtpbnneelpdacdaaBb
import Derived.Test.YtpbnneelpdacdaaTf
namespace Go.Proofs.Ytpbnneelpdacdaa.Agl
open Go.RowKit Go.Shelf
open Go.Proofs.Ytpbnneelpdacdaa.Smp (Sm HasS)
attribute [local go_sem] Oper.semAt_some

/-- It marks no end. -/
def isReal (p : Sm) : Bool := p.2 != -9223372036854775808
def one (p : Sm) : Ag := ⟨p.1, 1, p.2, p.2, p.2, p.2, p.2, 0⟩
def real (ls : List Sm) : List Sm := ls.filter isReal
def ones (ls : List Sm) : List Ag := (real ls).map one
theorem real_hit {ls : List Sm} {k : Nat} (hk : k < ls.length) (h : isReal (ls.getD k Smp.e0) = true) : real (ls.take (k + 1)) = real (ls.take k) ++ [ls.getD k Smp.e0] := by
  have e : ls[k] = ls.getD k Smp.e0 := by simp [hk]
  unfold real
  rw [List.take_succ_eq_append_getElem hk, List.filter_append, e]
  generalize ls.getD k Smp.e0 = p at *
  simp [h]
theorem real_miss {ls : List Sm} {k : Nat} (hk : k < ls.length) (h : isReal (ls.getD k Smp.e0) = false) : real (ls.take (k + 1)) = real (ls.take k) := by
  have e : ls[k] = ls.getD k Smp.e0 := by simp [hk]
  unfold real
  rw [List.take_succ_eq_append_getElem hk, List.filter_append, e]
  generalize ls.getD k Smp.e0 = p at *
  simp [h]
theorem ones_hit {ls : List Sm} {k : Nat} (hk : k < ls.length) (h : isReal (ls.getD k Smp.e0) = true) : ones (ls.take (k + 1)) = ones (ls.take k) ++ [one (ls.getD k Smp.e0)] := by
  unfold ones; rw [real_hit hk h]; simp
theorem ones_miss {ls : List Sm} {k : Nat} (hk : k < ls.length) (h : isReal (ls.getD k Smp.e0) = false) : ones (ls.take (k + 1)) = ones (ls.take k) := by
  unfold ones; rw [real_miss hk h]
theorem ones_pre (ls : List Sm) (k : Nat) : ones (ls.take k) <+: ones ls := by
  unfold ones real
  conv => rhs; rw [← List.take_append_drop k ls, List.filter_append, List.map_append]
  exact List.prefix_append _ _
theorem ones_lt {ls : List Sm} {k : Nat} (hk : k < ls.length) (h : isReal (ls.getD k Smp.e0) = true) : (ones (ls.take k)).length < (ones ls).length := by
  have h1 := (ones_pre ls (k + 1)).length_le
  rw [ones_hit hk h, List.length_append] at h1
  simp at h1
  omega
theorem f58 (s t : Int) (w : World) : Calls Try.prog 58 #[.agg #[.int .i64 s, .int .i64 t]] w fun e w' => e = .returned (valA (one (s, t))) ∧ Below w.heap.size w w' := by
  go_enter Try.func58, Try.ntmps58
  go_wp2
  refine bodyPost_ret (v := valA (one (s, t))) (by simp [results, Try.results58, go_sem, valA, one]) rfl ⟨rfl, ?_⟩
  repeat (first | exact Below.refl _ _ | refine Below.alloc ?_ (by simp; try omega) _ | refine Below.setCell ?_ (by simp; try omega) _)

set_option maxRecDepth 100000 in
set_option maxHeartbeats 4000000 in
theorem ones_in (l B0 n₀ : Nat) (a : Option Addr) (c : Nat) (ls : List Sm) (J Jx : List Ag → World → Prop) (W : World) (hJ : AbidesFrom W.heap.size J)
    (hY : ∀ pre x W1, J pre W1 → pre.length < (ones ls).length → YieldAt Fence.wide (2 - 1) Try.prog l #[valA x] W1 fun e W' => (e = .returned (.bool true) ∧ J (pre ++ [x]) W' ∧ Below n₀ W1 W') ∨ (e = .returned (.bool false) ∧ Jx (pre ++ [x]) W'))
    (hl : ls.length ≤ 1048576) (hn : n₀ ≤ W.heap.size) (h0 : B0 < n₀) (c0 : W.cell? ⟨B0, 0, none⟩ = some (.slice a ls.length c))
    (hr : ls = [] ∨ ∃ b off, a = some ⟨b, off, none⟩ ∧ b < n₀ ∧ ∀ i, i < ls.length → W.cell? ⟨b, off + i * 2, none⟩ = some (.int .i64 (ls.getD i Smp.e0).1) ∧ W.cell? ⟨b, off + i * 2 + 1, none⟩ = some (.int .i64 (ls.getD i Smp.e0).2)) (hs : J [] W) :
    CallsIn Fence.wide 2 Try.prog 57 #[.func (.yield l) #[] #[], .pointer (some ⟨B0, 0, none⟩)] W fun e W' => (∃ v, e = .returned v) ∧ ((∃ ys, ys = ones ls ∧ J ys W') ∨ (∃ pre, pre <+: ones ls ∧ Jx pre W')) := by
  generalize hn' : ls.length = n at *
  have HN := hid hn'
  clear hn'
  have HY := hid hY
  have HJ := hid hJ
  have HR := hid hr
  clear hY hJ hr
  refine callsIn_of_wp Try.func57 rfl trivial ?_ rfl
  simp only [Try.ntmps57, List.size_toArray, List.length_cons, List.length_nil, Nat.reduceAdd, Nat.reduceSub, Array.replicate_succ, Array.replicate_zero, List.push_toArray, List.append_toArray, List.nil_append, List.cons_append]
  gi_wp2
  gi_loopw [7] (fun si wr => ∃ k : Nat, k ≤ n ∧ si = .int .i64 k ∧ Hid (J (ones (ls.take k)) wr) ∧ Hid (Below n₀ W wr)) (fun si _ => n - (intOf si).toNat)
  case atStart => exact ⟨0, Nat.zero_le _, rfl, hs, Below.refl _ _⟩
  case round =>
    obtain ⟨k, hk, rfl, HJs, HX⟩ := hrel
    by_cases hlt : k < n
    rotate_left
    · obtain rfl : k = n := by omega
      have HE : Hid (J (ones ls) wr) := by
        have h := HJs.out
        rw [List.take_of_length_le (by rw [HN.out]; exact Nat.le_refl _)] at h
        exact h
      gi_wp2
      go_end0
      exact ⟨⟨_, rfl⟩, .inl ⟨_, rfl, HE.out⟩⟩
    rcases HR.out with hr | ⟨b, off, rfl, hbl, hc⟩
    · exact absurd HN.out (by rw [hr]; simp; omega)
    have d0 := (HX.out.cell (p := ⟨b, off + k * 2, none⟩) hbl).trans (hc k hlt).1
    have d1 := (HX.out.cell (p := ⟨b, off + k * 2 + 1, none⟩) hbl).trans (hc k hlt).2
    have HHit := hid (ones_hit (ls := ls) (k := k) (by rw [HN.out]; exact hlt))
    have HMiss := hid (ones_miss (ls := ls) (k := k) (by rw [HN.out]; exact hlt))
    have HLt := hid (ones_lt (ls := ls) (k := k) (by rw [HN.out]; exact hlt))
    have HPre := hid (ones_pre ls (k + 1))
    clear hc
    generalize ls.getD k Smp.e0 = p at *
    obtain ⟨s, t⟩ := p
    simp only at d0 d1
    have i1 : (k : Int) < (n : Int) := by omega
    have hsz := HX.out.size
    have l0 : B0 < wr.heap.size := by omega
    have lb : b < wr.heap.size := by omega
    have HJa := hid (HJ.out _ wr _ none HJs.out (World.grownBy_alloc wr (.cells #[.int .i64 s, .int .i64 t] 58) none) (fun r e => by cases e))
    have HXa := hid (HX.out.alloc (by omega) (.cells #[.int .i64 s, .int .i64 t] 58))
    have HCa := fun x => hid (f58 s t x)
    clear HJs
    by_cases hf : t = -9223372036854775808
    · have HM := hid (HMiss.out (by rw [hf]; rfl))
      subst hf
      gi_wp2
      refine ⟨trivial, ?_⟩
      gi_wp2
      refine ⟨fun _ h => (by cases h), ?_⟩
      gi_wp2
      go_roundw
      case rel => exact ⟨k + 1, by omega, by go_num, by unfold Hid; rw [HM.out]; exact HJa.out, HXa⟩
      case measure => simp [intOf]; omega
    have hf' : (t != -9223372036854775808) = true := by rw [bne_iff_ne]; exact hf
    have HH := hid (HHit.out hf')
    have HL2 := hid (HLt.out hf')
    clear HHit HMiss HLt hf
    gi_wp2_with (refine ⟨trivial, ?_⟩; gi_at_call 58; refine (callsIn_wide.2 (HCa _).out).mono ?_; rintro e w2 ⟨rfl, hb2⟩; have HJ2 := hid (HJ.out _ _ w2 none HJa.out ⟨hb2.os, hb2.tape, hb2.output, hb2.size, fun k hk _ => hb2.block k hk⟩ (fun r e => by cases e)); have HX2 := hid (HXa.out.trans (hb2.mono (by simp; omega))); obtain ⟨fn, tmps, assign, body, hy, hR⟩ := HY.out _ (one (s, t)) _ HJ2.out HL2.out; have HRd := hid hR; clear hR hb2)
    refine HRd.out.mono ?_
    rintro e W3 (⟨rfl, hJ3, hk3⟩ | ⟨rfl, hJx3⟩)
    · have HJ3 := hid hJ3
      have HX3 := hid (HX2.out.trans hk3)
      clear hJ3 hk3
      gi_wp2
      go_roundw
      case rel => exact ⟨k + 1, by omega, by go_num, by unfold Hid; rw [HH.out]; exact HJ3.out, HX3⟩
      case measure => simp [intOf]; omega
    · have HJ3 := hid hJx3
      clear hJx3
      gi_wp2
      refine bodyPost_ret (results_none rfl _ _ _) rfl ?_
      exact ⟨⟨_, rfl⟩, .inr ⟨_, by rw [← HH.out]; exact HPre.out, HJ3.out⟩⟩

/-- aggsOf hands back an iterator of its own. -/
theorem f32 (a : Option Addr) (n c : Nat) (w : World) :
    Calls Try.prog 32 #[.slice a n c] w fun e w' => e = .returned (.func (.func 57) #[] #[.pointer (some ⟨w.heap.size, 0, none⟩)]) ∧ w' = w.alloc (.cells #[.slice a n c] 24) := by
  go_enter Try.func32, Try.ntmps32
  go_wp2
  go_ret
  exact ⟨rfl, rfl⟩
theorem ones_stops {w w' : World} {a : Option Addr} {c : Nat} {ls : List Sm} (hl : ls.length ≤ 1048576) (hr : HasS w a ls) (hw : w' = w.alloc (.cells #[.slice a ls.length c] 24)) :
    Below w.heap.size w w' ∧ SeqStopsK Fence.wide 2 Try.prog 57 #[.pointer (some ⟨w.heap.size, 0, none⟩)] (fun p : Ag => #[valA p]) (Below w'.heap.size) (fun ys => ys = ones ls) (fun pre => pre <+: ones ls) (ones ls).length w' := by
  have hb : Below w.heap.size w w' := by rw [hw]; exact (Below.refl w.heap.size w).alloc (Nat.le_refl _) _
  have hs : w'.heap.size = w.heap.size + 1 := by rw [hw]; simp
  have c0 : w'.cell? ⟨w.heap.size, 0, none⟩ = some (.slice a ls.length c) := by rw [hw]; go_simp
  refine ⟨hb, fun l J Jx W hW hJ _ hY h0 => ?_⟩
  refine ones_in l _ w'.heap.size a c ls J Jx W hJ hY hl hW.size (by omega) ((hW.cell (p := ⟨w.heap.size, 0, none⟩) (by simp only; omega)).trans c0) ?_ h0
  rcases hr with h | ⟨b, off, h1, h2, h3⟩
  · exact .inl h
  · refine .inr ⟨b, off, h1, by omega, fun i hi => ?_⟩
    obtain ⟨e0, e1⟩ := h3 i hi
    have lt : b < w'.heap.size := by omega
    exact ⟨(hW.cell (p := ⟨b, off + i * 2, none⟩) lt).trans ((hb.cell (p := ⟨b, off + i * 2, none⟩) h2).trans e0), (hW.cell (p := ⟨b, off + i * 2 + 1, none⟩) lt).trans ((hb.cell (p := ⟨b, off + i * 2 + 1, none⟩) h2).trans e1)⟩
end Go.Proofs.Ytpbnneelpdacdaa.Agl
