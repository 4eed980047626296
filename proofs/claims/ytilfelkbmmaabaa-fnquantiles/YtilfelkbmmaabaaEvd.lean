/- slices.Values, slices.AppendSeq, slices.Collect and slices.Sorted at ints. -/
import Derived.Test.YtilfelkbmmaabaaEvc
import Derived.Test.YtilfelkbmmaabaaEvs
import Derived.Test.YtilfelkbmmaabaaBa
namespace Go.Proofs.Ytilfelkbmmaabaa.Quo
open Go.RowKit Go.Shelf Go.Sort
open Go.Proofs.Ytilfelkbmmaabaa.Ino (Has)
attribute [local go_sem] Oper.semAt_some

set_option maxRecDepth 100000 in
set_option maxHeartbeats 4000000 in
theorem vals_in (l B0 n₀ : Nat) (a : Option Addr) (c : Nat) (ls : List Int) (J Jx : List Int → World → Prop) (W : World) (hJ : AbidesFrom W.heap.size J)
    (hY : ∀ pre x W1, J pre W1 → pre.length < ls.length → YieldAt Fence.wide (2 - 1) Try.prog l #[.int .i64 x] W1 fun e W' => (e = .returned (.bool true) ∧ J (pre ++ [x]) W' ∧ Below n₀ W1 W') ∨ (e = .returned (.bool false) ∧ Jx (pre ++ [x]) W'))
    (hl : ls.length ≤ 1048576) (_hn : n₀ ≤ W.heap.size) (_h0 : B0 < n₀) (c0 : W.cell? ⟨B0, 0, none⟩ = some (.slice a ls.length c))
    (hr : ls = [] ∨ ∃ b off, a = some ⟨b, off, none⟩ ∧ b < n₀ ∧ ∀ i, i < ls.length → W.cell? ⟨b, off + i, none⟩ = some (.int .i64 (ls.getD i 0))) (hs : J [] W) :
    CallsIn Fence.wide 2 Try.prog 26 #[.func (.yield l) #[] #[], .pointer (some ⟨B0, 0, none⟩)] W fun e W' => (∃ v, e = .returned v) ∧ ((∃ ys, ys = ls ∧ J ys W') ∨ (∃ pre, pre <+: ls ∧ Jx pre W')) := by
  generalize hn' : ls.length = n at *
  have HN := hid hn'
  clear hn'
  have HY := hid hY
  have HJ := hid hJ
  have HR := hid hr
  clear hY hJ hr
  refine callsIn_of_wp Try.func26 rfl trivial ?_ rfl
  simp only [Try.ntmps26, List.size_toArray, List.length_cons, List.length_nil, Nat.reduceAdd, Nat.reduceSub, Array.replicate_succ, Array.replicate_zero, List.push_toArray, List.append_toArray, List.nil_append, List.cons_append]
  gi_wp2
  gi_loopw [7] (fun si wr => ∃ k : Nat, k ≤ n ∧ si = .int .i64 k ∧ Hid (J (ls.take k) wr) ∧ Hid (Below n₀ W wr)) (fun si _ => n - (intOf si).toNat)
  case atStart => exact ⟨0, Nat.zero_le _, rfl, hs, Below.refl _ _⟩
  case round =>
    obtain ⟨k, hk, rfl, HJs, HX⟩ := hrel
    by_cases hlt : k < n
    rotate_left
    · obtain rfl : k = n := by omega
      have HE : Hid (J (ls) wr) := by
        have h := HJs.out
        rw [List.take_of_length_le (by rw [HN.out]; exact Nat.le_refl _)] at h
        exact h
      gi_wp2
      go_end0
      exact ⟨⟨_, rfl⟩, .inl ⟨_, rfl, HE.out⟩⟩
    rcases HR.out with hr | ⟨b, off, rfl, hbl, hc⟩
    · exact absurd HN.out (by rw [hr]; simp; omega)
    have d0 : wr.cell? ⟨b, off + k, none⟩ = some (.int .i64 (ls.getD k 0)) := (HX.out.cell (p := ⟨b, off + k, none⟩) (by simp only; omega)).trans (hc k hlt)
    have HH : Hid (ls.take (k + 1) = ls.take k ++ [ls.getD k 0]) := by
      unfold Hid
      rw [List.take_succ_eq_append_getElem (by rw [HN.out]; exact hlt)]
      congr 2
      simp [HN.out, hlt]
    have HLt : Hid ((ls.take k).length < n) := by unfold Hid; rw [List.length_take, HN.out]; omega
    have HPre : Hid (ls.take (k + 1) <+: ls) := List.take_prefix _ _
    clear hc
    generalize ls.getD k 0 = p at *
    have i1 : (k : Int) < (n : Int) := by omega
    obtain ⟨fn, tmps, assign, body, hy, hR⟩ := HY.out _ p _ HJs.out HLt.out
    have HRd := hid hR
    clear hR HLt
    gi_wp2
    refine HRd.out.mono ?_
    rintro e W3 (⟨rfl, hJ3, hk3⟩ | ⟨rfl, hJx3⟩)
    · have HJ3 := hid hJ3
      have HX3 := hid (HX.out.trans hk3)
      clear hJ3 hk3
      gi_wp2
      go_roundw
      case rel => exact ⟨k + 1, by omega, by go_num, by unfold Hid; rw [HH.out]; exact HJ3.out, HX3⟩
      case measure => simp [intOf]; omega
    · have HJ3 := hid hJx3
      clear hJx3
      gi_wp2
      refine bodyPost_ret (results_none rfl _ _ _) rfl ?_
      exact ⟨⟨_, rfl⟩, .inr ⟨_, by rw [← HH.out]; exact HPre.out, HJ3.out⟩⟩

theorem f19 (a : Option Addr) (n c : Nat) (w : World) :
    Calls Try.prog 19 #[.slice a n c] w fun e w' => e = .returned (.func (.func 26) #[] #[.pointer (some ⟨w.heap.size, 0, none⟩)]) ∧ w' = w.alloc (.cells #[.slice a n c] 23) := by
  go_enter Try.func19, Try.ntmps19
  go_wp2
  go_ret
  exact ⟨rfl, rfl⟩
theorem vals_stops {w w' : World} {a : Option Addr} {c : Nat} {ls : List Int} (hl : ls.length ≤ 1048576) (hr : Has w a ls) (hw : w' = w.alloc (.cells #[.slice a ls.length c] 23)) :
    Below w.heap.size w w' ∧ SeqStopsK Fence.wide 2 Try.prog 26 #[.pointer (some ⟨w.heap.size, 0, none⟩)] (fun p : Int => #[.int .i64 p]) (Below w'.heap.size) (fun ys => ys = ls) (fun pre => pre <+: ls) ls.length w' := by
  have hb : Below w.heap.size w w' := by rw [hw]; exact (Below.refl w.heap.size w).alloc (Nat.le_refl _) _
  have hs : w'.heap.size = w.heap.size + 1 := by rw [hw]; simp
  have c0 : w'.cell? ⟨w.heap.size, 0, none⟩ = some (.slice a ls.length c) := by rw [hw]; go_simp
  refine ⟨hb, fun l J Jx W hW hJ _ hY h0 => ?_⟩
  refine vals_in l _ w'.heap.size a c ls J Jx W hJ hY hl hW.size (by omega) ((hW.cell (p := ⟨w.heap.size, 0, none⟩) (by simp only; omega)).trans c0) ?_ h0
  rcases hr with h | ⟨b, off, h1, h2, h3⟩
  · exact .inl h
  · exact .inr ⟨b, off, h1, by omega, fun i hi => ((hW.cell (p := ⟨b, off + i, none⟩) (by simp only; omega)).trans (hb.cell (p := ⟨b, off + i, none⟩) (by exact h2))).trans (h3 i hi)⟩

set_option maxRecDepth 100000 in
set_option maxHeartbeats 8000000 in
theorem f27 {gf : Nat} {lb : Array Value} (xs : List Int) (w : World) (hl : xs.length ≤ 1048576)
    (eg : ∀ args w, (callFunc gf args).run Try.prog w = .ok (.enter gf args) w) (hseq : SeqStopsK Fence.wide 2 Try.prog gf lb (fun p : Int => #[.int .i64 p]) (Below w.heap.size) (fun ys => ys = xs) (fun pre => pre <+: xs) xs.length w) :
    Calls Try.prog 27 #[.slice none 0 0, .func (.func gf) #[] lb] w fun e w' => ∃ v, e = .returned v ∧ w'.ownsRow w.heap.size 3 1 v xs.length (xs.map (Value.int .i64)) ∧ Below w.heap.size w w' := by
  obtain ⟨i0, hi, hz0, hz1, hz2⟩ := info_parts Ino.info3
  refine (callsIn_wide (n := 3)).1 ?_
  refine callsIn_of_wp_marks Try.func27 rfl trivial ?_ rfl
  simp only [Try.ntmps27, List.size_toArray, List.length_cons, List.length_nil, Nat.reduceAdd, Nat.reduceSub, Array.replicate_succ, Array.replicate_zero, List.push_toArray, List.append_toArray, List.nil_append, List.cons_append]
  gi_wp2
  have bO := Boxed.new w 23 (.slice none 0 0)
  have hB0 : Below w.heap.size w (w.alloc (.cells #[.slice none 0 0] 23)) := (Below.refl _ w).alloc (Nat.le_refl _) _
  have hsz : (w.alloc (.cells #[.slice none 0 0] 23)).heap.size = w.heap.size + 1 := by simp
  obtain ⟨W0, hW0⟩ : ∃ W0, w.alloc (.cells #[.slice none 0 0] 23) = W0 := ⟨_, rfl⟩
  rw [hW0] at bO hB0 hsz ⊢
  clear hW0
  refine wpIn_rangeFunc_ownH rfl (by omega) (gf := gf) (lb := lb) rfl trivial eg hseq belowK_t (belowK_b (by omega)) hB0 (fun _ => rfl)
    (fun pre W => (∃ v, Boxed W w.heap.size 23 v ∧ W.ownsRow w.heap.size 3 1 v pre.length (pre.map (Value.int .i64)) ∧ True) ∧ Below w.heap.size w W)
    (fun _ _ _ => False)
    (OwnFrom.and (Own.from (holdsRow_own w.heap.size w.heap.size 23 3 1 (fun pre : List Int => pre.length) (fun pre => pre.map (Value.int .i64)) (fun _ _ => True)) _) (ownFrom_below (Nat.le_refl _) (by omega)))
    (fun _ _ _ _ _ hs _ _ => hs)
    ⟨⟨_, bO, World.ownsRow_nil _ _ _ _, trivial⟩, hB0⟩
    (fun x a' W => a' = { tmps := #[.slice none 0 0, .func (.func gf) #[] lb, .pointer (some ⟨w.heap.size, 0, none⟩), undef, .slice none 0 0, .int .i64 x, .func (.func gf) #[] lb, .int .i64 x, undef, undef, undef, undef, undef], defers := [] })
    (fun x a' _ X Y row hs hg hr => hs)
    ?assign ?body ?done ?stop
  case assign =>
    rintro l pre x W K ⟨⟨v, hv, hrow, hnil⟩, hB1⟩ hK
    gi_wp2
    exact hK _ _ ((KeepsOthers.refl _).from _) (Below.refl _ W) ⟨⟨v, hv, hrow, hnil⟩, hB1⟩ rfl
  case body =>
    rintro l pre x a' W hl0 ⟨r, hr⟩ ⟨⟨v, hv, hrow, -⟩, hB1⟩ rfl hlt
    obtain ⟨a1, c1, rfl⟩ := own_form hrow
    have hc := hv.cell
    have HV := hid hv
    have HR := hid hrow
    have HB := hid hB1
    have HI := hid (And.intro hi (And.intro hz0 (And.intro hz1 hz2)))
    clear hv hrow hB1 hi hz0 hz1 hz2
    gi_wp2_with (gi_at_builtin; refine wpListIn_append_own _ rfl _ _ 23 rfl w.heap.size 3 i0 (.int .i64 0) 1 8 Try.underlying23 HI.out.1 HI.out.2.1 HI.out.2.2.1 HI.out.2.2.2 rfl (by decide) _ _ _ rfl (HR.out.alloc _) ⟨W.heap.size, 0, none⟩ 1 1 [.int .i64 x] rfl rfl (one_new W _ _) ?d2 ?d3 ?d4 ?d5 ?_)
    case d2 => first | (intro u hu; simp at hu; subst hu; rfl) | rfl
    case d3 => unfold maxLen; omega
    case d4 => omega
    case d5 => have := HB.out.size; simp; omega
    intro v' w1 hown' hgrow _
    obtain ⟨a2, c2, rfl⟩ := own_form hown'
    obtain ⟨hv3, hv4, hr2, hk2, hb2⟩ := HV.out.appended (by decide) HR.out HB.out.size (Nat.le_refl _) hown' hgrow
    have hc3 := hv3.cell
    have hf3 := hv3.frozen
    have HV4 := hid hv4
    have HR4 := hid hr2
    have HK4 := hid hk2
    have HB4 := hid hb2
    clear hown' hgrow hv3 hv4 hr2 hk2 hb2
    gi_wp2
    exact ⟨HK4.out.from _, HB4.out, ⟨⟨_, HV4.out, by rw [List.length_append, List.map_append]; exact HR4.out, trivial⟩, HB.out.trans HB4.out⟩⟩
  case done =>
    rintro D ys W hD rfl ⟨⟨v, hv, hrow, hnil⟩, hB1⟩ hK
    have hc := hv.cell
    gi_wp2
    refine ⟨by simp, .inl ⟨_, _, rfl, run_takeDeferred hK, ?_⟩⟩
    exact ⟨_, results_tmp rfl _ _ _, v, rfl, ownsRow_putObj hrow _ hK rfl, hB1.trans (belowK_b (w := w) (Nat.le_refl _) W D _ _ (by omega) hK rfl rfl)⟩
  case stop =>
    rintro D c pre W _ _ h _
    exact h.elim

theorem f24 {gf : Nat} {lb : Array Value} (xs : List Int) (w : World) (hl : xs.length ≤ 1048576)
    (eg : ∀ args w, (callFunc gf args).run Try.prog w = .ok (.enter gf args) w) (hseq : SeqStopsK Fence.wide 2 Try.prog gf lb (fun p : Int => #[.int .i64 p]) (Below w.heap.size) (fun ys => ys = xs) (fun pre => pre <+: xs) xs.length w) :
    Calls Try.prog 24 #[.func (.func gf) #[] lb] w fun e w' => ∃ v, e = .returned v ∧ w'.ownsRow w.heap.size 3 1 v xs.length (xs.map (Value.int .i64)) ∧ Below w.heap.size w w' := by
  go_enter Try.func24, Try.ntmps24
  go_wp2_with fail
  refine (f27 xs w hl eg hseq).mono ?_
  rintro e w1 ⟨v, rfl, ho, hb⟩
  have HO := hid ho
  have HB := hid hb
  clear ho hb
  obtain ⟨a1, c1, rfl⟩ := own_form HO.out
  go_wp2
  go_ret
  exact ⟨_, rfl, HO.out, HB.out⟩
theorem fSort (a : Option Addr) (m c base : Nat) (D : List Int) (w : World) (hm : m ≤ 1048576) (ho : Row w base a m c D) :
    Calls Try.prog 25 #[.slice a m c] w fun e w' => e = .returned (.tuple #[]) ∧ Row w' base a m c (srt D) ∧ Below base w w' := by
  have hl := row_len ho
  rcases ho.2 with ⟨h1, h2⟩ | ⟨g, cap, cur, h1, h2, h3, h4, h5, h6, h7⟩
  · subst h2
    refine (AnyM.slices_Sort_int_none Try.sortA a c w).mono ?_
    rintro e w' ⟨rfl, rfl⟩
    have : D = [] := List.eq_nil_of_length_eq_zero hl
    subst this
    exact ⟨rfl, by simpa [srt] using ho, Below.refl _ _⟩
  · cases h1
    subst hl
    refine (AnyM.slices_Sort_int Try.sortA g 0 c D w (holds_of_block_i h3 (by simpa using h7)) (Array.getElem?_eq_some_iff.1 h3).1 (by omega)).mono ?_
    rintro e w' ⟨rfl, n, os, rfl⟩
    exact ⟨rfl, ownsRow_sorted_i (by simp) h2 h3 h4 h5 h6, (Below.refl base w).grown (grownBy_sorted_i _) (Nat.le_of_lt (Nat.lt_of_le_of_lt h2 (Array.getElem?_eq_some_iff.1 h3).1)) (fun k hk => by cases hk; exact h2)⟩
theorem f18 {gf : Nat} {lb : Array Value} (xs : List Int) (w : World) (hl : xs.length ≤ 1048576)
    (eg : ∀ args w, (callFunc gf args).run Try.prog w = .ok (.enter gf args) w) (hseq : SeqStopsK Fence.wide 2 Try.prog gf lb (fun p : Int => #[.int .i64 p]) (Below w.heap.size) (fun ys => ys = xs) (fun pre => pre <+: xs) xs.length w) :
    Calls Try.prog 18 #[.func (.func gf) #[] lb] w fun e w' => ∃ a c, e = .returned (.slice a xs.length c) ∧ Row w' w.heap.size a xs.length c (srt xs) ∧ Below w.heap.size w w' := by
  go_enter Try.func18, Try.ntmps18
  go_wp2_with fail
  refine (f24 xs w hl eg hseq).mono ?_
  rintro e w1 ⟨v, rfl, ho, hb⟩
  have HO := hid ho
  have HB := hid hb
  clear ho hb
  obtain ⟨a1, c1, rfl⟩ := own_form HO.out
  go_wp2_with fail
  refine (fSort a1 _ c1 w.heap.size xs w1 hl HO.out).mono ?_
  rintro e w2 ⟨rfl, ho, hb⟩
  have HO2 := hid ho
  have HB2 := hid (HB.out.trans hb)
  clear ho hb
  go_wp2
  go_ret
  exact ⟨_, _, rfl, HO2.out, HB2.out⟩
end Go.Proofs.Ytilfelkbmmaabaa.Quo
