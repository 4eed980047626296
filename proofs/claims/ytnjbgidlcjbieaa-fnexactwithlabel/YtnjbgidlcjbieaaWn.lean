/- What both WithLabel come to. -/
import Derived.Test.YtnjbgidlcjbieaaWm
import Derived.ArgAppend
import Derived.Test.YtnjbgidlcjbieaaOpn
namespace Go.Proofs.Ytnjbgidlcjbieaa.Lab
open Go.RowKit Go.Proofs.Ytnjbgidlcjbieaa.Str

def WithR (ls : List Lb) (x v : ByteArray) : List Lb :=
  if goodL ls = true ∧ nameL x.data.toList = true ∧ (v = ByteArray.empty ∨ valueL v.data.toList = true) ∧ goodL (withF ls x v) = true then withF ls x v else []
theorem with_yes {ls : List Lb} {x v : ByteArray} (h1 : goodL ls = true) (h2 : nameL x.data.toList = true) (h3 : v = ByteArray.empty ∨ valueL v.data.toList = true) (h4 : goodL (withF ls x v) = true) : WithR ls x v = withF ls x v := by unfold WithR; rw [if_pos ⟨h1, h2, h3, h4⟩]
theorem with_no {ls : List Lb} {x v : ByteArray} (h : ¬ (goodL ls = true ∧ nameL x.data.toList = true ∧ (v = ByteArray.empty ∨ valueL v.data.toList = true) ∧ goodL (withF ls x v) = true)) : WithR ls x v = [] := by unfold WithR; rw [if_neg h]
theorem str_some {v : ByteArray} (h : v ≠ ByteArray.empty) : v.toList.isEmpty = false := by rw [str_empty]; simpa using h
theorem withF_len (ls : List Lb) (x v : ByteArray) : (withF ls x v).length ≤ 2 * ls.length + 1 := by
  have key : ∀ (L : List Lb) (s : List Lb × Bool), (L.foldl (stepW x v) s).1.length ≤ s.1.length + 2 * L.length := by
    intro L
    induction L with
    | nil => intro s; simp
    | cons p L ih =>
      intro s
      rw [List.foldl_cons]
      have h1 := ih (stepW x v s p)
      have h0 : (add1 x v s p).1.length ≤ s.1.length + 1 := by unfold add1; split <;> simp
      have h2 : (stepW x v s p).1.length ≤ s.1.length + 2 := by
        unfold stepW; split
        · omega
        · simp; omega
      simp; omega
  unfold withF endW
  have := key ls ([], decide (v = ByteArray.empty))
  split <;> simp at this ⊢ <;> omega
theorem fit_of {ls : List Lb} (h : ∀ p ∈ ls, p.1.size ≤ maxLen ∧ p.2.size ≤ maxLen) : Fit ls := by
  intro i
  by_cases hi : i < ls.length
  · rw [getD_mem_lt hi]; exact h _ (List.getElem_mem hi)
  · rw [List.getD_eq_getElem?_getD, List.getElem?_eq_none (by omega)]; simp [e0, maxLen]
theorem fit_mem {ls : List Lb} (h : Fit ls) : ∀ p ∈ ls, p.1.size ≤ maxLen ∧ p.2.size ≤ maxLen := by
  intro p hp
  obtain ⟨i, hi, rfl⟩ := List.getElem_of_mem hp
  have := h i
  rwa [getD_mem_lt hi] at this
theorem fit_with {ls : List Lb} {x v : ByteArray} (h : Fit ls) (hx : x.size ≤ maxLen) (hv : v.size ≤ maxLen) : Fit (withF ls x v) := by
  have hm := fit_mem h
  have key : ∀ (L : List Lb) (s : List Lb × Bool), (∀ p ∈ L, p.1.size ≤ maxLen ∧ p.2.size ≤ maxLen) → (∀ p ∈ s.1, p.1.size ≤ maxLen ∧ p.2.size ≤ maxLen) → ∀ p ∈ (L.foldl (stepW x v) s).1, p.1.size ≤ maxLen ∧ p.2.size ≤ maxLen := by
    intro L
    induction L with
    | nil => intro s _ h; exact h
    | cons p L ih =>
      intro s hL hs
      rw [List.foldl_cons]
      refine ih _ (fun q hq => hL q (by simp [hq])) ?_
      have ha : ∀ q ∈ (add1 x v s p).1, q.1.size ≤ maxLen ∧ q.2.size ≤ maxLen := by
        intro q hq
        unfold add1 at hq
        split at hq
        · simp only [List.mem_append, List.mem_singleton] at hq
          rcases hq with hq | rfl
          · exact hs q hq
          · exact ⟨hx, hv⟩
        · exact hs q hq
      intro q hq
      unfold stepW at hq
      split at hq
      · exact ha q hq
      · simp only [List.mem_append, List.mem_singleton] at hq
        rcases hq with hq | rfl
        · exact ha q hq
        · exact hL q (by simp)
  apply fit_of
  intro p hp
  unfold withF endW at hp
  split at hp
  · simp only [List.mem_append, List.mem_singleton] at hp
    rcases hp with hp | rfl
    · exact key ls _ hm (by simp) p hp
    · exact ⟨hx, hv⟩
  · exact key ls _ hm (by simp) p hp

set_option maxHeartbeats 2000000 in
set_option maxRecDepth 100000 in
theorem f5 (a : Option Addr) (n c : Nat) (ls : List Lb) (x v : ByteArray) (w : World) (hn : ls.length = n) (hmax : n ≤ 1048576) (hr : HasL w a ls) (hf : Fit ls) (hx : x.size ≤ maxLen) (hv : v.size ≤ maxLen) :
    Calls Try.prog 5 #[.slice a n c, .string x, .string v] w fun e w' => ∃ a' m c', e = .returned (.slice a' m c') ∧ w'.ownsRow w.heap.size 35 2 (.slice a' m c') m (flat (WithR ls x v)) ∧ Below w.heap.size w w' := by
  have HN := hid hn
  clear hn
  go_enter Try.func5, Try.ntmps5
  go_wp2_with fail
  refine (f12 a n c ls _ HN.out (by unfold maxLen; omega) hr hf).mono ?_
  rintro e w1 ⟨rfl, hb0⟩
  have HB1 := hid hb0
  have R1 := hid (hr.below hb0)
  clear hb0
  by_cases hg : goodL ls = true
  · have h20 : n ≤ 20 := by have := (good_iff hg).1; have := HN.out; omega
    by_cases hnm : nameL x.data.toList = true
    · by_cases hok : v = ByteArray.empty ∨ valueL v.data.toList = true
      · have HLEN := hid (withF_len ls x v)
        have HFW := hid (fit_with (x := x) (v := v) hf hx hv)
        have HOK := hid hok
        rcases hok with hve | hvv
        · have hem : v.toList.isEmpty = true := by rw [str_empty]; simpa using hve
          clear hve
          go_wp2_with (first | (go_at_call 13; refine (f13 x _ hx).mono ?_; rintro e w' ⟨rfl, rfl⟩) | (go_at_call 14; refine (f14 v _ hv).mono ?_; rintro e w' ⟨rfl, rfl⟩))
          refine (f15 a n c ls x v _ HN.out (Nat.le_trans h20 (by decide)) R1.out hx).mono ?_
          rintro e w2 ⟨a2, m2, c2, rfl, ho2, hb2⟩
          have HO2 := hid (own_base (base' := w.heap.size) ho2 HB1.out.size)
          have HB2 := hid (HB1.out.trans (hb2.mono HB1.out.size))
          have hm2 : Hid ((withF ls x v).length = m2) := own_len ho2
          have hm2b : m2 ≤ 41 := by have := HLEN.out; have := HN.out; have := hm2.out; omega
          clear ho2 hb2
          go_wp2_with fail
          refine (f12 a2 m2 c2 (withF ls x v) _ hm2.out (by unfold maxLen; omega) (HasL.owno HO2.out) HFW.out).mono ?_
          rintro e w3 ⟨rfl, hb3⟩
          have HO3 := hid (own_below HO2.out hb3)
          have HB3 := hid (HB2.out.trans (hb3.mono HB2.out.size))
          clear hb3
          by_cases hgw : goodL (withF ls x v) = true
          · have HW := hid (with_yes hg hnm HOK.out hgw)
            go_wp2
            go_ret
            exact ⟨a2, m2, c2, rfl, by rw [HW.out]; exact HO3.out, HB3.out⟩
          · have hgw' : goodL (withF ls x v) = false := by simpa using hgw
            have HW := hid (with_no (ls := ls) (x := x) (v := v) (fun h => hgw h.2.2.2))
            go_wp2
            go_ret
            exact ⟨none, 0, 0, rfl, by rw [HW.out]; exact World.ownsRow_nil _ _ _ _, HB3.out⟩
        · by_cases hve : v = ByteArray.empty
          · have hem : v.toList.isEmpty = true := by rw [str_empty]; simpa using hve
            clear hve
            go_wp2_with (first | (go_at_call 13; refine (f13 x _ hx).mono ?_; rintro e w' ⟨rfl, rfl⟩) | (go_at_call 14; refine (f14 v _ hv).mono ?_; rintro e w' ⟨rfl, rfl⟩))
            refine (f15 a n c ls x v _ HN.out (Nat.le_trans h20 (by decide)) R1.out hx).mono ?_
            rintro e w2 ⟨a2, m2, c2, rfl, ho2, hb2⟩
            have HO2 := hid (own_base (base' := w.heap.size) ho2 HB1.out.size)
            have HB2 := hid (HB1.out.trans (hb2.mono HB1.out.size))
            have hm2 : Hid ((withF ls x v).length = m2) := own_len ho2
            have hm2b : m2 ≤ 41 := by have := HLEN.out; have := HN.out; have := hm2.out; omega
            clear ho2 hb2
            go_wp2_with fail
            refine (f12 a2 m2 c2 (withF ls x v) _ hm2.out (by unfold maxLen; omega) (HasL.owno HO2.out) HFW.out).mono ?_
            rintro e w3 ⟨rfl, hb3⟩
            have HO3 := hid (own_below HO2.out hb3)
            have HB3 := hid (HB2.out.trans (hb3.mono HB2.out.size))
            clear hb3
            by_cases hgw : goodL (withF ls x v) = true
            · have HW := hid (with_yes hg hnm HOK.out hgw)
              go_wp2
              go_ret
              exact ⟨a2, m2, c2, rfl, by rw [HW.out]; exact HO3.out, HB3.out⟩
            · have hgw' : goodL (withF ls x v) = false := by simpa using hgw
              have HW := hid (with_no (ls := ls) (x := x) (v := v) (fun h => hgw h.2.2.2))
              go_wp2
              go_ret
              exact ⟨none, 0, 0, rfl, by rw [HW.out]; exact World.ownsRow_nil _ _ _ _, HB3.out⟩
          · have hem := str_some hve
            clear hve
            go_wp2_with (first | (go_at_call 13; refine (f13 x _ hx).mono ?_; rintro e w' ⟨rfl, rfl⟩) | (go_at_call 14; refine (f14 v _ hv).mono ?_; rintro e w' ⟨rfl, rfl⟩))
            refine (f15 a n c ls x v _ HN.out (Nat.le_trans h20 (by decide)) R1.out hx).mono ?_
            rintro e w2 ⟨a2, m2, c2, rfl, ho2, hb2⟩
            have HO2 := hid (own_base (base' := w.heap.size) ho2 HB1.out.size)
            have HB2 := hid (HB1.out.trans (hb2.mono HB1.out.size))
            have hm2 : Hid ((withF ls x v).length = m2) := own_len ho2
            have hm2b : m2 ≤ 41 := by have := HLEN.out; have := HN.out; have := hm2.out; omega
            clear ho2 hb2
            go_wp2_with fail
            refine (f12 a2 m2 c2 (withF ls x v) _ hm2.out (by unfold maxLen; omega) (HasL.owno HO2.out) HFW.out).mono ?_
            rintro e w3 ⟨rfl, hb3⟩
            have HO3 := hid (own_below HO2.out hb3)
            have HB3 := hid (HB2.out.trans (hb3.mono HB2.out.size))
            clear hb3
            by_cases hgw : goodL (withF ls x v) = true
            · have HW := hid (with_yes hg hnm HOK.out hgw)
              go_wp2
              go_ret
              exact ⟨a2, m2, c2, rfl, by rw [HW.out]; exact HO3.out, HB3.out⟩
            · have hgw' : goodL (withF ls x v) = false := by simpa using hgw
              have HW := hid (with_no (ls := ls) (x := x) (v := v) (fun h => hgw h.2.2.2))
              go_wp2
              go_ret
              exact ⟨none, 0, 0, rfl, by rw [HW.out]; exact World.ownsRow_nil _ _ _ _, HB3.out⟩
      · have HW := hid (with_no (ls := ls) (x := x) (v := v) (fun h => hok h.2.2.1))
        have hem := str_some (fun h => hok (.inl h))
        have hvv : valueL v.data.toList = false := by
          cases h : valueL v.data.toList with
          | false => rfl
          | true => exact absurd (.inr h) hok
        clear hok
        go_wp2_with (first | (go_at_call 13; refine (f13 x _ hx).mono ?_; rintro e w' ⟨rfl, rfl⟩) | (go_at_call 14; refine (f14 v _ hv).mono ?_; rintro e w' ⟨rfl, rfl⟩))
        go_ret
        exact ⟨none, 0, 0, rfl, by rw [HW.out]; exact World.ownsRow_nil _ _ _ _, HB1.out⟩
    · have hnm' : nameL x.data.toList = false := by simpa using hnm
      have HW := hid (with_no (ls := ls) (x := x) (v := v) (fun h => hnm h.2.1))
      clear hnm
      go_wp2_with (first | (go_at_call 13; refine (f13 x _ hx).mono ?_; rintro e w' ⟨rfl, rfl⟩) | (go_at_call 14; refine (f14 v _ hv).mono ?_; rintro e w' ⟨rfl, rfl⟩))
      go_ret
      exact ⟨none, 0, 0, rfl, by rw [HW.out]; exact World.ownsRow_nil _ _ _ _, HB1.out⟩
  · have hg' : goodL ls = false := by simpa using hg
    have HW := hid (with_no (ls := ls) (x := x) (v := v) (fun h => hg h.1))
    go_wp2
    go_ret
    exact ⟨none, 0, 0, rfl, by rw [HW.out]; exact World.ownsRow_nil _ _ _ _, HB1.out⟩

theorem flat_take : ∀ (L : List Lb) (k : Nat), flat (L.take k) = (flat L).take (k * 2) := by
  intro L
  induction L with
  | nil => intro k; simp [flat]
  | cons p L ih =>
    intro k
    cases k with
    | zero => simp [flat]
    | succ k => rw [List.take_succ_cons, flat_cons, flat_cons, ih k, show (k + 1) * 2 = k * 2 + 1 + 1 from by omega, List.take_succ_cons, List.take_succ_cons]
theorem flat_drop : ∀ (L : List Lb) (k : Nat), flat (L.drop k) = (flat L).drop (k * 2) := by
  intro L
  induction L with
  | nil => intro k; simp [flat]
  | cons p L ih =>
    intro k
    cases k with
    | zero => simp
    | succ k => rw [List.drop_succ_cons, flat_cons, ih k, show (k + 1) * 2 = k * 2 + 1 + 1 from by omega, List.drop_succ_cons, List.drop_succ_cons]
theorem flat_one (p : Lb) : ∀ u ∈ [Value.string p.1, Value.string p.2], u.oneCell' = true := by
  intro u hu; simp at hu; rcases hu with rfl | rfl <;> rfl
theorem flat_cell1 (L : List Lb) : ∀ u ∈ flat L, u.oneCell' = true := by
  induction L with
  | nil => intro u hu; simp [flat] at hu
  | cons p L ih =>
    intro u hu
    rw [flat_cons] at hu
    simp only [List.mem_cons] at hu
    rcases hu with rfl | rfl | hu
    · rfl
    · rfl
    · exact ih u hu

theorem ins_flat (ls : List Lb) (x v : ByteArray) (lo : Nat) : flat (ls.take lo) ++ [.string x, .string v] ++ flat (ls.drop (lo + fnd ls x lo)) = flat (ins ls x v lo) := by
  unfold ins; rw [flat_append, flat_cons]; simp
theorem ins_good {ls : List Lb} {x v : ByteArray} {lo : Nat} (hp : Place ls (x, ByteArray.empty) lo) (h : goodL (ins ls x v lo) = true) : valueL v.data.toList = true := by
  have hg := good_iff h
  have hle := hp.le
  have hl : lo < (ins ls x v lo).length := by unfold ins; simp; omega
  have h1 := (hg.2 lo hl).1
  have e : (ins ls x v lo).getD lo e0 = (x, v) := by
    unfold ins
    rw [List.getD_eq_getElem?_getD, List.getElem?_append_right (by simp; omega)]
    simp [Nat.min_eq_left hle]
  rw [e] at h1
  unfold okL at h1
  simp only [Bool.and_eq_true] at h1
  exact h1.2

set_option maxHeartbeats 8000000 in
set_option maxRecDepth 100000 in
theorem f7 (g n base : Nat) (ls : List Lb) (x v : ByteArray) (w : World) (hn : ls.length = n) (hmax : n ≤ 1048576) (hown : w.ownsRow base 35 2 (.slice (some ⟨g, 0, none⟩) n n) n (flat ls)) (hf : Fit ls) (hx : x.size ≤ maxLen) (hv : v.size ≤ maxLen) :
    Calls Try.prog 7 #[.slice (some ⟨g, 0, none⟩) n n, .string x, .string v] w fun e w' => ∃ a' m c', e = .returned (.slice a' m c') ∧ w'.ownsRow w.heap.size 35 2 (.slice a' m c') m (flat (WithR ls x v)) ∧ Below w.heap.size w w' := by
  obtain ⟨i0, hi, hz0, hz1, hz2⟩ := info_parts info50
  have HN := hid hn
  have HO0 := hid hown
  clear hn hown
  go_enter Try.func7, Try.ntmps7
  go_wp2_with fail
  refine (f17 _ n n ls _ HN.out (by unfold maxLen; omega) (HasL.own HO0.out) hf).mono ?_
  rintro e w1 ⟨rfl, hb0⟩
  have HB1 := hid hb0
  have O1 := hid (own_below HO0.out hb0)
  clear hb0
  by_cases hg : goodL ls = true
  · have h20 : n ≤ 20 := by have := (good_iff hg).1; have := HN.out; omega
    have HG := hid (good_iff hg)
    by_cases hnm : nameL x.data.toList = true
    · by_cases hve : v = ByteArray.empty
      · have hem : v.toList.isEmpty = true := by rw [str_empty]; simpa using hve
        subst hve
        have HW : Hid (WithR ls x ByteArray.empty = selR ls [x] false) := by
          unfold Hid
          rw [with_yes hg hnm (.inl rfl) (decide_eq_true (by rw [with_drop]; exact good_filter HG.out _)), with_drop, selR_yes hg (by simp)]
        have HT := hid (show HasT (w1.alloc (.cells #[.string x] 9)) (some ⟨w1.heap.size, 0, none⟩) [x] from .inr ⟨w1.heap.size, 0, rfl, by simp, fun i hi => by
          have : i = 0 := by simpa using hi
          subst this
          exact one_new w1 _ 9⟩)
        go_wp2_with (first | (go_at_call 18; refine (f18 x _ hx).mono ?_; rintro e w' ⟨rfl, rfl⟩))
        refine (f19 _ _ n n 1 1 ls [x] _ HN.out hmax ((HasL.own O1.out).alloc _) hf rfl (by omega) HT.out).mono ?_
        rintro e w2 ⟨a2, m2, c2, rfl, ho2, hb2⟩
        have HO2 := hid (own_base (base' := w.heap.size) ho2 (by have := HB1.out.size; simp; omega))
        have HB2 := hid ((HB1.out.alloc HB1.out.size (.cells #[.string x] 9)).trans (hb2.mono (by have := HB1.out.size; simp; omega)))
        clear ho2 hb2
        go_wp2
        go_ret
        exact ⟨a2, m2, c2, rfl, by rw [HW.out]; exact HO2.out, HB2.out⟩
      · have hem := str_some hve
        have HVE := hid hve
        clear hve
        go_wp2_with (first | (go_at_call 18; refine (f18 x _ hx).mono ?_; rintro e w' ⟨rfl, rfl⟩))
        refine (f20 _ n n ls x _ HN.out HG.out (HasL.own O1.out)).mono ?_
        rintro e w2 ⟨lo, hp, rfl, hb2⟩
        have HP := hid hp
        have HB2 := hid (HB1.out.trans (hb2.mono HB1.out.size))
        have O2 := hid (own_below O1.out hb2)
        have hlo : lo ≤ n := by have := HN.out; have := hp.le; omega
        have HWI := hid (with_ins HG.out hp HVE.out)
        clear hb2 hp
        have HLEN : Hid ((ins ls x v lo).length ≤ 2 * ls.length + 1) := by unfold Hid; rw [← HWI.out]; exact withF_len ls x v
        have HFI : Hid (Fit (ins ls x v lo)) := by unfold Hid; rw [← HWI.out]; exact fit_with hf hx hv
        by_cases hd : lo < n ∧ cmpN (ls.getD lo e0) (x, ByteArray.empty) = 0
        · rw [decide_eq_true hd]
          have hlo2 : lo + 1 ≤ n := hd.1
          have HF : Hid (fnd ls x lo = 1) := by unfold Hid fnd; rw [if_pos (by rw [HN.out]; exact hd)]
          clear hd
          by_cases hz : lo + 1 = n
          · subst hz
            go_wp2_with (at_builtin; refine wpList_append_grows _ rfl (.tmp 38) (.tmp 42) 24 rfl 35 i0 (.agg #[.string ByteArray.empty, .string ByteArray.empty]) 2 32 Try.underlying24 hi hz0 hz1 hz2 rfl (by decide) (some ⟨g, 0, none⟩) lo lo (flat (ls.take lo)) rfl ?n1 ?n2 ?n3 ⟨w2.heap.size, 0, none⟩ 1 1 [.string x, .string v] rfl rfl ?d1 ?d2 ?d5 ?d3 ?d4 ?_)
            case n1 => intro h; cases h
            case n2 => rw [flat_len, List.length_take]; have := HN.out; omega
            case n3 =>
              intro b hb j u hu
              cases hb
              rw [flat_take, List.getElem?_take] at hu
              split at hu
              · exact (O2.out.alloc _).cells rfl j u hu
              · cases hu
            case d1 => exact two_new w2 _ _ 35
            case d2 => exact flat_one (x, v)
            case d5 => omega
            case d3 => unfold maxLen; omega
            case d4 => omega
            intro v3 w3 hown3 hgr3
            obtain ⟨a3, c3, rfl⟩ := own_form hown3
            have HO3 := hid (own_base (base' := w.heap.size) hown3 (by have := HB2.out.size; simp; omega))
            have HX3 := hid ((HB2.out.alloc HB2.out.size (.cells #[.string x, .string v] 35)).grown hgr3 (by have := HB2.out.size; simp; omega) (fun j hj => by cases hj))
            have O3 := hid ((O2.out.alloc (.cells #[.string x, .string v] 35)).kept hgr3 (.inr (by simp [Value.ownBlock])))
            clear hown3 hgr3
            go_wp2_with (at_builtin; refine wpList_append_own _ rfl (.tmp 44) (.tmp 47) 24 rfl w.heap.size 35 i0 (.agg #[.string ByteArray.empty, .string ByteArray.empty]) 2 32 Try.underlying24 hi hz0 hz1 hz2 rfl (by decide) _ _ _ rfl HO3.out ⟨g, 0, none⟩ 0 0 [] rfl rfl ?e1 ?e2 ?e3 ?e4 ?e5 ?_)
            case e1 => intro j u hj; simp at hj
            case e2 => intro u hu; simp at hu
            case e3 => unfold maxLen; omega
            case e4 => omega
            case e5 => exact HX3.out.size
            intro v4 w4 hown4 hgr4 _
            obtain ⟨M, hown5⟩ : ∃ M, w4.ownsRow w.heap.size 35 2 v4 M (flat (ins ls x v lo)) := ⟨_, by rw [← ins_flat, HF.out, List.drop_eq_nil_of_le (by rw [HN.out]; omega), flat_nil, List.append_nil]; exact hown4⟩
            obtain ⟨a4, c4, rfl⟩ := own_form hown5
            have HO4 := hid hown5
            have HX4 := hid (HX3.out.grown hgr4 HX3.out.size (fun j hj => (HO3.out.lt j hj).1))
            have HL4 := hid (own_len HO4.out)
            have hL4 : M ≤ 41 := by have h1 := HL4.out; have h2 := HLEN.out; have h3 := HN.out; omega
            clear hown4 hgr4 hown5
            go_wp2_with fail
            refine (f17 a4 _ c4 (ins ls x v lo) _ HL4.out (by unfold maxLen; omega) (HasL.owno HO4.out) HFI.out).mono ?_
            rintro e w5 ⟨rfl, hb5⟩
            have HO5 := hid (own_below HO4.out hb5)
            have HX5 := hid (HX4.out.trans (hb5.mono HX4.out.size))
            clear hb5
            by_cases hgi : goodL (ins ls x v lo) = true
            · have HW : Hid (WithR ls x v = ins ls x v lo) := by
                unfold Hid; rw [with_yes hg hnm (.inr (ins_good HP.out hgi)) (by rw [HWI.out]; exact hgi), HWI.out]
              go_wp2
              go_ret
              exact ⟨a4, _, c4, rfl, by rw [HW.out]; exact HO5.out, HX5.out⟩
            · have hgi' : goodL (ins ls x v lo) = false := by simpa using hgi
              have HW := hid (with_no (ls := ls) (x := x) (v := v) (fun h => hgi (by rw [← HWI.out]; exact h.2.2.2)))
              go_wp2
              go_ret
              exact ⟨none, 0, 0, rfl, by rw [HW.out]; exact World.ownsRow_nil _ _ _ _, HX5.out⟩
          · have hz' : lo + 1 < n := by omega
            have hzI : (lo : Int) + 1 < (n : Int) := by omega
            go_wp2_with (at_builtin; refine wpList_append_grows _ rfl (.tmp 38) (.tmp 42) 24 rfl 35 i0 (.agg #[.string ByteArray.empty, .string ByteArray.empty]) 2 32 Try.underlying24 hi hz0 hz1 hz2 rfl (by decide) (some ⟨g, 0, none⟩) lo lo (flat (ls.take lo)) rfl ?n1 ?n2 ?n3 ⟨w2.heap.size, 0, none⟩ 1 1 [.string x, .string v] rfl rfl ?d1 ?d2 ?d5 ?d3 ?d4 ?_)
            case n1 => intro h; cases h
            case n2 => rw [flat_len, List.length_take]; have := HN.out; omega
            case n3 =>
              intro b hb j u hu
              cases hb
              rw [flat_take, List.getElem?_take] at hu
              split at hu
              · exact (O2.out.alloc _).cells rfl j u hu
              · cases hu
            case d1 => exact two_new w2 _ _ 35
            case d2 => exact flat_one (x, v)
            case d5 => omega
            case d3 => unfold maxLen; omega
            case d4 => omega
            intro v3 w3 hown3 hgr3
            obtain ⟨a3, c3, rfl⟩ := own_form hown3
            have HO3 := hid (own_base (base' := w.heap.size) hown3 (by have := HB2.out.size; simp; omega))
            have HX3 := hid ((HB2.out.alloc HB2.out.size (.cells #[.string x, .string v] 35)).grown hgr3 (by have := HB2.out.size; simp; omega) (fun j hj => by cases hj))
            have O3 := hid ((O2.out.alloc (.cells #[.string x, .string v] 35)).kept hgr3 (.inr (by simp [Value.ownBlock])))
            clear hown3 hgr3
            go_wp2_with (at_builtin; refine wpList_append_own _ rfl (.tmp 44) (.tmp 47) 24 rfl w.heap.size 35 i0 (.agg #[.string ByteArray.empty, .string ByteArray.empty]) 2 32 Try.underlying24 hi hz0 hz1 hz2 rfl (by decide) _ _ _ rfl HO3.out ⟨g, (lo + 1) * 2, none⟩ (n - (lo + 1)) (n - (lo + 1)) (flat (ls.drop (lo + 1))) rfl ?e0 ?e1 ?e2 ?e3 ?e4 ?e5 ?_)
            case e0 => rw [flat_len, List.length_drop, HN.out]
            case e1 =>
              intro j u hj
              rw [flat_drop, List.getElem?_drop] at hj
              have := O3.out.cells rfl _ u hj
              rw [add_none] at this ⊢
              simpa using this
            case e2 => exact flat_cell1 _
            case e3 => unfold maxLen; omega
            case e4 => omega
            case e5 => exact HX3.out.size
            intro v4 w4 hown4 hgr4 _
            obtain ⟨M, hown5⟩ : ∃ M, w4.ownsRow w.heap.size 35 2 v4 M (flat (ins ls x v lo)) := ⟨_, by rw [← ins_flat, HF.out, List.append_assoc]; exact hown4⟩
            obtain ⟨a4, c4, rfl⟩ := own_form hown5
            have HO4 := hid hown5
            have HX4 := hid (HX3.out.grown hgr4 HX3.out.size (fun j hj => (HO3.out.lt j hj).1))
            have HL4 := hid (own_len HO4.out)
            have hL4 : M ≤ 41 := by have h1 := HL4.out; have h2 := HLEN.out; have h3 := HN.out; omega
            clear hown4 hgr4 hown5
            go_wp2_with fail
            refine (f17 a4 _ c4 (ins ls x v lo) _ HL4.out (by unfold maxLen; omega) (HasL.owno HO4.out) HFI.out).mono ?_
            rintro e w5 ⟨rfl, hb5⟩
            have HO5 := hid (own_below HO4.out hb5)
            have HX5 := hid (HX4.out.trans (hb5.mono HX4.out.size))
            clear hb5
            by_cases hgi : goodL (ins ls x v lo) = true
            · have HW : Hid (WithR ls x v = ins ls x v lo) := by
                unfold Hid; rw [with_yes hg hnm (.inr (ins_good HP.out hgi)) (by rw [HWI.out]; exact hgi), HWI.out]
              go_wp2
              go_ret
              exact ⟨a4, _, c4, rfl, by rw [HW.out]; exact HO5.out, HX5.out⟩
            · have hgi' : goodL (ins ls x v lo) = false := by simpa using hgi
              have HW := hid (with_no (ls := ls) (x := x) (v := v) (fun h => hgi (by rw [← HWI.out]; exact h.2.2.2)))
              go_wp2
              go_ret
              exact ⟨none, 0, 0, rfl, by rw [HW.out]; exact World.ownsRow_nil _ _ _ _, HX5.out⟩
        · rw [decide_eq_false hd]
          have HF : Hid (fnd ls x lo = 0) := by unfold Hid fnd; rw [if_neg (by rw [HN.out]; exact hd)]
          clear hd
          by_cases hz : lo = n
          · subst hz
            go_wp2_with (at_builtin; refine wpList_append_grows _ rfl (.tmp 38) (.tmp 42) 24 rfl 35 i0 (.agg #[.string ByteArray.empty, .string ByteArray.empty]) 2 32 Try.underlying24 hi hz0 hz1 hz2 rfl (by decide) (some ⟨g, 0, none⟩) lo lo (flat (ls.take lo)) rfl ?n1 ?n2 ?n3 ⟨w2.heap.size, 0, none⟩ 1 1 [.string x, .string v] rfl rfl ?d1 ?d2 ?d5 ?d3 ?d4 ?_)
            case n1 => intro h; cases h
            case n2 => rw [flat_len, List.length_take]; have := HN.out; omega
            case n3 =>
              intro b hb j u hu
              cases hb
              rw [flat_take, List.getElem?_take] at hu
              split at hu
              · exact (O2.out.alloc _).cells rfl j u hu
              · cases hu
            case d1 => exact two_new w2 _ _ 35
            case d2 => exact flat_one (x, v)
            case d5 => omega
            case d3 => unfold maxLen; omega
            case d4 => omega
            intro v3 w3 hown3 hgr3
            obtain ⟨a3, c3, rfl⟩ := own_form hown3
            have HO3 := hid (own_base (base' := w.heap.size) hown3 (by have := HB2.out.size; simp; omega))
            have HX3 := hid ((HB2.out.alloc HB2.out.size (.cells #[.string x, .string v] 35)).grown hgr3 (by have := HB2.out.size; simp; omega) (fun j hj => by cases hj))
            have O3 := hid ((O2.out.alloc (.cells #[.string x, .string v] 35)).kept hgr3 (.inr (by simp [Value.ownBlock])))
            clear hown3 hgr3
            go_wp2_with (at_builtin; refine wpList_append_own _ rfl (.tmp 44) (.tmp 47) 24 rfl w.heap.size 35 i0 (.agg #[.string ByteArray.empty, .string ByteArray.empty]) 2 32 Try.underlying24 hi hz0 hz1 hz2 rfl (by decide) _ _ _ rfl HO3.out ⟨g, 0, none⟩ 0 0 [] rfl rfl ?e1 ?e2 ?e3 ?e4 ?e5 ?_)
            case e1 => intro j u hj; simp at hj
            case e2 => intro u hu; simp at hu
            case e3 => unfold maxLen; omega
            case e4 => omega
            case e5 => exact HX3.out.size
            intro v4 w4 hown4 hgr4 _
            obtain ⟨M, hown5⟩ : ∃ M, w4.ownsRow w.heap.size 35 2 v4 M (flat (ins ls x v lo)) := ⟨_, by rw [← ins_flat, HF.out, List.drop_eq_nil_of_le (by rw [HN.out]; omega), flat_nil, List.append_nil]; exact hown4⟩
            obtain ⟨a4, c4, rfl⟩ := own_form hown5
            have HO4 := hid hown5
            have HX4 := hid (HX3.out.grown hgr4 HX3.out.size (fun j hj => (HO3.out.lt j hj).1))
            have HL4 := hid (own_len HO4.out)
            have hL4 : M ≤ 41 := by have h1 := HL4.out; have h2 := HLEN.out; have h3 := HN.out; omega
            clear hown4 hgr4 hown5
            go_wp2_with fail
            refine (f17 a4 _ c4 (ins ls x v lo) _ HL4.out (by unfold maxLen; omega) (HasL.owno HO4.out) HFI.out).mono ?_
            rintro e w5 ⟨rfl, hb5⟩
            have HO5 := hid (own_below HO4.out hb5)
            have HX5 := hid (HX4.out.trans (hb5.mono HX4.out.size))
            clear hb5
            by_cases hgi : goodL (ins ls x v lo) = true
            · have HW : Hid (WithR ls x v = ins ls x v lo) := by
                unfold Hid; rw [with_yes hg hnm (.inr (ins_good HP.out hgi)) (by rw [HWI.out]; exact hgi), HWI.out]
              go_wp2
              go_ret
              exact ⟨a4, _, c4, rfl, by rw [HW.out]; exact HO5.out, HX5.out⟩
            · have hgi' : goodL (ins ls x v lo) = false := by simpa using hgi
              have HW := hid (with_no (ls := ls) (x := x) (v := v) (fun h => hgi (by rw [← HWI.out]; exact h.2.2.2)))
              go_wp2
              go_ret
              exact ⟨none, 0, 0, rfl, by rw [HW.out]; exact World.ownsRow_nil _ _ _ _, HX5.out⟩
          · have hz' : lo < n := by omega
            have hzI : (lo : Int) < (n : Int) := by omega
            go_wp2_with (at_builtin; refine wpList_append_grows _ rfl (.tmp 38) (.tmp 42) 24 rfl 35 i0 (.agg #[.string ByteArray.empty, .string ByteArray.empty]) 2 32 Try.underlying24 hi hz0 hz1 hz2 rfl (by decide) (some ⟨g, 0, none⟩) lo lo (flat (ls.take lo)) rfl ?n1 ?n2 ?n3 ⟨w2.heap.size, 0, none⟩ 1 1 [.string x, .string v] rfl rfl ?d1 ?d2 ?d5 ?d3 ?d4 ?_)
            case n1 => intro h; cases h
            case n2 => rw [flat_len, List.length_take]; have := HN.out; omega
            case n3 =>
              intro b hb j u hu
              cases hb
              rw [flat_take, List.getElem?_take] at hu
              split at hu
              · exact (O2.out.alloc _).cells rfl j u hu
              · cases hu
            case d1 => exact two_new w2 _ _ 35
            case d2 => exact flat_one (x, v)
            case d5 => omega
            case d3 => unfold maxLen; omega
            case d4 => omega
            intro v3 w3 hown3 hgr3
            obtain ⟨a3, c3, rfl⟩ := own_form hown3
            have HO3 := hid (own_base (base' := w.heap.size) hown3 (by have := HB2.out.size; simp; omega))
            have HX3 := hid ((HB2.out.alloc HB2.out.size (.cells #[.string x, .string v] 35)).grown hgr3 (by have := HB2.out.size; simp; omega) (fun j hj => by cases hj))
            have O3 := hid ((O2.out.alloc (.cells #[.string x, .string v] 35)).kept hgr3 (.inr (by simp [Value.ownBlock])))
            clear hown3 hgr3
            go_wp2_with (at_builtin; refine wpList_append_own _ rfl (.tmp 44) (.tmp 47) 24 rfl w.heap.size 35 i0 (.agg #[.string ByteArray.empty, .string ByteArray.empty]) 2 32 Try.underlying24 hi hz0 hz1 hz2 rfl (by decide) _ _ _ rfl HO3.out ⟨g, (lo) * 2, none⟩ (n - (lo)) (n - (lo)) (flat (ls.drop (lo))) rfl ?e0 ?e1 ?e2 ?e3 ?e4 ?e5 ?_)
            case e0 => rw [flat_len, List.length_drop, HN.out]
            case e1 =>
              intro j u hj
              rw [flat_drop, List.getElem?_drop] at hj
              have := O3.out.cells rfl _ u hj
              rw [add_none] at this ⊢
              simpa using this
            case e2 => exact flat_cell1 _
            case e3 => unfold maxLen; omega
            case e4 => omega
            case e5 => exact HX3.out.size
            intro v4 w4 hown4 hgr4 _
            obtain ⟨M, hown5⟩ : ∃ M, w4.ownsRow w.heap.size 35 2 v4 M (flat (ins ls x v lo)) := ⟨_, by rw [← ins_flat, HF.out, List.append_assoc]; exact hown4⟩
            obtain ⟨a4, c4, rfl⟩ := own_form hown5
            have HO4 := hid hown5
            have HX4 := hid (HX3.out.grown hgr4 HX3.out.size (fun j hj => (HO3.out.lt j hj).1))
            have HL4 := hid (own_len HO4.out)
            have hL4 : M ≤ 41 := by have h1 := HL4.out; have h2 := HLEN.out; have h3 := HN.out; omega
            clear hown4 hgr4 hown5
            go_wp2_with fail
            refine (f17 a4 _ c4 (ins ls x v lo) _ HL4.out (by unfold maxLen; omega) (HasL.owno HO4.out) HFI.out).mono ?_
            rintro e w5 ⟨rfl, hb5⟩
            have HO5 := hid (own_below HO4.out hb5)
            have HX5 := hid (HX4.out.trans (hb5.mono HX4.out.size))
            clear hb5
            by_cases hgi : goodL (ins ls x v lo) = true
            · have HW : Hid (WithR ls x v = ins ls x v lo) := by
                unfold Hid; rw [with_yes hg hnm (.inr (ins_good HP.out hgi)) (by rw [HWI.out]; exact hgi), HWI.out]
              go_wp2
              go_ret
              exact ⟨a4, _, c4, rfl, by rw [HW.out]; exact HO5.out, HX5.out⟩
            · have hgi' : goodL (ins ls x v lo) = false := by simpa using hgi
              have HW := hid (with_no (ls := ls) (x := x) (v := v) (fun h => hgi (by rw [← HWI.out]; exact h.2.2.2)))
              go_wp2
              go_ret
              exact ⟨none, 0, 0, rfl, by rw [HW.out]; exact World.ownsRow_nil _ _ _ _, HX5.out⟩
    · have hnm' : nameL x.data.toList = false := by simpa using hnm
      have HW := hid (with_no (ls := ls) (x := x) (v := v) (fun h => hnm h.2.1))
      clear hnm
      go_wp2_with (first | (go_at_call 18; refine (f18 x _ hx).mono ?_; rintro e w' ⟨rfl, rfl⟩))
      go_ret
      exact ⟨none, 0, 0, rfl, by rw [HW.out]; exact World.ownsRow_nil _ _ _ _, HB1.out⟩
  · have hg' : goodL ls = false := by simpa using hg
    have HW := hid (with_no (ls := ls) (x := x) (v := v) (fun h => hg h.1))
    go_wp2
    go_ret
    exact ⟨none, 0, 0, rfl, by rw [HW.out]; exact World.ownsRow_nil _ _ _ _, HB1.out⟩
end Go.Proofs.Ytnjbgidlcjbieaa.Lab
