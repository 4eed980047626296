/- The library's symMergeCmpFunc at series, where one of both blocks has one member. -/
import Derived.Test.YtailoeloonnoeaaRST
namespace Go.Proofs.Ytailoeloonnoeaa.Stb
open Go.RowKit
variable {α : Type}
/-- What is asked of the comparison. -/
structure CmpOk (sl : α → (Option Addr × Nat × Nat) × (Option Addr × Nat × Nat)) (lt : α → α → Bool) (w0 : World) (g : Nat) (D : List α) : Prop where
  cmp : ∀ W x y, x ∈ D → y ∈ D → w0.grownBy W (some g) → Calls Try.prog 24 #[.agg #[(encS sl x).1, (encS sl x).2], .agg #[(encS sl y).1, (encS sl y).2]] W fun e W' => ∃ z : Int, e = .returned (.int .i64 z) ∧ decide (z < 0) = lt x y ∧ Below W.heap.size W W'
theorem row_below {enc : α → Value × Value} {base g c n : Nat} {d : List α} {w w' : World} (h : Row enc base g c n d w) (hb : Below w.heap.size w w') : Row enc base g c n d w' :=
  h.kept (row := none) ⟨hb.os, hb.tape, hb.output, hb.size, fun k hk _ => hb.block k hk⟩ (.inr (by intro e; cases e))
theorem split_at {d : List α} {i : Nat} (x0 : α) (h : i < d.length) : d = d.take i ++ d.getD i x0 :: d.drop (i + 1) := by
  have e : d.getD i x0 = d[i] := by simp [h]
  rw [e, List.getElem_cons_drop, List.take_append_drop]
theorem row_get {enc : α → Value × Value} {base g c n : Nat} {d : List α} {w : World} (x0 : α) (h : Row enc base g c n d w) {i : Nat} (hi : i < d.length) : w.cell? ⟨g, i * 2, none⟩ = some (enc (d.getD i x0)).1 ∧ w.cell? ⟨g, i * 2 + 1, none⟩ = some (enc (d.getD i x0)).2 := by
  have h2 : Row enc base g c n (d.take i ++ d.getD i x0 :: d.drop (i + 1)) w := by rw [← split_at x0 hi]; exact h
  have := row_at h2
  rw [show (d.take i).length = i by simp; omega] at this
  exact this
/-- What a comparison of two places reads. -/
abbrev SM (sl : α → (Option Addr × Nat × Nat) × (Option Addr × Nat × Nat)) (w0 : World) (g i j : Nat) (x y : α) (w : World) : Prop := w.cell? ⟨g, i * 2, none⟩ = some (encS sl x).1 ∧ w.cell? ⟨g, i * 2 + 1, none⟩ = some (encS sl x).2 ∧ w.cell? ⟨g, j * 2, none⟩ = some (encS sl y).1 ∧ w.cell? ⟨g, j * 2 + 1, none⟩ = some (encS sl y).2 ∧ Below w0.heap.size w0 w
theorem SM.of {sl : α → (Option Addr × Nat × Nat) × (Option Addr × Nat × Nat)} {w0 w : World} {base g c n i j : Nat} {d : List α} (x0 : α) (h : Row (encS sl) base g c n d w) (hi : i < d.length) (hj : j < d.length) (hb : Below w0.heap.size w0 w) : SM sl w0 g i j (d.getD i x0) (d.getD j x0) w :=
  ⟨(row_get x0 h hi).1, (row_get x0 h hi).2, (row_get x0 h hj).1, (row_get x0 h hj).2, hb⟩
theorem pw_get {lt : α → α → Bool} {L : List α} (h : Sorted lt L) (x0 : α) {i j : Nat} (hij : i < j) (hj : j < L.length) : lt (L.getD j x0) (L.getD i x0) = false := by
  have e1 : L.getD j x0 = L[j] := by simp [hj]
  have e2 : L.getD i x0 = L[i]'(by omega) := by simp [show i < L.length by omega]
  rw [e1, e2]
  exact (List.pairwise_iff_getElem.1 h) i j (by omega) hj hij
theorem mem_get {L : List α} {x x0 : α} (h : x ∈ L) : ∃ i, i < L.length ∧ L.getD i x0 = x := by
  obtain ⟨i, hi, e⟩ := List.getElem_of_mem h
  exact ⟨i, hi, by simp [hi, e]⟩
theorem get_mem {L : List α} {i : Nat} (x0 : α) (h : i < L.length) : L.getD i x0 ∈ L := by
  have e : L.getD i x0 = L[i] := by simp [h]
  rw [e]; exact List.getElem_mem h
/-- One goes behind those that are less. -/
theorem one_left {lt : α → α → Bool} (O : Ord lt) {X V Z : List α} {u : α} {p : Nat} (hs : Sorted lt V) (hp : p ≤ V.length) (h1 : p = 0 ∨ lt (V.getD (p - 1) u) u = true) (h2 : p = V.length ∨ lt (V.getD p u) u = false) :
    Sorted lt (V.take p ++ u :: V.drop p) ∧ (V.take p ++ u :: V.drop p).Perm ([u] ++ V) ∧ isort lt (X ++ ((V.take p ++ u :: V.drop p) ++ Z)) = isort lt (X ++ ([u] ++ (V ++ Z))) := by
  have hl : ∀ v ∈ V.take p, lt v u = true := by
    intro v hv
    obtain ⟨i, hi, rfl⟩ := mem_get (x0 := u) hv
    have hi' : i < p := by simp at hi; omega
    have e : (V.take p).getD i u = V.getD i u := by simp [List.getD_eq_getElem?_getD, hi']
    rw [e]
    rcases h1 with h1 | h1
    · omega
    · by_cases hip : i = p - 1
      · rw [hip]; exact h1
      · have h3 := pw_get hs u (show i < p - 1 by omega) (by omega)
        cases h4 : lt (V.getD i u) u with
        | true => rfl
        | false => rw [O.ntrans _ _ _ h3 h4] at h1; cases h1
  have hr : ∀ v ∈ V.drop p, lt v u = false := by
    intro v hv
    obtain ⟨i, hi, rfl⟩ := mem_get (x0 := u) hv
    have hi' : p + i < V.length := by simp at hi; omega
    have e : (V.drop p).getD i u = V.getD (p + i) u := by simp [List.getD_eq_getElem?_getD]
    rw [e]
    rcases h2 with h2 | h2
    · omega
    · by_cases hip : i = 0
      · rw [hip]; exact h2
      · exact O.ntrans _ _ _ (pw_get hs u (show p < p + i by omega) hi') h2
  refine ⟨?_, ?_, ?_⟩
  · refine List.pairwise_append.2 ⟨hs.sublist (List.take_sublist _ _), List.pairwise_cons.2 ⟨hr, hs.sublist (List.drop_sublist _ _)⟩, ?_⟩
    intro a ha b hb
    rcases List.mem_cons.1 hb with rfl | hb
    · exact O.asym _ _ (hl a ha)
    · exact O.ntrans _ _ _ (hr b hb) (O.asym _ _ (hl a ha))
  · have := List.perm_middle (a := u) (l₁ := V.take p) (l₂ := V.drop p)
    rw [List.take_append_drop] at this
    exact this
  · have h3 := isort_blocks O X (V.drop p ++ Z) [u] (V.take p) (fun v hv x hx => by rw [List.mem_singleton.1 hx]; exact hl v hv)
    have e : V ++ Z = V.take p ++ (V.drop p ++ Z) := by rw [← List.append_assoc, List.take_append_drop]
    rw [e]
    simpa using h3
/-- One goes ahead of those that are greater. -/
theorem one_right {lt : α → α → Bool} (O : Ord lt) {X U Z : List α} {v : α} {p : Nat} (hs : Sorted lt U) (hp : p ≤ U.length) (h1 : p = 0 ∨ lt v (U.getD (p - 1) v) = false) (h2 : p = U.length ∨ lt v (U.getD p v) = true) :
    Sorted lt (U.take p ++ v :: U.drop p) ∧ (U.take p ++ v :: U.drop p).Perm (U ++ [v]) ∧ isort lt (X ++ ((U.take p ++ v :: U.drop p) ++ Z)) = isort lt (X ++ (U ++ ([v] ++ Z))) := by
  have hl : ∀ u ∈ U.take p, lt v u = false := by
    intro u hu
    obtain ⟨i, hi, rfl⟩ := mem_get (x0 := v) hu
    have hi' : i < p := by simp at hi; omega
    have e : (U.take p).getD i v = U.getD i v := by simp [List.getD_eq_getElem?_getD, hi']
    rw [e]
    rcases h1 with h1 | h1
    · omega
    · by_cases hip : i = p - 1
      · rw [hip]; exact h1
      · exact O.ntrans _ _ _ h1 (pw_get hs v (show i < p - 1 by omega) (by omega))
  have hr : ∀ u ∈ U.drop p, lt v u = true := by
    intro u hu
    obtain ⟨i, hi, rfl⟩ := mem_get (x0 := v) hu
    have hi' : p + i < U.length := by simp at hi; omega
    have e : (U.drop p).getD i v = U.getD (p + i) v := by simp [List.getD_eq_getElem?_getD]
    rw [e]
    rcases h2 with h2 | h2
    · omega
    · by_cases hip : i = 0
      · rw [hip]; exact h2
      · have h3 := pw_get hs v (show p < p + i by omega) hi'
        cases h4 : lt v (U.getD (p + i) v) with
        | true => rfl
        | false => rw [O.ntrans _ _ _ h4 h3] at h2; cases h2
  refine ⟨?_, ?_, ?_⟩
  · refine List.pairwise_append.2 ⟨hs.sublist (List.take_sublist _ _), List.pairwise_cons.2 ⟨fun b hb => O.asym _ _ (hr b hb), hs.sublist (List.drop_sublist _ _)⟩, ?_⟩
    intro a ha b hb
    rcases List.mem_cons.1 hb with rfl | hb
    · exact hl a ha
    · exact O.ntrans _ _ _ (O.asym _ _ (hr b hb)) (hl a ha)
  · have := List.perm_middle (a := v) (l₁ := U.take p) (l₂ := U.drop p)
    rw [List.take_append_drop] at this
    exact this.trans (List.perm_append_singleton v U).symm
  · have h3 := isort_blocks O (X ++ U.take p) Z (U.drop p) [v] (fun x hx u hu => by rw [List.mem_singleton.1 hx]; exact hr u hu)
    have e : U ++ ([v] ++ Z) = U.take p ++ (U.drop p ++ ([v] ++ Z)) := by rw [← List.append_assoc (U.take p), List.take_append_drop]
    rw [e]
    simpa using h3
set_option maxHeartbeats 8000000 in
set_option maxRecDepth 100000 in
theorem fSym1 (sl : α → (Option Addr × Nat × Nat) × (Option Addr × Nat × Nat)) (lt : α → α → Bool) (O : Ord lt) (base g c n ia im ib : Nat) (D X V Z : List α) (u : α) (w0 w : World) (hn : n ≤ 1048576) (hia : X.length = ia) (him : ia + 1 = im) (hib : im + V.length = ib) (hs : Sorted lt V) (hD : ∀ x ∈ u :: V, x ∈ D) (HC : CmpOk sl lt w0 g D) (hg : w0.grownBy w (some g)) (hr : Row (encS sl) base g c n (X ++ ([u] ++ (V ++ Z))) w) :
    Calls Try.prog 68 #[.slice (some ⟨g, 0, none⟩) n c, .int .i64 ia, .int .i64 im, .int .i64 ib, fvC] w fun e w' => e = .returned (.tuple #[]) ∧ ∃ M, Sorted lt M ∧ M.Perm ([u] ++ V) ∧ isort lt (X ++ (M ++ Z)) = isort lt (X ++ ([u] ++ (V ++ Z))) ∧ Row (encS sl) base g c n (X ++ (M ++ Z)) w' ∧ w0.grownBy w' (some g) := by
  have hl := row_len hr
  simp only [List.length_append, List.length_singleton] at hl
  have HR := hid hr
  have HG := hid hg
  have HS := hid hs
  have HDD := hid hD
  have HLD : Hid ((X ++ ([u] ++ (V ++ Z))).length = n) := row_len hr
  have HGU : Hid ((X ++ ([u] ++ (V ++ Z))).getD ia u = u) := by unfold Hid; rw [← hia]; simp [List.getD_eq_getElem?_getD]
  have HGV : Hid (∀ p, p < V.length → (X ++ ([u] ++ (V ++ Z))).getD (im + p) u = V.getD p u) := by
    intro p hp
    have e : im + p = X.length + (p + 1) := by omega
    rw [e]
    simp [List.getD_eq_getElem?_getD, List.getElem?_append_right, List.getElem?_append_left hp]
  have q1 : im ≤ 1048576 := by omega
  have q2 : ib ≤ 1048576 := by omega
  have q3 : ia ≤ 1048576 := by omega
  have q4 : ib ≤ n := by omega
  have w1 : (im : Int) - (ia : Int) = 1 := by omega
  have HIA := hid hia
  have HIM := hid him
  have HIB := hid hib
  clear hr hg hs hD hia him hib hl
  go_enter Try.func68, Try.ntmps68
  go_wp2
  clear w1
  go_loopw [10, 11] (fun si sj wr => ∃ (p q : Nat), p ≤ q ∧ q ≤ V.length ∧ si = .int .i64 ((im + p : Nat) : Int) ∧ sj = .int .i64 ((im + q : Nat) : Int) ∧ Hid (p = 0 ∨ lt (V.getD (p - 1) u) u = true) ∧ Hid (q = V.length ∨ lt (V.getD q u) u = false) ∧ Hid (Row (encS sl) base g c n (X ++ ([u] ++ (V ++ Z))) wr) ∧ Hid (w0.grownBy wr (some g))) (fun si sj _ => (intOf sj).toNat - (intOf si).toNat)
  case atStart => exact ⟨0, V.length, Nat.zero_le _, Nat.le_refl _, by simp, by rw [HIB.out], .inl rfl, .inl rfl, HR.out, HG.out⟩
  case round =>
    obtain ⟨p, q, hpq, hqV, rfl, rfl, HP, HQ, HRw, HGw⟩ := hrel
    clear HR HG
    obtain ⟨lo, hlo⟩ : ∃ lo, lo = im + p := ⟨_, rfl⟩
    obtain ⟨hi, hhi⟩ : ∃ hi, hi = im + q := ⟨_, rfl⟩
    rw [← hlo, ← hhi]
    have ql : lo ≤ 1048576 := by have := HIB.out; omega
    have qh : hi ≤ 1048576 := by have := HIB.out; omega
    by_cases hlt : p < q
    · have hlt' : (lo : Int) < (hi : Int) := by omega
      obtain ⟨h, hh⟩ : ∃ h, h = (lo + hi) / 2 := ⟨_, rfl⟩
      have hh3 : ((lo : Int) + (hi : Int)) / 2 = (h : Int) := by omega
      have HHI := hid hh3
      obtain ⟨r, hr⟩ : ∃ r, r = h - im := ⟨_, rfl⟩
      have hr1 : h = im + r := by omega
      have hr2 : p ≤ r := by omega
      have hr3 : r < q := by omega
      have hhn : h < n := by have := HIB.out; omega
      have han : ia < n := by have := HIM.out; omega
      have HSM : Hid (SM sl wr.drew g h ia (V.getD r u) u wr.drew) := by
        have h1 := SM.of (i := h) (j := ia) u (row_drew HRw.out) (by rw [HLD.out]; exact hhn) (by rw [HLD.out]; exact han) (Below.refl _ wr.drew)
        rw [HGU.out, hr1, HGV.out r (by omega), ← hr1] at h1
        exact h1
      have HCC := hid (HC.cmp wr.drew (V.getD r u) u (HDD.out _ (List.mem_cons_of_mem _ (get_mem u (by omega)))) (HDD.out _ List.mem_cons_self) (gr_drew HGw.out))
      have HGl : Hid (g < wr.drew.heap.size) := (HRw.out.lt g rfl).2
      have i1 : (h : Int) < (n : Int) := by omega
      have i2 : (ia : Int) < (n : Int) := by omega
      have i3 : (0 : Int) ≤ (h : Int) := by omega
      have i4 : (0 : Int) ≤ (ia : Int) := by omega
      have HH := hid (And.intro hlo (And.intro hhi hr1))
      have hmm : lo ≤ h ∧ h < hi := by omega
      clear hh hh3 hr hlo hhi hr1
      go_upto_region 5 with fail
      rw [HHI.out]
      go_cut [50] from 31 to 53 (fun cc wx => cc = .bool (lt (V.getD r u) u) ∧ Hid (Row (encS sl) base g c n (X ++ ([u] ++ (V ++ Z))) wx) ∧ Hid (w0.grownBy wx (some g)))
      case first =>
        generalize V.getD r u = y at *
        go_region_held3 (fun x => SM sl wr.drew g h ia y u x) (first | exact HSM.out | assumption) (first | (go_at_call 24; refine HCC.out.mono ?_; rintro e w2 ⟨z, rfl, hz, hb2⟩; have hs2 : SM sl wr.drew g h ia y u w2 := ⟨(hb2.cell (p := ⟨g, h * 2, none⟩) HGl.out).trans HSM.out.1, (hb2.cell (p := ⟨g, h * 2 + 1, none⟩) HGl.out).trans HSM.out.2.1, (hb2.cell (p := ⟨g, ia * 2, none⟩) HGl.out).trans HSM.out.2.2.1, (hb2.cell (p := ⟨g, ia * 2 + 1, none⟩) HGl.out).trans HSM.out.2.2.2.1, hb2⟩))
        go_wp2
        go_meet
        exact ⟨by rw [← hz], row_below (row_drew HRw.out) hb2, gr_below (gr_drew HGw.out) hb2⟩
      case rest =>
      obtain ⟨rfl, HR2, HG2⟩ := hcut
      cases hc : lt (V.getD r u) u with
      | true =>
        go_wp2
        go_roundw
        case rel => exact ⟨r + 1, q, by omega, hqV, by have := HH.out; first | (congr 1; omega) | go_num, by rw [← HH.out.2.1], .inr hc, HQ.out, HR2.out, HG2.out⟩
        case measure => simp [intOf]; omega
      | false =>
        go_wp2
        go_roundw
        case rel => exact ⟨p, r, hr2, by omega, by rw [← HH.out.1], by rw [← HH.out.2.2], HP.out, .inr hc, HR2.out, HG2.out⟩
        case measure => simp [intOf]; omega
    · obtain rfl : p = q := by omega
      have hlt' : ¬ (lo : Int) < (hi : Int) := by omega
      have HF := hid (one_left (X := X) (Z := Z) O HS.out hqV HP.out HQ.out)
      have hk0 : (lo : Int) - 1 = ((ia + p : Nat) : Int) := by have := HIM.out; omega
      have HLO := hid hlo
      clear HP HQ hlo hhi
      go_wp2
      go_loopw [13] (fun sk wr => ∃ V1 V2 : List α, V.take p = V1 ++ V2 ∧ V1.length ≤ p ∧ sk = .int .i64 ((ia + V1.length : Nat) : Int) ∧ Hid (Row (encS sl) base g c n (X ++ (V1 ++ u :: (V2 ++ (V.drop p ++ Z)))) wr) ∧ Hid (w0.grownBy wr (some g))) (fun sk _ => n - (intOf sk).toNat)
      case atStart =>
        refine ⟨[], V.take p, rfl, Nat.zero_le _, by simp, ?_, HGw.out⟩
        have h1 := HRw.out
        have e : X ++ ([] ++ u :: (V.take p ++ (V.drop p ++ Z))) = X ++ ([u] ++ (V ++ Z)) := by
          rw [← List.append_assoc (V.take p), List.take_append_drop]; rfl
        unfold Hid; rw [e]; exact h1
      case round =>
        obtain ⟨V1, V2, hV12, hV1p, rfl, HRk, HGk⟩ := hrel
        have hlen : V1.length + V2.length = p := by
          have := congrArg List.length hV12
          simp at this; omega
        cases V2 with
        | nil =>
          have hz : V1.length = p := by simpa using hlen
          have HR3 : Hid (Row (encS sl) base g c n (X ++ ((V.take p ++ u :: V.drop p) ++ Z)) wr) := by
            have h1 := HRk.out
            unfold Hid; rw [hV12, List.append_nil]; simpa using h1
          have HFF := HF
          clear hV12 hlen HRk
          rw [hz]
          obtain ⟨kk, hkk⟩ : ∃ kk, kk = ia + p := ⟨_, rfl⟩
          rw [← hkk] at hk0 ⊢
          go_wp2
          (try simp only [Exit.inBlock, Exit.then]); refine bodyPost_ret (results_none rfl _ _ _) rfl ?_
          exact ⟨rfl, _, HFF.out.1, HFF.out.2.1, HFF.out.2.2, HR3.out, HGk.out⟩
        | cons y V2 =>
          have HV12 := hid hV12
          have HEX : Hid (Exch (encS sl) base g c n w wr.drew (X ++ V1).length ((X ++ V1).length + 1 + ([] : List α).length) u y ((X ++ V1) ++ y :: ([] ++ u :: (V2 ++ (V.drop p ++ Z))))) := by
            refine exch ?_
            have h1 := row_drew HRk.out
            simpa using h1
          have e1 : (X ++ V1).length = ia + V1.length := by rw [List.length_append, HIA.out]
          obtain ⟨k, hk⟩ : ∃ k, k = ia + V1.length := ⟨_, rfl⟩
          obtain ⟨j, hj⟩ : ∃ j, j = k + 1 := ⟨_, rfl⟩
          rw [e1, ← hk, show k + 1 + ([] : List α).length = j by simp [hj]] at HEX
          have HE3 : Hid ((X ++ V1) ++ y :: ([] ++ u :: (V2 ++ (V.drop p ++ Z))) = X ++ ((V1 ++ [y]) ++ u :: (V2 ++ (V.drop p ++ Z)))) := by unfold Hid; simp
          rw [HE3.out] at HEX
          have hpl : V1.length < p := by simp at hlen; omega
          have hjn : j < n := by have := HIB.out; have := HIM.out; omega
          have hkp : (k : Int) < ((ia + p : Nat) : Int) := by omega
          have hw1 : IntKind.i64.wrap ((k : Int) + 1) = (j : Int) := by rw [IntKind.wrap_i64]; omega
          have i1 : (k : Int) < (n : Int) := by omega
          have j1 : (j : Int) < (n : Int) := by omega
          have i0 : (0 : Int) ≤ (k : Int) := by omega
          have j0 : (0 : Int) ≤ (j : Int) := by omega
          have HG2 := hid (gr_set (gr_set (gr_set (gr_set (gr_drew HGk.out) (k * 2) (encS sl y).1) (k * 2 + 1) (encS sl y).2) (j * 2) (encS sl u).1) (j * 2 + 1) (encS sl u).2)
          have HN2 := hid HEX.out.lo
          have a0 := HEX.out.a0
          have a1 := HEX.out.a1
          have b0 := HEX.out.b0
          have b1 := HEX.out.b1
          have f1 := HEX.out.fz (k * 2)
          have f2 := HEX.out.fz (k * 2 + 1)
          have f3 := HEX.out.fz (j * 2)
          have f4 := HEX.out.fz (j * 2 + 1)
          have qk : k ≤ 1048576 := by omega
          have hij2 : k < j := by omega
          have HKJ := hid (And.intro hk hj)
          simp only at a0 a1 b0 b1
          rw [← hk]
          generalize ia + p = iap at *
          clear hV12 hk hj e1 hlen
          go_wp2_with fail
          refine wp_region_held_drew (S := fun _ => True) rfl trivial (fun _ => ?_)
          generalize wr.drew = wd at *
          refine wpAnyH_take (i := 0) (oi := { dst := some 61, op := _, type := _, pos := _, after := _, guard := _ }) (v := .slice (some ⟨g, 0, none⟩) n c) rfl (by kernel_rfl) (by kernel_rfl) (by kernel_rfl) (fun _ _ _ h => h) (Or.inl ⟨by rfl, fun w hSw => by go_simp⟩) (by trivial) ?_
          try simp only [Act.put, List.setIfInBounds_toArray, List.set_cons_zero, List.set_cons_succ]
          refine wpAnyH_take (i := 1) (oi := { dst := some 62, op := _, type := _, pos := _, after := _, guard := _ }) (v := .int .i64 (k : Int)) rfl (by kernel_rfl) (by kernel_rfl) (by kernel_rfl) (fun _ _ _ h => h) (Or.inl ⟨by rfl, fun w hSw => by go_simp⟩) (by trivial) ?_
          try simp only [Act.put, List.setIfInBounds_toArray, List.set_cons_zero, List.set_cons_succ]
          refine wpAnyH_take (i := 2) (oi := { dst := some 63, op := _, type := _, pos := _, after := _, guard := _ }) (v := .slice (some ⟨g, 0, none⟩) n c) rfl (by kernel_rfl) (by kernel_rfl) (by kernel_rfl) (fun _ _ _ h => h) (Or.inl ⟨by rfl, fun w hSw => by go_simp⟩) (by trivial) ?_
          try simp only [Act.put, List.setIfInBounds_toArray, List.set_cons_zero, List.set_cons_succ]
          refine wpAnyH_take (i := 3) (oi := { dst := some 64, op := _, type := _, pos := _, after := _, guard := _ }) (v := .int .i64 (k : Int)) rfl (by kernel_rfl) (by kernel_rfl) (by kernel_rfl) (fun _ _ _ h => h) (Or.inl ⟨by rfl, fun w hSw => by go_simp⟩) (by trivial) ?_
          try simp only [Act.put, List.setIfInBounds_toArray, List.set_cons_zero, List.set_cons_succ]
          refine wpAnyH_take (i := 4) (oi := { dst := some 65, op := _, type := _, pos := _, after := _, guard := _ }) (v := .int .i64 (j : Int)) rfl (by kernel_rfl) (by kernel_rfl) (by kernel_rfl) (fun _ _ _ h => h) (Or.inl ⟨by rfl, fun w hSw => by go_simp⟩) (by trivial) ?_
          try simp only [Act.put, List.setIfInBounds_toArray, List.set_cons_zero, List.set_cons_succ]
          refine wpAnyH_take (i := 5) (oi := { dst := some 66, op := _, type := _, pos := _, after := _, guard := _ }) (v := .slice (some ⟨g, 0, none⟩) n c) rfl (by kernel_rfl) (by kernel_rfl) (by kernel_rfl) (fun _ _ _ h => h) (Or.inl ⟨by rfl, fun w hSw => by go_simp⟩) (by trivial) ?_
          try simp only [Act.put, List.setIfInBounds_toArray, List.set_cons_zero, List.set_cons_succ]
          refine wpAnyH_take (i := 6) (oi := { dst := some 67, op := _, type := _, pos := _, after := _, guard := _ }) (v := .int .i64 (k : Int)) rfl (by kernel_rfl) (by kernel_rfl) (by kernel_rfl) (fun _ _ _ h => h) (Or.inl ⟨by rfl, fun w hSw => by go_simp⟩) (by trivial) ?_
          try simp only [Act.put, List.setIfInBounds_toArray, List.set_cons_zero, List.set_cons_succ]
          refine wpAnyH_take (i := 7) (oi := { dst := some 68, op := _, type := _, pos := _, after := _, guard := _ }) (v := .int .i64 (j : Int)) rfl (by kernel_rfl) (by kernel_rfl) (by kernel_rfl) (fun _ _ _ h => h) (Or.inl ⟨by rfl, fun w hSw => by go_simp⟩) (by trivial) ?_
          try simp only [Act.put, List.setIfInBounds_toArray, List.set_cons_zero, List.set_cons_succ]
          refine wpAnyH_take (i := 8) (oi := { dst := some 69, op := _, type := _, pos := _, after := _, guard := _ }) (v := .pointer (some ⟨g, j * 2, none⟩)) rfl (by kernel_rfl) (by kernel_rfl) (by kernel_rfl) (fun _ _ _ h => h) (Or.inl ⟨by rfl, fun w hSw => by go_simp⟩) (by trivial) ?_
          try simp only [Act.put, List.setIfInBounds_toArray, List.set_cons_zero, List.set_cons_succ]
          refine wpAnyH_take (i := 10) (oi := { dst := some 71, op := _, type := _, pos := _, after := _, guard := _ }) (v := .slice (some ⟨g, 0, none⟩) n c) rfl (by kernel_rfl) (by kernel_rfl) (by kernel_rfl) (fun _ _ _ h => h) (Or.inl ⟨by rfl, fun w hSw => by go_simp⟩) (by trivial) ?_
          try simp only [Act.put, List.setIfInBounds_toArray, List.set_cons_zero, List.set_cons_succ]
          refine wpAnyH_take (i := 11) (oi := { dst := some 72, op := _, type := _, pos := _, after := _, guard := _ }) (v := .int .i64 (k : Int)) rfl (by kernel_rfl) (by kernel_rfl) (by kernel_rfl) (fun _ _ _ h => h) (Or.inl ⟨by rfl, fun w hSw => by go_simp⟩) (by trivial) ?_
          try simp only [Act.put, List.setIfInBounds_toArray, List.set_cons_zero, List.set_cons_succ]
          refine wpAnyH_take (i := 12) (oi := { dst := some 73, op := _, type := _, pos := _, after := _, guard := _ }) (v := .pointer (some ⟨g, k * 2, none⟩)) rfl (by kernel_rfl) (by kernel_rfl) (by kernel_rfl) (fun _ _ _ h => h) (Or.inl ⟨by rfl, fun w hSw => by go_simp⟩) (by trivial) ?_
          try simp only [Act.put, List.setIfInBounds_toArray, List.set_cons_zero, List.set_cons_succ]
          refine wpAnyH_ready (rs := [9, 13]) (by kernel_rfl) (by simp) (AllReadyH.cons (o := { dst := some 70, op := _, type := _, pos := _, after := _, guard := _ }) rfl ?_ (AllReadyH.cons (o := { dst := some 74, op := _, type := _, pos := _, after := _, guard := _ }) rfl ?_ AllReadyH.nil))
          · intro K1 hK1
            go_simp
            refine hK1.out _ _ trivial (fun _ => ?_)
            clear hK1 K1
            try simp only [Act.put, List.setIfInBounds_toArray, List.set_cons_zero, List.set_cons_succ]
            refine wpAnyH_ready (rs := [13]) (by kernel_rfl) (by simp) (AllReadyH.cons (o := { dst := some 74, op := _, type := _, pos := _, after := _, guard := _ }) rfl ?_ AllReadyH.nil)
            intro K2 hK2
            go_simp
            refine hK2.out _ _ trivial (fun _ => ?_)
            clear hK2 K2
            try simp only [Act.put, List.setIfInBounds_toArray, List.set_cons_zero, List.set_cons_succ]
            refine wpAnyH_take (i := 14) (oi := { dst := some 75, op := _, type := _, pos := _, after := _, guard := _ }) (v := .pointer (some ⟨g, k * 2, none⟩)) rfl (by kernel_rfl) (by kernel_rfl) (by kernel_rfl) (fun _ _ _ h => h) (Or.inl ⟨by rfl, fun w hSw => by go_simp⟩) (by trivial) ?_
            try simp only [Act.put, List.setIfInBounds_toArray, List.set_cons_zero, List.set_cons_succ]
            refine wpAnyH_ready (rs := [15]) (by kernel_rfl) (by simp) (AllReadyH.cons (o := { dst := none, op := _, type := _, pos := _, after := _, guard := _ }) rfl ?_ AllReadyH.nil)
            intro K3 hK3
            go_simp
            refine hK3.out _ _ trivial (fun _ => ?_)
            clear hK3 K3
            try simp only [Act.put, List.setIfInBounds_toArray, List.set_cons_zero, List.set_cons_succ]
            refine wpAnyH_take (i := 16) (oi := { dst := some 76, op := _, type := _, pos := _, after := _, guard := _ }) (v := .pointer (some ⟨g, j * 2, none⟩)) rfl (by kernel_rfl) (by kernel_rfl) (by kernel_rfl) (fun _ _ _ h => h) (Or.inl ⟨by rfl, fun w hSw => by go_simp⟩) (by trivial) ?_
            try simp only [Act.put, List.setIfInBounds_toArray, List.set_cons_zero, List.set_cons_succ]
            refine wpAnyH_ready (rs := [17]) (by kernel_rfl) (by simp) (AllReadyH.cons (o := { dst := none, op := _, type := _, pos := _, after := _, guard := _ }) rfl ?_ AllReadyH.nil)
            intro K4 hK4
            go_simp
            refine hK4.out _ _ trivial (fun _ => ?_)
            clear hK4 K4
            try simp only [Act.put, List.setIfInBounds_toArray, List.set_cons_zero, List.set_cons_succ]
            refine wpAnyH_done (by kernel_rfl) ?_ _
            go_wp2
            go_roundw
            case rel => exact ⟨V1 ++ [y], V2, by rw [HV12.out]; simp, by simp; omega, by (have hkj := HKJ.out; rw [List.length_append, List.length_singleton]; congr 1; omega), HN2.out, HG2.out⟩
            case measure => simp [intOf]; omega
          · intro K5 hK5
            go_simp
            refine hK5.out _ _ trivial (fun _ => ?_)
            clear hK5 K5
            try simp only [Act.put, List.setIfInBounds_toArray, List.set_cons_zero, List.set_cons_succ]
            refine wpAnyH_ready (rs := [9]) (by kernel_rfl) (by simp) (AllReadyH.cons (o := { dst := some 70, op := _, type := _, pos := _, after := _, guard := _ }) rfl ?_ AllReadyH.nil)
            intro K6 hK6
            go_simp
            refine hK6.out _ _ trivial (fun _ => ?_)
            clear hK6 K6
            try simp only [Act.put, List.setIfInBounds_toArray, List.set_cons_zero, List.set_cons_succ]
            refine wpAnyH_take (i := 14) (oi := { dst := some 75, op := _, type := _, pos := _, after := _, guard := _ }) (v := .pointer (some ⟨g, k * 2, none⟩)) rfl (by kernel_rfl) (by kernel_rfl) (by kernel_rfl) (fun _ _ _ h => h) (Or.inl ⟨by rfl, fun w hSw => by go_simp⟩) (by trivial) ?_
            try simp only [Act.put, List.setIfInBounds_toArray, List.set_cons_zero, List.set_cons_succ]
            refine wpAnyH_ready (rs := [15]) (by kernel_rfl) (by simp) (AllReadyH.cons (o := { dst := none, op := _, type := _, pos := _, after := _, guard := _ }) rfl ?_ AllReadyH.nil)
            intro K7 hK7
            go_simp
            refine hK7.out _ _ trivial (fun _ => ?_)
            clear hK7 K7
            try simp only [Act.put, List.setIfInBounds_toArray, List.set_cons_zero, List.set_cons_succ]
            refine wpAnyH_take (i := 16) (oi := { dst := some 76, op := _, type := _, pos := _, after := _, guard := _ }) (v := .pointer (some ⟨g, j * 2, none⟩)) rfl (by kernel_rfl) (by kernel_rfl) (by kernel_rfl) (fun _ _ _ h => h) (Or.inl ⟨by rfl, fun w hSw => by go_simp⟩) (by trivial) ?_
            try simp only [Act.put, List.setIfInBounds_toArray, List.set_cons_zero, List.set_cons_succ]
            refine wpAnyH_ready (rs := [17]) (by kernel_rfl) (by simp) (AllReadyH.cons (o := { dst := none, op := _, type := _, pos := _, after := _, guard := _ }) rfl ?_ AllReadyH.nil)
            intro K8 hK8
            go_simp
            refine hK8.out _ _ trivial (fun _ => ?_)
            clear hK8 K8
            try simp only [Act.put, List.setIfInBounds_toArray, List.set_cons_zero, List.set_cons_succ]
            refine wpAnyH_done (by kernel_rfl) ?_ _
            go_wp2
            go_roundw
            case rel => exact ⟨V1 ++ [y], V2, by rw [HV12.out]; simp, by simp; omega, by (have hkj := HKJ.out; rw [List.length_append, List.length_singleton]; congr 1; omega), HN2.out, HG2.out⟩
            case measure => simp [intOf]; omega
end Go.Proofs.Ytailoeloonnoeaa.Stb
