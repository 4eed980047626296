/- The library's symMergeCmpFunc at series: two sorted blocks become one, stably. -/
import Derived.Test.YtailoeloonnoeaaRStf
namespace Go.Proofs.Ytailoeloonnoeaa.Stb
open Go.RowKit
variable {α : Type}
theorem sym_cut {lt : α → α → Bool} (O : Ord lt) {U V : List α} (x0 : α) {i j : Nat} (hU : Sorted lt U) (hV : Sorted lt V) (hi : i ≤ U.length) (hj : j ≤ V.length) (hA : i = 0 ∨ j = V.length ∨ lt (V.getD j x0) (U.getD (i - 1) x0) = false) (hB : i = U.length ∨ j = 0 ∨ lt (V.getD (j - 1) x0) (U.getD i x0) = true) :
    (∀ x ∈ U.take i, ∀ y ∈ V.drop j, lt y x = false) ∧ (∀ y ∈ V.take j, ∀ x ∈ U.drop i, lt y x = true) := by
  constructor
  · intro x hx y hy
    obtain ⟨a, ha, rfl⟩ := mem_get (x0 := x0) hx
    obtain ⟨b, hb, rfl⟩ := mem_get (x0 := x0) hy
    have ha' : a < i := by simp at ha; omega
    have hb' : j + b < V.length := by simp at hb; omega
    rw [show (U.take i).getD a x0 = U.getD a x0 by simp [List.getD_eq_getElem?_getD, ha'], show (V.drop j).getD b x0 = V.getD (j + b) x0 by simp [List.getD_eq_getElem?_getD]]
    rcases hA with h | h | h
    · omega
    · omega
    · have h1 : lt (V.getD (j + b) x0) (U.getD (i - 1) x0) = false := by
        by_cases e : b = 0
        · rw [e]; exact h
        · exact O.ntrans _ _ _ (pw_get hV x0 (show j < j + b by omega) hb') h
      by_cases e : a = i - 1
      · rw [e]; exact h1
      · exact O.ntrans _ _ _ h1 (pw_get hU x0 (show a < i - 1 by omega) (by omega))
  · intro y hy x hx
    obtain ⟨a, ha, rfl⟩ := mem_get (x0 := x0) hx
    obtain ⟨b, hb, rfl⟩ := mem_get (x0 := x0) hy
    have hb' : b < j := by simp at hb; omega
    have ha' : i + a < U.length := by simp at ha; omega
    rw [show (V.take j).getD b x0 = V.getD b x0 by simp [List.getD_eq_getElem?_getD, hb'], show (U.drop i).getD a x0 = U.getD (i + a) x0 by simp [List.getD_eq_getElem?_getD]]
    rcases hB with h | h | h
    · omega
    · omega
    · have h1 : lt (V.getD b x0) (U.getD i x0) = true := by
        by_cases e : b = j - 1
        · rw [e]; exact h
        · have h2 := pw_get hV x0 (show b < j - 1 by omega) (by omega)
          cases h3 : lt (V.getD b x0) (U.getD i x0) with
          | true => rfl
          | false => rw [O.ntrans _ _ _ h2 h3] at h; cases h
      by_cases e : a = 0
      · rw [e]; exact h1
      · have h2 := pw_get hU x0 (show i < i + a by omega) ha'
        cases h3 : lt (V.getD b x0) (U.getD (i + a) x0) with
        | true => rfl
        | false => rw [O.ntrans _ _ _ h3 h2] at h1; cases h1
theorem sym_join {lt : α → α → Bool} (O : Ord lt) {X U V Z M1 M2 : List α} {i j : Nat} (hU : Sorted lt U) (hV : Sorted lt V) (hc : (∀ x ∈ U.take i, ∀ y ∈ V.drop j, lt y x = false) ∧ (∀ y ∈ V.take j, ∀ x ∈ U.drop i, lt y x = true))
    (s1 : Sorted lt M1) (p1 : M1.Perm (U.take i ++ V.take j)) (i1 : isort lt (X ++ (M1 ++ (U.drop i ++ (V.drop j ++ Z)))) = isort lt (X ++ (U.take i ++ (V.take j ++ (U.drop i ++ (V.drop j ++ Z))))))
    (s2 : Sorted lt M2) (p2 : M2.Perm (U.drop i ++ V.drop j)) (i2 : isort lt ((X ++ M1) ++ (M2 ++ Z)) = isort lt ((X ++ M1) ++ (U.drop i ++ (V.drop j ++ Z)))) :
    Sorted lt (M1 ++ M2) ∧ (M1 ++ M2).Perm (U ++ V) ∧ isort lt (X ++ ((M1 ++ M2) ++ Z)) = isort lt (X ++ (U ++ (V ++ Z))) := by
  have hUU : ∀ x ∈ U.take i, ∀ y ∈ U.drop i, lt y x = false := by
    have h := hU
    rw [← List.take_append_drop i U] at h
    exact (List.pairwise_append.1 h).2.2
  have hVV : ∀ x ∈ V.take j, ∀ y ∈ V.drop j, lt y x = false := by
    have h := hV
    rw [← List.take_append_drop j V] at h
    exact (List.pairwise_append.1 h).2.2
  refine ⟨List.pairwise_append.2 ⟨s1, s2, fun x hx y hy => ?_⟩, ?_, ?_⟩
  · rcases List.mem_append.1 (p1.mem_iff.1 hx) with hx | hx <;> rcases List.mem_append.1 (p2.mem_iff.1 hy) with hy | hy
    · exact hUU x hx y hy
    · exact hc.1 x hx y hy
    · exact O.asym _ _ (hc.2 x hx y hy)
    · exact hVV x hx y hy
  · have h1 : ((U.take i ++ V.take j) ++ (U.drop i ++ V.drop j)).Perm ((U.take i ++ U.drop i) ++ (V.take j ++ V.drop j)) := by
      simp only [List.append_assoc]
      refine List.Perm.append_left _ ?_
      rw [← List.append_assoc, ← List.append_assoc]
      exact List.Perm.append_right _ List.perm_append_comm
    rw [List.take_append_drop, List.take_append_drop] at h1
    exact (p1.append p2).trans h1
  · have h3 := isort_blocks O (X ++ U.take i) (V.drop j ++ Z) (U.drop i) (V.take j) hc.2
    have e : U ++ (V ++ Z) = U.take i ++ (U.drop i ++ (V.take j ++ (V.drop j ++ Z))) := by
      rw [← List.append_assoc (V.take j), List.take_append_drop, ← List.append_assoc (U.take i), List.take_append_drop]
    rw [e]
    simp only [List.append_assoc] at i1 i2 h3 ⊢
    rw [i2, i1, h3]
/-- What symMergeCmpFunc gives. -/
def Sym (sl : α → (Option Addr × Nat × Nat) × (Option Addr × Nat × Nat)) (lt : α → α → Bool) (base g c n : Nat) (D : List α) (w0 : World) (k : Nat) : Prop :=
  ∀ (ia im ib : Nat) (X U V Z : List α) (w : World), U.length + V.length ≤ k → 0 < U.length → 0 < V.length → X.length = ia → ia + U.length = im → im + V.length = ib → Sorted lt U → Sorted lt V → (∀ x ∈ U ++ V, x ∈ D) → w0.grownBy w (some g) → Row (encS sl) base g c n (X ++ (U ++ (V ++ Z))) w →
    Calls Try.prog 68 #[.slice (some ⟨g, 0, none⟩) n c, .int .i64 ia, .int .i64 im, .int .i64 ib, fvC] w fun e w' => e = .returned (.tuple #[]) ∧ ∃ M, Sorted lt M ∧ M.Perm (U ++ V) ∧ isort lt (X ++ (M ++ Z)) = isort lt (X ++ (U ++ (V ++ Z))) ∧ Row (encS sl) base g c n (X ++ (M ++ Z)) w' ∧ w0.grownBy w' (some g)
/-- The places that are compared. -/
structure Rg (ia im ib N s0 r0 : Nat) : Prop where
  a : ia ≤ s0
  b : s0 ≤ r0
  c : r0 ≤ im
  d : ∀ x, s0 ≤ x → x < r0 → x < im ∧ im ≤ N - 1 - x ∧ N - 1 - x < ib ∧ x + 1 ≤ N
  e : s0 = ia ∨ N - s0 = ib
  f : r0 = im ∨ N - r0 = im
  g : r0 ≤ N
  h : N ≤ ib + s0
  k : im ≤ N - r0
theorem rg_yes {ia im ib mid N : Nat} (_h1 : ia < im) (_h2 : im < ib) (hm : mid = (ia + ib) / 2) (hN : N = mid + im) (h : mid < im) : Rg ia im ib N (N - ib) mid :=
  ⟨by omega, by omega, by omega, fun x _ _ => by omega, .inr (by omega), .inr (by omega), by omega, by omega, by omega⟩
theorem rg_no {ia im ib mid N : Nat} (_h1 : ia < im) (_h2 : im < ib) (hm : mid = (ia + ib) / 2) (hN : N = mid + im) (h : ¬ mid < im) : Rg ia im ib N ia im :=
  ⟨by omega, by omega, by omega, fun x _ _ => by omega, .inl rfl, .inl rfl, by omega, by omega, by omega⟩
set_option maxHeartbeats 16000000 in
set_option maxRecDepth 100000 in
theorem fSym3 (sl : α → (Option Addr × Nat × Nat) × (Option Addr × Nat × Nat)) (lt : α → α → Bool) (O : Ord lt) (base g c n k : Nat) (D : List α) (w0 : World) (hn : n ≤ 1048576) (HC : CmpOk sl lt w0 g D) (IH : Sym sl lt base g c n D w0 k) (ia im ib : Nat) (X U V Z : List α) (w : World) (hk : U.length + V.length ≤ k + 1) (hU2 : 2 ≤ U.length) (hV2 : 2 ≤ V.length) (hia : X.length = ia) (him : ia + U.length = im) (hib : im + V.length = ib) (hs : Sorted lt U) (hs' : Sorted lt V) (hD : ∀ x ∈ U ++ V, x ∈ D) (hg : w0.grownBy w (some g)) (hr : Row (encS sl) base g c n (X ++ (U ++ (V ++ Z))) w) :
    Calls Try.prog 68 #[.slice (some ⟨g, 0, none⟩) n c, .int .i64 ia, .int .i64 im, .int .i64 ib, fvC] w fun e w' => e = .returned (.tuple #[]) ∧ ∃ M, Sorted lt M ∧ M.Perm (U ++ V) ∧ isort lt (X ++ (M ++ Z)) = isort lt (X ++ (U ++ (V ++ Z))) ∧ Row (encS sl) base g c n (X ++ (M ++ Z)) w' ∧ w0.grownBy w' (some g) := by
  obtain ⟨x0, hx0⟩ : ∃ x0, x0 ∈ U := by
    cases U with
    | nil => simp at hU2
    | cons x U => exact ⟨x, List.mem_cons_self⟩
  have hl := row_len hr
  simp only [List.length_append] at hl
  have HR := hid hr
  have HG := hid hg
  have HS := hid hs
  have HS' := hid hs'
  have HDD := hid hD
  have HLD : Hid ((X ++ (U ++ (V ++ Z))).length = n) := row_len hr
  have HGU : Hid (∀ p, p < U.length → (X ++ (U ++ (V ++ Z))).getD (ia + p) x0 = U.getD p x0) := by
    intro p hp
    rw [← hia]
    simp [List.getD_eq_getElem?_getD, List.getElem?_append_right, List.getElem?_append_left hp]
  have HGV : Hid (∀ p, p < V.length → (X ++ (U ++ (V ++ Z))).getD (im + p) x0 = V.getD p x0) := by
    intro p hp
    rw [← him, ← hia, Nat.add_assoc]
    simp [List.getD_eq_getElem?_getD, List.getElem?_append_right, List.getElem?_append_left hp]
  have q1 : im ≤ 1048576 := by omega
  have q2 : ib ≤ 1048576 := by omega
  have q3 : ia ≤ 1048576 := by omega
  have q4 : ib ≤ n := by omega
  have w1 : (im : Int) - (ia : Int) = (U.length : Int) := by omega
  have w2 : ((U.length : Int) == 1) = false := beq_eq_false_iff_ne.2 (by omega)
  have w3 : (ib : Int) - (im : Int) = (V.length : Int) := by omega
  have w4 : ((V.length : Int) == 1) = false := beq_eq_false_iff_ne.2 (by omega)
  have HIA := hid hia
  have HIM := hid him
  have HIB := hid hib
  have HK := hid hk
  obtain ⟨mid, hmid⟩ : ∃ mid, mid = (ia + ib) / 2 := ⟨_, rfl⟩
  obtain ⟨N, hN⟩ : ∃ N, N = mid + im := ⟨_, rfl⟩
  have hh3 : ((ia : Int) + (ib : Int)) / 2 = (mid : Int) := by omega
  have HHI := hid hh3
  have HRY := hid (rg_yes (ia := ia) (im := im) (ib := ib) (by omega) (by omega) hmid hN)
  have HRN := hid (rg_no (ia := ia) (im := im) (ib := ib) (by omega) (by omega) hmid hN)
  have hmi : mid ≤ 1048576 := by omega
  have HNM := hid (And.intro hmid hN)
  have hN1 : (mid : Int) + (im : Int) = (N : Int) := by omega
  have hN2 : N ≤ 2097152 := by omega
  have hN3 : (N : Int) - 1 = ((N - 1 : Nat) : Int) := by omega
  have hN4 : (mid < im → (N : Int) - (ib : Int) = ((N - ib : Nat) : Int)) := by intro h; omega
  have HN4 := hid hN4
  clear hr hg hs hs' hD hia him hib hl hk hh3 hmid hN hN4 hx0
  go_enter Try.func68, Try.ntmps68
  go_upto_region 25 with fail
  rw [HHI.out]
  clear w1 w2 w3 w4
  go_upto_if 140 with fail
  go_cut [20, 21] from 138 to 219 (fun s20 s21 wx => ∃ s0 r0 : Nat, s20 = .int .i64 s0 ∧ s21 = .int .i64 r0 ∧ Hid (Rg ia im ib N s0 r0) ∧ Hid (wx = w))
  case first =>
    by_cases h : mid < im
    · have h' : (mid : Int) < (im : Int) := by omega
      have hn4 := HN4.out h
      have HRg := hid (HRY.out h)
      go_wp2
      go_meet
      exact ⟨N - ib, mid, by first | rfl | rw [hn4], rfl, HRg.out, rfl⟩
    · have h' : ¬ (mid : Int) < (im : Int) := by omega
      have HRg := hid (HRN.out h)
      go_wp2
      go_meet
      exact ⟨ia, im, rfl, rfl, HRg.out, rfl⟩
  case rest =>
  obtain ⟨s0, r0, rfl, rfl, HRG, hwx⟩ := hcut
  have hwx := hwx.out
  subst hwx
  clear HRY HRN HN4
  obtain ⟨wq, rfl⟩ : ∃ wq, wq = wc := ⟨_, rfl⟩
  obtain ⟨p9, hp9⟩ : ∃ p9, p9 = N - 1 := ⟨_, rfl⟩
  rw [← hp9] at hN3
  have HP9 := hid hp9
  clear hp9
  have hs01 : s0 ≤ 1048576 := by have := HRG.out.b; have := HRG.out.c; omega
  have hr01 : r0 ≤ 1048576 := by have := HRG.out.c; omega
  have hp91 : p9 ≤ 2097152 := by have := HP9.out; omega
  go_wp2
  go_loopw [20, 21] (fun si sj wr => ∃ (s r : Nat), s0 ≤ s ∧ s ≤ r ∧ r ≤ r0 ∧ si = .int .i64 s ∧ sj = .int .i64 r ∧ Hid (s = s0 ∨ lt ((X ++ (U ++ (V ++ Z))).getD (N - s) x0) ((X ++ (U ++ (V ++ Z))).getD (s - 1) x0) = false) ∧ Hid (r = r0 ∨ lt ((X ++ (U ++ (V ++ Z))).getD (N - 1 - r) x0) ((X ++ (U ++ (V ++ Z))).getD r x0) = true) ∧ Hid (Row (encS sl) base g c n (X ++ (U ++ (V ++ Z))) wr) ∧ Hid (w0.grownBy wr (some g))) (fun si sj _ => (intOf sj).toNat - (intOf si).toNat)
  case atStart => exact ⟨s0, r0, Nat.le_refl _, HRG.out.b, Nat.le_refl _, rfl, rfl, .inl rfl, .inl rfl, HR.out, HG.out⟩
  case round =>
    obtain ⟨s, r, hs0, hsr, hr0, rfl, rfl, HA, HB, HRw, HGw⟩ := hrel
    clear HR HG
    by_cases hlt : s < r
    · have hlt' : (s : Int) < (r : Int) := by omega
      obtain ⟨h, hh⟩ : ∃ h, h = (s + r) / 2 := ⟨_, rfl⟩
      have hh3 : ((s : Int) + (r : Int)) / 2 = (h : Int) := by omega
      have HHI2 := hid hh3
      obtain ⟨e1, e2, e3, e4⟩ := HRG.out.d h (by omega) (by omega)
      have ea := HRG.out.a
      obtain ⟨y, hy⟩ : ∃ y, y = N - 1 - h := ⟨_, rfl⟩
      have hpy : (p9 : Int) - (h : Int) = (y : Int) := by have := HP9.out; omega
      have hpw : IntKind.i64.wrap ((p9 : Int) - (h : Int)) = (y : Int) := by rw [IntKind.wrap_i64]; have := HP9.out; omega
      have hyw : IntKind.i64.wrap (y : Int) = (y : Int) := by rw [IntKind.wrap_i64]; omega
      have HSM : Hid (SM sl wr.drew g y h ((X ++ (U ++ (V ++ Z))).getD y x0) ((X ++ (U ++ (V ++ Z))).getD h x0) wr.drew) :=
        SM.of (i := y) (j := h) x0 (row_drew HRw.out) (by rw [HLD.out]; omega) (by rw [HLD.out]; omega) (Below.refl _ wr.drew)
      have HMY : Hid ((X ++ (U ++ (V ++ Z))).getD y x0 ∈ D) := by
        have := HGV.out (y - im) (by have := HIB.out; omega)
        rw [show im + (y - im) = y by omega] at this
        unfold Hid; rw [this]
        exact HDD.out _ (List.mem_append_right _ (get_mem x0 (by have := HIB.out; omega)))
      have HMH : Hid ((X ++ (U ++ (V ++ Z))).getD h x0 ∈ D) := by
        have := HGU.out (h - ia) (by have := HIM.out; omega)
        rw [show ia + (h - ia) = h by omega] at this
        unfold Hid; rw [this]
        exact HDD.out _ (List.mem_append_left _ (get_mem x0 (by have := HIM.out; omega)))
      have HCC := hid (HC.cmp wr.drew _ _ HMY.out HMH.out (gr_drew HGw.out))
      have HGl : Hid (g < wr.drew.heap.size) := (HRw.out.lt g rfl).2
      have HNY : Hid (N - (h + 1) = y ∧ h + 1 - 1 = h) := by unfold Hid; omega
      have i1 : (h : Int) < (n : Int) := by omega
      have i2 : (y : Int) < (n : Int) := by omega
      have i3 : (0 : Int) ≤ (h : Int) := by omega
      have i4 : (0 : Int) ≤ (y : Int) := by omega
      have HY := hid hy
      have hmm : s ≤ h ∧ h < r := by omega
      clear hh hh3 hy e1 e2 e3 e4
      go_upto_region 35 with fail
      rw [HHI2.out]
      generalize hyy : (X ++ (U ++ (V ++ Z))).getD y x0 = yy at *
      generalize hzz : (X ++ (U ++ (V ++ Z))).getD h x0 = zz at *
      go_cut [171] from 149 to 174 (fun cc wx => cc = .bool (!lt yy zz) ∧ Hid (Row (encS sl) base g c n (X ++ (U ++ (V ++ Z))) wx) ∧ Hid (w0.grownBy wx (some g)))
      case first =>
        go_region_held3 (fun x => SM sl wr.drew g y h yy zz x) (first | exact HSM.out | assumption) (first | (go_at_call 24; refine HCC.out.mono ?_; rintro e w2 ⟨z, rfl, hz, hb2⟩; have hs2 : SM sl wr.drew g y h yy zz w2 := ⟨(hb2.cell (p := ⟨g, y * 2, none⟩) HGl.out).trans HSM.out.1, (hb2.cell (p := ⟨g, y * 2 + 1, none⟩) HGl.out).trans HSM.out.2.1, (hb2.cell (p := ⟨g, h * 2, none⟩) HGl.out).trans HSM.out.2.2.1, (hb2.cell (p := ⟨g, h * 2 + 1, none⟩) HGl.out).trans HSM.out.2.2.2.1, hb2⟩))
        go_wp2
        go_meet
        exact ⟨by rw [← hz], row_below (row_drew HRw.out) hb2, gr_below (gr_drew HGw.out) hb2⟩
      case rest =>
      obtain ⟨rfl, HR2, HG2⟩ := hcut
      cases hc : lt yy zz with
      | false =>
        go_wp2
        go_roundw
        case rel => exact ⟨h + 1, r, by omega, by omega, hr0, by first | rfl | go_num, rfl, .inr (by rw [HNY.out.1, HNY.out.2, hyy, hzz]; exact hc), HB.out, HR2.out, HG2.out⟩
        case measure => simp [intOf]; omega
      | true =>
        go_wp2
        go_roundw
        case rel => exact ⟨s, h, hs0, by omega, by omega, rfl, rfl, HA.out, .inr (by rw [← HY.out, hyy, hzz]; exact hc), HR2.out, HG2.out⟩
        case measure => simp [intOf]; omega
    · obtain rfl : s = r := by omega
      have hlt' : ¬ (s : Int) < (s : Int) := by omega
      have ra := HRG.out.a
      have rc := HRG.out.c
      have rg := HRG.out.g
      have rh := HRG.out.h
      obtain ⟨i, hi⟩ : ∃ i, i = s - ia := ⟨_, rfl⟩
      obtain ⟨e, he⟩ : ∃ e, e = N - s := ⟨_, rfl⟩
      obtain ⟨j, hj⟩ : ∃ j, j = e - im := ⟨_, rfl⟩
      have hiU : i ≤ U.length := by have := HIM.out; omega
      have heim : im ≤ e := by have := HRG.out.k; omega
      have hjV : j ≤ V.length := by have := HIB.out; omega
      have hij : i + j = mid - ia ∧ ia ≤ mid := by have := HNM.out.2; have := HNM.out.1; have := HIM.out; omega
      have HCUT := hid (sym_cut O x0 HS.out HS'.out hiU hjV (by
        rcases HA.out with h1 | h1
        · rcases HRG.out.e with h2 | h2
          · left; omega
          · right; left; have := HIB.out; omega
        · by_cases hi0 : i = 0
          · exact .inl hi0
          · by_cases hjv : j = V.length
            · exact .inr (.inl hjv)
            · have k1 := HGV.out j (by omega)
              have k2 := HGU.out (i - 1) (by omega)
              rw [show im + j = N - s by omega] at k1
              rw [show ia + (i - 1) = s - 1 by omega] at k2
              rw [k1, k2] at h1
              exact .inr (.inr h1)) (by
        rcases HB.out with h1 | h1
        · rcases HRG.out.f with h2 | h2
          · left; have := HIM.out; omega
          · right; left; omega
        · by_cases hi0 : i = U.length
          · exact .inl hi0
          · by_cases hjv : j = 0
            · exact .inr (.inl hjv)
            · have k1 := HGV.out (j - 1) (by omega)
              have k2 := HGU.out i (by omega)
              rw [show im + (j - 1) = N - 1 - s by omega] at k1
              rw [show ia + i = s by omega] at k2
              rw [k1, k2] at h1
              exact .inr (.inr h1)))
      have lU1 : (U.take i).length = i := by simp; omega
      have lU2 : (U.drop i).length = U.length - i := by simp
      have lV1 : (V.take j).length = j := by simp; omega
      have lV2 : (V.drop j).length = V.length - j := by simp
      have eUV : X ++ (U ++ (V ++ Z)) = (X ++ U.take i) ++ (U.drop i ++ (V.take j ++ (V.drop j ++ Z))) := by
        rw [← List.append_assoc (V.take j), List.take_append_drop, List.append_assoc X, ← List.append_assoc (U.take i), List.take_append_drop]
      have HR0 : Hid (Row (encS sl) base g c n ((X ++ U.take i) ++ (U.drop i ++ (V.take j ++ (V.drop j ++ Z)))) wr) := by
        unfold Hid; rw [← eUV]; exact HRw.out
      have HSU1 : Hid (Sorted lt (U.take i)) := HS.out.sublist (List.take_sublist _ _)
      have HSU2 : Hid (Sorted lt (U.drop i)) := HS.out.sublist (List.drop_sublist _ _)
      have HSV1 : Hid (Sorted lt (V.take j)) := HS'.out.sublist (List.take_sublist _ _)
      have HSV2 : Hid (Sorted lt (V.drop j)) := HS'.out.sublist (List.drop_sublist _ _)
      have HM1 : Hid (∀ x ∈ U.take i ++ V.take j, x ∈ D) := fun x hx => HDD.out x (by
        rcases List.mem_append.1 hx with h | h
        · exact List.mem_append_left _ (List.mem_of_mem_take h)
        · exact List.mem_append_right _ (List.mem_of_mem_take h))
      have HM2 : Hid (∀ x ∈ U.drop i ++ V.drop j, x ∈ D) := fun x hx => HDD.out x (by
        rcases List.mem_append.1 hx with h | h
        · exact List.mem_append_left _ (List.mem_of_mem_drop h)
        · exact List.mem_append_right _ (List.mem_of_mem_drop h))
      have hNs : (N : Int) - (s : Int) = (e : Int) := by omega
      have HARI : Hid (s = ia + i ∧ e = im + j ∧ mid = ia + i + j ∧ ia + U.length = im ∧ im + V.length = ib ∧ U.length + V.length ≤ k + 1) := by
        have := HIM.out; have := HIB.out; have := HK.out
        exact ⟨by omega, by omega, by omega, by omega, by omega, by omega⟩
      clear HA HB hi he hj hij hs0 hsr hr0 ra rc rg rh eUV
      rcases (show i = 0 ∨ (0 < i ∧ i < U.length) ∨ i = U.length by omega) with hi9 | hi9 | hi9
      · rcases (show j = 0 ∨ (0 < j ∧ j < V.length) ∨ j = V.length by omega) with hj9 | hj9 | hj9
        · exfalso; have := HARI.out; have := HNM.out; omega
        · have hari := HARI.out
          have g1 : (s : Int) < (im : Int) := by omega
          have g2 : (im : Int) < (e : Int) := by omega
          have g3 : ¬ (ia : Int) < (s : Int) := by omega
          have g3' : decide ((ia : Int) < (s : Int)) = false := decide_eq_false g3
          have g4 : (s : Int) < (mid : Int) := by omega
          have g5 : (mid : Int) < (e : Int) := by omega
          have g6 : (e : Int) < (ib : Int) := by omega
          have HROT := hid (fRot sl base g c n s im e (X ++ U.take i) (U.drop i) (V.take j) (V.drop j ++ Z) wr hn (by rw [List.length_append, lU1, HIA.out]; omega) (by rw [lU2]; omega) (by rw [lV1]; omega) (by omega) (by omega) HR0.out)
          have hL1 : (U.take i).length + (V.take j).length ≤ k := by rw [lU1, lV1]; omega
          have hL2 : (U.drop i).length + (V.drop j).length ≤ k := by rw [lU2, lV2]; omega
          have HA1 : Hid (X.length = ia ∧ ia + (U.take i).length = s ∧ s + (V.take j).length = mid) := by have := HIA.out; unfold Hid; rw [lU1, lV1]; omega
          have HA2 : Hid (ia + (U.take i).length + (V.take j).length = mid ∧ mid + (U.drop i).length = e ∧ e + (V.drop j).length = ib) := by unfold Hid; rw [lU1, lU2, lV1, lV2]; omega
          have HE1 : Hid (U.take i = []) := List.eq_nil_of_length_eq_zero (by omega)
          have HPL : Hid (0 < (U.take i).length ∨ i = 0) := by unfold Hid; omega
          have hu1 : (U.take i).length = 0 := by omega
          have hu2 : 0 < (U.drop i).length := by omega
          have hv1 : 0 < (V.take j).length := by omega
          have hv2 : 0 < (V.drop j).length := by omega
          have HU := hid (And.intro hu1 (And.intro hu2 (And.intro hv1 hv2)))
          have HLL := hid (And.intro hL1 hL2)
          clear hari hu1 hu2 hv1 hv2 hL1 hL2 lU1 lU2 lV1 lV2
          go_wp2_with fail
          refine HROT.out.mono ?_
          rintro e9 w3 ⟨rfl, hr3, hg3⟩
          have HR3 := hid hr3
          have HG3 := hid (gr_trans HGw.out hg3)
          clear hr3 hg3 HROT
          obtain ⟨M1, hM1⟩ : ∃ M1, M1 = U.take i ++ V.take j := ⟨_, rfl⟩
          have HS1 : Hid (Sorted lt M1) := by unfold Hid; rw [hM1, HE1.out]; exact HSV1.out
          have HP1 : Hid (M1.Perm (U.take i ++ V.take j)) := by unfold Hid; rw [hM1]
          have HX1 : Hid (isort lt (X ++ (M1 ++ (U.drop i ++ (V.drop j ++ Z)))) = isort lt (X ++ (U.take i ++ (V.take j ++ (U.drop i ++ (V.drop j ++ Z)))))) := by unfold Hid; rw [hM1, List.append_assoc]
          have HR4 : Hid (Row (encS sl) base g c n (X ++ (M1 ++ (U.drop i ++ (V.drop j ++ Z)))) w3) := by
            have h1 := HR3.out
            unfold Hid; rw [hM1]; simpa using h1
          have HG4 := HG3
          clear hM1
          have HLM : Hid (M1.length = (U.take i).length + (V.take j).length) := by have := HP1.out.length_eq; unfold Hid; rw [this, List.length_append]
          have HI2 := hid (IH mid e ib (X ++ M1) (U.drop i) (V.drop j) Z _ HLL.out.2 HU.out.2.1 HU.out.2.2.2 (by rw [List.length_append, HLM.out, HIA.out, ← Nat.add_assoc]; exact HA2.out.1) HA2.out.2.1 HA2.out.2.2 HSU2.out HSV2.out HM2.out HG4.out (by have h1 := HR4.out; simpa using h1))
          go_wp2_with fail
          refine HI2.out.mono ?_
          rintro e9 w5 ⟨rfl, M2, s2, p2, i2, r2, g9⟩
          have HS2 := hid s2
          have HP2 := hid p2
          have HX2 := hid i2
          have HR5 := hid r2
          have HG5 := hid g9
          clear s2 p2 i2 r2 g9 HI2
          have HFIN := hid (sym_join (X := X) (Z := Z) O HS.out HS'.out HCUT.out HS1.out HP1.out HX1.out HS2.out HP2.out HX2.out)
          have HR6 : Hid (Row (encS sl) base g c n (X ++ ((M1 ++ M2) ++ Z)) w5) := by
            have h1 := HR5.out
            unfold Hid; simpa using h1
          go_wp2
          go_end0
          exact ⟨rfl, M1 ++ M2, HFIN.out.1, HFIN.out.2.1, HFIN.out.2.2, HR6.out, HG5.out⟩
        · have hari := HARI.out
          have g1 : (s : Int) < (im : Int) := by omega
          have g2 : (im : Int) < (e : Int) := by omega
          have g3 : ¬ (ia : Int) < (s : Int) := by omega
          have g3' : decide ((ia : Int) < (s : Int)) = false := decide_eq_false g3
          have g4 : (s : Int) < (mid : Int) := by omega
          have g5 : (mid : Int) < (e : Int) := by omega
          have g6 : ¬ (e : Int) < (ib : Int) := by omega
          have g6' : decide ((e : Int) < (ib : Int)) = false := decide_eq_false g6
          have HROT := hid (fRot sl base g c n s im e (X ++ U.take i) (U.drop i) (V.take j) (V.drop j ++ Z) wr hn (by rw [List.length_append, lU1, HIA.out]; omega) (by rw [lU2]; omega) (by rw [lV1]; omega) (by omega) (by omega) HR0.out)
          have hL1 : (U.take i).length + (V.take j).length ≤ k := by rw [lU1, lV1]; omega
          have hL2 : (U.drop i).length + (V.drop j).length ≤ k := by rw [lU2, lV2]; omega
          have HA1 : Hid (X.length = ia ∧ ia + (U.take i).length = s ∧ s + (V.take j).length = mid) := by have := HIA.out; unfold Hid; rw [lU1, lV1]; omega
          have HA2 : Hid (ia + (U.take i).length + (V.take j).length = mid ∧ mid + (U.drop i).length = e ∧ e + (V.drop j).length = ib) := by unfold Hid; rw [lU1, lU2, lV1, lV2]; omega
          have HE1 : Hid (U.take i = []) := List.eq_nil_of_length_eq_zero (by omega)
          have HE4 : Hid (V.drop j = []) := List.eq_nil_of_length_eq_zero (by omega)
          have HPL : Hid (0 < (U.take i).length ∨ i = 0) := by unfold Hid; omega
          have hu1 : (U.take i).length = 0 := by omega
          have hu2 : 0 < (U.drop i).length := by omega
          have hv1 : 0 < (V.take j).length := by omega
          have hv2 : (V.drop j).length = 0 := by omega
          have HU := hid (And.intro hu1 (And.intro hu2 (And.intro hv1 hv2)))
          have HLL := hid (And.intro hL1 hL2)
          clear hari hu1 hu2 hv1 hv2 hL1 hL2 lU1 lU2 lV1 lV2
          go_wp2_with fail
          refine HROT.out.mono ?_
          rintro e9 w3 ⟨rfl, hr3, hg3⟩
          have HR3 := hid hr3
          have HG3 := hid (gr_trans HGw.out hg3)
          clear hr3 hg3 HROT
          obtain ⟨M1, hM1⟩ : ∃ M1, M1 = U.take i ++ V.take j := ⟨_, rfl⟩
          have HS1 : Hid (Sorted lt M1) := by unfold Hid; rw [hM1, HE1.out]; exact HSV1.out
          have HP1 : Hid (M1.Perm (U.take i ++ V.take j)) := by unfold Hid; rw [hM1]
          have HX1 : Hid (isort lt (X ++ (M1 ++ (U.drop i ++ (V.drop j ++ Z)))) = isort lt (X ++ (U.take i ++ (V.take j ++ (U.drop i ++ (V.drop j ++ Z)))))) := by unfold Hid; rw [hM1, List.append_assoc]
          have HR4 : Hid (Row (encS sl) base g c n (X ++ (M1 ++ (U.drop i ++ (V.drop j ++ Z)))) w3) := by
            have h1 := HR3.out
            unfold Hid; rw [hM1]; simpa using h1
          have HG4 := HG3
          clear hM1
          have HLM : Hid (M1.length = (U.take i).length + (V.take j).length) := by have := HP1.out.length_eq; unfold Hid; rw [this, List.length_append]
          obtain ⟨M2, hM2⟩ : ∃ M2, M2 = U.drop i ++ V.drop j := ⟨_, rfl⟩
          have HS2 : Hid (Sorted lt M2) := by unfold Hid; rw [hM2, HE4.out, List.append_nil]; exact HSU2.out
          have HP2 : Hid (M2.Perm (U.drop i ++ V.drop j)) := by unfold Hid; rw [hM2]
          have HX2 : Hid (isort lt ((X ++ M1) ++ (M2 ++ Z)) = isort lt ((X ++ M1) ++ (U.drop i ++ (V.drop j ++ Z)))) := by unfold Hid; rw [hM2, List.append_assoc (U.drop i)]
          have HR5 : Hid (Row (encS sl) base g c n ((X ++ M1) ++ (M2 ++ Z)) w3) := by
            have h1 := HR4.out
            unfold Hid; rw [hM2]; simpa using h1
          have HG5 := HG4
          clear hM2
          have HFIN := hid (sym_join (X := X) (Z := Z) O HS.out HS'.out HCUT.out HS1.out HP1.out HX1.out HS2.out HP2.out HX2.out)
          have HR6 : Hid (Row (encS sl) base g c n (X ++ ((M1 ++ M2) ++ Z)) w3) := by
            have h1 := HR5.out
            unfold Hid; simpa using h1
          go_wp2
          go_end0
          exact ⟨rfl, M1 ++ M2, HFIN.out.1, HFIN.out.2.1, HFIN.out.2.2, HR6.out, HG5.out⟩
      · rcases (show j = 0 ∨ (0 < j ∧ j < V.length) ∨ j = V.length by omega) with hj9 | hj9 | hj9
        · have hari := HARI.out
          have g1 : (s : Int) < (im : Int) := by omega
          have g2 : ¬ (im : Int) < (e : Int) := by omega
          have g2' : decide ((im : Int) < (e : Int)) = false := decide_eq_false g2
          have g3 : (ia : Int) < (s : Int) := by omega
          have g4 : ¬ (s : Int) < (mid : Int) := by omega
          have g4' : decide ((s : Int) < (mid : Int)) = false := decide_eq_false g4
          have g5 : (mid : Int) < (e : Int) := by omega
          have g6 : (e : Int) < (ib : Int) := by omega
          have hL1 : (U.take i).length + (V.take j).length ≤ k := by rw [lU1, lV1]; omega
          have hL2 : (U.drop i).length + (V.drop j).length ≤ k := by rw [lU2, lV2]; omega
          have HA1 : Hid (X.length = ia ∧ ia + (U.take i).length = s ∧ s + (V.take j).length = mid) := by have := HIA.out; unfold Hid; rw [lU1, lV1]; omega
          have HA2 : Hid (ia + (U.take i).length + (V.take j).length = mid ∧ mid + (U.drop i).length = e ∧ e + (V.drop j).length = ib) := by unfold Hid; rw [lU1, lU2, lV1, lV2]; omega
          have HE2 : Hid (V.take j = []) := List.eq_nil_of_length_eq_zero (by omega)
          have HPL : Hid (0 < (U.take i).length ∨ i = 0) := by unfold Hid; omega
          have hu1 : 0 < (U.take i).length := by omega
          have hu2 : 0 < (U.drop i).length := by omega
          have hv1 : (V.take j).length = 0 := by omega
          have hv2 : 0 < (V.drop j).length := by omega
          have HU := hid (And.intro hu1 (And.intro hu2 (And.intro hv1 hv2)))
          have HLL := hid (And.intro hL1 hL2)
          clear hari hu1 hu2 hv1 hv2 hL1 hL2 lU1 lU2 lV1 lV2
          have HR3 : Hid (Row (encS sl) base g c n ((X ++ U.take i) ++ (V.take j ++ (U.drop i ++ (V.drop j ++ Z)))) wr) := by
            have h1 := HR0.out
            unfold Hid
            rw [HE2.out] at h1 ⊢
            simpa using h1
          have HG3 := HGw
          obtain ⟨M1, hM1⟩ : ∃ M1, M1 = U.take i ++ V.take j := ⟨_, rfl⟩
          have HS1 : Hid (Sorted lt M1) := by unfold Hid; rw [hM1, HE2.out, List.append_nil]; exact HSU1.out
          have HP1 : Hid (M1.Perm (U.take i ++ V.take j)) := by unfold Hid; rw [hM1]
          have HX1 : Hid (isort lt (X ++ (M1 ++ (U.drop i ++ (V.drop j ++ Z)))) = isort lt (X ++ (U.take i ++ (V.take j ++ (U.drop i ++ (V.drop j ++ Z)))))) := by unfold Hid; rw [hM1, List.append_assoc]
          have HR4 : Hid (Row (encS sl) base g c n (X ++ (M1 ++ (U.drop i ++ (V.drop j ++ Z)))) wr) := by
            have h1 := HR3.out
            unfold Hid; rw [hM1]; simpa using h1
          have HG4 := HG3
          clear hM1
          have HLM : Hid (M1.length = (U.take i).length + (V.take j).length) := by have := HP1.out.length_eq; unfold Hid; rw [this, List.length_append]
          have HI2 := hid (IH mid e ib (X ++ M1) (U.drop i) (V.drop j) Z _ HLL.out.2 HU.out.2.1 HU.out.2.2.2 (by rw [List.length_append, HLM.out, HIA.out, ← Nat.add_assoc]; exact HA2.out.1) HA2.out.2.1 HA2.out.2.2 HSU2.out HSV2.out HM2.out HG4.out (by have h1 := HR4.out; simpa using h1))
          go_wp2_with fail
          refine HI2.out.mono ?_
          rintro e9 w5 ⟨rfl, M2, s2, p2, i2, r2, g9⟩
          have HS2 := hid s2
          have HP2 := hid p2
          have HX2 := hid i2
          have HR5 := hid r2
          have HG5 := hid g9
          clear s2 p2 i2 r2 g9 HI2
          have HFIN := hid (sym_join (X := X) (Z := Z) O HS.out HS'.out HCUT.out HS1.out HP1.out HX1.out HS2.out HP2.out HX2.out)
          have HR6 : Hid (Row (encS sl) base g c n (X ++ ((M1 ++ M2) ++ Z)) w5) := by
            have h1 := HR5.out
            unfold Hid; simpa using h1
          go_wp2
          go_end0
          exact ⟨rfl, M1 ++ M2, HFIN.out.1, HFIN.out.2.1, HFIN.out.2.2, HR6.out, HG5.out⟩
        · have hari := HARI.out
          have g1 : (s : Int) < (im : Int) := by omega
          have g2 : (im : Int) < (e : Int) := by omega
          have g3 : (ia : Int) < (s : Int) := by omega
          have g4 : (s : Int) < (mid : Int) := by omega
          have g5 : (mid : Int) < (e : Int) := by omega
          have g6 : (e : Int) < (ib : Int) := by omega
          have HROT := hid (fRot sl base g c n s im e (X ++ U.take i) (U.drop i) (V.take j) (V.drop j ++ Z) wr hn (by rw [List.length_append, lU1, HIA.out]; omega) (by rw [lU2]; omega) (by rw [lV1]; omega) (by omega) (by omega) HR0.out)
          have hL1 : (U.take i).length + (V.take j).length ≤ k := by rw [lU1, lV1]; omega
          have hL2 : (U.drop i).length + (V.drop j).length ≤ k := by rw [lU2, lV2]; omega
          have HA1 : Hid (X.length = ia ∧ ia + (U.take i).length = s ∧ s + (V.take j).length = mid) := by have := HIA.out; unfold Hid; rw [lU1, lV1]; omega
          have HA2 : Hid (ia + (U.take i).length + (V.take j).length = mid ∧ mid + (U.drop i).length = e ∧ e + (V.drop j).length = ib) := by unfold Hid; rw [lU1, lU2, lV1, lV2]; omega
          have HPL : Hid (0 < (U.take i).length ∨ i = 0) := by unfold Hid; omega
          have hu1 : 0 < (U.take i).length := by omega
          have hu2 : 0 < (U.drop i).length := by omega
          have hv1 : 0 < (V.take j).length := by omega
          have hv2 : 0 < (V.drop j).length := by omega
          have HU := hid (And.intro hu1 (And.intro hu2 (And.intro hv1 hv2)))
          have HLL := hid (And.intro hL1 hL2)
          clear hari hu1 hu2 hv1 hv2 hL1 hL2 lU1 lU2 lV1 lV2
          go_wp2_with fail
          refine HROT.out.mono ?_
          rintro e9 w3 ⟨rfl, hr3, hg3⟩
          have HR3 := hid hr3
          have HG3 := hid (gr_trans HGw.out hg3)
          clear hr3 hg3 HROT
          have HI1 := hid (IH ia s mid X (U.take i) (V.take j) (U.drop i ++ (V.drop j ++ Z)) _ HLL.out.1 HU.out.1 HU.out.2.2.1 HA1.out.1 HA1.out.2.1 HA1.out.2.2 HSU1.out HSV1.out HM1.out HG3.out (by have h1 := HR3.out; simpa using h1))
          go_wp2_with fail
          refine HI1.out.mono ?_
          rintro e9 w4 ⟨rfl, M1, s1, p1, i1, r1, g9⟩
          have HS1 := hid s1
          have HP1 := hid p1
          have HX1 := hid i1
          have HR4 := hid r1
          have HG4 := hid g9
          clear s1 p1 i1 r1 g9 HI1
          have HLM : Hid (M1.length = (U.take i).length + (V.take j).length) := by have := HP1.out.length_eq; unfold Hid; rw [this, List.length_append]
          have HI2 := hid (IH mid e ib (X ++ M1) (U.drop i) (V.drop j) Z _ HLL.out.2 HU.out.2.1 HU.out.2.2.2 (by rw [List.length_append, HLM.out, HIA.out, ← Nat.add_assoc]; exact HA2.out.1) HA2.out.2.1 HA2.out.2.2 HSU2.out HSV2.out HM2.out HG4.out (by have h1 := HR4.out; simpa using h1))
          go_wp2_with fail
          refine HI2.out.mono ?_
          rintro e9 w5 ⟨rfl, M2, s2, p2, i2, r2, g9⟩
          have HS2 := hid s2
          have HP2 := hid p2
          have HX2 := hid i2
          have HR5 := hid r2
          have HG5 := hid g9
          clear s2 p2 i2 r2 g9 HI2
          have HFIN := hid (sym_join (X := X) (Z := Z) O HS.out HS'.out HCUT.out HS1.out HP1.out HX1.out HS2.out HP2.out HX2.out)
          have HR6 : Hid (Row (encS sl) base g c n (X ++ ((M1 ++ M2) ++ Z)) w5) := by
            have h1 := HR5.out
            unfold Hid; simpa using h1
          go_wp2
          go_end0
          exact ⟨rfl, M1 ++ M2, HFIN.out.1, HFIN.out.2.1, HFIN.out.2.2, HR6.out, HG5.out⟩
        · have hari := HARI.out
          have g1 : (s : Int) < (im : Int) := by omega
          have g2 : (im : Int) < (e : Int) := by omega
          have g3 : (ia : Int) < (s : Int) := by omega
          have g4 : (s : Int) < (mid : Int) := by omega
          have g5 : (mid : Int) < (e : Int) := by omega
          have g6 : ¬ (e : Int) < (ib : Int) := by omega
          have g6' : decide ((e : Int) < (ib : Int)) = false := decide_eq_false g6
          have HROT := hid (fRot sl base g c n s im e (X ++ U.take i) (U.drop i) (V.take j) (V.drop j ++ Z) wr hn (by rw [List.length_append, lU1, HIA.out]; omega) (by rw [lU2]; omega) (by rw [lV1]; omega) (by omega) (by omega) HR0.out)
          have hL1 : (U.take i).length + (V.take j).length ≤ k := by rw [lU1, lV1]; omega
          have hL2 : (U.drop i).length + (V.drop j).length ≤ k := by rw [lU2, lV2]; omega
          have HA1 : Hid (X.length = ia ∧ ia + (U.take i).length = s ∧ s + (V.take j).length = mid) := by have := HIA.out; unfold Hid; rw [lU1, lV1]; omega
          have HA2 : Hid (ia + (U.take i).length + (V.take j).length = mid ∧ mid + (U.drop i).length = e ∧ e + (V.drop j).length = ib) := by unfold Hid; rw [lU1, lU2, lV1, lV2]; omega
          have HE4 : Hid (V.drop j = []) := List.eq_nil_of_length_eq_zero (by omega)
          have HPL : Hid (0 < (U.take i).length ∨ i = 0) := by unfold Hid; omega
          have hu1 : 0 < (U.take i).length := by omega
          have hu2 : 0 < (U.drop i).length := by omega
          have hv1 : 0 < (V.take j).length := by omega
          have hv2 : (V.drop j).length = 0 := by omega
          have HU := hid (And.intro hu1 (And.intro hu2 (And.intro hv1 hv2)))
          have HLL := hid (And.intro hL1 hL2)
          clear hari hu1 hu2 hv1 hv2 hL1 hL2 lU1 lU2 lV1 lV2
          go_wp2_with fail
          refine HROT.out.mono ?_
          rintro e9 w3 ⟨rfl, hr3, hg3⟩
          have HR3 := hid hr3
          have HG3 := hid (gr_trans HGw.out hg3)
          clear hr3 hg3 HROT
          have HI1 := hid (IH ia s mid X (U.take i) (V.take j) (U.drop i ++ (V.drop j ++ Z)) _ HLL.out.1 HU.out.1 HU.out.2.2.1 HA1.out.1 HA1.out.2.1 HA1.out.2.2 HSU1.out HSV1.out HM1.out HG3.out (by have h1 := HR3.out; simpa using h1))
          go_wp2_with fail
          refine HI1.out.mono ?_
          rintro e9 w4 ⟨rfl, M1, s1, p1, i1, r1, g9⟩
          have HS1 := hid s1
          have HP1 := hid p1
          have HX1 := hid i1
          have HR4 := hid r1
          have HG4 := hid g9
          clear s1 p1 i1 r1 g9 HI1
          have HLM : Hid (M1.length = (U.take i).length + (V.take j).length) := by have := HP1.out.length_eq; unfold Hid; rw [this, List.length_append]
          obtain ⟨M2, hM2⟩ : ∃ M2, M2 = U.drop i ++ V.drop j := ⟨_, rfl⟩
          have HS2 : Hid (Sorted lt M2) := by unfold Hid; rw [hM2, HE4.out, List.append_nil]; exact HSU2.out
          have HP2 : Hid (M2.Perm (U.drop i ++ V.drop j)) := by unfold Hid; rw [hM2]
          have HX2 : Hid (isort lt ((X ++ M1) ++ (M2 ++ Z)) = isort lt ((X ++ M1) ++ (U.drop i ++ (V.drop j ++ Z)))) := by unfold Hid; rw [hM2, List.append_assoc (U.drop i)]
          have HR5 : Hid (Row (encS sl) base g c n ((X ++ M1) ++ (M2 ++ Z)) w4) := by
            have h1 := HR4.out
            unfold Hid; rw [hM2]; simpa using h1
          have HG5 := HG4
          clear hM2
          have HFIN := hid (sym_join (X := X) (Z := Z) O HS.out HS'.out HCUT.out HS1.out HP1.out HX1.out HS2.out HP2.out HX2.out)
          have HR6 : Hid (Row (encS sl) base g c n (X ++ ((M1 ++ M2) ++ Z)) w4) := by
            have h1 := HR5.out
            unfold Hid; simpa using h1
          go_wp2
          go_end0
          exact ⟨rfl, M1 ++ M2, HFIN.out.1, HFIN.out.2.1, HFIN.out.2.2, HR6.out, HG5.out⟩
      · rcases (show j = 0 ∨ (0 < j ∧ j < V.length) ∨ j = V.length by omega) with hj9 | hj9 | hj9
        · have hari := HARI.out
          have g1 : ¬ (s : Int) < (im : Int) := by omega
          have g1' : decide ((s : Int) < (im : Int)) = false := decide_eq_false g1
          have g2 : ¬ (im : Int) < (e : Int) := by omega
          have g2' : decide ((im : Int) < (e : Int)) = false := decide_eq_false g2
          have g3 : (ia : Int) < (s : Int) := by omega
          have g4 : ¬ (s : Int) < (mid : Int) := by omega
          have g4' : decide ((s : Int) < (mid : Int)) = false := decide_eq_false g4
          have g5 : ¬ (mid : Int) < (e : Int) := by omega
          have g5' : decide ((mid : Int) < (e : Int)) = false := decide_eq_false g5
          have g6 : (e : Int) < (ib : Int) := by omega
          have hL1 : (U.take i).length + (V.take j).length ≤ k := by rw [lU1, lV1]; omega
          have hL2 : (U.drop i).length + (V.drop j).length ≤ k := by rw [lU2, lV2]; omega
          have HA1 : Hid (X.length = ia ∧ ia + (U.take i).length = s ∧ s + (V.take j).length = mid) := by have := HIA.out; unfold Hid; rw [lU1, lV1]; omega
          have HA2 : Hid (ia + (U.take i).length + (V.take j).length = mid ∧ mid + (U.drop i).length = e ∧ e + (V.drop j).length = ib) := by unfold Hid; rw [lU1, lU2, lV1, lV2]; omega
          have HE2 : Hid (V.take j = []) := List.eq_nil_of_length_eq_zero (by omega)
          have HE3 : Hid (U.drop i = []) := List.eq_nil_of_length_eq_zero (by omega)
          have HPL : Hid (0 < (U.take i).length ∨ i = 0) := by unfold Hid; omega
          have hu1 : 0 < (U.take i).length := by omega
          have hu2 : (U.drop i).length = 0 := by omega
          have hv1 : (V.take j).length = 0 := by omega
          have hv2 : 0 < (V.drop j).length := by omega
          have HU := hid (And.intro hu1 (And.intro hu2 (And.intro hv1 hv2)))
          have HLL := hid (And.intro hL1 hL2)
          clear hari hu1 hu2 hv1 hv2 hL1 hL2 lU1 lU2 lV1 lV2
          have HR3 : Hid (Row (encS sl) base g c n ((X ++ U.take i) ++ (V.take j ++ (U.drop i ++ (V.drop j ++ Z)))) wr) := by
            have h1 := HR0.out
            unfold Hid
            rw [HE3.out] at h1 ⊢
            simpa using h1
          have HG3 := HGw
          obtain ⟨M1, hM1⟩ : ∃ M1, M1 = U.take i ++ V.take j := ⟨_, rfl⟩
          have HS1 : Hid (Sorted lt M1) := by unfold Hid; rw [hM1, HE2.out, List.append_nil]; exact HSU1.out
          have HP1 : Hid (M1.Perm (U.take i ++ V.take j)) := by unfold Hid; rw [hM1]
          have HX1 : Hid (isort lt (X ++ (M1 ++ (U.drop i ++ (V.drop j ++ Z)))) = isort lt (X ++ (U.take i ++ (V.take j ++ (U.drop i ++ (V.drop j ++ Z)))))) := by unfold Hid; rw [hM1, List.append_assoc]
          have HR4 : Hid (Row (encS sl) base g c n (X ++ (M1 ++ (U.drop i ++ (V.drop j ++ Z)))) wr) := by
            have h1 := HR3.out
            unfold Hid; rw [hM1]; simpa using h1
          have HG4 := HG3
          clear hM1
          have HLM : Hid (M1.length = (U.take i).length + (V.take j).length) := by have := HP1.out.length_eq; unfold Hid; rw [this, List.length_append]
          obtain ⟨M2, hM2⟩ : ∃ M2, M2 = U.drop i ++ V.drop j := ⟨_, rfl⟩
          have HS2 : Hid (Sorted lt M2) := by unfold Hid; rw [hM2, HE3.out]; exact HSV2.out
          have HP2 : Hid (M2.Perm (U.drop i ++ V.drop j)) := by unfold Hid; rw [hM2]
          have HX2 : Hid (isort lt ((X ++ M1) ++ (M2 ++ Z)) = isort lt ((X ++ M1) ++ (U.drop i ++ (V.drop j ++ Z)))) := by unfold Hid; rw [hM2, List.append_assoc (U.drop i)]
          have HR5 : Hid (Row (encS sl) base g c n ((X ++ M1) ++ (M2 ++ Z)) wr) := by
            have h1 := HR4.out
            unfold Hid; rw [hM2]; simpa using h1
          have HG5 := HG4
          clear hM2
          have HFIN := hid (sym_join (X := X) (Z := Z) O HS.out HS'.out HCUT.out HS1.out HP1.out HX1.out HS2.out HP2.out HX2.out)
          have HR6 : Hid (Row (encS sl) base g c n (X ++ ((M1 ++ M2) ++ Z)) wr) := by
            have h1 := HR5.out
            unfold Hid; simpa using h1
          go_wp2
          go_end0
          exact ⟨rfl, M1 ++ M2, HFIN.out.1, HFIN.out.2.1, HFIN.out.2.2, HR6.out, HG5.out⟩
        · have hari := HARI.out
          have g1 : ¬ (s : Int) < (im : Int) := by omega
          have g1' : decide ((s : Int) < (im : Int)) = false := decide_eq_false g1
          have g2 : (im : Int) < (e : Int) := by omega
          have g3 : (ia : Int) < (s : Int) := by omega
          have g4 : (s : Int) < (mid : Int) := by omega
          have g5 : ¬ (mid : Int) < (e : Int) := by omega
          have g5' : decide ((mid : Int) < (e : Int)) = false := decide_eq_false g5
          have g6 : (e : Int) < (ib : Int) := by omega
          have hL1 : (U.take i).length + (V.take j).length ≤ k := by rw [lU1, lV1]; omega
          have hL2 : (U.drop i).length + (V.drop j).length ≤ k := by rw [lU2, lV2]; omega
          have HA1 : Hid (X.length = ia ∧ ia + (U.take i).length = s ∧ s + (V.take j).length = mid) := by have := HIA.out; unfold Hid; rw [lU1, lV1]; omega
          have HA2 : Hid (ia + (U.take i).length + (V.take j).length = mid ∧ mid + (U.drop i).length = e ∧ e + (V.drop j).length = ib) := by unfold Hid; rw [lU1, lU2, lV1, lV2]; omega
          have HE3 : Hid (U.drop i = []) := List.eq_nil_of_length_eq_zero (by omega)
          have HPL : Hid (0 < (U.take i).length ∨ i = 0) := by unfold Hid; omega
          have hu1 : 0 < (U.take i).length := by omega
          have hu2 : (U.drop i).length = 0 := by omega
          have hv1 : 0 < (V.take j).length := by omega
          have hv2 : 0 < (V.drop j).length := by omega
          have HU := hid (And.intro hu1 (And.intro hu2 (And.intro hv1 hv2)))
          have HLL := hid (And.intro hL1 hL2)
          clear hari hu1 hu2 hv1 hv2 hL1 hL2 lU1 lU2 lV1 lV2
          have HR3 : Hid (Row (encS sl) base g c n ((X ++ U.take i) ++ (V.take j ++ (U.drop i ++ (V.drop j ++ Z)))) wr) := by
            have h1 := HR0.out
            unfold Hid
            rw [HE3.out] at h1 ⊢
            simpa using h1
          have HG3 := HGw
          have HI1 := hid (IH ia s mid X (U.take i) (V.take j) (U.drop i ++ (V.drop j ++ Z)) _ HLL.out.1 HU.out.1 HU.out.2.2.1 HA1.out.1 HA1.out.2.1 HA1.out.2.2 HSU1.out HSV1.out HM1.out HG3.out (by have h1 := HR3.out; simpa using h1))
          go_wp2_with fail
          refine HI1.out.mono ?_
          rintro e9 w4 ⟨rfl, M1, s1, p1, i1, r1, g9⟩
          have HS1 := hid s1
          have HP1 := hid p1
          have HX1 := hid i1
          have HR4 := hid r1
          have HG4 := hid g9
          clear s1 p1 i1 r1 g9 HI1
          have HLM : Hid (M1.length = (U.take i).length + (V.take j).length) := by have := HP1.out.length_eq; unfold Hid; rw [this, List.length_append]
          obtain ⟨M2, hM2⟩ : ∃ M2, M2 = U.drop i ++ V.drop j := ⟨_, rfl⟩
          have HS2 : Hid (Sorted lt M2) := by unfold Hid; rw [hM2, HE3.out]; exact HSV2.out
          have HP2 : Hid (M2.Perm (U.drop i ++ V.drop j)) := by unfold Hid; rw [hM2]
          have HX2 : Hid (isort lt ((X ++ M1) ++ (M2 ++ Z)) = isort lt ((X ++ M1) ++ (U.drop i ++ (V.drop j ++ Z)))) := by unfold Hid; rw [hM2, List.append_assoc (U.drop i)]
          have HR5 : Hid (Row (encS sl) base g c n ((X ++ M1) ++ (M2 ++ Z)) w4) := by
            have h1 := HR4.out
            unfold Hid; rw [hM2]; simpa using h1
          have HG5 := HG4
          clear hM2
          have HFIN := hid (sym_join (X := X) (Z := Z) O HS.out HS'.out HCUT.out HS1.out HP1.out HX1.out HS2.out HP2.out HX2.out)
          have HR6 : Hid (Row (encS sl) base g c n (X ++ ((M1 ++ M2) ++ Z)) w4) := by
            have h1 := HR5.out
            unfold Hid; simpa using h1
          go_wp2
          go_end0
          exact ⟨rfl, M1 ++ M2, HFIN.out.1, HFIN.out.2.1, HFIN.out.2.2, HR6.out, HG5.out⟩
        · exfalso; have := HARI.out; have := HNM.out; omega
end Go.Proofs.Ytailoeloonnoeaa.Stb
