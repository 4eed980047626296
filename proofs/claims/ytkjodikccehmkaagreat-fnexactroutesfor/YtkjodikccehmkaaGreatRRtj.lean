/- The program's GoodRoutes. -/
import Derived.Test.YtkjodikccehmkaaGreatRRti
namespace Go.Proofs.YtkjodikccehmkaaGreat.Rou
open Go.RowKit
open Go.Proofs.YtkjodikccehmkaaGreat.Rwc
open Go.Proofs.YtkjodikccehmkaaGreat.Nmt (two)

/-- What goodRouteTree gives of a list. -/
def GTR (w0 : World) (ts : List T) (w : World) (e : Ending) (w' : World) : Prop :=
  Below w.heap.size w w' ∧ ((e = .returned (.pointer none) ∧ goodR ts = false) ∨
    ∃ t b, e = .returned (ptr b) ∧ goodR ts = true ∧ ts.length ≤ 40 ∧ Is (ts.map pl) t ∧ Nv w0 (fun b => w.heap.size ≤ b ∧ b < w'.heap.size) w' 0 t b)
theorem all_good {ts : List T} {k : Nat} (hk : ts.length ≤ k) (h : ∀ i, i < k → okR (ts.getD i t0) = true ∧ 0 ≤ (ts.getD i t0).kd) : (∀ q ∈ ts, okR q = true ∧ 0 ≤ q.kd) ∧ ∀ r ∈ ts.map pl, okP r = true ∧ 0 ≤ r.kd := by
  have h1 : ∀ q ∈ ts, okR q = true ∧ 0 ≤ q.kd := by
    intro q hq
    obtain ⟨i, hi, rfl⟩ := List.mem_iff_getElem.1 hq
    have := h i (by omega)
    simpa [List.getD_eq_getElem?_getD, hi] using this
  refine ⟨h1, fun r hr => ?_⟩
  obtain ⟨q, hq, rfl⟩ := List.mem_map.1 hr
  exact h1 q hq
theorem not_good {ts : List T} {k : Nat} (hk : k < ts.length) (h : (okR (ts.getD k t0) && decide (0 ≤ (ts.getD k t0).kd)) = false) : goodR ts = false := by
  refine goodP_false fun g => ?_
  obtain ⟨_, h1, _⟩ := good_iff.1 g
  obtain ⟨a, b⟩ := h1 (pl (ts.getD k t0)) (List.mem_map.2 ⟨_, mem_getD hk, rfl⟩)
  rw [show okR (ts.getD k t0) = true from a, decide_eq_true (show 0 ≤ (ts.getD k t0).kd from b)] at h
  cases h
theorem rw_of {w0 : World} {a : Option Addr} {ts : List T} (hr : Has w0 a ts) (hf : Fit ts) (hz : Sml ts) : ∀ q ∈ ts, Rw w0 q := by
  intro q hq
  obtain ⟨i, hi, rfl⟩ := List.mem_iff_getElem.1 hq
  obtain ⟨_, _, _, _, _, hl⟩ := hr.at2 i hi
  have h1 := hf i
  have h2 := hz i hi
  have e : ts.getD i t0 = ts[i] := by simp [List.getD_eq_getElem?_getD, hi]
  rw [e] at hl h1 h2
  exact ⟨hl, h1, h2⟩
set_option maxHeartbeats 8000000 in
theorem f24 (ts : List T) (a : Option Addr) (c : Nat) (w0 w : World) (hb : ts.length ≤ 1048576) (hr : Has w0 a ts) (hf : Fit ts) (hz : Sml ts) (hb0 : Below w0.heap.size w0 w) :
    Calls Tryz.prog 24 #[.slice a ts.length c] w (GTR w0 ts w) := by
  have HRW := hid (rw_of hr hf hz)
  have HR0 := hid hr
  have HR := hid (hr.below hb0)
  have HF := hid hf
  have HZ := hid hz
  have HB0 := hid hb0
  obtain ⟨n, hn⟩ : ∃ n, n = ts.length := ⟨_, rfl⟩
  have HN := hid hn
  rw [← hn] at hb ⊢
  clear hr hf hz hb0 hn
  by_cases hlen : (n : Int) > 40
  · go_enter Tryz.func24, Tryz.ntmps24
    go_wp2
    go_ret
    exact ⟨Below.refl _ _, .inl ⟨rfl, goodP_false fun g => by have := g.1; simp at this; have := HN.out; omega⟩⟩
  go_enter Tryz.func24, Tryz.ntmps24
  go_wp2
  go_loopw [11] (fun i wr => ∃ k : Nat, k ≤ n ∧ i = .int .i64 k ∧ Hid (∀ i, i < k → okR (ts.getD i t0) = true ∧ 0 ≤ (ts.getD i t0).kd) ∧ Hid (Below w.heap.size w wr)) (fun i _ => n - (intOf i).toNat)
  case atStart => exact ⟨0, Nat.zero_le _, rfl, fun i hi => absurd hi (by omega), Below.refl _ _⟩
  case round =>
    obtain ⟨k, hk, rfl, HA, HB⟩ := hrel
    by_cases hlt : k < n
    · obtain ⟨b, off, rfl, hbl, hc, hl⟩ := (HR.out.below HB.out).at2 k (by rw [← HN.out]; exact hlt)
      obtain ⟨d0, d1, d2, d3, d4, d5, d6, d7, d8⟩ := hc.all
      have HL := hid hl
      have G := hid (HF.out k)
      have Z := hid (HZ.out k (by rw [← HN.out]; exact hlt))
      have HNo : Hid ((okR (ts.getD k t0) && decide (0 ≤ (ts.getD k t0).kd)) = false → goodR ts = false) := fun h => not_good (by rw [← HN.out]; exact hlt) h
      have HNx : Hid ((okR (ts.getD k t0) && decide (0 ≤ (ts.getD k t0).kd)) = true → ∀ i, i < k + 1 → okR (ts.getD i t0) = true ∧ 0 ≤ (ts.getD i t0).kd) := by
        intro h i hi
        by_cases e : i = k
        · subst e; simpa using h
        · exact HA.out i (by omega)
      have i1 : (k : Int) < (n : Int) := by omega
      clear hc hl
      generalize ts.getD k t0 = q at *
      obtain ⟨W1, hW1⟩ : ∃ W, W = wr.alloc (BX q) := ⟨_, rfl⟩
      have HX1 : Hid (W1.heap[wr.heap.size]? = some (BX q)) := by rw [hW1]; exact heap_alloc_new wr _
      have HB1 : Hid (Below w.heap.size w W1) := by rw [hW1]; exact HB.out.alloc HB.out.size _
      have hb1 : Below wr.heap.size wr W1 := by rw [hW1]; exact (Below.refl _ _).alloc (Nat.le_refl _) _
      have HC := hid (f43 q W1 (HL.out.below hb1) G.out Z.out)
      have HW1 := hid hW1
      clear hW1 hb1
      generalize (okR q && decide (0 ≤ q.kd)) = R at *
      go_upto_region 6 with fail
      rw [← HW1.out]
      obtain ⟨x0, x1, x2, x3, x4, x5, x6, x7, x8⟩ := cellsN HX1.out
      cases R
      · have HY := hid (HNo.out rfl)
        go_wp2_with fail
        refine HC.out.mono ?_
        rintro e w2 ⟨rfl, hb2⟩
        have HB2 := hid (HB1.out.trans (hb2.mono HB1.out.size))
        clear hb2
        go_wp2
        go_ret
        exact ⟨HB2.out, .inl ⟨rfl, HY.out⟩⟩
      · have HY := hid (HNx.out rfl)
        go_wp2_with fail
        refine HC.out.mono ?_
        rintro e w2 ⟨rfl, hb2⟩
        have HB2 := hid (HB1.out.trans (hb2.mono HB1.out.size))
        clear hb2
        go_wp2
        go_roundw
        case rel => exact ⟨k + 1, by omega, by go_num, HY, HB2⟩
        case measure => simp [intOf]; omega
    · obtain ⟨A1, A2⟩ := all_good (ts := ts) (k := k) (by have := HN.out; omega) HA.out
      have HA2 := hid A2
      have h40 : ts.length ≤ 40 := by have := HN.out; omega
      have HC := hid (f44 ts a c w0 wr h40 HR0.out (fun q hq => ⟨HRW.out q hq, (A1 q hq).2⟩) (HB0.out.trans (HB.out.mono HB0.out.size)))
      rw [← HN.out] at HC
      clear A1 A2
      go_wp2_with fail
      refine HC.out.mono ?_
      clear HC
      rintro e w2 ⟨hb2, hk⟩
      have HB2 := hid (HB.out.trans (hb2.mono HB.out.size))
      have hsz := HB.out.size
      rcases hk with ⟨rfl, hno⟩ | ⟨t, b, rfl, he, hgt, hnv⟩
      · have HNO := hid hno
        clear hb2 hno
        go_wp2
        go_ret
        exact ⟨HB2.out, .inl ⟨rfl, goodP_false fun g => by obtain ⟨_, _, t, e, g1, _⟩ := good_iff.1 g; exact HNO.out 1 t e g1⟩⟩
      · have HE := hid he
        have HGT := hid hgt
        have HNV := hid hnv
        have hrl : (rows t).length ≤ 40 := by rw [← he]; simpa using h40
        have HDP := hid (f45 t w0 w2 _ 0 b hnv (fun x hx => hx.2) (dp_le t hrl) (by omega))
        obtain ⟨r, ks⟩ := t
        simp only [Nv] at hnv
        obtain ⟨⟨hb1, hb1'⟩, _, q, bs, ak, ck, hp, _, hx, _, _⟩ := hnv
        have HX := hid hx
        have HP := hid hp
        clear hb2 he hgt hx hp
        have HNG : Hid (∀ t', Is (ts.map pl) t' → t' = .nd r ks) := fun t' h => one_tree h.gt HGT.out (h.rows.symm.trans HE.out)
        have ne0 : b ≠ b + 1 := by omega
        go_wp2_with fail
        refine HDP.out.mono ?_
        rintro e w3 ⟨rfl, hb3⟩
        have HB3 := hid (HB2.out.trans (hb3.mono HB2.out.size))
        obtain ⟨x0, x1, x2, x3, x4, x5, x6, x7, x8, x9, x10⟩ := cellsE (kept HX.out hb3)
        have HNV3 := hid (Nv.agr (S' := fun x => w.heap.size ≤ x ∧ x < w3.heap.size) ⟨hb3.size, fun x hx hl => hb3.block x hl, fun x hx => ⟨by have := HB.out.size; omega, by have := hb3.size; omega⟩⟩ _ 0 b HNV.out)
        have HR2 : Hid (pl q = r) := HP.out
        have HM : Hid (r.ms = q.ms) := by unfold Hid; rw [← HP.out]; rfl
        have HO : Hid (r.on = q.on) := by unfold Hid; rw [← HP.out]; rfl
        clear hb3 HDP
        by_cases hdp : (dp (.nd r ks) : Int) > 8
        · have HY : Hid (goodR ts = false) := goodP_false fun g => by
            obtain ⟨_, _, t', e1, e2, e3, _⟩ := good_iff.1 g
            have := one_tree e2 HGT.out (e1.symm.trans HE.out)
            rw [this] at e3
            omega
          generalize dp (.nd r ks) = dd at *
          go_wp2
          go_ret
          exact ⟨HB3.out, .inl ⟨rfl, HY.out⟩⟩
        by_cases hms : 0 < (q.ms.length : Int)
        · have HY : Hid (goodR ts = false) := goodP_false fun g => by
            obtain ⟨_, t', ht⟩ := g
            have e := HNG.out t' ht
            have := ht.ms
            rw [e] at this
            have h2 : q.ms = [] := HM.out.symm.trans this
            rw [h2] at hms
            simp at hms
          generalize dp (.nd r ks) = dd at *
          have hmn : ¬ q.ms = [] := by intro h; rw [h] at hms; simp at hms
          go_wp2
          go_ret
          exact ⟨HB3.out, .inl ⟨rfl, HY.out⟩⟩
        have hm0 : q.ms = [] := List.length_eq_zero_iff.1 (by omega)
        have HM0 := hid hm0
        cases hon : q.on
        · have HY : Hid (GoodRt (ts.map pl)) := good_iff.2 ⟨by simpa using h40, HA2.out, .nd r ks, HE.out, gt0_any _ _ _ HGT.out, by omega, HM.out.trans HM0.out, HO.out.trans hon⟩
          have HI : Hid (Is (ts.map pl) (.nd r ks)) := by
            obtain ⟨_, t', ht⟩ := HY.out
            have e := HNG.out t' ht
            rw [e] at ht; exact ht
          generalize dp (.nd r ks) = dd at *
          rw [hm0] at x1
          rw [hon] at x7
          clear hon hm0 hms
          go_wp2
          go_ret
          exact ⟨HB3.out, .inr ⟨.nd r ks, b, rfl, goodP_true HY.out, h40, HI.out, HNV3.out⟩⟩
        · have HY : Hid (goodR ts = false) := goodP_false fun g => by
            obtain ⟨_, t', ht⟩ := g
            have e := HNG.out t' ht
            have := ht.on
            rw [e] at this
            have h2 : q.on = false := HO.out.symm.trans this
            rw [hon] at h2; cases h2
          generalize dp (.nd r ks) = dd at *
          rw [hm0] at x1
          rw [hon] at x7
          clear hon hm0 hms
          go_wp2
          go_ret
          exact ⟨HB3.out, .inl ⟨rfl, HY.out⟩⟩
end Go.Proofs.YtkjodikccehmkaaGreat.Rou
