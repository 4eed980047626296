/- One block marked, and held. -/
import Derived.Test.YtkbaaidnkkcpoaaGreatRKM
namespace Go.Proofs.YtkbaaidnkkcpoaaGreat.Blk
open Go.RowKit
open Go.Proofs.YtkbaaidnkkcpoaaGreat.Srs (hid lt_at kept blk own_base own_below own_grown Q q0 HasQ SmlQ OwnG Own2 Fr own_fr tot mqs mqs_len mqs_get)
open Go.Proofs.YtkbaaidnkkcpoaaGreat.Stn (T t0 OwnT HasT SmlT mk mts mts_len mts_get)

/-- A block whose lists are marked from k on. -/
def mbb (k : Nat) (h : Bk) : Bk := ⟨h.F, h.T, h.L, mqs k h.qs, h.a, h.c, mts (k + 2 * tot h.qs h.qs.length) h.ts, h.b, h.d⟩
def mkbb (h : Bk) : Nat := 2 * tot h.qs h.qs.length + mk h.ts h.ts.length
/-- The answer: a block of the call's own, or none. -/
def An (X Y : Nat) (h : Bk) (w : World) : Prop := OwnC X Y h w ∨ h = k0
theorem An.below {X Y : Nat} {h : Bk} {w w' : World} (o : An X Y h w) (hb : Below w.heap.size w w') : An X Y h w' := o.imp (fun g => g.below hb) id
theorem An.has {X Y : Nat} {h : Bk} {w : World} (o : An X Y h w) : HasB w h := by
  rcases o with g | rfl
  · exact g.has
  · exact ⟨.inl rfl, .inl rfl⟩
theorem An.fr {X Y X' Y' : Nat} {h : Bk} {w x : World} (o : An X Y h w) (hf : Fr X' Y' w x) (hd : Y' ≤ X ∨ Y ≤ X') : An X Y h x := o.imp (fun g => ownc_fr g hf hd) id
theorem An.grown {X Y : Nat} {h : Bk} {w w' : World} {r : Option Nat} (o : An X Y h w) (hg : w.grownBy w' r) (hne : ∀ g, r = some g → g < X ∨ Y ≤ g) : An X Y h w' := o.imp (fun g => ownc_grown g hg hne) id
theorem f33z (k : Nat) (w : World) : Calls Tryz.prog 33 #[.slice none 0 0, .int .i64 k] w fun e w' => e = .returned (.int .i64 k) ∧ w' = w := by
  go_enter Tryz.func33, Tryz.ntmps33
  go_wp2
  go_loopw [1, 5] (fun s i wr => s = .int .i64 k ∧ i = .int .i64 0 ∧ wr = w) (fun _ _ _ => 0)
  case atStart => exact ⟨rfl, rfl, rfl⟩
  case round =>
    obtain ⟨rfl, rfl, rfl⟩ := hrel
    go_wp2
    go_ret
    exact ⟨rfl, rfl⟩
theorem f34z (k : Nat) (w : World) : Calls Tryz.prog 34 #[.slice none 0 0, .int .i64 k] w fun e w' => e = .returned (.int .i64 k) ∧ w' = w := by
  go_enter Tryz.func34, Tryz.ntmps34
  go_wp2
  go_loopw [1, 5] (fun s i wr => s = .int .i64 k ∧ i = .int .i64 0 ∧ wr = w) (fun _ _ _ => 0)
  case atStart => exact ⟨rfl, rfl, rfl⟩
  case round =>
    obtain ⟨rfl, rfl, rfl⟩ := hrel
    go_wp2
    go_ret
    exact ⟨rfl, rfl⟩
theorem f36z (k : Nat) (w : World) : Calls Tryz.prog 36 #[.slice none 0 0, .int .i64 k] w fun e w' => e = .returned (.int .i64 k) ∧ w' = w := by
  go_enter Tryz.func36, Tryz.ntmps36
  go_wp2
  go_loopw [1, 5] (fun s i wr => s = .int .i64 k ∧ i = .int .i64 0 ∧ wr = w) (fun _ _ _ => 0)
  case atStart => exact ⟨rfl, rfl, rfl⟩
  case round =>
    obtain ⟨rfl, rfl, rfl⟩ := hrel
    go_wp2
    go_ret
    exact ⟨rfl, rfl⟩
theorem f37z (k : Nat) (w : World) : Calls Tryz.prog 37 #[.slice none 0 0, .int .i64 k] w fun e w' => e = .returned (.int .i64 k) ∧ w' = w := by
  go_enter Tryz.func37, Tryz.ntmps37
  go_wp2
  go_loopw [1, 5] (fun s i wr => s = .int .i64 k ∧ i = .int .i64 0 ∧ wr = w) (fun _ _ _ => 0)
  case atStart => exact ⟨rfl, rfl, rfl⟩
  case round =>
    obtain ⟨rfl, rfl, rfl⟩ := hrel
    go_wp2
    go_ret
    exact ⟨rfl, rfl⟩
set_option maxRecDepth 10000 in
set_option maxHeartbeats 4000000 in
theorem f21c (X Y k : Nat) (h : Bk) (w : World) (o : An X Y h w) (hz : SmlB h) (hk : k + mkbb h ≤ 100000000) :
    Calls Tryz.prog 21 #[agB h, .int .i64 k] w fun e w' => e = .returned (.int .i64 ((k + mkbb h : Nat) : Int)) ∧ An X Y (mbb k h) w' ∧ Fr X Y w w' := by
  have HB0 := hid ((Below.refl w.heap.size w).alloc (Nat.le_refl _) (.cells (clB h) 44))
  have HC0 := hid (heap_alloc_new w (.cells (clB h) 44))
  rcases o with o | rfl
  rotate_left
  · simp only [clB, k0, List.length_nil] at HB0 HC0
    obtain ⟨c0, c1, c2, c3, c4⟩ := five HC0.out
    simp only [agB, clB, k0, List.length_nil]
    have HFr := hid (Fr.below (Fr.refl X Y w) HB0.out)
    go_enter Tryz.func21, Tryz.ntmps21
    go_wp2_with fail
    refine (f33z k _).mono ?_
    rintro e w1 ⟨rfl, hw⟩; subst hw
    go_wp2_with fail
    refine (f34z k _).mono ?_
    rintro e w1 ⟨rfl, hw⟩; subst hw
    go_wp2
    go_ret
    exact ⟨rfl, .inr rfl, HFr.out⟩
  have HO := hid (o.below HB0.out)
  have hN : k + 2 * tot h.qs h.qs.length + mk h.ts h.ts.length ≤ 100000000 := by unfold mkbb at hk; omega
  have HMk : Hid (k + mkbb h = k + 2 * tot h.qs h.qs.length + mk h.ts h.ts.length) := by unfold Hid mkbb; omega
  have hYw : Y ≤ w.heap.size := o.top
  clear hk o
  obtain ⟨gs, ks, M, ea, eb, ec, ed, og, ot, l1, l2, l3, l4, l5, l6⟩ := HO.out.ex
  rw [ec] at og
  have HOG := hid og
  have HOT := hid ot
  have HL3 := hid l3
  have HL6 := hid l6
  have hq1 : h.qs.length ≤ 1048576 := hz.1
  have hq2 : h.ts.length ≤ 1048576 := hz.2.2.1
  have HEa := hid (And.intro ea (And.intro eb (And.intro ec ed)))
  simp only [clB] at HC0 HB0 HOG HOT
  rw [ea, eb, ec, ed] at HC0 HB0 HOG HOT
  simp only [agB, clB]
  rw [ea, eb, ec, ed]
  obtain ⟨W0, hW0⟩ : ∃ W, W = w.alloc (.cells #[.int .i64 h.F, .int .i64 h.T, .int .i64 h.L, .slice (some ⟨gs, 0, none⟩) h.qs.length h.qs.length, .slice (some ⟨ks, 0, none⟩) h.ts.length h.ts.length] 44) := ⟨_, rfl⟩
  obtain ⟨c0, c1, c2, c3, c4⟩ := five HC0.out
  clear og ot l3 l6 ea eb ec ed hz HO
  have hk3 : k + 2 * tot h.qs h.qs.length ≤ 100000000 := by omega
  go_enter Tryz.func21, Tryz.ntmps21
  go_wp2_with fail
  rw [← hW0] at HC0 HB0 HOG HOT ⊢
  clear hW0 c0 c1 c2 c3 c4
  refine (Srs.f33f X M gs h.qs.length h.qs.length k h.qs _ hq1 hk3 HOG.out HL3.out).mono ?_
  rintro e w4 ⟨rfl, og4, hf4⟩
  have HOT4 : Hid (OwnT M ks h.ts.length h.ts w4) := ⟨own_fr HOT.out.row hf4 (.inr l4), ⟨HOT.out.kin.len, fun j hj => ⟨(HOT.out.kin.own j hj).ha, own_fr (HOT.out.kin.own j hj).lab hf4 (.inr (HOT.out.kin.own j hj |>.lab.lt _ rfl).1)⟩, HOT.out.kin.off, HOT.out.kin.dis⟩⟩
  have HOG4 := hid og4
  have HF4 := hid hf4
  have HC4 := hid ((hf4.block w.heap.size (lt_at HC0.out) (.inr (by omega))).trans HC0.out)
  obtain ⟨m4, hm4⟩ : ∃ m4 : Nat, m4 = k + 2 * tot h.qs h.qs.length := ⟨_, rfl⟩
  have HM4 := hid hm4
  have hk4 : m4 + mk h.ts h.ts.length ≤ 100000000 := by omega
  rw [← hm4]
  clear hm4 og4 hf4 hk3
  obtain ⟨c0, c1, c2, c3, c4⟩ := five HC4.out
  go_wp2_with fail
  refine (Stn.f34f M Y ks h.ts.length m4 h.ts _ rfl hq2 hk4 HOT4.out l4 l5 HL6.out).mono ?_
  rintro e w5 ⟨rfl, ot5, hf5⟩
  have HF : Hid (An X Y (mbb k h) w5 ∧ Fr X Y w w5) := by
    obtain ⟨ea, eb, ec, ed⟩ := HEa.out
    have hge : ∀ t, t < h.qs.length → blk ((mqs k h.qs).getD t q0).a = blk (h.qs.getD t q0).a ∧ blk ((mqs k h.qs).getD t q0).b = blk (h.qs.getD t q0).b := fun t ht => by rw [mqs_get _ _ _ ht]; exact ⟨rfl, rfl⟩
    have hgt : ∀ t, t < h.ts.length → blk ((mts (k + 2 * tot h.qs h.qs.length) h.ts).getD t t0).a = blk (h.ts.getD t t0).a := fun t ht => by rw [mts_get _ _ _ ht]; rfl
    have og5 : OwnG X gs h.qs.length h.qs.length (mqs k h.qs) w5 := by
      have h0 := HOG4.out
      have lg := (h0.row.lt gs rfl).1
      refine ⟨h0.len, own_fr h0.row hf5 (.inl l2), fun t ht => ?_, h0.apt⟩
      have p := h0.own t ht
      have r := HL3.out t ht
      have r2 := hge t ht
      exact ⟨p.ha, p.hb, own_fr p.lab hf5 (.inl (by omega)), own_fr p.smp hf5 (.inl (by omega)), p.ne⟩
    have ot5' : OwnT M ks h.ts.length (mts (k + 2 * tot h.qs h.qs.length) h.ts) w5 := by
      have h0 := ot5
      rw [HM4.out] at h0
      exact h0
    refine ⟨.inl ⟨⟨gs, ks, M, ea, eb, ?_, ?_, ?_, ?_, l1, l2, fun t ht => ?_, l4, l5, fun t ht => ?_⟩, (by have h1 := HB0.out.size; have h2 := HF4.out.size; have h3 := hf5.size; omega)⟩, ?_⟩
    · simp only [mbb, mqs_len]; exact ec
    · simp only [mbb, mts_len]; exact ed
    · simp only [mbb, mqs_len]; rw [ec]; exact og5
    · simp only [mbb, mts_len]; exact ot5'
    · simp only [mbb, mqs_len] at ht ⊢; rw [(hge t ht).1, (hge t ht).2]; exact HL3.out t ht
    · simp only [mbb, mts_len] at ht ⊢; rw [hgt t ht]; exact HL6.out t ht
    · exact fr_trans (fr_trans (Fr.below (Fr.refl X Y w) HB0.out) HF4.out (Nat.le_refl _) (by omega)) hf5 l1 (Nat.le_refl _)
  obtain ⟨m5, hm5⟩ : ∃ m5 : Nat, m5 = m4 + mk h.ts h.ts.length := ⟨_, rfl⟩
  rw [← hm5]
  have HE5 : Hid (m5 = k + mkbb h) := by unfold Hid; rw [HMk.out, hm5, HM4.out]
  clear hm5 hf5 ot5 HOG4 HOT4 HF4 HC4 c0 c1 c2 c3 c4
  go_wp2
  go_ret
  exact ⟨by rw [← HE5.out]; rfl, HF.out.1, HF.out.2⟩
set_option maxRecDepth 10000 in
set_option maxHeartbeats 4000000 in
theorem f22c (X Y k : Nat) (h : Bk) (w : World) (o : An X Y (mbb k h) w) (hz : SmlB h) (hk : k + mkbb h ≤ 100000000) :
    Calls Tryz.prog 22 #[agB h, .int .i64 k] w fun e w' => e = .returned (.int .i64 ((k + mkbb h : Nat) : Int)) ∧ Below w.heap.size w w' := by
  have HB0 := hid ((Below.refl w.heap.size w).alloc (Nat.le_refl _) (.cells (clB h) 44))
  have HC0 := hid (heap_alloc_new w (.cells (clB h) 44))
  have hN : k + 2 * tot h.qs h.qs.length + mk h.ts h.ts.length ≤ 100000000 := by unfold mkbb at hk; omega
  have HMk : Hid (k + mkbb h = k + 2 * tot h.qs h.qs.length + mk h.ts h.ts.length) := by unfold Hid mkbb; omega
  rcases o with o | o
  rotate_left
  · have e1 : h.qs = [] := by
      have := congrArg (fun z => z.qs.length) o
      simp only [mbb, mqs_len, k0, List.length_nil] at this
      exact List.eq_nil_of_length_eq_zero this
    have e2 : h.ts = [] := by
      have := congrArg (fun z => z.ts.length) o
      simp only [mbb, mts_len, k0, List.length_nil] at this
      exact List.eq_nil_of_length_eq_zero this
    have e3 : h.a = none ∧ h.c = 0 ∧ h.b = none ∧ h.d = 0 := ⟨congrArg (fun z => z.a) o, congrArg (fun z => z.c) o, congrArg (fun z => z.b) o, congrArg (fun z => z.d) o⟩
    obtain ⟨e3, e4, e5, e6⟩ := e3
    have HE : Hid (k + mkbb h = k) := by unfold Hid mkbb; rw [e1, e2]; rfl
    simp only [clB] at HB0 HC0
    rw [e1, e2, e3, e4, e5, e6] at HB0 HC0
    simp only [agB, clB]
    rw [e1, e2, e3, e4, e5, e6]
    simp only [List.length_nil] at HB0 HC0 ⊢
    obtain ⟨c0, c1, c2, c3, c4⟩ := five HC0.out
    have hk0 : ¬ (k : Int) < 0 := by omega
    clear hN HMk hk o e1 e2 e3 e4 e5 e6
    go_enter Tryz.func22, Tryz.ntmps22
    go_wp2_with fail
    refine (f36z k _).mono ?_
    rintro e w1 ⟨rfl, hw⟩; subst hw
    go_wp2_with fail
    refine (f37z k _).mono ?_
    rintro e w1 ⟨rfl, hw⟩; subst hw
    go_wp2
    go_ret
    exact ⟨by rw [HE.out]; rfl, HB0.out⟩
  have HO := hid (o.below HB0.out)
  clear o hk
  obtain ⟨gs, ks, M, ea, eb, ec, ed, og, ot, _⟩ := HO.out.ex
  rw [ec] at og
  simp only [mbb, mqs_len, mts_len] at ea eb ec ed og ot
  have HOG := hid og
  have HOT := hid ot
  have hq1 : h.qs.length ≤ 1048576 := hz.1
  have hq2 : h.ts.length ≤ 1048576 := hz.2.2.1
  simp only [clB] at HC0 HB0 HOG HOT
  rw [ea, eb, ec, ed] at HC0 HB0 HOG HOT
  simp only [agB, clB]
  rw [ea, eb, ec, ed]
  obtain ⟨W0, hW0⟩ : ∃ W, W = w.alloc (.cells #[.int .i64 h.F, .int .i64 h.T, .int .i64 h.L, .slice (some ⟨gs, 0, none⟩) h.qs.length h.qs.length, .slice (some ⟨ks, 0, none⟩) h.ts.length h.ts.length] 44) := ⟨_, rfl⟩
  obtain ⟨c0, c1, c2, c3, c4⟩ := five HC0.out
  clear og ot ea eb ec ed hz HO
  have hk3 : k + 2 * tot h.qs h.qs.length ≤ 100000000 := by omega
  go_enter Tryz.func22, Tryz.ntmps22
  go_wp2_with fail
  rw [← hW0] at HC0 HB0 HOG HOT ⊢
  clear hW0 c0 c1 c2 c3 c4
  refine (Srs.f36 X gs h.qs.length h.qs.length k h.qs _ rfl hq1 hk3 HOG.out).mono ?_
  rintro e w2 ⟨rfl, hb2⟩
  have HX2 := hid (HB0.out.trans (hb2.mono HB0.out.size))
  have HC2 := hid (kept HC0.out hb2)
  have HOT2 := hid (HOT.out.below hb2)
  clear hb2 HOG HOT HC0 HB0
  obtain ⟨m4, hm4⟩ : ∃ m4 : Nat, m4 = k + 2 * tot h.qs h.qs.length := ⟨_, rfl⟩
  have HM4 := hid hm4
  have hk4 : m4 + mk h.ts h.ts.length ≤ 100000000 := by omega
  rw [← hm4] at HOT2 ⊢
  clear hm4 hk3
  have hm5 : ¬ (m4 : Int) < 0 := by omega
  obtain ⟨c0, c1, c2, c3, c4⟩ := five HC2.out
  go_wp2_with fail
  refine (Stn.f37 M ks h.ts.length m4 h.ts _ rfl hq2 hk4 HOT2.out).mono ?_
  rintro e w3 ⟨rfl, hb3⟩
  have HX3 := hid (HX2.out.trans (hb3.mono HX2.out.size))
  clear hb3 HX2 HOT2
  obtain ⟨m5, hm5e⟩ : ∃ m5 : Nat, m5 = m4 + mk h.ts h.ts.length := ⟨_, rfl⟩
  have HE5 : Hid (m5 = k + mkbb h) := by unfold Hid; rw [HMk.out, hm5e, HM4.out]
  have hm6 : ¬ (m5 : Int) < 0 := by omega
  rw [← hm5e]
  clear hm5e
  go_wp2
  go_ret
  exact ⟨by rw [← HE5.out]; rfl, HX3.out⟩
end Go.Proofs.YtkbaaidnkkcpoaaGreat.Blk
