/- Blocks: szBlock, toBlock, eqBlock. -/
import Derived.Test.YtmgghnmlhkahnaaJb
namespace Go.Proofs.Ytmgghnmlhkahnaa.Blk
open Go.RowKit
open Go.Proofs.Ytmgghnmlhkahnaa.Lab (Lb HasL)
open Go.Proofs.Ytmgghnmlhkahnaa.Smp (In64)
open Go.Proofs.Ytmgghnmlhkahnaa.Srs (hid lt_at kept own_base own_set own_below set_at set_else three_new blk Q HasQ FitQ SmlQ OwnQ)
open Go.Proofs.Ytmgghnmlhkahnaa.Stn (T HasT FitT SmlT OwnT)

/-- A block as it lies in memory. -/
structure Bk where
  F : Int
  T : Int
  L : Int
  qs : List Q
  a : Option Addr
  c : Nat
  ts : List Stn.T
  b : Option Addr
  d : Nat
abbrev clB (h : Bk) : Array Value := #[.int .i64 h.F, .int .i64 h.T, .int .i64 h.L, .slice h.a h.qs.length h.c, .slice h.b h.ts.length h.d]
abbrev agB (h : Bk) : Value := .agg (clB h)
def FitB (h : Bk) : Prop := In64 h.F ∧ In64 h.T ∧ In64 h.L ∧ FitQ h.qs ∧ h.qs.length ≤ maxLen ∧ FitT h.ts ∧ h.ts.length ≤ maxLen
/-- What a block has lies in the world. -/
def HasB (w : World) (h : Bk) : Prop := HasQ w h.a h.qs ∧ HasT w h.b h.ts
theorem HasB.below {w w' : World} {h : Bk} (g : HasB w h) (hb : Below w.heap.size w w') : HasB w' h := ⟨g.1.below hb, g.2.below hb⟩
def SmlB (h : Bk) : Prop := h.qs.length ≤ 1048576 ∧ SmlQ h.qs ∧ h.ts.length ≤ 1048576 ∧ SmlT h.ts
theorem five {x : World} {b : Nat} {v0 v1 v2 v3 v4 : Value} {t : TypeId} (h : x.heap[b]? = some (.cells #[v0, v1, v2, v3, v4] t)) : x.cell? ⟨b, 0, none⟩ = some v0 ∧ x.cell? ⟨b, 1, none⟩ = some v1 ∧ x.cell? ⟨b, 2, none⟩ = some v2 ∧ x.cell? ⟨b, 3, none⟩ = some v3 ∧ x.cell? ⟨b, 4, none⟩ = some v4 := by
  refine ⟨?_, ?_, ?_, ?_, ?_⟩ <;> simp [World.cell?, h]
theorem five_frz {x : World} {b o : Nat} {v0 v1 v2 v3 v4 : Value} {t : TypeId} (h : x.heap[b]? = some (.cells #[v0, v1, v2, v3, v4] t)) : x.frozen? ⟨b, o, none⟩ = false := by
  simp [World.frozen?, h]
set_option maxHeartbeats 1000000 in
theorem f9 (h : Bk) (w : World) (hr : HasB w h) (hf : FitB h) :
    Calls Try.prog 9 #[agB h, .int .i64 1048576] w fun e w' => ∃ y : Int, e = .returned (.int .i64 y) ∧ -1 ≤ y ∧ (0 ≤ y → SmlB h) ∧ Below w.heap.size w w' := by
  obtain ⟨F, T, L, qs, a, c, ts, b, d⟩ := h
  obtain ⟨-, -, -, f4, f5, f6, f7⟩ := hf
  obtain ⟨hr1, hr2⟩ := hr
  simp only at hr1 hr2 f4 f5 f6 f7
  have HR := hid hr1
  have HT := hid hr2
  have HF := hid f4
  have HM := hid f5
  have HF2 := hid f6
  have HM2 := hid f7
  have HB0 := hid ((Below.refl w.heap.size w).alloc (Nat.le_refl _) (.cells #[.int .i64 F, .int .i64 T, .int .i64 L, .slice a qs.length c, .slice b ts.length d] 33))
  have HC0 := hid (heap_alloc_new w (.cells #[.int .i64 F, .int .i64 T, .int .i64 L, .slice a qs.length c, .slice b ts.length d] 33))
  clear hr1 hr2 f4 f5 f6 f7
  simp only [agB, clB]
  go_enter Try.func9, Try.ntmps9
  go_wp2_with fail
  refine (Srs.f19 a qs.length c 1048576 qs _ (by omega) (by omega) rfl (HR.out.below HB0.out) HF.out HM.out).mono ?_
  rintro e w1 ⟨y, rfl, y0, y1, hy, hb1⟩
  have HB1 := hid (HB0.out.trans (hb1.mono HB0.out.size))
  obtain ⟨c0, c1, c2, c3, c4⟩ := five (kept HC0.out hb1)
  have HY := hid hy
  clear hb1 hy
  by_cases g0 : y < 0
  · go_wp2
    go_ret
    exact ⟨-1, rfl, by omega, fun h => absurd h (by omega), HB1.out⟩
  · go_wp2_with fail
    refine (Stn.f20 b ts.length d y ts _ (by omega) (by omega) rfl (HT.out.below HB1.out) HF2.out HM2.out).mono ?_
    rintro e w2 ⟨z, rfl, z0, z1, hz, hb2⟩
    have HB2 := hid (HB1.out.trans (hb2.mono HB1.out.size))
    have HZ : Hid (0 ≤ z → SmlB ⟨F, T, L, qs, a, c, ts, b, d⟩) := fun h => by
      have h1 := HY.out (by omega)
      have h2 := hz h
      exact ⟨by simp only; omega, Srs.sml_tot (by simp only; omega), by simp only; omega, Stn.sml_tot (by simp only; omega)⟩
    clear hb2 hz
    by_cases g1 : z < 0
    · go_wp2
      go_ret
      exact ⟨-1, rfl, by omega, fun h => absurd h (by omega), HB2.out⟩
    · go_wp2
      go_ret
      exact ⟨z, rfl, by omega, HZ.out, HB2.out⟩
abbrev Z5 : Obj := .cells #[.int .i64 0, .int .i64 0, .int .i64 0, .slice none 0 0, .slice none 0 0] 37
theorem own_setq {S n : Nat} {d : List Q} {y : World} (h : OwnQ S S n d y) {p : Addr} (hp : p.block < S) (v : Value) : OwnQ S S n d (y.setCell p v) :=
  ⟨own_set h.row (Nat.ne_of_gt hp) v, ⟨h.kin.len, fun i hi => (h.kin.own i hi).set (by have := h.kin.off i hi; omega) (by have := h.kin.off i hi; have := (h.kin.own i hi).lt; omega) v, h.kin.off, h.kin.dis⟩⟩
/-- A copy of a block: its rows are its own, the stones' lie behind those of the series. -/
structure OwnB (X g k S : Nat) (h h' : Bk) (w : World) : Prop where
  eF : h'.F = h.F
  eT : h'.T = h.T
  eL : h'.L = h.L
  ea : h'.a = some ⟨g, 0, none⟩
  eb : h'.b = some ⟨k, 0, none⟩
  ec : h'.c = h.qs.length
  ed : h'.d = h.ts.length
  lq : h'.qs.length = h.qs.length
  lt : h'.ts.length = h.ts.length
  sq : Srs.SameTo h.qs.length h.qs h'.qs
  st : Stn.SameTo h.ts.length h.ts h'.ts
  oq : OwnQ g g h.qs.length h'.qs w
  ot : OwnT k k h.ts.length h'.ts w
  lo : X ≤ g
  mid : g < S ∧ S ≤ k
  top : ∀ i, i < h.qs.length → blk (h'.qs.getD i Srs.q0).b < S
theorem OwnB.below {X g k S : Nat} {h h' : Bk} {w w' : World} (o : OwnB X g k S h h' w) (hb : Below w.heap.size w w') : OwnB X g k S h h' w' :=
  ⟨o.eF, o.eT, o.eL, o.ea, o.eb, o.ec, o.ed, o.lq, o.lt, o.sq, o.st, o.oq.below hb, o.ot.below hb, o.lo, o.mid, o.top⟩
theorem OwnB.has {X g k S : Nat} {h h' : Bk} {w : World} (o : OwnB X g k S h h' w) : HasB w h' := ⟨by rw [o.ea]; exact o.oq.has, by rw [o.eb]; exact o.ot.has⟩
set_option maxHeartbeats 4000000 in
theorem f12 (h : Bk) (w : World) (hr : HasB w h) (hz : SmlB h) :
    Calls Try.prog 12 #[agB h] w fun e w' => ∃ (h' : Bk) (g k S : Nat), e = .returned (agB h') ∧ OwnB w.heap.size g k S h h' w' ∧ k < w'.heap.size ∧ Below w.heap.size w w' := by
  obtain ⟨F, T, L, qs, a, c, ts, b, d⟩ := h
  obtain ⟨hr1, hr2⟩ := hr
  obtain ⟨z1, z2, z3, z4⟩ := hz
  simp only at hr1 hr2 z1 z2 z3 z4
  have HR := hid hr1
  have HT := hid hr2
  have HZ := hid z2
  have HZ4 := hid z4
  clear hr1 hr2 z2 z4
  obtain ⟨X, hX⟩ : ∃ X, X = ((w.alloc (.cells #[.int .i64 F, .int .i64 T, .int .i64 L, .slice a qs.length c, .slice b ts.length d] 33)).alloc Z5).alloc (.cells #[.int .i64 F, .int .i64 T, .int .i64 L, .slice none 0 0, .slice none 0 0] 37) := ⟨_, rfl⟩
  have HXb : Hid (Below w.heap.size w X ∧ X.heap[w.heap.size]? = some (.cells #[.int .i64 F, .int .i64 T, .int .i64 L, .slice a qs.length c, .slice b ts.length d] 33) ∧ X.heap[w.heap.size + 1]? = some Z5 ∧ X.heap[w.heap.size + 1 + 1]? = some (.cells #[.int .i64 F, .int .i64 T, .int .i64 L, .slice none 0 0, .slice none 0 0] 37) ∧ X.heap.size = w.heap.size + 1 + 1 + 1) := by
    subst hX
    obtain ⟨k1, k2, k3⟩ := three_new w (.cells #[.int .i64 F, .int .i64 T, .int .i64 L, .slice a qs.length c, .slice b ts.length d] 33) Z5 (.cells #[.int .i64 F, .int .i64 T, .int .i64 L, .slice none 0 0, .slice none 0 0] 37)
    exact ⟨(((Below.refl w.heap.size w).alloc (Nat.le_refl _) _).alloc (by simp) _).alloc (by simp; omega) _, k1, k2, k3, by simp⟩
  simp only [agB, clB]
  go_enter Try.func12, Try.ntmps12
  go_wp2_with fail
  rw [← hX]
  refine (Srs.f26 a qs.length c qs _ rfl z1 (HR.out.below HXb.out.1) HZ.out).mono ?_
  rintro e w1 ⟨d1, rfl, hs1, ho1, hb1⟩
  have HB1 := hid (HXb.out.1.trans (hb1.mono HXb.out.1.size))
  have HA1 := hid (kept HXb.out.2.1 hb1)
  have HC1 := hid (kept HXb.out.2.2.2.1 hb1)
  have HD1 := hid (kept HXb.out.2.2.1 hb1)
  have HSZ := hid HXb.out.2.2.2.2
  have HO1 := hid ho1
  have HS1 := hid hs1
  clear ho1 hb1 hX HXb hs1
  generalize X.heap.size = S at *
  obtain ⟨a0, a1, a2, a3, a4⟩ := five HA1.out
  obtain ⟨c0, c1, c2, c3, c4⟩ := five HC1.out
  have r3 := five_frz (o := 3) HC1.out
  obtain ⟨w2, hw2⟩ : ∃ x, x = w1.setCell ⟨w.heap.size + 1 + 1, 3, none⟩ (.slice (some ⟨S, 0, none⟩) qs.length qs.length) := ⟨_, rfl⟩
  have HB2 : Hid (Below w.heap.size w w2) := by rw [hw2]; exact HB1.out.setCell (by have := HSZ.out; simp only; omega) _
  have HC2 : Hid (w2.heap[w.heap.size + 1 + 1]? = some (.cells #[.int .i64 F, .int .i64 T, .int .i64 L, .slice (some ⟨S, 0, none⟩) qs.length qs.length, .slice none 0 0] 37)) := by rw [hw2]; exact set_at HC1.out
  have HD2 : Hid (w2.heap[w.heap.size + 1]? = some Z5) := by rw [hw2]; exact set_else HD1.out (by have := HSZ.out; simp only; omega)
  have HO2 : Hid (OwnQ S S qs.length d1 w2) := by rw [hw2]; exact own_setq HO1.out (by have := HSZ.out; simp only; omega) _
  clear HB1 HA1 HC1 HD1 HO1
  go_wp2_with fail
  rw [← hw2]
  clear a0 a1 a2 a3 a4 c0 c1 c2 c3 c4 r3 hw2
  refine (Stn.f27 b ts.length d ts _ rfl z3 (HT.out.below HB2.out) HZ4.out).mono ?_
  rintro e w3 ⟨e1, rfl, hs3, ho3, hb3⟩
  have HB3 := hid (HB2.out.trans (hb3.mono HB2.out.size))
  have HC3 := hid (kept HC2.out hb3)
  have HD3 := hid (kept HD2.out hb3)
  have HO3 := hid (HO2.out.below hb3)
  have HP3 := hid ho3
  have HS3 := hid hs3
  have HTop : Hid (∀ i, i < qs.length → blk (d1.getD i Srs.q0).b < w2.heap.size) := fun i hi => (HO2.out.kin.own i hi).lts
  have hlt : Hid (S < w2.heap.size) := (HO2.out.row.lt S rfl).2
  clear ho3 hb3 HB2 HC2 HD2 HO2 hs3
  generalize w2.heap.size = S2 at *
  obtain ⟨c0, c1, c2, c3, c4⟩ := five HC3.out
  have r4 := five_frz (o := 4) HC3.out
  obtain ⟨d0, d1', d2, d3, d4⟩ := five HD3.out
  have q0 := five_frz (o := 0) HD3.out
  have q1 := five_frz (o := 1) HD3.out
  have q2 := five_frz (o := 2) HD3.out
  have q3 := five_frz (o := 3) HD3.out
  have q4 := five_frz (o := 4) HD3.out
  have HF : Hid (∀ x, x = (((((w3.setCell ⟨w.heap.size + 1 + 1, 4, none⟩ (.slice (some ⟨S2, 0, none⟩) ts.length ts.length)).setCell ⟨w.heap.size + 1, 0, none⟩ (.int .i64 F)).setCell ⟨w.heap.size + 1, 1, none⟩ (.int .i64 T)).setCell ⟨w.heap.size + 1, 2, none⟩ (.int .i64 L)).setCell ⟨w.heap.size + 1, 3, none⟩ (.slice (some ⟨S, 0, none⟩) qs.length qs.length)).setCell ⟨w.heap.size + 1, 4, none⟩ (.slice (some ⟨S2, 0, none⟩) ts.length ts.length) →
      x.heap[w.heap.size + 1]? = some (.cells #[.int .i64 F, .int .i64 T, .int .i64 L, .slice (some ⟨S, 0, none⟩) qs.length qs.length, .slice (some ⟨S2, 0, none⟩) ts.length ts.length] 37) ∧ OwnQ S S qs.length d1 x ∧ OwnT S2 S2 ts.length e1 x ∧ Below w.heap.size w x) := by
    rintro x rfl
    have hS := HSZ.out
    have hS2 := hlt.out
    refine ⟨set_at (i := 4) (set_at (i := 3) (set_at (i := 2) (set_at (i := 1) (set_at (i := 0) (set_else HD3.out (by simp only; omega)))))), ?_, ?_, ?_⟩
    · exact own_setq (own_setq (own_setq (own_setq (own_setq (own_setq HO3.out (by simp only; omega) _) (by simp only; omega) _) (by simp only; omega) _) (by simp only; omega) _) (by simp only; omega) _) (by simp only; omega) _
    · exact OwnT.set (OwnT.set (OwnT.set (OwnT.set (OwnT.set (OwnT.set HP3.out (by simp only; omega) _) (by simp only; omega) _) (by simp only; omega) _) (by simp only; omega) _) (by simp only; omega) _) (by simp only; omega) _
    · exact Below.setCell (p := ⟨w.heap.size + 1, 4, none⟩) (Below.setCell (p := ⟨w.heap.size + 1, 3, none⟩) (Below.setCell (p := ⟨w.heap.size + 1, 2, none⟩) (Below.setCell (p := ⟨w.heap.size + 1, 1, none⟩) (Below.setCell (p := ⟨w.heap.size + 1, 0, none⟩) (Below.setCell (p := ⟨w.heap.size + 1 + 1, 4, none⟩) HB3.out (by simp only; omega) _) (by simp only; omega) _) (by simp only; omega) _) (by simp only; omega) _) (by simp only; omega) _) (by simp only; omega) _
  have HDL := hid HO3.out.kin.len
  have HEL := hid HP3.out.kin.len
  clear HB3 HC3 HD3 HO3 HP3
  go_wp2
  revert HF
  generalize hwf : World.setCell _ _ _ = wf
  intro HF
  obtain ⟨k1, k2, k3, k4⟩ := HF.out wf (by rw [← hwf])
  obtain ⟨y0, y1, y2, y3, y4⟩ := five k1
  refine bodyPost_ret (v := .agg #[.int .i64 F, .int .i64 T, .int .i64 L, .slice (some ⟨S, 0, none⟩) qs.length qs.length, .slice (some ⟨S2, 0, none⟩) ts.length ts.length]) (by simp [results, Try.results12, go_sem, y0, y1, y2, y3, y4]) rfl ⟨⟨F, T, L, d1, some ⟨S, 0, none⟩, qs.length, e1, some ⟨S2, 0, none⟩, ts.length⟩, S, S2, S2, ?_, ⟨rfl, rfl, rfl, rfl, rfl, rfl, rfl, HDL.out, HEL.out, HS1.out, HS3.out, k2, k3, by have := HSZ.out; omega, ⟨hlt.out, Nat.le_refl _⟩, HTop.out⟩, (k3.row.lt S2 rfl).2, k4⟩
  simp only [HDL.out, HEL.out]
set_option maxHeartbeats 2000000 in
theorem f18 (h h' : Bk) (w : World) (e1 : h'.F = h.F) (e2 : h'.T = h.T) (e3 : h'.L = h.L) (hl : h'.qs.length = h.qs.length) (hm : h'.ts.length = h.ts.length) (hr : HasB w h) (hr' : HasB w h') (hs : Srs.Same h.qs.length h.qs h'.qs) (ht : Stn.Same h.ts.length h.ts h'.ts) (hz : SmlB h) :
    Calls Try.prog 18 #[agB h, agB h'] w fun e w' => e = .returned (.bool true) ∧ Below w.heap.size w w' := by
  obtain ⟨F, T, L, qs, a, c, ts, b, d⟩ := h
  obtain ⟨F', T', L', qs', a', c', ts', b', d'⟩ := h'
  obtain ⟨z1, z2, z3, z4⟩ := hz
  simp only at e1 e2 e3 hl hm z1 z2 z3 z4 hs ht
  subst e1 e2 e3
  simp only [agB, clB]
  rw [hl, hm]
  have HB := hid (((Below.refl w.heap.size w).alloc (Nat.le_refl _) (.cells #[.int .i64 F', .int .i64 T', .int .i64 L', .slice a qs.length c, .slice b ts.length d] 37)).alloc (by simp) (.cells #[.int .i64 F', .int .i64 T', .int .i64 L', .slice a' qs.length c', .slice b' ts.length d'] 37))
  obtain ⟨W, hW⟩ : ∃ W, W = (w.alloc (.cells #[.int .i64 F', .int .i64 T', .int .i64 L', .slice a qs.length c, .slice b ts.length d] 37)).alloc (.cells #[.int .i64 F', .int .i64 T', .int .i64 L', .slice a' qs.length c', .slice b' ts.length d'] 37) := ⟨_, rfl⟩
  have HWb : Hid (W.heap[w.heap.size]? = some (.cells #[.int .i64 F', .int .i64 T', .int .i64 L', .slice a qs.length c, .slice b ts.length d] 37) ∧ W.heap[w.heap.size + 1]? = some (.cells #[.int .i64 F', .int .i64 T', .int .i64 L', .slice a' qs.length c', .slice b' ts.length d'] 37)) := by
    subst hW
    have h2 := heap_alloc_new (w.alloc (.cells #[.int .i64 F', .int .i64 T', .int .i64 L', .slice a qs.length c, .slice b ts.length d] 37)) (.cells #[.int .i64 F', .int .i64 T', .int .i64 L', .slice a' qs.length c', .slice b' ts.length d'] 37)
    simp only [World.size_alloc] at h2
    exact ⟨(Below.heap_alloc _ _ w.heap.size (by simp)).trans (heap_alloc_new w _), h2⟩
  rw [← hW] at HB
  have HL := hid hl
  have HM := hid hm
  have HR := hid (hr.below HB.out)
  have HR' := hid (hr'.below HB.out)
  have HS := hid hs
  have HT := hid ht
  have HZ := hid z2
  have HZ4 := hid z4
  have g1 : (F' != F') = false := by simp
  have g2 : (T' != T') = false := by simp
  have g3 : (L' != L') = false := by simp
  clear hl hm hr hr' hs ht z2 z4
  go_enter Try.func18, Try.ntmps18
  go_wp2_with fail
  rw [← hW]
  refine (Srs.f31 a a' qs.length c c' qs qs' _ rfl HL.out z1 HR.out.1 HR'.out.1 HS.out HZ.out).mono ?_
  rintro e w1 ⟨rfl, hb1⟩
  have HB1 := hid (HB.out.trans (hb1.mono HB.out.size))
  obtain ⟨a0, a1, a2, a3, a4⟩ := five (kept HWb.out.1 hb1)
  obtain ⟨c0, c1, c2, c3, c4⟩ := five (kept HWb.out.2 hb1)
  have HR1 := hid (HR.out.2.below hb1)
  have HR1' := hid (HR'.out.2.below hb1)
  clear hb1 hW HWb HR HR'
  go_wp2_with fail
  refine (Stn.f32 b b' ts.length d d' ts ts' _ rfl HM.out z3 HR1.out HR1'.out HT.out HZ4.out).mono ?_
  rintro e w2 ⟨rfl, hb2⟩
  have HB2 := hid (HB1.out.trans (hb2.mono HB1.out.size))
  clear hb2
  go_wp2
  go_ret
  exact ⟨rfl, HB2.out⟩
end Go.Proofs.Ytmgghnmlhkahnaa.Blk
