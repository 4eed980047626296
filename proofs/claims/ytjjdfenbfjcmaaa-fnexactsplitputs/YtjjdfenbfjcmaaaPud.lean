/- Puts copied; lists of rows of puts: compared, marked, held, one put more. -/
import Derived.Test.YtjjdfenbfjcmaaaPuc
import Derived.Deep.CutRange
import Derived.Maps.AppendAt
import Derived.Laws.AppendOwnNone
import Derived.Lib.LazyBuf
namespace Go.Proofs.Ytjjdfenbfjcmaaa.Ptn
open Go.RowKit
open Go.Proofs.Ytjjdfenbfjcmaaa.Lab (Lb HasL)

theorem Fw.set {P : Nat → Prop} {w : World} {p : Addr} (v : Value) (hp : P p.block) : Fw P w (w.setCell p v) :=
  ⟨rfl, rfl, rfl, by simp, fun k hk hne => Below.heap_setCell w p v k (fun e => hne (by rw [e]; exact hp))⟩
theorem Fw.grownO {r : Option Nat} {w x : World} (h : w.grownBy x r) : Fw (fun b => r = some b) w x := ⟨h.os, h.tape, h.output, h.size, fun k hk hne => h.block k hk fun e => hne e.symm⟩
theorem OwnL.ofRow {X c : Nat} {l : List Lb} {a : Option Addr} {f t : Int} {w : World} (h : w.ownsRow X 55 2 (.slice a l.length c) l.length (Lab.flat l)) : OwnL X ⟨l, a, c, f, t⟩ w := by
  by_cases h0 : l.length = 0
  · exact .inl (List.eq_nil_of_length_eq_zero h0)
  · rcases h.2 with ⟨_, h2⟩ | ⟨g, cap, cur, h1, _⟩
    · exact absurd h2 h0
    · simp only [Value.slice.injEq] at h1
      refine .inr ⟨g, h1.1, ?_⟩
      show w.ownsRow X 55 2 (.slice (some ⟨g, 0, none⟩) l.length c) l.length (Lab.flat l)
      rw [← h1.1]; exact h
theorem own_form {w : World} {base e size n : Nat} {v : Value} {xs : List Value} (h : w.ownsRow base e size v n xs) : ∃ a c, v = .slice a n c := by
  rcases h.2 with ⟨h1, h2⟩ | ⟨g, cap, cur, h1, _⟩
  · exact ⟨none, 0, by rw [h1, h2]⟩
  · exact ⟨_, _, h1⟩
theorem infoL : (Try.prog.info? 55).map (fun i => (i.zero, i.size, i.bytes)) = some (some (.agg #[.string ByteArray.empty, .string ByteArray.empty]), 2, 32) := by kernel_rfl
theorem lab_cells {w : World} {b off : Nat} {L : List Lb} (hr : HasL w (some ⟨b, off, none⟩) L) : ∀ j u, (Lab.flat L)[j]? = some u → w.cell? ((⟨b, off, none⟩ : Addr).add j) = some u := by
  intro j u hj
  have hlt : j < L.length * 2 := by
    by_cases h : j < L.length * 2
    · exact h
    · rw [List.getElem?_eq_none (by rw [Lab.flat_len]; omega)] at hj; cases hj
  rcases hr with h | ⟨b', off', h1, h2, h3⟩
  · rw [h] at hlt; simp at hlt
  · cases h1
    have e : (⟨b, off, none⟩ : Addr).add j = ⟨b, off + j, none⟩ := by simp [Addr.add]
    rw [e]
    obtain ⟨g0, g1⟩ := h3 (j / 2) (by omega)
    obtain ⟨y0, y1⟩ := Lab.flat_get L (j / 2) (by omega)
    rcases (show j % 2 = 0 ∨ j % 2 = 1 by omega) with h | h
    · rw [show j = j / 2 * 2 by omega, y0] at hj
      rw [show off + j = off + j / 2 * 2 by omega, g0]; exact hj
    · rw [show j = j / 2 * 2 + 1 by omega, y1] at hj
      rw [show off + j = off + j / 2 * 2 + 1 by omega, g1]; exact hj
theorem lab_one (L : List Lb) : ∀ u ∈ Lab.flat L, u.oneCell' = true := by
  intro u hu
  unfold Lab.flat at hu
  rw [List.mem_flatMap] at hu
  obtain ⟨p, _, hp⟩ := hu
  simp at hp
  rcases hp with rfl | rfl <;> rfl
theorem eqNilL (w : World) (a : Option Addr) (l c : Nat) : (binOp .eql 44 (.slice a l c) (.slice none 0 0)).run Try.prog w = .ok (.bool a.isNone) w := Go.run_eql_slice_nil w _ _ a l c Try.underlying44
abbrev RowL (w : World) (base : Nat) (v : Value) (L : List Lb) : Prop := w.ownsRow base 55 2 v L.length (Lab.flat L)
theorem f43 (b off c : Nat) (L : List Lb) (w : World) (h20 : L.length ≤ 1048576) (hr : HasL w (some ⟨b, off, none⟩) L) :
    Calls Try.prog 43 #[.slice (some ⟨b, off, none⟩) L.length c] w fun e w' => ∃ v', e = .returned v' ∧ RowL w' w.heap.size v' L ∧ Below w.heap.size w w' := by
  obtain ⟨i0, hi, hz0, hz1, hz2⟩ := info_parts infoL
  have q := eqNilL
  have HN := hid (lab_cells (hr.alloc (.cells #[] 55)))
  have H1 := hid (lab_one L)
  clear hr
  go_enter Try.func43, Try.ntmps43
  go_wp2_with (at_builtin; refine wpList_append_own _ rfl (.tmp 5) (.tmp 6) 44 rfl w.heap.size 55 i0 (.agg #[.string ByteArray.empty, .string ByteArray.empty]) 2 32 Try.underlying44 hi hz0 hz1 hz2 rfl (by decide) _ _ _ rfl (World.ownsRow_made w #[] 0 (Nat.le_refl _) (Nat.zero_le _) rfl) ⟨b, off, none⟩ L.length c (Lab.flat L) rfl (Lab.flat_len L) HN.out H1.out ?d3 ?d4 ?d5 ?_)
  case d3 => unfold maxLen; omega
  case d4 => omega
  case d5 => simp
  intro v1 w3 hown1 hgr1 _
  go_wp2
  go_ret
  refine ⟨v1, rfl, ?_, ?_⟩
  · unfold RowL; simpa using hown1
  · exact ((Below.refl _ w).alloc (Nat.le_refl _) _).grown hgr1 (by simp) (by intro k hk; simp [Value.ownBlock] at hk; omega)
theorem f35 (b off c : Nat) (L : List Lb) (w : World) (h20 : L.length ≤ 1048576) (hr : HasL w (some ⟨b, off, none⟩) L) :
    Calls Try.prog 35 #[.slice (some ⟨b, off, none⟩) L.length c] w fun e w' => ∃ v', e = .returned v' ∧ RowL w' w.heap.size v' L ∧ Below w.heap.size w w' := by
  obtain ⟨i0, hi, hz0, hz1, hz2⟩ := info_parts infoL
  have HN := hid (lab_cells hr)
  have H1 := hid (lab_one L)
  clear hr
  go_enter Try.func35, Try.ntmps35
  go_wp2_with (at_builtin; refine wpList_append_own _ rfl (.tmp 4) (.tmp 5) 44 rfl w.heap.size 55 i0 (.agg #[.string ByteArray.empty, .string ByteArray.empty]) 2 32 Try.underlying44 hi hz0 hz1 hz2 rfl (by decide) _ _ _ rfl (World.ownsRow_nil w w.heap.size 55 2) ⟨b, off, none⟩ L.length c (Lab.flat L) rfl (Lab.flat_len L) HN.out H1.out ?d3 ?d4 ?d5 ?_)
  case d3 => unfold maxLen; omega
  case d4 => omega
  case d5 => simp
  intro v1 w3 hown1 hgr1 _
  go_wp2
  go_ret
  refine ⟨v1, rfl, ?_, ?_⟩
  · unfold RowL; simpa using hown1
  · exact (Below.refl _ w).grown hgr1 (Nat.le_refl _) (by intro k hk; simp [Value.ownBlock] at hk)
abbrev ZP : Obj := .cells #[.slice none 0 0, .int .i64 0, .int .i64 0] 46
set_option maxHeartbeats 2000000 in
theorem f25 (q : T) (b off : Nat) (w : World) (ha : q.a = some ⟨b, off, none⟩) (hl : HasL w q.a q.l) (n1 : q.l.length ≤ 1048576) :
    Calls Try.prog 25 #[agT q] w fun e w' => ∃ q' : T, e = .returned (agT q') ∧ pl q' = pl q ∧ OwnL w.heap.size q' w' ∧ Below w.heap.size w w' := by
  obtain ⟨l, a, c, f, t⟩ := q
  simp only at ha hl n1
  subst ha
  have HL := hid hl
  clear hl
  obtain ⟨W, hW⟩ : ∃ W, W = (w.alloc (.cells #[.slice (some ⟨b, off, none⟩) l.length c, .int .i64 f, .int .i64 t] 46)).alloc ZP := ⟨_, rfl⟩
  have HWb : Hid (Below w.heap.size w W ∧ W.heap[w.heap.size]? = some (.cells #[.slice (some ⟨b, off, none⟩) l.length c, .int .i64 f, .int .i64 t] 46) ∧ W.heap[w.heap.size + 1]? = some ZP ∧ W.heap.size = w.heap.size + 1 + 1) := by
    subst hW
    have h2 := heap_alloc_new (w.alloc (.cells #[.slice (some ⟨b, off, none⟩) l.length c, .int .i64 f, .int .i64 t] 46)) ZP
    simp only [World.size_alloc] at h2
    exact ⟨((Below.refl w.heap.size w).alloc (Nat.le_refl _) _).alloc (by simp) _, (Below.heap_alloc _ _ w.heap.size (by simp)).trans (heap_alloc_new w _), h2, by simp⟩
  simp only [agT]
  go_enter Try.func25, Try.ntmps25
  go_wp2_with fail
  rw [← hW]
  refine (f43 b off c l _ n1 (HL.out.below HWb.out.1)).mono ?_
  rintro e w1 ⟨v1, rfl, ho1, hb1⟩
  obtain ⟨a1, c1, rfl⟩ := own_form ho1
  have HB1 := hid (HWb.out.1.trans (hb1.mono HWb.out.1.size))
  have HA1 := hid (kept HWb.out.2.1 hb1)
  have HD1 := hid (kept HWb.out.2.2.1 hb1)
  have HSZ := hid HWb.out.2.2.2
  have HO1 : Hid (OwnL W.heap.size ⟨l, a1, c1, f, t⟩ w1) := OwnL.ofRow ho1
  clear ho1 hb1 hW HWb
  generalize W.heap.size = Sz at *
  obtain ⟨a0, a2, a3⟩ := three HA1.out
  obtain ⟨d0, d1, d2⟩ := three HD1.out
  have r0 := three_frz (o := 0) HA1.out
  have s0 := three_frz (o := 0) HD1.out
  have s1 := three_frz (o := 1) HD1.out
  have s2 := three_frz (o := 2) HD1.out
  have HF : Hid (∀ x, x = (((w1.setCell ⟨w.heap.size, 0, none⟩ (.slice a1 l.length c1)).setCell ⟨w.heap.size + 1, 0, none⟩ (.slice a1 l.length c1)).setCell ⟨w.heap.size + 1, 1, none⟩ (.int .i64 f)).setCell ⟨w.heap.size + 1, 2, none⟩ (.int .i64 t) →
      x.heap[w.heap.size + 1]? = some (.cells #[.slice a1 l.length c1, .int .i64 f, .int .i64 t] 46) ∧ OwnL w.heap.size ⟨l, a1, c1, f, t⟩ x ∧ Below w.heap.size w x) := by
    rintro x rfl
    have hS := HSZ.out
    refine ⟨set_at (i := 2) (set_at (i := 1) (set_at (i := 0) (set_else HD1.out (by simp only; omega)))), ?_, ?_⟩
    · refine (HO1.out.fw (P := fun k => k = w.heap.size ∨ k = w.heap.size + 1) ((((Fw.set _ (.inl rfl)).trans (Fw.set _ (.inr rfl))).trans (Fw.set _ (.inr rfl))).trans (Fw.set _ (.inr rfl))) (fun k hk e => ?_)).base (by omega)
      have := (HO1.out.lo hk).1
      omega
    · exact Below.setCell (p := ⟨w.heap.size + 1, 2, none⟩) (Below.setCell (p := ⟨w.heap.size + 1, 1, none⟩) (Below.setCell (p := ⟨w.heap.size + 1, 0, none⟩) (Below.setCell (p := ⟨w.heap.size, 0, none⟩) HB1.out (by simp only; omega) _) (by simp only; omega) _) (by simp only; omega) _) (by simp only; omega) _
  clear HB1 HA1 HD1 HO1
  go_wp2
  revert HF
  generalize hwf : World.setCell _ _ _ = wf
  intro HF
  obtain ⟨k1, k2, k3⟩ := HF.out wf (by rw [← hwf])
  obtain ⟨y0, y1, y2⟩ := three k1
  refine bodyPost_ret (v := .agg #[.slice a1 l.length c1, .int .i64 f, .int .i64 t]) (by simp [results, Try.results25, go_sem, y0, y1, y2]) rfl ⟨⟨l, a1, c1, f, t⟩, rfl, rfl, k2, k3⟩
set_option maxHeartbeats 2000000 in
theorem f21 (q : T) (b off : Nat) (w : World) (ha : q.a = some ⟨b, off, none⟩) (hl : HasL w q.a q.l) (n1 : q.l.length ≤ 1048576) :
    Calls Try.prog 21 #[agT q] w fun e w' => ∃ q' : T, e = .returned (agT q') ∧ pl q' = pl q ∧ OwnL w.heap.size q' w' ∧ Below w.heap.size w w' := by
  obtain ⟨l, a, c, f, t⟩ := q
  simp only at ha hl n1
  subst ha
  have HL := hid hl
  clear hl
  obtain ⟨W, hW⟩ : ∃ W, W = (w.alloc (.cells #[.slice (some ⟨b, off, none⟩) l.length c, .int .i64 f, .int .i64 t] 46)).alloc ZP := ⟨_, rfl⟩
  have HWb : Hid (Below w.heap.size w W ∧ W.heap[w.heap.size]? = some (.cells #[.slice (some ⟨b, off, none⟩) l.length c, .int .i64 f, .int .i64 t] 46) ∧ W.heap[w.heap.size + 1]? = some ZP ∧ W.heap.size = w.heap.size + 1 + 1) := by
    subst hW
    have h2 := heap_alloc_new (w.alloc (.cells #[.slice (some ⟨b, off, none⟩) l.length c, .int .i64 f, .int .i64 t] 46)) ZP
    simp only [World.size_alloc] at h2
    exact ⟨((Below.refl w.heap.size w).alloc (Nat.le_refl _) _).alloc (by simp) _, (Below.heap_alloc _ _ w.heap.size (by simp)).trans (heap_alloc_new w _), h2, by simp⟩
  simp only [agT]
  go_enter Try.func21, Try.ntmps21
  go_wp2_with fail
  rw [← hW]
  refine (f35 b off c l _ n1 (HL.out.below HWb.out.1)).mono ?_
  rintro e w1 ⟨v1, rfl, ho1, hb1⟩
  obtain ⟨a1, c1, rfl⟩ := own_form ho1
  have HB1 := hid (HWb.out.1.trans (hb1.mono HWb.out.1.size))
  have HA1 := hid (kept HWb.out.2.1 hb1)
  have HD1 := hid (kept HWb.out.2.2.1 hb1)
  have HSZ := hid HWb.out.2.2.2
  have HO1 : Hid (OwnL W.heap.size ⟨l, a1, c1, f, t⟩ w1) := OwnL.ofRow ho1
  clear ho1 hb1 hW HWb
  generalize W.heap.size = Sz at *
  obtain ⟨a0, a2, a3⟩ := three HA1.out
  obtain ⟨d0, d1, d2⟩ := three HD1.out
  have r0 := three_frz (o := 0) HA1.out
  have s0 := three_frz (o := 0) HD1.out
  have s1 := three_frz (o := 1) HD1.out
  have s2 := three_frz (o := 2) HD1.out
  have HF : Hid (∀ x, x = (((w1.setCell ⟨w.heap.size, 0, none⟩ (.slice a1 l.length c1)).setCell ⟨w.heap.size + 1, 0, none⟩ (.slice a1 l.length c1)).setCell ⟨w.heap.size + 1, 1, none⟩ (.int .i64 f)).setCell ⟨w.heap.size + 1, 2, none⟩ (.int .i64 t) →
      x.heap[w.heap.size + 1]? = some (.cells #[.slice a1 l.length c1, .int .i64 f, .int .i64 t] 46) ∧ OwnL w.heap.size ⟨l, a1, c1, f, t⟩ x ∧ Below w.heap.size w x) := by
    rintro x rfl
    have hS := HSZ.out
    refine ⟨set_at (i := 2) (set_at (i := 1) (set_at (i := 0) (set_else HD1.out (by simp only; omega)))), ?_, ?_⟩
    · refine (HO1.out.fw (P := fun k => k = w.heap.size ∨ k = w.heap.size + 1) ((((Fw.set _ (.inl rfl)).trans (Fw.set _ (.inr rfl))).trans (Fw.set _ (.inr rfl))).trans (Fw.set _ (.inr rfl))) (fun k hk e => ?_)).base (by omega)
      have := (HO1.out.lo hk).1
      omega
    · exact Below.setCell (p := ⟨w.heap.size + 1, 2, none⟩) (Below.setCell (p := ⟨w.heap.size + 1, 1, none⟩) (Below.setCell (p := ⟨w.heap.size + 1, 0, none⟩) (Below.setCell (p := ⟨w.heap.size, 0, none⟩) HB1.out (by simp only; omega) _) (by simp only; omega) _) (by simp only; omega) _) (by simp only; omega) _
  clear HB1 HA1 HD1 HO1
  go_wp2
  revert HF
  generalize hwf : World.setCell _ _ _ = wf
  intro HF
  obtain ⟨k1, k2, k3⟩ := HF.out wf (by rw [← hwf])
  obtain ⟨y0, y1, y2⟩ := three k1
  refine bodyPost_ret (v := .agg #[.slice a1 l.length c1, .int .i64 f, .int .i64 t]) (by simp [results, Try.results21, go_sem, y0, y1, y2]) rfl ⟨⟨l, a1, c1, f, t⟩, rfl, rfl, k2, k3⟩
/-- A row of puts as a member of a list. -/
structure S where
  ps : List T
  a : Option Addr
  c : Nat
def s0 : S := ⟨[], none, 0⟩
instance : Inhabited S := ⟨s0⟩
def vS (s : S) : Value := .slice s.a s.ps.length s.c
def plS (s : S) : List Pl := s.ps.map pl
/-- The slice that begins at 'a' holds these rows of puts. -/
def HasSS (w : World) (a : Option Addr) (R : List S) : Prop :=
  R = [] ∨ ∃ b off, a = some ⟨b, off, none⟩ ∧ b < w.heap.size ∧ ∀ i, i < R.length → w.cell? ⟨b, off + i, none⟩ = some (vS (R.getD i s0)) ∧ HasT w (R.getD i s0).a (R.getD i s0).ps
theorem HasSS.below {w w' : World} {a : Option Addr} {R : List S} (h : HasSS w a R) (hb : Below w.heap.size w w') : HasSS w' a R := by
  rcases h with h | ⟨b, off, h1, h2, h3⟩
  · exact .inl h
  · exact .inr ⟨b, off, h1, Nat.lt_of_lt_of_le h2 hb.size, fun i hi => ⟨(hb.cell (by exact h2)).trans (h3 i hi).1, (h3 i hi).2.below hb⟩⟩
/-- Small enough to be gone through. -/
def SmlS (R : List S) : Prop := ∀ i, i < R.length → (R.getD i s0).ps.length ≤ 1048576 ∧ SmlT (R.getD i s0).ps
theorem same_pl {ps ps' : List T} (h : ps'.map pl = ps.map pl) : ps'.length = ps.length ∧ Same ps.length ps ps' := by
  have hl : ps'.length = ps.length := by simpa using congrArg List.length h
  refine ⟨hl, fun i hi => ?_⟩
  have e1 : (ps'.map pl)[i]? = (ps.map pl)[i]? := by rw [h]
  have g1 : ps.getD i t0 = ps[i] := by simp [hi]
  have g2 : ps'.getD i t0 = ps'[i]'(by omega) := by simp [show i < ps'.length by omega]
  rw [g1, g2]
  simpa [hi, show i < ps'.length by omega] using e1
/-- Two cells with rows of puts. -/
abbrev ES (w : World) (s s' : S) (b o b' o' : Nat) (x : World) : Prop :=
  x.cell? ⟨b, o, none⟩ = some (.slice s.a s.ps.length s.c) ∧ x.cell? ⟨b', o', none⟩ = some (.slice s'.a s.ps.length s'.c) ∧
  HasT x s.a s.ps ∧ HasT x s'.a s'.ps ∧ b < x.heap.size ∧ b' < x.heap.size ∧ Below w.heap.size w x
theorem ES.below {w : World} {s s' : S} {b o b' o' : Nat} {x y : World} (h : ES w s s' b o b' o' x) (hb : Below x.heap.size x y) : ES w s s' b o b' o' y := by
  obtain ⟨h0, k0, t1, t3, l1, l2, hw⟩ := h
  exact ⟨(hb.cell (by exact l1)).trans h0, (hb.cell (by exact l2)).trans k0, t1.below hb, t3.below hb, Nat.lt_of_lt_of_le l1 hb.size, Nat.lt_of_lt_of_le l2 hb.size, hw.trans (hb.mono hw.size)⟩
set_option maxHeartbeats 2000000 in
theorem f12 (a a' : Option Addr) (n c c' : Nat) (R R' : List S) (w : World) (hn : R.length = n) (hn' : R'.length = n) (hb : n ≤ 1048576) (hr : HasSS w a R) (hr' : HasSS w a' R') (hs : R'.map plS = R.map plS) (hz : SmlS R) :
    Calls Try.prog 12 #[.slice a n c, .slice a' n c'] w fun e w' => e = .returned (.bool true) ∧ Below w.heap.size w w' := by
  have HN := hid hn
  have HN' := hid hn'
  have HR := hid hr
  have HR' := hid hr'
  have HZ := hid hz
  have HS : Hid (∀ i, i < n → (R'.getD i s0).ps.map pl = (R.getD i s0).ps.map pl) := fun i hi => by
    have e1 : (R'.map plS)[i]? = (R.map plS)[i]? := by rw [hs]
    have g1 : R.getD i s0 = R[i]'(by omega) := by simp [show i < R.length by omega]
    have g2 : R'.getD i s0 = R'[i]'(by omega) := by simp [show i < R'.length by omega]
    rw [g1, g2]
    simpa [plS, show i < R.length by omega, show i < R'.length by omega] using e1
  clear hn hn' hr hr' hs hz
  go_enter Try.func12, Try.ntmps12
  go_wp2
  go_loopw [5] (fun i wr => ∃ k : Nat, k ≤ n ∧ i = .int .i64 k ∧ Hid (Below w.heap.size w wr)) (fun i _ => n - (intOf i).toNat)
  case atStart => exact ⟨0, Nat.zero_le _, rfl, Below.refl _ _⟩
  case round =>
    obtain ⟨k, hk, rfl, HX⟩ := hrel
    by_cases hlt : k < n
    · rcases HR.out.below HX.out with h | ⟨b, off, rfl, hbl, hc⟩
      · exfalso; have := HN.out; rw [h] at this; simp at this; omega
      rcases HR'.out.below HX.out with h | ⟨b', off', rfl, hbl', hc'⟩
      · exfalso; have := HN'.out; rw [h] at this; simp at this; omega
      obtain ⟨d0, d1⟩ := hc k (by rw [HN.out]; exact hlt)
      obtain ⟨e0, e1⟩ := hc' k (by rw [HN'.out]; exact hlt)
      obtain ⟨z1, z2⟩ := HZ.out k (by rw [HN.out]; exact hlt)
      obtain ⟨p1, p2⟩ := same_pl (HS.out k hlt)
      clear hc hc'
      generalize R.getD k s0 = s at *
      generalize R'.getD k s0 = s' at *
      have HE : Hid (ES w s s' b (off + k) b' (off' + k) wr) := ⟨d0, by rw [e0, vS, p1], d1, e1, hbl, hbl', HX.out⟩
      have HP1 := hid p1
      have HP2 := hid p2
      have HZ2 := hid z2
      clear d0 d1 e0 e1 hbl hbl' p1 p2 z2
      have i1 : (k : Int) < (n : Int) := by omega
      go_wp2_with fail
      go_region_held3 (fun x => ES w s s' b (off + k) b' (off' + k) x) (first | exact HE.out.below (Below.refl _ _).drew | assumption) (first | (go_at_call 13; refine (f13 s.a s'.a s.ps.length s.c s'.c s.ps s'.ps _ rfl HP1.out z1 (And.left (And.right (And.right (by assumption)))) (And.left (And.right (And.right (And.right (by assumption))))) HP2.out HZ2.out).mono ?_; rintro e w2 ⟨rfl, hb2⟩; have hs2 := ES.below (by assumption) hb2; clear hb2))
      have HX2 := hid hs2.2.2.2.2.2.2
      clear hs2
      go_wp2
      go_roundw
      case rel => exact ⟨k + 1, by omega, by go_num, HX2.out⟩
      case measure => simp [intOf]; omega
    · go_wp2
      go_ret
      exact ⟨rfl, HX.out⟩
end Go.Proofs.Ytjjdfenbfjcmaaa.Ptn
