/- For the walk of FnExactJoinLabels: szTarget with its bound; what lies about while marks are set. -/
import Derived.Test.YtcknlidbjnmbjaaGreatDoorRSK
import Derived.Test.YtcknlidbjnmbjaaGreatDoorRRV
import Derived.Test.YtcknlidbjnmbjaaGreatDoorRSE
namespace Go.Proofs.YtcknlidbjnmbjaaGreatDoor.Tgt
open Go.RowKit Go.Proofs.YtcknlidbjnmbjaaGreatDoor.Fil Go.Proofs.YtcknlidbjnmbjaaGreatDoor.Rul
open Go.Proofs.YtcknlidbjnmbjaaGreatDoor.Lab (Lb HasL)
open Go.Proofs.YtcknlidbjnmbjaaGreatDoor.Tot (tot)
set_option maxHeartbeats 2000000 in
theorem f4u (t : Tg) (w : World) (hr : Has w t) (hf : FitG t) :
    Calls Tryz.prog 4 #[agT t, .int .i64 1048576] w fun e w' => ∃ y : Int, e = .returned (.int .i64 y) ∧ (0 ≤ y → Sml t ∧ t.qs.length + tot t.qs t.qs.length ≤ 1048576) ∧ y ≤ 1048576 ∧ Below w.heap.size w w' := by
  obtain ⟨ls, la, lc, ev, lm, ho, qs, ra, rc⟩ := t
  have HB0 := hid ((Below.refl w.heap.size w).alloc (Nat.le_refl _) (.cells #[.slice la ls.length lc, .int .i64 ev, .int .i64 lm, .bool ho, .slice ra qs.length rc] 25))
  have HW0 := hid (heap_alloc_new w (.cells #[.slice la ls.length lc, .int .i64 ev, .int .i64 lm, .bool ho, .slice ra qs.length rc] 25))
  have HR := hid hr
  have HF := hid hf
  clear hr hf
  go_enter Tryz.func4, Tryz.ntmps4
  go_wp2_with fail
  refine (Lab.f5g la ls.length lc 1048576 ls _ (by omega) (by omega) rfl (HR.out.lab.below HB0.out) HF.out.lab HF.out.ln).mono ?_
  rintro e w1 ⟨y, rfl, hy, y0, y1, hb1⟩
  have HB1 := hid (HB0.out.trans (hb1.mono HB0.out.size))
  have HW1 := hid (kept HW0.out hb1)
  clear hb1 HW0
  by_cases g0 : y < 0
  · go_wp2
    go_ret
    exact ⟨-1, rfl, fun h => absurd h (by omega), by omega, HB1.out⟩
  have HY := hid (hy (by omega))
  clear hy
  obtain ⟨b0, b1, b2, b3, b4⟩ := cells5 HW1.out
  go_wp2_with fail
  refine (Tot.f15 ra qs.length rc y qs _ (by omega) y1 rfl (HR.out.rul.below HB1.out) HF.out.rul HF.out.qn).mono ?_
  rintro e w2 ⟨z, rfl, hz, z0, z1, hb2⟩
  have HB2 := hid (HB1.out.trans (hb2.mono HB1.out.size))
  clear hb2 b0 b1 b2 b3 b4
  by_cases g1 : z < 0
  · go_wp2
    go_ret
    exact ⟨-1, rfl, fun h => absurd h (by omega), by omega, HB2.out⟩
  have HZ := hid (hz (by omega))
  clear hz
  go_wp2
  go_ret
  exact ⟨z, rfl, fun _ => ⟨⟨HY.out, HZ.out.1.1, HZ.out.1.2⟩, by have := HZ.out.2; omega⟩, z1, HB2.out⟩

theorem own_fr {X Y : Nat} {w w' : World} {base e size n : Nat} {v : Value} {xs : List Value} (h : w.ownsRow base e size v n xs) (hf : Fr X Y w w') (hY : Y ≤ base) : w'.ownsRow base e size v n xs := by
  refine ⟨h.1, ?_⟩
  rcases h.2 with h2 | ⟨g, cap, cur, h1, h2, h3, h4⟩
  · exact .inl h2
  · refine .inr ⟨g, cap, cur, h1, h2, ?_, h4⟩
    have hlt : g < w.heap.size := lt_at h3
    exact (hf.block g hlt (.inr (Nat.le_trans hY h2))).trans h3
theorem fr_below {X Y : Nat} {w0 w w' : World} (hb : Below X w0 w) (hf : Fr X Y w w') (hX : X ≤ w.heap.size) : Below X w0 w' :=
  ⟨hf.os.trans hb.os, hf.tape.trans hb.tape, hf.output.trans hb.output, Nat.le_trans hb.size hf.size, fun j hj => (hf.block j (by omega) (.inl hj)).trans (hb.block j hj)⟩
theorem grown_below {X g : Nat} {w0 w w' : World} (hb : Below X w0 w) (hf : w.grownBy w' (some g)) (hX : X ≤ w.heap.size) (hg : X ≤ g) : Below X w0 w' :=
  ⟨hf.os.trans hb.os, hf.tape.trans hb.tape, hf.output.trans hb.output, Nat.le_trans hb.size hf.size, fun j hj => (hf.block j (by omega) (by simp; omega)).trans (hb.block j hj)⟩
theorem tot_same : ∀ (qs qs' : List Q), qs'.length = qs.length → (∀ i, i < qs.length → (qs'.getD i q0).r = (qs.getD i q0).r) → (qs'.map fun q => q.r.from'.length).sum = (qs.map fun q => q.r.from'.length).sum := by
  intro qs
  induction qs with
  | nil => intro qs' hn _; rw [List.eq_nil_of_length_eq_zero hn]
  | cons q qs ih =>
    intro qs' hn h
    cases qs' with
    | nil => simp at hn
    | cons q' qs' =>
      have h0 : q'.r = q.r := h 0 (by simp)
      have h1 := ih qs' (by simpa using hn) (fun i hi => h (i + 1) (by simp; omega))
      simp only [List.map_cons, List.sum_cons, h0, h1]
theorem Same.tot {t t' : Tg} (h : Same t t') (ht : t.qs.length + Tot.tot t.qs t.qs.length ≤ 1048576) : t'.qs.length + Tot.tot t'.qs t'.qs.length ≤ 1048576 := by
  unfold Tot.tot at *
  rw [List.take_length] at *
  rw [h.qn, tot_same _ _ h.qn h.rul]
  exact ht
/-- The argument in its box. -/
structure Tl (w : World) (t : Tg) (x : World) : Prop where
  box : x.heap[w.heap.size]? = some (.cells (clT t) 25)
  has : Has x t
  bel : Below w.heap.size w x
theorem Tl.below {w : World} {t : Tg} {x y : World} (h : Tl w t x) (hb : Below x.heap.size x y) : Tl w t y := ⟨kept h.box hb, h.has.below hb, h.bel.trans (hb.mono h.bel.size)⟩
theorem Tl.new {w : World} {t : Tg} (h : Has w t) : Tl w t (w.alloc (.cells (clT t) 25)) := by
  have hb := (Below.refl w.heap.size w).alloc (Nat.le_refl _) (.cells (clT t) 25)
  exact ⟨heap_alloc_new w _, h.below hb, hb⟩
/-- What lies about: the argument, the copies, the answer; the labels of the model lie in the world w0. -/
structure Jw (w0 w : World) (t t' : Tg) (B G n : Nat) (l : List Lb) (Z : Nat) (a : Option Addr) (m c : Nat) (L : List Lb) (x : World) : Prop where
  wx : Wx w t t' B x
  own : OwnT w0.heap.size t' x
  arg : x.ownsRow G 48 2 (.slice (some ⟨G, 0, none⟩) n n) n (Lab.flat l)
  row : x.ownsRow Z 48 2 (.slice a m c) m (Lab.flat L)
  bel : Below w0.heap.size w0 x
section
variable {w0 w : World} {t t' : Tg} {B G n : Nat} {l : List Lb} {Z : Nat} {a : Option Addr} {m c : Nat} {L : List Lb} {x y : World}
theorem Jw.below (h : Jw w0 w t t' B G n l Z a m c L x) (hb : Below x.heap.size x y) : Jw w0 w t t' B G n l Z a m c L y :=
  ⟨h.wx.below hb, h.own.below hb, Lab.own_below h.arg hb, Lab.own_below h.row hb, h.bel.trans (hb.mono h.bel.size)⟩
abbrev JS (w0 w : World) (t t' : Tg) (B G n : Nat) (l : List Lb) (Z : Nat) (a : Option Addr) (m c : Nat) (L : List Lb) (x : World) : Prop :=
  x.cell? ⟨w.heap.size, 0, none⟩ = some (.slice t.la t.ls.length t.lc) ∧ x.cell? ⟨w.heap.size, 1, none⟩ = some (.int .i64 t.ev) ∧ x.cell? ⟨w.heap.size, 2, none⟩ = some (.int .i64 t.lm) ∧ x.cell? ⟨w.heap.size, 3, none⟩ = some (.bool t.ho) ∧ x.cell? ⟨w.heap.size, 4, none⟩ = some (.slice t.ra t.qs.length t.rc) ∧
  x.cell? ⟨B, 0, none⟩ = some (.slice t'.la t'.ls.length t'.lc) ∧ x.cell? ⟨B, 1, none⟩ = some (.int .i64 t'.ev) ∧ x.cell? ⟨B, 2, none⟩ = some (.int .i64 t'.lm) ∧ x.cell? ⟨B, 3, none⟩ = some (.bool t'.ho) ∧ x.cell? ⟨B, 4, none⟩ = some (.slice t'.ra t'.qs.length t'.rc) ∧ Jw w0 w t t' B G n l Z a m c L x
theorem Jw.cells (h : Jw w0 w t t' B G n l Z a m c L x) : JS w0 w t t' B G n l Z a m c L x := by
  obtain ⟨b0, b1, b2, b3, b4⟩ := cells5 h.wx.one
  obtain ⟨c0, c1, c2, c3, c4⟩ := cells5 h.wx.two
  exact ⟨b0, b1, b2, b3, b4, c0, c1, c2, c3, c4, h⟩
theorem JS.pw (h : JS w0 w t t' B G n l Z a m c L x) : Jw w0 w t t' B G n l Z a m c L x := h.2.2.2.2.2.2.2.2.2.2
theorem JS.below (h : JS w0 w t t' B G n l Z a m c L x) (hb : Below x.heap.size x y) : JS w0 w t t' B G n l Z a m c L y := (h.pw.below hb).cells
end
end Go.Proofs.YtcknlidbjnmbjaaGreatDoor.Tgt
/- The walk of FnExactJoinLabels. -/
namespace Go.Proofs.YtcknlidbjnmbjaaGreatDoor.Tgt
open Go.RowKit Go.Proofs.YtcknlidbjnmbjaaGreatDoor.Fil Go.Proofs.YtcknlidbjnmbjaaGreatDoor.Rul
open Go.Proofs.YtcknlidbjnmbjaaGreatDoor.Lab (Lb HasL)
set_option maxHeartbeats 8000000 in
set_option maxRecDepth 100000 in
theorem walk6 (t : Tg) (a : Option Addr) (n c : Nat) (l : List Lb) (w : World) (hr : Has w t) (hf : FitG t) (ht : Rel.Tab w) (hn : l.length = n) (hmax : n ≤ maxLen) (hl : HasL w a l) (hfl : Lab.Fit l) :
    Calls Tryz.prog 3 #[agT t, .slice a n c] w fun e w' => e = .returned (.bool true) ∧ Below w.heap.size w w' := by
  have H0 := hid (Tl.new hr)
  have HF := hid hf
  have HT := hid ht
  have HN := hid hn
  have HLL := hid hl
  have HFL := hid hfl
  have HMX := hid hmax
  clear hr hf ht hn hl hfl
  obtain ⟨ls, la, lc, ev, lm, ho, qs, ra, rc⟩ := t
  obtain ⟨b0, b1, b2, b3, b4⟩ := cells5 H0.out.box
  go_enter Tryz.func3, Tryz.ntmps3
  go_wp2_with fail
  refine (Tgt.f4u ⟨ls, la, lc, ev, lm, ho, qs, ra, rc⟩ _ H0.out.has HF.out).mono ?_
  rintro e w1 ⟨y, rfl, hy, hy1, hb1⟩
  have H1 := hid (H0.out.below hb1)
  clear hb1 H0 b0 b1 b2 b3 b4
  by_cases g0 : y < 0
  · go_wp2
    go_ret
    exact ⟨rfl, H1.out.bel⟩
  have HZ := hid (hy (by omega)).1
  have HTO := hid (hy (by omega)).2
  clear hy
  go_wp2_with fail
  refine (Lab.f5g a n c y l _ (by omega) hy1 HN.out (HLL.out.below H1.out.bel) HFL.out hmax).mono ?_
  rintro e w2 ⟨z, rfl, hz, z0, z1, hb2⟩
  have H2 := hid (H1.out.below hb2)
  clear hb2 H1
  by_cases g1 : z < 0
  · go_wp2
    go_ret
    exact ⟨rfl, H2.out.bel⟩
  have hbig := hz (by omega)
  clear hz
  -- the model
  obtain ⟨b0, b1, b2, b3, b4⟩ := cells5 H2.out.box
  go_wp2_with fail
  refine (f7 ⟨ls, la, lc, ev, lm, ho, qs, ra, rc⟩ _ H2.out.has HZ.out).mono ?_
  rintro e w3 ⟨t3, rfl, hs3, hh3, hb3⟩
  have H3 := hid (H2.out.below hb3)
  have HS3 := hid hs3
  have HH3 := hid hh3
  clear hb3 hs3 hh3 H2 b0 b1 b2 b3 b4
  go_wp2_with fail
  refine (Lab.f8 a n c l _ HN.out hbig (HLL.out.below H3.out.bel)).mono ?_
  rintro e w4 ⟨rfl, ho4, hb4⟩
  have H4 := hid (H3.out.below hb4)
  have HH4 := hid (HH3.out.below hb4)
  have HA4 := hid (Lab.HasL.own ho4)
  clear hb4 ho4 H3 HH3
  go_wp2_with fail
  refine (f6 t3 _ n n l _ HH4.out (HS3.out.fit HF.out) (HS3.out.sml HZ.out) HN.out hmax HA4.out HFL.out).mono ?_
  rintro e w5 ⟨aw, mw, cw, bw, L, rfl, hb5, ho5, hjz⟩
  have H5 := hid (H4.out.below hb5)
  have HJZ := hid hjz
  have HW := hid (Lab.HasL.owno ho5)
  have hmw : L.length = mw := Lab.own_len ho5
  have hm20 : mw ≤ 20 := by rw [← hmw]; exact hjz.len
  have HML := hid hmw
  clear hb5 hjz ho5 H4 HH4 HA4 hmw
  -- the program
  obtain ⟨b0, b1, b2, b3, b4⟩ := cells5 H5.out.box
  go_wp2_with fail
  refine (f7o ⟨ls, la, lc, ev, lm, ho, qs, ra, rc⟩ _ H5.out.has HZ.out).mono ?_
  rintro e w6 ⟨t6, rfl, hs6, hh6, hb6, how6⟩
  obtain ⟨ls6, la6, lc6, ev6, lm6, ho6, qs6, ra6, rc6⟩ := t6
  have hb := (Below.refl w6.heap.size w6).alloc (Nat.le_refl _) (.cells (clT ⟨ls6, la6, lc6, ev6, lm6, ho6, qs6, ra6, rc6⟩) 33)
  have H6 := H5.out.below hb6
  have HX6 : Hid (Wx w ⟨ls, la, lc, ev, lm, ho, qs, ra, rc⟩ ⟨ls6, la6, lc6, ev6, lm6, ho6, qs6, ra6, rc6⟩ w6.heap.size (w6.alloc (.cells (clT ⟨ls6, la6, lc6, ev6, lm6, ho6, qs6, ra6, rc6⟩) 33))) :=
    ⟨kept H6.box hb, heap_alloc_new w6 _, H6.has.below hb, hh6.below hb, H6.bel.trans (hb.mono H6.bel.size)⟩
  have HB6 := hid (hb6.trans (hb.mono hb6.size))
  have HO6 := hid (how6.below hb)
  have HLT := hid how6.lt
  have HXB := hid hb6.size
  have HS6 := hid hs6
  have HSZ : Hid ((w6.alloc (.cells (clT ⟨ls6, la6, lc6, ev6, lm6, ho6, qs6, ra6, rc6⟩) 33)).heap.size = w6.heap.size + 1) := by unfold Hid; simp
  clear hb6 hs6 hh6 how6 H6 hb b0 b1 b2 b3 b4
  generalize hBB : w6.heap.size = BB at *
  go_wp2_with fail
  refine (Lab.f8 a n c l _ HN.out hbig (HLL.out.below HX6.out.bel)).mono ?_
  rintro e w7 ⟨rfl, ho7, hb7⟩
  rw [HSZ.out] at ho7
  have HX7 := hid (HX6.out.below hb7)
  have HO7 := hid (HO6.out.below hb7)
  have HR7 := hid ho7
  have HB7 := hid (HB6.out.trans (hb7.mono HB6.out.size))
  have HT7 := hid (HT.out.below HX7.out.bel)
  have HG7 : Hid (BB + 1 < w7.heap.size) := (ho7.lt (BB + 1) rfl).2
  clear hb7 ho7 HX6 HO6 HB6
  obtain ⟨c0, c1, c2, c3, c4⟩ := cells5 HX7.out.two
  go_wp2_with fail
  refine (f9 ⟨ls6, la6, lc6, ev6, lm6, ho6, qs6, ra6, rc6⟩ (some ⟨BB + 1, 0, none⟩) n n l _ HX7.out.has (HS6.out.fit HF.out) (HS6.out.sml HZ.out) HT7.out HN.out hmax (Lab.HasL.own HR7.out) HFL.out).mono ?_
  rintro e w8 ⟨ag, mg, cg, bg, L', rfl, hb8, ho8, hjz'⟩
  obtain ⟨rfl, hLL⟩ := HJZ.out.uniq hjz' (HS3.out.good.trans HS6.out.good.symm) (HS6.out.ls.trans HS3.out.ls.symm) (HS6.out.ho.trans HS3.out.ho.symm)
  subst hLL
  obtain rfl : mw = mg := HML.out.symm.trans (Lab.own_len ho8)
  generalize hZZ : w7.heap.size = ZZ at ho8 HG7
  have H8 : Hid (Jw w5 w ⟨ls, la, lc, ev, lm, ho, qs, ra, rc⟩ ⟨ls6, la6, lc6, ev6, lm6, ho6, qs6, ra6, rc6⟩ BB (BB + 1) n l ZZ ag mw cg L' w8) :=
    ⟨HX7.out.below hb8, HO7.out.below hb8, Lab.own_below HR7.out hb8, ho8, HB7.out.trans (hb8.mono HB7.out.size)⟩
  have hGZ : BB + 1 < ZZ := HG7.out
  clear hb8 ho8 hjz' HX7 HO7 HR7 HB7 HT7 HSZ hBB hZZ c0 c1 c2 c3 c4
  have HS6' := hid HS6.out
  have HZ6 := hid (HS6.out.sml HZ.out)
  have HT6 := hid (HS6.out.tot HTO.out)
  go_wp2_with fail
  refine (Lab.f10 ag aw mw cg cw L' _ HML.out (by omega) (Lab.HasL.owno H8.out.row) (HW.out.below H8.out.bel)).mono ?_
  rintro e w9 ⟨rfl, hb9⟩
  have H9 := hid (H8.out.below hb9)
  clear hb9 H8
  go_wp2_with fail
  go_region_held3 (fun x => JS w5 w ⟨ls, la, lc, ev, lm, ho, qs, ra, rc⟩ ⟨ls6, la6, lc6, ev6, lm6, ho6, qs6, ra6, rc6⟩ BB (BB + 1) n l ZZ ag mw cg L' x) (first | exact (H9.out.below (below_drew _)).cells | assumption) (first | (go_at_call 7; refine (f7 ⟨ls, la, lc, ev, lm, ho, qs, ra, rc⟩ _ (Wx.arg (Jw.wx (JS.pw (by assumption)))) HZ.out).mono ?_; rintro e w10 ⟨t10, rfl, hs10, hh10, hb10⟩; have hq10 := JS.below (by assumption) hb10; clear hb10) | (go_at_call 11; refine (f11 ⟨ls6, la6, lc6, ev6, lm6, ho6, qs6, ra6, rc6⟩ t10 _ (Wx.has (Jw.wx (JS.pw (by assumption)))) (by assumption) (HS6'.out.trans' (by assumption)) HZ6.out).mono ?_; rintro e w11 ⟨rfl, hb11⟩; have hq11 := JS.below (by assumption) hb11; clear hb11))
  have H11 := hid hq11.pw
  clear hq11
  -- the labels handed in stay
  go_wp2_with fail
  refine (Lab.f8 a n c l _ HN.out hbig (HLL.out.below H11.out.wx.bel)).mono ?_
  rintro e w12 ⟨rfl, ho12, hb12⟩
  have H12 := hid (H11.out.below hb12)
  have HA12 := hid (Lab.HasL.own ho12)
  clear hb12 ho12 H11
  go_wp2_with fail
  refine (Lab.f10 _ _ n n n l _ HN.out hbig (Lab.HasL.own H12.out.arg) HA12.out).mono ?_
  rintro e w13 ⟨rfl, hb13⟩
  have H13 := hid (H12.out.below hb13)
  clear hb13 H12 HA12
  -- marks in the copies
  obtain ⟨c0, c1, c2, c3, c4⟩ := cells5 H13.out.wx.two
  have hBlt : BB ≤ w13.heap.size := Nat.le_of_lt (lt_at H13.out.wx.two)
  have HXB' := HXB.out
  go_wp2_with fail
  refine (f12 ⟨ls6, la6, lc6, ev6, lm6, ho6, qs6, ra6, rc6⟩ w5.heap.size BB _ H13.out.own HLT.out hBlt HZ6.out HT6.out).mono ?_
  rintro e w14 ⟨⟨k', hk', rfl⟩, hf14⟩
  have HB14 := hid (fr_below H13.out.bel hf14 H13.out.bel.size)
  have HR14 := hid (own_fr H13.out.row hf14 (by omega))
  have HA14 := hid (own_fr H13.out.arg hf14 (by omega))
  clear hf14 H13 c0 c1 c2 c3 c4 hBlt
  go_wp2_with fail
  have h14 := Lab.f13 (BB + 1) n n (BB + 1) k' l w14 HN.out (by omega) HA14.out
  obtain ⟨k1, hk1⟩ : ∃ k1, k1 = k' + 2 * n := ⟨_, rfl⟩
  rw [← hk1] at h14
  refine h14.mono ?_
  clear h14 hk1
  rintro e w15 ⟨rfl, -, hg15⟩
  have HB15 := hid (grown_below HB14.out hg15 HB14.out.size (by omega))
  have BG : Hid (∀ i, (Value.slice ag mw cg).ownBlock = some i → ZZ ≤ i) := fun i hi => (HR14.out.lt i hi).1
  have HR15 := hid (HR14.out.kept hg15 (by
    cases h1 : (Value.slice ag mw cg).ownBlock with
    | none => exact .inl rfl
    | some i => exact .inr (fun e => by have := BG.out i h1; have := Option.some.inj e; omega)))
  clear hg15 HB14 HR14 HA14
  go_wp2_with fail
  refine (Lab.f10 ag aw mw cg cw L' _ HML.out (by omega) (Lab.HasL.owno HR15.out) (HW.out.below HB15.out)).mono ?_
  rintro e w16 ⟨rfl, hb16⟩
  have HB16 := hid (HB15.out.trans (hb16.mono HB15.out.size))
  have HR16 := hid (Lab.own_below HR15.out hb16)
  clear hb16 HB15 HR15
  -- marks in the answer
  go_wp2_with fail
  have h16 := Lab.f13o ag mw cg ZZ 1 L' w16 (by omega) HR16.out
  obtain ⟨k3, hk3⟩ : ∃ k3, k3 = 1 + 2 * mw := ⟨_, rfl⟩
  rw [← hk3] at h16
  have HK3 := hid hk3
  refine h16.mono ?_
  clear h16 hk3
  rintro e w17 ⟨rfl, ho17, hg17⟩
  have HB17 := hid (HB16.out.grown hg17 HB16.out.size (fun i hi => by have := BG.out i hi; omega))
  have HR17 := hid ho17
  clear hg17 ho17 HB16 HR16
  go_wp2_with fail
  have h17 := Lab.f14o ag mw cg ZZ 1 w17 (by omega) HR17.out
  rw [← HK3.out] at h17
  refine h17.mono ?_
  clear h17
  rintro e w18 ⟨rfl, hb18⟩
  have HB18 := hid (HB17.out.trans (hb18.mono HB17.out.size))
  have HR18 := hid (Lab.own_below HR17.out hb18)
  clear hb18 HB17 HR17
  -- once more
  have H18 := H5.out.below HB18.out
  obtain ⟨b0, b1, b2, b3, b4⟩ := cells5 H18.box
  go_wp2_with fail
  refine (f7 ⟨ls, la, lc, ev, lm, ho, qs, ra, rc⟩ _ H18.has HZ.out).mono ?_
  rintro e w19 ⟨t19, rfl, hs19, hh19, hb19⟩
  have HB19 := hid (HB18.out.trans (hb19.mono HB18.out.size))
  have HR19 := hid (Lab.own_below HR18.out hb19)
  have HS19 := hid hs19
  have HH19 := hid hh19
  clear hb19 hs19 hh19 HR18 H18 b0 b1 b2 b3 b4 HB18
  have H19 := hid (H5.out.below HB19.out)
  go_wp2_with fail
  refine (Lab.f8 a n c l _ HN.out hbig (HLL.out.below H19.out.bel)).mono ?_
  rintro e w20 ⟨rfl, ho20, hb20⟩
  have HB20 := hid (HB19.out.trans (hb20.mono HB19.out.size))
  have HR20 := hid (Lab.own_below HR19.out hb20)
  have HH20 := hid (HH19.out.below hb20)
  have HA20 := hid (Lab.HasL.own ho20)
  have H20 := hid (H19.out.below hb20)
  clear hb20 ho20 HB19 HR19 HH19 H19
  have HT20 := hid (HT.out.below H20.out.bel)
  go_wp2_with fail
  refine (f9 t19 _ n n l _ HH20.out (HS19.out.fit HF.out) (HS19.out.sml HZ.out) HT20.out HN.out hmax HA20.out HFL.out).mono ?_
  rintro e w21 ⟨ah, mh, ch, bh, L2, rfl, hb21, ho21, hjz2⟩
  obtain ⟨rfl, hLL⟩ := HJZ.out.uniq hjz2 (HS3.out.good.trans HS19.out.good.symm) (HS19.out.ls.trans HS3.out.ls.symm) (HS19.out.ho.trans HS3.out.ho.symm)
  subst hLL
  obtain rfl : mw = mh := HML.out.symm.trans (Lab.own_len ho21)
  have HB21 := hid (HB20.out.trans (hb21.mono HB20.out.size))
  have HR21 := hid (Lab.own_below HR20.out hb21)
  have HA21 := hid (Lab.HasL.owno ho21)
  clear hb21 ho21 hjz2 HB20 HR20 HH20 HA20 H20 HT20
  go_wp2_with fail
  refine (Lab.f10 ah aw mw ch cw L2 _ HML.out (by omega) HA21.out (HW.out.below HB21.out)).mono ?_
  rintro e w22 ⟨rfl, hb22⟩
  have HB22 := hid (HB21.out.trans (hb22.mono HB21.out.size))
  have HR22 := hid (Lab.own_below HR21.out hb22)
  clear hb22 HB21 HR21 HA21
  go_wp2_with fail
  have h22 := Lab.f14o ag mw cg ZZ 1 w22 (by omega) HR22.out
  rw [← HK3.out] at h22
  refine h22.mono ?_
  clear h22
  rintro e w23 ⟨rfl, hb23⟩
  have HB23 := hid (HB22.out.trans (hb23.mono HB22.out.size))
  have HBE := hid (H5.out.below HB23.out).bel
  clear hb23
  go_wp2
  go_ret
  exact ⟨rfl, HBE.out⟩
end Go.Proofs.YtcknlidbjnmbjaaGreatDoor.Tgt
