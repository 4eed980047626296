import Derived.Test.YtjnpnlkodbchhaaGreatDoorPtOne
import Derived.Test.YtjnpnlkodbchhaaGreatDoorCards
import Derived.Test.YtjnpnlkodbchhaaGreatDoorTie
import Derived.WalkKit
import Derived.ProofKit
import Derived.OpenShut
import Derived.ShutString
import Derived.ChangeOld
import Derived.Below
import Derived.WalkSmall
import Derived.LaidMore
import Derived.Lay
import Derived.SevenTiedAt
import Derived.Stop.Joined
import Derived.MakeChecks
import Derived.Test.YtjnpnlkodbchhaaGreatDoorQm
import Derived.Test.YtjnpnlkodbchhaaGreatDoorTb
/- The walk of FnExactPullTimes. -/
namespace Go.Proofs.YtjnpnlkodbchhaaGreatDoor.Ints
open Go.RowKit
theorem own_mk {w : World} {base c k n : Nat} {a : Option Addr} (h : w.ownsRow base 3 1 (.slice a n c) n (vI (mk k n))) : HasI w a (mk k n) :=
  HasI.own (base := base) (c := c) (by simpa only [mk_len] using h)
end Go.Proofs.YtjnpnlkodbchhaaGreatDoor.Ints
namespace Go.Proofs.YtjnpnlkodbchhaaGreatDoor.Tgt
open Go.RowKit Go.Proofs.YtjnpnlkodbchhaaGreatDoor.Fil Go.Proofs.YtjnpnlkodbchhaaGreatDoor.Rul
open Go.Proofs.YtjnpnlkodbchhaaGreatDoor.Ints (HasI vI mk)

/-- Which times are to be told. -/
def PtZ (t : Tg) (f g : Int) (l : List Int) : Prop := (GoodT t ∧ isT f ∧ isT g ∧ ∃ o, OffZ t o ∧ l = ptL t f g o) ∨ (¬ (GoodT t ∧ isT f ∧ isT g) ∧ l = [])
theorem PtZ.len {t : Tg} {f g : Int} {l : List Int} (h : PtZ t f g l) : l.length ≤ 1000 := by
  rcases h with ⟨_, _, _, o, _, rfl⟩ | ⟨_, rfl⟩
  · unfold ptL
    split
    · rw [tl_len]; assumption
    · simp
  · simp
theorem PtZ.uniq {t t' : Tg} {f g : Int} {l l' : List Int} (h : PtZ t f g l) (h' : PtZ t' f g l') (hs : GoodT t ↔ GoodT t') (hl : t'.ls = t.ls) (he : t'.ev = t.ev) : l' = l := by
  rcases h with ⟨h1, h2, h3, o, h4, rfl⟩ | ⟨h1, rfl⟩
  · rcases h' with ⟨k1, k2, k3, o', k4, rfl⟩ | ⟨k1, rfl⟩
    · rw [h4.uniq k4 hs hl he]; unfold ptL; rw [he]
    · exact absurd ⟨hs.1 h1, h2, h3⟩ k1
  · rcases h' with ⟨k1, k2, k3, o', k4, rfl⟩ | ⟨k1, rfl⟩
    · exact absurd ⟨hs.2 k1, k2, k3⟩ h1
    · rfl
theorem own_fr {X Y : Nat} {w w' : World} {base e size n : Nat} {v : Value} {xs : List Value} (h : w.ownsRow base e size v n xs) (hf : Fr X Y w w') (hY : Y ≤ base) : w'.ownsRow base e size v n xs := by
  refine ⟨h.1, ?_⟩
  rcases h.2 with h2 | ⟨g, cap, cur, h1, h2, h3, h4⟩
  · exact .inl h2
  · refine .inr ⟨g, cap, cur, h1, h2, ?_, h4⟩
    have hlt : g < w.heap.size := lt_at h3
    exact (hf.block g hlt (.inr (Nat.le_trans hY h2))).trans h3
theorem fr_below {X Y : Nat} {w0 w w' : World} (hb : Below X w0 w) (hf : Fr X Y w w') (hX : X ≤ w.heap.size) : Below X w0 w' :=
  ⟨hf.os.trans hb.os, hf.tape.trans hb.tape, hf.output.trans hb.output, Nat.le_trans hb.size hf.size, fun j hj => (hf.block j (by omega) (.inl hj)).trans (hb.block j hj)⟩
theorem grown_below {X g : Nat} {w0 w w' : World} (hb : Below X w0 w) (hf : w.grownBy w' (some g)) (hX : X ≤ w.heap.size) (hg : X ≤ g) : Below X w0 w' :=
  ⟨hf.os.trans hb.os, hf.tape.trans hb.tape, hf.output.trans hb.output, Nat.le_trans hb.size hf.size, fun j hj => (hf.block j (by omega) (by simp; omega)).trans (hb.block j hj)⟩
theorem tot_same : ∀ (qs qs' : List Q), qs'.length = qs.length → (∀ i, i < qs.length → (qs'.getD i q0).r = (qs.getD i q0).r) → (qs'.map fun q => q.r.from'.length).sum = (qs.map fun q => q.r.from'.length).sum := by
  intro qs
  induction qs with
  | nil => intro qs' hn _; rw [List.eq_nil_of_length_eq_zero hn]
  | cons q qs ih =>
    intro qs' hn h
    cases qs' with
    | nil => simp at hn
    | cons q' qs' =>
      have h0 : q'.r = q.r := h 0 (by simp)
      have h1 := ih qs' (by simpa using hn) (fun i hi => h (i + 1) (by simp; omega))
      simp only [List.map_cons, List.sum_cons, h0, h1]
theorem Same.tot {t t' : Tg} (h : Same t t') (ht : t.qs.length + Tot.tot t.qs t.qs.length ≤ 1048576) : t'.qs.length + Tot.tot t'.qs t'.qs.length ≤ 1048576 := by
  unfold Tot.tot at *
  rw [List.take_length] at *
  rw [h.qn, tot_same _ _ h.qn h.rul]
  exact ht
/-- What lies about, the times that were told besides. -/
structure Pw (w0 w : World) (t t' : Tg) (B : Nat) (a : Option Addr) (c : Nat) (l : List Int) (x : World) : Prop where
  wx : Wx w t t' B x
  own : OwnT w0.heap.size t' x
  row : x.ownsRow (B + 1) 3 1 (.slice a l.length c) l.length (vI l)
  bel : Below w0.heap.size w0 x
theorem Pw.below {w0 w : World} {t t' : Tg} {B : Nat} {a : Option Addr} {c : Nat} {l : List Int} {x y : World} (h : Pw w0 w t t' B a c l x) (hb : Below x.heap.size x y) : Pw w0 w t t' B a c l y :=
  ⟨h.wx.below hb, h.own.below hb, own_below h.row hb, h.bel.trans (hb.mono h.bel.size)⟩
abbrev PS (w0 w : World) (t t' : Tg) (B : Nat) (a : Option Addr) (c : Nat) (l : List Int) (x : World) : Prop :=
  x.cell? ⟨w.heap.size, 0, none⟩ = some (.slice t.la t.ls.length t.lc) ∧ x.cell? ⟨w.heap.size, 1, none⟩ = some (.int .i64 t.ev) ∧ x.cell? ⟨w.heap.size, 2, none⟩ = some (.int .i64 t.lm) ∧ x.cell? ⟨w.heap.size, 3, none⟩ = some (.bool t.ho) ∧ x.cell? ⟨w.heap.size, 4, none⟩ = some (.slice t.ra t.qs.length t.rc) ∧
  x.cell? ⟨B, 0, none⟩ = some (.slice t'.la t'.ls.length t'.lc) ∧ x.cell? ⟨B, 1, none⟩ = some (.int .i64 t'.ev) ∧ x.cell? ⟨B, 2, none⟩ = some (.int .i64 t'.lm) ∧ x.cell? ⟨B, 3, none⟩ = some (.bool t'.ho) ∧ x.cell? ⟨B, 4, none⟩ = some (.slice t'.ra t'.qs.length t'.rc) ∧ Pw w0 w t t' B a c l x
section
variable {w0 w : World} {t t' : Tg} {B : Nat} {a : Option Addr} {c : Nat} {l : List Int} {x y : World}
theorem Pw.cells (h : Pw w0 w t t' B a c l x) : PS w0 w t t' B a c l x := by
  obtain ⟨b0, b1, b2, b3, b4⟩ := cells5 h.wx.one
  obtain ⟨c0, c1, c2, c3, c4⟩ := cells5 h.wx.two
  exact ⟨b0, b1, b2, b3, b4, c0, c1, c2, c3, c4, h⟩
theorem PS.pw (h : PS w0 w t t' B a c l x) : Pw w0 w t t' B a c l x := h.2.2.2.2.2.2.2.2.2.2
theorem PS.below (h : PS w0 w t t' B a c l x) (hb : Below x.heap.size x y) : PS w0 w t t' B a c l y := (h.pw.below hb).cells
end
/-- What the world before held, the box of the argument besides. -/
structure Pv (w0 w : World) (t : Tg) (a : Option Addr) (l : List Int) : Prop where
  one : w0.heap[w.heap.size]? = some (.cells (clT t) 25)
  arg : Has w0 t
  bel : Below w.heap.size w w0
  row : HasI w0 a l
theorem Pv.below {w0 w : World} {t : Tg} {a : Option Addr} {l : List Int} {x : World} (h : Pv w0 w t a l) (hb : Below w0.heap.size w0 x) : Pv x w t a l := ⟨kept h.one hb, h.arg.below hb, h.bel.trans (hb.mono h.bel.size), h.row.below hb⟩

set_option maxHeartbeats 8000000 in
theorem walk5 (t : Tg) (f g : Int) (w : World) (hr : Has w t) (hf : FitG t) (ht : Rel.Tab w) :
    Calls Tryz.prog 5 #[agT t, .int .i64 f, .int .i64 g] w fun e w' => e = .returned (.bool true) ∧ Below w.heap.size w w' := by
  have hbb := (Below.refl w.heap.size w).alloc (Nat.le_refl _) (.cells (clT t) 25)
  have H0 := hid (show (w.alloc (.cells (clT t) 25)).heap[w.heap.size]? = some (.cells (clT t) 25) ∧ Has (w.alloc (.cells (clT t) 25)) t ∧ Below w.heap.size w (w.alloc (.cells (clT t) 25)) from ⟨heap_alloc_new w _, hr.below hbb, hbb⟩)
  have HF := hid hf
  have HT := hid ht
  clear hr hf ht hbb
  obtain ⟨ls, la, lc, ev, lm, ho, qs, ra, rc⟩ := t
  go_enter Tryz.func5, Tryz.ntmps5
  go_wp2_with fail
  refine (Tgt.f7t ⟨ls, la, lc, ev, lm, ho, qs, ra, rc⟩ _ H0.out.2.1 HF.out).mono ?_
  rintro e w1 ⟨y, rfl, hy, hb1⟩
  have H1 := hid (show w1.heap[w.heap.size]? = some (.cells (clT ⟨ls, la, lc, ev, lm, ho, qs, ra, rc⟩) 25) ∧ Has w1 ⟨ls, la, lc, ev, lm, ho, qs, ra, rc⟩ ∧ Below w.heap.size w w1 from ⟨kept H0.out.1 hb1, H0.out.2.1.below hb1, H0.out.2.2.trans (hb1.mono H0.out.2.2.size)⟩)
  clear hb1 H0
  by_cases g0 : y < 0
  · go_wp2
    go_ret
    exact ⟨rfl, H1.out.2.2⟩
  have HZ := hid (hy (by omega)).1
  have HTO := hid (hy (by omega)).2
  clear hy
  obtain ⟨b0, b1, b2, b3, b4⟩ := cells5 H1.out.1
  go_wp2_with fail
  refine (f9 ⟨ls, la, lc, ev, lm, ho, qs, ra, rc⟩ _ H1.out.2.1 HZ.out).mono ?_
  rintro e w2 ⟨t2, rfl, hs2, hh2, hb2⟩
  have H2 := hid (show w2.heap[w.heap.size]? = some (.cells (clT ⟨ls, la, lc, ev, lm, ho, qs, ra, rc⟩) 25) ∧ Has w2 ⟨ls, la, lc, ev, lm, ho, qs, ra, rc⟩ ∧ Below w.heap.size w w2 from ⟨kept H1.out.1 hb2, H1.out.2.1.below hb2, H1.out.2.2.trans (hb2.mono H1.out.2.2.size)⟩)
  have HS2 := hid hs2
  have HH2 := hid hh2
  clear hb2 hs2 hh2 H1 b0 b1 b2 b3 b4
  go_wp2_with fail
  refine (f14 t2 f g _ HH2.out (HS2.out.fit HF.out) (HS2.out.sml HZ.out)).mono ?_
  rintro e w3 ⟨l, a0, c0, rfl, ho3, hb3, hp⟩
  have HP : Hid (PtZ t2 f g l) := hp
  have HL := hid HP.out.len
  have HV : Hid (Pv w3 w ⟨ls, la, lc, ev, lm, ho, qs, ra, rc⟩ a0 l) := ⟨kept H2.out.1 hb3, H2.out.2.1.below hb3, H2.out.2.2.trans (hb3.mono H2.out.2.2.size), HasI.own ho3⟩
  clear hb3 hp H2 HH2 ho3
  obtain ⟨b0, b1, b2, b3, b4⟩ := cells5 HV.out.one
  go_wp2_with fail
  refine (f9o ⟨ls, la, lc, ev, lm, ho, qs, ra, rc⟩ _ HV.out.arg HZ.out).mono ?_
  rintro e w4 ⟨t4, rfl, hs4, hh4, hb4, how4⟩
  obtain ⟨ls4, la4, lc4, ev4, lm4, ho4, qs4, ra4, rc4⟩ := t4
  have hb := (Below.refl w4.heap.size w4).alloc (Nat.le_refl _) (.cells (clT ⟨ls4, la4, lc4, ev4, lm4, ho4, qs4, ra4, rc4⟩) 31)
  have HV4 := HV.out.below hb4
  have HB5 := hid (hb4.trans (hb.mono hb4.size))
  have H5 : Hid (Wx w ⟨ls, la, lc, ev, lm, ho, qs, ra, rc⟩ ⟨ls4, la4, lc4, ev4, lm4, ho4, qs4, ra4, rc4⟩ w4.heap.size (w4.alloc (.cells (clT ⟨ls4, la4, lc4, ev4, lm4, ho4, qs4, ra4, rc4⟩) 31))) :=
    ⟨kept HV4.one hb, heap_alloc_new w4 _, HV4.arg.below hb, hh4.below hb, HV4.bel.trans (hb.mono HV4.bel.size)⟩
  have HO5 := hid (how4.below hb)
  have HLT := hid how4.lt
  have HXB := hid hb4.size
  have HS4 := hid hs4
  have HSZ : Hid ((w4.alloc (.cells (clT ⟨ls4, la4, lc4, ev4, lm4, ho4, qs4, ra4, rc4⟩) 31)).heap.size = w4.heap.size + 1) := by unfold Hid; simp
  clear hb4 hs4 hh4 how4 HV4 hb b0 b1 b2 b3 b4
  obtain ⟨c0', c1, c2, c3, c4⟩ := cells5 H5.out.two
  have HT5 := hid (HT.out.below H5.out.bel)
  generalize hBB : w4.heap.size = BB at *
  go_wp2_with fail
  refine (f15 ⟨ls4, la4, lc4, ev4, lm4, ho4, qs4, ra4, rc4⟩ f g _ H5.out.has (HS4.out.fit HF.out) (HS4.out.sml HZ.out) HT5.out).mono ?_
  rintro e w6 ⟨l', a6, c6, rfl, ho6, hb6, hp'⟩
  have hll : l' = l := HP.out.uniq hp' (HS2.out.good.trans HS4.out.good.symm) (HS4.out.ls.trans HS2.out.ls.symm) (HS4.out.ev.trans HS2.out.ev.symm)
  subst hll
  rw [HSZ.out] at ho6
  have H6 : Hid (Pw w3 w ⟨ls, la, lc, ev, lm, ho, qs, ra, rc⟩ ⟨ls4, la4, lc4, ev4, lm4, ho4, qs4, ra4, rc4⟩ BB a6 c6 l' w6) := ⟨H5.out.below hb6, HO5.out.below hb6, ho6, HB5.out.trans (hb6.mono HB5.out.size)⟩
  clear hb6 hp' H5 HT5 c0' c1 c2 c3 c4 ho6 HO5 HB5 HSZ hBB
  have HS4' := hid HS4.out
  have HZ4 := hid (HS4.out.sml HZ.out)
  have HT4 := hid (HS4.out.tot HTO.out)
  have HLN := HL.out
  go_wp2_with fail
  refine (Ints.f16 a6 a0 c6 c0 l' _ (by omega) (HasI.own H6.out.row) (HV.out.row.below H6.out.bel)).mono ?_
  rintro e w7 ⟨rfl, hb7⟩
  have H7 := hid (H6.out.below hb7)
  clear hb7 H6
  go_wp2_with fail
  go_region_held3 (fun x => PS w3 w ⟨ls, la, lc, ev, lm, ho, qs, ra, rc⟩ ⟨ls4, la4, lc4, ev4, lm4, ho4, qs4, ra4, rc4⟩ BB a6 c6 l' x) (first | exact (H7.out.below (below_drew _)).cells | assumption) (first | (go_at_call 9; refine (f9 ⟨ls, la, lc, ev, lm, ho, qs, ra, rc⟩ _ (Wx.arg (Pw.wx (PS.pw (by assumption)))) HZ.out).mono ?_; rintro e w7 ⟨t7, rfl, hs7, hh7, hb7⟩; have hq7 := PS.below (by assumption) hb7; clear hb7) | (go_at_call 11; refine (f11 ⟨ls4, la4, lc4, ev4, lm4, ho4, qs4, ra4, rc4⟩ t7 _ (Wx.has (Pw.wx (PS.pw (by assumption)))) (by assumption) (HS4'.out.trans' (by assumption)) HZ4.out).mono ?_; rintro e w8 ⟨rfl, hb8⟩; have hq8 := PS.below (by assumption) hb8; clear hb8))
  have H8 := hid hq8.pw
  clear hq8
  obtain ⟨c0', c1, c2, c3, c4⟩ := cells5 H8.out.wx.two
  have hBlt : BB ≤ w8.heap.size := Nat.le_of_lt (lt_at H8.out.wx.two)
  have HXB' := HXB.out
  go_wp2_with fail
  refine (f17 ⟨ls4, la4, lc4, ev4, lm4, ho4, qs4, ra4, rc4⟩ w3.heap.size BB _ H8.out.own HLT.out hBlt HZ4.out HT4.out).mono ?_
  rintro e w9 ⟨⟨k', rfl⟩, hf9⟩
  have HB9 := hid (fr_below H8.out.bel hf9 H8.out.bel.size)
  have HR9 := hid (own_fr H8.out.row hf9 (by omega))
  clear hf9 H8 c0' c1 c2 c3 c4
  go_wp2_with fail
  refine (Ints.f16 a6 a0 c6 c0 l' _ (by omega) (HasI.own HR9.out) (HV.out.row.below HB9.out)).mono ?_
  rintro e w10 ⟨rfl, hb10⟩
  have HB10 := hid (HB9.out.trans (hb10.mono HB9.out.size))
  have HR10 := hid (own_below HR9.out hb10)
  clear hb10 HB9 HR9
  clear HLT HS4' HZ4 HT4 HXB hBlt HTO HS4
  generalize hX3 : w3.heap.size = X3 at *
  rcases HR10.out.2 with ⟨h1, h2⟩ | ⟨g', cap, cur, h1, h2, h3⟩
  · have hl0 : l' = [] := List.eq_nil_of_length_eq_zero h2
    subst hl0
    simp only [Value.slice.injEq] at h1
    obtain ⟨rfl, -, rfl⟩ := h1
    go_wp2_with fail
    refine (Ints.f18n 1 _).mono ?_
    rintro e w11 ⟨rfl, rfl⟩
    go_wp2_with fail
    refine (Ints.f19n 1 _).mono ?_
    rintro e w12 ⟨rfl, rfl⟩
    subst hX3
    have HV12 := HV.out.below HB10.out
    obtain ⟨b0, b1, b2, b3, b4⟩ := cells5 HV12.one
    go_wp2_with fail
    refine (f9 ⟨ls, la, lc, ev, lm, ho, qs, ra, rc⟩ _ HV12.arg HZ.out).mono ?_
    rintro e w13 ⟨t13, rfl, hs13, hh13, hb13⟩
    have HV13 := hid (HV12.below hb13)
    have HS13 := hid hs13
    have HH13 := hid hh13
    clear hb13 hs13 hh13 HV12 b0 b1 b2 b3 b4
    have HT13 := hid (HT.out.below HV13.out.bel)
    go_wp2_with fail
    refine (f15 t13 f g _ HH13.out (HS13.out.fit HF.out) (HS13.out.sml HZ.out) HT13.out).mono ?_
    rintro e w14 ⟨l', a6, c6, rfl, ho14, hb14, hp'⟩
    have hll : l' = [] := HP.out.uniq hp' (HS2.out.good.trans HS13.out.good.symm) (HS13.out.ls.trans HS2.out.ls.symm) (HS13.out.ev.trans HS2.out.ev.symm)
    subst hll
    have HV14 := hid (HV13.out.below hb14)
    have HR14 := hid (HasI.own ho14)
    clear hb14 ho14 hp'
    go_wp2_with fail
    refine (Ints.f16 a6 a0 c6 c0 [] _ (by simp) HR14.out HV14.out.row).mono ?_
    rintro e w15 ⟨rfl, hb15⟩
    have HV15 := hid (HV14.out.below hb15)
    clear hb15
    go_wp2_with fail
    refine (Ints.f19n 1 _).mono ?_
    rintro e w16 ⟨rfl, rfl⟩
    go_wp2
    go_ret
    exact ⟨rfl, HV15.out.bel⟩
  · simp only [Value.slice.injEq] at h1
    obtain ⟨rfl, -, rfl⟩ := h1
    clear h2 h3 cur
    have hg1 := HR10.out.lt g' rfl
    have hg2 : X3 ≤ g' := by omega
    generalize hK : 1 + l'.length = K
    have hK1 : K ≤ 1001 := by omega
    go_wp2_with fail
    refine (Ints.f18 g' l'.length c6 (BB + 1) 1 l' _ rfl (by omega) HR10.out).mono ?_
    rintro e w11 ⟨rfl, ho11, hgr11⟩
    have HB11 : Hid (Below X3 w3 w11) := grown_below HB10.out hgr11 (by subst hX3; exact HB10.out.size) hg2
    have HR11 := hid ho11
    clear hgr11 ho11 HB10 HR10 hg1
    rw [hK]
    go_wp2_with fail
    refine (Ints.f19 g' l'.length c6 1 _ (by omega) (Ints.own_mk HR11.out)).mono ?_
    rintro e w12 ⟨rfl, hb12⟩
    subst hX3
    have HB12 := hid (HB11.out.trans (hb12.mono HB11.out.size))
    have HR12 := hid (own_below HR11.out hb12)
    clear hb12 HB11 HR11
    have HV12 := HV.out.below HB12.out
    obtain ⟨b0, b1, b2, b3, b4⟩ := cells5 HV12.one
    rw [hK]
    go_wp2_with fail
    refine (f9 ⟨ls, la, lc, ev, lm, ho, qs, ra, rc⟩ _ HV12.arg HZ.out).mono ?_
    rintro e w13 ⟨t13, rfl, hs13, hh13, hb13⟩
    have HV13 := hid (HV12.below hb13)
    have HR13 := hid (own_below HR12.out hb13)
    have HS13 := hid hs13
    have HH13 := hid hh13
    clear hb13 hs13 hh13 HV12 b0 b1 b2 b3 b4 HR12 HB12
    have HT13 := hid (HT.out.below HV13.out.bel)
    go_wp2_with fail
    refine (f15 t13 f g _ HH13.out (HS13.out.fit HF.out) (HS13.out.sml HZ.out) HT13.out).mono ?_
    rintro e w14 ⟨l, a6, c6', rfl, ho14, hb14, hp'⟩
    have hll : l = l' := HP.out.uniq hp' (HS2.out.good.trans HS13.out.good.symm) (HS13.out.ls.trans HS2.out.ls.symm) (HS13.out.ev.trans HS2.out.ev.symm)
    subst hll
    have HV14 := hid (HV13.out.below hb14)
    have HG14 := hid (own_below HR13.out hb14)
    have HR14 := hid (HasI.own ho14)
    clear hb14 ho14 hp' HR13
    go_wp2_with fail
    refine (Ints.f16 a6 a0 c6' c0 l _ (by omega) HR14.out HV14.out.row).mono ?_
    rintro e w15 ⟨rfl, hb15⟩
    have HV15 := hid (HV14.out.below hb15)
    have HG15 := hid (own_below HG14.out hb15)
    clear hb15 HV14 HG14 HR14
    go_wp2_with fail
    refine (Ints.f19 g' l.length c6 1 _ (by omega) (Ints.own_mk HG15.out)).mono ?_
    rintro e w16 ⟨rfl, hb16⟩
    have HV16 := hid (HV15.out.below hb16)
    clear hb16
    rw [hK]
    go_wp2
    go_ret
    exact ⟨rfl, HV16.out.bel⟩
end Go.Proofs.YtjnpnlkodbchhaaGreatDoor.Tgt
/- The given card of FnExactPullTimes holds: for every target and every two times PullTimes of the program (by its table of shapes, which reads as its text lays it) answers as the model does; the call returns true and nothing that came in is written. -/
namespace Go.Proofs.YtjnpnlkodbchhaaGreatDoor.fnExactPullTimes
open Go.ChangeShapes Go.WideShapes Go.ChangeAt Go.RowKit
set_option linter.unusedVariables false

theorem own : ownKnob Tryz.prog.godebug = none := by kernel_rfl
theorem laidOut : laidOutB Tryz.prog = true := by kernel_rfl
/-- What a list gives, its tail gives. -/
theorem laid_tail {P : Program} {W : World} {x : String × DataW Unit} {rest : List (String × DataW Unit)} (h : laidMet P (x :: rest) W) : laidMet P rest W := by
  obtain ⟨n, d⟩ := x
  obtain ⟨ps, ⟨g, t, cs, fuel, p, q, _, _, _, _, hq, rfl⟩, hnd, hall⟩ := h
  exact ⟨q, hq, (List.nodup_append.1 hnd).2.1, fun b off hm => hall b off (List.mem_append_right _ hm)⟩
theorem plainL (W : World) : laidMetH Tryz.prog Rows.fnExactPullTimesRow.laid W = laidMet Tryz.prog Rows.fnExactPullTimesRow.laid W := Go.MakeChecks.laidMetH_plain _ _ _ (by kernel_rfl)
/-- What the row's list gives: the variable's cells hold the shapes. -/
theorem table {W : World} (h : laidMetH Tryz.prog Rows.fnExactPullTimesRow.laid W) : Rel.Tab W := by
  rw [plainL] at h
  exact Rel.tab_of (laid_tail (laid_tail (laid_tail (laid_tail h))))

set_option maxRecDepth 100000 in
theorem lifted (os : Os) (started : os.Started) (H : Type) (enc : TypeId × Value → H) :
    ReturnsInHanded {} Tryz.checked os 5 .any (fun w args => (Rows.fnExactPullTimesSpec.pre enc Tryz.prog Tryz.f5 Rows.fnExactPullTimesRow.domain false w args ∧ laidMetH Tryz.prog Rows.fnExactPullTimesRow.laid w) ∧ sizedMet enc Tryz.prog Tryz.f5 (OpenSpec.ofChange Rows.fnExactPullTimesSpec) false w args)
      (Rows.fnExactPullTimesSpec.post enc Tryz.prog Tryz.f5 false true false false) := by
  refine returnsInHanded_of_change_and (C := Tryz.checked) (X := fun w _ => laidMetH Tryz.prog Rows.fnExactPullTimesRow.laid w) (fun _ _ _ hh h => h.of_heap hh) own started (by kernel_rfl) Tryz.func5
    (ChangeSpec.witness_shaped (enc := enc) (C := Tryz.checked) (os := os) (X := fun w _ => laidMetH Tryz.prog Rows.fnExactPullTimesRow.laid w) false (World.laidAll Tryz.prog os Rows.fnExactPullTimesRow.laid) #[.agg #[.slice none 0 0, .int .i64 0, .int .i64 0, .bool false, .slice none 0 0], .int .i64 0, .int .i64 0] 8 (World.laidAll_os _ _ _)
      (World.shaped_of_ZipB (by kernel_rfl) (by kernel_rfl)) (by kernel_rfl) (by kernel_rfl) (by kernel_rfl)
      (by rw [plainL]; exact laidMet_laidAll _ (by kernel_rfl) (by kernel_rfl))) ?_
  intro W base args ds gs before hval0 hW hc _ hL _
  have hval : ∀ (j : Nat) t v, Tryz.f5.params[j]? = some t → args[j]? = some v → Value.okWide Tryz.prog W .any base t v := hval0
  have hW' := hW
  obtain ⟨p, q, hA0, hV, rfl, hfz, hnd⟩ := hW
  have hA : DataW.TrodAll enc Tryz.prog W 0 (fun _ => true) true Tryz.f5.params.toList args.toList ds p := hA0
  rw [Tryz.params5] at hA hval
  obtain ⟨v0, vs0, d0, ds0, p0, q0, hargs, rfl, rfl, h0, r0⟩ := trodAll_cons hA
  obtain ⟨v1, vs1, d1, ds1, p1, q1, rfl, rfl, rfl, h1, r1⟩ := trodAll_cons r0
  obtain ⟨v2, vs2, d2, ds2, p2, q2, rfl, rfl, rfl, h2, r2⟩ := trodAll_cons r1
  obtain ⟨rfl, rfl, rfl⟩ := trodAll_nil r2
  obtain rfl : args = #[v0, v1, v2] := by cases args; simp_all
  obtain ⟨g, t, cs, fuel, dg, pg, rfl, hg, ht, hvar, hd, rfl⟩ := trodVars_one hV
  obtain rfl := Option.some.inj (Rel.gTab.symm.trans hg)
  obtain rfl := Option.some.inj (Rel.gTabType.symm.trans ht)
  have k0 := h0
  have lt0 : ∀ x ∈ p0, x.block < W.heap.size := by obtain ⟨m, hm⟩ := k0; exact DataW.trod_lt m _ _ _ hm
  have ltg : ∀ x ∈ pg, x.block < W.heap.size := DataW.trod_lt fuel _ _ _ hd
  have kg : DataW.Trod enc Tryz.prog W 0 (fun _ => true) true 110 (.agg cs) dg pg := ⟨fuel, by
    have hd2 : DataW.trod enc Tryz.prog W 0 (fun _ => true) true fuel 110 cs.toList = some (dg, pg) := hd
    simpa [Value.cells] using hd2⟩
  obtain ⟨t0, rfl, q1, q2⟩ := Tgt.open_target (hval 0 25 v0 rfl rfl) h0
  obtain ⟨a1, rfl, rfl, rfl, w1⟩ := open_int Tryz.underlying3 (hval 1 3 v1 rfl rfl) h1
  obtain ⟨a2, rfl, rfl, rfl, w2⟩ := open_int Tryz.underlying3 (hval 2 3 v2 rfl rfl) h2
  have htab := table hL
  have h0lt : 0 < W.heap.size := htab.1
  clear hA0 hval0
  refine (Tgt.walk5 t0 a1 a2 W q1 q2 htab).mono fun e W' ⟨he, bel⟩ => ?_
  subst he
  obtain ⟨fu, hg'⟩ := Below.trod laidOut (by kernel_rfl) (of_decide_eq_true (by kernel_rfl)) kg bel ltg
  have hv' := trodVars_mk1 (enc := enc) (spare := fun b => decide (b < W.heap.size)) Rel.gTab Rel.gTabType (var?_below bel Rel.gTab h0lt hvar) (by simpa [Value.cells] using hg')
  exact ⟨_, rfl, _, _, _, [], _, _, hW', trodAll_mk1 (shut_bool Tryz.underlying4 _), (trodAll_cons_mk (Below.trod laidOut (by kernel_rfl) (of_decide_eq_true (by kernel_rfl)) k0 bel lt0) (trodAll_cons_mk (shut_int Tryz.underlying3 w1) (trodAll_cons_mk (shut_int Tryz.underlying3 w2) trodAll_mk0))), hv', bel.frame _, fun h => by cases h⟩

theorem said : Rows.FnExactPullTimesSaid :=
  OpenClaim.holds_of_wide 5 Tryz.f5 rfl rfl rfl rfl rfl rfl rfl ⟨rfl, rfl, rfl, rfl, rfl⟩ rfl rfl rfl rfl rfl (by kernel_rfl) Tryz.func5 (by kernel_rfl)
    (of_decide_eq_true (by kernel_rfl)) (by unfold Func.isWrapper; first | (rw [if_pos (by decide +kernel)]; kernel_rfl) | (rw [if_neg (by decide +kernel)]; exact ⟨rfl, rfl⟩))
    (fun os started H enc _ => lifted os started H enc)

theorem plain (f : FuncId) (fn : Func) (hf : Tryz.pinned.checked.prog.funcNamed "loop.example/g00039/laws.FnExactPullTimes" = some f) (hfn : Tryz.pinned.checked.prog.funcs[f]? = some fn) :
    false = Tryz.pinned.checked.prog.looks [] ∧ ∀ (j : Nat) t, fn.params[j]? = some t → Tryz.pinned.checked.prog.wantsStandIn t = false := by
  obtain rfl : f = 5 := Option.some.inj ((show Tryz.prog.funcNamed "loop.example/g00039/laws.FnExactPullTimes" = some 5 by kernel_rfl).symm.trans hf) |>.symm
  obtain rfl : fn = Tryz.f5 := (Option.some.inj (Tryz.func5.symm.trans hfn)).symm
  refine ⟨by kernel_rfl, fun j t ht => ?_⟩
  rw [Tryz.params5] at ht
  have hm : t = 25 ∨ t = 3 := by simpa using Array.mem_of_getElem? ht
  rcases hm with rfl | rfl
  · exact (show Tryz.prog.wantsStandIn 25 = false by kernel_rfl)
  · exact (show Tryz.prog.wantsStandIn 3 = false by kernel_rfl)
end Go.Proofs.YtjnpnlkodbchhaaGreatDoor.fnExactPullTimes
namespace Go.Proofs.YtjnpnlkodbchhaaGreatDoor
theorem pullTimes_holds : Rows.FnExactPullTimesCardSaid :=
  Claim7.holds_tied_plain_at .later [] _ _ _ _ fnExactPullTimes.said (fun _ h => by cases h) (by kernel_rfl) (fun _ h => by cases h) fnExactPullTimes_row_tie rfl ⟨rfl, rfl⟩ (by kernel_rfl) rfl fnExactPullTimes.plain (by kernel_rfl)
end Go.Proofs.YtjnpnlkodbchhaaGreatDoor
