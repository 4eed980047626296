/- The model's l10Select: the series of all blocks, put one after another. -/
import Derived.Test.YtjhdmghpklagkaaGreatD27
import Derived.Test.YtjhdmghpklagkaaGreatD30
import Derived.Test.YtjhdmghpklagkaaGreatD36
import Derived.Test.YtjhdmghpklagkaaGreatD37
import Derived.Test.YtjhdmghpklagkaaGreatD07
import Derived.Test.YtjhdmghpklagkaaGreatD11
namespace Go.Proofs.YtjhdmghpklagkaaGreat.Hpl
open Go.RowKit
open Go.Proofs.YtjhdmghpklagkaaGreat.Stb
open Go.Proofs.YtjhdmghpklagkaaGreat.Lab (Lb cmpList)
open Go.Proofs.YtjhdmghpklagkaaGreat.Smp (Sm mrg)
open Go.Proofs.YtjhdmghpklagkaaGreat.Srs (Q q0 pl Pl OwnO MQ MQb MR jF)
open Go.Proofs.YtjhdmghpklagkaaGreat.Blk
open Go.Proofs.YtjhdmghpklagkaaGreat.Pat (Mt HasM goodM)

structure Okm (L : List Pl) : Prop where
  len : L.length ≤ 200
  one : ∀ x ∈ L, x.1 ≠ [] ∧ x.2 ≠ [] ∧ x.1.length ≤ 20 ∧ x.2.length ≤ 2000 ∧ Lab.Fit x.1 ∧ Smp.Fit x.2
  dis : L.Pairwise (fun y s => y.1 ≠ s.1)
theorem Okm.mq {R : List Q} {L : List Pl} (h : Okm L) (e : R.map pl = L) : ∀ q ∈ R, MQ q := by
  intro q hq
  have : pl q ∈ L := by rw [← e]; exact List.mem_map_of_mem hq
  obtain ⟨h1, h2, h3, h4, h5, h6⟩ := h.one _ this
  exact ⟨h1, h2, h3, h4, h5, h6⟩
theorem put_key {κ : Type} {lt : κ × List Sm → κ × List Sm → Bool} {f : κ × List Sm → κ × List Sm → κ × List Sm} (hf1 : ∀ x s, (f x s).1 = x.1) {s : κ × List Sm} : ∀ (o : List (κ × List Sm)), ∀ x ∈ put lt f s o, x.1 = s.1 ∨ ∃ y ∈ o, y.1 = x.1
  | [], x, hx => by
    have : x = s := by simpa [put] using hx
    exact .inl (by rw [this])
  | z :: o, x, hx => by
    unfold put at hx
    by_cases he : eqv lt z s = true
    · rw [if_pos he] at hx
      rcases List.mem_cons.1 hx with rfl | hx
      · exact .inr ⟨z, by simp, (hf1 z s).symm⟩
      · exact .inr ⟨x, by simp [hx], rfl⟩
    · rw [if_neg he] at hx
      by_cases hl : lt s z = true
      · rw [if_pos hl] at hx
        rcases List.mem_cons.1 hx with rfl | hx
        · exact .inl rfl
        · exact .inr ⟨x, hx, rfl⟩
      · rw [if_neg hl] at hx
        rcases List.mem_cons.1 hx with rfl | hx
        · exact .inr ⟨x, by simp, rfl⟩
        · rcases put_key hf1 o x hx with h | ⟨y, hy, e⟩
          · exact .inl h
          · exact .inr ⟨y, by simp [hy], e⟩
theorem puts_key {κ : Type} {lt : κ × List Sm → κ × List Sm → Bool} {f : κ × List Sm → κ × List Sm → κ × List Sm} (hf1 : ∀ x s, (f x s).1 = x.1) : ∀ (L o : List (κ × List Sm)), ∀ x ∈ puts lt f o L, (∃ y ∈ L, y.1 = x.1) ∨ ∃ y ∈ o, y.1 = x.1
  | [], o, x, hx => .inr ⟨x, hx, rfl⟩
  | s :: L, o, x, hx => by
    rcases puts_key hf1 L (put lt f s o) x hx with ⟨y, hy, e⟩ | ⟨y, hy, e⟩
    · exact .inl ⟨y, by simp [hy], e⟩
    · rcases put_key hf1 o y hy with h | ⟨z, hz, e2⟩
      · exact .inl ⟨s, by simp, h.symm.trans e⟩
      · exact .inr ⟨z, hz, e2.trans e⟩
theorem eqv_key (x s : Pl) (h : eqv ltP x s = true) : x.1 = s.1 := by rw [eqvP] at h; exact Stb.lst_zero (of_decide_eq_true h)
noncomputable def sels (bs : List Bk) (ms : List Mt) (x y : Int) (k : Nat) : List Pl := (bs.take k).flatMap (fun b => ansM b ms x y)
theorem sels_next {bs : List Bk} {ms : List Mt} {x y : Int} {k : Nat} (hk : k < bs.length) : sels bs ms x y (k + 1) = sels bs ms x y k ++ ansM (bs.getD k k0) ms x y := by
  unfold sels
  rw [List.take_add_one, List.flatMap_append]
  simp [hk]
structure Big (R : List Q) (L : List Pl) (k : Nat) : Prop where
  is : R.map pl = puts ltP jF [] L
  one : ∀ q ∈ R, MQb (2000 * k) q
end Go.Proofs.YtjhdmghpklagkaaGreat.Hpl
namespace Go.Proofs.YtjhdmghpklagkaaGreat.Blk
open Go.RowKit
open Go.Proofs.YtjhdmghpklagkaaGreat.Lab (Lb HasL cmpList OfV)
open Go.Proofs.YtjhdmghpklagkaaGreat.Smp (Sm HasS cut own_form e0)
open Go.Proofs.YtjhdmghpklagkaaGreat.Srs (hid lt_at kept Q HasQ FitQ SmlQ GoodQ agQ q0 two pl Pl OwnO Own2 OwnL sl hit Named flat infoQ' two_new own_form' sel_len good_goodP named_ne getD_snoc flat_append own_base own_below cl blk)
open Go.Proofs.YtjhdmghpklagkaaGreat.Stn (T HasT FitT SmlT agT t0 three Cells)
open Go.Proofs.YtjhdmghpklagkaaGreat.Pat (Mt HasM goodM allM FitM)

theorem ahead_trans {p q r : T} (h1 : Ahead p q) (h2 : Ahead q r) (hq : q.f ≤ q.t) : Ahead p r := by
  rcases h1 with a | ⟨a, a'⟩
  · rcases h2 with b | ⟨b, b'⟩
    · exact .inl (lst_trans a b)
    · exact .inl (by rw [← lst_zero b]; exact a)
  · rcases h2 with b | ⟨b, b'⟩
    · exact .inl (by rw [lst_zero a]; exact b)
    · exact .inr ⟨by rw [lst_zero a]; exact b, by omega⟩
theorem stones_apart {ts : List T} (h : RiseT ts) (hft : ∀ i, i < ts.length → (ts.getD i t0).f ≤ (ts.getD i t0).t) : ts.Pairwise Ahead := by
  have key : ∀ (d i : Nat), i + d + 1 < ts.length → Ahead (ts.getD i t0) (ts.getD (i + d + 1) t0) := by
    intro d
    induction d with
    | zero => intro i hi; exact h (i + 0 + 1) hi (by omega)
    | succ d ih =>
      intro i hi
      exact ahead_trans (ih i (by omega)) (h (i + (d + 1) + 1) hi (by omega)) (hft _ (by omega))
  rw [List.pairwise_iff_getElem]
  intro i j hi hj hij
  have := key (j - i - 1) i (by omega)
  rw [show i + (j - i - 1) + 1 = j by omega] at this
  simpa [hi, hj] using this
theorem spans_apart {ts : List T} {l : List Lb} (h : RiseT ts) (hft : ∀ i, i < ts.length → (ts.getD i t0).f ≤ (ts.getD i t0).t) : (spans (own1 ts l)).Pairwise fun p q => p.2 + 1 < q.1 := by
  unfold spans
  rw [List.pairwise_map]
  have h1 := (stones_apart h hft).sublist (List.filter_sublist (p := fun p : T => decide (cmpList p.l l = 0)))
  refine List.Pairwise.imp_of_mem ?_ h1
  intro p q hp hq ha
  have e1 : cmpList p.l l = 0 := by simpa using (List.mem_filter.1 hp).2
  have e2 : cmpList q.l l = 0 := by simpa using (List.mem_filter.1 hq).2
  rcases ha with a | ⟨_, a⟩
  · rw [lst_zero e1, lst_zero e2, lst_self] at a; omega
  · exact a
theorem spans_le {ts : List T} {l : List Lb} (hft : ∀ i, i < ts.length → (ts.getD i t0).f ≤ (ts.getD i t0).t) : ∀ p ∈ spans (own1 ts l), p.1 ≤ p.2 := by
  intro p hp
  unfold spans at hp
  obtain ⟨t, ht, rfl⟩ := List.mem_map.1 hp
  have hm := (List.mem_filter.1 ht).1
  obtain ⟨i, hi, rfl⟩ := List.getElem_of_mem hm
  have := hft i hi
  simpa [hi] using this
theorem pg_md {ts : List T} {l : List Lb} {s : List Sm} {x y : Int} (hg : Smp.GoodP s) (h : RiseT ts) (hft : ∀ i, i < ts.length → (ts.getD i t0).f ≤ (ts.getD i t0).t) : pg (spans (own1 ts l)) s x y = cut (md (spans (own1 ts l)) s) x y := by
  rw [pg_alive (good_up hg) (spans_le hft) (spans_apart h hft), md_alive (good_up hg) (good_time hg) (spans_le hft)]
theorem pg_len {ts : List T} {l : List Lb} {s : List Sm} {x y : Int} (hg : Smp.GoodP s) (h : RiseT ts) (hft : ∀ i, i < ts.length → (ts.getD i t0).f ≤ (ts.getD i t0).t) : (pg (spans (own1 ts l)) s x y).length ≤ s.length := by
  rw [pg_alive (good_up hg) (spans_le hft) (spans_apart h hft)]
  exact Nat.le_trans (Smp.cut_len _ _ _) (List.length_filter_le _ _)
noncomputable def one (h : Bk) (x y : Int) (q : Q) : List Pl := if pg (spans (own1 h.ts q.l)) q.s x y = [] then [] else [(q.l, pg (spans (own1 h.ts q.l)) q.s x y)]
noncomputable def prg (h : Bk) (x y : Int) (fs : List Int) : List Pl := fs.flatMap fun i => one h x y (h.qs.getD i.toNat q0)
theorem good_smp {h : Bk} (g : GoodB h) {k : Nat} (hk : k < h.qs.length) : Smp.GoodP (h.qs.getD k q0).s := of_decide_eq_true (g.2.1.2 k hk).1.2.1
theorem prg_ans {h : Bk} {ms : List Mt} {x y : Int} (g : GoodB h) : ∀ k, k ≤ h.qs.length → prg h x y (flt (hits ms h.qs ms.length) k) = (mdl h ms k).flatMap (hit val [] x y) := by
  have hft : ∀ i, i < h.ts.length → (h.ts.getD i t0).f ≤ (h.ts.getD i t0).t := fun i hi => (good_stones g i hi).2.2.2.2
  intro k
  induction k with
  | zero => intro _; rfl
  | succ k ih =>
    intro hk
    rw [flt_succ, mdl, List.flatMap_append, ← ih (by omega)]
    unfold prg
    rw [List.flatMap_append]
    congr 1
    have e : hits ms h.qs ms.length k = allM ms (val (lb h.qs k)) := by unfold hits; rw [List.take_length]
    rw [e]
    have em := pg_md (l := lb h.qs k) (x := x) (y := y) (good_smp g (show k < h.qs.length by omega)) g.2.2.2.2.2 hft
    cases allM ms (val (lb h.qs k))
    · simp
    · simp only [if_true, List.flatMap_cons, List.flatMap_nil, List.append_nil, Int.toNat_natCast]
      unfold one hit
      simp only [lb] at em ⊢
      rw [em]
      rfl
noncomputable def selF (h : Bk) (ms : List Mt) (x y : Int) : List Pl := if gdB h = true ∧ goodM ms = true then ansM h ms x y else []
theorem selF_no {h : Bk} {ms : List Mt} {x y : Int} (g : ¬ (gdB h = true ∧ goodM ms = true)) : selF h ms x y = [] := if_neg g
theorem selF_yes {h : Bk} {ms : List Mt} {x y : Int} (g : gdB h = true) (g' : goodM ms = true) : selF h ms x y = ansM h ms x y := if_pos ⟨g, g'⟩
def GivesQ (w : World) (L : List Pl) (e : Ending) (w' : World) : Prop := ∃ a' m' c' R, e = .returned (.slice a' m' c') ∧ OwnO w.heap.size a' m' c' R w' ∧ R.map pl = L ∧ Below w.heap.size w w'
theorem givesQ_no {w w' : World} {L : List Pl} (h : L = []) (hb : Below w.heap.size w w') : GivesQ w L (.returned (.slice none 0 0)) w' := by
  subst h; exact ⟨none, 0, 0, [], rfl, OwnO.nil _ _, rfl, hb⟩
theorem flt_at {p : Nat → Bool} {n j : Nat} (hj : j < (flt p n).length) : ∃ i : Nat, i < n ∧ (flt p n).getD j 0 = (i : Int) := by
  have hm : (flt p n).getD j 0 ∈ flt p n := by
    have : (flt p n).getD j 0 = (flt p n)[j] := by simp [hj]
    rw [this]; exact List.getElem_mem hj
  obtain ⟨i, h1, _, h3⟩ := flt_mem.1 hm
  exact ⟨i, h1, h3⟩
theorem prg_take {h : Bk} {x y : Int} {fs : List Int} {j i : Nat} (hj : j < fs.length) (e : fs.getD j 0 = (i : Int)) : prg h x y (fs.take (j + 1)) = prg h x y (fs.take j) ++ one h x y (h.qs.getD i q0) := by
  unfold prg
  rw [List.take_add_one]
  have : fs[j]? = some (i : Int) := by rw [← e]; simp [hj]
  rw [this, List.flatMap_append]
  simp
theorem prg_len {h : Bk} {x y : Int} (fs : List Int) : (prg h x y fs).length ≤ fs.length := by
  unfold prg
  induction fs with
  | nil => simp
  | cons a fs ih =>
    rw [List.flatMap_cons, List.length_append, List.length_cons]
    have : (one h x y (h.qs.getD a.toNat q0)).length ≤ 1 := by unfold one; split <;> simp
    omega
set_option maxRecDepth 10000 in
set_option maxHeartbeats 8000000 in
theorem f90 (h : Bk) (am : Option Addr) (cm : Nat) (ms : List Mt) (x y : Int) (w : World) (hx0 : -9223372036854775808 ≤ x) (hx1 : x ≤ 9223372036854775807) (hy0 : -9223372036854775808 ≤ y) (hy1 : y ≤ 9223372036854775807) (hr : HasB w h) (hf : FitB h) (hz : SmlB h) (hm : HasM w am ms) (hfm : FitM ms) (hmx : ms.length ≤ maxLen) (hd : h.ts.length ≤ h.d) (hds : ∀ i, i < h.qs.length → (h.qs.getD i q0).s.length ≤ (h.qs.getD i q0).d) :
    Calls Tryz.prog 90 #[agB h, .slice am ms.length cm, .int .i64 x, .int .i64 y] w (GivesQ w (selF h ms x y)) := by
  obtain ⟨i0, hi, hz0, hz1, hz2⟩ := info_parts infoQ'
  obtain ⟨F, TT, LL, qs, a, c, ts, b, d⟩ := h
  have H0 := hid (HB.new hr)
  have HF := hid hf
  have HZ := hid hz
  have HM := hid hm
  have HFM := hid hfm
  have HMX := hid hmx
  have HD := hid hd
  have HDS := hid hds
  clear hr hf hz hm hfm hmx hd hds
  simp only [clB] at H0
  simp only [agB, clB]
  go_enter Tryz.func90, Tryz.ntmps90
  go_wp2_with fail
  refine (f70 ⟨F, TT, LL, qs, a, c, ts, b, d⟩ _ H0.out.has HF.out HZ.out).mono ?_
  rintro e w2 ⟨rfl, hb2⟩
  have H2 := hid (H0.out.below hb2)
  clear hb2 H0
  cases hg : gdB ⟨F, TT, LL, qs, a, c, ts, b, d⟩
  · have E := hid (selF_no (h := ⟨F, TT, LL, qs, a, c, ts, b, d⟩) (ms := ms) (x := x) (y := y) (fun g => by rw [hg] at g; cases g.1))
    go_wp2
    go_ret
    exact givesQ_no E.out H2.out.bel
  go_wp2_with fail
  refine (Pat.f52 am ms.length cm ms _ rfl HMX.out (HM.out.below H2.out.bel) HFM.out).mono ?_
  rintro e w3 ⟨rfl, hb3⟩
  have H3 := hid (H2.out.below hb3)
  clear hb3 H2
  cases hgm : goodM ms
  · have E := hid (selF_no (h := ⟨F, TT, LL, qs, a, c, ts, b, d⟩) (ms := ms) (x := x) (y := y) (fun g => by rw [hgm] at g; cases g.2))
    go_wp2
    go_ret
    exact givesQ_no E.out H3.out.bel
  have HGB := hid (gdB_iff.1 hg)
  have E : Hid (selF ⟨F, TT, LL, qs, a, c, ts, b, d⟩ ms x y = prg ⟨F, TT, LL, qs, a, c, ts, b, d⟩ x y (flt (hits ms qs ms.length) qs.length)) := by
    unfold Hid
    rw [selF_yes hg hgm]
    exact (prg_ans HGB.out qs.length (Nat.le_refl _)).symm
  have HGM := hid hgm
  have h200 : qs.length ≤ 200 := HGB.out.2.1.1
  clear hg hgm
  obtain ⟨b0, b1, b2, b3, b4⟩ := five H3.out.box
  go_wp2_with fail
  refine (f129 a c qs am cm ms _ H3.out.has.1 HGB.out.2.1 (HM.out.below H3.out.bel) HGM.out).mono ?_
  rintro e w4 ⟨r, rfl, ho4, hb4⟩
  have H4 := hid (H3.out.below hb4)
  obtain ⟨af, cf, rfl, _⟩ := own_slice ho4
  have HFs := hid (Ino.Own.has ho4).2
  have HAt : Hid (∀ j, j < (flt (hits ms qs ms.length) qs.length).length → ∃ i : Nat, i < qs.length ∧ (flt (hits ms qs ms.length) qs.length).getD j 0 = (i : Int)) := fun j hj => flt_at hj
  have hfl : (flt (hits ms qs ms.length) qs.length).length ≤ 200 := Nat.le_trans (flt_len _ _) h200
  clear ho4 hb4 H3 b0 b1 b2 b3 b4
  generalize flt (hits ms qs ms.length) qs.length = fs at *
  have hsz4 : w.heap.size ≤ w4.heap.size := H4.out.bel.size
  go_wp2
  go_loopw [9, 27] (fun so si wr => ∃ (k m c' : Nat) (a' : Option Addr) (R : List Q), k ≤ fs.length ∧ si = .int .i64 k ∧ so = .slice a' m c' ∧ Hid (OwnO w4.heap.size a' m c' R wr) ∧ Hid (R.map pl = prg ⟨F, TT, LL, qs, a, c, ts, b, d⟩ x y (fs.take k)) ∧ Hid (Below w4.heap.size w4 wr)) (fun _ si _ => fs.length - (intOf si).toNat)
  case atStart => exact ⟨0, 0, 0, none, [], Nat.zero_le _, rfl, rfl, OwnO.nil _ _, rfl, Below.refl _ _⟩
  case round =>
    obtain ⟨k, m, c', a', R, hk, rfl, rfl, HO, HS, HX⟩ := hrel
    by_cases hlt : k < fs.length
    rotate_left
    · obtain rfl : k = fs.length := by omega
      have G : Hid (OwnO w.heap.size a' m c' R wr ∧ R.map pl = selF ⟨F, TT, LL, qs, a, c, ts, b, d⟩ ms x y ∧ Below w.heap.size w wr) := ⟨OwnO_base HO.out hsz4, by rw [E.out]; have h := HS.out; rw [List.take_length] at h; exact h, H4.out.bel.trans (HX.out.mono hsz4)⟩
      go_wp2
      go_ret
      exact ⟨a', m, c', R, rfl, G.out.1, G.out.2.1, G.out.2.2⟩
    obtain ⟨i, hin, hie⟩ := HAt.out k hlt
    have HHb := hid (H4.out.below HX.out)
    obtain ⟨b0, b1, b2, b3, b4⟩ := five HHb.out.box
    obtain ⟨bf, of, hbf, hbfl, hfc⟩ : ∃ bf of, af = some ⟨bf, of, none⟩ ∧ bf < wr.heap.size ∧ wr.cell? ⟨bf, of + k, none⟩ = some (.int .i64 (i : Int)) := by
      rcases HFs.out.below HX.out with h | ⟨bf, of, h1, h2, h3⟩
      · rw [h] at hlt; simp at hlt
      · exact ⟨bf, of, h1, h2, by rw [← hie]; exact h3 k hlt⟩
    subst hbf
    obtain ⟨bb, off, hbb, hbl, c0, c1, t1, t2⟩ := HHb.out.has.1.at2 i hin
    simp only at hbb c0 c1 t1 t2
    subst hbb
    have HQ := hid (HGB.out.2.1.2 i hin).1
    have HSp := hid (good_smp HGB.out hin)
    have HTk := hid (prg_take (h := ⟨F, TT, LL, qs, some ⟨bb, off, none⟩, c, ts, b, d⟩) (x := x) (y := y) hlt hie)
    have HDk := hid (HDS.out i hin)
    simp only at HSp HTk HDk
    have hm2 : m ≤ 200 := by have := HO.out.len; have := sel_len HS.out; have := prg_len (h := ⟨F, TT, LL, qs, some ⟨bb, off, none⟩, c, ts, b, d⟩) (x := x) (y := y) (fs.take k); rw [List.length_take] at this; omega
    have i1 : (k : Int) < (fs.length : Int) := by omega
    have i2 : (i : Int) < (qs.length : Int) := by omega
    generalize qs.getD i q0 = q at *
    have HGp := hid (good_goodP HQ.out.1.1)
    have HNe := hid (named_ne HQ.out.1)
    simp only [pl] at HGp HNe
    have hll : q.l.length ≤ 20 := HGp.out.1
    have hlp : 0 < q.l.length := List.length_pos_iff.2 HNe.out
    have hs2k : q.s.length ≤ 2000 := HSp.out.1
    have HPl : Hid ((pg (spans (own1 ts q.l)) q.s x y).length ≤ 2000) := Nat.le_trans (pg_len HSp.out HGB.out.2.2.2.2.2 (fun i hi => (good_stones HGB.out i hi).2.2.2.2)) hs2k
    have HW0 := hid ((Below.refl wr.heap.size wr).alloc (Nat.le_refl _) (.cells #[.slice q.a q.l.length q.c, .slice q.b q.s.length q.d] 80))
    have HBx := hid (heap_alloc_new wr (.cells #[.slice q.a q.l.length q.c, .slice q.b q.s.length q.d] 80))
    have HH1 := hid (HHb.out.below HW0.out)
    have HT1 := hid (t1.below HW0.out)
    have HT2 := hid (t2.below HW0.out)
    have hX0 : w4.heap.size ≤ wr.heap.size := HX.out.size
    clear t1 t2 hbl hie HFs HAt
    obtain ⟨W, hW⟩ : ∃ W, W = wr.alloc (.cells #[.slice q.a q.l.length q.c, .slice q.b q.s.length q.d] 80) := ⟨_, rfl⟩
    rw [← hW] at HW0 HBx HH1 HT1 HT2
    have hd2 : Below W.heap.size W W.drew := (Below.refl _ _).drew
    have HSt := hid (f131 ⟨F, TT, LL, qs, some ⟨bb, off, none⟩, c, ts, b, d⟩ q.a q.c q.l W.drew (HH1.out.has.below hd2) HZ.out HGB.out.2.2.2.2.2 HGB.out.2.2.2.1 HD.out (HT1.out.below hd2) (by omega))
    simp only [agB, clB] at HSt
    go_wp2_with fail
    rw [← hW]
    clear hW
    clear hfc b0 b1 b2 b3 b4 c0 c1
    generalize hB : wr.heap.size = B at *
    refine wp_region_held_drew (S := fun x => SM w.heap.size ⟨F, TT, LL, qs, some ⟨bb, off, none⟩, c, ts, b, d⟩ q B x) rfl (SM.new (kept HH1.out.box hd2) (kept HBx.out hd2)) (fun hHeld => ?_)
    refine tkH 0 (some 36) (.pointer (some ⟨B, 1, none⟩)) rfl ?_
    simp only [Act.put, zzA, zzB, zzC]
    refine tkH 1 (some 37) (.slice q.b q.s.length q.d) rfl ?_
    simp only [Act.put, zzA, zzB, zzC]
    refine tkH 2 (some 38) (.agg #[.int .i64 F, .int .i64 TT, .int .i64 LL, .slice (some ⟨bb, off, none⟩) qs.length c, .slice b ts.length d]) rfl ?_
    simp only [Act.put, zzA, zzB, zzC]
    refine tkH 3 (some 39) (.pointer (some ⟨B, 0, none⟩)) rfl ?_
    simp only [Act.put, zzA, zzB, zzC]
    refine tkH 4 (some 40) (.slice q.a q.l.length q.c) rfl ?_
    simp only [Act.put, zzA, zzB, zzC]
    refine tkH 6 (some 42) (.int .i64 x) rfl ?_
    simp only [Act.put, zzA, zzB, zzC]
    refine tkH 7 (some 43) (.int .i64 y) rfl ?_
    simp only [Act.put, zzA, zzB, zzC]
    refine wpAnyH_ready (rs := [5]) (by kernel_rfl) (by simp) (AllReadyH.cons (o := { dst := some 41, op := _, type := _, pos := _, after := _, guard := _ }) rfl ?_ AllReadyH.nil)
    intro K1 hK1
    go_simp
    go_wp2_with (go_at_call 131; refine HSt.out.mono ?_; rintro e w5 ⟨a5, L5, hL5, rfl, hT5, hb5⟩; have hw5 : Below W.heap.size W w5 := hd2.trans (hb5.mono hd2.size); have hq5 : SM w.heap.size ⟨F, TT, LL, qs, some ⟨bb, off, none⟩, c, ts, b, d⟩ q B w5 := SM.new (kept HH1.out.box hw5) (kept HBx.out hw5))
    refine hK1.out _ _ hq5 (fun _ => ?_)
    clear hK1 K1
    have HL5 := hid hL5.out
    have HT5 := hid hT5
    clear hHeld hL5 hT5 hb5
    have hL100 : L5.length ≤ 100 := by rw [HL5.out]; exact Nat.le_trans (List.length_filter_le _ _) HGB.out.2.2.2.1
    have HLt : Hid (∀ i, i < L5.length → 0 ≤ (L5.getD i t0).f ∧ (L5.getD i t0).f ≤ 1000000000001 ∧ 0 ≤ (L5.getD i t0).t ∧ (L5.getD i t0).t ≤ 1000000000001) := by
      intro i hi
      have hm : L5.getD i t0 ∈ ts := by
        have h1 : L5.getD i t0 = L5[i] := by simp [hi]
        have h2 : L5.getD i t0 ∈ own1 ts q.l := by rw [← HL5.out, h1]; exact List.getElem_mem hi
        exact (List.mem_filter.1 h2).1
      obtain ⟨j, hj, e⟩ := List.getElem_of_mem hm
      have := good_stones HGB.out j hj
      have e2 : ts.getD j t0 = L5.getD i t0 := by rw [← e]; simp [hj]
      simp only at this
      rw [e2] at this
      omega
    have HSL := hid (f130 q.b a5 q.d L5.length q.s L5 x y w5 hx0 hx1 hy0 hy1 HSp.out (HT2.out.below hw5) HDk.out HT5.out hL100 HLt.out (by rw [HL5.out]; exact HPl.out))
    refine wpAnyH_ready (rs := [8]) (by kernel_rfl) (by simp) (AllReadyH.cons (o := { dst := some 44, op := _, type := _, pos := _, after := _, guard := _ }) rfl ?_ AllReadyH.nil)
    intro K2 hK2
    go_simp
    go_wp2_with (go_at_call 130; refine HSL.out.mono ?_; rintro e w6 ⟨v6, rfl, hv6, hb6⟩; have hw6 : Below W.heap.size W w6 := hw5.trans (hb6.mono hw5.size); have hq6 : SM w.heap.size ⟨F, TT, LL, qs, some ⟨bb, off, none⟩, c, ts, b, d⟩ q B w6 := SM.new (kept HH1.out.box hw6) (kept HBx.out hw6))
    refine hK2.out _ _ hq6 (fun _ => ?_)
    clear hK2 K2
    have HV6 : Hid (Smp.Own w6 B v6 (pg (spans (own1 ts q.l)) q.s x y)) := by rw [← HL5.out]; exact World.ownsRow.mono hv6 (by have := hw5.size; have := HW0.out.size; omega)
    clear hq5 hv6 hb6 HSL HT5 HLt HL5
    obtain ⟨a6, c6, rfl⟩ := own_form HV6.out
    refine tkH 9 (some 13) (.slice a6 (pg (spans (own1 ts q.l)) q.s x y).length c6) rfl ?_
    simp only [Act.put, zzA, zzB, zzC]
    refine wpAnyH_done (by kernel_rfl) ?_ _
    clear hq6
    have HX6 : Hid (Below w4.heap.size w4 w6) := HX.out.trans ((HW0.out.trans (hw6.mono (by have := HW0.out.size; omega))).mono hX0)
    have HW6 : Hid (Below B wr w6) := HW0.out.trans (hw6.mono (by have := HW0.out.size; omega))
    have HT6 := hid (HT1.out.below hw6)
    have HB6 := hid (kept HBx.out hw6)
    have HOn : Hid (one ⟨F, TT, LL, qs, some ⟨bb, off, none⟩, c, ts, b, d⟩ x y q = if pg (spans (own1 ts q.l)) q.s x y = [] then [] else [(q.l, pg (spans (own1 ts q.l)) q.s x y)]) := rfl
    clear hw5 hw6 hd2 HSt HSp HH1 HT1 HT2 HBx HW0
    generalize pg (spans (own1 ts q.l)) q.s x y = C at *
    have hle2 : C.length ≤ 2000 := HPl.out
    obtain ⟨e0', e1'⟩ := two HB6.out
    by_cases hc : C = []
    · have HE2 : Hid (prg ⟨F, TT, LL, qs, some ⟨bb, off, none⟩, c, ts, b, d⟩ x y (fs.take (k + 1)) = prg ⟨F, TT, LL, qs, some ⟨bb, off, none⟩, c, ts, b, d⟩ x y (fs.take k)) := by unfold Hid; rw [HTk.out, HOn.out, if_pos hc, List.append_nil]
      have HO2 : Hid (OwnO w4.heap.size a' m c' R w6) := HO.out.below (by rw [hB]; exact HW6.out)
      have hl2 : C.length = 0 := by rw [hc]; rfl
      rw [hl2] at *
      clear hc
      go_wp2
      go_roundw
      case rel => exact ⟨k + 1, m, c', a', R, by omega, by go_num, rfl, HO2.out, by unfold Hid; rw [HE2.out]; exact HS.out, HX6.out⟩
      case measure => simp [intOf]; omega
    have HE3 : Hid (prg ⟨F, TT, LL, qs, some ⟨bb, off, none⟩, c, ts, b, d⟩ x y (fs.take (k + 1)) = prg ⟨F, TT, LL, qs, some ⟨bb, off, none⟩, c, ts, b, d⟩ x y (fs.take k) ++ [(q.l, C)]) := by unfold Hid; rw [HTk.out, HOn.out, if_neg hc]
    have hpos : 0 < C.length := List.length_pos_iff.2 hc
    obtain ⟨gs, c2, hgs0⟩ := own_form' HV6.out hpos
    simp only [Value.slice.injEq, true_and] at hgs0
    obtain ⟨rfl, rfl⟩ := hgs0
    clear hc
    have hpi : (0 : Int) < (C.length : Int) := by omega
    obtain ⟨bl, ol, hql⟩ : ∃ b o, q.a = some ⟨b, o, none⟩ := by
      rcases HT6.out with h | ⟨b, o, h, _⟩
      · exact absurd h HNe.out
      · exact ⟨b, o, h⟩
    have HT3 := HT6
    rw [hql] at HT3
    have HQL := hid hql
    clear hql
    go_wp2_with fail
    rw [HQL.out]
    refine (Srs.f132 bl ol q.c q.l _ (by omega) HT3.out).mono ?_
    rintro e w7 ⟨v7, rfl, ho7, hb7⟩
    have HW7 : Hid (Below B wr w7) := HW6.out.trans (hb7.mono (by have := HW6.out.size; omega))
    have HX7 : Hid (Below w4.heap.size w4 w7) := HX6.out.trans (hb7.mono HX6.out.size)
    obtain ⟨gl, cl7, rfl⟩ := own_form' ho7 hlp
    have HL7 : Hid (OwnL w7 B (.slice (some ⟨gl, 0, none⟩) q.l.length cl7) q.l) := own_base ho7 (by have := HW6.out.size; omega)
    have hgl : w6.heap.size ≤ gl := (ho7.lt gl rfl).1
    have HV7 : Hid (Smp.Own w7 B (.slice (some ⟨gs, 0, none⟩) C.length c6) C) := own_below HV6.out hb7
    have hgs : B ≤ gs ∧ gs < w6.heap.size := HV6.out.lt gs rfl
    have hne : gl ≠ gs := by omega
    clear ho7 hb7 HV6 HT3 HT6 e0' e1' HB6
    obtain ⟨q', hq'⟩ : ∃ q' : Q, q' = ⟨q.l, some ⟨gl, 0, none⟩, cl7, C, some ⟨gs, 0, none⟩, c6⟩ := ⟨_, rfl⟩
    have HQ4 : Hid (Own2 w4.heap.size q' w7 ∧ B ≤ blk q'.a ∧ B ≤ blk q'.b ∧ pl q' = (q.l, C) ∧ cl q' = [.slice (some ⟨gl, 0, none⟩) q.l.length cl7, .slice (some ⟨gs, 0, none⟩) C.length c6]) := by
      rw [hq']
      exact ⟨⟨rfl, rfl, own_base HL7.out hX0, own_base HV7.out hX0, hne⟩, (show B ≤ gl by omega), hgs.1, rfl, rfl⟩
    clear hq' HL7 HV7
    have HO7 : Hid (OwnO w4.heap.size a' m c' R w7) := HO.out.below (by rw [hB]; exact HW7.out)
    go_wp2_with (at_builtin; refine wpList_append_own_at _ rfl (.tmp 48) (.tmp 54) 33 rfl w4.heap.size 80 i0 (.agg #[.slice none 0 0, .slice none 0 0]) 2 48 Tryz.underlying33 hi hz0 hz1 hz2 rfl (by decide) _ _ _ rfl (HO7.out.row.alloc _) ⟨w7.heap.size, 0, none⟩ 1 1 [.slice (some ⟨gl, 0, none⟩) q.l.length cl7, .slice (some ⟨gs, 0, none⟩) C.length c6] rfl rfl ?d1 ?d2 ?d3 ?d4 ?d5 ?_)
    case d1 => first | exact two_new w7 _ _ _ | exact fun j u h => h
    case d2 => first | (intro u hu; simp at hu; rcases hu with rfl | rfl <;> rfl) | (refine ⟨?_, ?_⟩ <;> rfl) | rfl
    case d3 => unfold maxLen; omega
    case d4 => omega
    case d5 => have := HX7.out.size; simp; omega
    intro v8 w8 hown8 hgr8 _ hat8
    obtain ⟨a8, c8, rfl⟩ := own_form hown8
    have HX8 := hid ((HX7.out.alloc HX7.out.size (.cells #[.slice (some ⟨gl, 0, none⟩) q.l.length cl7, .slice (some ⟨gs, 0, none⟩) C.length c6] 80)).grown hgr8 (by have := HX7.out.size; simp; omega) (fun j hj => (HO7.out.row.lt j hj).1))
    have HO8 : Hid (OwnO w4.heap.size a8 (m + 1) c8 (R ++ [q']) w8) := by
      have hba := (Below.refl w7.heap.size w7).alloc (Nat.le_refl _) (.cells #[.slice (some ⟨gl, 0, none⟩) q.l.length cl7, .slice (some ⟨gs, 0, none⟩) C.length c6] 80)
      refine HO.out.push (by rw [hB]; exact HW7.out.trans (hba.mono (by have := HW7.out.size; omega))) (HQ4.out.1.below hba) (by rw [hB]; exact HQ4.out.2.1) (by rw [hB]; exact HQ4.out.2.2.1) hgr8 ?_ (by rw [World.size_alloc]; exact hat8)
      have e : flat (R ++ [q']) = flat R ++ [.slice (some ⟨gl, 0, none⟩) q.l.length cl7, .slice (some ⟨gs, 0, none⟩) C.length c6] := by
        rw [flat_append]
        show flat R ++ (cl q' ++ []) = _
        rw [HQ4.out.2.2.2.2, List.append_nil]
      rw [e]
      exact hown8
    have HS8 : Hid ((R ++ [q']).map pl = prg ⟨F, TT, LL, qs, some ⟨bb, off, none⟩, c, ts, b, d⟩ x y (fs.take (k + 1))) := by unfold Hid; rw [HE3.out, List.map_append, HS.out, List.map_singleton, HQ4.out.2.2.2.1]
    clear hown8 hgr8 hat8
    go_wp2
    go_roundw
    case rel => exact ⟨k + 1, m + 1, c8, a8, R ++ [q'], by omega, by go_num, rfl, HO8.out, HS8.out, HX8.out⟩
    case measure => simp [intOf]; omega
end Go.Proofs.YtjhdmghpklagkaaGreat.Blk
namespace Go.Proofs.YtjhdmghpklagkaaGreat.Hpl
open Go.RowKit
open Go.Proofs.YtjhdmghpklagkaaGreat.Stb
open Go.Proofs.YtjhdmghpklagkaaGreat.Lab (Lb cmpList)
open Go.Proofs.YtjhdmghpklagkaaGreat.Smp (Sm mrg cut)
open Go.Proofs.YtjhdmghpklagkaaGreat.Srs (Q q0 pl Pl OwnO MQ MQb MR jF GoodQ)
open Go.Proofs.YtjhdmghpklagkaaGreat.Blk
open Go.Proofs.YtjhdmghpklagkaaGreat.Pat (Mt HasM goodM)
open Go.Proofs.YtjhdmghpklagkaaGreat.Stn (t0)

theorem lb_lt {qs : List Q} (g : GoodQ qs) : ∀ j i, i < j → j < qs.length → cmpList (qs.getD i q0).l (qs.getD j q0).l < 0
  | 0, i, h, _ => by omega
  | j + 1, i, h, hj => by
    have h1 : cmpList (qs.getD j q0).l (qs.getD (j + 1) q0).l < 0 := (g.2 (j + 1) hj).2 (by omega)
    by_cases e : i = j
    · subst e; exact h1
    · exact Stb.lst_trans (lb_lt g j i (by omega) (by omega)) h1
theorem cut_mem {s : List Sm} {x y : Int} {p : Sm} (h : p ∈ cut s x y) : p ∈ s := (List.mem_filter.1 h).1
theorem md_mem : ∀ (S : List Sp) (s : List Sm) {p : Sm}, p ∈ md S s → p ∈ s
  | [], _, _, h => h
  | (f, t) :: S, s, p, h => by
    rcases List.mem_append.1 (md_mem S _ h) with h | h
    · exact cut_mem h
    · exact cut_mem h
structure Tells (h : Bk) (v : Pl) (i : Nat) : Prop where
  key : v.1 = (h.qs.getD i q0).l
  ne : v.2 ≠ []
  len : v.2.length ≤ (h.qs.getD i q0).s.length
  mem : ∀ p ∈ v.2, p ∈ (h.qs.getD i q0).s
theorem prg_tells {h : Bk} {ms : List Mt} {x y : Int} (g : GoodB h) : ∀ k, k ≤ h.qs.length → (∀ v ∈ prg h x y (flt (hits ms h.qs ms.length) k), ∃ i, i < k ∧ Tells h v i) ∧ (prg h x y (flt (hits ms h.qs ms.length) k)).Pairwise (fun v u => cmpList v.1 u.1 < 0) := by
  have hft : ∀ i, i < h.ts.length → (h.ts.getD i t0).f ≤ (h.ts.getD i t0).t := fun i hi => (good_stones g i hi).2.2.2.2
  intro k
  induction k with
  | zero => intro _; exact ⟨fun v hv => by simp [prg, flt] at hv, by simp [prg, flt]⟩
  | succ k ih =>
    intro hk
    obtain ⟨i1, i2⟩ := ih (by omega)
    have hlt : k < h.qs.length := by omega
    have hnew : ∀ v ∈ (if hits ms h.qs ms.length k = true then [(k : Int)] else []).flatMap (fun i => one h x y (h.qs.getD i.toNat q0)), Tells h v k := by
      intro v hv
      split at hv
      · simp only [List.flatMap_cons, List.flatMap_nil, List.append_nil, Int.toNat_natCast] at hv
        unfold one at hv
        split at hv
        · simp at hv
        · rename_i hne
          have e := List.mem_singleton.1 hv
          subst e
          refine ⟨rfl, hne, pg_len (good_smp g hlt) g.2.2.2.2.2 hft, fun p hp => ?_⟩
          have hp' : p ∈ pg (spans (own1 h.ts (h.qs.getD k q0).l)) (h.qs.getD k q0).s x y := hp
          rw [pg_md (good_smp g hlt) g.2.2.2.2.2 hft] at hp'
          exact md_mem _ _ (cut_mem hp')
      · simp at hv
    have hlen : ((if hits ms h.qs ms.length k = true then [(k : Int)] else []).flatMap (fun i => one h x y (h.qs.getD i.toNat q0))).length ≤ 1 := by
      split
      · simp only [List.flatMap_cons, List.flatMap_nil, List.append_nil]
        unfold one; split <;> simp
      · simp
    have e : prg h x y (flt (hits ms h.qs ms.length) (k + 1)) = prg h x y (flt (hits ms h.qs ms.length) k) ++ (if hits ms h.qs ms.length k = true then [(k : Int)] else []).flatMap (fun i => one h x y (h.qs.getD i.toNat q0)) := by
      unfold prg; rw [flt_succ, List.flatMap_append]
    rw [e]
    refine ⟨fun v hv => ?_, ?_⟩
    · rcases List.mem_append.1 hv with hv | hv
      · obtain ⟨i, hi, ht⟩ := i1 v hv
        exact ⟨i, by omega, ht⟩
      · exact ⟨k, by omega, hnew v hv⟩
    · refine List.pairwise_append.2 ⟨i2, ?_, fun v hv u hu => ?_⟩
      · generalize (if hits ms h.qs ms.length k = true then [(k : Int)] else []).flatMap (fun i => one h x y (h.qs.getD i.toNat q0)) = N at hlen
        match N, hlen with
        | [], _ => exact List.Pairwise.nil
        | [z], _ => simp
      · obtain ⟨i, hi, ht⟩ := i1 v hv
        have hu' := hnew u hu
        rw [ht.key, hu'.key]
        exact lb_lt g.2.1 k i hi hlt
theorem ans_tells {h : Bk} {ms : List Mt} {x y : Int} (g : GoodB h) : (∀ v ∈ ansM h ms x y, ∃ i, i < h.qs.length ∧ Tells h v i) ∧ (ansM h ms x y).Pairwise (fun v u => cmpList v.1 u.1 < 0) := by
  have e : ansM h ms x y = prg h x y (flt (hits ms h.qs ms.length) h.qs.length) := (prg_ans g h.qs.length (Nat.le_refl _)).symm
  rw [e]
  exact prg_tells g h.qs.length (Nat.le_refl _)
theorem ans_okm {h : Bk} {ms : List Mt} {x y : Int} (g : GoodB h) (f : FitB h) : Okm (ansM h ms x y) := by
  obtain ⟨h1, h2⟩ := ans_tells (ms := ms) (x := x) (y := y) g
  refine ⟨?_, fun v hv => ?_, h2.imp (fun hlt e => by rw [e, Stb.lst_self] at hlt; omega)⟩
  · rw [show ansM h ms x y = prg h x y (flt (hits ms h.qs ms.length) h.qs.length) from (prg_ans g h.qs.length (Nat.le_refl _)).symm]
    have a1 := prg_len (h := h) (x := x) (y := y) (flt (hits ms h.qs ms.length) h.qs.length)
    have a2 := flt_len (hits ms h.qs ms.length) h.qs.length
    have a3 := g.2.1.1
    omega
  · obtain ⟨i, hi, ht⟩ := h1 v hv
    have ho := (g.2.1.2 i hi).1
    have hF := f.2.2.2.1 i
    have hL : Lab.GoodP (h.qs.getD i q0).l := of_decide_eq_true ho.1.1
    have hS : Smp.GoodP (h.qs.getD i q0).s := of_decide_eq_true ho.2.1
    have a1 := ht.len
    have a2 := hS.1
    refine ⟨by rw [ht.key]; exact Srs.named_ne ho.1, ht.ne, by rw [ht.key]; exact hL.1, by omega, by rw [ht.key]; exact hF.1, Srs.fit_of fun p hp => Srs.fit_mem hF.2.2.1 (ht.mem p hp)⟩
end Go.Proofs.YtjhdmghpklagkaaGreat.Hpl
