/- Series trimmed by needs: the model's l17Trim and TrimSeries. -/
import Derived.Test.YtaekngadfajcaaaGreatRTrc
import Derived.Test.YtaekngadfajcaaaGreatRXf
namespace Go.Proofs.YtaekngadfajcaaaGreat.Trm
open Go.RowKit
open Go.Proofs.YtaekngadfajcaaaGreat.Lab (Lb HasL OfV GoodP)
open Go.Proofs.YtaekngadfajcaaaGreat.Smp (Sm HasS In64 ret_bool)
open Go.Proofs.YtaekngadfajcaaaGreat.Pat (Mt HasM goodM allM FitM)
open Go.Proofs.YtaekngadfajcaaaGreat.Srs (Q HasQ Vf gdQ GoodQ q0 GG box_gg OwnO Own2 OwnL FitQ SmlQ infoQ' own_form' own_base own_below named_ne good_goodP blk cl flat flat_append two_new gdQ_iff pl)
open Go.Proofs.YtaekngadfajcaaaGreat.Ned (T HasT t0)

theorem own_baseO {X Y n c : Nat} {a : Option Addr} {qs : List Q} {w : World} (h : OwnO X a n c qs w) (hy : Y ≤ X) : OwnO Y a n c qs w :=
  ⟨h.len, own_base h.row hy, fun i hi => ⟨(h.own i hi).ha, (h.own i hi).hb, own_base (h.own i hi).lab hy, own_base (h.own i hi).smp hy, (h.own i hi).ne⟩, h.nea, h.dis⟩
/-- Covered by one of the first j. -/
def cvK (val : ByteArray → ByteArray) (ts : List T) (t : Int) (j : Nat) : Bool := covN val ((ts.take j).map Ned.pl) t
theorem cvK_zero (val : ByteArray → ByteArray) (ts : List T) (t : Int) : cvK val ts t 0 = false := rfl
theorem cvK_step (val : ByteArray → ByteArray) (ts : List T) (t : Int) (j : Nat) (h : j < ts.length) : cvK val ts t (j + 1) = (cvK val ts t j || (hasB ((ts.getD j t0).f, (ts.getD j t0).t) t && allM (ts.getD j t0).l val)) := by
  unfold cvK covN
  rw [List.take_succ_eq_append_getElem h, List.map_append, List.any_append]
  have h1 : ts.getD j t0 = ts[j] := by simp [h]
  rw [h1]
  simp [Ned.pl]
theorem cvK_end (val : ByteArray → ByteArray) (ts : List T) (t : Int) : cvK val ts t ts.length = covN val (ts.map Ned.pl) t := by
  unfold cvK; rw [List.take_length]

/-- What was there ahead of the box. -/
structure ZF (z : World) (q : Q) (b : Nat) (an : Option Addr) (ts : List T) : Prop where
  lab : HasL z q.a q.l
  smp : HasS z q.b q.s
  nds : HasT z an ts
  lt : b < z.heap.size
theorem TS.grow {w z x y : World} {q : Q} {b o : Nat} {an : Option Addr} {ts : List T} {v : Value} (h : TS w z q b o z.heap.size an ts x) (hz : ZF z q b an ts) (hw : w.heap.size ≤ z.heap.size) (hg : x.grownBy y v.ownBlock) (hr : ∀ k, v.ownBlock = some k → z.heap.size < k) : TS w z q b o z.heap.size an ts y := by
  have hzx : z.heap.size < x.heap.size := h.1.2.2.2.2.2.2.1
  have hb : Below z.heap.size z y := h.2.2.grown hg (Nat.le_of_lt hzx) (fun k hk => Nat.le_of_lt (hr k hk))
  have he : y.heap[z.heap.size]? = x.heap[z.heap.size]? := hg.block z.heap.size hzx (fun e => by have := hr _ e.symm; omega)
  have hc : ∀ i, y.cell? ⟨z.heap.size, i, none⟩ = x.cell? ⟨z.heap.size, i, none⟩ := fun i => by simp only [World.cell?, he]
  obtain ⟨h0, h1, h2, _, _, _, _, _, hbel⟩ := h.1
  refine ⟨⟨(hc 0).trans h0, (hc 1).trans h1, ?_, hz.lab.below hb, hz.smp.below hb, hz.lab.below hb, Nat.lt_of_lt_of_le hzx hg.size, Nat.lt_of_lt_of_le hz.lt hb.size, ?_⟩, hz.nds.below hb, hb⟩
  · exact (hb.cell (p := ⟨b, o, none⟩) hz.lt).trans ((h.2.2.cell (p := ⟨b, o, none⟩) hz.lt).symm.trans h2)
  · exact hbel.grown hg hbel.size (fun k hk => by have := hr k hk; omega)

set_option maxHeartbeats 8000000 in
set_option maxRecDepth 100000 in
theorem f19 (val : Vf) (hv : ∀ ls x, OfV ls x (val ls x)) (a an : Option Addr) (n c nn cn : Nat) (qs : List Q) (ts : List T) (w : World) (hn : qs.length = n) (hnn : ts.length = nn) (hr : HasQ w a qs) (hrn : HasT w an ts) (hg : GoodQ qs) (hgn : gdN (ts.map Ned.pl) = true) :
    Calls Tryz.prog 19 #[.slice a n c, .slice an nn cn] w fun e w' => ∃ a' m' c' R, e = .returned (.slice a' m' c') ∧ OwnO w.heap.size a' m' c' R w' ∧ R.map pl = trL val (ts.map Ned.pl) qs n ∧ Below w.heap.size w w' := by
  obtain ⟨i0, hi, hz0, hz1, hz2⟩ := info_parts infoQ'
  obtain ⟨j0, hj, hy0, hy1, hy2⟩ := info_parts infoM
  have HN := hid hn
  have HNN := hid hnn
  have HR := hid hr
  have HRN := hid hrn
  have HG := hid hg
  have HGN := hid hgn
  have HV := hid hv
  have h200 : n ≤ 200 := by rw [← HN.out]; exact HG.out.1
  have h60 : nn ≤ 60 := by have := gdN_len hgn; simp at this; omega
  obtain ⟨ps, hps⟩ : ∃ ps, ps = ts.map Ned.pl := ⟨_, rfl⟩
  have HPS := hid hps
  rw [← hps]
  clear hn hnn hr hrn hg hgn hv hps
  go_enter Tryz.func19, Tryz.ntmps19
  go_wp2
  go_loopw [5, 16] (fun so si wr => ∃ (k m c' : Nat) (a' : Option Addr) (R : List Q), k ≤ n ∧ si = .int .i64 k ∧ so = .slice a' m c' ∧ Hid (OwnO w.heap.size a' m c' R wr) ∧ Hid (R.map pl = trL val ps qs k) ∧ Hid (Below w.heap.size w wr)) (fun _ si _ => n - (intOf si).toNat)
  case atStart => exact ⟨0, 0, 0, none, [], Nat.zero_le _, rfl, rfl, OwnO.nil _ _, rfl, Below.refl _ _⟩
  case round =>
    obtain ⟨k, m, c', a', R, hk, rfl, rfl, HO, HS, HX⟩ := hrel
    obtain ⟨z, rfl⟩ : ∃ z, z = wr := ⟨wr, rfl⟩
    by_cases hlt : k < n
    rotate_left
    · obtain rfl : k = n := by omega
      go_wp2
      go_ret
      exact ⟨a', m, c', R, rfl, HO.out, HS.out, HX.out⟩
    obtain ⟨b, off, rfl, hbl, c0, c1, t1, t2⟩ := (HR.out.below HX.out).at2 k (by rw [HN.out]; exact hlt)
    have HQ := hid (HG.out.2 k (by rw [HN.out]; exact hlt)).1
    have hm : m ≤ 200 := by have := HO.out.len; have := sel_len HS.out; have := trL_len val ps qs k; omega
    have HSl : Hid (trL val ps qs (k + 1) = trL val ps qs k ++ hit val ps (pl (qs.getD k q0))) := rfl
    generalize qs.getD k q0 = q at *
    have HGp := hid (good_goodP HQ.out.1.1)
    have HSp : Hid (Smp.GoodP q.s) := hid (of_decide_eq_true HQ.out.2.1)
    have HNe := hid (named_ne HQ.out.1)
    simp only [pl] at HGp HNe
    have HG1 := hid (box_gg (w := w) (q := q) (p := q) c0 t1 t2 t1 hbl HX.out)
    have HW0 := hid ((Below.refl z.heap.size z).alloc (Nat.le_refl _) (.cells #[.slice q.a q.l.length q.c, .slice q.b q.s.length q.d] 53))
    obtain ⟨sb, hsb⟩ : ∃ sb, sb = q.b := ⟨_, rfl⟩
    have HSB := hid hsb
    have HT1 : Hid (TS w z q b (off + k * 2) z.heap.size an ts (z.alloc (.cells #[.slice q.a q.l.length q.c, .slice sb q.s.length q.d] 53))) := by
      rw [hsb]; exact ⟨HG1.out, HRN.out.below HG1.out.bel, HW0.out⟩
    rw [← hsb] at c1
    clear hsb
    have hs2000 : q.s.length ≤ 2000 := HSp.out.1
    have HZF : Hid (ZF z q b an ts) := ⟨t1, t2, HRN.out.below HX.out, hbl⟩
    clear t1 t2 hbl HG1 HW0
    go_wp2
    go_loopw [8, 23] (fun so si wr => ∃ (i m co : Nat) (ao : Option Addr) (O : List Sm), i ≤ q.s.length ∧ si = .int .i64 i ∧ so = .slice ao m co ∧ Hid (Smp.Own wr (z.heap.size + 1) (.slice ao m co) O) ∧ Hid (O = trS (val q.l) ps (q.s.take i)) ∧ Hid (TS w z q b (off + k * 2) z.heap.size an ts wr)) (fun _ si _ => q.s.length - (intOf si).toNat)
    case atStart => exact ⟨0, 0, 0, none, [], Nat.zero_le _, rfl, rfl, Smp.Own.nil _ _, rfl, HT1.out⟩
    case round =>
      clear HT1
      obtain ⟨i, m1, co, ao, O, hik, rfl, rfl, HO1, HS1, HT⟩ := hrel
      obtain ⟨y, rfl⟩ : ∃ y, y = wr := ⟨wr, rfl⟩
      obtain rfl : m1 = O.length := HO1.out.has.1
      by_cases hil : i < q.s.length
      rotate_left
      · -- what is left of the series
        obtain rfl : i = q.s.length := by omega
        have HOS : Hid (Smp.Own y z.heap.size (.slice ao O.length co) O) := HO1.out.mono (Nat.le_succ _)
        have HOe : Hid (O = trS (val q.l) ps q.s) := by unfold Hid; rw [HS1.out, List.take_length]
        obtain ⟨e0, e1, _⟩ := id HT.out.1
        have HW3 := hid HT.out.2.2
        have HG3 := hid HT.out.1
        have HX3 := hid HT.out.1.bel
        by_cases hc : O = []
        · have HE2 : Hid (trL val ps qs (k + 1) = trL val ps qs k) := by unfold Hid; rw [HSl.out, hit_no (by rw [← hc]; exact HOe.out.symm), List.append_nil]
          have HO2 := hid (HO.out.below HW3.out)
          subst hc
          go_wp2
          go_roundw
          case rel => exact ⟨k + 1, m, c', a', R, by omega, by go_num, rfl, HO2.out, by unfold Hid; rw [HE2.out]; exact HS.out, HX3.out⟩
          case measure => simp [intOf]; omega
        have hpos : 0 < O.length := List.length_pos_iff.2 hc
        have HE3 : Hid (trL val ps qs (k + 1) = trL val ps qs k ++ [(q.l, O)]) := by
          unfold Hid
          rw [HSl.out, HOe.out]
          exact congrArg _ (hit_yes (q := pl q) (by simp only [pl]; rw [← HOe.out]; exact hc))
        have hCl : O.length ≤ 1048576 := by rw [HOe.out]; exact Nat.le_trans (trS_len _ _ _) (by omega)
        obtain ⟨gc, c2, hv2⟩ := own_form' HOS.out hpos
        simp only [Value.slice.injEq] at hv2
        obtain ⟨rfl, -, rfl⟩ := hv2
        clear hc HOe
        have hpi : (0 : Int) < (O.length : Int) := by omega
        have hgc : z.heap.size ≤ gc ∧ gc < y.heap.size := HOS.out.lt gc rfl
        obtain ⟨bl, ol, hql⟩ : ∃ b o, q.a = some ⟨b, o, none⟩ := by
          rcases GG.t1 HG3.out with h | ⟨b, o, h, _⟩
          · exact absurd h HNe.out
          · exact ⟨b, o, h⟩
        have HT3 := hid (GG.t1 HG3.out)
        have hll : q.l.length ≤ 20 := HGp.out.1
        have HCL : Hid (∀ wz, HasL wz q.a q.l → Calls Tryz.prog 44 #[.slice q.a q.l.length q.c] wz fun e w' => ∃ v', e = .returned v' ∧ OwnL w' wz.heap.size v' q.l ∧ Below wz.heap.size wz w') := fun wz hz => by
          rw [hql] at hz ⊢
          exact Srs.f44 bl ol q.c q.l wz (by omega) hz
        clear hql
        have hlp : 0 < q.l.length := List.length_pos_iff.2 HNe.out
        go_wp2_with fail
        refine (HCL.out _ HT3.out).mono ?_
        rintro e w4 ⟨v4, rfl, ho4, hb4⟩
        have HG4 := hid (GG.below HG3.out hb4)
        have HW4 := hid (HW3.out.trans (hb4.mono HW3.out.size))
        obtain ⟨gl, cl4, rfl⟩ := own_form' ho4 hlp
        have HL4 : Hid (OwnL w4 z.heap.size (.slice (some ⟨gl, 0, none⟩) q.l.length cl4) q.l) := own_base ho4 HW3.out.size
        have hgl : y.heap.size ≤ gl := (ho4.lt gl rfl).1
        have HV4 := hid (HOS.out.below hb4)
        clear ho4 hb4 HG3 HT3 e0 e1 HOS HX3
        have hne : gl ≠ gc := by omega
        obtain ⟨q', hq'⟩ : ∃ q' : Q, q' = ⟨q.l, some ⟨gl, 0, none⟩, cl4, O, some ⟨gc, 0, none⟩, co⟩ := ⟨_, rfl⟩
        have HQ4 : Hid (Own2 w.heap.size q' w4 ∧ z.heap.size ≤ blk q'.a ∧ z.heap.size ≤ blk q'.b ∧ pl q' = (q.l, O) ∧ cl q' = [.slice (some ⟨gl, 0, none⟩) q.l.length cl4, .slice (some ⟨gc, 0, none⟩) O.length co]) := by
          rw [hq']
          exact ⟨⟨rfl, rfl, own_base HL4.out HX.out.size, own_base HV4.out HX.out.size, hne⟩, Nat.le_trans HW3.out.size hgl, hgc.1, rfl, rfl⟩
        clear hq' HL4 HV4
        have HO4 := hid (HO.out.below HW4.out)
        go_wp2_with (at_builtin; refine wpList_append_own_at _ rfl (.tmp 65) (.tmp 71) 26 rfl w.heap.size 53 i0 (.agg #[.slice none 0 0, .slice none 0 0]) 2 48 Tryz.underlying26 hi hz0 hz1 hz2 rfl (by decide) _ _ _ rfl (HO4.out.row.alloc _) ⟨w4.heap.size, 0, none⟩ 1 1 [.slice (some ⟨gl, 0, none⟩) q.l.length cl4, .slice (some ⟨gc, 0, none⟩) O.length co] rfl rfl ?d1 ?d2 ?d3 ?d4 ?d5 ?_)
        case d1 => first | exact two_new w4 _ _ _ | exact fun j u h => h
        case d2 => first | (intro u hu; simp at hu; rcases hu with rfl | rfl <;> rfl) | (refine ⟨?_, ?_⟩ <;> rfl) | rfl
        case d3 => unfold maxLen; omega
        case d4 => omega
        case d5 => have := HG4.out.bel.size; simp; omega
        intro v6 w6 hown6 hgr6 _ hat6
        obtain ⟨a6, c6, rfl⟩ := Smp.own_form hown6
        have HX6 := hid ((HG4.out.bel.alloc HG4.out.bel.size (.cells #[.slice (some ⟨gl, 0, none⟩) q.l.length cl4, .slice (some ⟨gc, 0, none⟩) O.length co] 53)).grown hgr6 (by have := HG4.out.bel.size; simp; omega) (fun j hj => (HO4.out.row.lt j hj).1))
        have HO6 : Hid (OwnO w.heap.size a6 (m + 1) c6 (R ++ [q']) w6) := by
          have hba := (Below.refl w4.heap.size w4).alloc (Nat.le_refl _) (.cells #[.slice (some ⟨gl, 0, none⟩) q.l.length cl4, .slice (some ⟨gc, 0, none⟩) O.length co] 53)
          refine HO.out.push (HW4.out.trans (hba.mono HW4.out.size)) (HQ4.out.1.below hba) HQ4.out.2.1 HQ4.out.2.2.1 hgr6 ?_ (by rw [World.size_alloc]; exact hat6)
          have e : flat (R ++ [q']) = flat R ++ [.slice (some ⟨gl, 0, none⟩) q.l.length cl4, .slice (some ⟨gc, 0, none⟩) O.length co] := by
            rw [flat_append]
            show flat R ++ (cl q' ++ []) = _
            rw [HQ4.out.2.2.2.2, List.append_nil]
          rw [e]
          exact hown6
        have HS6 : Hid ((R ++ [q']).map pl = trL val ps qs (k + 1)) := by unfold Hid; rw [HE3.out, List.map_append, HS.out, List.map_singleton, HQ4.out.2.2.2.1]
        clear hown6 hgr6 hat6
        go_wp2
        go_roundw
        case rel => exact ⟨k + 1, m + 1, c6, a6, R ++ [q'], by omega, by go_num, rfl, HO6.out, HS6.out, HX6.out⟩
        case measure => simp [intOf]; omega
      -- a sample
      obtain ⟨e0, e1, _⟩ := id HT.out.1
      have hhs : HasS y sb q.s := by rw [HSB.out]; exact HT.out.smp
      rw [← HSB.out] at e1
      rcases hhs with hr | ⟨bs, os, rfl, hbl, hcs⟩
      · rw [hr] at hil; simp at hil
      obtain ⟨c0, c1⟩ := hcs i hil
      have HFS : Hid (trS (val q.l) ps (q.s.take (i + 1)) = trS (val q.l) ps (q.s.take i) ++ if covN (val q.l) ps (q.s.getD i Smp.e0).1 = true then [q.s.getD i Smp.e0] else []) := filter_step (fun s => covN (val q.l) ps s.1) q.s i hil
      clear hcs hbl
      generalize q.s.getD i Smp.e0 = p at *
      obtain ⟨s, t⟩ := p
      simp only at c0 c1 HFS
      obtain ⟨Y, hY⟩ : ∃ Y, Y = y.alloc (.cells #[.int .i64 s, .int .i64 t] 78) := ⟨_, rfl⟩
      have HY : Hid (Below y.heap.size y Y ∧ Y.heap[y.heap.size]? = some (.cells #[.int .i64 s, .int .i64 t] 78) ∧ Y.heap.size = y.heap.size + 1) := by
        subst hY; exact ⟨(Below.refl _ _).alloc (Nat.le_refl _) _, heap_alloc_new y _, by simp⟩
      have HTY := hid (HT.out.below HY.out.1)
      have hO2 : O.length ≤ 2000 := by
        have := trS_len (val q.l) ps (q.s.take i)
        rw [← HS1.out] at this
        simp at this
        omega
      have HOY := hid (HO1.out.below HY.out.1)
      go_wp2
      go_loopw [11, 29] (fun sc sj wr => ∃ j : Nat, j ≤ nn ∧ sj = .int .i64 j ∧ sc = .bool (cvK (val q.l) ts s j) ∧ Hid (TS w z q b (off + k * 2) z.heap.size an ts wr) ∧ Hid (Below Y.heap.size Y wr)) (fun _ sj _ => nn - (intOf sj).toNat)
      case atStart => exact ⟨0, Nat.zero_le _, rfl, rfl, by rw [← hY]; exact HTY.out, by rw [← hY]; exact Below.refl _ _⟩
      case round =>
        obtain ⟨j, hjn, rfl, rfl, HTx, HYx⟩ := hrel
        obtain ⟨x, rfl⟩ : ∃ x, x = wr := ⟨wr, rfl⟩
        clear HTY hY
        have HBx := hid ((HYx.out.block y.heap.size (by have := HY.out.2.2; omega)).trans HY.out.2.1)
        have g0 := Smp.two0 HBx.out
        have g1 := Smp.two1 HBx.out
        by_cases hjl : j < nn
        rotate_left
        · obtain rfl : j = nn := by omega
          have HCV : Hid (cvK (val q.l) ts s j = covN (val q.l) ps s) := by unfold Hid; rw [← HNN.out, cvK_end, HPS.out]
          have HOx := hid (HOY.out.below HYx.out)
          cases hcv : cvK (val q.l) ts s j
          · have HE : Hid (O = trS (val q.l) ps (q.s.take (i + 1))) := by
              unfold Hid; rw [HFS.out, ← HS1.out, ← HCV.out, hcv]; simp
            go_wp2
            go_roundw
            case rel => exact ⟨i + 1, O.length, co, ao, O, by omega, by go_num, rfl, HOx.out, HE.out, HTx.out⟩
            case measure => simp [intOf]; omega
          · have HE : Hid (O ++ [(s, t)] = trS (val q.l) ps (q.s.take (i + 1))) := by
              unfold Hid; rw [HFS.out, ← HS1.out, ← HCV.out, hcv]; simp
            have HBW := hid HTx.out.2.2
            go_wp2_with (at_builtin; refine wpList_append_own _ rfl (.tmp 57) (.tmp 59) 51 rfl (z.heap.size + 1) 78 j0 (.agg #[.int .i64 0, .int .i64 0]) 2 16 Tryz.underlying51 hj hy0 hy1 hy2 rfl (by decide) _ _ _ rfl (World.ownsRow.alloc HOx.out _) ⟨x.heap.size, 0, none⟩ 1 1 [.int .i64 s, .int .i64 t] rfl rfl ?e1 ?e2 ?e3 ?e4 ?e5 ?_)
            case e1 => exact Smp.two_new _ _ _ _
            case e2 => intro u hu; simp at hu; rcases hu with rfl | rfl <;> rfl
            case e3 => unfold maxLen; omega
            case e4 => omega
            case e5 => have := HTx.out.1.2.2.2.2.2.2.1; simp; omega
            intro v1 w3 hown1 hgr1 _
            obtain ⟨a3, c3, hv3⟩ := Smp.own_form hown1
            subst hv3
            have HO2 : Hid (Smp.Own w3 (z.heap.size + 1) (.slice a3 (O.length + 1) c3) (O ++ [(s, t)])) := by
              unfold Hid Smp.Own; rw [Smp.flat_append, List.length_append]; exact hown1
            have HT3 : Hid (TS w z q b (off + k * 2) z.heap.size an ts w3) := by
              exact (HTx.out.below ((Below.refl x.heap.size x).alloc (Nat.le_refl _) (.cells #[.int .i64 s, .int .i64 t] 78))).grow HZF.out HX.out.size hgr1 (fun k hk => (HOx.out.lt k hk).1)
            clear hown1 hgr1
            go_wp2
            go_roundw
            case rel => exact ⟨i + 1, O.length + 1, c3, a3, _, by omega, by go_num, rfl, HO2.out, HE.out, HT3.out⟩
            case measure => simp [intOf]; omega
        obtain ⟨bn, on, rfl, hbn, hcn, hmn⟩ := HTx.out.needs.at2 j (by rw [HNN.out]; exact hjl)
        obtain ⟨d0, d1, d2⟩ := hcn
        have HSt := hid (cvK_step (val q.l) ts s j (by rw [HNN.out]; exact hjl))
        have HGj := hid (gdN_at HGN.out (show j < ts.length by rw [HNN.out]; exact hjl))
        have HM := hid hmn
        clear hmn hbn
        generalize ts.getD j t0 = r at *
        obtain ⟨V, hV⟩ : ∃ V, V = x.alloc (.cells #[.slice r.a r.l.length r.c, .int .i64 r.f, .int .i64 r.t] 48) := ⟨_, rfl⟩
        have HVb : Hid (Below x.heap.size x V ∧ V.heap[x.heap.size]? = some (.cells #[.slice r.a r.l.length r.c, .int .i64 r.f, .int .i64 r.t] 48)) := by
          subst hV; exact ⟨(Below.refl _ _).alloc (Nat.le_refl _) _, heap_alloc_new x _⟩
        have HTV := hid (HTx.out.below HVb.out.1)
        have HYV := hid (HYx.out.trans (HVb.out.1.mono HYx.out.size))
        have HMV := hid (HM.out.below HVb.out.1)
        obtain ⟨k0, k1, k2⟩ := Ned.three HVb.out.2
        have l0 := (HVb.out.1.cell (p := ⟨y.heap.size, 0, none⟩) (by exact (Array.getElem?_eq_some_iff.1 HBx.out).1)).trans g0
        obtain ⟨n0, _⟩ := id HTV.out.1
        go_upto_region 13 with fail
        rw [← hV]
        clear d0 d1 d2 g0 g1 hV
        cases hcv : cvK (val q.l) ts s j
        rotate_left
        · have HE : Hid (cvK (val q.l) ts s (j + 1) = true) := by unfold Hid; rw [HSt.out, hcv]; rfl
          go_wp2
          go_roundw
          case rel => exact ⟨j + 1, by omega, by go_num, by rw [HE.out], HTV.out, HYV.out⟩
          case measure => simp [intOf]; omega
        by_cases h1 : r.f ≤ s
        rotate_left
        · have HE : Hid (cvK (val q.l) ts s (j + 1) = false) := by unfold Hid; rw [HSt.out, hcv]; simp [hasB]; omega
          go_wp2
          go_roundw
          case rel => exact ⟨j + 1, by omega, by go_num, by rw [HE.out], HTV.out, HYV.out⟩
          case measure => simp [intOf]; omega
        by_cases h2 : s ≤ r.t
        rotate_left
        · have HE : Hid (cvK (val q.l) ts s (j + 1) = false) := by unfold Hid; rw [HSt.out, hcv]; simp [hasB]; omega
          go_wp2
          go_roundw
          case rel => exact ⟨j + 1, by omega, by go_num, by rw [HE.out], HTV.out, HYV.out⟩
          case measure => simp [intOf]; omega
        have HE : Hid (cvK (val q.l) ts s (j + 1) = allM r.l (val q.l)) := by unfold Hid; rw [HSt.out, hcv]; simp [hasB, h1, h2]
        go_wp2_with fail
        refine (Pat.f43 r.a q.a r.l.length r.c q.l.length q.c r.l q.l (val q.l) _ rfl rfl HMV.out HTV.out.lab HGj.out HGp.out (HV.out q.l)).mono ?_
        rintro e w5 ⟨rfl, hb5⟩
        have HT5 := hid (HTV.out.below hb5)
        have HY5 := hid (HYV.out.trans (hb5.mono HYV.out.size))
        clear hb5
        go_wp2
        go_roundw
        case rel => exact ⟨j + 1, by omega, by go_num, by rw [HE.out], HT5.out, HY5.out⟩
        case measure => simp [intOf]; omega

set_option maxHeartbeats 4000000 in
theorem f6 (val : Vf) (hv : ∀ ls x, OfV ls x (val ls x)) (a an : Option Addr) (n c nn cn : Nat) (qs : List Q) (ts : List T) (w : World) (hn : qs.length = n) (hnn : ts.length = nn) (hmax : n ≤ maxLen) (hnm : nn ≤ 1048576) (hr : HasQ w a qs) (hrn : HasT w an ts) (hf : FitQ qs) (hz : SmlQ qs) (hfn : Ned.FitT ts) :
    Calls Tryz.prog 6 #[.slice a n c, .slice an nn cn] w fun e w' => ∃ a' m' c' R, e = .returned (.slice a' m' c') ∧ OwnO w.heap.size a' m' c' R w' ∧ R.map pl = trF val qs (ts.map Ned.pl) ∧ Below w.heap.size w w' := by
  have HN := hid hn
  have HNN := hid hnn
  have HMX := hid hmax
  have HR := hid hr
  have HRN := hid hrn
  have HF := hid hf
  have HZ := hid hz
  have HFN := hid hfn
  have HV := hid hv
  clear hn hnn hr hrn hf hz hfn hv hmax
  cases hgq : gdQ qs
  · have HE : Hid (trF val qs (ts.map Ned.pl) = []) := if_neg fun h => by rw [hgq] at h; cases h.1
    go_enter Tryz.func6, Tryz.ntmps6
    go_wp2_with fail
    refine (Srs.f17 a n c qs _ HN.out HMX.out HR.out HF.out HZ.out).mono ?_
    rw [hgq]
    rintro e w1 ⟨rfl, hb1⟩
    have HX1 := hid hb1
    clear hb1
    go_wp2
    go_ret
    exact ⟨none, 0, 0, [], rfl, OwnO.nil _ _, HE.out.symm, HX1.out⟩
  have HGQ := hid hgq
  by_cases h60 : nn ≤ 60
  rotate_left
  · have HE : Hid (trF val qs (ts.map Ned.pl) = []) := if_neg fun h => by rw [gdN_long (by rw [HNN.out]; omega)] at h; cases h.2
    go_enter Tryz.func6, Tryz.ntmps6
    go_wp2_with fail
    refine (Srs.f17 a n c qs _ HN.out HMX.out HR.out HF.out HZ.out).mono ?_
    rw [hgq]
    rintro e w1 ⟨rfl, hb1⟩
    have HX1 := hid hb1
    clear hb1 hgq
    go_wp2
    go_ret
    exact ⟨none, 0, 0, [], rfl, OwnO.nil _ _, HE.out.symm, HX1.out⟩
  go_enter Tryz.func6, Tryz.ntmps6
  go_wp2_with fail
  refine (Srs.f17 a n c qs _ HN.out HMX.out HR.out HF.out HZ.out).mono ?_
  rw [hgq]
  rintro e w1 ⟨rfl, hb1⟩
  have HX1 := hid hb1
  clear hb1 hgq
  go_wp2
  go_loopw [17] (fun si wr => ∃ k : Nat, k ≤ nn ∧ si = .int .i64 k ∧ Hid (∀ j, j < k → goodM (ts.getD j t0).l = true) ∧ Hid (Below w.heap.size w wr)) (fun si _ => nn - (intOf si).toNat)
  case atStart => exact ⟨0, Nat.zero_le _, rfl, fun j hj => absurd hj (by omega), HX1.out⟩
  case round =>
    clear HX1
    obtain ⟨k, hk, rfl, HU, HX⟩ := hrel
    by_cases hlt : k < nn
    rotate_left
    · have HGN : Hid (gdN (ts.map Ned.pl) = true) := gdN_yes (by rw [HNN.out]; exact h60) (fun i hi => HU.out i (by rw [HNN.out] at hi; omega))
      have HE : Hid (trF val qs (ts.map Ned.pl) = trL val (ts.map Ned.pl) qs n) := by unfold Hid; rw [← HN.out]; exact if_pos ⟨HGQ.out, HGN.out⟩
      go_wp2_with fail
      refine (f19 val HV.out a an n c nn cn qs ts _ HN.out HNN.out (HR.out.below HX.out) (HRN.out.below HX.out) (gdQ_iff.1 HGQ.out) HGN.out).mono ?_
      rintro e w2 ⟨a', m', c', R, rfl, ho2, hr2, hb2⟩
      have HO2 : Hid (OwnO w.heap.size a' m' c' R w2) := own_baseO ho2 HX.out.size
      have HR2 := hid hr2
      have HX2 := hid (HX.out.trans (hb2.mono HX.out.size))
      clear ho2 hr2 hb2
      go_wp2
      go_ret
      exact ⟨a', m', c', R, rfl, HO2.out, by rw [HE.out]; exact HR2.out, HX2.out⟩
    obtain ⟨b, off, rfl, hbl, hc, hm⟩ := (HRN.out.below HX.out).at2 k (by rw [HNN.out]; exact hlt)
    obtain ⟨d0, d1, d2⟩ := hc
    have HFk := hid (HFN.out k)
    have HNo := hid (gdN_no (ts := ts) (i := k) (by rw [HNN.out]; exact hlt))
    have HYe : Hid (goodM (ts.getD k t0).l = true → ∀ j, j < k + 1 → goodM (ts.getD j t0).l = true) := fun h j hj => by
      by_cases e : j = k
      · rw [e]; exact h
      · exact HU.out j (by omega)
    have HM := hid hm
    clear hm hbl
    generalize ts.getD k t0 = q at *
    have HB0 := hid (BN.new HM.out HX.out)
    go_wp2_with fail
    refine (Pat.f18 q.a q.l.length q.c q.l _ rfl HFk.out.2.1 HB0.out.2.1 HFk.out.1).mono ?_
    rintro e w1 ⟨rfl, hb1⟩
    have HX1 := hid (HB0.out.below hb1).2.2
    clear hb1 d0 d1 d2 HB0
    cases hh : goodM q.l
    · have HE : Hid (trF val qs (ts.map Ned.pl) = []) := if_neg fun h => by rw [HNo.out hh] at h; cases h.2
      go_wp2
      go_ret
      exact ⟨none, 0, 0, [], rfl, OwnO.nil _ _, HE.out.symm, HX1.out⟩
    · have HU2 := hid (HYe.out hh)
      go_wp2
      go_roundw
      case rel => exact ⟨k + 1, by omega, by go_num, HU2.out, HX1.out⟩
      case measure => simp [intOf]; omega
end Go.Proofs.YtaekngadfajcaaaGreat.Trm
