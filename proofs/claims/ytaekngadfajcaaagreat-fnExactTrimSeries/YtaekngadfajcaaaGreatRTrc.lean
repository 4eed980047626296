/- Series trimmed by needs: the program's TrimSeries. -/
import Derived.Test.YtaekngadfajcaaaGreatRTrb
import Derived.Test.YtaekngadfajcaaaGreatRXg
namespace Go.Proofs.YtaekngadfajcaaaGreat.Trm
open Go.RowKit
open Go.Proofs.YtaekngadfajcaaaGreat.Lab (Lb HasL OfV GoodP)
open Go.Proofs.YtaekngadfajcaaaGreat.Smp (Sm HasS In64 ret_bool)
open Go.Proofs.YtaekngadfajcaaaGreat.Pat (Mt HasM goodM allM FitM)
open Go.Proofs.YtaekngadfajcaaaGreat.Srs (Q HasQ Vf gdQ GoodQ q0 GG box_gg OwnO Own2 OwnL FitQ SmlQ infoQ' own_form' own_base own_below named_ne good_goodP blk cl flat flat_append two_new gdQ_iff pl)
open Go.Proofs.YtaekngadfajcaaaGreat.Ned (T HasT t0)

/-- A series in its box, needs; what was there is as it was. -/
abbrev TS (w z : World) (q : Q) (b o B : Nat) (an : Option Addr) (ts : List T) (x : World) : Prop := GG w q q b o B x ∧ HasT x an ts ∧ Below z.heap.size z x
theorem TS.below {w z : World} {q : Q} {b o B : Nat} {an : Option Addr} {ts : List T} {x y : World} (h : TS w z q b o B an ts x) (hb : Below x.heap.size x y) : TS w z q b o B an ts y := ⟨GG.below h.1 hb, h.2.1.below hb, h.2.2.trans (hb.mono h.2.2.size)⟩
theorem TS.drew {w z : World} {q : Q} {b o B : Nat} {an : Option Addr} {ts : List T} {x : World} (h : TS w z q b o B an ts x) : TS w z q b o B an ts x.drew := h.below (Below.refl _ x).drew
theorem TS.needs {w z : World} {q : Q} {b o B : Nat} {an : Option Addr} {ts : List T} {x : World} (h : TS w z q b o B an ts x) : HasT x an ts := h.2.1
theorem TS.lab {w z : World} {q : Q} {b o B : Nat} {an : Option Addr} {ts : List T} {x : World} (h : TS w z q b o B an ts x) : HasL x q.a q.l := GG.t1 h.1
theorem TS.smp {w z : World} {q : Q} {b o B : Nat} {an : Option Addr} {ts : List T} {x : World} (h : TS w z q b o B an ts x) : HasS x q.b q.s := GG.t2 h.1
theorem cov_eq (val : ByteArray → ByteArray) (ps : List Ned.Pl) (l : List Sm) : (l.filter fun s => (spn val ps).any fun p => hasB p s.1) = trS val ps l := by
  unfold trS
  congr 1
  funext s
  exact any_spn val ps s.1
theorem sel_len {R : List Q} {L : List Srs.Pl} (h : R.map pl = L) : R.length = L.length := by rw [← h]; simp

set_option maxHeartbeats 8000000 in
set_option maxRecDepth 100000 in
theorem f9 (val : Vf) (hv : ∀ ls x, OfV ls x (val ls x)) (a an : Option Addr) (n c nn cn : Nat) (qs : List Q) (ts : List T) (w : World) (hn : qs.length = n) (hnn : ts.length = nn) (hmax : n ≤ maxLen) (hnm : nn ≤ 1048576) (hr : HasQ w a qs) (hrn : HasT w an ts) (hf : FitQ qs) (hz : SmlQ qs) (hfn : Ned.FitT ts) :
    Calls Tryz.prog 9 #[.slice a n c, .slice an nn cn] w fun e w' => ∃ a' m' c' R, e = .returned (.slice a' m' c') ∧ OwnO w.heap.size a' m' c' R w' ∧ R.map pl = trF val qs (ts.map Ned.pl) ∧ Below w.heap.size w w' := by
  obtain ⟨i0, hi, hz0, hz1, hz2⟩ := info_parts infoQ'
  have HN := hid hn
  have HNN := hid hnn
  have HMX := hid hmax
  have HR := hid hr
  have HRN := hid hrn
  have HF := hid hf
  have HZ := hid hz
  have HFN := hid hfn
  have HV := hid hv
  clear hn hnn hr hrn hf hz hfn hv hmax
  cases hgq : gdQ qs
  · have HE : Hid (trF val qs (ts.map Ned.pl) = []) := if_neg fun h => by rw [hgq] at h; cases h.1
    go_enter Tryz.func9, Tryz.ntmps9
    go_wp2_with fail
    refine (Srs.f22 a n c qs _ HN.out HMX.out HR.out HF.out HZ.out).mono ?_
    rw [hgq]
    rintro e w1 ⟨rfl, hb1⟩
    have HX1 := hid hb1
    clear hb1
    go_wp2
    go_ret
    exact ⟨none, 0, 0, [], rfl, OwnO.nil _ _, HE.out.symm, HX1.out⟩
  cases hgn : gdN (ts.map Ned.pl)
  · have HE : Hid (trF val qs (ts.map Ned.pl) = []) := if_neg fun h => by rw [hgn] at h; cases h.2
    go_enter Tryz.func9, Tryz.ntmps9
    go_wp2_with fail
    refine (Srs.f22 a n c qs _ HN.out HMX.out HR.out HF.out HZ.out).mono ?_
    rw [hgq]
    rintro e w1 ⟨rfl, hb1⟩
    have HX1 := hid hb1
    clear hb1
    go_wp2_with fail
    refine (f23 an nn cn ts _ HNN.out hnm (HRN.out.below HX1.out) HFN.out).mono ?_
    rw [hgn]
    rintro e w2 ⟨rfl, hb2⟩
    have HX2 := hid (HX1.out.trans (hb2.mono HX1.out.size))
    clear hb2
    go_wp2
    go_ret
    exact ⟨none, 0, 0, [], rfl, OwnO.nil _ _, HE.out.symm, HX2.out⟩
  have HE : Hid (trF val qs (ts.map Ned.pl) = trL val (ts.map Ned.pl) qs qs.length) := if_pos ⟨hgq, hgn⟩
  have HG : Hid (GoodQ qs) := gdQ_iff.1 hgq
  have HGN := hid hgn
  have h200 : n ≤ 200 := by rw [← HN.out]; exact HG.out.1
  have h60 : (ts.map Ned.pl).length ≤ 60 := gdN_len hgn
  obtain ⟨ps, hps⟩ : ∃ ps, ps = ts.map Ned.pl := ⟨_, rfl⟩
  have HPS := hid hps
  go_enter Tryz.func9, Tryz.ntmps9
  go_wp2_with fail
  refine (Srs.f22 a n c qs _ HN.out HMX.out HR.out HF.out HZ.out).mono ?_
  rw [hgq]
  rintro e w1 ⟨rfl, hb1⟩
  have HX1 := hid hb1
  clear hb1
  go_wp2_with fail
  refine (f23 an nn cn ts _ HNN.out hnm (HRN.out.below HX1.out) HFN.out).mono ?_
  rw [hgn]
  rintro e w2 ⟨rfl, hb2⟩
  have HX2 := hid (HX1.out.trans (hb2.mono HX1.out.size))
  rw [← hps] at h60 HE
  clear hb2 hgq hgn hps HX1
  go_wp2
  go_loopw [5, 19] (fun so si wr => ∃ (k m c' : Nat) (a' : Option Addr) (R : List Q), k ≤ n ∧ si = .int .i64 k ∧ so = .slice a' m c' ∧ Hid (OwnO w.heap.size a' m c' R wr) ∧ Hid (R.map pl = trL val ps qs k) ∧ Hid (Below w.heap.size w wr)) (fun _ si _ => n - (intOf si).toNat)
  case atStart => exact ⟨0, 0, 0, none, [], Nat.zero_le _, rfl, rfl, OwnO.nil _ _, rfl, HX2.out⟩
  case round =>
    clear HX2
    obtain ⟨k, m, c', a', R, hk, rfl, rfl, HO, HS, HX⟩ := hrel
    by_cases hlt : k < n
    rotate_left
    · obtain rfl : k = n := by omega
      go_wp2
      go_ret
      exact ⟨a', m, c', R, rfl, HO.out, by rw [← HPS.out, HE.out, HS.out, HN.out], HX.out⟩
    obtain ⟨b, off, rfl, hbl, c0, c1, t1, t2⟩ := (HR.out.below HX.out).at2 k (by rw [HN.out]; exact hlt)
    have HQ := hid (HG.out.2 k (by rw [HN.out]; exact hlt)).1
    have hm : m ≤ 200 := by have := HO.out.len; have := sel_len HS.out; have := trL_len val ps qs k; omega
    have HSl : Hid (trL val ps qs (k + 1) = trL val ps qs k ++ hit val ps (pl (qs.getD k q0))) := rfl
    generalize qs.getD k q0 = q at *
    have HGp := hid (good_goodP HQ.out.1.1)
    have HSp : Hid (Smp.GoodP q.s) := hid (of_decide_eq_true HQ.out.2.1)
    have HNe := hid (named_ne HQ.out.1)
    simp only [pl] at HGp HNe
    have HG1 := hid (box_gg (w := w) (q := q) (p := q) c0 t1 t2 t1 hbl HX.out)
    have HW0 := hid ((Below.refl wr.heap.size wr).alloc (Nat.le_refl _) (.cells #[.slice q.a q.l.length q.c, .slice q.b q.s.length q.d] 53))
    have HT1 : Hid (TS w wr q b (off + k * 2) wr.heap.size an ts (wr.alloc (.cells #[.slice q.a q.l.length q.c, .slice q.b q.s.length q.d] 53))) := ⟨HG1.out, HRN.out.below HG1.out.bel, HW0.out⟩
    have hs2000 : q.s.length ≤ 1048576 := by have := HSp.out.1; omega
    have HLN : Hid ((spn (val q.l) (ts.map Ned.pl)).length ≤ 1000) := by
      unfold Hid
      have := spn_len (val q.l) (ts.map Ned.pl)
      rw [← HPS.out] at this ⊢
      omega
    clear t1 t2 hbl HG1 HW0
    go_wp2_with fail
    go_region_held3 (fun x => TS w wr q b (off + k * 2) wr.heap.size an ts x) (first | exact HT1.out.drew | assumption) (first | (go_at_call 25; refine (f25 val an q.a nn cn q.c ts q.l _ HNN.out HGN.out HQ.out.1.1 (TS.needs (by assumption)) (TS.lab (by assumption)) (HV.out q.l)).mono ?_; rintro e w2 ⟨v2, rfl, ho2, hb2⟩; obtain ⟨a2, c2, hv2⟩ := Spn.own_form ho2; subst hv2; have hs2 := TS.below (by assumption) hb2; clear hb2) | (go_at_call 24; refine (f24 q.b a2 q.d _ c2 q.s _ _ hs2000 rfl HLN.out (TS.smp (by assumption)) (Spn.Own.has ho2).2).mono ?_; rintro e w3 ⟨v3, rfl, ho3, hb3⟩; have hs3 := TS.below (by assumption) hb3; clear hb3))
    have HS3 := hid hs3
    have HOS : Hid (Smp.Own w3 wr.heap.size v3 (trS (val q.l) ps q.s)) := by
      have h3 := Smp.Own.mono ho3 hs2.2.2.size
      rw [cov_eq, ← HPS.out] at h3
      exact h3
    clear hs2 hs3 ho2 ho3 HT1
    obtain ⟨e0, e1, _⟩ := id HS3.out.1
    have HW3 := hid HS3.out.2.2
    have HG3 := hid HS3.out.1
    by_cases hc : trS (val q.l) ps q.s = []
    · have HE2 : Hid (trL val ps qs (k + 1) = trL val ps qs k) := by unfold Hid; rw [HSl.out, hit_no hc, List.append_nil]
      have HO2 := hid (HO.out.below HW3.out)
      have HX2 := hid HG3.out.bel
      rw [hc] at HOS
      obtain ⟨a3, c3, hv3⟩ := Smp.own_form HOS.out
      have hv3' : v3 = .slice a3 0 c3 := hv3
      clear hv3
      subst hv3'
      go_wp2
      go_roundw
      case rel => exact ⟨k + 1, m, c', a', R, by omega, by go_num, rfl, HO2.out, by unfold Hid; rw [HE2.out]; exact HS.out, HX2.out⟩
      case measure => simp [intOf]; omega
    have hpos : 0 < (trS (val q.l) ps q.s).length := List.length_pos_iff.2 hc
    have HE3 : Hid (trL val ps qs (k + 1) = trL val ps qs k ++ [(q.l, trS (val q.l) ps q.s)]) := by unfold Hid; rw [HSl.out]; exact congrArg _ (hit_yes hc)
    have hCl : (trS (val q.l) ps q.s).length ≤ 1048576 := Nat.le_trans (trS_len _ _ _) hs2000
    obtain ⟨gc, c2, rfl⟩ := own_form' HOS.out hpos
    clear hc
    generalize trS (val q.l) ps q.s = C at *
    have hpi : (0 : Int) < (C.length : Int) := by omega
    have hgc : wr.heap.size ≤ gc ∧ gc < w3.heap.size := HOS.out.lt gc rfl
    obtain ⟨bl, ol, hql⟩ : ∃ b o, q.a = some ⟨b, o, none⟩ := by
      rcases GG.t1 HG3.out with h | ⟨b, o, h, _⟩
      · exact absurd h HNe.out
      · exact ⟨b, o, h⟩
    have HT3 := hid (GG.t1 HG3.out)
    have hll : q.l.length ≤ 20 := HGp.out.1
    have HCL : Hid (∀ wz, HasL wz q.a q.l → Calls Tryz.prog 26 #[.slice q.a q.l.length q.c] wz fun e w' => ∃ v', e = .returned v' ∧ OwnL w' wz.heap.size v' q.l ∧ Below wz.heap.size wz w') := fun wz hz => by
      rw [hql] at hz ⊢
      exact Srs.f26 bl ol q.c q.l wz (by omega) hz
    clear hql
    have hlp : 0 < q.l.length := List.length_pos_iff.2 HNe.out
    go_wp2_with fail
    refine (HCL.out _ HT3.out).mono ?_
    rintro e w4 ⟨v4, rfl, ho4, hb4⟩
    have HG4 := hid (GG.below HG3.out hb4)
    have HW4 := hid (HW3.out.trans (hb4.mono HW3.out.size))
    obtain ⟨gl, cl4, rfl⟩ := own_form' ho4 hlp
    have HL4 : Hid (OwnL w4 wr.heap.size (.slice (some ⟨gl, 0, none⟩) q.l.length cl4) q.l) := own_base ho4 HW3.out.size
    have hgl : w3.heap.size ≤ gl := (ho4.lt gl rfl).1
    have HV4 := hid (HOS.out.below hb4)
    clear ho4 hb4 HG3 HT3 e0 e1 HOS HS3
    have hne : gl ≠ gc := by omega
    obtain ⟨q', hq'⟩ : ∃ q' : Q, q' = ⟨q.l, some ⟨gl, 0, none⟩, cl4, C, some ⟨gc, 0, none⟩, c2⟩ := ⟨_, rfl⟩
    have HQ4 : Hid (Own2 w.heap.size q' w4 ∧ wr.heap.size ≤ blk q'.a ∧ wr.heap.size ≤ blk q'.b ∧ pl q' = (q.l, C) ∧ cl q' = [.slice (some ⟨gl, 0, none⟩) q.l.length cl4, .slice (some ⟨gc, 0, none⟩) C.length c2]) := by
      rw [hq']
      exact ⟨⟨rfl, rfl, own_base HL4.out HX.out.size, own_base HV4.out HX.out.size, hne⟩, Nat.le_trans HW3.out.size hgl, hgc.1, rfl, rfl⟩
    clear hq' HL4 HV4
    have HO4 := hid (HO.out.below HW4.out)
    go_wp2_with (at_builtin; refine wpList_append_own_at _ rfl (.tmp 33) (.tmp 39) 26 rfl w.heap.size 53 i0 (.agg #[.slice none 0 0, .slice none 0 0]) 2 48 Tryz.underlying26 hi hz0 hz1 hz2 rfl (by decide) _ _ _ rfl (HO4.out.row.alloc _) ⟨w4.heap.size, 0, none⟩ 1 1 [.slice (some ⟨gl, 0, none⟩) q.l.length cl4, .slice (some ⟨gc, 0, none⟩) C.length c2] rfl rfl ?d1 ?d2 ?d3 ?d4 ?d5 ?_)
    case d1 => first | exact two_new w4 _ _ _ | exact fun j u h => h
    case d2 => first | (intro u hu; simp at hu; rcases hu with rfl | rfl <;> rfl) | (refine ⟨?_, ?_⟩ <;> rfl) | rfl
    case d3 => unfold maxLen; omega
    case d4 => omega
    case d5 => have := HG4.out.bel.size; simp; omega
    intro v6 w6 hown6 hgr6 _ hat6
    obtain ⟨a6, c6, rfl⟩ := Smp.own_form hown6
    have HX6 := hid ((HG4.out.bel.alloc HG4.out.bel.size (.cells #[.slice (some ⟨gl, 0, none⟩) q.l.length cl4, .slice (some ⟨gc, 0, none⟩) C.length c2] 53)).grown hgr6 (by have := HG4.out.bel.size; simp; omega) (fun j hj => (HO4.out.row.lt j hj).1))
    have HO6 : Hid (OwnO w.heap.size a6 (m + 1) c6 (R ++ [q']) w6) := by
      have hba := (Below.refl w4.heap.size w4).alloc (Nat.le_refl _) (.cells #[.slice (some ⟨gl, 0, none⟩) q.l.length cl4, .slice (some ⟨gc, 0, none⟩) C.length c2] 53)
      refine HO.out.push (HW4.out.trans (hba.mono HW4.out.size)) (HQ4.out.1.below hba) HQ4.out.2.1 HQ4.out.2.2.1 hgr6 ?_ (by rw [World.size_alloc]; exact hat6)
      have e : flat (R ++ [q']) = flat R ++ [.slice (some ⟨gl, 0, none⟩) q.l.length cl4, .slice (some ⟨gc, 0, none⟩) C.length c2] := by
        rw [flat_append]
        show flat R ++ (cl q' ++ []) = _
        rw [HQ4.out.2.2.2.2, List.append_nil]
      rw [e]
      exact hown6
    have HS6 : Hid ((R ++ [q']).map pl = trL val ps qs (k + 1)) := by unfold Hid; rw [HE3.out, List.map_append, HS.out, List.map_singleton, HQ4.out.2.2.2.1]
    clear hown6 hgr6 hat6
    go_wp2
    go_roundw
    case rel => exact ⟨k + 1, m + 1, c6, a6, R ++ [q'], by omega, by go_num, rfl, HO6.out, HS6.out, HX6.out⟩
    case measure => simp [intOf]; omega
end Go.Proofs.YtaekngadfajcaaaGreat.Trm
