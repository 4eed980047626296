/- An alternative of more than one run asked about a text. -/
import Derived.Test.YtpobpanmkdjkjaaPc
namespace Go.Proofs.Ytpobpanmkdjkjaa.Pat
open Go.RowKit

theorem wr64 {n : Int} (h1 : -9223372036854775808 ≤ n) (h2 : n ≤ 9223372036854775807) : IntKind.i64.wrap n = n := by rw [IntKind.wrap_i64]; omega
theorem info9 : (Try.prog.info? 9).map (fun i => (i.zero, i.size, i.bytes)) = some (some (.string ByteArray.empty), 1, 16) := by kernel_rfl
theorem map_app {o : Option (List (List UInt8))} {ps : List (List UInt8)} {q : List UInt8} : ((o.map fun t => q :: t).map fun t => ps ++ t) = o.map fun t => (ps ++ [q]) ++ t := by
  cases o <;> simp
theorem ext_take (s : ByteArray) (E : Nat) : (s.extract 0 E).data.toList = s.data.toList.take E := by
  rw [Lib.extract_data]; simp
theorem ext_size_le (s : ByteArray) (a b : Nat) (h : s.size ≤ 1000) : (s.extract a b).size ≤ 1000 := by rw [ByteArray.size_extract]; omega

set_option maxRecDepth 100000 in
set_option maxHeartbeats 4000000 in
theorem f73b (S : Blk) (v : Value) (r l : List Int) (ms : List (List Int)) (s : ByteArray) (w : World) (h : AltW S w v (r :: (ms ++ [l]))) (hS : ∀ k, S k → k < w.heap.size) (hrun : ∀ x ∈ r :: (ms ++ [l]), Run x) (hr : ∀ x ∈ r :: (ms ++ [l]), x.length ≤ 1000) (hm : ms.length ≤ 1000) (hs : s.size ≤ 1000) :
    Calls Try.prog 73 #[v, .string s] w (PartsR (partsI (r :: (ms ++ [l])) s.data.toList) w) := by
  obtain ⟨i0, hi, hz0, hz1, hz2⟩ := info_parts info9
  have RR : Run r := hrun r (by simp)
  have RM : Hid (∀ x ∈ ms, Run x) := fun x hx => hrun x (by simp [hx])
  have RL : Run l := hrun l (by simp)
  have LM : Hid (∀ x ∈ ms, x.length ≤ 1000) := fun x hx => hr x (by simp [hx])
  obtain ⟨vs, h1, h2, h3⟩ := h
  obtain ⟨u, hu, hR⟩ := h3 0 r rfl
  obtain ⟨ul, hul, hRl⟩ := h3 (ms.length + 1) l (by simp)
  obtain ⟨ar, cr, rfl⟩ : ∃ a c, u = .slice a r.length c := by obtain ⟨_, h1, _⟩ := hR; exact own_form h1
  obtain ⟨al, cl, rfl⟩ : ∃ a c, ul = .slice a l.length c := by obtain ⟨_, h1, _⟩ := hRl; exact own_form h1
  have HM : Hid (∀ (i : Nat) (q : List Int), ms[i]? = some q → ∃ u, vs[i + 1]? = some u ∧ RunW S w u q) := by
    intro i q hq
    refine h3 (i + 1) q ?_
    have hlt := (List.getElem?_eq_some_iff.1 hq).1
    rw [List.getElem?_cons_succ, List.getElem?_append_left hlt]; exact hq
  obtain ⟨k, hk⟩ : ∃ k, k = ms.length + 1 := ⟨_, rfl⟩
  have hlen : (r :: (ms ++ [l])).length = k + 1 := by simp; omega
  rw [hlen] at h1
  rcases h1.2 with ⟨_, h0⟩ | ⟨g, cap, cur, hv, _, _, hcap, _⟩
  · omega
  subst hv
  have c0 := (h1.cellAt 0 (by omega)).trans (show vs[0]? = some _ from hu)
  have c1 := (h1.cellAt k (by omega)).trans (show vs[k]? = some _ from by rw [hk]; exact hul)
  have HC : Hid (CC w g 0 k (.slice ar r.length cr) (.slice al l.length cl) w) := ⟨c0, c1, Below.refl _ _, fun _ _ => rfl⟩
  have HO := hid h1
  have HF := hid (f83 S _ r s w.drew (hR.agree (fun _ _ => rfl)) (hr r (by simp)) (by unfold maxLen; omega))
  have HG := hid (fun (E : Nat) => f83 S _ l (s.extract E s.size) w.drew (hRl.agree (fun _ _ => rfl)) (hr l (by simp)) (ext_le s E hs))
  have HL : Hid (s.data.toList.length = s.size) := by unfold Hid; simp
  have HNO := hid (partsI_no (ms := ms) (s := s.data.toList) RR RM.out RL)
  have HYES := hid (partsI_yes (ms := ms) (s := s.data.toList) RR RM.out RL)
  have hr0 := hr r (by simp)
  have hl0 := hr l (by simp)
  obtain ⟨n, hn⟩ : ∃ n, n = r.length := ⟨_, rfl⟩
  obtain ⟨nl, hnl⟩ : ∃ nl, nl = l.length := ⟨_, rfl⟩
  have HN := hid hn
  have HNL := hid hnl
  have HK := hid hk
  have HSS := hid hS
  rw [← hn] at HC HF hr0
  rw [← hnl] at HC HG hl0
  have hk1 : 1 ≤ k := by omega
  have hk2 : k ≤ 1001 := by omega
  clear h1 h2 h3 hu hul hR hRl c0 c1 hn hnl hk hlen hr hrun hS RR RL
  have q1 : IntKind.i64.wrap (((k + 1 : Nat) : Int) - 1) = (k : Int) := by rw [show ((k + 1 : Nat) : Int) - 1 = (k : Int) from by omega]; exact wr64 (by omega) (by omega)
  have q2 : IntKind.i64.wrap ((k : Int) + 1 - 1) = (k : Int) := by rw [show (k : Int) + 1 - 1 = (k : Int) from by omega]; exact wr64 (by omega) (by omega)
  have q3 : IntKind.i64.wrap (k : Int) = (k : Int) := wr64 (by omega) (by omega)
  have j1 : (0 : Int) ≤ (k : Int) := by omega
  have j2 : (k : Int) < (k : Int) + 1 := by omega
  by_cases hroom : n + nl ≤ s.size
  · obtain ⟨E, hE⟩ : ∃ E, E + nl = s.size := ⟨s.size - nl, by omega⟩
    have hE1 : (s.size : Int) - (nl : Int) = (E : Int) := by omega
    have hE2 : IntKind.i64.wrap ((s.size : Int) - (nl : Int)) = (E : Int) := by rw [hE1]; exact wr64 (by omega) (by omega)
    have hE3 : n ≤ E := by omega
    have hE4 : (E : Int) ≤ (s.size : Int) := by omega
    have hE5 : (0 : Int) ≤ (E : Int) := by omega
    have hE6 : ¬ (E : Int) < (n : Int) := by omega
    have HE : Hid (s.data.toList.length - l.length = E) := by unfold Hid; rw [HL.out, ← HNL.out]; omega
    have hEs : E ≤ s.size := by omega
    have HE0 := hid hE
    clear hE
    go_enter Try.func73, Try.ntmps73
    go_wp2_with fail
    go_region_held3 (fun w' => CC w g 0 k (.slice ar n cr) (.slice al nl cl) w') (first | exact HC.out.drew | exact CC.drew (by assumption) | assumption) (first | fail)
    have HB := hid (HC.out.drew.2.2.1)
    have HAg := hid (HC.out.drew.2.2.2)
    clear q1 q2
    go_wp2_with fail
    refine HF.out.mono ?_
    rintro e w' ⟨rfl, hw⟩
    have hw2 := hw.symm
    subst hw2
    clear hw
    by_cases hp : pre r s.data.toList = true
    · rw [hp]
      have HP := hid hp
      clear hp
      go_wp2_with fail
      refine (HG.out E).mono ?_
      rintro e w' ⟨rfl, hw⟩
      have hw2 := hw.symm
      subst hw2
      clear hw
      rw [ext_list]
      by_cases hpl : pre l (s.data.toList.drop E) = true
      · rw [hpl]
        have HY : Hid (partsI (r :: (ms ++ [l])) s.data.toList = goM ms l (s.data.toList.drop n)) := by
          unfold Hid
          rw [HN.out]
          exact HYES.out (by rw [HL.out, ← HN.out, ← HNL.out]; exact hroom) HP.out (by rw [HE.out]; exact hpl)
        clear hpl
        go_wp2_with (at_make; refine wpList_make_own _ rfl _ _ 27 rfl w.heap.size 9 i0 (.string ByteArray.empty) 1 Try.underlying27 hi hz0 hz1 _ _ _ k rfl rfl rfl ?b2 ?b3 ?b4 ?_)
        case b2 => rw [hz2]; omega
        case b3 => unfold maxLen; omega
        case b4 => exact HB.out.size
        intro w2 hown2 hgrow2
        have HX2 := hid (HB.out.grown hgrow2 HB.out.size (fun k h => by cases h))
        have HO2 := hid hown2
        clear hown2 hgrow2
        go_wp2
        have HLT : Hid (g < w.heap.size) := (HO.out.lt g rfl).2
        go_loopw [8, 10, 70] (fun sa sp si wr => ∃ (i t : Nat) (ps : List (List UInt8)) (a : Option Addr) (c : Nat), sa = .int .i64 t ∧ sp = .slice a ps.length c ∧ si = .int .i64 i ∧ i ≤ k - 1 ∧ ps.length ≤ i ∧ t ≤ E ∧ Hid (partsI (r :: (ms ++ [l])) s.data.toList = (goM (ms.drop i) l (s.data.toList.drop t)).map fun q => ps ++ q) ∧ Hid (wr.ownsRow w.heap.size 9 1 (.slice a ps.length c) ps.length (txts ps)) ∧ Hid (Below w.heap.size w wr)) (fun _ _ si _ => k - (intOf si).toNat)
        case atStart => exact ⟨0, n, [], _, k, rfl, rfl, rfl, Nat.zero_le _, Nat.le_refl _, hE3, by unfold Hid; rw [HY.out]; simp, HO2, HX2⟩
        case round =>
          obtain ⟨i, t, ps, a, c, rfl, rfl, rfl, hi1, hps, htE, HT, HPS, HBr⟩ := hrel
          have HTL : Hid (t + l.length ≤ s.data.toList.length) := by unfold Hid; rw [HL.out, ← HNL.out]; have := HE0.out; omega
          by_cases hlt : i < k - 1
          · have hq : ms[i]? = some (ms[i]'(by have := HK.out; omega)) := List.getElem?_eq_getElem _
            have hql : (ms[i]'(by have := HK.out; omega)).length ≤ 1000 := LM.out _ (List.getElem_mem _)
            have HD : Hid (ms.drop i = (ms[i]'(by have := HK.out; omega)) :: ms.drop (i + 1)) := List.drop_eq_getElem_cons _
            generalize (ms[i]'(by have := HK.out; omega)) = q at hq hql HD
            obtain ⟨u, hu, hU⟩ := HM.out i q hq
            obtain ⟨au, cu, rfl⟩ : ∃ a c, u = .slice a q.length c := by obtain ⟨_, h1, _⟩ := hU; exact own_form h1
            have cc : wr.cell? ⟨g, 1 + i, none⟩ = some (.slice au q.length cu) := (HBr.out.cell (p := ⟨g, 1 + i, none⟩) HLT.out).trans ((HO.out.cellAt (1 + i) (by omega)).trans (by rw [Nat.add_comm]; exact hu))
            have HF2 := hid (f84 S _ q (s.extract 0 E) t wr (hU.agree (Agree.below HSS.out HBr.out)) hql (ext_size_le s 0 E hs) (by omega))
            have i1 : (i : Int) < ((k - 1 : Nat) : Int) := by omega
            have i2 : (0 : Int) ≤ (t : Int) := by omega
            obtain ⟨nq, hnq⟩ : ∃ nq, nq = q.length := ⟨_, rfl⟩
            have HNQ := hid hnq
            rw [← hnq] at cc hql HF2
            clear hq hu hU hnq
            go_wp2_with fail
            refine HF2.out.mono ?_
            rintro e w' ⟨⟨kk, rfl, hfind⟩, hw⟩
            have hw2 := hw.symm
            subst hw2
            clear hw
            rw [ext_take, ← HE.out] at hfind
            cases kk with
            | none =>
              have HR0 : Hid (partsI (r :: (ms ++ [l])) s.data.toList = none) := by unfold Hid; rw [HT.out, HD.out, goM_none HTL.out hfind]; rfl
              clear hfind
              simp only [optI]
              go_wp2
              go_ret2
              exact ⟨HBr.out, .inl ⟨HR0.out, rfl⟩⟩
            | some e0 =>
              have hb1 := hfind.1
              have hb2 := hfind.2.1
              have HR0 : Hid (partsI (r :: (ms ++ [l])) s.data.toList = (goM (ms.drop (i + 1)) l (s.data.toList.drop (e0 + nq))).map fun t' => (ps ++ [(s.data.toList.drop t).take (e0 - t)]) ++ t') := by
                unfold Hid; rw [HT.out, HD.out, goM_some HTL.out hfind, map_app, ← HNQ.out]
              have hb3 : e0 + nq ≤ E := by
                rw [HE.out, ← HNQ.out] at hb2
                simp only [List.length_take] at hb2
                omega
              clear hfind hb2
              simp only [optI]
              have j3 : (t : Int) ≤ (e0 : Int) := by omega
              have j4 : (e0 : Int) ≤ (s.size : Int) := by omega
              have HX := hid (ext_mkS s t e0)
              go_wp2_with (at_builtin; refine wpList_append_own _ rfl (.tmp 82) (.tmp 87) 27 rfl w.heap.size 9 i0 (.string ByteArray.empty) 1 16 Try.underlying27 hi hz0 hz1 hz2 rfl (by decide) _ _ _ rfl (HPS.out.alloc _) ⟨wr.heap.size, 0, none⟩ 1 1 [.string (s.extract t e0)] rfl rfl ?d1 ?d2 ?d3 ?d4 ?d5 ?_)
              case d1 => exact one_row _ _ _
              case d2 => intro u hu; simp at hu; subst hu; rfl
              case d3 => unfold maxLen; omega
              case d4 => omega
              case d5 => have := HBr.out.size; simp; omega
              intro v3 w3 hown3 hgr3 _
              obtain ⟨a3, c3, rfl⟩ := own_form hown3
              have HB3 := hid ((HBr.out.alloc HBr.out.size (.cells #[.string (s.extract t e0)] 9)).grown hgr3 (by have := HBr.out.size; simp; omega) (fun k hk => (HPS.out.lt k hk).1))
              have HO3 : Hid (w3.ownsRow w.heap.size 9 1 (.slice a3 (ps ++ [(s.data.toList.drop t).take (e0 - t)]).length c3) (ps ++ [(s.data.toList.drop t).take (e0 - t)]).length (txts (ps ++ [(s.data.toList.drop t).take (e0 - t)]))) := by
                unfold Hid; rw [txts_snoc, ← HX.out, List.length_append]; exact hown3
              clear hown3 hgr3
              go_wp2
              go_roundw
              case rel => exact ⟨i + 1, e0 + nq, _, a3, c3, by go_num, by simp, by go_num, by omega, by simp; omega, hb3, HR0, HO3, HB3⟩
              case measure => simp [intOf]; omega
          · have hik : i = k - 1 := by omega
            have HD : Hid (ms.drop i = []) := by
              unfold Hid
              rw [List.drop_eq_nil_of_le (by have := HK.out; omega)]
            have HR0 : Hid (partsI (r :: (ms ++ [l])) s.data.toList = some (ps ++ [(s.data.toList.drop t).take (E - t)])) := by
              unfold Hid
              rw [HT.out, HD.out]
              simp only [goM, Option.map_some]
              rw [List.length_drop, show s.data.toList.length - t - l.length = E - t from by have := HE.out; have := HTL.out; omega]
            have j3 : (t : Int) ≤ (E : Int) := by omega
            have i2 : (0 : Int) ≤ (t : Int) := by omega
            have i1 : ¬ (i : Int) < ((k - 1 : Nat) : Int) := by omega
            have HX := hid (ext_mkS s t E)
            clear hik
            go_wp2_with (at_builtin; refine wpList_append_own _ rfl (.tmp 94) (.tmp 99) 27 rfl w.heap.size 9 i0 (.string ByteArray.empty) 1 16 Try.underlying27 hi hz0 hz1 hz2 rfl (by decide) _ _ _ rfl (HPS.out.alloc _) ⟨wr.heap.size, 0, none⟩ 1 1 [.string (s.extract t E)] rfl rfl ?d1 ?d2 ?d3 ?d4 ?d5 ?_)
            case d2 => rfl
            case d3 => unfold maxLen; omega
            case d4 => omega
            case d5 => have := HBr.out.size; simp; omega
            intro v3 w3 hown3 hgr3 _
            obtain ⟨a3, c3, rfl⟩ := own_form hown3
            have HB3 := hid ((HBr.out.alloc HBr.out.size (.cells #[.string (s.extract t E)] 9)).grown hgr3 (by have := HBr.out.size; simp; omega) (fun k hk => (HPS.out.lt k hk).1))
            have HO3 : Hid (w3.ownsRow w.heap.size 9 1 (.slice a3 (ps ++ [(s.data.toList.drop t).take (E - t)]).length c3) (ps ++ [(s.data.toList.drop t).take (E - t)]).length (txts (ps ++ [(s.data.toList.drop t).take (E - t)]))) := by
              unfold Hid; rw [txts_snoc, ← HX.out, List.length_append]; exact hown3
            clear hown3 hgr3
            go_wp2
            go_ret2
            exact ⟨HB3.out, .inr ⟨_, a3, c3, HR0.out, by simp, HO3.out⟩⟩
      · have HN0 := hid (HNO.out (fun h => hpl (by have := h.2.2; rw [HE.out] at this; exact this)))
        have hpl' : pre l (s.data.toList.drop E) = false := by simpa using hpl
        rw [hpl']
        clear hpl hpl'
        go_wp2
        go_ret2
        exact ⟨HB.out, .inl ⟨HN0.out, rfl⟩⟩
    · have HN0 := hid (HNO.out (fun h => hp h.2.1))
      have hp' : pre r s.data.toList = false := by simpa using hp
      rw [hp']
      clear hp hp'
      go_wp2
      go_ret2
      exact ⟨HB.out, .inl ⟨HN0.out, rfl⟩⟩
  · have HN0 := hid (HNO.out (fun h => hroom (by have := h.1; rw [HL.out, ← HN.out, ← HNL.out] at this; exact this)))
    have hE2 : IntKind.i64.wrap ((s.size : Int) - (nl : Int)) = (s.size : Int) - (nl : Int) := wr64 (by omega) (by omega)
    have hE3 : (s.size : Int) - (nl : Int) < (n : Int) := by omega
    go_enter Try.func73, Try.ntmps73
    go_wp2_with fail
    go_region_held3 (fun w' => CC w g 0 k (.slice ar n cr) (.slice al nl cl) w') (first | exact HC.out.drew | exact CC.drew (by assumption) | assumption) (first | fail)
    have HB := hid (HC.out.drew.2.2.1)
    go_wp2
    go_ret2
    exact ⟨HB.out, .inl ⟨HN0.out, rfl⟩⟩
end Go.Proofs.Ytpobpanmkdjkjaa.Pat
