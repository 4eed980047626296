/- The model's l11Down, DownSamples. -/
import Derived.Test.YtpbnneelpdacdaaDc
namespace Go.Proofs.Ytpbnneelpdacdaa.Agl
open Go.RowKit Go.Shelf
open Go.Proofs.Ytpbnneelpdacdaa.Smp (Sm HasS goodS)

theorem f61 (t res : Int) (w : World) (h1 : 1 ≤ res) (h2 : res ≤ 1000000) (h3 : 0 ≤ t) (h4 : t ≤ 1000000000000) : Calls Try.prog 61 #[.int .i64 t, .int .i64 res] w fun e w' => e = .returned (.int .i64 (en res t)) ∧ w' = w := by
  have hn0 : res ≠ 0 := by omega
  have e1 : wrap64 (t + res) = t + res := by unfold wrap64; omega
  have e2 : wrap64 (t + res - 1) = t + res - 1 := by unfold wrap64; omega
  have et : (t + res - 1).tdiv res = (t + res - 1) / res := Int.tdiv_eq_ediv_of_nonneg (by omega)
  have a1 := Int.emod_add_mul_ediv (t + res - 1) res
  have a2 := Int.emod_lt_of_pos (t + res - 1) (show 0 < res by omega)
  have a3 := Int.emod_nonneg (t + res - 1) (show res ≠ 0 by omega)
  rw [Int.mul_comm] at a1
  have b1 : 0 ≤ (t + res - 1) / res := Int.ediv_nonneg (by omega) (by omega)
  have b2 : (t + res - 1) / res ≤ t + res - 1 := Int.ediv_le_self _ (by omega)
  have e3 : wrap64 ((t + res - 1) / res) = (t + res - 1) / res := by unfold wrap64; omega
  have e4 : wrap64 ((t + res - 1) / res * res) = (t + res - 1) / res * res := by
    generalize (t + res - 1) / res * res = x at *
    unfold wrap64
    omega
  have HE : Hid (en res t = (t + res - 1) / res * res) := rfl
  clear a1 a2 a3 b1 b2
  go_enter Try.func61, Try.ntmps61
  go_wp2
  go_ret
  exact ⟨ret_int (by rw [HE.out, e4]), rfl⟩
theorem _root_.Go.Proofs.Ytpbnneelpdacdaa.Smp.HasS.at0 {w : World} {b off : Nat} {ls : List Sm} (h : HasS w (some ⟨b, off, none⟩) ls) (i : Nat) (hi : i < ls.length) : w.cell? ⟨b, off + i * 2, none⟩ = some (.int .i64 (ls.getD i Smp.e0).1) ∧ w.cell? ⟨b, off + i * 2 + 1, none⟩ = some (.int .i64 (ls.getD i Smp.e0).2) := by
  rcases h with h | ⟨b', off', h1, h2, h3⟩
  · rw [h] at hi; simp at hi
  · simp only [Option.some.injEq, Addr.mk.injEq, and_true] at h1
    obtain ⟨rfl, rfl⟩ := h1
    exact h3 i hi
theorem form_a {w : World} {base e size n : Nat} {v : Value} {xs : List Value} (h : w.ownsRow base e size v n xs) : ∃ a c, v = .slice a n c := by
  rcases h.2 with ⟨h1, h2⟩ | ⟨g, cap, cur, h1, _⟩
  · exact ⟨none, 0, by rw [h1, h2]⟩
  · exact ⟨_, cap, h1⟩
def msl (v : Value) : Nat := match v with
  | .slice _ n _ => n
  | _ => 0
theorem own_parts {w : World} {base : Nat} {v : Value} {L : List Sm} (h : Smp.Own w base v L) : ∃ a c, v = .slice a L.length c ∧ L.length ≤ c ∧ c ≤ maxLen ∧ HasS w a L := by
  have h' := h
  unfold Smp.Own at h
  rcases h.2 with ⟨h1, h2⟩ | ⟨g, cap, cur, h1, _, _, h3, h4, _⟩
  · have := List.eq_nil_of_length_eq_zero h2
    subst this
    exact ⟨none, 0, h1, Nat.le_refl _, Nat.zero_le _, .inl rfl⟩
  · subst h1
    exact ⟨_, cap, rfl, h3, h4, Smp.HasS.own h⟩
/-- What is known of the real samples. -/
structure Rr (R : List Sm) : Prop where
  len : R.length ≤ 2000
  tm : ∀ p ∈ R, 0 ≤ p.1 ∧ p.1 ≤ 1000000000000
  up : R.Pairwise (fun p q => p.1 < q.1)
  fit : ∀ p ∈ R, Smp.In64 p.2
theorem rr_of {ls : List Sm} (hg : Smp.GoodP ls) (hf : Smp.Fit ls) : Rr (real ls) := by
  refine ⟨Nat.le_trans (List.length_filter_le _ _) hg.1, fun p hp => ?_, (Smp.good_pw hg).filter _, fun p hp => ?_⟩
  · have := Smp.good_mem hg p (List.mem_filter.1 hp).1
    exact this
  · have h1 : p ∈ ls := (List.mem_filter.1 hp).1
    obtain ⟨i, hi, rfl⟩ := List.mem_iff_getElem.1 h1
    have := (hf i).2
    rw [show ls.getD i Smp.e0 = ls[i] by simp [hi]] at this
    exact this
theorem getD_mem {D : List Sm} {i : Nat} (h : i < D.length) : D.getD i Smp.e0 ∈ D := by
  rw [show D.getD i Smp.e0 = D[i] by simp [h]]; exact List.getElem_mem _
/-- The last window is over. -/
def Sep (res : Int) (R : List Sm) (cc : Nat) : Prop := fw (winOf res) ((R.take cc).map one) = [] ∨ ∀ p ∈ R.drop cc, (lst (fw (winOf res) ((R.take cc).map one))).t < p.1
theorem group_next {res E : Int} {R G : List Sm} {cc n : Nat} (hr : Rr R) (h1 : 1 ≤ res) (h2 : res ≤ 1000000) (hs : Sep res R cc) (hc : cc + n ≤ R.length) (hn : 1 ≤ n) (hG : G = (R.drop cc).take n) (hE : E = en res ((R.drop cc).getD 0 Smp.e0).1) (hall : ∀ j, j < n → ((R.drop cc).getD j Smp.e0).1 ≤ E) (hstop : n = (R.drop cc).length ∨ E < ((R.drop cc).getD n Smp.e0).1) :
    fw (winOf res) ((R.take (cc + n)).map one) = fw (winOf res) ((R.take cc).map one) ++ [acc E G G.length] ∧ Sep res R (cc + n) := by
  have hD : (R.drop cc).length = R.length - cc := List.length_drop
  have hGl : G.length = n := by rw [hG, List.length_take]; omega
  have hsub : ∀ p ∈ R.drop cc, p ∈ R := fun p hp => List.mem_of_mem_drop hp
  have hGD : ∀ p ∈ G, p ∈ R.drop cc := fun p hp => by rw [hG] at hp; exact List.mem_of_mem_take hp
  have hup : (R.drop cc).Pairwise (fun p q => p.1 < q.1) := hr.up.sublist (List.drop_sublist _ _)
  have hlo : ∀ j, j < (R.drop cc).length → ((R.drop cc).getD 0 Smp.e0).1 ≤ ((R.drop cc).getD j Smp.e0).1 := by
    intro j hj
    rcases Nat.eq_zero_or_pos j with e | e
    · rw [e]; exact Int.le_refl _
    · have := List.pairwise_iff_getElem.1 hup 0 j (by omega) hj e
      rw [show (R.drop cc).getD 0 Smp.e0 = (R.drop cc)[0] by simp [show 0 < R.length - cc by omega], show (R.drop cc).getD j Smp.e0 = (R.drop cc)[j] by simp [show j < R.length - cc by omega]]
      omega
  have hEn : ∀ p ∈ G, winOf res p.1 = E := by
    intro p hp
    have ht := hr.tm p (hsub p (hGD p hp))
    rw [win_en h1 h2 ht.1 ht.2, hE]
    rw [hG] at hp
    obtain ⟨j, hj, rfl⟩ := List.mem_iff_getElem.1 hp
    have hj' : j < n ∧ j < (R.drop cc).length := by rw [List.length_take] at hj; omega
    have e : ((R.drop cc).take n)[j] = (R.drop cc).getD j Smp.e0 := by rw [List.getElem_take]; simp [show j < R.length - cc by omega]
    rw [e]
    exact en_same h1 (hlo j hj'.2) (by rw [← hE]; exact hall j hj'.1)
  have hM : fw (winOf res) ((R.take cc).map one) = [] ∨ (lst (fw (winOf res) ((R.take cc).map one))).t ≠ E := by
    rcases hs with h | h
    · exact .inl h
    · refine .inr ?_
      have h0 := h _ (getD_mem (D := R.drop cc) (i := 0) (by omega))
      have h3 := en_ge (res := res) (t := ((R.drop cc).getD 0 Smp.e0).1) h1
      rw [← hE] at h3
      omega
  have key := group_more (win := winOf res) (E := E) (pre := R.take cc) (G := G) hM hEn (by rw [hGl]; have := hr.len; omega) (fun p hp => hr.fit p (hsub p (hGD p hp))) (by omega)
  have et : R.take cc ++ G = R.take (cc + n) := by rw [hG, ← List.take_add]
  rw [et] at key
  refine ⟨key.1, .inr ?_⟩
  rw [key.2]
  intro p hp
  rcases hstop with h | h
  · rw [show R.drop (cc + n) = [] from List.drop_eq_nil_of_le (by omega)] at hp
    simp at hp
  · rw [← List.drop_drop] at hp
    obtain ⟨j, hj, rfl⟩ := List.mem_iff_getElem.1 hp
    have hj2 : j < R.length - cc - n := by have := hj; simp at this; omega
    have e : ((R.drop cc).drop n)[j] = (R.drop cc)[n + j]'(by omega) := List.getElem_drop ..
    rw [e]
    have e2 : (R.drop cc).getD n Smp.e0 = (R.drop cc)[n]'(by omega) := by simp [show n < R.length - cc by omega]
    rw [e2] at h
    rcases Nat.eq_zero_or_pos j with e3 | e3
    · subst e3; exact h
    · have := List.pairwise_iff_getElem.1 hup n (n + j) (by omega) (by omega) (by omega)
      omega

set_option maxRecDepth 100000 in
set_option maxHeartbeats 8000000 in
theorem f35 (a : Option Addr) (c : Nat) (res : Int) (ls : List Sm) (w : World) (hmax : ls.length ≤ 1048576) (hr : HasS w a ls) (hg : Smp.GoodP ls) (hs : ResP res) (hfit : Smp.Fit ls) :
    Calls Try.prog 35 #[.slice a ls.length c, .int .i64 res] w fun e w' => ∃ v, e = .returned v ∧ OwnA w' w.heap.size v (fw (winOf res) (ones ls)) ∧ Below w.heap.size w w' := by
  obtain ⟨i0, hi, hz0, hz1, hz2⟩ := info_parts infoA
  have HI := hid (And.intro hi (And.intro hz0 (And.intro hz1 hz2)))
  have HRr := hid (rr_of hg hfit)
  have HRl := hid (Smp.f43 a c ls w hmax hr)
  have HOn : Hid (ones ls = (real ls).map one) := rfl
  obtain ⟨r1, r2⟩ := hs
  clear hi hz0 hz1 hz2 hg hfit hr
  generalize real ls = R at *
  go_enter Try.func35, Try.ntmps35
  go_wp2_with fail
  refine HRl.out.mono ?_
  rintro e w1 ⟨v1, rfl, ho1, hb1⟩
  obtain ⟨a1, c1, hv1, hc1, hm1, hs1⟩ := own_parts ho1
  subst hv1
  have HB1 := hid hb1
  have HS1 := hid hs1
  have hR2 := HRr.out.len
  clear ho1 hb1 hs1 HRl
  go_wp2
  go_loopw [5, 6] (fun so sr wr => ∃ (cc : Nat) (ar : Option Addr) (cr : Nat) (vo : Value), so = vo ∧ cc ≤ R.length ∧ sr = .slice ar (R.drop cc).length cr ∧ (R.drop cc).length ≤ cr ∧ cr ≤ maxLen ∧ Hid (HasS w1 ar (R.drop cc)) ∧ Hid (OwnA wr w1.heap.size vo (fw (winOf res) ((R.take cc).map one))) ∧ Hid (Sep res R cc) ∧ Hid (Below w1.heap.size w1 wr)) (fun _ sr _ => msl sr)
  case atStart => exact ⟨0, a1, c1, _, rfl, Nat.zero_le _, rfl, hc1, hm1, HS1.out, OwnA.nil _ _, .inl rfl, Below.refl _ _⟩
  case round =>
    obtain ⟨cc, ar, cr, vo, hvo, hcc, rfl, hcr, hcm, HS, HO, HSp, HX⟩ := hrel
    have hvo2 := hvo.symm
    clear hvo
    subst hvo2
    have hdl : (R.drop cc).length = R.length - cc := List.length_drop
    by_cases hd : (R.drop cc).length = 0
    · have hcl : cc = R.length := by omega
      have HE : Hid (OwnA wr w1.heap.size vo (fw (winOf res) (R.map one))) := by
        have h := HO.out
        rw [hcl, List.take_of_length_le (Nat.le_refl _)] at h
        exact h
      rw [hd]
      clear hdl hcl HO
      go_wp2
      go_ret
      exact ⟨_, rfl, by rw [HOn.out]; exact HE.out.mono HB1.out.size, HB1.out.trans (HX.out.mono HB1.out.size)⟩
    obtain ⟨b, off, rfl⟩ : ∃ b off, ar = some ⟨b, off, none⟩ := by
      rcases HS.out with h | ⟨b, off, h, _⟩
      · rw [h] at hd; simp at hd
      · exact ⟨b, off, h⟩
    have HGn := hid (fun G n E hc hn hG hE hall hstop => group_next (res := res) (E := E) (R := R) (G := G) (cc := cc) (n := n) HRr.out r1 r2 HSp.out hc hn hG hE hall hstop)
    have HDt : Hid (∀ p ∈ R.drop cc, 0 ≤ p.1 ∧ p.1 ≤ 1000000000000) := fun p hp => HRr.out.tm p (List.mem_of_mem_drop hp)
    have HDr : Hid (∀ n, (R.drop cc).drop n = R.drop (cc + n)) := fun n => List.drop_drop
    generalize hDD : R.drop cc = D at *
    have HDD := hid hDD
    clear hDD
    have t0 := HDt.out _ (getD_mem (D := D) (i := 0) (by omega))
    have HEnd := fun x => hid (f61 (D.getD 0 Smp.e0).1 res x r1 r2 t0.1 t0.2)
    have HGe := hid (en_ge (res := res) (t := (D.getD 0 Smp.e0).1) r1)
    have cD0 := (((HS.out.below HX.out)).at0 0 (by omega)).1
    simp only [Nat.zero_mul, Nat.add_zero] at cD0
    obtain ⟨E, hE⟩ : ∃ E, E = en res (D.getD 0 Smp.e0).1 := ⟨_, rfl⟩
    rw [← hE] at HEnd HGe
    have HEE := hid hE
    have HDl := hid hdl
    clear hE hdl t0
    generalize hT0 : (D.getD 0 Smp.e0).1 = T0 at *
    have HT0 := hid hT0
    clear hT0
    generalize hdn : D.length = d at *
    have HDn := hid hdn
    have hne : ¬ ((d : Int) ≤ 0) := by omega
    have hne2 : (0 : Int) < (d : Int) := by omega
    have hd2 : d ≤ 2000 := by have := HDl.out; omega
    clear hdn
    go_wp2_with (go_at_call 61; refine (HEnd _).out.mono ?_; rintro e w2 ⟨rfl, rfl⟩)
    have hsl : ∀ (j : Nat), j < d → w2.cell? ⟨b, off + j * 2, none⟩ = some (.int .i64 (D.getD j Smp.e0).1) := fun j hj => ((HS.out.below HX.out).at0 j (by rw [HDn.out]; exact hj)).1
    have HCe := hid hsl
    clear hsl cD0
    go_loop [8] (fun si => ∃ i : Nat, i ≤ d ∧ si = .int .i64 i ∧ Hid (∀ j, j < i → (D.getD j Smp.e0).1 ≤ E)) (fun si => d - (intOf si).toNat)
    case atStart => exact ⟨0, Nat.zero_le _, rfl, fun j hj => by omega⟩
    case round =>
      obtain ⟨i, hid', rfl, HAll⟩ := hrel
      by_cases hin : i < d ∧ (D.getD i Smp.e0).1 ≤ E
      · have ce := HCe.out i hin.1
        have HNew : Hid (∀ j, j < i + 1 → (D.getD j Smp.e0).1 ≤ E) := fun j hj => by
          by_cases e : j = i
          · rw [e]; exact hin.2
          · exact HAll.out j (by omega)
        have HLt := hid hin.1
        obtain ⟨h1, h2⟩ := hin
        generalize (D.getD i Smp.e0).1 = x at *
        have i1 : (i : Int) < (d : Int) := by omega
        go_wp2
        go_round
        case rel => exact ⟨i + 1, by have := HLt.out; omega, by go_num, HNew⟩
        case measure => have := HLt.out; simp [intOf]; omega
      have HStop : Hid (i = d ∨ E < (D.getD i Smp.e0).1) := by
        by_cases e : i < d
        · exact .inr (by have : ¬ (D.getD i Smp.e0).1 ≤ E := fun h => hin ⟨e, h⟩; omega)
        · exact .inl (by omega)
      have hi1 : 1 ≤ i := by
        rcases Nat.eq_zero_or_pos i with e | e
        · exfalso
          subst e
          have h0 := HGe.out
          rcases HStop.out with h | h
          · exact hd h.symm
          · have h5 := HT0.out
            rw [h5] at h
            omega
        · exact e
      obtain ⟨G, hG⟩ : ∃ G, G = D.take i := ⟨_, rfl⟩
      have hGl : G.length = i := by rw [hG, List.length_take, HDn.out]; omega
      have HNx := hid (HGn.out G i E (by have := HDl.out; omega) hi1 hG HEE.out HAll.out HStop.out)
      have HGs : Hid (HasS w1 (some ⟨b, off, none⟩) G) := by
        unfold Hid
        rw [hG]
        have h := Smp.has_mid (f := 0) (e := i) HS.out (by rw [HDn.out]; omega)
        simpa using h
      have HAg := hid (f46 b off cr E G w2 (by omega) (by omega) (HGs.out.below HX.out))
      rw [hGl] at HAg HNx
      have HDs : Hid (i < cr → HasS w1 (some ⟨b, off + i * 2, none⟩) (R.drop (cc + i))) := fun _ => by
        rw [← HDr.out]
        have h := Smp.has_mid (f := i) (e := D.length) HS.out (Nat.le_refl _)
        rw [List.take_of_length_le (Nat.le_refl _)] at h
        exact h
      have HDe : Hid ((R.drop (cc + i)).length = d - i) := by unfold Hid; rw [← HDr.out, List.length_drop, HDn.out]
      generalize acc E G i = q at *
      obtain ⟨z0, z1, z2, z3, z4, z5, z6, z7⟩ := q
      simp only [valA] at HAg
      have HOc := HO
      have hfl := fw_len (winOf res) ((R.take cc).map one)
      have hft : ((R.take cc).map one).length ≤ 2000 := by rw [List.length_map, List.length_take]; omega
      generalize fw (winOf res) ((R.take cc).map one) = K at *
      obtain ⟨k, hk⟩ : ∃ k, K.length = k := ⟨_, rfl⟩
      have HK := hid hk
      unfold OwnA at HO
      rw [hk] at HO hfl
      clear hk hGl hG HOc HGn HGe HEnd HCe
      obtain ⟨ao, co, rfl⟩ := form_a HO.out
      have ii1 : (i : Int) ≤ (cr : Int) := by omega
      have ii2 : (i : Int) ≤ (d : Int) := by omega
      by_cases hcase : i < d
      · have ce := ((HS.out.below HX.out).at0 i (by rw [HDn.out]; exact hcase)).1
        have HSt2 : Hid (E < (D.getD i Smp.e0).1) := by exact HStop.out.resolve_left (by omega)
        generalize (D.getD i Smp.e0).1 = x at *
        have hx : ¬ x ≤ E := by have := HSt2.out; omega
        go_wp2_with (first | (go_at_call 46; refine HAg.out.mono ?_; rintro e w4 ⟨rfl, hb4⟩) | (at_builtin; refine wpList_append_own _ rfl (.tmp 35) (.tmp 41) 28 rfl w1.heap.size 33 i0 (.agg #[.int .i64 0, .int .i64 0, .int .i64 0, .int .i64 0, .int .i64 0, .int .i64 0, .int .i64 0, .int .i64 0]) 8 64 Try.underlying28 HI.out.1 HI.out.2.1 HI.out.2.2.1 HI.out.2.2.2 rfl (by decide) _ k _ rfl (World.ownsRow.alloc (own_below HO.out hb4) _) ⟨w4.heap.size, 0, none⟩ 1 1 [.int .i64 z0, .int .i64 z1, .int .i64 z2, .int .i64 z3, .int .i64 z4, .int .i64 z5, .int .i64 z6, .int .i64 z7] rfl rfl ?d1 ?d2 ?d3 ?d4 ?d5 ?_))
        case d1 => exact eight_new w4 (.int .i64 z0) (.int .i64 z1) (.int .i64 z2) (.int .i64 z3) (.int .i64 z4) (.int .i64 z5) (.int .i64 z6) (.int .i64 z7) 33
        case d2 => first | exact ⟨rfl, rfl, rfl, rfl, rfl, rfl, rfl, rfl⟩ | (intro u hu; simp at hu; rcases hu with rfl | rfl | rfl | rfl | rfl | rfl | rfl | rfl <;> rfl)
        case d3 => unfold maxLen; omega
        case d4 => omega
        case d5 => have := HX.out.size; have := hb4.size; simp; omega
        intro v1 w5 hown1 hgr1 _
        have HO5 : Hid (OwnA w5 w1.heap.size v1 (K ++ [⟨z0, z1, z2, z3, z4, z5, z6, z7⟩])) := by unfold Hid OwnA; rw [flat_append, List.length_append, HK.out]; exact hown1
        have hbb := HX.out.trans (hb4.mono HX.out.size)
        have HX5 := hid ((hbb.alloc hbb.size (.cells #[.int .i64 z0, .int .i64 z1, .int .i64 z2, .int .i64 z3, .int .i64 z4, .int .i64 z5, .int .i64 z6, .int .i64 z7] 33)).grown hgr1 (by have := hbb.size; simp; omega) (fun k hk => (World.ownsRow.lt (own_below HO.out hb4) k hk).1))
        clear hown1 hgr1 hbb hb4
        go_wp2
        go_roundw
        case rel => exact ⟨cc + i, some ⟨b, off + i * 2, none⟩, cr - i, v1, rfl, by have := HDl.out; omega, by rw [HDe.out], by rw [HDe.out]; omega, by omega, HDs.out (by omega), by unfold Hid; rw [HNx.out.1]; exact HO5.out, HNx.out.2, HX5⟩
        case measure => simp [msl]; omega
      · obtain rfl : i = d := by omega
        by_cases hcs : i < cr
        · go_wp2_with (first | (go_at_call 46; refine HAg.out.mono ?_; rintro e w4 ⟨rfl, hb4⟩) | (at_builtin; refine wpList_append_own _ rfl (.tmp 35) (.tmp 41) 28 rfl w1.heap.size 33 i0 (.agg #[.int .i64 0, .int .i64 0, .int .i64 0, .int .i64 0, .int .i64 0, .int .i64 0, .int .i64 0, .int .i64 0]) 8 64 Try.underlying28 HI.out.1 HI.out.2.1 HI.out.2.2.1 HI.out.2.2.2 rfl (by decide) _ k _ rfl (World.ownsRow.alloc (own_below HO.out hb4) _) ⟨w4.heap.size, 0, none⟩ 1 1 [.int .i64 z0, .int .i64 z1, .int .i64 z2, .int .i64 z3, .int .i64 z4, .int .i64 z5, .int .i64 z6, .int .i64 z7] rfl rfl ?e1 ?e2 ?e3 ?e4 ?e5 ?_))
          case e1 => exact eight_new w4 (.int .i64 z0) (.int .i64 z1) (.int .i64 z2) (.int .i64 z3) (.int .i64 z4) (.int .i64 z5) (.int .i64 z6) (.int .i64 z7) 33
          case e2 => first | exact ⟨rfl, rfl, rfl, rfl, rfl, rfl, rfl, rfl⟩ | (intro u hu; simp at hu; rcases hu with rfl | rfl | rfl | rfl | rfl | rfl | rfl | rfl <;> rfl)
          case e3 => unfold maxLen; omega
          case e4 => omega
          case e5 => have := HX.out.size; have := hb4.size; simp; omega
          intro v1 w5 hown1 hgr1 _
          have HO5 : Hid (OwnA w5 w1.heap.size v1 (K ++ [⟨z0, z1, z2, z3, z4, z5, z6, z7⟩])) := by unfold Hid OwnA; rw [flat_append, List.length_append, HK.out]; exact hown1
          have hbb := HX.out.trans (hb4.mono HX.out.size)
          have HX5 := hid ((hbb.alloc hbb.size (.cells #[.int .i64 z0, .int .i64 z1, .int .i64 z2, .int .i64 z3, .int .i64 z4, .int .i64 z5, .int .i64 z6, .int .i64 z7] 33)).grown hgr1 (by have := hbb.size; simp; omega) (fun k hk => (World.ownsRow.lt (own_below HO.out hb4) k hk).1))
          clear hown1 hgr1 hbb hb4
          go_wp2
          go_roundw
          case rel => exact ⟨cc + i, some ⟨b, off + i * 2, none⟩, cr - i, v1, rfl, by have := HDl.out; omega, by rw [HDe.out, Nat.sub_self], by rw [HDe.out]; omega, by omega, HDs.out (by omega), by unfold Hid; rw [HNx.out.1]; exact HO5.out, HNx.out.2, HX5⟩
          case measure => simp [msl]; omega
        · have hce : i = cr := by omega
          subst hce
          go_wp2_with (first | (go_at_call 46; refine HAg.out.mono ?_; rintro e w4 ⟨rfl, hb4⟩) | (at_builtin; refine wpList_append_own _ rfl (.tmp 35) (.tmp 41) 28 rfl w1.heap.size 33 i0 (.agg #[.int .i64 0, .int .i64 0, .int .i64 0, .int .i64 0, .int .i64 0, .int .i64 0, .int .i64 0, .int .i64 0]) 8 64 Try.underlying28 HI.out.1 HI.out.2.1 HI.out.2.2.1 HI.out.2.2.2 rfl (by decide) _ k _ rfl (World.ownsRow.alloc (own_below HO.out hb4) _) ⟨w4.heap.size, 0, none⟩ 1 1 [.int .i64 z0, .int .i64 z1, .int .i64 z2, .int .i64 z3, .int .i64 z4, .int .i64 z5, .int .i64 z6, .int .i64 z7] rfl rfl ?g1 ?g2 ?g3 ?g4 ?g5 ?_))
          case g1 => exact eight_new w4 (.int .i64 z0) (.int .i64 z1) (.int .i64 z2) (.int .i64 z3) (.int .i64 z4) (.int .i64 z5) (.int .i64 z6) (.int .i64 z7) 33
          case g2 => first | exact ⟨rfl, rfl, rfl, rfl, rfl, rfl, rfl, rfl⟩ | (intro u hu; simp at hu; rcases hu with rfl | rfl | rfl | rfl | rfl | rfl | rfl | rfl <;> rfl)
          case g3 => unfold maxLen; omega
          case g4 => omega
          case g5 => have := HX.out.size; have := hb4.size; simp; omega
          intro v1 w5 hown1 hgr1 _
          have HO5 : Hid (OwnA w5 w1.heap.size v1 (K ++ [⟨z0, z1, z2, z3, z4, z5, z6, z7⟩])) := by unfold Hid OwnA; rw [flat_append, List.length_append, HK.out]; exact hown1
          have hbb := HX.out.trans (hb4.mono HX.out.size)
          have HX5 := hid ((hbb.alloc hbb.size (.cells #[.int .i64 z0, .int .i64 z1, .int .i64 z2, .int .i64 z3, .int .i64 z4, .int .i64 z5, .int .i64 z6, .int .i64 z7] 33)).grown hgr1 (by have := hbb.size; simp; omega) (fun k hk => (World.ownsRow.lt (own_below HO.out hb4) k hk).1))
          clear hown1 hgr1 hbb hb4
          go_wp2
          go_roundw
          case rel => exact ⟨cc + i, some ⟨b, off, none⟩, 0, v1, rfl, by have := HDl.out; omega, by rw [HDe.out, Nat.sub_self], by rw [HDe.out]; omega, by unfold maxLen; omega, .inl (List.eq_nil_of_length_eq_zero (by rw [HDe.out]; omega)), by unfold Hid; rw [HNx.out.1]; exact HO5.out, HNx.out.2, HX5⟩
          case measure => simp [msl]; omega
end Go.Proofs.Ytpbnneelpdacdaa.Agl
