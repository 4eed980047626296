/- What the model's l2Parts comes to. -/
import Derived.Test.YtpobpanmkdjkjaaPl
namespace Go.Proofs.Ytpobpanmkdjkjaa.Pat
open Go.RowKit

theorem first_true (f : List UInt8 → Bool) : ∀ s : List UInt8, starR f s = true → f (s.drop (firstF f s)) = true
  | [], h => by simpa [starR, firstF] using h
  | c :: r, h => by
    simp only [firstF]
    by_cases h1 : f (c :: r) = true
    · simp [h1]
    · rw [if_neg h1]
      simp only [starR, Bool.or_eq_true] at h
      rcases h with h | h
      · exact absurd h h1
      · simpa using first_true f r h
theorem first_min (f : List UInt8 → Bool) : ∀ (s : List UInt8) (j : Nat), j < firstF f s → f (s.drop j) = false
  | [], j, h => by simp [firstF] at h
  | c :: r, j, h => by
    simp only [firstF] at h
    by_cases h1 : f (c :: r) = true
    · rw [if_pos h1] at h; omega
    · rw [if_neg h1] at h
      cases j with
      | zero => simpa using h1
      | succ j => simpa using first_min f r j (by omega)
def oneP (L : List UInt8) (a : List Int) : Option (List (List UInt8)) := if rest a L = true then some (partsS a L) else none
def someS (L : List UInt8) (A : List (List Int)) : Option (List (List UInt8)) := A.findSome? (oneP L)
theorem someS_step {L : List UInt8} {A : List (List Int)} {i : Nat} {z : List Int} (h : A[i]? = some z) : someS L (A.drop i) = if rest z L = true then some (partsS z L) else someS L (A.drop (i + 1)) := by
  obtain ⟨hi, rfl⟩ := List.getElem?_eq_some_iff.1 h
  rw [List.drop_eq_getElem_cons hi]
  unfold someS
  rw [List.findSome?_cons]
  unfold oneP
  by_cases hr : rest A[i] L = true
  · rw [if_pos hr, if_pos hr]
  · rw [if_neg hr, if_neg hr]
theorem ppF_some {p s : ByteArray} (hp : patB p = true) (hs : s.size ≤ 100) : ppF p s = someS s.data.toList (altsF p.data.toList []) := by
  unfold ppF; rw [if_pos ⟨hp, hs⟩]; rfl
/-- What is behind the first k items is still to be told, from the place t on. -/
structure Inn (z : List Int) (L : List UInt8) (k t : Nat) (ps : List (List UInt8)) : Prop where
  parts : partsS z L = ps ++ partsS (z.drop k) (L.drop t)
  holds : rest (z.drop k) (L.drop t) = true
  le : t ≤ L.length
theorem Inn.zero {z : List Int} {L : List UInt8} (h : rest z L = true) : Inn z L 0 0 [] := ⟨by simp, by simpa using h, Nat.zero_le _⟩
theorem Inn.item {z : List Int} {L : List UInt8} {k t : Nat} {ps : List (List UInt8)} {x : Int} (h : Inn z L k t ps) (hx : z.drop k = x :: z.drop (k + 1)) (hne : x ≠ -1) : Inn z L (k + 1) (t + 1) ps := by
  have h1 := h.holds
  rw [hx] at h1
  simp only [rest, if_neg hne] at h1
  cases hd : L.drop t with
  | nil => rw [hd] at h1; simp at h1
  | cons c r =>
    rw [hd] at h1
    simp only [Bool.and_eq_true] at h1
    have hlt : t < L.length := by
      have := congrArg List.length hd
      simp at this; omega
    have hr : r = L.drop (t + 1) := by
      have := congrArg List.tail hd
      simp at this; rw [this]
    refine ⟨?_, by rw [← hr]; exact h1.2, by omega⟩
    rw [h.parts, hx]
    simp only [partsS, if_neg hne]
    rw [List.drop_drop]
theorem Inn.star {z : List Int} {L : List UInt8} {k t : Nat} {ps : List (List UInt8)} (h : Inn z L k t ps) (hx : z.drop k = -1 :: z.drop (k + 1)) :
    Inn z L (k + 1) (t + firstF (rest (z.drop (k + 1))) (L.drop t)) (ps ++ [(L.drop t).take (firstF (rest (z.drop (k + 1))) (L.drop t))]) ∧ (∀ j, t ≤ j → j < t + firstF (rest (z.drop (k + 1))) (L.drop t) → rst (z.drop (k + 1)) L j = false) ∧ rst (z.drop (k + 1)) L (t + firstF (rest (z.drop (k + 1))) (L.drop t)) = true := by
  have h1 := h.holds
  rw [hx] at h1
  simp only [rest, if_true] at h1
  have h2 := first_true _ _ h1
  have h3 := first_le (rest (z.drop (k + 1))) (L.drop t)
  have h4 := h.le
  rw [List.drop_drop] at h2
  simp only [List.length_drop] at h3
  refine ⟨⟨?_, h2, by omega⟩, fun j hj1 hj2 => ?_, h2⟩
  · rw [h.parts, hx]
    simp only [partsS, if_true]
    rw [List.drop_drop]; simp
  · have := first_min (rest (z.drop (k + 1))) (L.drop t) (j - t) (by omega)
    rw [List.drop_drop, show t + (j - t) = j from by omega] at this
    exact this
theorem Inn.done {z : List Int} {L : List UInt8} {k t : Nat} {ps : List (List UInt8)} (h : Inn z L k t ps) (hk : z.length ≤ k) : partsS z L = ps := by
  rw [h.parts, List.drop_eq_nil_of_le hk]; simp [partsS]
theorem HasI.drop {w : World} {g : Nat} {zs : List Int} {k : Nat} (h : HasI w (some ⟨g, 0, none⟩) zs) : HasI w (some ⟨g, k, none⟩) (zs.drop k) := by
  rcases h with h | ⟨b, off, h1, h2, h3⟩
  · rw [h]; simp; exact .inl rfl
  · simp only [Option.some.injEq, Addr.mk.injEq, and_true] at h1
    obtain ⟨rfl, rfl⟩ := h1
    refine .inr ⟨g, k, rfl, h2, fun i hi => ?_⟩
    simp only [List.length_drop] at hi
    have := h3 (k + i) (by omega)
    rw [Nat.zero_add] at this
    rw [this]
    simp [List.getD_eq_getElem?_getD, List.getElem?_drop]

theorem own_lower {w : World} {B B' e size n : Nat} {v : Value} {xs : List Value} (h : w.ownsRow B' e size v n xs) (hB : B ≤ B') : w.ownsRow B e size v n xs := by
  refine ⟨h.1, ?_⟩
  rcases h.2 with h1 | ⟨g, cap, cur, h1, h2, h3⟩
  · exact .inl h1
  · exact .inr ⟨g, cap, cur, h1, Nat.le_trans hB h2, h3⟩

set_option maxRecDepth 100000 in
set_option maxHeartbeats 8000000 in
theorem f33 (p s : ByteArray) (w : World) (hp : p.size ≤ maxLen) (hpat : patB p = true) (hs : s.size ≤ 1000) : Calls Try.prog 33 #[.string p, .string s] w (PartsR (someS s.data.toList (altsF p.data.toList [])) w) := by
  obtain ⟨i0, qi, hz0, hz1, hz2⟩ := info_parts info9
  have HL : Hid (s.data.toList.length = s.size) := by unfold Hid; simp
  go_enter Try.func33, Try.ntmps33
  go_wp2_with fail
  refine (f29w p _ hp).mono ?_
  rintro e w1 ⟨hb1, h1⟩
  have HB := hid hb1
  clear hb1
  rcases h1 with ⟨hn, rfl⟩ | ⟨S, A, a, c, x1, _, hA, rfl, ho, hf, hS, hl1, hl2⟩
  · rw [hpat] at hn; cases hn
  have HA := hid hA
  have HO := hid ho
  have HF := hid hf
  have HS := hid hS
  have HL2 := hid hl2
  obtain ⟨n, hn⟩ : ∃ n, n = A.length := ⟨_, rfl⟩
  have HN := hid hn
  rw [← hn] at HO hl1 ⊢
  clear ho hf hS hl2 hn hA
  go_wp2
  go_loopw [23] (fun si wr => ∃ i : Nat, i ≤ n ∧ si = .int .i64 i ∧ Hid (someS s.data.toList (altsF p.data.toList []) = someS s.data.toList (A.drop i)) ∧ Hid (Below w1.heap.size w1 wr)) (fun si _ => n - (intOf si).toNat)
  case atStart => exact ⟨0, Nat.zero_le _, rfl, by unfold Hid; rw [HA.out]; rfl, Below.refl _ _⟩
  case round =>
    obtain ⟨i, hi, rfl, HP, HW⟩ := hrel
    by_cases hlt : i < n
    · have hx : A[i]? = some (A[i]'(by rw [← HN.out]; exact hlt)) := List.getElem?_eq_getElem _
      have hzl : (A[i]'(by rw [← HN.out]; exact hlt)).length ≤ 100 := HL2.out _ (List.getElem_mem _)
      generalize (A[i]'(by rw [← HN.out]; exact hlt)) = z at hx hzl
      obtain ⟨u, hu, hU⟩ := HF.out i z hx
      have HX := hid (someS_step (L := s.data.toList) hx)
      rcases HO.out.2 with ⟨_, h0⟩ | ⟨g, cap, cur, hv, _⟩
      · omega
      simp only [Value.slice.injEq] at hv
      obtain ⟨rfl, -, rfl⟩ := hv
      have c0 := (HW.out.cell (p := ⟨g, i, none⟩) (HO.out.lt g rfl).2).trans ((HO.out.cellAt i (by omega)).trans (show x1[i]? = some u from hu))
      have i1 : (i : Int) < (n : Int) := by omega
      have hU2 := hU.agree (Agree.below HS.out HW.out)
      obtain ⟨au, cu, rfl⟩ := hU.shape
      have HU := hid hU
      have HC := hid (f56 au z.length cu z s wr rfl (by omega) hU2.has.1 hs)
      obtain ⟨m, hm⟩ : ∃ m, m = z.length := ⟨_, rfl⟩
      have HM := hid hm
      rw [← hm] at HC c0 hzl HU
      clear hx hu hU hU2 hm
      go_wp2_with fail
      refine HC.out.mono ?_
      rintro e w2 ⟨⟨g2, rfl, ho2⟩, hb2⟩
      have HW2 := hid (HW.out.trans (hb2.mono HW.out.size))
      have HB2 := hid (HB.out.trans (HW2.out.mono HB.out.size))
      have c2 := (ho2.cellAt 0 (by omega)).trans (bRow_get (show 0 < s.size + 1 by omega))
      have e0 : rst z s.data.toList 0 = rest z s.data.toList := by unfold rst; simp
      rw [e0] at c2
      clear hb2 ho2 e0
      by_cases hr : rest z s.data.toList = true
      · have HP2 : Hid (someS s.data.toList (altsF p.data.toList []) = some (partsS z s.data.toList)) := by unfold Hid; rw [HP.out, HX.out, if_pos hr]
        have HI0 := hid (Inn.zero hr)
        rw [hr] at c2
        clear hr
        go_wp2
        go_loopw [10, 11, 35] (fun so st sk wr => ∃ (k t : Nat) (ps : List (List UInt8)) (a' : Option Addr) (c' : Nat), so = .slice a' ps.length c' ∧ st = .int .i64 t ∧ sk = .int .i64 k ∧ k ≤ m ∧ ps.length ≤ k ∧ t ≤ s.size ∧ Hid (Inn z s.data.toList k t ps) ∧ Hid (wr.ownsRow w1.heap.size 9 1 (.slice a' ps.length c') ps.length (txts ps)) ∧ Hid (Below w1.heap.size w1 wr)) (fun _ _ sk _ => m - (intOf sk).toNat)
        case atStart => exact ⟨0, 0, [], none, 0, rfl, rfl, rfl, Nat.zero_le _, by simp, Nat.zero_le _, HI0, World.ownsRow_nil _ _ _ _, HW2⟩
        case round =>
          obtain ⟨k, t, ps, a', c', rfl, rfl, rfl, hk, hps, ht, HI, HPS, HW3⟩ := hrel
          have HB3 := hid (HB.out.trans (HW3.out.mono HB.out.size))
          by_cases hlt2 : k < m
          · obtain ⟨x, hx⟩ : ∃ x, x = z.getD k 0 := ⟨_, rfl⟩
            have hkz : k < z.length := by rw [← HM.out]; exact hlt2
            have HD : Hid (z.drop k = x :: z.drop (k + 1)) := by
              unfold Hid
              rw [List.drop_eq_getElem_cons hkz, hx]
              simp [hkz]
            rcases HU.out.1.2 with ⟨_, h0⟩ | ⟨gz, capz, curz, hvz, _, _, hcapz, _⟩
            · rw [← HM.out] at h0; omega
            simp only [Value.slice.injEq] at hvz
            obtain ⟨rfl, -, rfl⟩ := hvz
            have hlz := (HU.out.1.lt gz rfl).2
            have HHI := hid ((HU.out.has.1).below HW3.out)
            have hOz : w1.ownsRow 0 3 1 (.slice (some ⟨gz, 0, none⟩) m cu) m (ints z) := by have := HU.out.1; rw [← HM.out] at this; exact this
            have cx : wr.cell? ⟨gz, k, none⟩ = some (.int .i64 x) := by
              refine (HW3.out.cell (p := ⟨gz, k, none⟩) hlz).trans ((hOz.cellAt k (by omega)).trans ?_)
              rw [hx]; simp [ints, hkz]
            have ik : (k : Int) < (m : Int) := by omega
            have hcapm : m ≤ cu := by rw [HM.out]; exact hcapz
            clear hx hcapz hkz hOz
            by_cases hx1 : x = -1
            · have e1 : (x != -1) = false := by simp [hx1]
              rw [hx1] at HD
              have HST := hid (HI.out.star HD.out)
              clear hx1
              obtain ⟨E, hE⟩ : ∃ E, E = t + firstF (rest (z.drop (k + 1))) (s.data.toList.drop t) := ⟨_, rfl⟩
              have HEt : Hid (firstF (rest (z.drop (k + 1))) (s.data.toList.drop t) = E - t) := by unfold Hid; omega
              have hEt : t ≤ E := by omega
              rw [← hE, HEt.out] at HST
              have hEs : E ≤ s.size := by have := HST.out.1.le; rw [HL.out] at this; exact this
              have HC3 := hid (fun (a : Option Addr) (c : Nat) (h : HasI wr a (z.drop (k + 1))) => f56 a (m - (k + 1)) c (z.drop (k + 1)) s wr (by rw [List.length_drop, ← HM.out]) (by omega) h hs)
              clear hE
              have hAd : (k + 1 < cu ∧ HasI wr (some ⟨gz, k + 1, none⟩) (z.drop (k + 1))) ∨ (cu ≤ k + 1 ∧ HasI wr (some ⟨gz, 0, none⟩) (z.drop (k + 1))) := by
                by_cases h : k + 1 < cu
                · exact .inl ⟨h, HHI.out.drop⟩
                · exact .inr ⟨by omega, .inl (List.drop_eq_nil_of_le (by rw [← HM.out]; omega))⟩
              rcases hAd with ⟨hcu, hAd⟩ | ⟨hcu, hAd⟩
              · have HAd := hid hAd
                clear hAd
                go_wp2_with fail
                refine (HC3.out _ _ HAd.out).mono ?_
                rintro e w3 ⟨⟨g3, rfl, ho3⟩, hb3⟩
                have HW4 := hid (HW3.out.trans (hb3.mono HW3.out.size))
                have HB4 := hid (HB.out.trans (HW4.out.mono HB.out.size))
                have HPS3 := hid (own_below HPS.out hb3)
                have HR3 := hid ho3
                have hsw : w1.heap.size ≤ w3.heap.size := HW4.out.size
                clear hb3 ho3 hcu
                go_wp2
                go_loop [15] (fun se => ∃ e : Nat, t ≤ e ∧ e ≤ E ∧ se = .int .i64 e) (fun se => E - (intOf se).toNat)
                case atStart => exact ⟨t, Nat.le_refl _, hEt, rfl⟩
                case round =>
                  obtain ⟨e, he1, he2, rfl⟩ := hrel
                  have ie : (e : Int) < (s.size : Int) + 1 := by omega
                  have ce := (HR3.out.cellAt e (by omega)).trans (bRow_get (show e < s.size + 1 by omega))
                  by_cases hee : e = E
                  · rw [hee, HST.out.2.2] at ce
                    have HX := hid (ext_mkS s t E)
                    have j3 : (t : Int) ≤ (E : Int) := by omega
                    have j4 : (E : Int) ≤ (s.size : Int) := by omega
                    have j5 : (0 : Int) ≤ (t : Int) := by omega
                    rw [hee]
                    clear hee
                    go_wp2_with (at_builtin; refine wpList_append_own _ rfl (.tmp 58) (.tmp 63) 27 rfl w1.heap.size 9 i0 (.string ByteArray.empty) 1 16 Try.underlying27 qi hz0 hz1 hz2 rfl (by decide) _ _ _ rfl (HPS3.out.alloc _) ⟨w3.heap.size, 0, none⟩ 1 1 [.string (s.extract t E)] rfl rfl ?d1 ?d2 ?d3 ?d4 ?d5 ?_)
                    case d2 => rfl
                    case d3 => unfold maxLen; omega
                    case d4 => omega
                    case d5 => omega
                    intro v5 w5 hown5 hgr5 _
                    obtain ⟨a5, c5, rfl⟩ := own_form hown5
                    have HW5 : Hid (Below w1.heap.size w1 w5) := by
                      refine (HW4.out.alloc HW4.out.size (.cells #[.string (s.extract t E)] 9)).grown hgr5 (by have := HW4.out.size; simp; omega) (fun k hk => (HPS3.out.lt k hk).1)
                    have HO5 : Hid (w5.ownsRow w1.heap.size 9 1 (.slice a5 (ps ++ [(s.data.toList.drop t).take (E - t)]).length c5) (ps ++ [(s.data.toList.drop t).take (E - t)]).length (txts (ps ++ [(s.data.toList.drop t).take (E - t)]))) := by
                      unfold Hid; rw [txts_snoc, ← HX.out, List.length_append]; exact hown5
                    clear hown5 hgr5
                    go_wp2
                    go_roundw
                    case rel => exact ⟨k + 1, E, _, a5, c5, by simp, rfl, by go_num, by omega, by simp; omega, hEs, hid HST.out.1, HO5, HW5⟩
                    case measure => simp [intOf]; omega
                  · rw [HST.out.2.1 e he1 (by omega)] at ce
                    go_wp2
                    go_round
                    case rel => exact ⟨e + 1, by omega, by omega, by go_num⟩
                    case measure => simp [intOf]; omega
              · have hcuk : cu = k + 1 := by omega
                subst hcuk
                have HC4 := hid (f56 (some ⟨gz, 0, none⟩) 0 0 (z.drop (k + 1)) s wr (by rw [List.length_drop, ← HM.out]; omega) (by omega) hAd hs)
                clear hAd
                go_wp2_with fail
                refine HC4.out.mono ?_
                rintro e w3 ⟨⟨g3, rfl, ho3⟩, hb3⟩
                have HW4 := hid (HW3.out.trans (hb3.mono HW3.out.size))
                have HB4 := hid (HB.out.trans (HW4.out.mono HB.out.size))
                have HPS3 := hid (own_below HPS.out hb3)
                have HR3 := hid ho3
                have hsw : w1.heap.size ≤ w3.heap.size := HW4.out.size
                clear hb3 ho3 hcu
                go_wp2
                go_loop [15] (fun se => ∃ e : Nat, t ≤ e ∧ e ≤ E ∧ se = .int .i64 e) (fun se => E - (intOf se).toNat)
                case atStart => exact ⟨t, Nat.le_refl _, hEt, rfl⟩
                case round =>
                  obtain ⟨e, he1, he2, rfl⟩ := hrel
                  have ie : (e : Int) < (s.size : Int) + 1 := by omega
                  have ce := (HR3.out.cellAt e (by omega)).trans (bRow_get (show e < s.size + 1 by omega))
                  by_cases hee : e = E
                  · rw [hee, HST.out.2.2] at ce
                    have HX := hid (ext_mkS s t E)
                    have j3 : (t : Int) ≤ (E : Int) := by omega
                    have j4 : (E : Int) ≤ (s.size : Int) := by omega
                    have j5 : (0 : Int) ≤ (t : Int) := by omega
                    rw [hee]
                    clear hee
                    go_wp2_with (at_builtin; refine wpList_append_own _ rfl (.tmp 58) (.tmp 63) 27 rfl w1.heap.size 9 i0 (.string ByteArray.empty) 1 16 Try.underlying27 qi hz0 hz1 hz2 rfl (by decide) _ _ _ rfl (HPS3.out.alloc _) ⟨w3.heap.size, 0, none⟩ 1 1 [.string (s.extract t E)] rfl rfl ?k1 ?k2 ?k3 ?k4 ?k5 ?_)
                    case k2 => rfl
                    case k3 => unfold maxLen; omega
                    case k4 => omega
                    case k5 => omega
                    intro v5 w5 hown5 hgr5 _
                    obtain ⟨a5, c5, rfl⟩ := own_form hown5
                    have HW5 : Hid (Below w1.heap.size w1 w5) := by
                      refine (HW4.out.alloc HW4.out.size (.cells #[.string (s.extract t E)] 9)).grown hgr5 (by have := HW4.out.size; simp; omega) (fun k hk => (HPS3.out.lt k hk).1)
                    have HO5 : Hid (w5.ownsRow w1.heap.size 9 1 (.slice a5 (ps ++ [(s.data.toList.drop t).take (E - t)]).length c5) (ps ++ [(s.data.toList.drop t).take (E - t)]).length (txts (ps ++ [(s.data.toList.drop t).take (E - t)]))) := by
                      unfold Hid; rw [txts_snoc, ← HX.out, List.length_append]; exact hown5
                    clear hown5 hgr5
                    go_wp2
                    go_roundw
                    case rel => exact ⟨k + 1, E, _, a5, c5, by simp, rfl, by go_num, by omega, by simp; omega, hEs, hid HST.out.1, HO5, HW5⟩
                    case measure => simp [intOf]; omega
                  · rw [HST.out.2.1 e he1 (by omega)] at ce
                    go_wp2
                    go_round
                    case rel => exact ⟨e + 1, by omega, by omega, by go_num⟩
                    case measure => simp [intOf]; omega
            · have e1 : (x != -1) = true := by simp [hx1]
              have HI2 := hid (HI.out.item HD.out hx1)
              have ht2 : t + 1 ≤ s.size := by have := HI2.out.le; rw [HL.out] at this; exact this
              clear hx1
              go_wp2
              go_roundw
              case rel => exact ⟨k + 1, t + 1, ps, a', c', rfl, by go_num, by go_num, by omega, by omega, ht2, HI2, HPS, HW3⟩
              case measure => simp [intOf]; omega
          · have HR0 : Hid (someS s.data.toList (altsF p.data.toList []) = some ps) := by unfold Hid; rw [HP2.out, HI.out.done (by rw [← HM.out]; omega)]
            go_wp2
            go_ret2
            exact ⟨HB3.out, .inr ⟨ps, a', c', HR0.out, rfl, own_lower HPS.out HB.out.size⟩⟩
      · have hr' : rest z s.data.toList = false := by simpa using hr
        have HP2 : Hid (someS s.data.toList (altsF p.data.toList []) = someS s.data.toList (A.drop (i + 1))) := by unfold Hid; rw [HP.out, HX.out, if_neg hr]
        rw [hr'] at c2
        clear hr hr'
        go_wp2
        go_roundw
        case rel => exact ⟨i + 1, by omega, by go_num, HP2, HW2⟩
        case measure => simp [intOf]; omega
    · have HE : Hid (someS s.data.toList (altsF p.data.toList []) = none) := by
        unfold Hid
        rw [HP.out, List.drop_eq_nil_of_le (by rw [← HN.out]; omega)]; rfl
      have HB2 := hid (HB.out.trans (HW.out.mono HB.out.size))
      go_wp2
      go_ret2
      exact ⟨HB2.out, .inl ⟨HE.out, rfl⟩⟩
end Go.Proofs.Ytpobpanmkdjkjaa.Pat
