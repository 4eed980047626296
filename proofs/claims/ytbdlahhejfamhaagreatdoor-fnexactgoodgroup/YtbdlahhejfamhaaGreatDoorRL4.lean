/- The model's l15Call: the kinds written one behind the other. -/
import Derived.Test.YtbdlahhejfamhaaGreatDoorRK1
import Derived.Test.YtbdlahhejfamhaaGreatDoorRC3
import Derived.Test.YtbdlahhejfamhaaGreatDoorRK0
import Derived.Test.YtbdlahhejfamhaaGreatDoorRD0
namespace Go.Proofs.YtbdlahhejfamhaaGreatDoor.Qry
open Go.RowKit
open Go.Proofs.YtbdlahhejfamhaaGreatDoor.Fil (HasT FitT)

def encT : List K → List UInt8
  | [] => []
  | k :: ks => 44 :: (k.l ++ encT ks)
def enc : List K → List UInt8
  | [] => []
  | k :: ks => k.l ++ encT ks
theorem l_inj {a b : K} {x y : List UInt8} (ha : a ≠ .e) (hb : b ≠ .e) (h : a.l ++ x = b.l ++ y) : a = b ∧ x = y := by
  cases a <;> cases b <;> simp only [K.l, List.cons_append, List.nil_append, List.cons.injEq] at h <;> first | exact absurd rfl ha | exact absurd rfl hb | (exact absurd h.1 (by decide)) | exact ⟨rfl, by simpa using h⟩
theorem encT_inj : ∀ {a b : List K}, (∀ k ∈ a, k ≠ .e) → (∀ k ∈ b, k ≠ .e) → encT a = encT b → a = b
  | [], [], _, _, _ => rfl
  | [], _ :: _, _, _, h => by simp [encT] at h
  | _ :: _, [], _, _, h => by simp [encT] at h
  | x :: a, y :: b, ha, hb, h => by
    simp only [encT, List.cons.injEq, true_and] at h
    obtain ⟨e1, e2⟩ := l_inj (ha x List.mem_cons_self) (hb y List.mem_cons_self) h
    rw [e1, encT_inj (fun k hk => ha k (List.mem_cons_of_mem _ hk)) (fun k hk => hb k (List.mem_cons_of_mem _ hk)) e2]
theorem l_ne {k : K} (h : k ≠ .e) : k.l ≠ [] := by cases k <;> first | exact absurd rfl h | decide
theorem enc_inj {a b : List K} (ha : ∀ k ∈ a, k ≠ .e) (hb : ∀ k ∈ b, k ≠ .e) (h : enc a = enc b) : a = b := by
  cases a with
  | nil =>
    cases b with
    | nil => rfl
    | cons y b => exact absurd (List.append_eq_nil_iff.1 h.symm).1 (l_ne (hb y List.mem_cons_self))
  | cons x a =>
    cases b with
    | nil => exact absurd (List.append_eq_nil_iff.1 h).1 (l_ne (ha x List.mem_cons_self))
    | cons y b =>
      obtain ⟨e1, e2⟩ := l_inj (ha x List.mem_cons_self) (hb y List.mem_cons_self) h
      rw [e1, encT_inj (fun k hk => ha k (List.mem_cons_of_mem _ hk)) (fun k hk => hb k (List.mem_cons_of_mem _ hk)) e2]
theorem encT_snoc (a : List K) (k : K) : encT (a ++ [k]) = encT a ++ 44 :: k.l := by
  induction a with
  | nil => simp [encT]
  | cons x a ih => simp [encT, ih]
theorem enc_snoc (a : List K) (k : K) (h : a ≠ []) : enc (a ++ [k]) = enc a ++ 44 :: k.l := by
  cases a with
  | nil => exact absurd rfl h
  | cons x a => simp [enc, encT_snoc]
def encB (a : List K) : ByteArray := ⟨(enc a).toArray⟩
theorem encB_one (k : K) : encB [k] = ByteArray.empty ++ k.s := by
  cases k <;> decide
theorem encB_snoc (a : List K) (k : K) (h : a ≠ []) : encB (a ++ [k]) = (encB a ++ ⟨#[44]⟩) ++ k.s := by
  apply ByteArray.ext
  simp only [encB, enc_snoc a k h, K.s, ByteArray.data_append]
  simp
theorem encB_iff {a b : List K} (ha : ∀ k ∈ a, k ≠ .e) (hb : ∀ k ∈ b, k ≠ .e) : encB a = encB b ↔ a = b := by
  constructor
  · intro h
    have h1 := congrArg (fun x => x.data.toList) h
    simp only [encB] at h1
    exact enc_inj ha hb h1
  · rintro rfl
    rfl
theorem l_len (k : K) : k.l.length ≤ 6 := by cases k <;> decide
theorem encT_len : ∀ a : List K, (encT a).length ≤ 7 * a.length
  | [] => by simp [encT]
  | k :: a => by
    have h1 := encT_len a
    have h2 := l_len k
    simp only [encT, List.length_cons, List.length_append]
    omega
theorem encB_size (a : List K) : (encB a).size ≤ 7 * a.length := by
  show (enc a).toArray.size ≤ _
  cases a with
  | nil => simp [enc]
  | cons k a =>
    have h1 := encT_len a
    have h2 := l_len k
    simp only [enc, List.size_toArray, List.length_cons, List.length_append]
    omega
theorem s_size (k : K) : k.s.size ≤ 6 := l_len k
theorem getD_s (ks : List K) (k : Nat) (h : k < ks.length) : (ks.map K.s).getD k ByteArray.empty = (ks.getD k .e).s := by
  rw [List.getD_eq_getElem?_getD, List.getD_eq_getElem?_getD, List.getElem?_map, List.getElem?_eq_getElem h]
  rfl
theorem callK_join (ks : List K) : callK nJoin ks = if (4 ≤ ks.length ∧ ks.getD 0 .e = .v ∧ ∀ i, i < ks.length - 1 → ks.getD (i + 1) .e = .t) then .v else .e := by
  have e : padL (takesK nJoin) (moreK nJoin) ks.length .t = .v :: List.replicate (3 + (ks.length - 4)) .t := by
    rw [show takesK nJoin = [.v, .t, .t, .t] by decide, show moreK nJoin = true by decide]
    show [K.v, .t, .t, .t] ++ List.replicate (ks.length - 4) K.t = _
    rw [← List.replicate_append_replicate]
    rfl
  unfold callK
  rw [show givesK nJoin = .v by decide]
  have hi : (padL (takesK nJoin) (moreK nJoin) ks.length .t = ks) ↔ (4 ≤ ks.length ∧ ks.getD 0 .e = .v ∧ ∀ i, i < ks.length - 1 → ks.getD (i + 1) .e = .t) := by
    rw [e]
    constructor
    · intro h
      have hl := congrArg List.length h
      simp only [List.length_cons, List.length_replicate] at hl
      refine ⟨by omega, by rw [← h]; rfl, fun i hi => ?_⟩
      rw [← h]
      simp only [List.getD_eq_getElem?_getD, List.getElem?_cons_succ, List.getElem?_replicate]
      rw [if_pos (by omega)]
      rfl
    · rintro ⟨h1, h2, h3⟩
      cases ks with
      | nil => simp at h1
      | cons x r =>
        simp only [List.length_cons] at h1 h3
        have hx : x = .v := h2
        rw [hx]
        congr 1
        refine (List.eq_replicate_iff.2 ⟨by simp; omega, fun y hy => ?_⟩).symm
        obtain ⟨i, hi, rfl⟩ := List.getElem_of_mem hy
        have := h3 i (by omega)
        simpa [List.getD_eq_getElem?_getD, List.getElem?_eq_getElem hi] using this
  by_cases h : padL (takesK nJoin) (moreK nJoin) ks.length .t = ks
  · rw [if_pos h, if_pos (hi.1 h)]
  · rw [if_neg h, if_neg (fun g => h (hi.2 g))]
theorem ret_kl {k : K} (x : K) (s : ByteArray) (h : k = x) (hs : s = x.s) : Ending.returned (.string s) = .returned (.string k.s) := by rw [h, hs]
theorem callK_eq {s : ByteArray} {ks : List K} (hm : moreK s = false) : callK s ks = if takesK s = ks then givesK s else .e := by
  unfold callK padL
  rw [hm]
  rfl
set_option maxHeartbeats 16000000 in
set_option maxRecDepth 100000 in
theorem f63 (s : ByteArray) (ks : List K) (a : Option Addr) (c : Nat) (w : World) (hk : ks.length ≤ 10) (hc : ks.length ≤ c) (hcm : c ≤ maxLen) (hne : ∀ k ∈ ks, k ≠ .e) (hh : HasT w a (ks.map K.s)) :
    Calls Tryz.prog 63 #[.string s, .slice a ks.length c] w fun e w' => e = .returned (.string (callK s ks).s) ∧ w' = w := by
  unfold maxLen at hcm
  have HH := hid hh
  have HNE := hid hne
  clear hh hne
  go_enter Tryz.func63, Tryz.ntmps63
  go_wp2
  go_loop [5, 12] (fun si i => ∃ k : Nat, k ≤ ks.length ∧ i = .int .i64 k ∧ si = .string (encB (ks.take k))) (fun _ i => ks.length - (intOf i).toNat)
  case atStart => exact ⟨0, Nat.zero_le _, rfl, rfl⟩
  case round =>
    obtain ⟨k, hkk, rfl, rfl⟩ := hrel
    by_cases hlt : k < ks.length
    · obtain ⟨b, off, rfl, hbl, c0⟩ := hasT_at2 HH.out k (by simpa using hlt)
      have i1 : (k : Int) < (ks.length : Int) := by omega
      have hx : ks[k]? = some (ks.getD k .e) := by rw [List.getD_eq_getElem?_getD, List.getElem?_eq_getElem hlt]; rfl
      have hg : (ks.map K.s).getD k ByteArray.empty = (ks.getD k .e).s := by
        rw [List.getD_eq_getElem?_getD, List.getElem?_map, hx]; rfl
      rw [hg] at c0
      have HT : Hid (ks.take (k + 1) = ks.take k ++ [ks.getD k .e]) := by
        unfold Hid; rw [List.take_add_one, hx]; rfl
      have hz := encB_size (ks.take k)
      rw [List.length_take] at hz
      have hz1 : (encB (ks.take k)).size ≤ 70 := by omega
      have hx1 := s_size (ks.getD k .e)
      clear hz
      generalize ks.getD k .e = x at *
      clear hx hg
      by_cases h0 : k = 0
      · subst h0
        rw [Nat.add_zero] at c0
        have HS : Hid (encB (ks.take (0 + 1)) = ByteArray.empty ++ x.s) := by
          unfold Hid; rw [HT.out]; exact encB_one x
        have HE : Hid (encB (ks.take 0) = ByteArray.empty) := rfl
        generalize encB (ks.take 0) = z at *
        go_wp2
        go_round
        case rel => exact ⟨0 + 1, by omega, by go_num, by rw [HS.out, HE.out]⟩
        case measure => simp [intOf]; omega
      · have HS : Hid (encB (ks.take (k + 1)) = (encB (ks.take k) ++ ⟨#[44]⟩) ++ x.s) := by
          unfold Hid; rw [HT.out]; exact encB_snoc _ _ (by
            intro e
            have := congrArg List.length e
            rw [List.length_take, List.length_nil] at this
            omega)
        generalize encB (ks.take k) = z at *
        have hk0 : (0 : Int) < (k : Int) := by omega
        go_wp2
        go_round
        case rel => exact ⟨k + 1, by omega, by go_num, by rw [HS.out]⟩
        case measure => simp [intOf]; omega
    · have hke : k = ks.length := by omega
      subst hke
      rw [List.take_length] at *
      have HZ : Hid (∀ T : List K, (∀ k ∈ T, k ≠ .e) → (encB ks = encB T ↔ T = ks)) := fun T hT => (encB_iff HNE.out hT).trans eq_comm
      generalize encB ks = z at *
      by_cases h0 : s = nTime
      · subst h0
        have HQ : Hid (callK nTime ks = if ([] : List K) = ks then .n else .e) := by unfold Hid; rw [callK_eq (by decide)]; rw [show takesK nTime = [] by decide, show givesK nTime = .n by decide]
        by_cases hz : ([] : List K) = ks
        · have q0 := (HZ.out ([] : List K) (by decide)).2 hz
          have q1 : z.toList.isEmpty = true := empty_str q0
          have HR := hid (HQ.out.trans (if_pos hz))
          clear hz q0 HQ
          go_wp2
          go_ret
          exact ⟨ret_kl .n _ HR.out rfl, rfl⟩
        · have q0 : z ≠ encB ([] : List K) := fun e => hz ((HZ.out ([] : List K) (by decide)).1 e)
          have q1 : z.toList.isEmpty = false := some_str q0
          have HR := hid (HQ.out.trans (if_neg hz))
          clear hz q0 HQ
          go_wp2
          go_ret
          exact ⟨ret_kl .e _ HR.out rfl, rfl⟩
      by_cases h1 : s = nScalar
      · subst h1
        have HQ : Hid (callK nScalar ks = if ([.v] : List K) = ks then .n else .e) := by unfold Hid; rw [callK_eq (by decide)]; rw [show takesK nScalar = [.v] by decide, show givesK nScalar = .n by decide]
        by_cases hz : ([.v] : List K) = ks
        · have q0 := (HZ.out ([.v] : List K) (by decide)).2 hz
          have q1 : (z.toList == [118, 101, 99, 116, 111, 114]) = true := lit_eq q0
          have HR := hid (HQ.out.trans (if_pos hz))
          clear hz q0 HQ
          go_wp2
          go_ret
          exact ⟨ret_kl .n _ HR.out rfl, rfl⟩
        · have q0 : z ≠ encB ([.v] : List K) := fun e => hz ((HZ.out ([.v] : List K) (by decide)).1 e)
          have q1 : (z.toList == [118, 101, 99, 116, 111, 114]) = false := lit_ne q0
          have HR := hid (HQ.out.trans (if_neg hz))
          clear hz q0 HQ
          go_wp2
          go_ret
          exact ⟨ret_kl .e _ HR.out rfl, rfl⟩
      by_cases h2 : s = nAbs
      · subst h2
        have HQ : Hid (callK nAbs ks = if ([.v] : List K) = ks then .v else .e) := by unfold Hid; rw [callK_eq (by decide)]; rw [show takesK nAbs = [.v] by decide, show givesK nAbs = .v by decide]
        by_cases hz : ([.v] : List K) = ks
        · have q0 := (HZ.out ([.v] : List K) (by decide)).2 hz
          have q1 : (z.toList == [118, 101, 99, 116, 111, 114]) = true := lit_eq q0
          have HR := hid (HQ.out.trans (if_pos hz))
          clear hz q0 HQ
          go_wp2
          go_ret
          exact ⟨ret_kl .v _ HR.out rfl, rfl⟩
        · have q0 : z ≠ encB ([.v] : List K) := fun e => hz ((HZ.out ([.v] : List K) (by decide)).1 e)
          have q1 : (z.toList == [118, 101, 99, 116, 111, 114]) = false := lit_ne q0
          have HR := hid (HQ.out.trans (if_neg hz))
          clear hz q0 HQ
          go_wp2
          go_ret
          exact ⟨ret_kl .e _ HR.out rfl, rfl⟩
      by_cases h3 : s = nAbsent
      · subst h3
        have HQ : Hid (callK nAbsent ks = if ([.v] : List K) = ks then .v else .e) := by unfold Hid; rw [callK_eq (by decide)]; rw [show takesK nAbsent = [.v] by decide, show givesK nAbsent = .v by decide]
        by_cases hz : ([.v] : List K) = ks
        · have q0 := (HZ.out ([.v] : List K) (by decide)).2 hz
          have q1 : (z.toList == [118, 101, 99, 116, 111, 114]) = true := lit_eq q0
          have HR := hid (HQ.out.trans (if_pos hz))
          clear hz q0 HQ
          go_wp2
          go_ret
          exact ⟨ret_kl .v _ HR.out rfl, rfl⟩
        · have q0 : z ≠ encB ([.v] : List K) := fun e => hz ((HZ.out ([.v] : List K) (by decide)).1 e)
          have q1 : (z.toList == [118, 101, 99, 116, 111, 114]) = false := lit_ne q0
          have HR := hid (HQ.out.trans (if_neg hz))
          clear hz q0 HQ
          go_wp2
          go_ret
          exact ⟨ret_kl .e _ HR.out rfl, rfl⟩
      by_cases h4 : s = nStamp
      · subst h4
        have HQ : Hid (callK nStamp ks = if ([.v] : List K) = ks then .v else .e) := by unfold Hid; rw [callK_eq (by decide)]; rw [show takesK nStamp = [.v] by decide, show givesK nStamp = .v by decide]
        by_cases hz : ([.v] : List K) = ks
        · have q0 := (HZ.out ([.v] : List K) (by decide)).2 hz
          have q1 : (z.toList == [118, 101, 99, 116, 111, 114]) = true := lit_eq q0
          have HR := hid (HQ.out.trans (if_pos hz))
          clear hz q0 HQ
          go_wp2
          go_ret
          exact ⟨ret_kl .v _ HR.out rfl, rfl⟩
        · have q0 : z ≠ encB ([.v] : List K) := fun e => hz ((HZ.out ([.v] : List K) (by decide)).1 e)
          have q1 : (z.toList == [118, 101, 99, 116, 111, 114]) = false := lit_ne q0
          have HR := hid (HQ.out.trans (if_neg hz))
          clear hz q0 HQ
          go_wp2
          go_ret
          exact ⟨ret_kl .e _ HR.out rfl, rfl⟩
      by_cases h5 : s = nClamp
      · subst h5
        have HQ : Hid (callK nClamp ks = if ([.v, .n, .n] : List K) = ks then .v else .e) := by unfold Hid; rw [callK_eq (by decide)]; rw [show takesK nClamp = [.v, .n, .n] by decide, show givesK nClamp = .v by decide]
        by_cases hz : ([.v, .n, .n] : List K) = ks
        · have q0 := (HZ.out ([.v, .n, .n] : List K) (by decide)).2 hz
          have q1 : (z.toList == [118, 101, 99, 116, 111, 114, 44, 110, 117, 109, 98, 101, 114, 44, 110, 117, 109, 98, 101, 114]) = true := lit_eq q0
          have HR := hid (HQ.out.trans (if_pos hz))
          clear hz q0 HQ
          go_wp2
          go_ret
          exact ⟨ret_kl .v _ HR.out rfl, rfl⟩
        · have q0 : z ≠ encB ([.v, .n, .n] : List K) := fun e => hz ((HZ.out ([.v, .n, .n] : List K) (by decide)).1 e)
          have q1 : (z.toList == [118, 101, 99, 116, 111, 114, 44, 110, 117, 109, 98, 101, 114, 44, 110, 117, 109, 98, 101, 114]) = false := lit_ne q0
          have HR := hid (HQ.out.trans (if_neg hz))
          clear hz q0 HQ
          go_wp2
          go_ret
          exact ⟨ret_kl .e _ HR.out rfl, rfl⟩
      by_cases h6 : s = nHist
      · subst h6
        have HQ : Hid (callK nHist ks = if ([.n, .v] : List K) = ks then .v else .e) := by unfold Hid; rw [callK_eq (by decide)]; rw [show takesK nHist = [.n, .v] by decide, show givesK nHist = .v by decide]
        by_cases hz : ([.n, .v] : List K) = ks
        · have q0 := (HZ.out ([.n, .v] : List K) (by decide)).2 hz
          have q1 : (z.toList == [110, 117, 109, 98, 101, 114, 44, 118, 101, 99, 116, 111, 114]) = true := lit_eq q0
          have HR := hid (HQ.out.trans (if_pos hz))
          clear hz q0 HQ
          go_wp2
          go_ret
          exact ⟨ret_kl .v _ HR.out rfl, rfl⟩
        · have q0 : z ≠ encB ([.n, .v] : List K) := fun e => hz ((HZ.out ([.n, .v] : List K) (by decide)).1 e)
          have q1 : (z.toList == [110, 117, 109, 98, 101, 114, 44, 118, 101, 99, 116, 111, 114]) = false := lit_ne q0
          have HR := hid (HQ.out.trans (if_neg hz))
          clear hz q0 HQ
          go_wp2
          go_ret
          exact ⟨ret_kl .e _ HR.out rfl, rfl⟩
      by_cases h7 : s = nJoin
      · subst h7
        have HQ := hid (callK_join ks)
        by_cases j4 : ks.length < 4
        · have j4' : (ks.length : Int) < 4 := by omega
          have HR : Hid (callK nJoin ks = .e) := by unfold Hid; rw [HQ.out, if_neg (fun h => absurd h.1 (by omega))]
          go_wp2
          go_ret
          exact ⟨ret_kl .e _ HR.out rfl, rfl⟩
        obtain ⟨b, off, rfl, hbl, c0⟩ := hasT_at2 HH.out 0 (by simp; omega)
        rw [getD_s ks 0 (by omega), Nat.add_zero] at c0
        obtain ⟨m, hm⟩ : ∃ m, ks.length = m + 1 := ⟨ks.length - 1, by omega⟩
        by_cases hx : ks.getD 0 .e = .v
        · have HX := hid hx
          rw [hx] at c0
          unfold K.s K.l at c0
          have HM := hid hm
          have j4' : ¬ ((m + 1 : Nat) : Int) < 4 := by omega
          have hm3 : 3 ≤ m := by omega
          rw [hm] at hc hk ⊢
          clear hm hx j4 hkk hlt
          go_wp2
          go_loop [64] (fun i => ∃ k : Nat, k ≤ m ∧ i = .int .i64 k ∧ Hid (∀ i, i < k → ks.getD (i + 1) .e = .t)) (fun i => m - (intOf i).toNat)
          case atStart => exact ⟨0, Nat.zero_le _, rfl, fun i hi => by omega⟩
          case round =>
            obtain ⟨k, hkk, rfl, HU⟩ := hrel
            by_cases hlt2 : k < m
            · obtain ⟨b2, off2, e2, _, c1⟩ := hasT_at2 HH.out (k + 1) (by rw [List.length_map, HM.out]; omega)
              injection e2 with e2
              injection e2 with e3 e4 _
              subst e3 e4
              rw [getD_s ks (k + 1) (by rw [HM.out]; omega), show off + (k + 1) = off + 1 + k by omega] at c1
              have i1 : (k : Int) < (m : Int) := by omega
              by_cases hy : ks.getD (k + 1) .e = .t
              · have HU2 : Hid (∀ i, i < k + 1 → ks.getD (i + 1) .e = .t) := fun i hi => by
                  by_cases e : i = k
                  · subst e; exact hy
                  · exact HU.out i (by omega)
                rw [hy] at c1
                unfold K.s K.l at c1
                clear hy
                go_wp2
                go_round
                case rel => exact ⟨k + 1, by omega, by go_num, HU2⟩
                case measure => simp [intOf]; omega
              · have q2 : (((ks.getD (k + 1) .e).s).toList == [116, 101, 120, 116]) = false := lit_ne (fun e => hy (K.inj (b := .t) e))
                have HR : Hid (callK nJoin ks = .e) := by unfold Hid; rw [HQ.out, if_neg (fun h => hy (h.2.2 k (by rw [HM.out]; omega)))]
                clear hy
                generalize (ks.getD (k + 1) .e).s = x at *
                go_wp2
                go_ret
                exact ⟨ret_kl .e _ HR.out rfl, rfl⟩
            · have HR : Hid (callK nJoin ks = .v) := by
                unfold Hid
                rw [HQ.out, if_pos ⟨by rw [HM.out]; omega, HX.out, fun i hi => HU.out i (by rw [HM.out] at hi; omega)⟩]
              go_wp2
              go_ret
              exact ⟨ret_kl .v _ HR.out rfl, rfl⟩
        · have q1 : (((ks.getD 0 .e).s).toList == [118, 101, 99, 116, 111, 114]) = false := lit_ne (fun e => hx (K.inj (b := .v) e))
          have j4' : ¬ (ks.length : Int) < 4 := by omega
          have HR : Hid (callK nJoin ks = .e) := by unfold Hid; rw [HQ.out, if_neg (fun h => absurd h.2.1 hx)]
          clear hx
          generalize (ks.getD 0 .e).s = x at *
          go_wp2
          go_ret
          exact ⟨ret_kl .e _ HR.out rfl, rfl⟩
      by_cases h8 : s = nSet
      · subst h8
        have HQ : Hid (callK nSet ks = if ([.v, .t, .t, .t, .t] : List K) = ks then .v else .e) := by unfold Hid; rw [callK_eq (by decide)]; rw [show takesK nSet = [.v, .t, .t, .t, .t] by decide, show givesK nSet = .v by decide]
        by_cases hz : ([.v, .t, .t, .t, .t] : List K) = ks
        · have q0 := (HZ.out ([.v, .t, .t, .t, .t] : List K) (by decide)).2 hz
          have q1 : (z.toList == [118, 101, 99, 116, 111, 114, 44, 116, 101, 120, 116, 44, 116, 101, 120, 116, 44, 116, 101, 120, 116, 44, 116, 101, 120, 116]) = true := lit_eq q0
          have HR := hid (HQ.out.trans (if_pos hz))
          clear hz q0 HQ
          go_wp2
          go_ret
          exact ⟨ret_kl .v _ HR.out rfl, rfl⟩
        · have q0 : z ≠ encB ([.v, .t, .t, .t, .t] : List K) := fun e => hz ((HZ.out ([.v, .t, .t, .t, .t] : List K) (by decide)).1 e)
          have q1 : (z.toList == [118, 101, 99, 116, 111, 114, 44, 116, 101, 120, 116, 44, 116, 101, 120, 116, 44, 116, 101, 120, 116, 44, 116, 101, 120, 116]) = false := lit_ne q0
          have HR := hid (HQ.out.trans (if_neg hz))
          clear hz q0 HQ
          go_wp2
          go_ret
          exact ⟨ret_kl .e _ HR.out rfl, rfl⟩
      by_cases h9 : s = nPredict
      · subst h9
        have HQ : Hid (callK nPredict ks = if ([.r, .n] : List K) = ks then .v else .e) := by unfold Hid; rw [callK_eq (by decide)]; rw [show takesK nPredict = [.r, .n] by decide, show givesK nPredict = .v by decide]
        by_cases hz : ([.r, .n] : List K) = ks
        · have q0 := (HZ.out ([.r, .n] : List K) (by decide)).2 hz
          have q1 : (z.toList == [114, 97, 110, 103, 101, 44, 110, 117, 109, 98, 101, 114]) = true := lit_eq q0
          have HR := hid (HQ.out.trans (if_pos hz))
          clear hz q0 HQ
          go_wp2
          go_ret
          exact ⟨ret_kl .v _ HR.out rfl, rfl⟩
        · have q0 : z ≠ encB ([.r, .n] : List K) := fun e => hz ((HZ.out ([.r, .n] : List K) (by decide)).1 e)
          have q1 : (z.toList == [114, 97, 110, 103, 101, 44, 110, 117, 109, 98, 101, 114]) = false := lit_ne q0
          have HR := hid (HQ.out.trans (if_neg hz))
          clear hz q0 HQ
          go_wp2
          go_ret
          exact ⟨ret_kl .e _ HR.out rfl, rfl⟩
      by_cases h10 : s = nQuant
      · subst h10
        have HQ : Hid (callK nQuant ks = if ([.n, .r] : List K) = ks then .v else .e) := by unfold Hid; rw [callK_eq (by decide)]; rw [show takesK nQuant = [.n, .r] by decide, show givesK nQuant = .v by decide]
        by_cases hz : ([.n, .r] : List K) = ks
        · have q0 := (HZ.out ([.n, .r] : List K) (by decide)).2 hz
          have q1 : (z.toList == [110, 117, 109, 98, 101, 114, 44, 114, 97, 110, 103, 101]) = true := lit_eq q0
          have HR := hid (HQ.out.trans (if_pos hz))
          clear hz q0 HQ
          go_wp2
          go_ret
          exact ⟨ret_kl .v _ HR.out rfl, rfl⟩
        · have q0 : z ≠ encB ([.n, .r] : List K) := fun e => hz ((HZ.out ([.n, .r] : List K) (by decide)).1 e)
          have q1 : (z.toList == [110, 117, 109, 98, 101, 114, 44, 114, 97, 110, 103, 101]) = false := lit_ne q0
          have HR := hid (HQ.out.trans (if_neg hz))
          clear hz q0 HQ
          go_wp2
          go_ret
          exact ⟨ret_kl .e _ HR.out rfl, rfl⟩
      by_cases h11 : s = nVector
      · subst h11
        have HQ : Hid (callK nVector ks = if ([.n] : List K) = ks then .v else .e) := by unfold Hid; rw [callK_eq (by decide)]; rw [show takesK nVector = [.n] by decide, show givesK nVector = .v by decide]
        by_cases hz : ([.n] : List K) = ks
        · have q0 := (HZ.out ([.n] : List K) (by decide)).2 hz
          have q1 : (z.toList == [110, 117, 109, 98, 101, 114]) = true := lit_eq q0
          have HR := hid (HQ.out.trans (if_pos hz))
          clear hz q0 HQ
          go_wp2
          go_ret
          exact ⟨ret_kl .v _ HR.out rfl, rfl⟩
        · have q0 : z ≠ encB ([.n] : List K) := fun e => hz ((HZ.out ([.n] : List K) (by decide)).1 e)
          have q1 : (z.toList == [110, 117, 109, 98, 101, 114]) = false := lit_ne q0
          have HR := hid (HQ.out.trans (if_neg hz))
          clear hz q0 HQ
          go_wp2
          go_ret
          exact ⟨ret_kl .e _ HR.out rfl, rfl⟩
      have HTK : Hid (takesK s = [.r] ∧ givesK s = .v ∧ moreK s = false) := by
        refine ⟨?_, ?_, ?_⟩
        · unfold takesK
          rw [if_neg h0, if_neg (by simp only [not_or]; exact ⟨h1, h2, h3, h4⟩), if_neg h5, if_neg h6, if_neg h7, if_neg h8, if_neg h9, if_neg h10, if_neg h11]
        · unfold givesK
          rw [if_neg (by simp only [not_or]; exact ⟨h0, h1⟩)]
        · unfold moreK
          exact decide_eq_false h7
      have l0 := lit_ne h0
      have l1 := lit_ne h1
      have l2 := lit_ne h2
      have l3 := lit_ne h3
      have l4 := lit_ne h4
      have l5 := lit_ne h5
      have l6 := lit_ne h6
      have l7 := lit_ne h7
      have l8 := lit_ne h8
      have l9 := lit_ne h9
      have l10 := lit_ne h10
      have l11 := lit_ne h11
      clear h0 h1 h2 h3 h4 h5 h6 h7 h8 h9 h10 h11
      have HQ : Hid (callK s ks = if ([.r] : List K) = ks then .v else .e) := by unfold Hid; rw [callK_eq HTK.out.2.2, HTK.out.1, HTK.out.2.1]
      by_cases hz : ([.r] : List K) = ks
      · have q0 := (HZ.out ([.r] : List K) (by decide)).2 hz
        have q1 : (z.toList == [114, 97, 110, 103, 101]) = true := lit_eq q0
        have HR := hid (HQ.out.trans (if_pos hz))
        clear hz q0 HQ
        go_wp2
        go_ret
        exact ⟨ret_kl .v _ HR.out rfl, rfl⟩
      · have q0 : z ≠ encB ([.r] : List K) := fun e => hz ((HZ.out ([.r] : List K) (by decide)).1 e)
        have q1 : (z.toList == [114, 97, 110, 103, 101]) = false := lit_ne q0
        have HR := hid (HQ.out.trans (if_neg hz))
        clear hz q0 HQ
        go_wp2
        go_ret
        exact ⟨ret_kl .e _ HR.out rfl, rfl⟩
end Go.Proofs.YtbdlahhejfamhaaGreatDoor.Qry
/- The model's l15Kind. -/
namespace Go.Proofs.YtbdlahhejfamhaaGreatDoor.Qry
open Go.RowKit
open Go.Proofs.YtbdlahhejfamhaaGreatDoor.Fil (HasT FitT)

theorem own_belowM {w w' : World} {base e size n : Nat} {v : Value} {xs : List Value} (h : w.ownsRow base e size v n xs) (hb : Below w.heap.size w w') : w'.ownsRow base e size v n xs :=
  h.kept (row := none) ⟨hb.os, hb.tape, hb.output, hb.size, fun k hk _ => hb.block k hk⟩ (by cases hv : v.ownBlock <;> simp)
theorem kids_at {ks : List Tr} {i : Nat} {t : Tr} (h : ks[i]? = some t) : (kdL ks).take (i + 1) = (kdL ks).take i ++ [kdT t] := by
  have hi : i < (kdL ks).length := by
    rw [kdL_len]
    rcases Nat.lt_or_ge i ks.length with h1 | h1
    · exact h1
    · rw [List.getElem?_eq_none h1] at h; cases h
  rw [List.take_add_one, List.getElem?_eq_getElem hi]
  congr 1
  have : (kdL ks)[i]? = some (kdT t) := by rw [kdL_map, List.getElem?_map, h]; rfl
  rw [List.getElem?_eq_getElem hi] at this
  rw [Option.some.inj this]
  rfl
def KmOk (n : Nat) : Prop := ∀ (t : Tr) (x : E) (w0 : World) (S : Nat → Prop) (w : World) (d : Nat), n + d = 13 → Gt NM d t → Ev w0 S w t x → Below w0.heap.size w0 w → Calls Tryz.prog 31 #[agX x] w fun e w' => e = .returned (.string (kdT t).s) ∧ Below w.heap.size w w'
theorem ret_km {k : K} (x : K) (s : ByteArray) (h : k = x) (hs : s = x.s) : Ending.returned (.string s) = .returned (.string k.s) := by rw [h, hs]
theorem cellK {w : World} {b : Nat} {cs : Array Value} {t : TypeId} (h : w.heap[b]? = some (.cells cs t)) (i : Nat) (v : Value) (hv : cs[i]? = some v) : w.cell? ⟨b, i, none⟩ = some v := by
  simp only [World.cell?, h]
  exact hv
def cntK (k : K) : Nat := if k = .n then 1 else 0
/-- The kinds that were counted. -/
structure CntK (k0 k1 : K) (i m : Nat) : Prop where
  z : i = 0 → m = 0
  k : 1 ≤ i → k0 = .n ∨ k0 = .v
  o : i = 1 → m = cntK k0
  t : i = 2 → (k1 = .n ∨ k1 = .v) ∧ m = cntK k0 + cntK k1
theorem CntK.le {k0 k1 : K} {m : Nat} (h : CntK k0 k1 1 m) : m ≤ 2 := by
  rw [h.o rfl]
  unfold cntK
  by_cases e : k0 = .n
  · rw [if_pos e]; omega
  · rw [if_neg e]; omega
theorem OwnK.cap {B : Nat} {w : World} {a : Option Addr} {c : Nat} {ks : List K} (h : OwnK B w a c ks) : ks.length ≤ c ∧ c ≤ maxLen := by
  rcases h.2 with ⟨h1, h2⟩ | ⟨g, cap, cur, h1, h2, h3, h4, h5, h6, h7⟩
  · simp only [Value.slice.injEq] at h1
    exact ⟨by omega, by rw [h1.2.2]; unfold maxLen; omega⟩
  · simp only [Value.slice.injEq] at h1
    rw [h1.2.2]
    exact ⟨h4, h5⟩
set_option maxHeartbeats 16000000 in
set_option maxRecDepth 100000 in
theorem kmStep (n : Nat) (ih : KmOk n) (q : R) (a : Option Addr) (xs : List E) (c : Nat) (ks : List Tr) (w0 : World) (S : Nat → Prop) (w : World) (d : Nat) (hd : n + 1 + d = 13) (hg : Gt NM d (.nd (pl q) ks)) (hh : HasE S w a xs) (hv : EvL w0 S w ks xs) (hb : Below w0.heap.size w0 w) :
    Calls Tryz.prog 31 #[agX ⟨q, a, xs.length, c⟩] w fun e w' => e = .returned (.string (kdq (pl q) (kdL ks)).s) ∧ Below w.heap.size w w' := by
  have IH := hid ih
  have HG := hid hg
  have HH := hid hh
  have HV := hid hv
  have HB := hid hb
  have HD := hid hd
  have HLn : Hid (xs.length = ks.length) := EvL.len _ _ hv
  have HP := hid (nm_parts hg)
  have HM : Hid (xs.length ≤ 10) := by
    obtain ⟨h1, h2, h3, h4, h5⟩ := HP.out
    have h6 := HLn.out
    unfold Hid
    rcases kind_cases h3 with g | g | g | g | g | g | g | g | g
    · rcases h4 with ⟨_, rfl⟩ | h4 | h4 | h4 | h4 | h4
      · simp at h6; simp [h6]
      all_goals omega
    · rcases h4 with ⟨_, rfl⟩ | h4 | h4 | h4 | h4 | h4
      · simp at h6; simp [h6]
      all_goals omega
    · rcases h4 with ⟨_, rfl⟩ | h4 | h4 | h4 | h4 | h4
      · simp at h6; simp [h6]
      all_goals omega
    · rcases h4 with h4 | ⟨_, k, rfl, _⟩ | h4 | h4 | h4 | h4
      · omega
      · simp at h6; omega
      all_goals omega
    · rcases h4 with h4 | h4 | ⟨_, k, rfl⟩ | h4 | h4 | h4
      · omega
      · omega
      · simp at h6; omega
      all_goals omega
    · rcases h4 with h4 | h4 | ⟨_, k, rfl⟩ | h4 | h4 | h4
      · omega
      · omega
      · simp at h6; omega
      all_goals omega
    · rcases h4 with h4 | h4 | h4 | ⟨_, k, l, rfl⟩ | h4 | h4
      · omega
      · omega
      · omega
      · simp at h6; omega
      all_goals omega
    · rw [right_8 g] at h3
      unfold rAgg at h3
      simp only [Bool.and_eq_true, decide_eq_true_eq] at h3
      have h7 := h3.2
      by_cases e6 : 6 ≤ (pl q).op
      · rw [if_pos e6] at h7; omega
      · rw [if_neg e6] at h7; omega
    · rw [right_9 g] at h3
      simp only [Bool.and_eq_true, decide_eq_true_eq] at h3
      have := h3.2
      omega
  obtain ⟨X, hX⟩ : ∃ X, X = w.alloc (EO q a xs.length c) := ⟨_, rfl⟩
  have hXB : Below w.heap.size w X := by rw [hX]; exact (Below.refl _ _).alloc (Nat.le_refl _) _
  have hXN := congrArg (fun (x : World) => x.heap[w.heap.size]?) hX
  rw [heap_alloc_new] at hXN
  have HXN := hid hXN
  have HXB := hid hXB
  have HXX := hid hX
  have x15 : X.cell? ⟨w.heap.size, 15, none⟩ = some (.slice a xs.length c) := cellK hXN 15 _ rfl
  clear hX hXB hXN hg hh hv hb hd ih
  obtain ⟨i0, hi, hz0, hz1, hz2⟩ := info_parts infoS
  go_enter Tryz.func31, Tryz.ntmps31
  go_upto_region 1 with fail
  rw [← HXX.out]
  clear HXX
  go_wp2
  go_loopw [3, 13] (fun so si wr => ∃ (k c' : Nat) (a' : Option Addr), k ≤ xs.length ∧ si = .int .i64 k ∧ so = .slice a' k c' ∧ Hid (wr.ownsRow X.heap.size 9 1 (.slice a' k c') k (((kdL ks).take k).map fun x => Value.string x.s)) ∧ Hid (Below X.heap.size X wr) ∧ Hid (K.e ∉ (kdL ks).take k)) (fun _ si _ => xs.length - (intOf si).toNat)
  case atStart => exact ⟨0, 0, none, Nat.zero_le _, rfl, rfl, ⟨by simp, .inl ⟨rfl, rfl⟩⟩, Below.refl _ _, by unfold Hid; simp⟩
  case round =>
    obtain ⟨k, c', a', hk, rfl, rfl, HO, HBW, HNE⟩ := hrel
    have hbd : xs.length ≤ 10 := HM.out
    by_cases hlt : k < xs.length
    · have hlk : k < ks.length := by have := HLn.out; omega
      obtain ⟨tk, xk, e1, e2, e3⟩ := EvL.at_ _ _ HV.out k hlk
      have HE1 := hid e1
      rcases HH.out with hr0 | ⟨b, off, hab, _, hbl, hc⟩
      · exact absurd hlt (by rw [hr0]; simp)
      have hXW := HXB.out.size
      have hxk : xs[k] = xk := by rw [List.getElem?_eq_getElem hlt] at e2; exact Option.some.inj e2
      have HC : Hid (∀ j, j < 16 → wr.cell? ⟨b, off + k * 16 + j, none⟩ = (clE xk)[j]?) := fun j hj => by
        rw [← hxk, ← hc k hlt j hj]
        exact (HBW.out.cell (p := ⟨b, off + k * 16 + j, none⟩) (by show b < _; omega)).trans (HXB.out.cell (p := ⟨b, off + k * 16 + j, none⟩) hbl)
      have HX2 := hid (HXB.out.trans (HBW.out.mono HXB.out.size))
      have HEk : Hid (Ev w0 S wr tk xk) := Ev.agr (Agr.below HX2.out) tk xk e3
      have i1 : (k : Int) < (xs.length : Int) := by omega
      obtain rfl := hab
      clear hc e1 e2 e3 hxk
      have c0 := HC.out 0 (by omega)
      rw [Nat.add_zero] at c0
      have c1 := HC.out 1 (by omega)
      have c2 := HC.out 2 (by omega)
      have c3 := HC.out 3 (by omega)
      have c4 := HC.out 4 (by omega)
      have c5 := HC.out 5 (by omega)
      have c6 := HC.out 6 (by omega)
      have c7 := HC.out 7 (by omega)
      have c8 := HC.out 8 (by omega)
      have c9 := HC.out 9 (by omega)
      have c10 := HC.out 10 (by omega)
      have c11 := HC.out 11 (by omega)
      have c12 := HC.out 12 (by omega)
      have c13 := HC.out 13 (by omega)
      have c14 := HC.out 14 (by omega)
      have c15 := HC.out 15 (by omega)
      have hbl2 : b < wr.heap.size := Nat.lt_of_lt_of_le hbl HX2.out.size
      simp only [clE, cl, List.cons_append, List.nil_append, List.getElem?_cons_zero, List.getElem?_cons_succ] at c0 c1 c2 c3 c4 c5 c6 c7 c8 c9 c10 c11 c12 c13 c14 c15
      obtain ⟨Y, hY⟩ : ∃ Y, Y = wr.alloc (EO xk.q xk.a xk.n xk.c) := ⟨_, rfl⟩
      have hYB : Below wr.heap.size wr Y := by rw [hY]; exact (Below.refl _ _).alloc (Nat.le_refl _) _
      have hYN := congrArg (fun (x : World) => x.heap[wr.heap.size]?) hY
      rw [heap_alloc_new] at hYN
      have HYB := hid hYB
      have HYY := hid hY
      have HYX := hid (HX2.out.trans (hYB.mono HX2.out.size))
      have HCA := hid (IH.out tk xk w0 _ Y (d + 1) (by have := HD.out; omega) (GtL_mem.1 HP.out.2.2.2.2 tk (List.mem_of_getElem? HE1.out)) (Ev.agr (Agr.below hYB) tk xk HEk.out) (HB.out.trans (HYX.out.mono HB.out.size)))
      have HTK := hid (kids_at HE1.out)
      have HOY := hid (own_belowM HO.out hYB)
      have HIN : Hid (kdT tk ∈ kdL ks) := by
        unfold Hid; rw [kdL_map]; exact List.mem_map.2 ⟨tk, List.mem_of_getElem? HE1.out, rfl⟩
      obtain ⟨d0, d1, d2, d3, d4, d5, d6, d7, d8, d9, d10, d11, d12, d13, d14, d15⟩ := sixteen hYN
      clear hY hYB hYN
      go_upto_region 5 with fail
      rw [← HYY.out]
      clear HYY c0 c1 c2 c3 c4 c5 c6 c7 c8 c9 c10 c11 c12 c13 c14 c15 HC
      generalize hkk : kdT tk = kk at HCA HTK HIN
      clear hkk
      by_cases hke : kk = .e
      · subst hke
        have HR := hid (kdq_none HG.out HIN.out)
        unfold K.s K.l at HCA
        go_wp2_with (go_at_call 31; refine HCA.out.mono ?_; rintro e w3 ⟨rfl, hb3⟩; have HB3 := hid hb3; clear hb3)
        go_ret
        exact ⟨ret_km .e _ HR.out rfl, HYX.out.trans (HB3.out.mono HYX.out.size)⟩
      · have q0 : kk.s.toList.isEmpty = false := some_str (fun e => hke (K.inj (b := .e) e))
        have HKE := hid hke
        clear hke
        go_wp2_with (first | (go_at_call 31; refine HCA.out.mono ?_; rintro e w3 ⟨rfl, hb3⟩; have HB3 := hid hb3; have HO3 := hid (own_belowM HOY.out hb3); clear hb3) | (at_builtin; refine wpList_append_own _ rfl (.tmp 21) (.tmp 23) 50 rfl X.heap.size 9 i0 (.string ByteArray.empty) 1 16 Tryz.underlying50 hi hz0 hz1 hz2 rfl (by decide) _ _ _ rfl (World.ownsRow.alloc HO3.out _) ⟨w3.heap.size, 0, none⟩ 1 1 [.string kk.s] rfl rfl ?d1 ?d2 ?d3 ?d4 ?d5 ?_))
        case d1 => exact one_cellsK w3 (.string kk.s) 9
        case d2 => intro u hu; simp at hu; rcases hu with rfl; rfl
        case d3 => unfold maxLen; omega
        case d4 => omega
        case d5 => simp; have := HBW.out.size; have := HB3.out.size; have := HYB.out.size; omega
        intro v1 w4 hown1 hgr1 _
        have HBX : Hid (Below X.heap.size X w3) := HBW.out.trans ((HYB.out.trans (HB3.out.mono HYB.out.size)).mono HBW.out.size)
        have HB4 := hid ((HBX.out.alloc HBX.out.size (.cells #[.string kk.s] 9)).grown hgr1 (by have := HBX.out.size; simp; omega) (fun j hj => (World.ownsRow.lt HO3.out j hj).1))
        obtain ⟨a4, c4, rfl⟩ := own_formK hown1
        have HO4 : Hid (w4.ownsRow X.heap.size 9 1 (.slice a4 (k + 1) c4) (k + 1) (((kdL ks).take (k + 1)).map fun x => Value.string x.s)) := by
          unfold Hid
          rw [HTK.out, List.map_append]
          simpa using hown1
        have HNE4 : Hid (K.e ∉ (kdL ks).take (k + 1)) := by
          unfold Hid
          rw [HTK.out]
          intro h
          rcases List.mem_append.1 h with h | h
          · exact HNE.out h
          · exact HKE.out (List.mem_singleton.1 h).symm
        clear hown1 hgr1
        go_wp2
        go_roundw
        case rel => exact ⟨k + 1, c4, a4, by omega, by go_num, rfl, HO4.out, HB4.out, HNE4.out⟩
        case measure => simp [intOf]; omega
    · have HE : Hid (ks.length = k) := by have := HLn.out; unfold Hid; omega
      have HOK : Hid (OwnK X.heap.size wr a' c' (kdL ks)) := by
        have h := HO.out
        have e : (kdL ks).length = k := by rw [kdL_len, HE.out]
        unfold Hid OwnK
        rw [e]
        rw [List.take_of_length_le (by omega)] at h
        exact h
      have HNA : Hid (∀ x ∈ kdL ks, x ≠ K.e) := by
        have h := HNE.out
        rw [List.take_of_length_le (by rw [kdL_len, HE.out]; exact Nat.le_refl _)] at h
        intro x hx e
        rw [e] at hx
        exact h hx
      have HX2 := hid (HXB.out.trans (HBW.out.mono HXB.out.size))
      have hXW : w.heap.size < X.heap.size := by
        have := HXN.out
        rcases Nat.lt_or_ge w.heap.size X.heap.size with h1 | h1
        · exact h1
        · rw [Array.getElem?_eq_none h1] at this; cases this
      have HC : Hid (∀ j v, (arX ⟨q, a, xs.length, c⟩)[j]? = some v → wr.cell? ⟨w.heap.size, j, none⟩ = some v) := fun j v h => (HBW.out.cell (p := ⟨w.heap.size, j, none⟩) hXW).trans (cellK HXN.out j v h)
      have b0 : wr.cell? ⟨w.heap.size, 0, none⟩ = some (.int .i64 q.kd) := HC.out 0 _ rfl
      have HKD : Hid ((pl q).kd = q.kd) := rfl
      clear HO HNE x15
      rcases kind_cases HP.out.2.2.1 with g | g | g | g | g | g | g | g | g
      · have HR : Hid (kdq (pl q) (kdL ks) = .n) := by unfold Hid kdq; simp [g]
        have g' : q.kd = 1 := g
        rw [g'] at b0
        clear g g'
        go_wp2
        go_ret
        exact ⟨ret_km .n _ HR.out rfl, HX2.out⟩
      · have HR : Hid (kdq (pl q) (kdL ks) = .t) := by unfold Hid kdq; simp [g]
        have g' : q.kd = 2 := g
        rw [g'] at b0
        clear g g'
        go_wp2
        go_ret
        exact ⟨ret_km .t _ HR.out rfl, HX2.out⟩
      · have HR : Hid (kdq (pl q) (kdL ks) = .v) := by unfold Hid kdq; simp [g]
        have g' : q.kd = 3 := g
        rw [g'] at b0
        clear g g'
        go_wp2
        go_ret
        exact ⟨ret_km .v _ HR.out rfl, HX2.out⟩
      · have HR : Hid (kdq (pl q) (kdL ks) = .r) := by unfold Hid kdq; simp [g]
        have g' : q.kd = 4 := g
        rw [g'] at b0
        clear g g'
        go_wp2
        go_ret
        exact ⟨ret_km .r _ HR.out rfl, HX2.out⟩
      · have g' : q.kd = 5 := g
        have h1 : ks.length = 1 := by
          rcases HP.out.2.2.2.1 with h | h | ⟨_, x, rfl⟩ | h | h | h
          · omega
          · omega
          · rfl
          all_goals omega
        obtain ⟨k0, hk0⟩ : ∃ k0, kdL ks = [k0] := List.length_eq_one_iff.1 (by rw [kdL_len]; exact h1)
        obtain rfl : k = 1 := by have := HE.out; omega
        obtain ⟨g0, hg0, _, hg2, hg3, c0⟩ := OwnK.at_ HOK.out 0 k0 (by rw [hk0]; rfl)
        subst hg0
        have HKR : Hid (kdq (pl q) (kdL ks) = if k0.val then .r else .e) := by unfold Hid; rw [hk0]; unfold kdq; simp [g]
        have hne0 : k0 ≠ .e := HNA.out k0 (by rw [hk0]; exact List.mem_cons_self)
        rw [g'] at b0
        clear g g' h1 hk0 HOK
        cases k0
        · exact absurd rfl hne0
        · unfold K.s K.l at c0
          go_wp2
          go_ret
          exact ⟨ret_km .r _ HKR.out rfl, HX2.out⟩
        · unfold K.s K.l at c0
          go_wp2
          go_ret
          exact ⟨ret_km .e _ HKR.out rfl, HX2.out⟩
        · unfold K.s K.l at c0
          go_wp2
          go_ret
          exact ⟨ret_km .r _ HKR.out rfl, HX2.out⟩
        · unfold K.s K.l at c0
          go_wp2
          go_ret
          exact ⟨ret_km .e _ HKR.out rfl, HX2.out⟩
      · have g' : q.kd = 6 := g
        have h1 : ks.length = 1 := by
          rcases HP.out.2.2.2.1 with h | h | ⟨_, x, rfl⟩ | h | h | h
          · omega
          · omega
          · rfl
          all_goals omega
        obtain ⟨k0, hk0⟩ : ∃ k0, kdL ks = [k0] := List.length_eq_one_iff.1 (by rw [kdL_len]; exact h1)
        obtain rfl : k = 1 := by have := HE.out; omega
        obtain ⟨g0, hg0, _, hg2, hg3, c0⟩ := OwnK.at_ HOK.out 0 k0 (by rw [hk0]; rfl)
        subst hg0
        have HKR : Hid (kdq (pl q) (kdL ks) = if k0.val then k0 else .e) := by unfold Hid; rw [hk0]; unfold kdq; simp [g]
        have hne0 : k0 ≠ .e := HNA.out k0 (by rw [hk0]; exact List.mem_cons_self)
        rw [g'] at b0
        clear g g' h1 hk0 HOK
        cases k0
        · exact absurd rfl hne0
        · unfold K.s K.l at c0
          go_wp2
          go_ret
          exact ⟨ret_km .n _ HKR.out rfl, HX2.out⟩
        · unfold K.s K.l at c0
          go_wp2
          go_ret
          exact ⟨ret_km .e _ HKR.out rfl, HX2.out⟩
        · unfold K.s K.l at c0
          go_wp2
          go_ret
          exact ⟨ret_km .v _ HKR.out rfl, HX2.out⟩
        · unfold K.s K.l at c0
          go_wp2
          go_ret
          exact ⟨ret_km .e _ HKR.out rfl, HX2.out⟩
      · have g' : q.kd = 7 := g
        have h1 : ks.length = 2 := by
          rcases HP.out.2.2.2.1 with h | h | h | ⟨_, x, y, rfl⟩ | h | h
          · omega
          · omega
          · omega
          · rfl
          all_goals omega
        have HOP : Hid (1 ≤ q.op ∧ q.op ≤ 14) := by
          have h := HP.out.2.2.1
          rw [right_7 (r := pl q) g] at h
          unfold rOp at h
          simp only [Bool.and_eq_true, decide_eq_true_eq] at h
          exact h.1.1.1.1
        obtain ⟨k0, k1, hk0⟩ : ∃ k0 k1, kdL ks = [k0, k1] := len2.1 (by rw [kdL_len]; exact h1)
        obtain rfl : k = 2 := by have := HE.out; omega
        obtain ⟨g0, hg0, _, hg2, hg3, c0⟩ := OwnK.at_ HOK.out 0 k0 (by rw [hk0]; rfl)
        obtain ⟨g1, hg1, _, _, hg4, c1⟩ := OwnK.at_ HOK.out 1 k1 (by rw [hk0]; rfl)
        subst hg0
        obtain rfl : g1 = g0 := by injection hg1 with e; injection e with e _ _; exact e.symm
        have hne0 : k0 ≠ .e := HNA.out k0 (by rw [hk0]; exact List.mem_cons_self)
        have hne1 : k1 ≠ .e := HNA.out k1 (by rw [hk0]; simp)
        have HKR : Hid (kdq (pl q) (kdL ks) = opK (pl q) k0 k1) := by
          unfold Hid
          rw [hk0]
          unfold kdq
          rw [if_neg (by omega), if_neg (by omega), if_neg (by omega), if_neg (by omega), if_neg (by omega), if_neg (by omega), if_pos g]
          rfl
        have b4 : wr.cell? ⟨w.heap.size, 4, none⟩ = some (.int .i64 q.op) := HC.out 4 _ rfl
        have b9 : wr.cell? ⟨w.heap.size, 9, none⟩ = some (.bool q.bo) := HC.out 9 _ rfl
        have b10 : wr.cell? ⟨w.heap.size, 10, none⟩ = some (.int .i64 q.byy) := HC.out 10 _ rfl
        rw [g'] at b0
        clear g g' h1 hk0 HOK hg1
        go_wp2
        go_loop [7, 68] (fun sn si => ∃ i m : Nat, i ≤ 2 ∧ si = .int .i64 i ∧ sn = .int .i64 m ∧ Hid (CntK k0 k1 i m)) (fun _ si => 2 - (intOf si).toNat)
        case atStart => exact ⟨0, 0, by omega, rfl, rfl, ⟨fun _ => rfl, fun h => by omega, fun h => by omega, fun h => by omega⟩⟩
        case round =>
          obtain ⟨i, m, hi2, rfl, rfl, HS⟩ := hrel
          by_cases i0 : i = 0
          · subst i0
            obtain rfl : m = 0 := HS.out.z rfl
            cases k0
            · exact absurd rfl hne0
            · unfold K.s K.l at c0
              go_wp2
              go_round
              case rel => exact ⟨1, 1, by omega, by go_num, by go_num, ⟨fun h => by omega, fun _ => by simp, fun _ => rfl, fun h => by omega⟩⟩
              case measure => simp [intOf]
            · have HR := hid (HKR.out.trans (show opK (pl q) .t k1 = .e by unfold opK; exact if_pos (.inl rfl)))
              unfold K.s K.l at c0
              go_wp2
              go_ret
              exact ⟨ret_km .e _ HR.out rfl, HX2.out⟩
            · unfold K.s K.l at c0
              go_wp2
              go_round
              case rel => exact ⟨1, 0, by omega, by go_num, by go_num, ⟨fun h => by omega, fun _ => by simp, fun _ => rfl, fun h => by omega⟩⟩
              case measure => simp [intOf]
            · have HR := hid (HKR.out.trans (show opK (pl q) .r k1 = .e by unfold opK; exact if_pos (.inl rfl)))
              unfold K.s K.l at c0
              go_wp2
              go_ret
              exact ⟨ret_km .e _ HR.out rfl, HX2.out⟩
          by_cases i1 : i = 1
          · subst i1
            have hk0 := HS.out.k (by omega)
            have hm := HS.out.o rfl
            cases k1
            · exact absurd rfl hne1
            · have HS2 : Hid (CntK k0 .n 2 (m + 1)) := ⟨fun h => by omega, fun _ => hk0, fun h => by omega, fun _ => ⟨by simp, by rw [hm]; rfl⟩⟩
              clear hk0 hm
              have hm9 : m ≤ 2 := CntK.le HS.out
              unfold K.s K.l at c1
              go_wp2
              go_round
              case rel => exact ⟨2, m + 1, by omega, by go_num, by go_num, HS2⟩
              case measure => simp [intOf]
            · have HR := hid (HKR.out.trans (show opK (pl q) k0 .t = .e by unfold opK; exact if_pos (.inr rfl)))
              clear hk0 hm
              unfold K.s K.l at c1
              go_wp2
              go_ret
              exact ⟨ret_km .e _ HR.out rfl, HX2.out⟩
            · have HS2 : Hid (CntK k0 .v 2 (m + 0)) := ⟨fun h => by omega, fun _ => hk0, fun h => by omega, fun _ => ⟨by simp, by rw [hm]; rfl⟩⟩
              clear hk0 hm
              have hm9 : m ≤ 2 := CntK.le HS.out
              unfold K.s K.l at c1
              go_wp2
              go_round
              case rel => exact ⟨2, m + 0, by omega, by go_num, by go_num, HS2⟩
              case measure => simp [intOf]
            · have HR := hid (HKR.out.trans (show opK (pl q) k0 .r = .e by unfold opK; exact if_pos (.inr rfl)))
              clear hk0 hm
              unfold K.s K.l at c1
              go_wp2
              go_ret
              exact ⟨ret_km .e _ HR.out rfl, HX2.out⟩
          obtain rfl : i = 2 := by omega
          have hk0 := HS.out.k (by omega)
          have hm := HS.out.t rfl
          clear i0 i1
          rcases hk0 with rfl | rfl
          · rcases hm.1 with rfl | rfl
            · obtain rfl : m = 2 := hm.2
              clear hm
              by_cases o : 11 < q.op
              · have HR := hid (HKR.out.trans (show opK (pl q) .n .n = .e by unfold opK; rw [if_neg (by decide), if_neg (by decide)]; exact if_pos (.inr (show 12 ≤ q.op by omega))))
                clear HKR
                go_wp2_with (go_at_call 62; refine (f62 q.op _).mono ?_; rintro e w3 ⟨rfl, hw3⟩; have hw3' := hw3.symm; clear hw3; subst hw3')
                go_ret
                exact ⟨ret_km .e _ HR.out rfl, HX2.out⟩
              by_cases y : q.byy = 0
              case neg =>
                have HR := hid (HKR.out.trans (show opK (pl q) .n .n = .e by unfold opK; rw [if_neg (by decide), if_neg (by decide)]; exact if_pos (.inl y)))
                clear HKR
                go_wp2_with (go_at_call 62; refine (f62 q.op _).mono ?_; rintro e w3 ⟨rfl, hw3⟩; have hw3' := hw3.symm; clear hw3; subst hw3')
                go_ret
                exact ⟨ret_km .e _ HR.out rfl, HX2.out⟩
              have HN : ¬ ((pl q).byy ≠ 0 ∨ 12 ≤ (pl q).op) := by rintro (h | h); exact h y; exact o (show 11 < q.op from h)
              by_cases s6 : 6 ≤ q.op
              case neg =>
                have HR := hid (HKR.out.trans (show opK (pl q) .n .n = .n by unfold opK; rw [if_neg (by decide), if_neg (by decide)]; rw [if_neg HN, if_neg (by decide)]; exact if_neg (fun h => s6 h.1)))
                clear HKR
                go_wp2_with (go_at_call 62; refine (f62 q.op _).mono ?_; rintro e w3 ⟨rfl, hw3⟩; have hw3' := hw3.symm; clear hw3; subst hw3')
                go_ret
                exact ⟨ret_km .n _ HR.out rfl, HX2.out⟩
              have s7 : q.op ≤ 11 := by omega
              cases hbo : q.bo with
              | false =>
                have HR := hid (HKR.out.trans (show opK (pl q) .n .n = .e by unfold opK; rw [if_neg (by decide), if_neg (by decide)]; rw [if_neg HN, if_neg (by decide)]; exact if_pos ⟨s6, hbo⟩))
                clear HKR
                go_wp2_with (go_at_call 62; refine (f62 q.op _).mono ?_; rintro e w3 ⟨rfl, hw3⟩; have hw3' := hw3.symm; clear hw3; subst hw3')
                go_ret
                exact ⟨ret_km .e _ HR.out rfl, HX2.out⟩
              | true =>
                have HR := hid (HKR.out.trans (show opK (pl q) .n .n = .n by unfold opK; rw [if_neg (by decide), if_neg (by decide)]; rw [if_neg HN, if_neg (by decide)]; exact if_neg (fun h => by have h2 : q.bo = false := h.2; rw [hbo] at h2; cases h2)))
                clear HKR
                go_wp2_with (go_at_call 62; refine (f62 q.op _).mono ?_; rintro e w3 ⟨rfl, hw3⟩; have hw3' := hw3.symm; clear hw3; subst hw3')
                go_ret
                exact ⟨ret_km .n _ HR.out rfl, HX2.out⟩
            · obtain rfl : m = 1 := hm.2
              clear hm
              by_cases o : 11 < q.op
              · have HR := hid (HKR.out.trans (show opK (pl q) .n .v = .e by unfold opK; rw [if_neg (by decide), if_neg (by decide)]; exact if_pos (.inr (show 12 ≤ q.op by omega))))
                clear HKR
                go_wp2_with (go_at_call 62; refine (f62 q.op _).mono ?_; rintro e w3 ⟨rfl, hw3⟩; have hw3' := hw3.symm; clear hw3; subst hw3')
                go_ret
                exact ⟨ret_km .e _ HR.out rfl, HX2.out⟩
              by_cases y : q.byy = 0
              case neg =>
                have HR := hid (HKR.out.trans (show opK (pl q) .n .v = .e by unfold opK; rw [if_neg (by decide), if_neg (by decide)]; exact if_pos (.inl y)))
                clear HKR
                go_wp2_with (go_at_call 62; refine (f62 q.op _).mono ?_; rintro e w3 ⟨rfl, hw3⟩; have hw3' := hw3.symm; clear hw3; subst hw3')
                go_ret
                exact ⟨ret_km .e _ HR.out rfl, HX2.out⟩
              have HN : ¬ ((pl q).byy ≠ 0 ∨ 12 ≤ (pl q).op) := by rintro (h | h); exact h y; exact o (show 11 < q.op from h)
              have HR := hid (HKR.out.trans (show opK (pl q) .n .v = .v by unfold opK; rw [if_neg (by decide), if_neg (by decide)]; rw [if_neg HN]; exact if_pos (by decide)))
              clear HKR
              go_wp2_with (go_at_call 62; refine (f62 q.op _).mono ?_; rintro e w3 ⟨rfl, hw3⟩; have hw3' := hw3.symm; clear hw3; subst hw3')
              go_ret
              exact ⟨ret_km .v _ HR.out rfl, HX2.out⟩
          · rcases hm.1 with rfl | rfl
            · obtain rfl : m = 1 := hm.2
              clear hm
              by_cases o : 11 < q.op
              · have HR := hid (HKR.out.trans (show opK (pl q) .v .n = .e by unfold opK; rw [if_neg (by decide), if_neg (by decide)]; exact if_pos (.inr (show 12 ≤ q.op by omega))))
                clear HKR
                go_wp2_with (go_at_call 62; refine (f62 q.op _).mono ?_; rintro e w3 ⟨rfl, hw3⟩; have hw3' := hw3.symm; clear hw3; subst hw3')
                go_ret
                exact ⟨ret_km .e _ HR.out rfl, HX2.out⟩
              by_cases y : q.byy = 0
              case neg =>
                have HR := hid (HKR.out.trans (show opK (pl q) .v .n = .e by unfold opK; rw [if_neg (by decide), if_neg (by decide)]; exact if_pos (.inl y)))
                clear HKR
                go_wp2_with (go_at_call 62; refine (f62 q.op _).mono ?_; rintro e w3 ⟨rfl, hw3⟩; have hw3' := hw3.symm; clear hw3; subst hw3')
                go_ret
                exact ⟨ret_km .e _ HR.out rfl, HX2.out⟩
              have HN : ¬ ((pl q).byy ≠ 0 ∨ 12 ≤ (pl q).op) := by rintro (h | h); exact h y; exact o (show 11 < q.op from h)
              have HR := hid (HKR.out.trans (show opK (pl q) .v .n = .v by unfold opK; rw [if_neg (by decide), if_neg (by decide)]; rw [if_neg HN]; exact if_pos (by decide)))
              clear HKR
              go_wp2_with (go_at_call 62; refine (f62 q.op _).mono ?_; rintro e w3 ⟨rfl, hw3⟩; have hw3' := hw3.symm; clear hw3; subst hw3')
              go_ret
              exact ⟨ret_km .v _ HR.out rfl, HX2.out⟩
            · obtain rfl : m = 0 := hm.2
              clear hm
              have HR := hid (HKR.out.trans (show opK (pl q) .v .v = .v by unfold opK; rw [if_neg (by decide)]; exact if_pos (by decide)))
              clear HKR
              go_wp2_with (go_at_call 62; refine (f62 q.op _).mono ?_; rintro e w3 ⟨rfl, hw3⟩; have hw3' := hw3.symm; clear hw3; subst hw3')
              go_ret
              exact ⟨ret_km .v _ HR.out rfl, HX2.out⟩
      · have g' : q.kd = 8 := g
        have hkc : (pl q).kc = if 6 ≤ (pl q).op then 2 else 1 := by
          have h := HP.out.2.2.1
          rw [right_8 g] at h
          unfold rAgg at h
          simp only [Bool.and_eq_true, decide_eq_true_eq] at h
          exact h.2
        have hkl : ((pl q).kc : Int) = ks.length := HP.out.1
        have HKR : Hid (kdq (pl q) (kdL ks) = aggK (pl q) (kdL ks)) := by
          unfold Hid kdq
          rw [if_neg (by omega), if_neg (by omega), if_neg (by omega), if_neg (by omega), if_neg (by omega), if_neg (by omega), if_neg (by omega), if_pos g]
        unfold aggK at HKR
        rw [g'] at b0
        by_cases h6 : 6 ≤ (pl q).op
        · rw [if_pos h6] at hkc HKR
          have h1 : ks.length = 2 := by omega
          obtain ⟨k0, k1, hk0⟩ : ∃ k0 k1, kdL ks = [k0, k1] := len2.1 (by rw [kdL_len]; exact h1)
          obtain rfl : k = 2 := by have := HE.out; omega
          obtain ⟨g0, hg0, _, hg2, hg3, c0⟩ := OwnK.at_ HOK.out 0 k0 (by rw [hk0]; rfl)
          obtain ⟨g1, hg1, _, _, hg4, c1⟩ := OwnK.at_ HOK.out 1 k1 (by rw [hk0]; rfl)
          subst hg0
          obtain rfl : g1 = g0 := by injection hg1 with e; injection e with e _ _; exact e.symm
          have hne0 : k0 ≠ .e := HNA.out k0 (by rw [hk0]; exact List.mem_cons_self)
          have hne1 : k1 ≠ .e := HNA.out k1 (by rw [hk0]; simp)
          have HKQ : Hid (kdq (pl q) (kdL ks) = if [k0, k1] = ([.n, .v] : List K) then .v else .e) := by rw [← hk0]; exact HKR
          replace HKR := HKQ
          clear g g' hkc hkl h6 h1 hk0 HOK hg1 HKQ
          cases k0
          · exact absurd rfl hne0
          · cases k1
            · exact absurd rfl hne1
            · unfold K.s K.l at c0 c1
              go_wp2
              go_ret
              exact ⟨ret_km .e _ HKR.out rfl, HX2.out⟩
            · unfold K.s K.l at c0 c1
              go_wp2
              go_ret
              exact ⟨ret_km .e _ HKR.out rfl, HX2.out⟩
            · unfold K.s K.l at c0 c1
              go_wp2
              go_ret
              exact ⟨ret_km .v _ HKR.out rfl, HX2.out⟩
            · unfold K.s K.l at c0 c1
              go_wp2
              go_ret
              exact ⟨ret_km .e _ HKR.out rfl, HX2.out⟩
          · unfold K.s K.l at c0
            go_wp2
            go_ret
            exact ⟨ret_km .e _ HKR.out rfl, HX2.out⟩
          · unfold K.s K.l at c0
            go_wp2
            go_ret
            exact ⟨ret_km .e _ HKR.out rfl, HX2.out⟩
          · unfold K.s K.l at c0
            go_wp2
            go_ret
            exact ⟨ret_km .e _ HKR.out rfl, HX2.out⟩
        · rw [if_neg h6] at hkc HKR
          have h1 : ks.length = 1 := by omega
          obtain ⟨k0, hk0⟩ : ∃ k0, kdL ks = [k0] := List.length_eq_one_iff.1 (by rw [kdL_len]; exact h1)
          obtain rfl : k = 1 := by have := HE.out; omega
          obtain ⟨g0, hg0, _, hg2, hg3, c0⟩ := OwnK.at_ HOK.out 0 k0 (by rw [hk0]; rfl)
          subst hg0
          have hne0 : k0 ≠ .e := HNA.out k0 (by rw [hk0]; exact List.mem_cons_self)
          have HKQ : Hid (kdq (pl q) (kdL ks) = if [k0] = ([.v] : List K) then .v else .e) := by rw [← hk0]; exact HKR
          replace HKR := HKQ
          clear g g' hkc hkl h6 h1 hk0 HOK HKQ
          cases k0
          · exact absurd rfl hne0
          · unfold K.s K.l at c0
            go_wp2
            go_ret
            exact ⟨ret_km .e _ HKR.out rfl, HX2.out⟩
          · unfold K.s K.l at c0
            go_wp2
            go_ret
            exact ⟨ret_km .e _ HKR.out rfl, HX2.out⟩
          · unfold K.s K.l at c0
            go_wp2
            go_ret
            exact ⟨ret_km .v _ HKR.out rfl, HX2.out⟩
          · unfold K.s K.l at c0
            go_wp2
            go_ret
            exact ⟨ret_km .e _ HKR.out rfl, HX2.out⟩
      · have g' : q.kd = 9 := g
        have b3 : wr.cell? ⟨w.heap.size, 3, none⟩ = some (.string q.tx) := HC.out 3 _ rfl
        have HR : Hid (kdq (pl q) (kdL ks) = callK q.tx (kdL ks)) := by
          unfold Hid kdq
          rw [if_neg (by omega), if_neg (by omega), if_neg (by omega), if_neg (by omega), if_neg (by omega), if_neg (by omega), if_neg (by omega), if_neg (by omega)]
          rfl
        have hks : (kdL ks).length = k := by rw [kdL_len, HE.out]
        have hcap := OwnK.cap HOK.out
        rw [hks] at hcap
        have HCC := hid (f63 q.tx (kdL ks) a' c' wr (by omega) (by rw [hks]; exact hcap.1) hcap.2 HNA.out HOK.out.has)
        rw [hks] at HCC
        rw [g'] at b0
        clear g g' hks hcap HOK
        go_wp2_with (go_at_call 63; refine HCC.out.mono ?_; rintro e w3 ⟨rfl, hw3⟩; have hw3' := hw3.symm; clear hw3; subst hw3')
        go_ret
        exact ⟨ret_km _ _ HR.out rfl, HX2.out⟩
end Go.Proofs.YtbdlahhejfamhaaGreatDoor.Qry
