/- What the model's l2Fits and PatternFits come to, and the walk of FnExactPatternFits. -/
import Derived.Test.YtpobpanmkdjkjaaPk
namespace Go.Proofs.Ytpobpanmkdjkjaa.Pat
open Go.RowKit

theorem IntW.has {S : Blk} {w : World} {a : Option Addr} {n c : Nat} {zs : List Int} (h : IntW S w (.slice a n c) zs) : HasI w a zs ∧ n = zs.length := by
  rcases h.1.2 with ⟨h1, h2⟩ | ⟨g, cap, cur, h1, _⟩
  · simp only [Value.slice.injEq] at h1
    exact ⟨.inl (List.eq_nil_of_length_eq_zero h2), by omega⟩
  · simp only [Value.slice.injEq] at h1
    obtain ⟨rfl, rfl, rfl⟩ := h1
    refine ⟨.inr ⟨g, 0, rfl, (h.1.lt g rfl).2, fun i hi => ?_⟩, rfl⟩
    rw [Nat.zero_add]
    refine (h.1.cellAt i (by simpa using hi)).trans ?_
    simp [ints, hi]
theorem IntW.shape {S : Blk} {w : World} {v : Value} {zs : List Int} (h : IntW S w v zs) : ∃ a c, v = .slice a zs.length c := own_form h.1
def anyF (A : List (List Int)) (L : List UInt8) : Bool := A.any fun a => rest a L
theorem any_step {A : List (List Int)} {L : List UInt8} {i : Nat} {z : List Int} (h : A[i]? = some z) : anyF (A.drop i) L = (rest z L || anyF (A.drop (i + 1)) L) := by
  obtain ⟨hi, rfl⟩ := List.getElem?_eq_some_iff.1 h
  rw [List.drop_eq_getElem_cons hi]
  rfl
theorem fits_any {p s : ByteArray} (hp : patB p = true) (hs : s.size ≤ 100) : fitsB p s = anyF (altsF p.data.toList []) s.data.toList := by
  unfold fitsB ppF anyF
  rw [if_pos ⟨hp, hs⟩]
  generalize altsF p.data.toList [] = A
  induction A with
  | nil => rfl
  | cons a A ih =>
    rw [List.findSome?_cons, List.any_cons]
    by_cases h : rest a s.data.toList = true
    · simp [h]
    · simp only [h, if_false, Bool.false_or, Bool.false_eq_true]
      exact ih

set_option maxHeartbeats 2000000 in
theorem f32 (p s : ByteArray) (w : World) (hp : p.size ≤ maxLen) (hpat : patB p = true) (hs : s.size ≤ 1000) : Calls Try.prog 32 #[.string p, .string s] w fun e w' => e = .returned (.bool (anyF (altsF p.data.toList []) s.data.toList)) ∧ Below w.heap.size w w' := by
  go_enter Try.func32, Try.ntmps32
  go_wp2_with fail
  refine (f29w p _ hp).mono ?_
  rintro e w1 ⟨hb1, h1⟩
  have HB := hid hb1
  clear hb1
  rcases h1 with ⟨hn, rfl⟩ | ⟨S, A, a, c, x1, _, hA, rfl, ho, hf, hS, hl1, hl2⟩
  · rw [hpat] at hn; cases hn
  · have HA := hid hA
    have HO := hid ho
    have HF := hid hf
    have HS := hid hS
    have HL2 := hid hl2
    obtain ⟨n, hn⟩ : ∃ n, n = A.length := ⟨_, rfl⟩
    have HN := hid hn
    rw [← hn] at HO hl1 ⊢
    clear ho hf hS hl2 hn hA
    go_wp2
    go_loopw [16] (fun si wr => ∃ i : Nat, i ≤ n ∧ si = .int .i64 i ∧ Hid (anyF A s.data.toList = anyF (A.drop i) s.data.toList) ∧ Hid (Below w1.heap.size w1 wr)) (fun si _ => n - (intOf si).toNat)
    case atStart => exact ⟨0, Nat.zero_le _, rfl, rfl, Below.refl _ _⟩
    case round =>
      obtain ⟨i, hi, rfl, HP, HW⟩ := hrel
      by_cases hlt : i < n
      · have hx : A[i]? = some (A[i]'(by rw [← HN.out]; exact hlt)) := List.getElem?_eq_getElem _
        have hzl : (A[i]'(by rw [← HN.out]; exact hlt)).length ≤ 100 := HL2.out _ (List.getElem_mem _)
        generalize (A[i]'(by rw [← HN.out]; exact hlt)) = z at hx hzl
        obtain ⟨u, hu, hU⟩ := HF.out i z hx
        have HX := hid (any_step (L := s.data.toList) hx)
        rcases HO.out.2 with ⟨_, h0⟩ | ⟨g, cap, cur, hv, _⟩
        · omega
        simp only [Value.slice.injEq] at hv
        obtain ⟨rfl, -, rfl⟩ := hv
        have c0 := (HW.out.cell (p := ⟨g, i, none⟩) (HO.out.lt g rfl).2).trans ((HO.out.cellAt i (by omega)).trans (show x1[i]? = some u from hu))
        have i1 : (i : Int) < (n : Int) := by omega
        have hU2 := hU.agree (Agree.below HS.out HW.out)
        obtain ⟨au, cu, rfl⟩ := hU.shape
        have HC := hid (f56 au z.length cu z s wr rfl (by omega) hU2.has.1 hs)
        clear hx hzl hu hU hU2
        go_wp2_with fail
        refine HC.out.mono ?_
        rintro e w2 ⟨⟨g2, rfl, ho2⟩, hb2⟩
        have HW2 := hid (HW.out.trans (hb2.mono HW.out.size))
        have HB2 := hid (HB.out.trans (HW2.out.mono HB.out.size))
        have c2 := (ho2.cellAt 0 (by omega)).trans (bRow_get (show 0 < s.size + 1 by omega))
        have e0 : rst z s.data.toList 0 = rest z s.data.toList := by unfold rst; simp
        rw [e0] at c2
        clear hb2 ho2 e0
        by_cases hr : rest z s.data.toList = true
        · have HP2 : Hid (anyF A s.data.toList = true) := by unfold Hid; rw [HP.out, HX.out, hr]; rfl
          rw [hr] at c2
          clear hr
          go_wp2
          go_ret
          exact ⟨by rw [← HA.out, HP2.out]; rfl, HB2.out⟩
        · have hr' : rest z s.data.toList = false := by simpa using hr
          have HP2 : Hid (anyF A s.data.toList = anyF (A.drop (i + 1)) s.data.toList) := by unfold Hid; rw [HP.out, HX.out, hr']; rfl
          rw [hr'] at c2
          clear hr hr'
          go_wp2
          go_roundw
          case rel => exact ⟨i + 1, by omega, by go_num, HP2, HW2⟩
          case measure => simp [intOf]; omega
      · have HE : Hid (anyF A s.data.toList = false) := by
          unfold Hid
          rw [HP.out, List.drop_eq_nil_of_le (by rw [← HN.out]; omega)]; rfl
        have HB2 := hid (HB.out.trans (HW.out.mono HB.out.size))
        go_wp2
        go_ret
        exact ⟨by rw [← HA.out, HE.out]; rfl, HB2.out⟩
theorem f11 (p s : ByteArray) (w : World) (hp : p.size ≤ maxLen) (hs : s.size ≤ maxLen) : Calls Try.prog 11 #[.string p, .string s] w fun e w' => e = .returned (.bool (fitsB p s)) ∧ Below w.heap.size w w' := by
  unfold maxLen at hs
  go_enter Try.func11, Try.ntmps11
  go_wp2_with fail
  refine (f8 p _ hp).mono ?_
  rintro e w1 ⟨rfl, hb1⟩
  have HB := hid hb1
  clear hb1
  by_cases hpat : patB p = true
  · by_cases h100 : s.size ≤ 100
    · have HF := hid (fits_any hpat h100)
      have H37 := hid (f32 p s w1 hp hpat (by omega))
      have i1 : (s.size : Int) ≤ 100 := by omega
      rw [hpat]
      clear hpat
      go_wp2_with fail
      refine H37.out.mono ?_
      rintro e w2 ⟨rfl, hb2⟩
      have HB2 := hid (HB.out.trans (hb2.mono HB.out.size))
      clear hb2
      go_wp2
      go_ret
      exact ⟨by rw [HF.out]; rfl, HB2.out⟩
    · have HF : Hid (fitsB p s = false) := by unfold Hid fitsB; rw [ppF_long h100]; rfl
      have i1 : ¬ (s.size : Int) ≤ 100 := by omega
      rw [hpat]
      clear hpat
      go_wp2
      go_ret
      exact ⟨by rw [HF.out]; rfl, HB.out⟩
  · have hpat' : patB p = false := by simpa using hpat
    have HF : Hid (fitsB p s = false) := by unfold Hid fitsB; rw [ppF_bad hpat']; rfl
    rw [hpat']
    clear hpat hpat'
    go_wp2
    go_ret
    exact ⟨by rw [HF.out]; rfl, HB.out⟩
theorem walk5 (p s : ByteArray) (w : World) (hp : p.size ≤ maxLen) (hs : s.size ≤ maxLen) : Calls Try.prog 4 #[.string p, .string s] w fun e w' => e = .returned (.bool true) ∧ Below w.heap.size w w' := by
  have hp' := hp
  have hs' := hs
  unfold maxLen at hp' hs'
  by_cases hbp : 1048576 < p.size
  · go_enter Try.func4, Try.ntmps4
    go_wp2
    go_ret
    exact ⟨rfl, Below.refl _ _⟩
  by_cases hbs : 1048576 < s.size
  · go_enter Try.func4, Try.ntmps4
    go_wp2
    go_ret
    exact ⟨rfl, Below.refl _ _⟩
  have h13 := fun w => f11 p s w hp hs
  have h11 := fun w => f9 p s w hp hs
  generalize fitsB p s = b at h13 h11
  have H13 := hid h13
  have H11 := hid h11
  have hbb : (b != b) = false := by cases b <;> rfl
  clear h13 h11
  go_enter Try.func4, Try.ntmps4
  go_wp2_with fail
  refine (H13.out _).mono ?_
  rintro e w1 ⟨rfl, hb1⟩
  have HB1 := hid hb1
  clear hb1
  go_wp2_with fail
  refine (H11.out _).mono ?_
  rintro e w2 ⟨rfl, hb2⟩
  have HB2 := hid (HB1.out.trans (hb2.mono HB1.out.size))
  clear hb2
  go_wp2
  go_ret
  exact ⟨rfl, HB2.out⟩
end Go.Proofs.Ytpobpanmkdjkjaa.Pat
