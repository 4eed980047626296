/- What the program's PatternParts and PatternFits come to. -/
import Derived.Test.YtpobpanmkdjkjaaPg
namespace Go.Proofs.Ytpobpanmkdjkjaa.Pat
open Go.RowKit

theorem f73 (S : Blk) (v : Value) (a : List (List Int)) (s : ByteArray) (w : World) (h : AltW S w v a) (hS : ∀ k, S k → k < w.heap.size) (hO : Okr 101 a) (hs : s.size ≤ 1000) :
    Calls Try.prog 73 #[v, .string s] w (PartsR (partsI a s.data.toList) w) := by
  have hq : ∀ x ∈ a, x.length ≤ 1000 := fun x hx => by have := (hO.2.2 x hx).2; omega
  match a, h, hO, hq with
  | [], _, hO, _ => exact absurd rfl hO.1
  | [r], h, hO, hq => exact f73a S v r s w h (hO.2.2 r (by simp)).1 (hq r (by simp)) hs
  | r :: q :: t, h, hO, hq =>
    have e : q :: t = (q :: t).dropLast ++ [(q :: t).getLast (by simp)] := (List.dropLast_concat_getLast (by simp)).symm
    generalize (q :: t).dropLast = ms at e
    generalize (q :: t).getLast (by simp) = l at e
    rw [e] at h hO hq ⊢
    exact f73b S v r l ms s w h hS (fun x hx => (hO.2.2 x hx).1) hq (by have := hO.2.1; simp at this; omega) hs

def someP (s : List UInt8) (A : List (List (List Int))) : Option (List (List UInt8)) := A.findSome? fun a => partsI a s
theorem ppF_yes {p s : ByteArray} {A : List (List (List Int))} (hp : patB p = true) (hs : s.size ≤ 100) (hA : A.map itemsOf = altsF p.data.toList []) : ppF p s = someP s.data.toList A := by
  unfold ppF someP
  rw [if_pos ⟨hp, hs⟩, ← hA, List.findSome?_map]
  rfl
theorem ppF_bad {p s : ByteArray} (hp : patB p = false) : ppF p s = none := by unfold ppF; rw [if_neg (by rw [hp]; simp)]
theorem ppF_long {p s : ByteArray} (hs : ¬ s.size ≤ 100) : ppF p s = none := by unfold ppF; rw [if_neg (fun h => hs h.2)]
theorem some_step {s : List UInt8} {A : List (List (List Int))} {i : Nat} {a : List (List Int)} (h : A[i]? = some a) : someP s (A.drop i) = match partsI a s with | some x => some x | none => someP s (A.drop (i + 1)) := by
  obtain ⟨hi, rfl⟩ := List.getElem?_eq_some_iff.1 h
  rw [List.drop_eq_getElem_cons hi]
  unfold someP
  rw [List.findSome?_cons]
  cases partsI A[i] s <;> rfl
theorem some_yes {s : List UInt8} {A : List (List (List Int))} {i : Nat} {a : List (List Int)} {x : List (List UInt8)} (h : A[i]? = some a) (hx : partsI a s = some x) : someP s (A.drop i) = some x := by rw [some_step h, hx]
theorem some_no {s : List UInt8} {A : List (List (List Int))} {i : Nat} {a : List (List Int)} (h : A[i]? = some a) (hx : partsI a s = none) : someP s (A.drop i) = someP s (A.drop (i + 1)) := by rw [some_step h, hx]

set_option maxHeartbeats 2000000 in
theorem f55 (s : ByteArray) (S : Blk) (A : List (List (List Int))) (v : Value) (w : World) (hs : s.size ≤ 1000) (hA : AllW S w v A) (hO : OkA 101 A) (hS : ∀ k, S k → k < w.heap.size) :
    Calls Try.prog 55 #[v, .string s] w (PartsR (someP s.data.toList A) w) := by
  have hs' := hs
  have HO := hid hO
  have HS := hid hS
  have hAl := hO.1
  obtain ⟨vs, o1, hs1, hf⟩ := hA
  obtain ⟨a, c, rfl⟩ := own_form o1
  have HV := hid o1
  have HF := hid hf
  obtain ⟨n, hn⟩ : ∃ n, n = A.length := ⟨_, rfl⟩
  have HN := hid hn
  rw [← hn] at HV hAl ⊢
  clear hO hS hs1 hf o1 hn
  go_enter Try.func55, Try.ntmps55
  go_wp2
  go_loopw [12] (fun si wr => ∃ i : Nat, i ≤ n ∧ si = .int .i64 i ∧ Hid (someP s.data.toList A = someP s.data.toList (A.drop i)) ∧ Hid (Below w.heap.size w wr)) (fun si _ => n - (intOf si).toNat)
  case atStart => exact ⟨0, Nat.zero_le _, rfl, (rfl : someP s.data.toList A = someP s.data.toList (A.drop 0)), Below.refl _ _⟩
  case round =>
    obtain ⟨i, hi, rfl, HP, HW⟩ := hrel
    by_cases hlt : i < n
    · have hx : A[i]? = some (A[i]'(by rw [← HN.out]; exact hlt)) := List.getElem?_eq_getElem _
      have hok : Okr 101 (A[i]'(by rw [← HN.out]; exact hlt)) := HO.out.2 _ (List.getElem_mem _)
      generalize (A[i]'(by rw [← HN.out]; exact hlt)) = x at hx hok
      obtain ⟨u, hu, hU⟩ := HF.out i x hx
      have HX := hid hx
      rcases HV.out.2 with ⟨_, h0⟩ | ⟨g, cap, cur, hv, _⟩
      · omega
      simp only [Value.slice.injEq] at hv
      obtain ⟨rfl, -, rfl⟩ := hv
      have c0 := (HW.out.cell (p := ⟨g, i, none⟩) (HV.out.lt g rfl).2).trans ((HV.out.cellAt i (by omega)).trans (show vs[i]? = some u from hu))
      have i1 : (i : Int) < (n : Int) := by omega
      have HC := hid (f73 S u x s wr (hU.agree (Agree.below HS.out HW.out)) (fun k hk => Nat.lt_of_lt_of_le (HS.out k hk) HW.out.size) hok (by omega))
      obtain ⟨au, nu, cu, rfl⟩ : ∃ a n c, u = .slice a n c := by obtain ⟨_, h1, _⟩ := hU; obtain ⟨a, c, h2⟩ := own_form h1; exact ⟨a, _, c, h2⟩
      clear hx hok hu hU
      go_wp2_with fail
      refine HC.out.mono ?_
      rintro e w2 ⟨hb2, h2⟩
      have HW2 := hid (HW.out.trans (hb2.mono HW.out.size))
      have HSZ := hid HW.out.size
      clear hb2
      rcases h2 with ⟨hno, rfl⟩ | ⟨ps, a', c', hyes, rfl, ho⟩
      · have HP2 := hid (HP.out.trans (some_no HX.out hno))
        clear hno
        go_wp2
        go_roundw
        case rel => exact ⟨i + 1, by omega, by go_num, HP2, HW2⟩
        case measure => simp [intOf]; omega
      · have HP2 := hid (HP.out.trans (some_yes HX.out hyes))
        have HO2 := hid ho
        clear hyes ho
        go_wp2
        go_ret2
        refine ⟨HW2.out, .inr ⟨ps, a', c', HP2.out, rfl, ?_⟩⟩
        have := HO2.out
        refine ⟨this.1, ?_⟩
        rcases this.2 with h1 | ⟨g, cap, cur, h1, h2, h3⟩
        · exact .inl h1
        · exact .inr ⟨g, cap, cur, h1, Nat.le_trans HSZ.out h2, h3⟩
    · have HE : Hid (someP s.data.toList A = none) := by
        unfold Hid
        rw [HP.out, List.drop_eq_nil_of_le (by rw [← HN.out]; omega)]; rfl
      go_wp2
      go_ret2
      exact ⟨HW.out, .inl ⟨HE.out, rfl⟩⟩
set_option maxHeartbeats 2000000 in
theorem f31 (p s : ByteArray) (S : Blk) (A : List (List (List Int))) (v : Value) (w : World) (hs : s.size ≤ maxLen) (hp1 : patB p = true) (hA : AllW S w v A) (hM : A.map itemsOf = altsF p.data.toList []) (hO : OkA 101 A) (hS : ∀ k, S k → k < w.heap.size) :
    Calls Try.prog 31 #[v, .string s] w (PartsR (ppF p s) w) := by
  have hs' := hs
  unfold maxLen at hs'
  have hv : ∃ a n c, v = .slice a n c := by
    obtain ⟨vs, o1, _, _⟩ := hA
    obtain ⟨a, c, h⟩ := own_form o1
    exact ⟨a, _, c, h⟩
  by_cases h100 : s.size ≤ 100
  · have HC := hid (f55 s S A v w (by omega) hA hO hS)
    rw [← ppF_yes (s := s) hp1 h100 hM] at HC
    obtain ⟨a, n, c, rfl⟩ := hv
    have i1 : ¬ 100 < (s.size : Int) := by omega
    clear hp1 hA hM hO hS
    go_enter Try.func31, Try.ntmps31
    go_wp2_with fail
    refine HC.out.mono ?_
    rintro e w2 ⟨hb, h2⟩
    have HB := hid hb
    clear hb
    rcases h2 with ⟨hno, rfl⟩ | ⟨ps, a', c', hyes, rfl, ho⟩
    · have HN := hid hno
      clear hno
      go_wp2
      go_ret2
      exact ⟨HB.out, .inl ⟨HN.out, rfl⟩⟩
    · have HN := hid hyes
      have HO := hid ho
      clear hyes ho
      go_wp2
      go_ret2
      exact ⟨HB.out, .inr ⟨ps, a', c', HN.out, rfl, HO.out⟩⟩
  · have HN : Hid (ppF p s = none) := ppF_long h100
    have h100' : 100 < (s.size : Int) := by omega
    obtain ⟨a, n, c, rfl⟩ := hv
    clear hM hO hS h100 hp1 hA
    go_enter Try.func31, Try.ntmps31
    go_wp2
    go_ret2
    exact ⟨Below.refl _ _, .inl ⟨HN.out, rfl⟩⟩
set_option maxHeartbeats 1000000 in
theorem f10 (p s : ByteArray) (w : World) (hp : p.size ≤ maxLen) (hs : s.size ≤ maxLen) : Calls Try.prog 10 #[.string p, .string s] w (PartsR (ppF p s) w) := by
  go_enter Try.func10, Try.ntmps10
  go_wp2_with fail
  refine (f30w p _ hp).mono ?_
  rintro e w1 ⟨hb1, h1⟩
  have HB := hid hb1
  clear hb1
  rcases h1 with ⟨hn, rfl⟩ | ⟨S, A, v, hp1, rfl, hA, hM, hO, hS⟩
  · have HN : Hid (ppF p s = none) := ppF_bad hn
    clear hn
    go_wp2
    go_ret2
    exact ⟨HB.out, .inl ⟨HN.out, rfl⟩⟩
  · have HC := hid (f31 p s S A v w1 hs hp1 hA hM hO hS)
    clear hp1 hA hM hO hS
    go_wp2_with fail
    refine HC.out.mono ?_
    rintro e w2 ⟨hb2, h2⟩
    have HB2 := hid (HB.out.trans (hb2.mono HB.out.size))
    have HSZ := hid HB.out.size
    clear hb2
    rcases h2 with ⟨hno, rfl⟩ | ⟨ps, a', c', hyes, rfl, ho⟩
    · have HN := hid hno
      clear hno
      go_wp2
      go_ret2
      exact ⟨HB2.out, .inl ⟨HN.out, rfl⟩⟩
    · have HY := hid hyes
      have HO2 := hid ho
      clear hyes ho
      go_wp2
      go_ret2
      refine ⟨HB2.out, .inr ⟨ps, a', c', HY.out, rfl, ?_⟩⟩
      have := HO2.out
      refine ⟨this.1, ?_⟩
      rcases this.2 with h1 | ⟨g, cap, cur, h1, h2, h3⟩
      · exact .inl h1
      · exact .inr ⟨g, cap, cur, h1, Nat.le_trans HSZ.out h2, h3⟩
def fitsB (p s : ByteArray) : Bool := (ppF p s).isSome
theorem f9 (p s : ByteArray) (w : World) (hp : p.size ≤ maxLen) (hs : s.size ≤ maxLen) : Calls Try.prog 9 #[.string p, .string s] w fun e w' => e = .returned (.bool (fitsB p s)) ∧ Below w.heap.size w w' := by
  go_enter Try.func9, Try.ntmps9
  go_wp2_with fail
  refine (f10 p s _ hp hs).mono ?_
  rintro e w1 ⟨hb1, h1⟩
  rcases h1 with ⟨hn, rfl⟩ | ⟨ps, a', c', hy, rfl, _⟩
  · have HF : Hid (fitsB p s = false) := by unfold Hid fitsB; rw [hn]; rfl
    go_wp2
    go_ret
    exact ⟨by rw [HF.out]; rfl, hb1⟩
  · have HF : Hid (fitsB p s = true) := by unfold Hid fitsB; rw [hy]; rfl
    go_wp2
    go_ret
    exact ⟨by rw [HF.out]; rfl, hb1⟩
end Go.Proofs.Ytpobpanmkdjkjaa.Pat
