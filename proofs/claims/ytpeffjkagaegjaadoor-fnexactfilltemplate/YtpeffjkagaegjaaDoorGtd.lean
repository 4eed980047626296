/- Templates filled: both sides. -/
import Derived.Test.YtpeffjkagaegjaaDoorGtc
import Derived.Test.YtpeffjkagaegjaaDoorSe
import Derived.Test.YtpeffjkagaegjaaDoorUna
import Derived.Test.YtpeffjkagaegjaaDoorBld
import Derived.Test.YtpeffjkagaegjaaDoorGi
namespace Go.Proofs.YtpeffjkagaegjaaDoor.Lab
open Go.RowKit Go.Proofs.YtpeffjkagaegjaaDoor.Str
theorem has_of (ls : List Lb) (x : ByteArray) : ∃ v, OfV ls x v := by
  by_cases h : ∃ k, k < ls.length ∧ (ls.getD k e0).1 = x
  · obtain ⟨k, hk, hx⟩ := h
    have key : ∀ n, (∃ k, k < n ∧ k < ls.length ∧ (ls.getD k e0).1 = x) → ∃ v, OfV ls x v := by
      intro n
      induction n with
      | zero => rintro ⟨k, h, _⟩; omega
      | succ n ih =>
        rintro ⟨k, h1, h2, h3⟩
        by_cases h4 : ∃ k, k < n ∧ k < ls.length ∧ (ls.getD k e0).1 = x
        · exact ih h4
        · exact ⟨(ls.getD k e0).2, .inl ⟨k, h2, h3, rfl, fun i hi he => h4 ⟨i, by omega, by omega, he⟩⟩⟩
    exact key (k + 1) ⟨k, by omega, hk, hx⟩
  · exact ⟨ByteArray.empty, .inr ⟨fun k hk he => h ⟨k, hk, he⟩, rfl⟩⟩
theorem vals (ls : List Lb) : ∃ val : ByteArray → ByteArray, ∀ x, OfV ls x (val x) := ⟨fun x => Classical.choose (has_of ls x), fun x => Classical.choose_spec (has_of ls x)⟩
end Go.Proofs.YtpeffjkagaegjaaDoor.Lab
namespace Go.Proofs.YtpeffjkagaegjaaDoor.Tpl
open Go.RowKit Go.Proofs.YtpeffjkagaegjaaDoor.Pat Go.Proofs.YtpeffjkagaegjaaDoor.Rdd
open Lab (Lb HasL OfV GoodP)
open Unt (Pow mkS_size itoa_len)

def vname : ByteArray := ⟨#[118, 97, 108, 117, 101]⟩
/-- What a piece stands for. -/
def one (val : ByteArray → ByteArray) (v : Int) (p : Pc) : List UInt8 := if p.2 = false then p.1.data.toList else if p.1 = vname then Lib.itoa v else (val p.1).data.toList
def fil (val : ByteArray → ByteArray) (v : Int) (ps : List Pc) : List UInt8 := ps.flatMap (one val v)
theorem one_text {val : ByteArray → ByteArray} {v : Int} {x : ByteArray} : one val v (x, false) = x.data.toList := by unfold one; rw [if_pos rfl]
theorem one_value {val : ByteArray → ByteArray} {v : Int} {x : ByteArray} (h : x = vname) : one val v (x, true) = Lib.itoa v := by unfold one; rw [if_neg (by simp), if_pos h]
theorem one_name {val : ByteArray → ByteArray} {v : Int} {x : ByteArray} (h : x ≠ vname) : one val v (x, true) = (val x).data.toList := by unfold one; rw [if_neg (by simp), if_neg h]
theorem fil_snoc {val : ByteArray → ByteArray} {v : Int} {ps : List Pc} {k : Nat} (hk : k < ps.length) : fil val v (ps.take (k + 1)) = fil val v (ps.take k) ++ one val v ps[k] := by
  unfold fil; rw [List.take_succ_eq_append_getElem hk, List.flatMap_append]; simp
theorem val_len {ls : List Lb} {x v : ByteArray} (hg : GoodP ls) (h : OfV ls x v) : v.size ≤ 100 := by
  rcases h with ⟨k, hk, _, rfl, _⟩ | ⟨_, rfl⟩
  · have := (hg.2 k hk).1
    unfold Lab.okL at this
    rw [Bool.and_eq_true] at this
    have h2 := this.2
    unfold Str.valueL at h2
    rw [Bool.and_eq_true, decide_eq_true_iff] at h2
    have := h2.1.2
    simpa using this
  · show (0 : Nat) ≤ 100
    omega
theorem one_len {ls : List Lb} {val : ByteArray → ByteArray} {v : Int} {p : Pc} (hg : GoodP ls) (hv : ∀ x, OfV ls x (val x)) (h0 : -9223372036854775808 ≤ v) (h1 : v ≤ 9223372036854775807) (hp : p.1.size ≤ 200) : (one val v p).length ≤ 200 := by
  unfold one
  split
  · simpa using hp
  split
  · have := itoa_len v h0 h1; omega
  · have := val_len hg (hv p.1); simp; omega
theorem fil_len {ls : List Lb} {val : ByteArray → ByteArray} {v : Int} (hg : GoodP ls) (hv : ∀ x, OfV ls x (val x)) (h0 : -9223372036854775808 ≤ v) (h1 : v ≤ 9223372036854775807) : ∀ (ps : List Pc), (∀ p ∈ ps, p.1.size ≤ 200) → (fil val v ps).length ≤ 200 * ps.length
  | [], _ => by simp [fil]
  | p :: ps, h => by
    have h2 := fil_len hg hv h0 h1 ps (fun q hq => h q (by simp [hq]))
    have h3 := one_len hg hv h0 h1 (h p (by simp))
    have : fil val v (p :: ps) = one val v p ++ fil val v ps := rfl
    rw [this, List.length_append, List.length_cons]; omega
theorem mk_of (x : ByteArray) : Unt.mkS x.data.toList = x := by apply ByteArray.ext; simp
theorem str_eqv {x : ByteArray} (h : x = vname) : (x.toList == [118, 97, 108, 117, 101]) = true := by rw [h, ByteArray.toList_eq]; rfl
theorem str_nev {x : ByteArray} (h : x ≠ vname) : (x.toList == [118, 97, 108, 117, 101]) = false := by
  rw [beq_eq_false_iff_ne]
  intro e
  apply h
  rw [ByteArray.toList_eq] at e
  exact WideShapes.bytes_inj (by rw [e]; rfl)

theorem own_below {w w' : World} {base e size n : Nat} {v : Value} {xs : List Value} (h : w.ownsRow base e size v n xs) (hb : Below w.heap.size w w') : w'.ownsRow base e size v n xs := by
  refine ⟨h.1, ?_⟩
  rcases h.2 with h | ⟨g, cap, cur, e1, e2, e3, e4⟩
  · exact .inl h
  · exact .inr ⟨g, cap, cur, e1, e2, (hb.block g (Array.getElem?_eq_some_iff.1 e3).1).trans e3, e4⟩
theorem bldat_below {w w' : World} {T e B b : Nat} {p : Value} {bs : List Value} (h : Lib.BuilderAt T e B b p bs w) (hb : Below w.heap.size w w') : Lib.BuilderAt T e B b p bs w' := by
  obtain ⟨h1, v, h2, h3, h4⟩ := h
  exact ⟨h1, v, (hb.block b (Array.getElem?_eq_some_iff.1 h2).1).trans h2, own_below h3 hb, h4⟩
theorem bld_below {w w' : World} {T e B b : Nat} {bs : List Value} (h : Lib.IsBuilder T e B b bs w) (hb : Below w.heap.size w w') : Lib.IsBuilder T e B b bs w' := by
  rcases h with h | h
  · exact .inl (bldat_below h hb)
  · exact .inr (bldat_below h hb)
set_option maxHeartbeats 2000000 in
theorem f31 (p : Pc) (a : Option Addr) (n c : Nat) (ls : List Lb) (val : ByteArray → ByteArray) (v : Int) (w : World) (hn : ls.length = n) (hg : GoodP ls) (hr : HasL w a ls) (hv : ∀ x, OfV ls x (val x)) (h0 : -9223372036854775808 ≤ v) (h1 : v ≤ 9223372036854775807) (hpw : Pow w) :
    Calls Tryd.prog 31 #[.agg #[.string p.1, .bool p.2], .slice a n c, .int .i64 v] w fun e w' => e = .returned (.string (Unt.mkS (one val v p))) ∧ Below w.heap.size w w' := by
  obtain ⟨x, b⟩ := p
  have HB := hid ((Below.refl w.heap.size w).alloc (Nat.le_refl _) (.cells #[.string x, .bool b] 52))
  have HL := hid (hr.below HB.out)
  have HP := hid (hpw.below HB.out)
  have HN := hid hn
  clear hr hpw hn
  cases b
  · have HO : Hid (Unt.mkS (one val v (x, false)) = x) := by unfold Hid; rw [one_text, mk_of]
    go_enter Tryd.func31, Tryd.ntmps31
    go_wp2
    go_ret
    exact ⟨by rw [HO.out]; rfl, HB.out⟩
  · by_cases hx : x = vname
    · have hq := str_eqv hx
      have HO := hid (one_value (val := val) (v := v) hx)
      clear hx
      go_enter Tryd.func31, Tryd.ntmps31
      go_wp2_with (go_at_call 44; refine (Unt.f44 v _ h0 h1 HP.out).mono ?_; rintro e w2 ⟨rfl, hb2⟩)
      go_ret
      exact ⟨by rw [HO.out]; rfl, HB.out.trans (hb2.mono HB.out.size)⟩
    · have hq := str_nev hx
      have HO := hid (one_name (val := val) (v := v) hx)
      clear hx
      go_enter Tryd.func31, Tryd.ntmps31
      go_wp2_with (go_at_call 45; refine (Lab.f45 a n c ls x _ HN.out hg HL.out).mono ?_; rintro e w2 ⟨y, hy, rfl, hb2⟩)
      go_ret
      have : y = val x := hy.uniq (hv x)
      subst this
      exact ⟨by rw [HO.out, mk_of]; rfl, HB.out.trans (hb2.mono HB.out.size)⟩
end Go.Proofs.YtpeffjkagaegjaaDoor.Tpl
