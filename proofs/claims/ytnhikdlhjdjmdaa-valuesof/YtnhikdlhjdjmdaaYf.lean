/- The walk of FnExactValuesOf. -/
import Derived.Test.YtnhikdlhjdjmdaaYd
import Derived.Test.YtnhikdlhjdjmdaaYe
import Derived.Test.YtnhikdlhjdjmdaaXh
import Derived.Test.YtnhikdlhjdjmdaaPs
namespace Go.Proofs.Ytnhikdlhjdjmdaa.Val
open Go.Lib Go.RowKit
open Go.Proofs.Ytnhikdlhjdjmdaa.Lab (Lb HasL OfV goodL GoodP)
open Go.Proofs.Ytnhikdlhjdjmdaa.Srs (Q q0 HasQ FitQ SmlQ GoodQ gdQ gdQ_iff Same SameTo OwnQ Fr tot pl)

def bs (l : Tx) : ByteArray := ⟨l.toArray⟩
theorem map_bs (V : List Tx) : (V.map bs).map Value.string = V.map encStr := by rw [List.map_map]; rfl
theorem row_bs {w : World} {base m c : Nat} {a : Option Addr} {V : List Tx} (h : Row w base a m c V) : w.ownsRow base 9 1 (.slice a m c) m ((V.map bs).map Value.string) := by rw [map_bs]; exact h
theorem row_has {w : World} {base m c : Nat} {a : Option Addr} {V : List Tx} (h : Row w base a m c V) : Pat.HasT w a (V.map bs) := Pat.HasT.own (row_bs h)
theorem vl_same {val : List Lb → ByteArray → ByteArray} {n : Nat} {qs d : List Q} {x : ByteArray} (h : Same n qs d) : ∀ k, k ≤ n → vl val d x k = vl val qs x k := by
  intro k
  induction k with
  | zero => intro _; rfl
  | succ k ih =>
    intro hk
    have e : (d.getD k q0).l = (qs.getD k q0).l := congrArg Prod.fst (h k (by omega))
    rw [vl, vl, ih (by omega), e]
theorem voF_same {val : List Lb → ByteArray → ByteArray} {n : Nat} {qs d : List Q} {x : ByteArray} (h1 : qs.length = n) (h2 : d.length = n) (h : Same n qs d) : voF val d x = voF val qs x := by
  unfold voF
  rw [Srs.gdQ_congr h1 h2 h, h1, h2, vl_same h n (Nat.le_refl _)]
theorem tot_same {n : Nat} {qs d : List Q} (h : Same n qs d) : ∀ k, k ≤ n → tot d k = tot qs k := by
  intro k
  induction k with
  | zero => intro _; rfl
  | succ k ih =>
    intro hk
    have e := h k (by omega)
    simp only [pl, Prod.mk.injEq] at e
    simp only [tot]
    rw [ih (by omega), e.1, e.2]
theorem voF_len (val : List Lb → ByteArray → ByteArray) (qs : List Q) (x : ByteArray) : (voF val qs x).length ≤ 200 := by
  unfold voF
  split
  · rename_i h
    have h1 := (gdQ_iff.1 h).1
    have h2 := all_len (vl val qs x qs.length)
    have h3 := vl_len val qs x qs.length
    omega
  · exact Nat.zero_le _
theorem fr_below {X Y B : Nat} {w x : World} (h : Fr X Y w x) (hb : B ≤ X) (hs : X ≤ w.heap.size) : Below B w x := ⟨h.os, h.tape, h.output, h.size, fun k hk => h.block k (by omega) (.inl (by omega))⟩
theorem row_fr {X Y : Nat} {w x : World} {base m c : Nat} {a : Option Addr} {V : List Tx} (h : Row w base a m c V) (hf : Fr X Y w x) (hg : ∀ g, a = some ⟨g, 0, none⟩ → g < X ∨ Y ≤ g) : Row x base a m c V := by
  rcases Pat.own_cases h with ⟨rfl, rfl, rfl⟩ | ⟨g, rfl⟩
  · exact ⟨h.1, .inl ⟨rfl, rfl⟩⟩
  · exact Srs.own_fr h hf (hg g rfl)
theorem row_grown {w x : World} {base m c : Nat} {a : Option Addr} {V : List Tx} {r : Option Nat} (h : Row w base a m c V) (hg : w.grownBy x r) (hne : ∀ g, a = some ⟨g, 0, none⟩ → some g ≠ r) : Row x base a m c V := by
  rcases Pat.own_cases h with ⟨rfl, rfl, rfl⟩ | ⟨g, rfl⟩
  · exact ⟨h.1, .inl ⟨rfl, rfl⟩⟩
  · exact h.kept hg (.inr (hne g rfl))
theorem row_blk {w : World} {base m c g : Nat} {V : List Tx} (h : Row w base (some ⟨g, 0, none⟩) m c V) : base ≤ g ∧ g < w.heap.size := h.lt g rfl
set_option maxHeartbeats 4000000 in
theorem walkVal (a : Option Addr) (n c : Nat) (qs : List Q) (x : ByteArray) (w : World) (hn : qs.length = n) (hmax : n ≤ maxLen) (hr : HasQ w a qs) (hf : FitQ qs) (hx : x.size ≤ maxLen) :
    Calls Try.prog 7 #[.slice a n c, .string x] w fun e w' => e = .returned (.bool true) ∧ Below w.heap.size w w' := by
  obtain ⟨val, hv⟩ := vals
  have HV := hid hv
  have HN := hid hn
  have HR := hid hr
  have HF := hid hf
  have HM := hid hmax
  unfold maxLen at hx
  clear hn hr hf hmax hv
  by_cases hbig : x.size ≤ 1048576
  rotate_left
  · have hbig' : (1048576 : Int) < (x.size : Int) := by omega
    go_enter Try.func7, Try.ntmps7
    go_wp2
    go_ret
    exact ⟨rfl, Below.refl _ _⟩
  have hbig' : ¬ (1048576 : Int) < (x.size : Int) := by omega
  go_enter Try.func7, Try.ntmps7
  go_wp2_with fail
  refine (Srs.f16 a n c 1048576 qs _ (by omega) (by omega) HN.out HR.out HF.out HM.out).mono ?_
  rintro e w1 ⟨y, rfl, y0, y1, hy, hb1⟩
  have HB1 := hid hb1
  clear hb1
  by_cases hy0 : y < 0
  · go_wp2
    go_ret
    exact ⟨rfl, HB1.out⟩
  have hy' := hid (hy (by omega))
  have HZ : Hid (SmlQ qs) := Srs.sml_tot (by rw [HN.out]; have := hy'.out; omega)
  have hb : n ≤ 1048576 := by have := hy'.out; omega
  have HT : Hid (tot qs n ≤ 1048576) := by have := hy'.out; unfold Hid; omega
  clear hy hy' hx
  -- the model's answer
  go_wp2_with fail
  refine (Srs.f18 a n c qs _ HN.out hb (HR.out.below HB1.out) HZ.out).mono ?_
  rintro e w2 ⟨d2, rfl, hs2, ho2, hb2⟩
  have HB2 := hid (HB1.out.trans (hb2.mono HB1.out.size))
  have HF2 := hid (HF.out.same ho2.kin.len hs2.same)
  have HZ2 := hid (HZ.out.same HN.out ho2.kin.len hs2.same)
  have HE2 := hid (voF_same (val := val) (x := x) HN.out ho2.kin.len hs2.same)
  have HO2 := hid ho2
  clear hb2 ho2 hs2
  go_wp2_with fail
  refine (f30 val HV.out _ n n d2 x _ HO2.out.kin.len HM.out HO2.out.has HF2.out HZ2.out).mono ?_
  rw [HE2.out]
  rintro e w3 ⟨aW, mW, cW, rfl, hw3, hb3⟩
  have HB3 := hid (HB2.out.trans (hb3.mono HB2.out.size))
  have HW3 := hid hw3
  clear hb3 hw3 HO2 HF2 HZ2 HE2
  have hV := voF_len val qs x
  obtain ⟨V, hVe⟩ : ∃ V, V = voF val qs x := ⟨_, rfl⟩
  have HVe := hid hVe
  rw [← hVe] at HW3 hV
  clear hVe
  have hmW := row_len HW3.out
  obtain ⟨m, hm⟩ : ∃ m, m = V.length := ⟨_, rfl⟩
  rw [← hm] at hmW hV
  subst hmW
  have HL := hid hm.symm
  clear hm
  -- the program's
  go_wp2_with fail
  refine (Srs.f18 a n c qs _ HN.out hb (HR.out.below HB3.out) HZ.out).mono ?_
  rintro e w4 ⟨d4, rfl, hs4, ho4, hb4⟩
  have HB4 := hid (HB3.out.trans (hb4.mono HB3.out.size))
  have HW4 := hid (own_below HW3.out hb4)
  have HX4 : Hid (w3.heap.size ≤ w4.heap.size ∧ w.heap.size ≤ w3.heap.size) := ⟨hb4.size, HB3.out.size⟩
  have HWb : Hid (∀ g, aW = some ⟨g, 0, none⟩ → g < w3.heap.size) := fun g e => by have := HW3.out; rw [e] at this; exact (row_blk this).2
  have HF4 := hid (HF.out.same ho4.kin.len hs4.same)
  have HZ4 := hid (HZ.out.same HN.out ho4.kin.len hs4.same)
  have HE4 := hid (voF_same (val := val) (x := x) HN.out ho4.kin.len hs4.same)
  have HT4 := hid (tot_same hs4.same n (Nat.le_refl _))
  have HY4 : Hid (∀ i, i < n → Srs.blk (d4.getD i q0).b < w4.heap.size) := fun i hi => (ho4.kin.own i hi).lts
  have HS4 := hid hs4
  have HO4 := hid ho4
  clear hb4 ho4 hs4
  go_wp2_with fail
  refine (f31 val HV.out _ n n d4 x _ HO4.out.kin.len HM.out HO4.out.has HF4.out HZ4.out).mono ?_
  rw [HE4.out, ← HVe.out]
  rintro e w5 ⟨aG, mG, cG, rfl, hg5, hb5⟩
  have HB5 := hid (HB4.out.trans (hb5.mono HB4.out.size))
  have HW5 := hid (own_below HW4.out hb5)
  have HO5 := hid (HO4.out.below hb5)
  have HG5 := hid hg5
  have HGb : Hid (∀ g, aG = some ⟨g, 0, none⟩ → w4.heap.size ≤ g) := fun g e => by have := hg5; rw [e] at this; exact (row_blk this).1
  have hmG : m = mG := HL.out.symm.trans (row_len hg5)
  subst hmG
  clear hb5 hg5 HO4 HW4 HW3 HE4 HF4
  generalize w4.heap.size = Y at *
  generalize w3.heap.size = X at *
  go_wp2_with fail
  refine (Pat.f32 aG aW m cG cW (V.map bs) _ (by rw [List.length_map]; exact HL.out) (by omega) (row_has HG5.out) (row_has HW5.out)).mono ?_
  rintro e w6 ⟨rfl, hb6⟩
  have HB6 := hid (HB5.out.trans (hb6.mono HB5.out.size))
  have HW6 := hid (own_below HW5.out hb6)
  have HG6 := hid (own_below HG5.out hb6)
  have HO6 := hid (HO5.out.below hb6)
  clear hb6 HW5 HG5 HO5
  -- the copy is as it was
  go_wp2_with fail
  refine (Srs.f18 a n c qs _ HN.out hb (HR.out.below HB6.out) HZ.out).mono ?_
  rintro e w7 ⟨d7, rfl, hs7, ho7, hb7⟩
  have HB7 := hid (HB6.out.trans (hb7.mono HB6.out.size))
  have HW7 := hid (own_below HW6.out hb7)
  have HG7 := hid (own_below HG6.out hb7)
  have HO7 := hid (HO6.out.below hb7)
  have HP7 := hid ho7
  have HS7 := hid (Srs.Same.trans HS4.out hs7)
  clear hb7 ho7 hs7 HW6 HG6 HO6
  go_wp2_with fail
  refine (Srs.f20 _ _ n n n d4 d7 _ HO7.out.kin.len HP7.out.kin.len hb HO7.out.has HP7.out.has HS7.out HZ4.out).mono ?_
  rintro e w8 ⟨rfl, hb8⟩
  have HB8 := hid (HB7.out.trans (hb8.mono HB7.out.size))
  have HW8 := hid (own_below HW7.out hb8)
  have HG8 := hid (own_below HG7.out hb8)
  have HO8 := hid (HO7.out.below hb8)
  clear hb8 HW7 HG7 HO7 HP7
  -- the copy is marked
  go_wp2_with fail
  refine (Srs.f33 X X Y n 1 d4 _ HO8.out.kin.len hb (by rw [HT4.out]; have := HT.out; omega) HO8.out HY4.out).mono ?_
  rintro e w9 ⟨rfl, hf9⟩
  have HX8 : Hid (X ≤ w8.heap.size) := Nat.le_of_lt (HO8.out.row.lt X rfl).2
  have HB9 := hid (HB8.out.trans (fr_below hf9 HX4.out.2 HX8.out))
  have HW9 := hid (row_fr HW8.out hf9 (fun g e => .inl (HWb.out g e)))
  have HG9 := hid (row_fr HG8.out hf9 (fun g e => .inr (HGb.out g e)))
  clear hf9 HW8 HG8 HO8
  have hkk : ¬ ((1 + 2 * tot d4 n : Nat) : Int) < 0 := by omega
  generalize ((1 + 2 * tot d4 n : Nat) : Int) = KK at *
  go_wp2_with fail
  refine (Pat.f32 aG aW m cG cW (V.map bs) _ (by rw [List.length_map]; exact HL.out) (by omega) (row_has HG9.out) (row_has HW9.out)).mono ?_
  rintro e w10 ⟨rfl, hb10⟩
  have HB10 := hid (HB9.out.trans (hb10.mono HB9.out.size))
  have HW10 := hid (own_below HW9.out hb10)
  have HG10 := hid (own_below HG9.out hb10)
  clear hb10 HW9 HG9
  -- the answer is marked, and held
  go_wp2_with fail
  refine (Pat.f34o aG m cG _ 1 (V.map bs) _ (by rw [List.length_map]; exact HL.out) (by omega) (row_bs HG10.out)).mono ?_
  rintro e w11 ⟨rfl, hg11, hgr11⟩
  have HB11 : Hid (Below w.heap.size w w11) := by
    rcases Pat.own_cases HG10.out with ⟨e1, e2, e3⟩ | ⟨g, e1⟩
    · exact HB10.out.grown hgr11 HB10.out.size (fun k hk => by rw [e1] at hk; cases hk)
    · exact HB10.out.grown hgr11 HB10.out.size (fun k hk => by rw [e1] at hk; have hgg : g = k := Option.some.inj hk; have := HGb.out g e1; have := HX4.out; omega)
  have HW11 := hid (row_grown HW10.out hgr11 (fun g e he => by
    rcases Pat.own_cases HG10.out with ⟨e1, e2, e3⟩ | ⟨g', e1⟩
    · rw [e1] at he; cases he
    · rw [e1] at he
      have hgg : g = g' := Option.some.inj he
      have := HGb.out g' e1
      have := HWb.out g e
      have := HX4.out
      omega))
  have HM11 := hid hg11
  clear hg11 hgr11 HW10 HG10
  go_wp2_with fail
  refine (Pat.f35o aG m cG _ 1 _ (by omega) HM11.out).mono ?_
  rintro e w12 ⟨rfl, hb12⟩
  have HB12 := hid (HB11.out.trans (hb12.mono HB11.out.size))
  have HW12 := hid (own_below HW11.out hb12)
  have HM12 := hid (own_below HM11.out hb12)
  clear hb12 HW11 HM11
  -- once more
  have hmm : ¬ (1 + (m : Int)) < 0 := by omega
  go_wp2_with fail
  refine (Srs.f18 a n c qs _ HN.out hb (HR.out.below HB12.out) HZ.out).mono ?_
  rintro e w13 ⟨d13, rfl, hs13, ho13, hb13⟩
  have HB13 := hid (HB12.out.trans (hb13.mono HB12.out.size))
  have HW13 := hid (own_below HW12.out hb13)
  have HM13 := hid (own_below HM12.out hb13)
  have HF13 := hid (HF.out.same ho13.kin.len hs13.same)
  have HZ13 := hid (HZ.out.same HN.out ho13.kin.len hs13.same)
  have HE13 := hid (voF_same (val := val) (x := x) HN.out ho13.kin.len hs13.same)
  have HO13 := hid ho13
  clear hb13 ho13 hs13 HW12 HM12
  go_wp2_with fail
  refine (f31 val HV.out _ n n d13 x _ HO13.out.kin.len HM.out HO13.out.has HF13.out HZ13.out).mono ?_
  rw [HE13.out, ← HVe.out]
  rintro e w14 ⟨aH, mH, cH, rfl, hh14, hb14⟩
  have HB14 := hid (HB13.out.trans (hb14.mono HB13.out.size))
  have HW14 := hid (own_below HW13.out hb14)
  have HM14 := hid (own_below HM13.out hb14)
  have HH14 := hid hh14
  have hmH : m = mH := HL.out.symm.trans (row_len hh14)
  subst hmH
  clear hb14 hh14 HW13 HM13 HO13 HE13 HF13 HZ13
  go_wp2_with fail
  refine (Pat.f32 aH aW m cH cW (V.map bs) _ (by rw [List.length_map]; exact HL.out) (by omega) (row_has HH14.out) (row_has HW14.out)).mono ?_
  rintro e w15 ⟨rfl, hb15⟩
  have HB15 := hid (HB14.out.trans (hb15.mono HB14.out.size))
  have HM15 := hid (own_below HM14.out hb15)
  clear hb15 HW14 HM14 HH14
  go_wp2_with fail
  refine (Pat.f35o aG m cG _ 1 _ (by omega) HM15.out).mono ?_
  rintro e w16 ⟨rfl, hb16⟩
  have HB16 := hid (HB15.out.trans (hb16.mono HB15.out.size))
  clear hb16 HM15
  go_wp2
  go_ret
  exact ⟨rfl, HB16.out⟩
end Go.Proofs.Ytnhikdlhjdjmdaa.Val
