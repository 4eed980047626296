/- The program's PackChunk of good samples. -/
import Derived.Test.YteblbcbfaomdmaaDoorVj
import Derived.Test.YteblbcbfaomdmaaDoorAdd4
namespace Go.Proofs.YteblbcbfaomdmaaDoor.Chk
open Go.RowKit Go.Proofs.YteblbcbfaomdmaaDoor.Bts
open Go.Proofs.YteblbcbfaomdmaaDoor.Smp hiding hid ret_int below_drewN

theorem Wr.new (w : World) (B : Nat) : Wr B w.heap.size ([], 0) (.int .i64 0) (.int .i64 0) (.int .i64 0) (.int .i64 0) (.int .i64 0) (w.alloc (.cells #[.slice none 0 0, .int .i64 0, .int .i64 0, .int .i64 0, .int .i64 0, .int .i64 0, .int .i64 0] 68)) :=
  ⟨none, 0, 0, heap_alloc_new _ _, World.ownsRow_nil _ B 5 1⟩
theorem bitsO {B R : Nat} {p : Bt} {x2 x3 x4 x5 x6 : Value} {w : World} (h : Wr B R p x2 x3 x4 x5 x6 w) :
    Calls Tryd.prog 44 #[.pointer (some ⟨R, 0, none⟩)] w fun e w' => ∃ v, e = .returned v ∧ OwnB w' B v p ∧ Below w.heap.size w w' := by
  obtain ⟨a, n, cap, h1, h2⟩ := h
  have c0 := sv0 h1
  have c1 := sv1 h1
  have hR := lt_of_block h1
  have HO := hid h2
  clear h1 h2
  go_enter Tryd.func44, Tryd.ntmps44
  go_wp2
  go_region
  all_goals go_wp2
  refine bodyPost_ret (v := .agg #[.slice a n cap, .int .i64 (p.2 : Int)]) (by simp [results, Tryd.results44, go_sem]) rfl ⟨_, rfl, ⟨a, n, cap, rfl, (HO.out.alloc _).drew⟩, ((Below.refl _ _).alloc (Nat.le_refl _) _).drew⟩

set_option maxRecDepth 100000 in
set_option maxHeartbeats 8000000 in
theorem packG (a : Option Addr) (c : Nat) (ls : List Sm) (w : World) (hg : GoodP ls) (h120 : ls.length ≤ 120) (hr : HasS w a ls) (hc : Cls w) (ht : Tab w) (hw2 : 2 ≤ w.heap.size) :
    Calls Tryd.prog 9 #[.slice a ls.length c] w fun e w' => ∃ v, e = .returned v ∧ OwnB w' w.heap.size v (packK ls ls.length).b ∧ Below w.heap.size w w' := by
  have HG := hid hg
  have HR := hid hr
  have HC := hid hc
  have HT := hid ht
  have HMX : Hid (ls.length ≤ maxLen) := by unfold Hid maxLen; omega
  have HD : Hid (goodS ls = true) := decide_eq_true hg
  have HX0 := hid (heap_alloc_new w (.cells #[.slice none 0 0, .int .i64 0] 26))
  have HB0 := hid ((Below.refl w.heap.size w).alloc (Nat.le_refl _) (.cells #[.slice none 0 0, .int .i64 0] 26))
  clear hg hr hc ht
  go_enter Tryd.func9, Tryd.ntmps9
  go_wp2_with fail
  refine (f40 a c ls _ HMX.out (HR.out.below HB0.out)).mono ?_
  rintro e w1 ⟨rfl, hb1⟩
  rw [HD.out]
  have HB1 := hid (HB0.out.trans (hb1.mono HB0.out.size))
  have HX1 := hid (box_below HX0.out hb1)
  have l1 : w.heap.size < w1.heap.size := lt_of_block HX1.out
  have HWN := hid (Wr.new w1 w.heap.size)
  have HBN := hid ((Below.refl w1.heap.size w1).alloc (Nat.le_refl _) (.cells #[.slice none 0 0, .int .i64 0, .int .i64 0, .int .i64 0, .int .i64 0, .int .i64 0, .int .i64 0] 68))
  have HXN := hid (box_below HX1.out HBN.out)
  have HB2 := hid (HB1.out.trans (HBN.out.mono HB1.out.size))
  clear hb1 HX0 HB0
  go_wp2_with fail
  refine (putO (ls.length : Int) 8 HWN.out G_nil (by simp) (by omega) (by omega) (by omega) (by omega)).mono ?_
  rintro e w2 ⟨rfl, hw2', hk2⟩
  have HK2 : Hid (KeepsR w1.heap.size w.heap.size w w2) := kr_trans (kr_below (R := w1.heap.size) (Nat.le_refl _) HB2.out) hk2
  have HX2 := hid (krbox HXN.out hk2 (by decide) (by omega))
  have HST : Hid (Stands w.heap.size w1.heap.size (packK ls 0) w2) := ⟨0, 0, .inl ⟨rfl, rfl, rfl⟩, hw2'⟩
  obtain ⟨R, hR⟩ : ∃ R, R = w1.heap.size := ⟨_, rfl⟩
  rw [← hR] at HK2 HST
  have HRR := hid hR
  have lR : w.heap.size < R := by omega
  clear hw2' hk2 hR HWN HBN HXN HB1 HB2 HX1
  generalize hn : ls.length = n at *
  have HN := hid hn
  clear hn
  go_wp2
  simp only [← HRR.out]
  go_loopw [22] (fun si wr => ∃ k : Nat, k ≤ n ∧ si = .int .i64 k ∧ Hid (Stands w.heap.size R (packK ls k) wr) ∧ Hid (KeepsR R w.heap.size w wr) ∧ wr.heap[w.heap.size]? = some (.cells #[.slice none 0 0, .int .i64 0] 26 (0, 0))) (fun si _ => n - (intOf si).toNat)
  case atStart => exact ⟨0, Nat.zero_le _, rfl, HST, HK2, HX2.out⟩
  case round =>
    obtain ⟨k, hk, rfl, hst, hkk, hx2⟩ := hrel
    have HX := hid hx2
    obtain ⟨okG, okF, okS⟩ := packK_ok ls k (by omega)
    obtain ⟨fa, fm, hfi, hwr⟩ := hst.out
    have lRr := hwr.lt
    clear hfi hwr
    by_cases hlt : k < n
    · rcases HR.out with hr | ⟨b, off, rfl, hbl, hcc⟩
      · exact absurd HN.out (by rw [hr]; simp; omega)
      obtain ⟨c0, c1⟩ := hcc k (by rw [HN.out]; exact hlt)
      have d0 := (hkk.out.below.cell (p := ⟨b, off + k * 2, none⟩) hbl).trans c0
      have d1 := (hkk.out.below.cell (p := ⟨b, off + k * 2 + 1, none⟩) hbl).trans c1
      have HGT := hid (HG.out.2 k (by rw [HN.out]; exact hlt))
      have HBA := hid ((Below.refl wr.heap.size wr).alloc (Nat.le_refl _) (.cells #[.int .i64 (ls.getD k e0).1, .int .i64 (ls.getD k e0).2] 36))
      have HKA := hid (kr_trans hkk.out (kr_below (R := R) (B := w.heap.size) (by omega) HBA.out))
      have HXA := hid (box_below hx2 HBA.out)
      have HSA : Hid (Stands w.heap.size R (packK ls k) (wr.alloc (.cells #[.int .i64 (ls.getD k e0).1, .int .i64 (ls.getD k e0).2] 36))) := by
        obtain ⟨fa, fm, h1, h2⟩ := hst.out
        exact ⟨fa, fm, h1, h2.alloc _⟩
      clear c0 c1 hcc hx2
      cases k with
      | zero =>
        have HPK : Hid (packK ls 1 = firstC (packK ls 0) (ls.getD 0 e0)) := rfl
        simp only [Nat.zero_mul, Nat.add_zero] at d0 d1
        generalize ls.getD 0 e0 = p at *
        obtain ⟨s, t⟩ := p
        simp only at d0 d1 HBA HKA HXA HSA
        go_wp2_with fail
        obtain ⟨fa, fm, h1, h2⟩ := HSA.out
        refine (f42 s t _ h2 okG (by omega) (by omega)).mono ?_
        rintro e w3 ⟨rfl, hw3, hk3⟩
        have HK3 := hid (kr_trans HKA.out hk3)
        have HX3 := hid (krbox HXA.out hk3 (by decide) (by omega))
        have HS3 : Hid (Stands w.heap.size R (packK ls 1) w3) := by unfold Hid; rw [HPK.out]; exact ⟨fa, fm, h1, hw3⟩
        clear h2 hw3 hk3
        go_wp2
        go_roundw
        case rel => exact ⟨1, by omega, by go_num, HS3.out, HK3.out, HX3.out⟩
        case measure => simp [intOf]; omega
      | succ j =>
        have HPK : Hid (packK ls (j + 1 + 1) = nextC (packK ls (j + 1)) (ls.getD (j + 1) e0)) := by unfold Hid; rw [packK, if_neg (by omega)]
        obtain ⟨q1, q2, q3, q4⟩ := packK_last HG.out j (by rw [HN.out]; omega)
        have HJ := hid (HG.out.2 j (by rw [HN.out]; omega))
        have g1 := HGT.out
        have g0 := HJ.out.1
        have g2 := g1.2 (by omega)
        rw [Nat.add_sub_cancel] at g2
        have g3 := g1.1
        unfold TimeP at g0 g3
        rw [← q1] at g0 g2
        clear g1 q1 q2
        generalize ls.getD (j + 1) e0 = p at *
        obtain ⟨s, t⟩ := p
        simp only at d0 d1 HBA HKA HXA HSA g2 g3
        generalize packK ls (j + 1) = C at *
        have i1 : (((j + 1 : Nat) : Int) == 0) = false := beq_eq_false_iff_ne.2 (by omega)
        go_wp2_with fail
        refine (f43 s t _ HSA.out okG okF (by omega) (by omega) (by omega) ((HC.out.kr HKA.out hw2)) ((HT.out.kr HKA.out hw2)) (by omega) (by omega) (by omega) (by omega) q3 q4).mono ?_
        rintro e w3 ⟨rfl, hw3, hk3⟩
        have HK3 := hid (kr_trans HKA.out hk3)
        have HX3 := hid (krbox HXA.out hk3 (by decide) (by omega))
        have HS3 : Hid (Stands w.heap.size R (packK ls (j + 1 + 1)) w3) := by unfold Hid; rw [HPK.out]; exact hw3
        clear hw3 hk3
        go_wp2
        go_roundw
        case rel => exact ⟨j + 1 + 1, by omega, by go_num, HS3.out, HK3.out, HX3.out⟩
        case measure => simp [intOf]; omega
    · obtain rfl : k = n := by omega
      obtain ⟨fa, fm, h1, h2⟩ := hst.out
      have HW := hid h2
      clear h1 h2
      go_wp2_with fail
      refine (bitsO HW.out).mono ?_
      rintro e w3 ⟨v, rfl, ho3, hb3⟩
      obtain ⟨a3, n3, cap3, rfl, ho⟩ := ho3
      have hx3 := box_below HX.out hb3
      have z0 := two0 hx3
      have z1 := two1 hx3
      have f0 := twof (o := 0) hx3
      have f1 := twof (o := 1) hx3
      have hbe := hkk.out.below.trans (hb3.mono hkk.out.below.size)
      have HBE := hid ((hbe.setCell (p := ⟨w.heap.size, 0, none⟩) (Nat.le_refl _) (.slice a3 n3 cap3)).setCell (p := ⟨w.heap.size, 1, none⟩) (Nat.le_refl _) (.int .i64 ((packK ls k).b.2 : Int)))
      have h5 : (w3.setCell ⟨w.heap.size, 0, none⟩ (.slice a3 n3 cap3)).heap[w.heap.size]? = some (.cells #[.slice a3 n3 cap3, .int .i64 0] 26 (0, 0)) := two_set0 hx3
      have o1 := ownsRow_setCell_other (a := ⟨w.heap.size, 0, none⟩) ho (own_ne' ho hx3 (by decide)) (.slice a3 n3 cap3)
      have HR1 := hid (two_set1 (v' := .int .i64 ((packK ls k).b.2 : Int)) h5)
      have HO1 := hid (ownsRow_setCell_other (a := ⟨w.heap.size, 1, none⟩) o1 (own_ne' o1 h5 (by decide)) (.int .i64 ((packK ls k).b.2 : Int)))
      clear hx3 hb3 ho hbe h5 o1
      go_wp2
      have y0 := two0 HR1.out
      have y1 := two1 HR1.out
      refine bodyPost_ret (v := .agg #[.slice a3 n3 cap3, .int .i64 ((packK ls k).b.2 : Int)]) (by simp [results, Tryd.results9, go_sem, y0, y1]) rfl ⟨_, rfl, by rw [HN.out]; exact ⟨a3, n3, cap3, rfl, HO1.out⟩, HBE.out⟩
end Go.Proofs.YteblbcbfaomdmaaDoor.Chk
