/- Values: sorted and told once each; the program's ValuesOf. -/
import Derived.Test.YtnhikdlhjdjmdaaYs
import Derived.Test.YtnhikdlhjdjmdaaYc
import Derived.Test.YtnhikdlhjdjmdaaXg
import Derived.Sort.OwnSorted
namespace Go.Proofs.Ytnhikdlhjdjmdaa.Val
open Go.Lib Go.RowKit Go.Sort
open Go.Proofs.Ytnhikdlhjdjmdaa.Lab (Lb HasL OfV goodL GoodP)
open Go.Proofs.Ytnhikdlhjdjmdaa.Srs (Q q0 HasQ FitQ SmlQ GoodQ gdQ gdQ_iff GG box_gg empty_iff)

theorem row_len {w : World} {base m c : Nat} {a : Option Addr} {D : List Tx} (h : Row w base a m c D) : D.length = m := by have := h.1; simpa using this
theorem fSort (a : Option Addr) (m c base : Nat) (D : List Tx) (w : World) (hm : m ≤ 1000) (ho : Row w base a m c D) :
    Calls Try.prog 65 #[.slice a m c] w fun e w' => e = .returned (.tuple #[]) ∧ Row w' base a m c (srt D) ∧ Below base w w' := by
  have hl := row_len ho
  rcases ho.2 with ⟨h1, h2⟩ | ⟨g, cap, cur, h1, h2, h3, h4, h5, h6, h7⟩
  · subst h2
    refine (Try.slices_Sort_string_none a c w).mono ?_
    rintro e w' ⟨rfl, rfl⟩
    have : D = [] := List.eq_nil_of_length_eq_zero hl
    subst this
    exact ⟨rfl, by simpa [srt] using ho, Below.refl _ _⟩
  · cases h1
    subst hl
    refine (Try.slices_Sort_string g 0 c D w (holds_of_block h3 (by simpa using h7)) (Array.getElem?_eq_some_iff.1 h3).1 (by omega)).mono ?_
    rintro e w' ⟨rfl, n, os, rfl⟩
    exact ⟨rfl, ownsRow_sorted (by simp) h2 h3 h4 h5 h6, (Below.refl base w).grown (grownBy_sorted _) (Nat.le_of_lt (Nat.lt_of_le_of_lt h2 (Array.getElem?_eq_some_iff.1 h3).1)) (fun k hk => by cases hk; exact h2)⟩
theorem own_cut {w : World} {base n c g : Nat} {A B : List Tx} (h : Row w base (some ⟨g, 0, none⟩) n c (A ++ B)) : Row w base (some ⟨g, 0, none⟩) A.length c A := by
  have hl := row_len h
  rw [List.length_append] at hl
  rcases h.2 with ⟨h1, _⟩ | ⟨g', cap, cur, h1, h2, h3, h4, h5, h6, h7⟩
  · cases h1
  · cases h1
    refine ⟨by simp, .inr ⟨g, c, cur, rfl, h2, h3, by omega, h5, h6, ?_⟩⟩
    have h8 := congrArg (List.take (A.length * 1)) h7
    rw [List.take_take, List.map_append, List.take_append_of_le_length (by simp), Nat.min_eq_left (by omega)] at h8
    rw [h8, List.take_of_length_le (by simp)]
theorem fCompact (a : Option Addr) (m c base : Nat) (D : List Tx) (w : World) (hm : m ≤ 1000) (ho : Row w base a m c D) :
    Calls Try.prog 66 #[.slice a m c] w fun e w' => ∃ m', e = .returned (.slice a m' c) ∧ Row w' base a m' c (compactUpTo D.toArray D.toArray.size) ∧ Below base w w' := by
  have hl := row_len ho
  rcases ho.2 with ⟨h1, h2⟩ | ⟨g, cap, cur, h1, h2, h3, h4, h5, h6, h7⟩
  · subst h2
    refine (Try.slices_Compact_string_empty a c w).mono ?_
    rintro e w' ⟨rfl, rfl⟩
    have : D = [] := List.eq_nil_of_length_eq_zero hl
    subst this
    exact ⟨0, rfl, by simpa [compactUpTo] using ho, Below.refl _ _⟩
  · cases h1
    subst hl
    have hc := Try.slices_Compact_string_arr g 0 c D.toArray w (holds_of_block h3 (by simpa using h7)) (by simp; omega) (by simpa using h4)
    rw [List.size_toArray] at hc ⊢
    refine hc.mono ?_
    rintro e w' ⟨rfl, q, rfl⟩
    have hle : (compactUpTo D.toArray D.length).length ≤ D.length := by
      unfold compactUpTo
      rw [List.length_map]
      exact Nat.le_trans (List.length_filter_le _ _) (by simp)
    have hr := ownsRow_sorted (n := q) (os := #[]) (ss := D) (ts := compactUpTo D.toArray D.length ++ List.replicate (D.length - (compactUpTo D.toArray D.length).length) []) (by simp; omega) h2 h3 h4 h5 h6
    have hg := grownBy_sorted (w := w) (g := g) (n := q) (os := #[]) (compactUpTo D.toArray D.length ++ List.replicate (D.length - (compactUpTo D.toArray D.length).length) []).toArray
    rw [grow_empty] at hr hg
    exact ⟨_, rfl, own_cut hr, (Below.refl base w).grown hg (Nat.le_of_lt (Nat.lt_of_le_of_lt h2 (Array.getElem?_eq_some_iff.1 h3).1)) (fun k hk => by cases hk; exact h2)⟩
theorem voF_srt (val : List Lb → ByteArray → ByteArray) (qs : List Q) (x : ByteArray) (h : gdQ qs = true) : voF val qs x = compactUpTo (srt (vl val qs x qs.length)).toArray (srt (vl val qs x qs.length)).toArray.size := by
  unfold voF
  rw [if_pos h, both]
set_option maxHeartbeats 2000000 in
theorem f31 (val : List Lb → ByteArray → ByteArray) (hv : ∀ ls x, OfV ls x (val ls x)) (a : Option Addr) (n c : Nat) (qs : List Q) (x : ByteArray) (w : World) (hn : qs.length = n) (hmax : n ≤ maxLen) (hr : HasQ w a qs) (hf : FitQ qs) (hz : SmlQ qs) :
    Calls Try.prog 31 #[.slice a n c, .string x] w fun e w' => ∃ a' m' c', e = .returned (.slice a' m' c') ∧ Row w' w.heap.size a' m' c' (voF val qs x) ∧ Below w.heap.size w w' := by
  obtain ⟨i0, hi, hz0, hz1, hz2⟩ := info_parts infoT
  have HN := hid hn
  have HR := hid hr
  have HF := hid hf
  have HZ := hid hz
  have HV := hid hv
  clear hn hr hf hz hv
  go_enter Try.func31, Try.ntmps31
  go_wp2_with fail
  refine (Srs.f19 a n c qs _ HN.out hmax HR.out HF.out HZ.out).mono ?_
  rintro e w1 ⟨rfl, hb1⟩
  have HB1 := hid hb1
  clear hb1
  cases hg : gdQ qs
  · have HE : Hid (voF val qs x = []) := by unfold Hid voF; rw [hg]; rfl
    go_wp2
    go_ret
    exact ⟨none, 0, 0, rfl, by rw [HE.out]; exact World.ownsRow_nil _ _ _ _, HB1.out⟩
  have HG := hid (gdQ_iff.1 hg)
  have HE := hid (voF_srt val qs x hg)
  have h200 : n ≤ 200 := by rw [← HN.out]; exact HG.out.1
  clear hg
  go_wp2
  go_loopw [5, 14] (fun so si wr => ∃ (k m c' : Nat) (a' : Option Addr), k ≤ n ∧ si = .int .i64 k ∧ so = .slice a' m c' ∧ Hid (Row wr w.heap.size a' m c' (vl val qs x k)) ∧ Hid (Below w.heap.size w wr)) (fun _ si _ => n - (intOf si).toNat)
  case atStart => exact ⟨0, 0, 0, none, Nat.zero_le _, rfl, rfl, World.ownsRow_nil _ _ _ _, HB1.out⟩
  case round =>
    obtain ⟨k, m, c', a', hk, rfl, rfl, HO, HX⟩ := hrel
    have hm : m ≤ 200 := by have := row_len HO.out; have := vl_len val qs x k; omega
    by_cases hlt : k < n
    rotate_left
    · have HK : Hid (k = qs.length) := by unfold Hid; rw [HN.out]; omega
      rw [HK.out] at HO
      go_wp2_with fail
      refine (fSort a' m c' w.heap.size _ _ (by omega) HO.out).mono ?_
      rintro e w2 ⟨rfl, ho2, hb2⟩
      have HO2 := hid ho2
      have HX2 := hid (HX.out.trans hb2)
      clear ho2 hb2
      go_wp2_with fail
      refine (fCompact a' m c' w.heap.size _ _ (by omega) HO2.out).mono ?_
      rw [← HE.out]
      rintro e w3 ⟨m3, rfl, ho3, hb3⟩
      have HO3 := hid ho3
      have HX3 := hid (HX2.out.trans hb3)
      clear ho3 hb3
      go_wp2
      go_ret
      exact ⟨a', m3, c', rfl, HO3.out, HX3.out⟩
    obtain ⟨b, off, rfl, hbl, c0, c1, t1, t2⟩ := (HR.out.below HX.out).at2 k (by rw [HN.out]; exact hlt)
    have HQ := hid (Srs.good_goodP (HG.out.2 k (by rw [HN.out]; exact hlt)).1.1.1)
    have HVL : Hid (vl val qs x (k + 1) = vl val qs x k ++ v1 (val (qs.getD k q0).l x)) := rfl
    simp only [Srs.pl] at HQ
    generalize qs.getD k q0 = q at *
    have HG1 := hid (box_gg (w := w) (q := q) (p := q) c0 t1 t2 t1 hbl HX.out)
    have HO1 := hid (HO.out.alloc (.cells #[.slice q.a q.l.length q.c, .slice q.b q.s.length q.d] 79))
    clear t1 t2
    go_wp2_with fail
    refine (Lab.f64 q.a q.l.length q.c q.l x _ rfl HQ.out (GG.t1 HG1.out)).mono ?_
    rintro e w2 ⟨v, hv, rfl, hb2⟩
    have HX2 := hid (GG.below HG1.out hb2).bel
    have HO2 := hid (own_below HO1.out hb2)
    have HVv := hid (hv.uniq (HV.out q.l x))
    clear hv hb2 HO1 HG1 c0 c1
    cases hq : v.toList.isEmpty
    · have HE2 : Hid (vl val qs x (k + 1) = vl val qs x k ++ [v.data.toList]) := by
        unfold Hid
        have hne : ¬ v = ByteArray.empty := fun e => by rw [empty_iff.2 e] at hq; cases hq
        rw [HVL.out, ← HVv.out, v1, if_neg hne]
      go_wp2_with (at_builtin; refine wpList_append_own _ rfl (.tmp 24) (.tmp 26) 53 rfl w.heap.size 9 i0 (.string ByteArray.empty) 1 16 Try.underlying53 hi hz0 hz1 hz2 rfl (by decide) _ _ _ rfl (HO2.out.alloc _) ⟨w2.heap.size, 0, none⟩ 1 1 [.string v] rfl rfl ?d1 ?d2 ?d3 ?d4 ?d5 ?_)
      case d1 => first | exact one_new w2 _ _ | exact fun j u h => h
      case d2 => first | (intro u hu; simp at hu; subst hu; rfl) | rfl
      case d3 => unfold maxLen; omega
      case d4 => omega
      case d5 => have := HX2.out.size; simp; omega
      intro v3 w3 hown3 hgr3 _
      obtain ⟨a3, c3, rfl⟩ := own_form hown3
      have HX3 := hid ((HX2.out.alloc HX2.out.size (.cells #[.string v] 9)).grown hgr3 (by have := HX2.out.size; simp; omega) (fun j hj => (HO2.out.lt j hj).1))
      have HO3 : Hid (Row w3 w.heap.size a3 (m + 1) c3 (vl val qs x (k + 1))) := by
        unfold Hid Row
        rw [HE2.out, List.map_append, List.map_singleton, enc_s]
        exact hown3
      clear hown3 hgr3
      go_wp2
      go_roundw
      case rel => exact ⟨k + 1, m + 1, c3, a3, by omega, by go_num, rfl, HO3.out, HX3.out⟩
      case measure => simp [intOf]; omega
    · have HE2 : Hid (vl val qs x (k + 1) = vl val qs x k) := by
        unfold Hid
        rw [HVL.out, ← HVv.out, v1, if_pos (empty_iff.1 hq), List.append_nil]
      go_wp2
      go_roundw
      case rel => exact ⟨k + 1, m, c', a', by omega, by go_num, rfl, by rw [HE2.out]; exact HO2.out, HX2.out⟩
      case measure => simp [intOf]; omega
end Go.Proofs.Ytnhikdlhjdjmdaa.Val
