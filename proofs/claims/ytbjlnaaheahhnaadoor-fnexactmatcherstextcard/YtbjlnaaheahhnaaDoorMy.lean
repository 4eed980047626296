/- The text of good matchers: what bracedText, l2MatchersText and both MatchersText come to. -/
import Derived.Test.YtbjlnaaheahhnaaDoorMx
import Derived.Deep.RegionWith
namespace Go.Proofs.YtbjlnaaheahhnaaDoor.Pat
open Go.RowKit

def strM (ms : List Mt) : List ByteArray := ms.map fun p => mkS (matT p)
theorem strM_len (ms : List Mt) : (strM ms).length = ms.length := by simp [strM]
theorem strM_succ {ms : List Mt} {k : Nat} (hk : k < ms.length) : (strM (ms.take (k + 1))).map Value.string = (strM (ms.take k)).map Value.string ++ [.string (mkS (matT (ms.getD k m0)))] := by
  have e : ms.getD k m0 = ms[k] := by simp [hk]
  unfold strM
  rw [List.take_succ_eq_append_getElem hk, e, List.map_append, List.map_append]; rfl
theorem strM_join (ms : List Mt) : Lib.join ((strM ms).map (·.data.toList)) (⟨#[44]⟩ : ByteArray).data.toList = bodyM ms := by
  unfold bodyM strM
  rw [List.map_map]
  rfl
def SmlM (ms : List Mt) : Prop := ms.length ≤ 10 ∧ ∀ i, i < ms.length → (ms.getD i m0).1.size ≤ 40 ∧ (ms.getD i m0).2.2.size ≤ 100 ∧ ∃ j : Nat, (ms.getD i m0).2.1 = (j : Int) ∧ j < 5
theorem good_smlM {ms : List Mt} (h : goodM ms = true) : SmlM ms := by
  have h' : GoodMP ms := of_decide_eq_true h
  refine ⟨h'.1, fun i hi => ?_⟩
  have := h'.2 i hi
  generalize ms.getD i m0 = p at *
  unfold okM nameL at this
  simp at this
  exact ⟨by omega, by omega, p.2.1.toNat, by omega, by omega⟩
theorem matT_len {p : Mt} (h1 : p.1.size ≤ 40) (h2 : p.2.2.size ≤ 100) : (matT p).length ≤ 244 := by
  have := Lab.quoB_len p.2.2.data.toList
  have h3 := sgA_size p.2.1.toNat
  unfold matT
  simp at this ⊢
  omega
theorem bodyM_len {ms : List Mt} (h : SmlM ms) (k : Nat) : (bodyM (ms.take k)).length ≤ 2450 := by
  have h1 := Lab.join_len ((ms.take k).map matT) [44] 244 (by
    intro x hx
    obtain ⟨p, hp, rfl⟩ := List.mem_map.1 hx
    obtain ⟨i, hi, rfl⟩ := List.getElem_of_mem (List.mem_of_mem_take hp)
    have := h.2 i hi
    have e : ms.getD i m0 = ms[i] := by simp [hi]
    rw [e] at this
    exact matT_len this.1 this.2.1)
  have h2 := h.1
  unfold bodyM
  have : ((ms.take k).map matT).length ≤ 10 := by simp; omega
  refine Nat.le_trans h1 (Nat.le_trans (Nat.mul_le_mul_right _ this) (by simp))
theorem bodyM_one {ms : List Mt} (h : 0 < ms.length) : bodyM (ms.take 1) = matT (ms.getD 0 m0) := by
  have e : ms.getD 0 m0 = ms[0] := by simp [h]
  unfold bodyM
  rw [List.take_succ_eq_append_getElem h, e]
  simp [Lib.join_one]
theorem bodyM_succ {ms : List Mt} {k : Nat} (hk : k < ms.length) (h0 : 0 < k) : bodyM (ms.take (k + 1)) = bodyM (ms.take k) ++ [44] ++ matT (ms.getD k m0) := by
  have e : ms.getD k m0 = ms[k] := by simp [hk]
  unfold bodyM
  rw [List.take_succ_eq_append_getElem hk, e]
  cases ms with
  | nil => simp at hk
  | cons x r =>
    cases k with
    | zero => omega
    | succ k =>
      simp only [List.take_succ_cons, List.map_append, List.map_cons, List.cons_append, Lib.join_cons, List.map_nil]
      rw [Lab.joinTail_app]; simp
theorem bodyM_all {ms : List Mt} {k : Nat} (hk : ms.length ≤ k) : bodyM (ms.take k) = bodyM ms := by rw [List.take_of_length_le hk]
theorem outM_first {ms : List Mt} (h : 0 < ms.length) : (⟨#[123]⟩ : ByteArray) ++ mkS (matT (ms.getD 0 m0)) = mkS ([123] ++ bodyM (ms.take (0 + 1))) := by
  rw [bodyM_one h]; apply ByteArray.ext; simp
theorem outM_next {ms : List Mt} {k : Nat} (h : k < ms.length) (h0 : 0 < k) : mkS ([123] ++ bodyM (ms.take k)) ++ ⟨#[44]⟩ ++ mkS (matT (ms.getD k m0)) = mkS ([123] ++ bodyM (ms.take (k + 1))) := by
  rw [bodyM_succ h h0]; apply ByteArray.ext; simp
theorem outM_size {ms : List Mt} (h : SmlM ms) (k : Nat) : (mkS ([123] ++ bodyM (ms.take k))).size ≤ 2451 := by
  have := bodyM_len h k
  rw [Lab.mkS_size]; simp; omega
def txtN (ms : List Mt) : List UInt8 := if goodM ms = true then txtM ms else []
theorem txtN_yes {ms : List Mt} (h : goodM ms = true) : txtN ms = txtM ms := by unfold txtN; rw [if_pos h]
theorem txtN_no {ms : List Mt} (h : goodM ms = false) : txtN ms = [] := by unfold txtN; rw [if_neg (by simp [h])]
theorem joinM_own {w : World} {B n c : Nat} {a : Option Addr} {ms : List Mt} (h : w.ownsRow B 9 1 (.slice a n c) n ((strM ms).map Value.string)) (hn : ms.length = n) (h20 : n ≤ 20) (hl : (bodyM ms).length ≤ 4880) :
    Calls Tryd.prog 32 #[.slice a n c, .string ⟨#[44]⟩] w fun e w' => e = .returned (.string (mkS (bodyM ms))) ∧ Below w.heap.size w w' := by
  rcases h.2 with ⟨h1, h2⟩ | ⟨g, cap, cur, h1, h2, h3, h4, h5⟩
  · subst h2
    have e0 : bodyM ms = [] := by rw [List.length_eq_zero_iff.1 hn]; rfl
    refine (Tryd.strings_Join_none a c ⟨#[44]⟩ w).mono ?_
    rintro e w' ⟨rfl, rfl⟩
    exact ⟨by rw [e0], Below.refl _ _⟩
  · simp only [Value.slice.injEq, true_and] at h1
    obtain ⟨rfl, rfl⟩ := h1
    have e1 : (strM ms).length = n := by rw [strM_len, hn]
    have := Tryd.strings_Join g 0 c (strM ms) ⟨#[44]⟩ w (by
      intro j x hx
      have := h.cells (g := g) rfl j (.string x) (by simp [hx])
      have e : (⟨g, 0, none⟩ : Addr).add j = ⟨g, 0 + j, none⟩ := by unfold Addr.add; split <;> simp_all
      rwa [e] at this) (Lab.lt_block h3) (by omega) (by omega) (by rw [strM_join]; omega)
    rw [e1, strM_join] at this
    exact this

set_option maxHeartbeats 2000000 in
theorem f19 (a : Option Addr) (n c : Nat) (ms : List Mt) (w : World) (hn : ms.length = n) (hr : HasM w a ms) (hs : SmlM ms) (hg : Sgn w) :
    Calls Tryd.prog 19 #[.slice a n c, .func (.func 20) #[] #[]] w fun e w' => e = .returned (.string (mkS (txtM ms))) ∧ Below w.heap.size w w' := by
  obtain ⟨i0, hi, hz0, hz1, hz2⟩ := info_parts Lab.info9
  have h20 : n ≤ 10 := by have := hs.1; omega
  have HN := hid hn
  have HS := hid hs
  have HR := hid hr
  have HGN := hid hg
  have HL := hid (bodyM_len hs n)
  have hbl : (mkS (bodyM ms)).size ≤ 2450 := by
    rw [Lab.mkS_size, ← bodyM_all (k := n) (by omega)]; exact HL.out
  have a1 := Lab.add_run ⟨#[123]⟩ (mkS (bodyM ms)) (by have : (⟨#[123]⟩ : ByteArray).size = 1 := rfl; omega)
  have a2 := Lab.add_run (⟨#[123]⟩ ++ mkS (bodyM ms)) ⟨#[125]⟩ (by
    have e1 : (⟨#[123]⟩ : ByteArray).size = 1 := rfl
    have e2 : (⟨#[125]⟩ : ByteArray).size = 1 := rfl
    rw [ByteArray.size_append]; omega)
  have HT : Hid ((⟨#[123]⟩ : ByteArray) ++ mkS (bodyM ms) ++ ⟨#[125]⟩ = mkS (txtM ms)) := by
    apply ByteArray.ext; simp [txtM]
  clear hn hs hr hbl hg
  go_enter Tryd.func19, Tryd.ntmps19
  go_wp2_with (at_make; refine wpList_make_own _ rfl _ _ 47 rfl w.heap.size 9 i0 (.string ByteArray.empty) 1 Tryd.underlying47 hi hz0 hz1 _ _ _ n rfl rfl rfl ?b2 ?b3 ?b4 ?_)
  case b2 => rw [hz2]; omega
  case b3 => unfold maxLen; omega
  case b4 => exact Nat.le_refl _
  intro w2 hown2 hgrow2
  have HX2 := hid ((Below.refl w.heap.size w).grown hgrow2 (Nat.le_refl _) (fun k h => by cases h))
  have HO2 := hid hown2
  clear hown2 hgrow2
  go_wp2
  go_loopw [5, 13] (fun so si wr => ∃ (k c' : Nat) (a' : Option Addr), k ≤ n ∧ si = .int .i64 k ∧ so = .slice a' k c' ∧ Hid (wr.ownsRow w.heap.size 9 1 (.slice a' k c') k ((strM (ms.take k)).map Value.string)) ∧ Hid (Below w.heap.size w wr)) (fun _ si _ => n - (intOf si).toNat)
  case atStart => exact ⟨0, n, some ⟨w.heap.size, 0, none⟩, Nat.zero_le _, rfl, rfl, by simpa [strM] using HO2, HX2⟩
  case round =>
    obtain ⟨k, c', a', hk, rfl, rfl, HO, HX⟩ := hrel
    by_cases hlt : k < n
    · rcases HR.out with hr | ⟨bb, off, rfl, hbl, hc⟩
      · exact absurd HN.out (by rw [hr]; simp; omega)
      obtain ⟨c0, c1', c2'⟩ := hc k (by rw [HN.out]; exact hlt)
      have d0 := (HX.out.cell (p := ⟨bb, off + k * 3, none⟩) hbl).trans c0
      have d1 := (HX.out.cell (p := ⟨bb, off + k * 3 + 1, none⟩) hbl).trans c1'
      have d2 := (HX.out.cell (p := ⟨bb, off + k * 3 + 2, none⟩) hbl).trans c2'
      have HSU := hid (strM_succ (ms := ms) (k := k) (by rw [HN.out]; exact hlt))
      have HSZ := hid (HS.out.2 k (by rw [HN.out]; exact hlt))
      clear hc c0 c1' c2'
      generalize ms.getD k m0 = p at *
      obtain ⟨s, o, t⟩ := p
      obtain ⟨z1, z2, j, hj, hj5⟩ := HSZ.out
      simp only at z1 z2 hj
      subst hj
      have HGr := hid ((HGN.out.below HX.out).below ((Below.refl wr.heap.size wr).alloc (Nat.le_refl _) (.cells #[.string s, .int .i64 (j : Int), .string t] 37)))
      go_wp2_with fail
      refine (f20 s t j _ (by omega) z2 hj5 HGr.out).mono ?_
      rintro e w3 ⟨rfl, hb3⟩
      have HX3 := hid ((HX.out.alloc HX.out.size (.cells #[.string s, .int .i64 (j : Int), .string t] 37)).trans (hb3.mono (by have := HX.out.size; simp; omega)))
      have HO3 := hid (own_below (HO.out.alloc (.cells #[.string s, .int .i64 (j : Int), .string t] 37)) hb3)
      clear hb3
      go_wp2_with (at_builtin; refine wpList_append_own _ rfl (.tmp 17) (.tmp 21) 47 rfl w.heap.size 9 i0 (.string ByteArray.empty) 1 16 Tryd.underlying47 hi hz0 hz1 hz2 rfl (by decide) _ _ _ rfl (HO3.out.alloc _) ⟨w3.heap.size, 0, none⟩ 1 1 [.string (mkS (matT (s, (j : Int), t)))] rfl rfl ?d1 ?d2 ?d3 ?d4 ?d5 ?_)
      case d1 => exact one_row _ _ _
      case d2 => intro u hu; simp at hu; subst hu; rfl
      case d3 => unfold maxLen; omega
      case d4 => omega
      case d5 => have := HX3.out.size; simp; omega
      intro v1 w4 hown1 hgr1 _
      obtain ⟨a2, c2, rfl⟩ := own_form hown1
      have HO4 : Hid (w4.ownsRow w.heap.size 9 1 (.slice a2 (k + 1) c2) (k + 1) ((strM (ms.take (k + 1))).map Value.string)) := by unfold Hid; rw [HSU.out]; exact hown1
      have HX4 := hid ((HX3.out.alloc HX3.out.size (.cells #[.string (mkS (matT (s, (j : Int), t)))] 9)).grown hgr1 (by have := HX3.out.size; simp; omega) (fun k hk => (HO3.out.lt k hk).1))
      clear hown1 hgr1
      go_wp2
      go_roundw
      case rel => exact ⟨k + 1, c2, a2, by omega, by go_num, rfl, HO4, HX4⟩
      case measure => simp [intOf]; omega
    · obtain rfl : k = n := by omega
      have HTA : Hid (ms.take k = ms) := List.take_of_length_le (by rw [HN.out]; exact Nat.le_refl _)
      have hj := joinM_own HO.out (by rw [HTA.out, HN.out]) (by omega) (by have := HL.out; rw [HTA.out] at this ⊢; omega)
      rw [HTA.out] at hj
      go_wp2_with fail
      refine hj.mono ?_
      rintro e w5 ⟨rfl, hb5⟩
      have HX5 := hid (HX.out.trans (hb5.mono HX.out.size))
      clear hb5 hj
      go_wp2
      go_ret
      exact ⟨by rw [← HT.out]; rfl, HX5.out⟩
end Go.Proofs.YtbjlnaaheahhnaaDoor.Pat
