/- The walk of FnExactGoodQuery. -/
import Derived.Test.YtbdlahhejfamhaaGreatDoorRA3
import Derived.Test.YtbdlahhejfamhaaGreatDoorRQmze
import Derived.Test.YtbdlahhejfamhaaGreatDoorRK3
import Derived.Test.YtbdlahhejfamhaaGreatDoorRK4
namespace Go.Proofs.YtbdlahhejfamhaaGreatDoor.Qry
open Go.RowKit

theorem SameTo.same {n : Nat} {rs d : List R} (h : SameTo n rs d) : Same n rs d := fun i hi => (h i hi).1
theorem map_same {n : Nat} {rs d : List R} (h : Same n rs d) (hn : rs.length = n) (hd : d.length = n) : d.map pl = rs.map pl := by
  apply List.ext_getElem
  · simp [hn, hd]
  · intro i h1 h2
    have hi : i < n := by simpa [hd] using h1
    have := h i hi
    simpa [List.getD_eq_getElem?_getD, hn, hd, hi] using this
theorem rows_rw {w : World} {a : Option Addr} {d : List R} (hr : HasR w a d) (hf : FitR d) (hz : SmlR d) : ∀ q ∈ d, Rw w q := by
  intro q hq
  obtain ⟨i, hi, rfl⟩ := List.mem_iff_getElem.1 hq
  have e : d.getD i r0 = d[i] := by simp [List.getD_eq_getElem?_getD, hi]
  obtain ⟨_, _, _, _, _, hl⟩ := hr.at2 i hi
  have h2 := hf i
  have h3 := hz i hi
  rw [e] at hl h2 h3
  exact ⟨hl, h2, h3⟩

end Go.Proofs.YtbdlahhejfamhaaGreatDoor.Qry
/- The model's KindOfQuery. -/
namespace Go.Proofs.YtbdlahhejfamhaaGreatDoor.Qry
open Go.RowKit

theorem kmOk : ∀ n, KmOk n := by
  intro n
  induction n with
  | zero =>
    intro t x w0 S w d hd hg
    obtain rfl : d = 13 := by omega
    obtain ⟨r, ks⟩ := t
    exact absurd (nm_parts hg).2.1 (by omega)
  | succ n ih =>
    intro t x w0 S w d hd hg hv hb
    obtain ⟨r, ks⟩ := t
    obtain ⟨q, a, m, c⟩ := x
    simp only [Ev] at hv
    obtain ⟨rfl, _, xs, hn, hh, hl⟩ := hv
    subst hn
    rw [kdT]
    exact kmStep n ih q a xs c ks w0 S w d hd hg hh hl hb
/-- The kind of a question. -/
def KindM (ps : List Pl) (w : World) (e : Ending) (w' : World) : Prop :=
  Below w.heap.size w w' ∧ ((e = .returned (.string ⟨#[]⟩) ∧ ¬ GoodQ ps) ∨ ∃ t, e = .returned (.string (kdT t).s) ∧ ps = rows t ∧ GoodQ ps ∧ Gt NM 1 t)
set_option maxHeartbeats 8000000 in
set_option maxRecDepth 100000 in
theorem f9 (rs : List R) (a : Option Addr) (c : Nat) (w0 w : World) (hm : rs.length ≤ maxLen) (hr : HasR w0 a rs) (hrs : ∀ q ∈ rs, Rw w0 q) (hb0 : Below w0.heap.size w0 w) :
    Calls Tryz.prog 9 #[.slice a rs.length c] w (KindM (rs.map pl) w) := by
  have HT := hid (f30 rs a c w0 w hm hr hrs hb0)
  have HB0 := hid hb0
  clear hr hrs hb0
  go_enter Tryz.func9, Tryz.ntmps9
  go_wp2_with fail
  refine HT.out.mono ?_
  rintro e w1 ⟨hb1, z, b, rfl, hb, hz⟩
  cases b with
  | false =>
    have HN : Hid (¬ GoodQ (rs.map pl)) := fun h => by have := hb.2 h; cases this
    have HB1 := hid (hb1.alloc hb1.size (EO z.q z.a z.n z.c))
    clear hb hb1 hz HT
    go_wp2
    go_ret
    exact ⟨HB1.out, .inl ⟨rfl, HN.out⟩⟩
  | true =>
    obtain ⟨t, ht, hg, hv⟩ := hz rfl
    have HE := hid ht
    have HQ := hid (hb.1 rfl)
    have HG := hid hg
    obtain ⟨Y, hY⟩ : ∃ Y, Y = w1.alloc (EO z.q z.a z.n z.c) := ⟨_, rfl⟩
    have hYB : Below w1.heap.size w1 Y := by rw [hY]; exact (Below.refl _ _).alloc (Nat.le_refl _) _
    have hYN := congrArg (fun (x : World) => x.heap[w1.heap.size]?) hY
    rw [heap_alloc_new] at hYN
    obtain ⟨d0, d1, d2, d3, d4, d5, d6, d7, d8, d9, d10, d11, d12, d13, d14, d15⟩ := sixteen hYN
    have HYX := hid (hb1.trans (hYB.mono hb1.size))
    have HC := hid (kmOk 12 t z w0 _ Y 1 rfl hg (Ev.agr (Agr.below hYB) t z hv) (HB0.out.trans (HYX.out.mono HB0.out.size)))
    have HYY := hid hY
    clear hY hYB hYN hb hb1 hz hg hv ht HT HB0
    go_upto_region 4 with fail
    rw [← HYY.out]
    clear HYY
    go_wp2_with (go_at_call 31; refine HC.out.mono ?_; rintro e w2 ⟨rfl, hb2⟩; have HB2 := hid hb2; clear hb2)
    go_ret
    exact ⟨HYX.out.trans (HB2.out.mono HYX.out.size), .inr ⟨t, rfl, HE.out, HQ.out, HG.out⟩⟩
end Go.Proofs.YtbdlahhejfamhaaGreatDoor.Qry
/- The walk of FnExactKindOfQuery. -/
namespace Go.Proofs.YtbdlahhejfamhaaGreatDoor.Qry
open Go.RowKit

/-- What a question's kind is, as a text. -/
def KindIs (ps : List Pl) (s : ByteArray) : Prop := (s = ⟨#[]⟩ ∧ ¬ GoodQ ps) ∨ ∃ t, s = (kdT t).s ∧ ps = rows t ∧ Gt NM 1 t ∧ ps.length ≤ 60
theorem kind_one {ps : List Pl} {a b : ByteArray} (ha : KindIs ps a) (hb : KindIs ps b) : a = b := by
  rcases ha with ⟨h1, h2⟩ | ⟨t, h1, h2, h3, h4⟩
  · rcases hb with ⟨g1, _⟩ | ⟨u, _, g2, g3, g4⟩
    · rw [h1, g1]
    · exact absurd ⟨g4, u, g2, g3⟩ h2
  · rcases hb with ⟨_, g2⟩ | ⟨u, g1, g2, g3, g4⟩
    · exact absurd ⟨h4, t, h2, h3⟩ g2
    · have e := (rows_one NM NM t u 1 1 [] [] h3 g3 (by rw [← h2, g2])).1
      rw [h1, g1, e]
theorem kindQ {ps : List Pl} {e : Ending} (h : (e = .returned (.string ⟨#[]⟩) ∧ ¬ GoodQ ps) ∨ ∃ t, e = .returned (.string (kdT t).s) ∧ ps = rows t ∧ GoodQ ps ∧ Gt NM 1 t) : ∃ s, e = .returned (.string s) ∧ KindIs ps s := by
  rcases h with ⟨h1, h2⟩ | ⟨t, h1, h2, h3, h4⟩
  · exact ⟨_, h1, .inl ⟨rfl, h2⟩⟩
  · exact ⟨_, h1, .inr ⟨t, rfl, h2, h4, h3.1⟩⟩
theorem kindP {ps : List Pl} {e : Ending} (h : (e = .returned (.string ⟨#[]⟩) ∧ ¬ GoodQ ps) ∨ ∃ t, e = .returned (.string (kdT t).s) ∧ ps = rows t ∧ ps.length ≤ 60 ∧ Gt NM 1 t) : ∃ s, e = .returned (.string s) ∧ KindIs ps s := by
  rcases h with ⟨h1, h2⟩ | ⟨t, h1, h2, h3, h4⟩
  · exact ⟨_, h1, .inl ⟨rfl, h2⟩⟩
  · exact ⟨_, h1, .inr ⟨t, rfl, h2, h4, h3⟩⟩
set_option maxHeartbeats 4000000 in
theorem walkKind (a : Option Addr) (n c : Nat) (rs : List R) (w : World) (hn : rs.length = n) (hmax : n ≤ maxLen) (hr : HasR w a rs) (hf : FitR rs) (ht : Tabs w) :
    Calls Tryz.prog 3 #[.slice a n c] w fun e w' => e = .returned (.bool true) ∧ Below w.heap.size w w' := by
  have HN := hid hn
  have HR := hid hr
  have HF := hid hf
  have HM := hid hmax
  have HT := hid ht
  clear hn hr hf hmax ht
  go_enter Tryz.func3, Tryz.ntmps3
  go_wp2_with fail
  refine (f8 a n c 1048576 rs _ (by omega) (by omega) HN.out HR.out HF.out HM.out).mono ?_
  rintro e w1 ⟨y, rfl, y0, y1, hy, hb⟩
  have HB1 := hid hb
  have HR1 := hid (HR.out.below hb)
  clear hb HR
  by_cases g0 : y < 0
  · go_wp2
    go_ret
    exact ⟨rfl, HB1.out⟩
  have h1 := hy (by omega)
  have hle : n ≤ 1048576 := by omega
  have HZ : Hid (SmlR rs) := sml_tot (by rw [HN.out]; omega)
  clear h1 hy
  have HMx : Hid (n ≤ maxLen) := HM.out
  go_wp2_with fail
  refine (f10 a n c rs _ HN.out hle HR1.out HZ.out).mono ?_
  rintro e w2 ⟨d2, rfl, hs2, ho2, hb⟩
  have HB2 := hid (HB1.out.trans (hb.mono HB1.out.size))
  have HR2 := hid (HR1.out.below hb)
  have HL2 : Hid (d2.length = n) := ho2.kin.len
  have HS2 := hid hs2.same
  have HH2 := hid ho2.has
  clear hb ho2 hs2 HB1 HR1
  have HG2 := hid (map_same HS2.out HN.out HL2.out)
  have HP := hid (f9 d2 (some ⟨w1.heap.size, 0, none⟩) n w2 w2 (by rw [HL2.out]; exact HMx.out) HH2.out (rows_rw HH2.out (HS2.out.fit HL2.out HF.out) (HS2.out.sml HN.out HL2.out HZ.out)) (Below.refl _ _))
  rw [HL2.out] at HP
  generalize w1.heap.size = X1 at *
  go_wp2_with fail
  refine HP.out.mono ?_
  rintro e w3 ⟨hb, hR⟩
  rw [HG2.out] at hR
  obtain ⟨R1, rfl, hR1⟩ := kindQ hR
  have HB3 := hid (HB2.out.trans (hb.mono HB2.out.size))
  have HR3 := hid (HR2.out.below hb)
  have HRa := hid hR1
  clear hb hR1 HB2 HR2 HL2 HS2 HH2 HG2 HP
  go_wp2_with fail
  refine (f10 a n c rs _ HN.out hle HR3.out HZ.out).mono ?_
  rintro e w4 ⟨d4, rfl, hs4, ho4, hb⟩
  have HB4 := hid (HB3.out.trans (hb.mono HB3.out.size))
  have HR4 := hid (HR3.out.below hb)
  have HL4 : Hid (d4.length = n) := ho4.kin.len
  have HS4 := hid hs4.same
  have HH4 := hid ho4.has
  clear hb ho4 hs4 HB3 HR3
  have HG4 := hid (map_same HS4.out HN.out HL4.out)
  have HP := hid (f11 d4 (some ⟨w3.heap.size, 0, none⟩) n w4 w4 (by rw [HL4.out]; exact HMx.out) (by rw [HL4.out]; exact Nat.le_refl _) HMx.out HH4.out (rows_rw HH4.out (HS4.out.fit HL4.out HF.out) (HS4.out.sml HN.out HL4.out HZ.out)) (Below.refl _ _) (HT.out.below HB4.out))
  rw [HL4.out] at HP
  generalize w3.heap.size = X3 at *
  go_wp2_with fail
  refine HP.out.mono ?_
  rintro e w5 ⟨hb, hR⟩
  rw [HG4.out] at hR
  obtain ⟨R2, rfl, hR2⟩ := kindP hR
  obtain rfl : R2 = R1 := kind_one hR2 HRa.out
  have HB5 := hid (HB4.out.trans (hb.mono HB4.out.size))
  have HR5 := hid (HR4.out.below hb)
  have HH5 := hid (HH4.out.below hb)
  clear hb hR2 HB4 HR4 HH4 HRa HG4 HP
  have gR : (R2.toList != R2.toList) = false := by simp
  go_wp2_with fail
  refine (f10 a n c rs _ HN.out hle HR5.out HZ.out).mono ?_
  rintro e w6 ⟨d6, rfl, hs6, ho6, hb⟩
  have HB6 := hid (HB5.out.trans (hb.mono HB5.out.size))
  have HH6 := hid (HH5.out.below hb)
  have HL6 : Hid (d6.length = n) := ho6.kin.len
  have HS6 := hid hs6.same
  have HO6 := hid ho6.has
  clear hb ho6 hs6 HB5 HH5
  generalize w5.heap.size = X5 at *
  go_wp2_with fail
  refine (f12 _ _ n n n d4 d6 _ HL4.out HL6.out hle HH6.out HO6.out (HS4.out.trans' HS6.out) (HS4.out.sml HN.out HL4.out HZ.out)).mono ?_
  rintro e w7 ⟨rfl, hb⟩
  have HB7 := hid (HB6.out.trans (hb.mono HB6.out.size))
  clear hb
  go_wp2
  go_ret
  exact ⟨rfl, HB7.out⟩
end Go.Proofs.YtbdlahhejfamhaaGreatDoor.Qry
