/- The program's kindOfNode: numbers, texts, selections. -/
import Derived.Test.YtbdlahhejfamhaaGreatDoorRK1
import Derived.Test.YtbdlahhejfamhaaGreatDoorRQkb
import Derived.Test.YtbdlahhejfamhaaGreatDoorRQpi
namespace Go.Proofs.YtbdlahhejfamhaaGreatDoor.Qry
open Go.RowKit
open Go.Proofs.YtbdlahhejfamhaaGreatDoor.Fil (HasT FitT)

/-- What is said of a call of kindOfNode. -/
abbrev KnQ (k : K) (w : World) (e : Ending) (w' : World) : Prop := e = .returned (.string k.s) ∧ Below w.heap.size w w'
def KnOk (n : Nat) : Prop := ∀ (t : Tr) (v : Value) (w0 : World) (S : Nat → Prop) (w : World) (d : Nat), n + d = 12 → Gt N1 d t → Gt N2 d t → Nv w0 S w t v → Below w0.heap.size w0 w → Tabs w → Calls Tryz.prog 34 #[v] w (KnQ (kdT t) w)
theorem kdL_at {ks : List Tr} {i : Nat} {t : Tr} (h : ks[i]? = some t) : (kdL ks).take (i + 1) = (kdL ks).take i ++ [kdT t] := by
  have hi : i < (kdL ks).length := by
    rw [kdL_len]
    rcases Nat.lt_or_ge i ks.length with h1 | h1
    · exact h1
    · rw [List.getElem?_eq_none h1] at h; cases h
  rw [List.take_add_one, List.getElem?_eq_getElem hi]
  congr 1
  have : (kdL ks)[i]? = some (kdT t) := by rw [kdL_map, List.getElem?_map, h]; rfl
  rw [List.getElem?_eq_getElem hi] at this
  rw [Option.some.inj this]
  rfl
/-- The kinds of the first k kids, in a row of the call's own. -/
def KidK (B : Nat) (ks : List Tr) (w : World) (a : Option Addr) (c k : Nat) : Prop := w.ownsRow B 9 1 (.slice a k c) k (((kdL ks).take k).map fun x => Value.string x.s)
theorem KidK.own {B : Nat} {ks : List Tr} {w : World} {a : Option Addr} {c k : Nat} (h : KidK B ks w a c k) (hk : ks.length = k) : OwnK B w a c (kdL ks) := by
  unfold KidK at h
  unfold OwnK
  have e : (kdL ks).length = k := by rw [kdL_len, hk]
  rw [e]
  rw [List.take_of_length_le (by omega)] at h
  exact h
theorem gt2_right {d : Nat} {r : Pl} {ks : List Tr} (h : Gt N2 d (.nd r ks)) : right r = true := by
  simp only [Gt] at h
  exact h.2.1.2
theorem gt2_kids {d : Nat} {r : Pl} {ks : List Tr} {i : Nat} {t : Tr} (hi : ks[i]? = some t) (h : Gt N2 d (.nd r ks)) : Gt N2 (d + 1) t := by
  simp only [Gt] at h
  exact GtL_mem.1 h.2.2 t (List.mem_of_getElem? hi)
theorem gt_len {N : Nd} {d : Nat} {r : Pl} {ks : List Tr} (h : Gt N d (.nd r ks)) : r.kc = ks.length := by
  simp only [Gt] at h
  exact h.1
theorem own_belowK {w w' : World} {base e size n : Nat} {v : Value} {xs : List Value} (h : w.ownsRow base e size v n xs) (hb : Below w.heap.size w w') : w'.ownsRow base e size v n xs :=
  h.kept (row := none) ⟨hb.os, hb.tape, hb.output, hb.size, fun k hk _ => hb.block k hk⟩ (by cases hv : v.ownBlock <;> simp)
theorem ret_kn {k : K} (x : K) (s : ByteArray) (h : k = x) (hs : s = x.s) : Ending.returned (.string s) = .returned (.string k.s) := by rw [h, hs]
set_option maxHeartbeats 8000000 in
set_option maxRecDepth 100000 in
theorem kn_num (n : Nat) (_ : Hid (KnOk n)) (q : R) (ks : List Tr) (w0 : World) (S : Nat → Prop) (w : World) (d : Nat) (h : q.kd = 1) (hd : n + 1 + d = 12) (hg1 : Gt N1 d (.nd (pl q) ks)) (hg2 : Gt N2 d (.nd (pl q) ks)) (hrw : Rw w0 q) (hnl : NvL w0 S w ks []) (hb : Below w0.heap.size w0 w) (ht : Tabs w) :
    Calls Tryz.prog 34 #[vnumNode q] w (KnQ (kdq (pl q) (kdL ks)) w) := by
  have HG1 := hid hg1
  have HG2 := hid hg2
  have HRW := hid hrw
  have HN := hid hnl
  have HB := hid hb
  have HT := hid ht
  have HD := hid hd
  have HR : Hid (kdq (pl q) (kdL ks) = .n) := by unfold Hid kdq; simp [pl, h]
  clear h hg1 hg2 hrw hnl hb ht hd
  have hmk := mk_num
  have tnum := ty_num_num
  go_enter Tryz.func34, Tryz.ntmps34
  go_wp2_with (go_at_call 214; refine (f214 q _).mono ?_; rintro e w2 ⟨rfl, hb2⟩; have HB2 := hid hb2; clear hb2)
  go_loopw [20] (fun si wr => si = .int .i64 0 ∧ wr = w2) (fun _ _ => 0)
  case atStart => exact ⟨rfl, rfl⟩
  case round =>
    obtain ⟨rfl, rfl⟩ := hrel
    have HB3 := hid (HB2.out.trans ((Below.refl wr.heap.size wr).alloc (Nat.le_refl _) (.cells #[] 9) |>.mono HB2.out.size))
    go_wp2
    go_ret
    exact ⟨ret_kn .n _ HR.out rfl, HB2.out.alloc HB2.out.size _⟩
set_option maxHeartbeats 8000000 in
set_option maxRecDepth 100000 in
theorem kn_text (n : Nat) (_ : Hid (KnOk n)) (q : R) (ks : List Tr) (w0 : World) (S : Nat → Prop) (w : World) (d : Nat) (h : q.kd = 2) (hd : n + 1 + d = 12) (hg1 : Gt N1 d (.nd (pl q) ks)) (hg2 : Gt N2 d (.nd (pl q) ks)) (hrw : Rw w0 q) (hnl : NvL w0 S w ks []) (hb : Below w0.heap.size w0 w) (ht : Tabs w) :
    Calls Tryz.prog 34 #[vtextNode q] w (KnQ (kdq (pl q) (kdL ks)) w) := by
  have HG1 := hid hg1
  have HG2 := hid hg2
  have HRW := hid hrw
  have HN := hid hnl
  have HB := hid hb
  have HT := hid ht
  have HD := hid hd
  have HR : Hid (kdq (pl q) (kdL ks) = .t) := by unfold Hid kdq; simp [pl, h]
  clear h hg1 hg2 hrw hnl hb ht hd
  have hmk := mk_text
  have tnum := ty_text_num
  have ttext := ty_text_text
  go_enter Tryz.func34, Tryz.ntmps34
  go_wp2_with (go_at_call 215; refine (f215 q _).mono ?_; rintro e w2 ⟨rfl, hb2⟩; have HB2 := hid hb2; clear hb2)
  go_loopw [20] (fun si wr => si = .int .i64 0 ∧ wr = w2) (fun _ _ => 0)
  case atStart => exact ⟨rfl, rfl⟩
  case round =>
    obtain ⟨rfl, rfl⟩ := hrel
    have HB3 := hid (HB2.out.trans ((Below.refl wr.heap.size wr).alloc (Nat.le_refl _) (.cells #[] 9) |>.mono HB2.out.size))
    go_wp2
    go_ret
    exact ⟨ret_kn .t _ HR.out rfl, HB2.out.alloc HB2.out.size _⟩
set_option maxHeartbeats 8000000 in
set_option maxRecDepth 100000 in
theorem kn_sel (n : Nat) (_ : Hid (KnOk n)) (q : R) (ks : List Tr) (w0 : World) (S : Nat → Prop) (w : World) (d : Nat) (h : q.kd = 3) (hd : n + 1 + d = 12) (hg1 : Gt N1 d (.nd (pl q) ks)) (hg2 : Gt N2 d (.nd (pl q) ks)) (hrw : Rw w0 q) (hnl : NvL w0 S w ks []) (hb : Below w0.heap.size w0 w) (ht : Tabs w) :
    Calls Tryz.prog 34 #[vselectNode q] w (KnQ (kdq (pl q) (kdL ks)) w) := by
  have HG1 := hid hg1
  have HG2 := hid hg2
  have HRW := hid hrw
  have HN := hid hnl
  have HB := hid hb
  have HT := hid ht
  have HD := hid hd
  have HR : Hid (kdq (pl q) (kdL ks) = .v) := by unfold Hid kdq; simp [pl, h]
  clear h hg1 hg2 hrw hnl hb ht hd
  have hmk := mk_sel
  have tnum := ty_sel_num
  have ttext := ty_sel_text
  have tsel := ty_sel_sel
  go_enter Tryz.func34, Tryz.ntmps34
  go_wp2_with (go_at_call 216; refine (f216 q _).mono ?_; rintro e w2 ⟨rfl, hb2⟩; have HB2 := hid hb2; clear hb2)
  go_loopw [20] (fun si wr => si = .int .i64 0 ∧ wr = w2) (fun _ _ => 0)
  case atStart => exact ⟨rfl, rfl⟩
  case round =>
    obtain ⟨rfl, rfl⟩ := hrel
    have HB3 := hid (HB2.out.trans ((Below.refl wr.heap.size wr).alloc (Nat.le_refl _) (.cells #[] 9) |>.mono HB2.out.size))
    go_wp2
    go_ret
    exact ⟨ret_kn .v _ HR.out rfl, HB2.out.alloc HB2.out.size _⟩
end Go.Proofs.YtbdlahhejfamhaaGreatDoor.Qry
/- The program's kindOfNode: sub-questions, negations. -/
namespace Go.Proofs.YtbdlahhejfamhaaGreatDoor.Qry
open Go.RowKit
open Go.Proofs.YtbdlahhejfamhaaGreatDoor.Fil (HasT FitT)

set_option maxHeartbeats 8000000 in
set_option maxRecDepth 100000 in
theorem kn_sub (n : Nat) (IH : Hid (KnOk n)) (q : R) (ks : List Tr) (tt : TypeId) (x : Value) (w0 : World) (S : Nat → Prop) (w : World) (d : Nat) (h : q.kd = 5) (hd : n + 1 + d = 12) (hg1 : Gt N1 d (.nd (pl q) ks)) (hg2 : Gt N2 d (.nd (pl q) ks)) (hrw : Rw w0 q) (hnl : NvL w0 S w ks [.iface tt x]) (hb : Below w0.heap.size w0 w) (ht : Tabs w) :
    Calls Tryz.prog 34 #[vsubNode q (.iface tt x)] w (KnQ (kdq (pl q) (kdL ks)) w) := by
  have HG1 := hid hg1
  have HG2 := hid hg2
  have HRW := hid hrw
  have HN := hid hnl
  have HB := hid hb
  have HT := hid ht
  have HD := hid hd
  have HLn : Hid (([.iface tt x] : List Value).length = ks.length) := NvL.len _ _ hnl
  have HM : Hid (([.iface tt x] : List Value).length ≤ 10) := by
    have h1 := gt_len hg2
    have h2 := gt2_right hg2
    have h3 := HLn.out
    unfold Hid
    simp only [List.length_cons, List.length_nil]
    omega
  have HH := hid h
  clear h hg1 hg2 hrw hnl hb ht hd
  have hmk := mk_sub
  have tnum := ty_sub_num
  have ttext := ty_sub_text
  have tsel := ty_sub_sel
  have trange := ty_sub_range
  have tsub := ty_sub_sub
  obtain ⟨i0, hi, hz0, hz1, hz2⟩ := info_parts infoS
  go_enter Tryz.func34, Tryz.ntmps34
  go_wp2_with (go_at_call 218; refine (f218 q tt x _).mono ?_; rintro e w2 ⟨⟨gg, rfl, hv2⟩, hb2⟩; have HB2 := hid hb2; have HV2 := hid hv2; clear hb2 hv2)
  go_loopw [3, 20] (fun so si wr => ∃ (k c' : Nat) (a' : Option Addr), k ≤ 1 ∧ si = .int .i64 k ∧ so = .slice a' k c' ∧ Hid (KidK w2.heap.size ks wr a' c' k) ∧ Hid (Below w2.heap.size w2 wr)) (fun _ si _ => 1 - (intOf si).toNat)
  case atStart => exact ⟨0, 0, none, Nat.zero_le _, rfl, rfl, ⟨by simp, .inl ⟨rfl, rfl⟩⟩, Below.refl _ _⟩
  case round =>
    obtain ⟨k, c', a', hk, rfl, rfl, HO, HBW⟩ := hrel
    have hbd : 1 ≤ 10 := HM.out
    by_cases hlt : k < 1
    · have hlk : k < ks.length := by
        have h1 := HLn.out
        simp only [List.length_cons, List.length_nil] at h1
        omega
      obtain ⟨tk, vk, e1, e2, e3⟩ := NvL.at_ _ _ HN.out k hlk
      have HE1 := hid e1
      rcases HV2.out with hr0 | ⟨b, off, hab, _, hbl, hc⟩
      · exact absurd hlt (by first | (rw [hr0]; simp) | (simp at hr0))
      have c0 := (HBW.out.cell (p := ⟨b, off + k, none⟩) hbl).trans ((hc k (by first | exact hlt | (simp only [List.length_cons, List.length_nil]; omega))).trans e2)
      have i1 : (k : Int) < (1 : Int) := by omega
      have HX2 := hid (HB2.out.trans (HBW.out.mono HB2.out.size))
      have HNk : Hid (Nv w0 S wr tk vk) := Nv.agr (Agr.below HX2.out) tk vk e3
      clear hc e1 e2 e3
      injection hab with hab; injection hab with hab1 hab2 _; subst hab1; subst hab2; rw [Nat.zero_add] at c0
      have HC := hid (IH.out tk vk w0 S wr (d + 1) (by have := HD.out; omega) (gt1_kid HE1.out HG1.out) (gt2_kids HE1.out HG2.out) HNk.out (HB.out.trans (HX2.out.mono HB.out.size)) (HT.out.below HX2.out))
      have HTK := hid (kdL_at HE1.out)
      generalize kdT tk = kk at HC HTK
      go_wp2_with (first | (go_at_call 34; refine HC.out.mono ?_; rintro e w3 ⟨rfl, hb3⟩; have HB3 := hid hb3; have HO3 : Hid (KidK w2.heap.size ks w3 a' c' k) := own_belowK HO.out hb3; clear hb3) | (at_builtin; refine wpList_append_own _ rfl (.tmp 24) (.tmp 27) 50 rfl w2.heap.size 9 i0 (.string ByteArray.empty) 1 16 Tryz.underlying50 hi hz0 hz1 hz2 rfl (by decide) _ _ _ rfl (World.ownsRow.alloc HO3.out _) ⟨w3.heap.size, 0, none⟩ 1 1 [.string kk.s] rfl rfl ?d1 ?d2 ?d3 ?d4 ?d5 ?_))
      case d1 => exact one_cellsK w3 (.string kk.s) 9
      case d2 => intro u hu; simp at hu; rcases hu with rfl; rfl
      case d3 => unfold maxLen; omega
      case d4 => omega
      case d5 => simp; have := HBW.out.size; have := HB3.out.size; omega
      intro v1 w4 hown1 hgr1 _
      have HBX : Hid (Below w2.heap.size w2 w3) := HBW.out.trans (HB3.out.mono HBW.out.size)
      have HB4 := hid ((HBX.out.alloc HBX.out.size (.cells #[.string kk.s] 9)).grown hgr1 (by have := HBX.out.size; simp; omega) (fun j hj => (World.ownsRow.lt HO3.out j hj).1))
      obtain ⟨a4, c4, rfl⟩ := own_formK hown1
      have HO4 : Hid (KidK w2.heap.size ks w4 a4 c4 (k + 1)) := by
        unfold Hid KidK
        rw [HTK.out, List.map_append]
        simpa using hown1
      clear hown1 hgr1
      go_wp2
      go_roundw
      case rel => exact ⟨k + 1, c4, a4, by omega, by go_num, rfl, HO4.out, HB4.out⟩
      case measure => simp [intOf]; omega
    · have HE : Hid (ks.length = k) := by
        have h1 := HLn.out
        simp only [List.length_cons, List.length_nil] at h1
        unfold Hid; omega
      have HOK := hid (KidK.own HO.out HE.out)
      have HX2 := hid (HB2.out.trans (HBW.out.mono HB2.out.size))
      have hke : k = 1 := by
        have h1 := HLn.out
        have h2 := HE.out
        simp only [List.length_cons, List.length_nil] at h1
        omega
      clear HO
      subst hke
      obtain ⟨k0, hk0⟩ : ∃ k0, kdL ks = [k0] := List.length_eq_one_iff.1 (by rw [kdL_len]; exact HE.out)
      obtain ⟨g0, hg0, _, hg2, hg3, c0⟩ := OwnK.at_ HOK.out 0 k0 (by rw [hk0]; rfl)
      subst hg0
      rcases two k0.val with hv | hv
      · have HR : Hid (kdq (pl q) (kdL ks) = .r) := by unfold Hid; rw [hk0]; unfold kdq; simp [pl, HH.out, hv]
        have HV := hid (fun w => f68 k0 w)
        rw [hv] at HV
        clear hv hk0 HOK
        go_wp2_with (go_at_call 68; refine (HV.out _).mono ?_; rintro e w3 ⟨rfl, hw3⟩; have hw3' := hw3.symm; clear hw3; subst hw3')
        go_ret
        exact ⟨ret_kn .r _ HR.out rfl, HX2.out.alloc HX2.out.size _⟩
      · have HR : Hid (kdq (pl q) (kdL ks) = .e) := by unfold Hid; rw [hk0]; unfold kdq; simp [pl, HH.out, hv]
        have HV := hid (fun w => f68 k0 w)
        rw [hv] at HV
        clear hv hk0 HOK
        go_wp2_with (go_at_call 68; refine (HV.out _).mono ?_; rintro e w3 ⟨rfl, hw3⟩; have hw3' := hw3.symm; clear hw3; subst hw3')
        go_ret
        exact ⟨ret_kn .e _ HR.out rfl, HX2.out.alloc HX2.out.size _⟩
set_option maxHeartbeats 8000000 in
set_option maxRecDepth 100000 in
theorem kn_neg (n : Nat) (IH : Hid (KnOk n)) (q : R) (ks : List Tr) (tt : TypeId) (x : Value) (w0 : World) (S : Nat → Prop) (w : World) (d : Nat) (h : q.kd = 6) (hd : n + 1 + d = 12) (hg1 : Gt N1 d (.nd (pl q) ks)) (hg2 : Gt N2 d (.nd (pl q) ks)) (hrw : Rw w0 q) (hnl : NvL w0 S w ks [.iface tt x]) (hb : Below w0.heap.size w0 w) (ht : Tabs w) :
    Calls Tryz.prog 34 #[vnegNode q (.iface tt x)] w (KnQ (kdq (pl q) (kdL ks)) w) := by
  have HG1 := hid hg1
  have HG2 := hid hg2
  have HRW := hid hrw
  have HN := hid hnl
  have HB := hid hb
  have HT := hid ht
  have HD := hid hd
  have HLn : Hid (([.iface tt x] : List Value).length = ks.length) := NvL.len _ _ hnl
  have HM : Hid (([.iface tt x] : List Value).length ≤ 10) := by
    have h1 := gt_len hg2
    have h2 := gt2_right hg2
    have h3 := HLn.out
    unfold Hid
    simp only [List.length_cons, List.length_nil]
    omega
  have HH := hid h
  clear h hg1 hg2 hrw hnl hb ht hd
  have hmk := mk_neg
  have tnum := ty_neg_num
  have ttext := ty_neg_text
  have tsel := ty_neg_sel
  have trange := ty_neg_range
  have tsub := ty_neg_sub
  have tneg := ty_neg_neg
  obtain ⟨i0, hi, hz0, hz1, hz2⟩ := info_parts infoS
  go_enter Tryz.func34, Tryz.ntmps34
  go_wp2_with (go_at_call 219; refine (f219 q tt x _).mono ?_; rintro e w2 ⟨⟨gg, rfl, hv2⟩, hb2⟩; have HB2 := hid hb2; have HV2 := hid hv2; clear hb2 hv2)
  go_loopw [3, 20] (fun so si wr => ∃ (k c' : Nat) (a' : Option Addr), k ≤ 1 ∧ si = .int .i64 k ∧ so = .slice a' k c' ∧ Hid (KidK w2.heap.size ks wr a' c' k) ∧ Hid (Below w2.heap.size w2 wr)) (fun _ si _ => 1 - (intOf si).toNat)
  case atStart => exact ⟨0, 0, none, Nat.zero_le _, rfl, rfl, ⟨by simp, .inl ⟨rfl, rfl⟩⟩, Below.refl _ _⟩
  case round =>
    obtain ⟨k, c', a', hk, rfl, rfl, HO, HBW⟩ := hrel
    have hbd : 1 ≤ 10 := HM.out
    by_cases hlt : k < 1
    · have hlk : k < ks.length := by
        have h1 := HLn.out
        simp only [List.length_cons, List.length_nil] at h1
        omega
      obtain ⟨tk, vk, e1, e2, e3⟩ := NvL.at_ _ _ HN.out k hlk
      have HE1 := hid e1
      rcases HV2.out with hr0 | ⟨b, off, hab, _, hbl, hc⟩
      · exact absurd hlt (by first | (rw [hr0]; simp) | (simp at hr0))
      have c0 := (HBW.out.cell (p := ⟨b, off + k, none⟩) hbl).trans ((hc k (by first | exact hlt | (simp only [List.length_cons, List.length_nil]; omega))).trans e2)
      have i1 : (k : Int) < (1 : Int) := by omega
      have HX2 := hid (HB2.out.trans (HBW.out.mono HB2.out.size))
      have HNk : Hid (Nv w0 S wr tk vk) := Nv.agr (Agr.below HX2.out) tk vk e3
      clear hc e1 e2 e3
      injection hab with hab; injection hab with hab1 hab2 _; subst hab1; subst hab2; rw [Nat.zero_add] at c0
      have HC := hid (IH.out tk vk w0 S wr (d + 1) (by have := HD.out; omega) (gt1_kid HE1.out HG1.out) (gt2_kids HE1.out HG2.out) HNk.out (HB.out.trans (HX2.out.mono HB.out.size)) (HT.out.below HX2.out))
      have HTK := hid (kdL_at HE1.out)
      generalize kdT tk = kk at HC HTK
      go_wp2_with (first | (go_at_call 34; refine HC.out.mono ?_; rintro e w3 ⟨rfl, hb3⟩; have HB3 := hid hb3; have HO3 : Hid (KidK w2.heap.size ks w3 a' c' k) := own_belowK HO.out hb3; clear hb3) | (at_builtin; refine wpList_append_own _ rfl (.tmp 24) (.tmp 27) 50 rfl w2.heap.size 9 i0 (.string ByteArray.empty) 1 16 Tryz.underlying50 hi hz0 hz1 hz2 rfl (by decide) _ _ _ rfl (World.ownsRow.alloc HO3.out _) ⟨w3.heap.size, 0, none⟩ 1 1 [.string kk.s] rfl rfl ?d1 ?d2 ?d3 ?d4 ?d5 ?_))
      case d1 => exact one_cellsK w3 (.string kk.s) 9
      case d2 => intro u hu; simp at hu; rcases hu with rfl; rfl
      case d3 => unfold maxLen; omega
      case d4 => omega
      case d5 => simp; have := HBW.out.size; have := HB3.out.size; omega
      intro v1 w4 hown1 hgr1 _
      have HBX : Hid (Below w2.heap.size w2 w3) := HBW.out.trans (HB3.out.mono HBW.out.size)
      have HB4 := hid ((HBX.out.alloc HBX.out.size (.cells #[.string kk.s] 9)).grown hgr1 (by have := HBX.out.size; simp; omega) (fun j hj => (World.ownsRow.lt HO3.out j hj).1))
      obtain ⟨a4, c4, rfl⟩ := own_formK hown1
      have HO4 : Hid (KidK w2.heap.size ks w4 a4 c4 (k + 1)) := by
        unfold Hid KidK
        rw [HTK.out, List.map_append]
        simpa using hown1
      clear hown1 hgr1
      go_wp2
      go_roundw
      case rel => exact ⟨k + 1, c4, a4, by omega, by go_num, rfl, HO4.out, HB4.out⟩
      case measure => simp [intOf]; omega
    · have HE : Hid (ks.length = k) := by
        have h1 := HLn.out
        simp only [List.length_cons, List.length_nil] at h1
        unfold Hid; omega
      have HOK := hid (KidK.own HO.out HE.out)
      have HX2 := hid (HB2.out.trans (HBW.out.mono HB2.out.size))
      have hke : k = 1 := by
        have h1 := HLn.out
        have h2 := HE.out
        simp only [List.length_cons, List.length_nil] at h1
        omega
      clear HO
      subst hke
      obtain ⟨k0, hk0⟩ : ∃ k0, kdL ks = [k0] := List.length_eq_one_iff.1 (by rw [kdL_len]; exact HE.out)
      obtain ⟨g0, hg0, _, hg2, hg3, c0⟩ := OwnK.at_ HOK.out 0 k0 (by rw [hk0]; rfl)
      subst hg0
      rcases two k0.val with hv | hv
      · have HR : Hid (kdq (pl q) (kdL ks) = k0) := by unfold Hid; rw [hk0]; unfold kdq; simp [pl, HH.out, hv]
        have HV := hid (fun w => f68 k0 w)
        rw [hv] at HV
        clear hv hk0 HOK
        go_wp2_with (go_at_call 68; refine (HV.out _).mono ?_; rintro e w3 ⟨rfl, hw3⟩; have hw3' := hw3.symm; clear hw3; subst hw3')
        go_ret
        exact ⟨ret_kn k0 _ HR.out rfl, HX2.out.alloc HX2.out.size _⟩
      · have HR : Hid (kdq (pl q) (kdL ks) = .e) := by unfold Hid; rw [hk0]; unfold kdq; simp [pl, HH.out, hv]
        have HV := hid (fun w => f68 k0 w)
        rw [hv] at HV
        clear hv hk0 HOK
        go_wp2_with (go_at_call 68; refine (HV.out _).mono ?_; rintro e w3 ⟨rfl, hw3⟩; have hw3' := hw3.symm; clear hw3; subst hw3')
        go_ret
        exact ⟨ret_kn .e _ HR.out rfl, HX2.out.alloc HX2.out.size _⟩
end Go.Proofs.YtbdlahhejfamhaaGreatDoor.Qry
/- The program's kindOfNode: ranges. -/
namespace Go.Proofs.YtbdlahhejfamhaaGreatDoor.Qry
open Go.RowKit
open Go.Proofs.YtbdlahhejfamhaaGreatDoor.Fil (HasT FitT)

set_option maxHeartbeats 8000000 in
set_option maxRecDepth 100000 in
theorem kn_range (n : Nat) (IH : Hid (KnOk n)) (q : R) (ks : List Tr) (p : R) (w0 : World) (S : Nat → Prop) (w : World) (d : Nat) (h : q.kd = 4) (hd : n + 1 + d = 12) (hg1 : Gt N1 d (.nd (pl q) ks)) (hg2 : Gt N2 d (.nd (pl q) ks)) (hrw : Rw w0 q) (hnl : NvL w0 S w ks [vselectNode p]) (hb : Below w0.heap.size w0 w) (ht : Tabs w) :
    Calls Tryz.prog 34 #[vrangeNode q p] w (KnQ (kdq (pl q) (kdL ks)) w) := by
  have HG1 := hid hg1
  have HG2 := hid hg2
  have HRW := hid hrw
  have HN := hid hnl
  have HB := hid hb
  have HT := hid ht
  have HD := hid hd
  have HLn : Hid (([vselectNode p] : List Value).length = ks.length) := NvL.len _ _ hnl
  have HM : Hid (([vselectNode p] : List Value).length ≤ 10) := by
    have h1 := gt_len hg2
    have h2 := gt2_right hg2
    have h3 := HLn.out
    unfold Hid
    simp only [List.length_cons, List.length_nil]
    omega
  have HH := hid h
  clear h hg1 hg2 hrw hnl hb ht hd
  have hmk := mk_range
  have tnum := ty_range_num
  have ttext := ty_range_text
  have tsel := ty_range_sel
  have trange := ty_range_range
  obtain ⟨i0, hi, hz0, hz1, hz2⟩ := info_parts infoS
  go_enter Tryz.func34, Tryz.ntmps34
  go_wp2_with (go_at_call 217; refine (f217 q p _).mono ?_; rintro e w2 ⟨⟨gg, rfl, hv2⟩, hb2⟩; have HB2 := hid hb2; have HV2 := hid hv2; clear hb2 hv2)
  go_loopw [3, 20] (fun so si wr => ∃ (k c' : Nat) (a' : Option Addr), k ≤ 1 ∧ si = .int .i64 k ∧ so = .slice a' k c' ∧ Hid (KidK w2.heap.size ks wr a' c' k) ∧ Hid (Below w2.heap.size w2 wr)) (fun _ si _ => 1 - (intOf si).toNat)
  case atStart => exact ⟨0, 0, none, Nat.zero_le _, rfl, rfl, ⟨by simp, .inl ⟨rfl, rfl⟩⟩, Below.refl _ _⟩
  case round =>
    obtain ⟨k, c', a', hk, rfl, rfl, HO, HBW⟩ := hrel
    have hbd : 1 ≤ 10 := HM.out
    by_cases hlt : k < 1
    · have hlk : k < ks.length := by
        have h1 := HLn.out
        simp only [List.length_cons, List.length_nil] at h1
        omega
      obtain ⟨tk, vk, e1, e2, e3⟩ := NvL.at_ _ _ HN.out k hlk
      have HE1 := hid e1
      rcases HV2.out with hr0 | ⟨b, off, hab, _, hbl, hc⟩
      · exact absurd hlt (by first | (rw [hr0]; simp) | (simp at hr0))
      have c0 := (HBW.out.cell (p := ⟨b, off + k, none⟩) hbl).trans ((hc k (by first | exact hlt | (simp only [List.length_cons, List.length_nil]; omega))).trans e2)
      have i1 : (k : Int) < (1 : Int) := by omega
      have HX2 := hid (HB2.out.trans (HBW.out.mono HB2.out.size))
      have HNk : Hid (Nv w0 S wr tk vk) := Nv.agr (Agr.below HX2.out) tk vk e3
      clear hc e1 e2 e3
      injection hab with hab; injection hab with hab1 hab2 _; subst hab1; subst hab2; rw [Nat.zero_add] at c0
      have HC := hid (IH.out tk vk w0 S wr (d + 1) (by have := HD.out; omega) (gt1_kid HE1.out HG1.out) (gt2_kids HE1.out HG2.out) HNk.out (HB.out.trans (HX2.out.mono HB.out.size)) (HT.out.below HX2.out))
      have HTK := hid (kdL_at HE1.out)
      generalize kdT tk = kk at HC HTK
      go_wp2_with (first | (go_at_call 34; refine HC.out.mono ?_; rintro e w3 ⟨rfl, hb3⟩; have HB3 := hid hb3; have HO3 : Hid (KidK w2.heap.size ks w3 a' c' k) := own_belowK HO.out hb3; clear hb3) | (at_builtin; refine wpList_append_own _ rfl (.tmp 24) (.tmp 27) 50 rfl w2.heap.size 9 i0 (.string ByteArray.empty) 1 16 Tryz.underlying50 hi hz0 hz1 hz2 rfl (by decide) _ _ _ rfl (World.ownsRow.alloc HO3.out _) ⟨w3.heap.size, 0, none⟩ 1 1 [.string kk.s] rfl rfl ?d1 ?d2 ?d3 ?d4 ?d5 ?_))
      case d1 => exact one_cellsK w3 (.string kk.s) 9
      case d2 => intro u hu; simp at hu; rcases hu with rfl; rfl
      case d3 => unfold maxLen; omega
      case d4 => omega
      case d5 => simp; have := HBW.out.size; have := HB3.out.size; omega
      intro v1 w4 hown1 hgr1 _
      have HBX : Hid (Below w2.heap.size w2 w3) := HBW.out.trans (HB3.out.mono HBW.out.size)
      have HB4 := hid ((HBX.out.alloc HBX.out.size (.cells #[.string kk.s] 9)).grown hgr1 (by have := HBX.out.size; simp; omega) (fun j hj => (World.ownsRow.lt HO3.out j hj).1))
      obtain ⟨a4, c4, rfl⟩ := own_formK hown1
      have HO4 : Hid (KidK w2.heap.size ks w4 a4 c4 (k + 1)) := by
        unfold Hid KidK
        rw [HTK.out, List.map_append]
        simpa using hown1
      clear hown1 hgr1
      go_wp2
      go_roundw
      case rel => exact ⟨k + 1, c4, a4, by omega, by go_num, rfl, HO4.out, HB4.out⟩
      case measure => simp [intOf]; omega
    · have HE : Hid (ks.length = k) := by
        have h1 := HLn.out
        simp only [List.length_cons, List.length_nil] at h1
        unfold Hid; omega
      have HOK := hid (KidK.own HO.out HE.out)
      have HX2 := hid (HB2.out.trans (HBW.out.mono HB2.out.size))
      have hke : k = 1 := by
        have h1 := HLn.out
        have h2 := HE.out
        simp only [List.length_cons, List.length_nil] at h1
        omega
      clear HO
      subst hke
      have HR : Hid (kdq (pl q) (kdL ks) = .r) := by unfold Hid kdq; simp [pl, HH.out]
      clear HOK
      go_upto_region 18 with fail
      refine wp_region_lit ?_
      refine wpList_plain rfl (fun K hK => ?_)
      unfold Oper.wp
      rw [exec_allocR wr _ _ rfl]
      refine hK _ _ ?_
      clear hK K
      refine wpList_plain rfl (fun K hK => ?_)
      unfold Oper.wp
      rw [exec_storeR wr _ (by rfl) (by simp [Value.oneCell']) _ _ _ _ rfl rfl rfl]
      refine hK _ _ ?_
      clear hK K
      go_wp2
      go_ret
      exact ⟨ret_kn .r _ HR.out rfl, HX2.out.alloc HX2.out.size _⟩
end Go.Proofs.YtbdlahhejfamhaaGreatDoor.Qry
