/- The kind of a call: slices.Equal at texts, callShape's kind. -/
import Derived.Test.YtbdlahhejfamhaaGreatDoorRK0
import Derived.Test.YtbdlahhejfamhaaGreatDoorRA6
import Derived.Test.YtbdlahhejfamhaaGreatDoorRA7
namespace Go.Proofs.YtbdlahhejfamhaaGreatDoor.Qry
open Go.RowKit
open Go.Proofs.YtbdlahhejfamhaaGreatDoor.Pat (ret_bool)
open Go.Proofs.YtbdlahhejfamhaaGreatDoor.Fil (HasT FitT)

set_option maxHeartbeats 2000000 in
theorem f107 (a a' : Option Addr) (n n' c c' : Nat) (ss ss' : List ByteArray) (w : World) (hn : ss.length = n) (hn' : ss'.length = n') (hb : n ≤ 1048576) (hb' : n' ≤ 1048576) (hr : HasT w a ss) (hr' : HasT w a' ss') : Calls Tryz.prog 107 #[.slice a n c, .slice a' n' c'] w fun e w' => (∃ b, e = .returned (.bool b) ∧ (b = true ↔ ss = ss')) ∧ Below w.heap.size w w' := by
  have HN := hid hn
  have HN' := hid hn'
  have HR := hid hr
  have HR' := hid hr'
  clear hn hn' hr hr'
  by_cases hl : n = n'
  case neg =>
    have hq : ((n : Int) != (n' : Int)) = true := by rw [bne_iff_ne]; omega
    have HL := hid hl
    clear hl
    go_enter Tryz.func107, Tryz.ntmps107
    go_wp2
    go_ret
    exact ⟨⟨false, rfl, fun h => (by cases h), fun h => absurd (by rw [← HN.out, ← HN'.out, h]) HL.out⟩, Below.refl _ _⟩
  subst hl
  go_enter Tryz.func107, Tryz.ntmps107
  go_wp2
  go_loopw [13] (fun i wr => ∃ k : Nat, k ≤ n ∧ i = .int .i64 k ∧ Hid (∀ i, i < k → ss.getD i ByteArray.empty = ss'.getD i ByteArray.empty) ∧ Hid (Below w.heap.size w wr)) (fun i _ => n - (intOf i).toNat)
  case atStart => exact ⟨0, Nat.zero_le _, rfl, fun i hi => by omega, Below.refl _ _⟩
  case round =>
    obtain ⟨k, hk, rfl, HU, HB⟩ := hrel
    by_cases hlt : k < n
    · obtain ⟨b, off, rfl, hbl, c0⟩ := hasT_at2 HR.out k (by rw [HN.out]; exact hlt)
      obtain ⟨b', off', rfl, hbl', c0'⟩ := hasT_at2 HR'.out k (by rw [HN'.out]; exact hlt)
      have d0 : wr.drew.cell? ⟨b, off + k, none⟩ = some (.string (ss.getD k ByteArray.empty)) := (HB.out.drew.cell (p := ⟨b, off + k, none⟩) hbl).trans c0
      have d1 : wr.drew.cell? ⟨b', off' + k, none⟩ = some (.string (ss'.getD k ByteArray.empty)) := (HB.out.drew.cell (p := ⟨b', off' + k, none⟩) hbl').trans c0'
      have i1 : (k : Int) < (n : Int) := by omega
      have HBD := hid HB.out.drew
      clear c0 c0'
      by_cases he : ss.getD k ByteArray.empty = ss'.getD k ByteArray.empty
      · have HU2 : Hid (∀ i, i < k + 1 → ss.getD i ByteArray.empty = ss'.getD i ByteArray.empty) := fun i hi => by
          by_cases e : i = k
          · subst e; exact he
          · exact HU.out i (by omega)
        have hq : ((ss.getD k ByteArray.empty).toList == (ss'.getD k ByteArray.empty).toList) = true := str_eqS he
        clear he
        generalize ss.getD k ByteArray.empty = y at *
        generalize ss'.getD k ByteArray.empty = z at *
        go_wp2_with fail
        go_region_held3 (fun w' => w'.cell? ⟨b, off + k, none⟩ = some (.string y) ∧ w'.cell? ⟨b', off' + k, none⟩ = some (.string z)) (first | exact ⟨d0, d1⟩ | assumption) (first | fail)
        go_wp2
        go_roundw
        case rel => exact ⟨k + 1, by omega, by go_num, HU2, HBD⟩
        case measure => simp [intOf]; omega
      · have HE : Hid (ss ≠ ss') := fun h => he (by rw [h])
        have hq : ((ss.getD k ByteArray.empty).toList == (ss'.getD k ByteArray.empty).toList) = false := str_neS he
        clear he
        generalize ss.getD k ByteArray.empty = y at *
        generalize ss'.getD k ByteArray.empty = z at *
        go_wp2_with fail
        go_region_held3 (fun w' => w'.cell? ⟨b, off + k, none⟩ = some (.string y) ∧ w'.cell? ⟨b', off' + k, none⟩ = some (.string z)) (first | exact ⟨d0, d1⟩ | assumption) (first | fail)
        go_wp2
        go_ret
        exact ⟨⟨false, rfl, fun h => (by cases h), fun h => absurd h HE.out⟩, HBD.out⟩
    · have HE : Hid (ss = ss') := by
        unfold Hid
        apply List.ext_getElem (by rw [HN.out, HN'.out])
        intro i h1 h2
        have := HU.out i (by have := HN.out; omega)
        rw [List.getD_eq_getElem?_getD, List.getD_eq_getElem?_getD, List.getElem?_eq_getElem h1, List.getElem?_eq_getElem h2] at this
        simpa using this
      go_wp2
      go_ret
      exact ⟨⟨true, rfl, fun _ => HE.out, fun _ => rfl⟩, HB.out⟩
theorem infoS : (Tryz.prog.info? 9).map (fun i => (i.zero, i.size, i.bytes)) = some (some (.string ByteArray.empty), 1, 16) := by kernel_rfl
theorem own_formK {w : World} {base e size n : Nat} {v : Value} {xs : List Value} (h : w.ownsRow base e size v n xs) : ∃ a c, v = .slice a n c := by
  rcases h.2 with ⟨h1, h2⟩ | ⟨g, cap, cur, h1, _⟩
  · exact ⟨none, 0, by rw [h1, h2]⟩
  · exact ⟨_, _, h1⟩
theorem one_cellsK (w : World) (x : Value) (t : TypeId) : ∀ j u, [x][j]? = some u → (w.alloc (.cells #[x] t)).cell? ((⟨w.heap.size, 0, none⟩ : Addr).add j) = some u := by
  intro j u hj
  match j, hj with
  | 0, hj => simp at hj; subst hj; have h := heap_alloc_new w (.cells #[x] t); have e : ((⟨w.heap.size, 0, none⟩ : Addr).add 0) = ⟨w.heap.size, 0, none⟩ := rfl; rw [e]; simp only [World.cell?, h]; rfl
  | (n + 1), hj => simp at hj
/-- Kinds in a row of the call's own. -/
abbrev OwnK (B : Nat) (w : World) (a : Option Addr) (c : Nat) (ks : List K) : Prop := w.ownsRow B 9 1 (.slice a ks.length c) ks.length (ks.map fun k => Value.string k.s)
theorem OwnK.has {B : Nat} {w : World} {a : Option Addr} {c : Nat} {ks : List K} (h : OwnK B w a c ks) : HasT w a (ks.map K.s) := by
  rcases h.2 with ⟨_, h2⟩ | ⟨g, cap, cur, h1, h2, h3, h4, h5, h6, h7⟩
  · exact .inl (by rw [List.length_eq_zero_iff.1 h2]; rfl)
  · simp only [Value.slice.injEq] at h1
    refine .inr ⟨g, 0, h1.1, (Array.getElem?_eq_some_iff.1 h3).1, fun i hi => ?_⟩
    rw [List.length_map] at hi
    simp only [World.cell?, h3]
    have := congrArg (fun l => l[i]?) h7
    simp only [List.getElem?_take] at this
    rw [if_pos (by omega)] at this
    rw [Nat.zero_add, ← Array.getElem?_toList, this]
    simp [List.getD_eq_getElem?_getD, hi]
theorem OwnK.at_ {B : Nat} {w : World} {a : Option Addr} {c : Nat} {ks : List K} (h : OwnK B w a c ks) (k : Nat) (x : K) (hk : ks[k]? = some x) : ∃ g, a = some ⟨g, 0, none⟩ ∧ B ≤ g ∧ g < w.heap.size ∧ k < c ∧ w.cell? ⟨g, k, none⟩ = some (.string x.s) := by
  have hl : k < ks.length := by
    rcases Nat.lt_or_ge k ks.length with h | h
    · exact h
    · rw [List.getElem?_eq_none h] at hk; cases hk
  rcases h.2 with ⟨_, h2⟩ | ⟨g, cap, cur, h1, h2, h3, h4, h5, h6, h7⟩
  · omega
  · simp only [Value.slice.injEq] at h1
    refine ⟨g, h1.1, h2, (Array.getElem?_eq_some_iff.1 h3).1, by omega, ?_⟩
    simp only [World.cell?, h3]
    have := congrArg (fun l => l[k]?) h7
    simp only [List.getElem?_take, Nat.mul_one] at this
    rw [if_pos hl, Array.getElem?_toList] at this
    rw [List.getElem?_map, hk] at this
    simpa using this
theorem OwnK.nil (B : Nat) (w : World) : OwnK B w none 0 [] := ⟨rfl, .inl ⟨rfl, rfl⟩⟩
theorem f106o (s1 s2 s3 : ByteArray) (b : Bool) (tk : List K) (w : World) (ht : TabSp w) (ha : Asc s2) (htk : fld s2 = tk.map K.s) (hm : tk.length ≤ 10) :
    Calls Tryz.prog 106 #[.agg #[.string s1, .string s2, .string s3, .bool b]] w fun e w' => ∃ a c, e = .returned (.slice a tk.length c) ∧ Hid (OwnK w.heap.size w' a c tk) ∧ Hid (Below w.heap.size w w') := by
  have hb := hid ((Below.refl w.heap.size w).alloc (Nat.le_refl _) (.cells #[.string s1, .string s2, .string s3, .bool b] 125))
  have HT := hid (ht.below hb.out)
  have HA := hid ha
  have HTK := hid htk
  have HM := hid hm
  clear ht ha htk hm
  go_enter Tryz.func106, Tryz.ntmps106
  go_wp2_with (go_at_call 147; refine (Tryz.strings_Fields s2 _ HA.out.1 HA.out.2 HT.out.2).mono ?_; rintro e w1 ⟨rfl, hw1⟩; have HW := hid hw1; clear hw1)
  go_ret
  have hlen : (Lib.fields s2.data.toList).length = tk.length := by
    have := congrArg List.length HTK.out
    rw [fld_len, List.length_map] at this
    exact this
  refine ⟨some ⟨(w.alloc (.cells #[.string s1, .string s2, .string s3, .bool b] 125)).heap.size, 0, none⟩, tk.length, ?_, ?_, ?_⟩
  · rw [hlen, World.size_alloc]
    rfl
  · unfold Hid
    rw [HW.out]
    have hnew := heap_alloc_new (w.alloc (.cells #[.string s1, .string s2, .string s3, .bool b] 125)) (.cells ((Lib.fields s2.data.toList).map fun l => Value.string ⟨l.toArray⟩).toArray 9)
    have he : ((Lib.fields s2.data.toList).map fun l => Value.string ⟨l.toArray⟩) = tk.map fun k => Value.string k.s := by
      have := congrArg (List.map Value.string) HTK.out
      unfold fld at this
      simpa [Function.comp_def] using this
    refine ⟨by simp, .inr ⟨_, tk.length, _, rfl, by rw [World.size_alloc]; omega, hnew, Nat.le_refl _, by have := HM.out; unfold maxLen; omega, by simp [hlen], ?_⟩⟩
    rw [he]
    simp [List.take_of_length_le]
  · unfold Hid
    rw [HW.out]
    exact hb.out.alloc hb.out.size _
end Go.Proofs.YtbdlahhejfamhaaGreatDoor.Qry
/- The kind of a call: callShape's kind. -/
namespace Go.Proofs.YtbdlahhejfamhaaGreatDoor.Qry
open Go.RowKit
open Go.Proofs.YtbdlahhejfamhaaGreatDoor.Pat (ret_bool)
open Go.Proofs.YtbdlahhejfamhaaGreatDoor.Fil (HasT FitT)

theorem pad_last {tk : List K} (h : tk.getLast? = some .t) (j : Nat) : (tk ++ List.replicate j K.t)[tk.length + j - 1]? = some .t := by
  have hp : 0 < tk.length := by
    cases tk with
    | nil => simp at h
    | cons _ _ => simp
  cases j with
  | zero =>
    rw [List.getLast?_eq_getElem?] at h
    simpa using h
  | succ j =>
    rw [List.getElem?_append_right (by omega), List.getElem?_replicate, if_pos (by omega)]
theorem rep_snoc (tk : List K) (j : Nat) : tk ++ List.replicate (j + 1) K.t = (tk ++ List.replicate j K.t) ++ [K.t] := by
  rw [List.replicate_succ', List.append_assoc]
def lenOf : Value → Nat
  | .slice _ n _ => n
  | _ => 0
theorem ret_kk {k : K} {s : ByteArray} (h : s = k.s) : Ending.returned (.string s) = .returned (.string k.s) := by rw [h]
set_option maxHeartbeats 4000000 in
set_option maxRecDepth 20000 in
theorem f70 (s1 s2 s3 : ByteArray) (b : Bool) (tk ks : List K) (g : K) (a : Option Addr) (c : Nat) (w : World) (ht : TabSp w) (ha : Asc s2) (htk : fld s2 = tk.map K.s) (hg : s3 = g.s) (hlast : b = true → tk.getLast? = some .t) (hm : tk.length ≤ 10) (hk : ks.length ≤ 10) (hr : HasT w a (ks.map K.s)) :
    Calls Tryz.prog 70 #[.agg #[.string s1, .string s2, .string s3, .bool b], .slice a ks.length c] w fun e w' => e = .returned (.string (if padL tk b ks.length .t = ks then g else .e).s) ∧ Below w.heap.size w w' := by
  have hb0 := (Below.refl w.heap.size w).alloc (Nat.le_refl _) (.cells #[.string s1, .string s2, .string s3, .bool b] 125)
  have hx0 := heap_alloc_new w (.cells #[.string s1, .string s2, .string s3, .bool b] 125)
  obtain ⟨X, hX⟩ : ∃ X, X = w.alloc (.cells #[.string s1, .string s2, .string s3, .bool b] 125) := ⟨_, rfl⟩
  rw [← hX] at hb0 hx0
  have hsz : X.heap.size = w.heap.size + 1 := by rw [hX, World.size_alloc]
  have HSZ := hid hsz
  have HX := hid hX
  have HB0 := hid hb0
  have HX0 := hid hx0
  have HKI := hid (f106o s1 s2 s3 b tk X (ht.below hb0) ha htk hm)
  have HRX : Hid (HasT X a (ks.map K.s)) := hr.below hb0
  have HL := hid hlast
  have HG := hid hg
  obtain ⟨x0, x1, x2, x3⟩ := four hx0
  clear ht ha htk hr hX hb0 hx0 hlast hg
  obtain ⟨res, hres⟩ : ∃ res, res = (if padL tk b ks.length .t = ks then g else .e) := ⟨_, rfl⟩
  rw [← hres]
  have HR := hid hres
  clear hres
  go_enter Tryz.func70, Tryz.ntmps70
  go_upto_region 1 with fail
  rw [← HX.out]
  clear HX
  clear hsz
  cases b with
  | false =>
    go_wp2_with (go_at_call 106; refine HKI.out.mono ?_; rintro e w1 ⟨a1, c1, rfl, HO1, HBW⟩)
    have hlt0 : w.heap.size < X.heap.size := by have := HSZ.out; omega
    have y2 := (HBW.out.cell (p := ⟨w.heap.size, 2, none⟩) hlt0).trans x2
    have y3 := (HBW.out.cell (p := ⟨w.heap.size, 3, none⟩) hlt0).trans x3
    clear x0 x1 x2 x3 hlt0
    have HE := hid (f107 a1 a tk.length ks.length c1 c (tk.map K.s) (ks.map K.s) w1 (by simp) (by simp) (by omega) (by omega) HO1.out.has (HRX.out.below HBW.out))
    have HLL : Hid (padL tk false ks.length .t = tk) := rfl
    go_loopw [5] (fun so wr => so = .slice a1 tk.length c1 ∧ wr = w1) (fun _ _ => 0)
    case atStart => exact ⟨rfl, rfl⟩
    case round =>
      obtain ⟨rfl, rfl⟩ := hrel
      have hlz : w.heap.size < wr.heap.size := Nat.lt_of_lt_of_le (by have := HSZ.out; omega) HBW.out.size
      by_cases hpe : padL tk false ks.length .t = ks
      · have HN := hid hpe
        have HQ : Hid (∀ bb : Bool, (bb = true ↔ tk.map K.s = ks.map K.s) → bb = true) := fun bb h => h.2 (by rw [← HLL.out, HN.out])
        clear hpe
        go_wp2_with (go_at_call 107; refine HE.out.mono ?_; rintro e w2 ⟨⟨bb, rfl, hbb⟩, hb2⟩; have HB2 := hid hb2; have hbq := HQ.out bb hbb; subst hbq; have z2 := (HB2.out.cell (p := ⟨w.heap.size, 2, none⟩) hlz).trans y2; clear hb2 hbb)
        go_ret
        exact ⟨ret_kk (by rw [HR.out, if_pos HN.out]; exact HG.out), HB0.out.trans ((HBW.out.trans (HB2.out.mono HBW.out.size)).mono HB0.out.size)⟩
      · have HN := hid hpe
        have HQ : Hid (∀ bb : Bool, (bb = true ↔ tk.map K.s = ks.map K.s) → bb = false) := fun bb h => by
          cases bb with
          | false => rfl
          | true => exact absurd (HLL.out.trans (map_inj (h.1 rfl))) HN.out
        clear hpe
        go_wp2_with (go_at_call 107; refine HE.out.mono ?_; rintro e w2 ⟨⟨bb, rfl, hbb⟩, hb2⟩; have HB2 := hid hb2; have hbq := HQ.out bb hbb; subst hbq; have z2 := (HB2.out.cell (p := ⟨w.heap.size, 2, none⟩) hlz).trans y2; clear hb2 hbb)
        go_ret
        exact ⟨ret_kk (by rw [HR.out, if_neg HN.out]; rfl), HB0.out.trans ((HBW.out.trans (HB2.out.mono HBW.out.size)).mono HB0.out.size)⟩
  | true =>
    have HLT := hid (HL.out rfl)
    have HTP : Hid (0 < tk.length) := by
      have := HLT.out
      unfold Hid
      cases tk with
      | nil => simp at this
      | cons _ _ => simp
    obtain ⟨i0, hi, hz0, hz1, hz2⟩ := info_parts infoS
    go_wp2_with (go_at_call 106; refine HKI.out.mono ?_; rintro e w1 ⟨a1, c1, rfl, HO1, HB1⟩)
    go_loopw [5] (fun so wr => ∃ (j c' : Nat) (a' : Option Addr), so = .slice a' (tk.length + j) c' ∧ Hid (OwnK X.heap.size wr a' c' (tk ++ List.replicate j .t)) ∧ Hid (Below X.heap.size X wr) ∧ j ≤ ks.length - tk.length) (fun so _ => ks.length - lenOf so)
    case atStart => exact ⟨0, c1, a1, rfl, by simpa using HO1, HB1, by omega⟩
    case round =>
      obtain ⟨j, c', a', rfl, HO, HBW, hj⟩ := hrel
      have hlt0 : w.heap.size < X.heap.size := by have := HSZ.out; omega
      have y2 := (HBW.out.cell (p := ⟨w.heap.size, 2, none⟩) hlt0).trans x2
      have y3 := (HBW.out.cell (p := ⟨w.heap.size, 3, none⟩) hlt0).trans x3
      clear x0 x1 x2 x3 hlt0
      have HLe : Hid ((tk ++ List.replicate j K.t).length = tk.length + j) := by unfold Hid; simp
      by_cases hlt : tk.length + j < ks.length
      · obtain ⟨g0, hg0, hg1, hg2, hg3, c0⟩ := OwnK.at_ HO.out (tk.length + j - 1) .t (pad_last HLT.out j)
        subst hg0
        have htp := HTP.out
        have hix : ((tk.length + j : Nat) : Int) - 1 = ((tk.length + j - 1 : Nat) : Int) := by omega
        have hlm : tk.length + j - 1 < tk.length + j := by omega
        obtain ⟨m, hm1⟩ : ∃ m, m = tk.length + j - 1 := ⟨_, rfl⟩
        rw [← hm1] at c0 hix hg3 hlm
        have hmx : tk.length + j = m + 1 := by omega
        have HMX := hid hmx
        have HM1 := hid hm1
        clear hm1
        have HO2 : Hid (wr.ownsRow X.heap.size 9 1 (.slice (some ⟨g0, 0, none⟩) (m + 1) c') (m + 1) ((tk ++ List.replicate j K.t).map fun k => Value.string k.s)) := by
          have h := HO.out
          unfold OwnK at h
          rw [HLe.out, HMX.out] at h
          exact h
        have HLT2 := hid hlt
        have hlt' : ((m + 1 : Nat) : Int) < (ks.length : Int) := by omega
        rw [hmx]
        clear hmx hix hlt HO
        rw [HMX.out] at hlm
        go_wp2_with (at_builtin; refine wpList_append_own _ rfl (.tmp 17) (.tmp 24) 50 rfl X.heap.size 9 i0 (.string ByteArray.empty) 1 16 Tryz.underlying50 hi hz0 hz1 hz2 rfl (by decide) _ _ _ rfl (World.ownsRow.alloc HO2.out _) ⟨wr.heap.size, 0, none⟩ 1 1 [.string (K.s K.t)] rfl rfl ?d1 ?d2 ?d3 ?d4 ?d5 ?_)
        case d1 => exact one_cellsK wr (.string K.t.s) 9
        case d2 => intro u hu; simp at hu; rcases hu with rfl; rfl
        case d3 => unfold maxLen; omega
        case d4 => omega
        case d5 => simp; have := HBW.out.size; omega
        intro v1 w4 hown1 hgr1 _
        have HB4 := hid ((HBW.out.alloc HBW.out.size (.cells #[.string K.t.s] 9)).grown hgr1 (by have := HBW.out.size; simp; omega) (fun j hj => (World.ownsRow.lt HO2.out j hj).1))
        obtain ⟨a4, c4, rfl⟩ := own_formK hown1
        have HO4 : Hid (OwnK X.heap.size w4 a4 c4 (tk ++ List.replicate (j + 1) .t)) := by
          unfold Hid OwnK
          have e : (tk ++ List.replicate (j + 1) K.t).length = m + 1 + 1 := by
            have := HMX.out
            simp
            omega
          rw [e, rep_snoc, List.map_append]
          simpa using hown1
        clear hown1 hgr1
        go_wp2
        go_roundw
        case rel => exact ⟨j + 1, c4, a4, by rw [← Nat.add_assoc, HMX.out], HO4.out, HB4.out, by have := HMX.out; omega⟩
        case measure => simp [lenOf]; omega
      · have HJ : Hid (j = ks.length - tk.length) := by unfold Hid; omega
        have HLL : Hid (padL tk true ks.length .t = tk ++ List.replicate j .t) := by
          unfold Hid; rw [HJ.out]; rfl
        have HE := hid (f107 a' a (tk.length + j) ks.length c' c ((tk ++ List.replicate j K.t).map K.s) (ks.map K.s) wr (by rw [List.length_map, HLe.out]) (by simp) (by omega) (by omega) HO.out.has (HRX.out.below HBW.out))
        have hlz : w.heap.size < wr.heap.size := Nat.lt_of_lt_of_le (by have := HSZ.out; omega) HBW.out.size
        by_cases hpe : padL tk true ks.length .t = ks
        · have HN := hid hpe
          have HQ : Hid (∀ bb : Bool, (bb = true ↔ (tk ++ List.replicate j K.t).map K.s = ks.map K.s) → bb = true) := fun bb h => h.2 (by rw [← HLL.out, HN.out])
          clear hpe
          go_wp2_with (go_at_call 107; refine HE.out.mono ?_; rintro e w2 ⟨⟨bb, rfl, hbb⟩, hb2⟩; have HB2 := hid hb2; have hbq := HQ.out bb hbb; subst hbq; have z2 := (HB2.out.cell (p := ⟨w.heap.size, 2, none⟩) hlz).trans y2; clear hb2 hbb)
          go_ret
          exact ⟨ret_kk (by rw [HR.out, if_pos HN.out]; exact HG.out), HB0.out.trans ((HBW.out.trans (HB2.out.mono HBW.out.size)).mono HB0.out.size)⟩
        · have HN := hid hpe
          have HQ : Hid (∀ bb : Bool, (bb = true ↔ (tk ++ List.replicate j K.t).map K.s = ks.map K.s) → bb = false) := fun bb h => by
            cases bb with
            | false => rfl
            | true => exact absurd (HLL.out.trans (map_inj (h.1 rfl))) HN.out
          clear hpe
          go_wp2_with (go_at_call 107; refine HE.out.mono ?_; rintro e w2 ⟨⟨bb, rfl, hbb⟩, hb2⟩; have HB2 := hid hb2; have hbq := HQ.out bb hbb; subst hbq; have z2 := (HB2.out.cell (p := ⟨w.heap.size, 2, none⟩) hlz).trans y2; clear hb2 hbb)
          go_ret
          exact ⟨ret_kk (by rw [HR.out, if_neg HN.out]; rfl), HB0.out.trans ((HBW.out.trans (HB2.out.mono HBW.out.size)).mono HB0.out.size)⟩
end Go.Proofs.YtbdlahhejfamhaaGreatDoor.Qry
