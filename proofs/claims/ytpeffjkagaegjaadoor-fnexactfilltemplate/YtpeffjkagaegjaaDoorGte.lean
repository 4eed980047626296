/- Templates filled: the program's FillTemplate, the model's l18Fill and FillTemplate. -/
import Derived.Test.YtpeffjkagaegjaaDoorGtd
namespace Go.Proofs.YtpeffjkagaegjaaDoor.Tpl
open Go.RowKit Go.Proofs.YtpeffjkagaegjaaDoor.Pat Go.Proofs.YtpeffjkagaegjaaDoor.Rdd
open Lab (Lb HasL OfV GoodP)
open Unt (Pow mkS_size itoa_len)

theorem flatP_get : ∀ (ps : List Pc) (i : Nat) (h : i < ps.length), (flatP ps)[i * 2]? = some (.string ps[i].1) ∧ (flatP ps)[i * 2 + 1]? = some (.bool ps[i].2)
  | p :: ps, 0, _ => ⟨rfl, rfl⟩
  | p :: ps, i + 1, h => by
    have := flatP_get ps i (by simpa using h)
    rw [show (i + 1) * 2 = i * 2 + 1 + 1 from by omega]
    exact this
/-- Cells of a row that is owned. -/
theorem own_at {w : World} {base e size n k : Nat} {a : Option Addr} {c : Nat} {xs : List Value} {u : Value} (h : w.ownsRow base e size (.slice a n c) n xs) (hu : xs[k]? = some u) : ∃ g, a = some ⟨g, 0, none⟩ ∧ g < w.heap.size ∧ w.cell? ⟨g, k, none⟩ = some u := by
  rcases h.2 with ⟨h1, h2⟩ | ⟨g, cap, cur, h1, _, h3, _, _, h5, h6⟩
  · have := h.1
    rw [h2] at this
    have hx := List.length_eq_zero_iff.1 (by omega : xs.length = 0)
    rw [hx] at hu; simp at hu
  · simp only [Value.slice.injEq] at h1
    refine ⟨g, h1.1, (Array.getElem?_eq_some_iff.1 h3).1, ?_⟩
    have hk : k < n * size := by have := (List.getElem?_eq_some_iff.1 hu).1; have := h.1; omega
    rw [← h6, List.getElem?_take, if_pos hk] at hu
    simp only [World.cell?, h3]
    simpa using hu
theorem bc_app (l : List UInt8) (m : List UInt8) : Lib.byteCells l ++ Lib.strCells (Unt.mkS m) = Lib.byteCells (l ++ m) := by
  simp [Lib.byteCells, Lib.strCells]
/-- What filling comes to. -/
def fillR (val : ByteArray → ByteArray) (v : Int) (s : ByteArray) (g : Bool) : List UInt8 := match tpl s with | none => [] | some ps => if g = true then fil val v ps else []
theorem fill_none {val : ByteArray → ByteArray} {v : Int} {s : ByteArray} {g : Bool} (h : tpl s = none) : fillR val v s g = [] := by unfold fillR; rw [h]
theorem fill_bad {val : ByteArray → ByteArray} {v : Int} {s : ByteArray} {g : Bool} (h : g = false) : fillR val v s g = [] := by unfold fillR; subst h; cases tpl s <;> rfl
theorem fill_some {val : ByteArray → ByteArray} {v : Int} {s : ByteArray} {g : Bool} {ps : List Pc} (h : tpl s = some ps) (hg : g = true) : fillR val v s g = fil val v ps := by unfold fillR; rw [h, hg]; rfl
theorem ret_s {a b : List UInt8} (h : a = b) : Ending.returned (.string (Unt.mkS a)) = .returned (.string (Unt.mkS b)) := by rw [h]
theorem ret_s0 {b : List UInt8} (h : b = []) : Ending.returned (.string ⟨#[]⟩) = .returned (.string (Unt.mkS b)) := by rw [h]

set_option maxHeartbeats 4000000 in
theorem f16 (ps : List Pc) (a1 : Option Addr) (c1 base : Nat) (a : Option Addr) (n c : Nat) (ls : List Lb) (val : ByteArray → ByteArray) (v : Int) (w : World) (hown : w.ownsRow base 52 2 (.slice a1 ps.length c1) ps.length (flatP ps)) (hpl : ps.length ≤ 200) (hps : ∀ p ∈ ps, p.1.size ≤ 200) (hn : ls.length = n) (hgp : GoodP ls) (hr : HasL w a ls) (hv : ∀ x, OfV ls x (val x)) (h0 : -9223372036854775808 ≤ v) (h1 : v ≤ 9223372036854775807) (hpw : Pow w) :
    Calls Tryd.prog 16 #[.slice a1 ps.length c1, .slice a n c, .int .i64 v] w fun e w' => e = .returned (.string (Unt.mkS (fil val v ps))) ∧ Below w.heap.size w w' := by
  have HN := hid hn
  have HL2 := hid hr
  have HP2 := hid hpw
  have HO2 := hid hown
  have HFL := hid (fil_len hgp hv h0 h1)
  have HGP := hid hgp
  have HPS := hid hps
  clear hn hr hpw hown hgp hps
  go_enter Tryd.func16, Tryd.ntmps16
  go_wp2
  go_loopw [12] (fun si wr => ∃ k : Nat, k ≤ ps.length ∧ si = .int .i64 k ∧ Hid (Lib.IsBuilder 60 5 w.heap.size w.heap.size (Lib.byteCells (fil val v (ps.take k))) wr) ∧ Hid (Below w.heap.size w wr)) (fun si _ => ps.length - (intOf si).toNat)
  case atStart => exact ⟨0, Nat.zero_le _, rfl, by unfold Hid; simpa [fil, Lib.byteCells] using Lib.fresh_isBuilder 60 5 w, (Below.refl _ _).alloc (Nat.le_refl _) _⟩
  case round =>
    obtain ⟨k, hk, rfl, HI, HX⟩ := hrel
    by_cases hlt : k < ps.length
    · have HFS := hid (fil_snoc (val := val) (v := v) hlt)
      have hlen : (fil val v (ps.take k)).length ≤ 200 * 200 := by
        have := HFL.out (ps.take k) (fun p hp => HPS.out p (List.mem_of_mem_take hp))
        have h2 : (ps.take k).length ≤ 200 := by rw [List.length_take]; omega
        omega
      have hone := one_len (val := val) (v := v) HGP.out hv h0 h1 (HPS.out ps[k] (List.getElem_mem hlt))
      obtain ⟨g, hga, hgl, hc0⟩ := own_at HO2.out (flatP_get ps k hlt).1
      obtain ⟨g', hga', _, hc1⟩ := own_at HO2.out (flatP_get ps k hlt).2
      subst hga
      obtain rfl : g = g' := by simpa using hga'
      have d0 := (HX.out.cell (p := ⟨g, k * 2, none⟩) hgl).trans hc0
      have d1 := (HX.out.cell (p := ⟨g, k * 2 + 1, none⟩) hgl).trans hc1
      have i1 : (k : Int) < (ps.length : Int) := by omega
      clear hga' hc0 hc1
      generalize ps[k] = p at *
      have HL3 := hid ((HL2.out.below HX.out).alloc (.cells #[.string p.1, .bool p.2] 52))
      have HP3 := hid ((HP2.out.below HX.out).below ((Below.refl wr.heap.size wr).alloc (Nat.le_refl _) (.cells #[.string p.1, .bool p.2] 52)))
      have HX3 := hid (HX.out.alloc HX.out.size (.cells #[.string p.1, .bool p.2] 52))
      have HI3 : Hid (Lib.IsBuilder 60 5 w.heap.size w.heap.size (Lib.byteCells (fil val v (ps.take k))) (wr.alloc (.cells #[.string p.1, .bool p.2] 52))) := bld_below HI.out ((Below.refl wr.heap.size wr).alloc (Nat.le_refl _) _)
      have hb : (wr.alloc (.cells #[.string p.1, .bool p.2] 52)).heap[wr.heap.size]? = some (.cells #[.string p.1, .bool p.2] 52 (0, 0)) := heap_alloc_new wr _
      have b0 := two0 hb
      have b1 := two1 hb
      clear hb
      go_upto_region 5 with fail
      generalize wr.alloc (.cells #[.string p.1, .bool p.2] 52) = w3 at *
      go_wp2_with fail
      refine (f31 p a n c ls val v _ HN.out HGP.out HL3.out hv h0 h1 HP3.out).mono ?_
      rintro e w4 ⟨rfl, hb4⟩
      have HI4 := hid (bld_below HI3.out hb4)
      have HX4 := hid (HX3.out.trans (hb4.mono HX3.out.size))
      clear hb4
      go_wp2_with fail
      refine (Tryd.Builder_WriteString w.heap.size w.heap.size _ _ _ HI4.out (by rw [mkS_size]; simp [Lib.byteCells]; omega) HX4.out.size).mono ?_
      rintro e w5 ⟨rfl, h5, hb5⟩
      have HI5 : Hid (Lib.IsBuilder 60 5 w.heap.size w.heap.size (Lib.byteCells (fil val v (ps.take (k + 1)))) w5) := by
        unfold Hid; rw [HFS.out, ← bc_app]; exact .inr h5
      have HX5 := hid (HX4.out.trans hb5)
      clear h5 hb5
      go_wp2
      go_roundw
      case rel => exact ⟨k + 1, by omega, by go_num, HI5, HX5⟩
      case measure => simp [intOf]; omega
    · have hk2 : k = ps.length := by omega
      subst hk2
      have HE : Hid (fil val v ps = fil val v (ps.take ps.length)) := by unfold Hid; rw [List.take_of_length_le (Nat.le_refl _)]
      generalize fil val v (ps.take ps.length) = out at *
      go_wp2_with fail
      refine (Tryd.Builder_String_any w.heap.size w.heap.size out _ HI.out HX.out.size).mono ?_
      rintro e w5 ⟨rfl, hb5⟩
      go_wp2
      go_ret
      exact ⟨ret_s HE.out.symm, HX.out.trans hb5⟩

set_option maxHeartbeats 4000000 in
theorem f7 (s : ByteArray) (a : Option Addr) (n c : Nat) (ls : List Lb) (val : ByteArray → ByteArray) (v : Int) (w : World) (hs : s.size ≤ maxLen) (hn : ls.length = n) (hmax : n ≤ maxLen) (hr : HasL w a ls) (hf : Lab.Fit ls) (hv : ∀ x, OfV ls x (val x)) (h0 : -9223372036854775808 ≤ v) (h1 : v ≤ 9223372036854775807) (hpw : Pow w) :
    Calls Tryd.prog 7 #[.string s, .slice a n c, .int .i64 v] w fun e w' => e = .returned (.string (Unt.mkS (fillR val v s (Lab.goodL ls)))) ∧ Below w.heap.size w w' := by
  have HN := hid hn
  have HL := hid hr
  have HPW := hid hpw
  clear hn hr hpw
  go_enter Tryd.func7, Tryd.ntmps7
  go_wp2_with (go_at_call 14; refine (f14 s _ hs).mono ?_; rintro e w1 ⟨hb1, hc⟩; rcases hc with ⟨ht, rfl⟩ | ⟨ps, a1, c1, ht, rfl, hown, hpl, hps⟩)
  · go_ret
    exact ⟨ret_s0 (fill_none ht), hb1⟩
  have HB1 := hid hb1
  have HL1 := hid (HL.out.below hb1)
  have HT := hid ht
  have HO := hid hown
  clear hb1 ht hown
  cases hg : Lab.goodL ls
  · go_wp2_with (go_at_call 15; refine (Lab.f15 a n c ls _ HN.out hmax HL1.out hf).mono ?_; rintro e w2 ⟨rfl, hb2⟩)
    go_ret
    exact ⟨ret_s0 (fill_bad hg), HB1.out.trans (hb2.mono HB1.out.size)⟩
  have hgp : GoodP ls := of_decide_eq_true hg
  have HPSz := hid hps
  have HGP := hid hgp
  clear hgp hps
  go_wp2_with (go_at_call 15; refine (Lab.f15 a n c ls _ HN.out hmax HL1.out hf).mono ?_; rintro e w2 ⟨rfl, hb2⟩)
  have HB2 := hid (HB1.out.trans (hb2.mono HB1.out.size))
  have HO2 : Hid (w2.ownsRow w.heap.size 52 2 (.slice a1 ps.length c1) ps.length (flatP ps)) := by
    have h := HO.out
    refine ⟨h.1, ?_⟩
    rcases h.2 with h | ⟨g, cap, cur, e1, e2, e3, e4⟩
    · exact .inl h
    · exact .inr ⟨g, cap, cur, e1, e2, (hb2.block g (Array.getElem?_eq_some_iff.1 e3).1).trans e3, e4⟩
  have HL2 := hid (HL1.out.below hb2)
  have HP2 := hid (HPW.out.below HB2.out)
  clear hb2 HO HL1 HB1
  refine (f16 ps a1 c1 w.heap.size a n c ls val v _ HO2.out (by omega) HPSz.out HN.out HGP.out HL2.out hv h0 h1 HP2.out).mono ?_
  rintro e w3 ⟨rfl, hb3⟩
  go_wp2
  go_ret
  exact ⟨ret_s (fill_some HT.out hg).symm, HB2.out.trans (hb3.mono HB2.out.size)⟩

theorem fs_get (ps : List Pc) (i : Nat) (h : i < ps.length) : (fs ps)[i]? = some (.string ps[i].1) ∧ (fb ps)[i]? = some (.bool ps[i].2) := by
  unfold fs fb
  rw [List.getElem?_map, List.getElem?_map, List.getElem?_eq_getElem h]
  exact ⟨rfl, rfl⟩
set_option maxHeartbeats 4000000 in
theorem f12 (s : ByteArray) (ps : List Pc) (a : Option Addr) (n c : Nat) (ls : List Lb) (val : ByteArray → ByteArray) (v : Int) (w : World) (hs : s.size ≤ maxLen) (ht : tpl s = some ps) (hn : ls.length = n) (hgp : GoodP ls) (hr : HasL w a ls) (hv : ∀ x, OfV ls x (val x)) (h0 : -9223372036854775808 ≤ v) (h1 : v ≤ 9223372036854775807) :
    Calls Tryd.prog 12 #[.string s, .slice a n c, .int .i64 v] w fun e w' => e = .returned (.string (Unt.mkS (fil val v ps))) ∧ Below w.heap.size w w' := by
  have HN := hid hn
  have HL := hid hr
  have HT := hid ht
  have HGP := hid hgp
  have hn20 : n ≤ 1048576 := by have := hgp.1; omega
  have HFL := hid (fil_len hgp hv h0 h1)
  clear hn hr ht hgp
  go_enter Tryd.func12, Tryd.ntmps12
  go_upto_region 2 with (go_at_call 18; refine (f18 s _ hs).mono ?_; rintro e w2 ⟨hb2, hc⟩; rcases hc with ⟨ht2, rfl⟩ | ⟨ps', a1, c1, a2, c2, ht2, rfl, hown, hpl, hps⟩)
  · exact absurd (ht2.symm.trans HT.out) (by simp)
  obtain rfl : ps' = ps := Option.some.inj (ht2.symm.trans HT.out)
  have HB2 := hid hb2
  have HO := hid hown
  have HL2 := hid (HL.out.below hb2)
  have HPS := hid hps
  clear hb2 hown hps ht2
  go_wp2
  go_loopw [10, 21] (fun so si wr => ∃ k : Nat, k ≤ ps'.length ∧ si = .int .i64 k ∧ so = .string (Unt.mkS (fil val v (ps'.take k))) ∧ Hid (Below w2.heap.size w2 wr)) (fun _ si _ => ps'.length - (intOf si).toNat)
  case atStart => exact ⟨0, Nat.zero_le _, rfl, by simp [fil, Unt.mkS], Below.refl _ _⟩
  case round =>
    obtain ⟨k, hk, rfl, rfl, HX⟩ := hrel
    by_cases hlt : k < ps'.length
    · have HFS := hid (fil_snoc (val := val) (v := v) hlt)
      have hlen : (fil val v (ps'.take k)).length ≤ 200 * 200 := by
        have := HFL.out (ps'.take k) (fun p hp => HPS.out p (List.mem_of_mem_take hp))
        have h2 : (ps'.take k).length ≤ 200 := by rw [List.length_take]; omega
        omega
      have hone := one_len (val := val) (v := v) HGP.out hv h0 h1 (HPS.out ps'[k] (List.getElem_mem hlt))
      obtain ⟨g, hga, hgl, hc0⟩ := own_at HO.out.row1 (fs_get ps' k hlt).1
      obtain ⟨g', hga', hgl', hc1⟩ := own_at HO.out.row2 (fs_get ps' k hlt).2
      subst hga
      subst hga'
      have d0 := (HX.out.cell (p := ⟨g, k, none⟩) hgl).trans hc0
      have d1 := (HX.out.cell (p := ⟨g', k, none⟩) hgl').trans hc1
      have i1 : (k : Int) < (ps'.length : Int) := by omega
      have HL3 := hid (HL2.out.below HX.out)
      clear hc0 hc1
      generalize ps'[k] = p at *
      generalize fil val v (ps'.take k) = out at *
      obtain ⟨x, b⟩ := p
      cases b
      · have HE : Hid (fil val v (ps'.take (k + 1)) = out ++ x.data.toList) := by unfold Hid; rw [HFS.out, one_text]
        rw [one_text] at hone
        have ha : ∀ w, (Op.stringOp .add (Unt.mkS out) x).run Tryd.prog w = .ok (.string (Unt.mkS (out ++ x.data.toList))) w := by
          intro w; have := Unt.add_run out x.data.toList (by omega) w; rwa [mk_of] at this
        go_wp2
        go_roundw
        case rel => exact ⟨k + 1, by omega, by go_num, by rw [HE.out], HX⟩
        case measure => simp [intOf]; omega
      · by_cases hx : x = vname
        · have hq := str_eqv hx
          have HE : Hid (fil val v (ps'.take (k + 1)) = out ++ Lib.itoa v) := by unfold Hid; rw [HFS.out, one_value hx]
          rw [one_value hx] at hone
          have ha := Unt.add_run out (Lib.itoa v) (by omega)
          clear hx
          go_wp2_with (go_at_call 22; refine (Unt.f22 v _ h0 h1).mono ?_; rintro e w3 ⟨rfl, hb3⟩; have HX3 := hid (HX.out.trans (hb3.mono HX.out.size)); clear hb3)
          go_roundw
          case rel => exact ⟨k + 1, by omega, by go_num, by rw [HE.out], HX3⟩
          case measure => simp [intOf]; omega
        · have hq := str_nev hx
          have HE : Hid (fil val v (ps'.take (k + 1)) = out ++ (val x).data.toList) := by unfold Hid; rw [HFS.out, one_name hx]
          rw [one_name hx] at hone
          have ha : ∀ w, (Op.stringOp .add (Unt.mkS out) (val x)).run Tryd.prog w = .ok (.string (Unt.mkS (out ++ (val x).data.toList))) w := by
            intro w; have := Unt.add_run out (val x).data.toList (by omega) w; rwa [mk_of] at this
          have HVX := hid (hv x)
          clear hx
          go_wp2_with (go_at_call 23; refine (Lab.f23w a n c ls x _ HN.out hn20 HL3.out).mono ?_; rintro e w3 ⟨y, hy, rfl, hb3⟩; obtain rfl := hy.uniq HVX.out; have HX3 := hid (HX.out.trans (hb3.mono HX.out.size)); clear hb3 hy)
          go_roundw
          case rel => exact ⟨k + 1, by omega, by go_num, by rw [HE.out], HX3⟩
          case measure => simp [intOf]; omega
    · have hk2 : k = ps'.length := by omega
      subst hk2
      have HE : Hid (fil val v (ps'.take ps'.length) = fil val v ps') := by unfold Hid; rw [List.take_of_length_le (Nat.le_refl _)]
      go_wp2
      go_ret
      exact ⟨ret_s HE.out, HB2.out.trans (HX.out.mono HB2.out.size)⟩
theorem gdT_none {s : ByteArray} (h : tpl s = none) : gdT s = false := by unfold gdT; rw [h]; rfl
theorem gdT_some {s : ByteArray} {ps : List Pc} (h : tpl s = some ps) : gdT s = true := by unfold gdT; rw [h]; rfl
set_option maxHeartbeats 1000000 in
theorem f5 (s : ByteArray) (a : Option Addr) (n c : Nat) (ls : List Lb) (val : ByteArray → ByteArray) (v : Int) (w : World) (hs : s.size ≤ maxLen) (hn : ls.length = n) (hmax : n ≤ maxLen) (hr : HasL w a ls) (hf : Lab.Fit ls) (hv : ∀ x, OfV ls x (val x)) (h0 : -9223372036854775808 ≤ v) (h1 : v ≤ 9223372036854775807) :
    Calls Tryd.prog 5 #[.string s, .slice a n c, .int .i64 v] w fun e w' => e = .returned (.string (Unt.mkS (fillR val v s (Lab.goodL ls)))) ∧ Below w.heap.size w w' := by
  have HN := hid hn
  have HL := hid hr
  clear hn hr
  cases ht : tpl s with
  | none =>
    have hgt := gdT_none ht
    have HT := hid ht
    clear ht
    go_enter Tryd.func5, Tryd.ntmps5
    go_wp2_with (go_at_call 10; refine (f10 s _ hs).mono ?_; rintro e w1 ⟨rfl, hb1⟩)
    go_ret
    exact ⟨ret_s0 (fill_none HT.out), hb1⟩
  | some ps =>
    have hgt := gdT_some ht
    have HT := hid ht
    clear ht
    cases hg : Lab.goodL ls
    · go_enter Tryd.func5, Tryd.ntmps5
      go_wp2_with (first | (go_at_call 10; refine (f10 s _ hs).mono ?_; rintro e w1 ⟨rfl, hb1⟩; have HB1 := hid hb1; clear hb1) | (go_at_call 11; refine (Lab.f11 a n c ls _ HN.out hmax (HL.out.below HB1.out) hf).mono ?_; rintro e w2 ⟨rfl, hb2⟩))
      go_ret
      exact ⟨ret_s0 (fill_bad rfl), HB1.out.trans (hb2.mono HB1.out.size)⟩
    · have hgp : GoodP ls := of_decide_eq_true hg
      have HGP := hid hgp
      clear hgp
      go_enter Tryd.func5, Tryd.ntmps5
      go_wp2_with (first | (go_at_call 10; refine (f10 s _ hs).mono ?_; rintro e w1 ⟨rfl, hb1⟩; have HB1 := hid hb1; clear hb1) | (go_at_call 11; refine (Lab.f11 a n c ls _ HN.out hmax (HL.out.below HB1.out) hf).mono ?_; rintro e w2 ⟨rfl, hb2⟩; have HB2 := hid (HB1.out.trans (hb2.mono HB1.out.size)); clear hb2) | (go_at_call 12; refine (f12 s ps a n c ls val v _ hs HT.out HN.out HGP.out (HL.out.below HB2.out) hv h0 h1).mono ?_; rintro e w3 ⟨rfl, hb3⟩; have HB3 := hid (HB2.out.trans (hb3.mono HB2.out.size)); clear hb3))
      go_ret
      exact ⟨ret_s (fill_some HT.out rfl).symm, HB3.out⟩
end Go.Proofs.YtpeffjkagaegjaaDoor.Tpl
