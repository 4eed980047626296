/- A number of few that are rare; samples that are drawn to be told as one source would. -/
import Derived.Test.YtfmijboakipooaaDdg
import Derived.Test.YtfmijboakipooaaUd
import Derived.Deep.RegionLaw
import Derived.Deep.RegionHeld3
import Derived.Maps.AppendAt
namespace Go.Proofs.Ytfmijboakipooaa.Smp
open Go.RowKit Go.Proofs.Ytfmijboakipooaa.Cur

theorem f34 (B0 R n c lim : Nat) (a : Option Addr) (k : Int) (w : World) (h : Cu B0 R a n c lim w) (hl : lim ≤ 4503599627350000) (hn : n ≤ 1048576) (hk0 : 2 ≤ k) (hk1 : k ≤ 1000000) :
    Calls Try.prog 34 #[.pointer (some ⟨R, 0, none⟩), .int .i64 k] w fun e w' => ∃ x : Int, e = .returned (.int .i64 x) ∧ 0 ≤ x ∧ x < k ∧ Cu B0 R a n c (lim + 4) w' ∧ w.grownBy w' (some R) := by
  have HC := hid h
  clear h
  go_enter Try.func34, Try.ntmps34
  go_wp2_with fail
  refine (f25 B0 R n c lim a 8 _ HC.out (by omega) hn (by omega) (by omega)).mono ?_
  rintro e w1 ⟨b, rfl, hc1, hg1⟩
  have HC1 := hid hc1
  have HG1 := hid hg1
  clear hc1 hg1
  cases b
  · go_wp2
    go_ret
    exact ⟨0, rfl, by omega, by omega, HC1.out.mono (by omega), HG1.out⟩
  · go_wp2_with fail
    refine (f24 B0 R n c _ a (k - 1) _ HC1.out (by omega) hn (by omega) (by omega)).mono ?_
    rintro e w2 ⟨x, rfl, x0, x1, hc2, hg2⟩
    have HC2 := hid hc2
    have HG2 := hid (grownBy_trans HG1.out hg2)
    have x2 : 1 + x < k := by omega
    clear hc2 hg2 x1
    go_wp2
    go_ret
    exact ⟨1 + x, rfl, by omega, x2, HC2.out, HG2.out⟩

/-- An append to a row of the call's own, as one step of a region that draws its order, and where the new row lies. -/
theorem step_append_at {P : Program} {ops : Array Oper} {o : Oper} {a : Act} {w : World} {K : Act → World → Prop} {Q : Exit → Act → World → Prop} {E : Prop}
    (hg : o.guard = none) (s x : Operand) (t : TypeId) (hop : o.op = Op.call { callee := Callee.builtin Builtin.append, args := #[s, x], argTypes := #[t, t] })
    (base : Nat) (e : TypeId) (i : TypeInfo) (z : Value) (size bytes : Nat) (h1 : P.underlying t = some (.slice e)) (h2 : P.info? e = some i) (h3 : i.zero = some z) (h4 : i.size = size) (h5 : i.bytes = bytes) (h6 : z.cells.size = size) (h7 : 0 < size)
    (ao : Option Addr) (n cap : Nat) (olds : List Value) (hs : a.eval s = .slice ao n cap) (hown : w.ownsRow base e size (.slice ao n cap) n olds)
    (ad : Addr) (m c : Nat) (news : List Value) (hx : a.eval x = .slice (some ad) m c) (hn : news.length = m * size) (hc : ∀ j u, news[j]? = some u → w.cell? (ad.add j) = some u) (h1c : ∀ u ∈ news, u.oneCell' = true)
    (b1 : n + m ≤ maxLen) (b2 : (n + m) * bytes ≤ 140737488355328) (hbase : base ≤ w.heap.size)
    (hK : ∀ v' w', w'.ownsRow base e size v' (n + m) (olds ++ news) → w.grownBy w' (Value.slice ao n cap).ownBlock → (v'.ownBlock = (Value.slice ao n cap).ownBlock ∨ v'.ownBlock = some w.heap.size) → K (a.put o.dst v') w') :
    if Region.wanted o (yielded ops a.tmps) = true then Oper.wp P o a w K Q else E := by
  have hw : Region.wanted o (yielded ops a.tmps) = true := by simp [Region.wanted, hg]
  rw [if_pos hw]
  obtain ⟨v', w', hrun, r1, r2, _, r4⟩ := run_append_own_at (P := P) w base t o.type e i z size bytes h1 h2 h3 h4 h5 h6 h7 (.slice ao n cap) n olds hown ad m c news hn hc h1c b1 b2 hbase
  unfold Oper.wp
  simp [execOp, hop, resolve, invoke, builtin, hs, hx, hrun, Result.andThen]
  exact hK v' w' r1 r2 r4

theorem four_at {w : World} {B t : Nat} {x0 x1 x2 x3 : Int} (h : w.heap[B]? = some (.cells #[.int .i64 x0, .int .i64 x1, .int .i64 x2, .int .i64 x3] t (0, 0))) (j : Nat) (hj : j < 4) : ∃ gv : Int, w.cell? ⟨B, j, none⟩ = some (.int .i64 gv) := by
  have e : w.cell? ⟨B, j, none⟩ = (#[Value.int .i64 x0, .int .i64 x1, .int .i64 x2, .int .i64 x3] : Array Value)[j]? := by unfold World.cell?; simp only [h]; rfl
  rw [e]
  match j, hj with
  | 0, _ => exact ⟨x0, rfl⟩
  | 1, _ => exact ⟨x1, rfl⟩
  | 2, _ => exact ⟨x2, rfl⟩
  | 3, _ => exact ⟨x3, rfl⟩
theorem apart_grown {va v1 v' : Value} {S : Nat} (hat : v'.ownBlock = v1.ownBlock ∨ v'.ownBlock = some S) (ha : ∀ g, va.ownBlock = some g → g < S) (h : ∀ g, va.ownBlock = some g → v1.ownBlock ≠ some g) : ∀ g, va.ownBlock = some g → v'.ownBlock ≠ some g := by
  intro g hg e
  rcases hat with h1 | h1
  · exact h g hg (by rw [← h1]; exact e)
  · rw [h1] at e; have := Option.some.inj e; have := ha g hg; omega
theorem cu_drewN {B0 R n c lim : Nat} {a : Option Addr} {w : World} (h : Cu B0 R a n c lim w) (q : Nat) : Cu B0 R a n c lim (w.drewN q) := cuKept h (row := none) ⟨rfl, rfl, rfl, Nat.le_refl _, fun _ _ _ => rfl⟩ (by intro g hg; cases hg)
theorem cu_drw {B0 R n c lim : Nat} {a : Option Addr} {w : World} (h : Cu B0 R a n c lim w) : Cu B0 R a n c lim w.drew := cuKept h (row := none) ⟨rfl, rfl, rfl, Nat.le_refl _, fun _ _ _ => rfl⟩ (by intro g hg; cases hg)
theorem flat_take (L : List Sm) (k : Nat) (hk : k ≤ L.length) : (flat L).take (k * 2) = flat (L.take k) := by
  have h : flat L = flat (L.take k) ++ flat (L.drop k) := by rw [← flat_append, List.take_append_drop]
  rw [h, List.take_append_of_le_length (by rw [flat_len]; simp; omega), List.take_of_length_le (by rw [flat_len]; simp; omega)]
theorem own_take {w : World} {base n c : Nat} {ad : Option Addr} {L : List Sm} (h : Own w base (.slice ad n c) L) {k : Nat} (hk : k ≤ L.length) : Own w base (.slice ad k c) (L.take k) := by
  unfold Own at h ⊢
  have hl := h.1
  refine ⟨by simp [flat_len], ?_⟩
  rcases h.2 with ⟨h1, h2⟩ | ⟨g, cap, cur, h1, h2, h3, h4, h5, h6, h7⟩
  · simp only [Value.slice.injEq] at h1
    obtain ⟨rfl, rfl, rfl⟩ := h1
    exact .inl ⟨by rw [show k = 0 by omega], by simp; omega⟩
  · simp only [Value.slice.injEq] at h1
    obtain ⟨rfl, rfl, rfl⟩ := h1
    refine .inr ⟨g, c, cur, by simp [Nat.min_eq_left hk], h2, h3, by simp; omega, h5, h6, ?_⟩
    rw [List.length_take, Nat.min_eq_left hk]
    have e : cur.toList.take (k * 2) = (flat L).take (k * 2) := by
      rw [← h7, List.take_take, Nat.min_eq_left (by omega)]
    rw [e]
    exact flat_take L k hk

set_option maxRecDepth 100000 in
set_option maxHeartbeats 8000000 in
theorem f12 (a : Option Addr) (n c : Nat) (w : World) (h : Byt w a n) (hn : n ≤ 1048576) :
    Calls Try.prog 12 #[.slice a n c] w fun e w' => ∃ v1 v2 L1 L2, ∃ g : Int, e = .returned (.tuple #[v1, v2, .int .i64 g]) ∧ L1.length ≤ 202 ∧ L2.length ≤ 202 ∧ Own w' w.heap.size v1 L1 ∧ Own w' w.heap.size v2 L2 ∧ Below w.heap.size w w' := by
  obtain ⟨i0, hi, hz0, hz1, hz2⟩ := info_parts infoS
  obtain ⟨R, hR⟩ : ∃ R, R = w.heap.size := ⟨_, rfl⟩
  have HR := hid hR
  obtain ⟨v, hv⟩ : ∃ v, v = w.alloc (.cells #[.slice a n c, .int .i64 0, .int .u64 0] 46) := ⟨_, rfl⟩
  have HV := hid hv
  have HC0 := hid (cuNew (c := c) h)
  have hb0 := (Below.refl w.heap.size w).alloc (Nat.le_refl _) (.cells #[.slice a n c, .int .i64 0, .int .u64 0] 46)
  rw [← hv, ← hR] at HC0
  rw [← hv, ← hR] at hb0
  have HB0 := hid hb0
  have hvs : v.heap.size = R + 1 := by rw [hv, hR]; simp
  have HVS := hid hvs
  clear h hv hR hb0 hvs
  go_enter Try.func12, Try.ntmps12
  go_wp2_with fail
  simp only [← HR.out, ← HV.out]
  refine (f24 R R n c 0 a 20 _ HC0.out (by omega) hn (by omega) (by omega)).mono ?_
  rintro e w1 ⟨x, rfl, x0, x1, hc1, hg1⟩
  have HC1 := hid hc1
  have HB1 := hid (below_cur HB0.out hg1 (by rw [HR.out]; exact HB0.out.size) (Nat.le_refl _))
  have HS1 := hid (show R + 1 ≤ w1.heap.size by rw [← HVS.out]; exact hg1.size)
  have x2 : x ≤ 20 := by omega
  clear hc1 hg1 x1 HB0 HC0
  go_wp2_with fail
  refine (f23 R R n c _ a x 20 _ HC1.out (by omega) hn x0 (by omega) (by omega) (by omega)).mono ?_
  rintro e w2 ⟨va, La, rfl, hla, ho2, hc2, hg2⟩
  have HC2 := hid hc2
  have HB2 := hid (below_cur HB1.out hg2 (by rw [HR.out]; exact HB1.out.size) (Nat.le_refl _))
  have HS2 := hid (Nat.le_trans HS1.out hg2.size)
  have OA2 := hid (ho2.mono HS1.out)
  clear hc2 hg2 ho2 HB1 HC1
  go_wp2_with fail
  refine (f24 R R n c _ a 20 _ HC2.out (by omega) hn (by omega) (by omega)).mono ?_
  rintro e w3 ⟨y, rfl, y0, y1, hc3, hg3⟩
  have HC3 := hid hc3
  have HB3 := hid (below_cur HB2.out hg3 (by rw [HR.out]; exact HB2.out.size) (Nat.le_refl _))
  have HS3 := hid (Nat.le_trans HS2.out hg3.size)
  have OA3 := hid (OA2.out.cur hg3 (by omega))
  have y2 : y ≤ 20 := by omega
  clear hc3 hg3 y1 HB2 HC2 OA2
  go_wp2_with fail
  refine (f23 R R n c _ a y 20 _ HC3.out (by omega) hn y0 (by omega) (by omega) (by omega)).mono ?_
  rintro e w4 ⟨vb, Lb, rfl, hlb, ho4, hc4, hg4⟩
  have HC4 := hid hc4
  have HB4 := hid (below_cur HB3.out hg4 (by rw [HR.out]; exact HB3.out.size) (Nat.le_refl _))
  have HS4 := hid (Nat.le_trans HS3.out hg4.size)
  have OA4 := hid (OA3.out.cur hg4 (by omega))
  have OB4 := hid (ho4.mono HS3.out)
  have AP4 : Hid (∀ g, va.ownBlock = some g → vb.ownBlock ≠ some g) := fun g hg e => by
    have h1 := (OA3.out.lt g hg).2
    have h2 := (ho4.lt g e).1
    omega
  clear hc4 hg4 ho4 HB3 HC3 OA3
  go_wp2_with fail
  refine (f25 R R n c _ a 3 _ HC4.out (by omega) hn (by omega) (by omega)).mono ?_
  rintro e w5 ⟨b, rfl, hc5, hg5⟩
  have HC5 := hid hc5
  have HB5 := hid (below_cur HB4.out hg5 (by rw [HR.out]; exact HB4.out.size) (Nat.le_refl _))
  have HS5 := hid (Nat.le_trans HS4.out hg5.size)
  have OA5 := hid (OA4.out.cur hg5 (by omega))
  have OB5 := hid (OB4.out.cur hg5 (by omega))
  clear hc5 hg5 HB4 HC4 OA4 OB4
  go_upto_if 23 with fail
  go_cut [7, 9, 10] from 24 to 72 (fun s7 s9 s10 wx => Hid (∃ La Lb : List Sm, La.length ≤ 200 ∧ Lb.length ≤ 200 ∧ Own wx (R + 1) va La ∧ Own wx (R + 1) s7 Lb ∧ (∀ g, va.ownBlock = some g → s7.ownBlock ≠ some g) ∧ Cu R R a n c 100000 wx ∧ Below R w wx ∧ R + 1 ≤ wx.heap.size) ∧ s9 = s9 ∧ s10 = s10)
  case first =>
    cases b
    · go_wp2
      go_meet
      exact ⟨⟨La, Lb, hla, hlb, OA5.out, OB5.out, AP4.out, HC5.out.mono (by omega), HB5.out, HS5.out⟩, trivial, trivial⟩
    · obtain ⟨ga, ca, rfl⟩ := own_form OA5.out
      clear OB5 AP4
      go_wp2_with fail
      go_loopw [7, 9, 26] (fun s7 s9 si wr => ∃ (k : Nat) (L : List Sm), k ≤ La.length ∧ si = .int .i64 k ∧ s9 = s9 ∧ L.length ≤ k ∧ Own wr (R + 1) s7 L ∧ Hid (Own wr (R + 1) (.slice ga La.length ca) La) ∧ Hid (∀ g, (Value.slice ga La.length ca).ownBlock = some g → s7.ownBlock ≠ some g) ∧ Hid (Cu R R a n c (50000 + 4 * k) wr) ∧ Hid (Below R w wr) ∧ Hid (R + 1 ≤ wr.heap.size)) (fun _ _ si _ => La.length - (intOf si).toNat)
      case atStart => exact ⟨0, [], Nat.zero_le _, rfl, rfl, Nat.le_refl _, Own.nil _ _, OA5.out, (fun g _ e => by cases e), HC5.out.mono (by omega), HB5.out, HS5.out⟩
      case round =>
        obtain ⟨k, L, hk, rfl, -, hL, hown, HOA, HAP, HCU, HBW, HSZ⟩ := hrel
        have HO := hid hown
        obtain ⟨ab, cb, rfl⟩ := own_form hown
        clear hown OA5 HC5 HB5 HS5
        by_cases hlt : k < La.length
        · rcases HOA.out.has.2 with hr | ⟨ba, oa, rfl, hba, hca⟩
          · rw [hr] at hlt; simp at hlt
          obtain ⟨d0, d1⟩ := hca k hlt
          have i1 : (k : Int) < (La.length : Int) := by omega
          generalize La.getD k e0 = p at *
          obtain ⟨s, t⟩ := p
          simp only at d0 d1
          have HAL := hid ((Below.refl wr.heap.size wr).alloc (Nat.le_refl _) (.cells #[.int .i64 s, .int .i64 t] 30))
          have HBX := hid (heap_alloc_new wr (.cells #[.int .i64 s, .int .i64 t] 30))
          have HC1 := hid (cuKept HCU.out (grown_below none HAL.out) (by intro g hg; cases hg))
          have HO1 := hid (HO.out.below HAL.out)
          have HA1 := hid (HOA.out.below HAL.out)
          have HB1 := hid (HBW.out.trans (HAL.out.mono (by have := HSZ.out; omega)))
          have HS1' := hid (Nat.le_trans HSZ.out HAL.out.size)
          clear hca
          go_wp2_with fail
          generalize wr.alloc (.cells #[.int .i64 s, .int .i64 t] 30) = W at *
          refine (f25 R R n c _ a 3 _ HC1.out (by omega) hn (by omega) (by omega)).mono ?_
          rintro e W2 ⟨b2, rfl, hc2', hg2'⟩
          have HC2' := hid hc2'
          have HB2' := hid (below_cur HB1.out hg2' (by have := HS1'.out; omega) (Nat.le_refl _))
          have HS2' := hid (Nat.le_trans HS1'.out hg2'.size)
          have HO2' := hid (HO1.out.cur hg2' (by omega))
          have HA2' := hid (HA1.out.cur hg2' (by omega))
          have hsz := HSZ.out
          have HBX2 := hid (box_grown HBX.out hg2' (fun g e => by have := Option.some.inj e; omega))
          clear hc2' hg2' HC1 HB1 HO1 HA1 d0 d1 HBX
          have x0 := two0 HBX2.out
          have x1 := two1 HBX2.out
          cases b2
          · go_wp2_with fail
            have HX1 := hid HBX2.out
            have HLB := hid (Array.getElem?_eq_some_iff.1 HBX2.out).1
            go_region_law (first | (go_simp; refine (f24 R R n c _ a 2 W2.drew (cu_drw HC2'.out) (by omega) hn (by omega) (by omega)).mono ?_; rintro e w10 ⟨z, rfl, z0, z1, hc10, hg10⟩; have hX10 := box_grown (w := W2.drew) HX1.out hg10 (fun g e => by have := Option.some.inj e; omega); have y0 := two0 hX10; have y1 := two1 hX10; have HO10 := hid (Own.cur (w := W2.drew) HO2'.out hg10 (by omega)); have HA10 := hid (Own.cur (w := W2.drew) HA2'.out hg10 (by omega)); have HC10 := hid hc10; have HB10 := hid (below_cur HB2'.out.drew hg10 (by have := HS2'.out; exact Nat.le_of_succ_le this) (Nat.le_refl _)); have HS10 := hid (Nat.le_trans HS2'.out hg10.size); clear hc10 hg10) | (refine step_append_at rfl (.tmp 33) (.tmp 43) 23 rfl (R + 1) 30 i0 (.agg #[.int .i64 0, .int .i64 0]) 2 16 Try.underlying23 hi hz0 hz1 hz2 rfl (by decide) ab L.length cb (flat L) (by simp [Act.eval]) (World.ownsRow.alloc HO10.out _) ⟨w10.heap.size, 0, none⟩ 1 1 [_, _] (by simp [Act.eval]) rfl (fun j u h => two_new w10 _ _ _ j u h) (by intro u hu; simp at hu; rcases hu with rfl | rfl <;> rfl) (by unfold maxLen; omega) (by omega) (by have := HS10.out; simp; omega) ?_; intro v1 w11 hown1 hgr1 hat1; have HO11 := hid hown1; have HG11 := hid hgr1; have HT11 := hid hat1; clear hown1 hgr1 hat1))
            all_goals
              generalize IntKind.i64.wrap (IntKind.i64.wrap (s + 1) + z) = X at *
              have hbA := HB10.out.alloc (Nat.le_of_succ_le HS10.out) (.cells #[.int .i64 X, .int .i64 t] 30)
              have HB11 := hid (hbA.grown HG11.out (by have := HS10.out; simp; omega) (fun g hg => by have := (HO10.out.lt g hg).1; omega))
              have HO12 := hid (Own.snoc (p := (X, t)) HO11.out)
              have HA11 := hid (Own.kept (World.ownsRow.alloc HA10.out (.cells #[.int .i64 X, .int .i64 t] 30)) HG11.out (fun g hg e => HAP.out g hg e))
              have HA12 := hid (apart_grown HT11.out (fun g hg => by have := (HA10.out.lt g hg).2; simp; omega) HAP.out)
              have HC11 := hid (cuKept (cuKept HC10.out (grown_below none ((Below.refl w10.heap.size w10).alloc (Nat.le_refl _) (.cells #[.int .i64 X, .int .i64 t] 30))) (by intro g hg; cases hg)) HG11.out (fun g e => by have := (HO10.out.lt g e).1; omega))
              have HS11 : Hid (R + 1 ≤ w11.heap.size) := by have h1 := HG11.out.size; have h2 := HS10.out; simp at h1; unfold Hid; omega
              have HSN := hid HO11.out
              clear hbA HG11 HT11 HO11
              go_wp2
              go_roundw
              case rel => exact ⟨k + 1, L ++ [(X, t)], by omega, by go_num, trivial, by simp; omega, HO12.out, HA11.out, HA12.out, HC11.out.mono (by omega), HB11.out, HS11.out⟩
              case measure => simp [intOf]; omega
          · go_wp2
            go_roundw
            case rel => exact ⟨k + 1, L, by omega, by go_num, trivial, by omega, HO2'.out, HA2'.out, HAP.out, HC2'.out.mono (by omega), HB2'.out, HS2'.out⟩
            case measure => simp [intOf]; omega
        · have i1 : ¬ (k : Int) < (La.length : Int) := by omega
          have hcap := cap_own HO.out
          have hsl : L.length ≤ 200 := by omega
          have HCX := hid (HCU.out.mono (show 50000 + 4 * k ≤ 60000 by omega))
          clear HCU hk hlt hL
          go_wp2_with fail
          go_loopw [7, 10] (fun s7 s10 wr => ∃ (L : List Sm) (i : Int), s10 = .int .i64 i ∧ -1 ≤ i ∧ i < (L.length : Int) ∧ L.length ≤ 200 ∧ Own wr (R + 1) s7 L ∧ Hid (Own wr (R + 1) (.slice ga La.length ca) La) ∧ Hid (∀ g, (Value.slice ga La.length ca).ownBlock = some g → s7.ownBlock ≠ some g) ∧ Hid (Cu R R a n c 60000 wr) ∧ Hid (Below R w wr) ∧ Hid (R + 1 ≤ wr.heap.size)) (fun _ s10 _ => (intOf s10 + 1).toNat)
          case atStart => exact ⟨L, (L.length : Int) - 1, by first | rfl | (congr 1; omega) | go_num, by omega, by omega, hsl, HO.out, HOA.out, HAP.out, HCX.out, HBW.out, HSZ.out⟩
          case round =>
            clear HO HOA HAP HCX HBW HSZ hcap
            obtain ⟨L, i, rfl, hi0, hi1, hl, hown, HOA, HAP, HCU, HBW, HSZ⟩ := hrel
            have HO := hid hown
            obtain ⟨ab, cb, rfl⟩ := own_form hown
            by_cases hpos : 0 < i
            · obtain ⟨m, rfl⟩ : ∃ m : Nat, i = (m : Int) := ⟨i.toNat, by omega⟩
              have hm : m < L.length := by omega
              have hm0 : 0 < m := by omega
              have hcap := (cap_own hown).1
              rcases hown.cases with ⟨hr, _⟩ | ⟨g, cg, hv⟩
              · rw [hr] at hm; simp at hm
              simp only [Value.slice.injEq] at hv
              obtain ⟨rfl, -, -⟩ := hv
              rcases hown.has.2 with hr | ⟨bb, ob, hbo, hbb, hcb⟩
              · rw [hr] at hm; simp at hm
              simp only [Option.some.injEq, Addr.mk.injEq, and_true] at hbo
              obtain ⟨rfl, rfl⟩ := hbo
              obtain ⟨d0, _⟩ := hcb m hm
              obtain ⟨d2, _⟩ := hcb (m - 1) (by omega)
              have HCB := hid hcb
              have hk : ((m : Int) - 1) = ((m - 1 : Nat) : Int) := by omega
              have i1 : (m : Int) < (L.length : Int) := by omega
              have i2 : ((m - 1 : Nat) : Int) < (L.length : Int) := by omega
              have hmm : m - 1 ≤ 200 := by omega
              have hm2 : m ≤ 200 := by omega
              have HGT := hid (HO.out.lt g rfl)
              simp only [Nat.zero_add] at d0 d2
              generalize (L.getD m e0).1 = T1 at *
              generalize (L.getD (m - 1) e0).1 = T2 at *
              have HMM : Hid (m - 1 + 1 = m) := by unfold Hid; omega
              generalize m - 1 = mm at *
              clear hown hcb hi0 hi1
              by_cases hle : T1 ≤ T2
              · have HTK := hid (own_take HO.out (Nat.le_of_lt hm))
                have HLT : Hid ((L.take m).length = m) := by unfold Hid; simp; omega
                have HDL : Hid ((flat (L.drop (m + 1))).length = (L.length - (m + 1)) * 2) := by unfold Hid; rw [flat_len, List.length_drop]
                have HOC := hid (flat_oneCell (L.drop (m + 1)))
                have HCC : Hid (∀ W : World, W.heap = wr.heap → ∀ j u, (flat (L.drop (m + 1)))[j]? = some u → W.cell? ((⟨g, (m + 1) * 2, none⟩ : Addr).add j) = some u) := by
                  intro W hW j u hju
                  have h1 : wr.cell? ((⟨g, (m + 1) * 2, none⟩ : Addr).add j) = some u := by
                    refine flat_cells (.inr ⟨g, (m + 1) * 2, rfl, hbb, fun i hi => ?_⟩) j u hju
                    have h2 := HCB.out (m + 1 + i) (by simp at hi; omega)
                    rw [show (L.drop (m + 1)).getD i e0 = L.getD (m + 1 + i) e0 from by simp [List.getD_eq_getElem?_getD]]
                    rw [show (m + 1) * 2 + i * 2 = 0 + (m + 1 + i) * 2 from by omega]
                    exact h2
                  rw [← h1]; unfold World.cell?; rw [hW]
                by_cases hc : m + 1 < cb
                · have hx1 := hc
                  have c1 : (m : Int) ≤ (cb : Int) := by omega
                  have c2 : (m : Int) + 1 ≤ (L.length : Int) := by omega
                  have c5 : (0 : Int) ≤ (m : Int) + 1 := by omega
                  have c3 : (L.length : Int) ≤ (cb : Int) := by omega
                  have hw : IntKind.i64.wrap ((m : Int) + 1) = ((m + 1 : Nat) : Int) := by rw [IntKind.wrap_i64]; omega
                  have hne : ¬ cb = m + 1 := by omega
                  go_wp2_with fail
                  go_quiet (fail)
                  go_wp2_with fail
                  generalize hwq : wr.drewN nq = wq
                  have HTKq : Hid (Own wq (R + 1) (.slice (some ⟨g, 0, none⟩) m cb) (L.take m)) := by rw [← hwq]; exact own_drewN HTK.out _
                  have HOAq : Hid (Own wq (R + 1) (.slice ga La.length ca) La) := by rw [← hwq]; exact own_drewN HOA.out _
                  have HCUq : Hid (Cu R R a n c 60000 wq) := by rw [← hwq]; exact cu_drewN HCU.out _
                  have HBWq : Hid (Below R w wq) := by rw [← hwq]; exact below_drewN HBW.out _
                  have HSZq : Hid (R + 1 ≤ wq.heap.size) := by rw [← hwq]; exact HSZ.out
                  have HHQ : Hid (wq.heap = wr.heap) := by rw [← hwq]; rfl
                  clear hwq d0 d2
                  have HTKo : Hid (wq.ownsRow (R + 1) 30 2 (.slice (some ⟨g, 0, none⟩) m cb) m (flat (L.take m))) := by have := HTKq.out; unfold Own at this; rw [HLT.out] at this; exact this
                  refine wp_region_held_drew (S := fun _ => True) rfl trivial (fun _ => ?_)
                  refine wpAnyH_take (i := 0) (oi := { dst := some 65, op := _, type := _, pos := _, after := _, guard := _ }) (v := .slice (some ⟨g, 0, none⟩) L.length cb) rfl (by kernel_rfl) (by kernel_rfl) (by kernel_rfl) (fun _ _ _ h => h) (Or.inl ⟨by rfl, fun w hSw => by go_simp⟩) (by trivial) ?_
                  simp only [Act.put, List.setIfInBounds_toArray, List.set_cons_zero, List.set_cons_succ]
                  refine wpAnyH_take (i := 1) (oi := { dst := some 66, op := _, type := _, pos := _, after := _, guard := _ }) (v := .int .i64 (m : Int)) rfl (by kernel_rfl) (by kernel_rfl) (by kernel_rfl) (fun _ _ _ h => h) (Or.inl ⟨by rfl, fun w hSw => by go_simp⟩) (by trivial) ?_
                  simp only [Act.put, List.setIfInBounds_toArray, List.set_cons_zero, List.set_cons_succ]
                  refine wpAnyH_take (i := 2) (oi := { dst := some 67, op := _, type := _, pos := _, after := _, guard := _ }) (v := .slice (some ⟨g, 0, none⟩) m cb) rfl (by kernel_rfl) (by kernel_rfl) (by kernel_rfl) (fun _ _ _ h => h) (Or.inl ⟨by rfl, fun w hSw => by go_simp⟩) (by trivial) ?_
                  simp only [Act.put, List.setIfInBounds_toArray, List.set_cons_zero, List.set_cons_succ]
                  refine wpAnyH_take (i := 3) (oi := { dst := some 68, op := _, type := _, pos := _, after := _, guard := _ }) (v := .slice (some ⟨g, 0, none⟩) L.length cb) rfl (by kernel_rfl) (by kernel_rfl) (by kernel_rfl) (fun _ _ _ h => h) (Or.inl ⟨by rfl, fun w hSw => by go_simp⟩) (by trivial) ?_
                  simp only [Act.put, List.setIfInBounds_toArray, List.set_cons_zero, List.set_cons_succ]
                  refine wpAnyH_take (i := 4) (oi := { dst := some 69, op := _, type := _, pos := _, after := _, guard := _ }) (v := .int .i64 (m : Int)) rfl (by kernel_rfl) (by kernel_rfl) (by kernel_rfl) (fun _ _ _ h => h) (Or.inl ⟨by rfl, fun w hSw => by go_simp⟩) (by trivial) ?_
                  simp only [Act.put, List.setIfInBounds_toArray, List.set_cons_zero, List.set_cons_succ]
                  refine wpAnyH_take (i := 5) (oi := { dst := some 70, op := _, type := _, pos := _, after := _, guard := _ }) (v := .int .i64 ((m : Int) + 1)) rfl (by kernel_rfl) (by kernel_rfl) (by kernel_rfl) (fun _ _ _ h => h) (Or.inl ⟨by rfl, fun w hSw => by go_simp⟩) (by trivial) ?_
                  simp only [Act.put, List.setIfInBounds_toArray, List.set_cons_zero, List.set_cons_succ]
                  refine wpAnyH_take (i := 6) (oi := { dst := some 71, op := _, type := _, pos := _, after := _, guard := _ }) (v := .slice (some ⟨g, (m + 1) * 2, none⟩) (L.length - (m + 1)) (cb - (m + 1))) rfl (by kernel_rfl) (by kernel_rfl) (by kernel_rfl) (fun _ _ _ h => h) (Or.inl ⟨by rfl, fun w hSw => by go_simp⟩) (by trivial) ?_
                  simp only [Act.put, List.setIfInBounds_toArray, List.set_cons_zero, List.set_cons_succ]
                  refine wpAnyH_ready (rs := [7]) (by kernel_rfl) (by simp) (AllReadyH.cons (o := { dst := some 72, op := _, type := _, pos := _, after := _, guard := _ }) rfl ?_ AllReadyH.nil)
                  intro K1 hK1
                  refine step_append_at rfl (.tmp 67) (.tmp 71) 23 rfl (R + 1) 30 i0 (.agg #[.int .i64 0, .int .i64 0]) 2 16 Try.underlying23 hi hz0 hz1 hz2 rfl (by decide) (some ⟨g, 0, none⟩) m cb (flat (L.take m)) rfl (show (World.drew wq).ownsRow _ _ _ _ _ _ from HTKo.out) ⟨g, (m + 1) * 2, none⟩ (L.length - (m + 1)) (cb - (m + 1)) (flat (L.drop (m + 1))) rfl HDL.out (HCC.out (World.drew wq) HHQ.out) HOC.out (by unfold maxLen; omega) (by omega) HSZq.out ?_; intro v1 w11 hown1 hgr1 hat1; have HO11 := hid hown1; have HG11 := hid hgr1; have HT11 := hid hat1; clear hown1 hgr1 hat1
                  refine hK1.out _ _ trivial (fun _ => ?_)
                  clear hK1 K1
                  simp only [Act.put, List.setIfInBounds_toArray, List.set_cons_zero, List.set_cons_succ]
                  refine wpAnyH_take (i := 8) (oi := { dst := some 7, op := _, type := _, pos := _, after := _, guard := _ }) (v := v1) rfl (by kernel_rfl) (by kernel_rfl) (by kernel_rfl) (fun _ _ _ h => h) (Or.inl ⟨by rfl, fun w hSw => by go_simp⟩) (by trivial) ?_
                  simp only [Act.put, List.setIfInBounds_toArray, List.set_cons_zero, List.set_cons_succ]
                  refine wpAnyH_done (by kernel_rfl) ?_ _
                  all_goals
                    have HO12 : Hid (Own w11 (R + 1) v1 (L.take m ++ L.drop (m + 1))) := by
                      have := HO11.out
                      unfold Hid Own
                      rw [flat_append, List.length_append, HLT.out, List.length_drop]
                      exact this
                    have HA11 := hid (Own.kept (w := wq.drew) HOAq.out HG11.out (fun g' hg e => HAP.out g' hg e))
                    have HA12 := hid (apart_grown HT11.out (fun g' hg => by have := (HOAq.out.lt g' hg).2; exact this) HAP.out)
                    have HC11 := hid (cuKept (w := wq.drew) (cu_drw HCUq.out) HG11.out (fun g' e => by have := (HTKq.out.lt g' e).1; omega))
                    have HB11 := hid (HBWq.out.drew.grown HG11.out (Nat.le_of_succ_le HSZq.out) (fun g' e => by have := (HTKq.out.lt g' e).1; omega))
                    have HS11 : Hid (R + 1 ≤ w11.heap.size) := Nat.le_trans HSZq.out HG11.out.size
                    have hln : (L.take m ++ L.drop (m + 1)).length = L.length - 1 := by simp; omega
                    generalize L.take m ++ L.drop (m + 1) = L' at *
                    clear HO11 HG11 HT11
                    go_wp2
                    go_roundw
                    case rel => exact ⟨L', (m : Int) - 1, by rw [hk], by omega, by omega, by omega, HO12.out, HA11.out, HA12.out, HC11.out, HB11.out, HS11.out⟩
                    case measure => simp [intOf]; omega
                · obtain rfl : cb = m + 1 := by omega
                  have HLE : Hid (L.length = m + 1) := by unfold Hid; omega
                  have HD0 : Hid ((flat (L.drop (m + 1))).length = 0 * 2) := by unfold Hid; rw [flat_len, List.length_drop, HLE.out]; omega
                  have HC0 : Hid (∀ j u, (flat (L.drop (m + 1)))[j]? = some u → wr.cell? ((⟨g, 0, none⟩ : Addr).add j) = some u) := by
                    intro j u hju; rw [List.drop_eq_nil_of_le (by rw [HLE.out]; exact Nat.le_refl _)] at hju; simp [flat] at hju
                  have c1 : (m : Int) ≤ ((m : Int) + 1) := by omega
                  have c2 : (m : Int) + 1 ≤ (L.length : Int) := by omega
                  have c5 : (0 : Int) ≤ (m : Int) + 1 := by omega
                  have c3 : (L.length : Int) ≤ ((m : Int) + 1) := by omega
                  have hw : IntKind.i64.wrap ((m : Int) + 1) = ((m + 1 : Nat) : Int) := by rw [IntKind.wrap_i64]; omega
                  have c4 : (m : Int) ≤ (m : Int) + 1 := by omega
                  go_wp2_with fail
                  go_quiet (fail)
                  go_wp2_with fail
                  generalize hwq : wr.drewN nq = wq
                  have HTKq : Hid (Own wq (R + 1) (.slice (some ⟨g, 0, none⟩) m (m + 1)) (L.take m)) := by rw [← hwq]; exact own_drewN HTK.out _
                  have HOAq : Hid (Own wq (R + 1) (.slice ga La.length ca) La) := by rw [← hwq]; exact own_drewN HOA.out _
                  have HCUq : Hid (Cu R R a n c 60000 wq) := by rw [← hwq]; exact cu_drewN HCU.out _
                  have HBWq : Hid (Below R w wq) := by rw [← hwq]; exact below_drewN HBW.out _
                  have HSZq : Hid (R + 1 ≤ wq.heap.size) := by rw [← hwq]; exact HSZ.out
                  have HHQ : Hid (wq.heap = wr.heap) := by rw [← hwq]; rfl
                  clear hwq d0 d2
                  have HTKo : Hid (wq.ownsRow (R + 1) 30 2 (.slice (some ⟨g, 0, none⟩) m (m + 1)) m (flat (L.take m))) := by have := HTKq.out; unfold Own at this; rw [HLT.out] at this; exact this
                  refine wp_region_held_drew (S := fun _ => True) rfl trivial (fun _ => ?_)
                  refine wpAnyH_take (i := 0) (oi := { dst := some 65, op := _, type := _, pos := _, after := _, guard := _ }) (v := .slice (some ⟨g, 0, none⟩) L.length (m + 1)) rfl (by kernel_rfl) (by kernel_rfl) (by kernel_rfl) (fun _ _ _ h => h) (Or.inl ⟨by rfl, fun w hSw => by go_simp⟩) (by trivial) ?_
                  simp only [Act.put, List.setIfInBounds_toArray, List.set_cons_zero, List.set_cons_succ]
                  refine wpAnyH_take (i := 1) (oi := { dst := some 66, op := _, type := _, pos := _, after := _, guard := _ }) (v := .int .i64 (m : Int)) rfl (by kernel_rfl) (by kernel_rfl) (by kernel_rfl) (fun _ _ _ h => h) (Or.inl ⟨by rfl, fun w hSw => by go_simp⟩) (by trivial) ?_
                  simp only [Act.put, List.setIfInBounds_toArray, List.set_cons_zero, List.set_cons_succ]
                  refine wpAnyH_take (i := 2) (oi := { dst := some 67, op := _, type := _, pos := _, after := _, guard := _ }) (v := .slice (some ⟨g, 0, none⟩) m (m + 1)) rfl (by kernel_rfl) (by kernel_rfl) (by kernel_rfl) (fun _ _ _ h => h) (Or.inl ⟨by rfl, fun w hSw => by go_simp⟩) (by trivial) ?_
                  simp only [Act.put, List.setIfInBounds_toArray, List.set_cons_zero, List.set_cons_succ]
                  refine wpAnyH_take (i := 3) (oi := { dst := some 68, op := _, type := _, pos := _, after := _, guard := _ }) (v := .slice (some ⟨g, 0, none⟩) L.length (m + 1)) rfl (by kernel_rfl) (by kernel_rfl) (by kernel_rfl) (fun _ _ _ h => h) (Or.inl ⟨by rfl, fun w hSw => by go_simp⟩) (by trivial) ?_
                  simp only [Act.put, List.setIfInBounds_toArray, List.set_cons_zero, List.set_cons_succ]
                  refine wpAnyH_take (i := 4) (oi := { dst := some 69, op := _, type := _, pos := _, after := _, guard := _ }) (v := .int .i64 (m : Int)) rfl (by kernel_rfl) (by kernel_rfl) (by kernel_rfl) (fun _ _ _ h => h) (Or.inl ⟨by rfl, fun w hSw => by go_simp⟩) (by trivial) ?_
                  simp only [Act.put, List.setIfInBounds_toArray, List.set_cons_zero, List.set_cons_succ]
                  refine wpAnyH_take (i := 5) (oi := { dst := some 70, op := _, type := _, pos := _, after := _, guard := _ }) (v := .int .i64 ((m : Int) + 1)) rfl (by kernel_rfl) (by kernel_rfl) (by kernel_rfl) (fun _ _ _ h => h) (Or.inl ⟨by rfl, fun w hSw => by go_simp⟩) (by trivial) ?_
                  simp only [Act.put, List.setIfInBounds_toArray, List.set_cons_zero, List.set_cons_succ]
                  refine wpAnyH_take (i := 6) (oi := { dst := some 71, op := _, type := _, pos := _, after := _, guard := _ }) (v := .slice (some ⟨g, 0, none⟩) 0 0) rfl (by kernel_rfl) (by kernel_rfl) (by kernel_rfl) (fun _ _ _ h => h) (Or.inl ⟨by rfl, fun w hSw => by go_simp⟩) (by trivial) ?_
                  simp only [Act.put, List.setIfInBounds_toArray, List.set_cons_zero, List.set_cons_succ]
                  refine wpAnyH_ready (rs := [7]) (by kernel_rfl) (by simp) (AllReadyH.cons (o := { dst := some 72, op := _, type := _, pos := _, after := _, guard := _ }) rfl ?_ AllReadyH.nil)
                  intro K1 hK1
                  refine step_append_at rfl (.tmp 67) (.tmp 71) 23 rfl (R + 1) 30 i0 (.agg #[.int .i64 0, .int .i64 0]) 2 16 Try.underlying23 hi hz0 hz1 hz2 rfl (by decide) (some ⟨g, 0, none⟩) m (m + 1) (flat (L.take m)) rfl (show (World.drew wq).ownsRow _ _ _ _ _ _ from HTKo.out) ⟨g, 0, none⟩ 0 0 (flat (L.drop (m + 1))) rfl HD0.out (fun j u h => by have := HC0.out j u h; rw [← this]; unfold World.cell?; simp only [World.drew, HHQ.out]) HOC.out (by unfold maxLen; omega) (by omega) HSZq.out ?_; intro v1 w11 hown1 hgr1 hat1; have HO11 := hid hown1; have HG11 := hid hgr1; have HT11 := hid hat1; clear hown1 hgr1 hat1
                  refine hK1.out _ _ trivial (fun _ => ?_)
                  clear hK1 K1
                  simp only [Act.put, List.setIfInBounds_toArray, List.set_cons_zero, List.set_cons_succ]
                  refine wpAnyH_take (i := 8) (oi := { dst := some 7, op := _, type := _, pos := _, after := _, guard := _ }) (v := v1) rfl (by kernel_rfl) (by kernel_rfl) (by kernel_rfl) (fun _ _ _ h => h) (Or.inl ⟨by rfl, fun w hSw => by go_simp⟩) (by trivial) ?_
                  simp only [Act.put, List.setIfInBounds_toArray, List.set_cons_zero, List.set_cons_succ]
                  refine wpAnyH_done (by kernel_rfl) ?_ _
                  all_goals
                    have HO12 : Hid (Own w11 (R + 1) v1 (L.take m ++ L.drop (m + 1))) := by
                      have := HO11.out
                      unfold Hid Own
                      rw [flat_append, List.length_append, HLT.out, List.length_drop, HLE.out, Nat.sub_self]
                      exact this
                    have HA11 := hid (Own.kept (w := wq.drew) HOAq.out HG11.out (fun g' hg e => HAP.out g' hg e))
                    have HA12 := hid (apart_grown HT11.out (fun g' hg => by have := (HOAq.out.lt g' hg).2; exact this) HAP.out)
                    have HC11 := hid (cuKept (w := wq.drew) (cu_drw HCUq.out) HG11.out (fun g' e => by have := (HTKq.out.lt g' e).1; omega))
                    have HB11 := hid (HBWq.out.drew.grown HG11.out (Nat.le_of_succ_le HSZq.out) (fun g' e => by have := (HTKq.out.lt g' e).1; omega))
                    have HS11 : Hid (R + 1 ≤ w11.heap.size) := Nat.le_trans HSZq.out HG11.out.size
                    have hln : (L.take m ++ L.drop (m + 1)).length = L.length - 1 := by rw [List.length_append, HLT.out, List.length_drop, HLE.out]; omega
                    generalize L.take m ++ L.drop (m + 1) = L' at *
                    clear HO11 HG11 HT11
                    go_wp2
                    go_roundw
                    case rel => exact ⟨L', (m : Int) - 1, by rw [hk], by omega, by omega, by omega, HO12.out, HA11.out, HA12.out, HC11.out, HB11.out, HS11.out⟩
                    case measure => simp [intOf]; omega
              · go_wp2_with fail
                go_quiet (fail)
                go_wp2
                go_roundw
                case rel => exact ⟨L, (m : Int) - 1, by rw [hk], by omega, by omega, hl, own_drewN HO.out _, own_drewN HOA.out _, HAP.out, cu_drewN HCU.out _, below_drewN HBW.out _, HSZ.out⟩
                case measure => simp [intOf]; omega
            · go_wp2
              go_meet
              exact ⟨⟨La, L, hla, hl, HOA.out, HO.out, HAP.out, HCU.out.mono (by omega), HBW.out, HSZ.out⟩, trivial, trivial⟩
  case rest =>
    obtain ⟨hdr, -, -⟩ := hcut
    obtain ⟨La, Lb, la, lb, oa, ob, hap, hcu, hbw, hsz⟩ := hdr.out
    have OA : Hid (Own wc.drew (R + 1) va La) := oa
    have OB : Hid (Own wc.drew (R + 1) u7 Lb) := ob
    have HAP := hid hap
    have HCU := hid (cu_drw hcu)
    have HBW := hid hbw.drew
    have HSZ : Hid (R + 1 ≤ wc.drew.heap.size) := hsz
    clear oa ob hap hcu hbw hsz hdr OA5 OB5 HB5 HC5 HS5 AP4
    go_wp2_with fail
    refine wp_region_held_drew (S := fun _ => True) rfl trivial (fun _ => ?_)
    generalize wc.drew = wd at *
    refine wpAnyH_take (i := 0) (oi := { dst := some 73, op := _, type := _, pos := _, after := _, guard := _ }) (v := .pointer (some ⟨R, 0, none⟩)) rfl (by kernel_rfl) (by kernel_rfl) (by kernel_rfl) (fun _ _ _ h => h) (Or.inl ⟨by rfl, fun w hSw => by go_simp⟩) (by trivial) ?_
    try simp only [Act.put, List.setIfInBounds_toArray, List.set_cons_zero, List.set_cons_succ]
    refine wpAnyH_take (i := 1) (oi := { dst := some 74, op := _, type := _, pos := _, after := _, guard := _ }) (v := va) rfl (by kernel_rfl) (by kernel_rfl) (by kernel_rfl) (fun _ _ _ h => h) (Or.inl ⟨by rfl, fun w hSw => by go_simp⟩) (by trivial) ?_
    try simp only [Act.put, List.setIfInBounds_toArray, List.set_cons_zero, List.set_cons_succ]
    refine wpAnyH_take (i := 3) (oi := { dst := some 76, op := _, type := _, pos := _, after := _, guard := _ }) (v := .pointer (some ⟨R, 0, none⟩)) rfl (by kernel_rfl) (by kernel_rfl) (by kernel_rfl) (fun _ _ _ h => h) (Or.inl ⟨by rfl, fun w hSw => by go_simp⟩) (by trivial) ?_
    try simp only [Act.put, List.setIfInBounds_toArray, List.set_cons_zero, List.set_cons_succ]
    refine wpAnyH_take (i := 4) (oi := { dst := some 77, op := _, type := _, pos := _, after := _, guard := _ }) (v := u7) rfl (by kernel_rfl) (by kernel_rfl) (by kernel_rfl) (fun _ _ _ h => h) (Or.inl ⟨by rfl, fun w hSw => by go_simp⟩) (by trivial) ?_
    try simp only [Act.put, List.setIfInBounds_toArray, List.set_cons_zero, List.set_cons_succ]
    refine wpAnyH_take (i := 6) (oi := { dst := some 79, op := _, type := _, pos := _, after := _, guard := _ }) (v := .pointer (some ⟨R, 0, none⟩)) rfl (by kernel_rfl) (by kernel_rfl) (by kernel_rfl) (fun _ _ _ h => h) (Or.inl ⟨by rfl, fun w hSw => by go_simp⟩) (by trivial) ?_
    try simp only [Act.put, List.setIfInBounds_toArray, List.set_cons_zero, List.set_cons_succ]
    refine wpAnyH_take (i := 9) (oi := { dst := some 82, op := _, type := _, pos := _, after := _, guard := _ }) (v := .pointer (some ⟨R, 0, none⟩)) rfl (by kernel_rfl) (by kernel_rfl) (by kernel_rfl) (fun _ _ _ h => h) (Or.inl ⟨by rfl, fun w hSw => by go_simp⟩) (by trivial) ?_
    try simp only [Act.put, List.setIfInBounds_toArray, List.set_cons_zero, List.set_cons_succ]
    refine wpAnyH_ready (rs := [2]) (by kernel_rfl) (by simp) (AllReadyH.cons (o := { dst := some 75, op := _, type := _, pos := _, after := _, guard := _ }) rfl ?_ AllReadyH.nil)
    intro K1 hK1
    go_simp
    go_wp2_with (go_at_call 27; refine (f27 R R n c _ (R + 1) a va La wd HCU.out (by omega) hn OA.out (by omega) HSZ.out (by omega)).mono ?_; rintro e w6 ⟨va', La', rfl, la', oa', hc6, hg6, hat⟩)
    refine hK1.out _ _ trivial (fun _ => ?_)
    clear hK1 K1
    have HC6 := hid hc6
    have OA6 := hid oa'
    have OB6 := hid (OB.out.g2 hg6 (by omega) (fun g hg e => HAP.out g e.symm hg))
    have AP6 : Hid (∀ g, va'.ownBlock = some g → u7.ownBlock ≠ some g) := fun g hg e => by
      rcases hat with h1 | h1
      · exact HAP.out g (by rw [← h1]; exact hg) e
      · have h2 := h1 g hg
        have h3 := (OB.out.lt g e).2
        omega
    have HB6 := hid (Below.g2 HBW.out hg6 (by have := HSZ.out; omega) (Nat.le_refl _) (fun g hg => by have := (OA.out.lt g hg).1; omega))
    have HS6 := hid (Nat.le_trans HSZ.out hg6.size)
    clear hc6 hg6 hat oa' OA OB HCU HBW HSZ HAP
    try simp only [Act.put, List.setIfInBounds_toArray, List.set_cons_zero, List.set_cons_succ]
    refine wpAnyH_ready (rs := [5]) (by kernel_rfl) (by simp) (AllReadyH.cons (o := { dst := some 78, op := _, type := _, pos := _, after := _, guard := _ }) rfl ?_ AllReadyH.nil)
    intro K2 hK2
    go_simp
    go_wp2_with (go_at_call 27; refine (f27 R R n c _ (R + 1) a u7 Lb w6 HC6.out (by omega) hn OB6.out (by omega) HS6.out (by omega)).mono ?_; rintro e w7 ⟨vb', Lb', rfl, lb', ob', hc7, hg7, hat⟩)
    refine hK2.out _ _ trivial (fun _ => ?_)
    clear hK2 K2
    have HC7 := hid hc7
    have OB7 := hid ob'
    have OA7 := hid (OA6.out.g2 hg7 (by omega) (fun g hg e => AP6.out g hg e.symm))
    have HB7 := hid (Below.g2 HB6.out hg7 (by have := HS6.out; omega) (Nat.le_refl _) (fun g hg => by have := (OB6.out.lt g hg).1; omega))
    have HS7 := hid (Nat.le_trans HS6.out hg7.size)
    clear hc7 hg7 hat ob' OA6 OB6 HC6 HB6 HS6
    try simp only [Act.put, List.setIfInBounds_toArray, List.set_cons_zero, List.set_cons_succ]
    refine wpAnyH_ready (rs := [7]) (by kernel_rfl) (by simp) (AllReadyH.cons (o := { dst := some 80, op := _, type := _, pos := _, after := _, guard := _ }) rfl ?_ AllReadyH.nil)
    intro K3 hK3
    go_simp
    go_wp2_with (go_at_call 24; refine (f24 R R n c _ a 40 w7 HC7.out (by omega) hn (by omega) (by omega)).mono ?_; rintro e w8 ⟨z, rfl, z0, z1, hc8, hg8⟩)
    refine hK3.out _ _ trivial (fun _ => ?_)
    clear hK3 K3
    have HC8 := hid hc8
    have OA8 := hid (OA7.out.cur hg8 (by omega))
    have OB8 := hid (OB7.out.cur hg8 (by omega))
    have HB8 := hid (below_cur HB7.out hg8 (by have := HS7.out; omega) (Nat.le_refl _))
    have HS8 := hid (Nat.le_trans HS7.out hg8.size)
    clear hc8 hg8 OA7 OB7 HC7 HB7 HS7
    try simp only [Act.put, List.setIfInBounds_toArray, List.set_cons_zero, List.set_cons_succ]
    refine wpAnyH_ready (rs := [8, 10]) (by kernel_rfl) (by simp) (AllReadyH.cons (o := { dst := some 81, op := _, type := _, pos := _, after := _, guard := _ }) rfl ?_ (AllReadyH.cons (o := { dst := some 83, op := _, type := _, pos := _, after := _, guard := _ }) rfl ?_ AllReadyH.nil))
    · intro K4 hK4
      go_simp
      refine hK4.out _ _ trivial (fun _ => ?_)
      clear hK4 K4
      have hX := heap_alloc_new w8 (.cells #[.int .i64 z, .int .i64 (-1), .int .i64 1000000, .int .i64 1000001] 3)
      have hal := (Below.refl w8.heap.size w8).alloc (Nat.le_refl _) (.cells #[.int .i64 z, .int .i64 (-1), .int .i64 1000000, .int .i64 1000001] 3)
      have HCa := hid (cuKept HC8.out (grown_below none hal) (by intro g hg; cases hg))
      have OAa := hid (OA8.out.below hal)
      have OBa := hid (OB8.out.below hal)
      have HBa := hid (HB8.out.trans (hal.mono (by have := HS8.out; omega)))
      have HSa := hid (Nat.le_trans HS8.out hal.size)
      have hB0 : R < w8.heap.size := HS8.out
      generalize w8.alloc (.cells #[.int .i64 z, .int .i64 (-1), .int .i64 1000000, .int .i64 1000001] 3) = wa at *
      generalize w8.heap.size = B0 at *
      clear hal OA8 OB8 HC8 HB8 HS8
      try simp only [Act.put, List.setIfInBounds_toArray, List.set_cons_zero, List.set_cons_succ]
      refine wpAnyH_ready (rs := [10]) (by kernel_rfl) (by simp) (AllReadyH.cons (o := { dst := some 83, op := _, type := _, pos := _, after := _, guard := _ }) rfl ?_ AllReadyH.nil)
      intro K5 hK5
      go_simp
      go_wp2_with (go_at_call 34; refine (f34 R R n c _ a 4 wa HCa.out (by omega) hn (by omega) (by omega)).mono ?_; rintro e w9 ⟨x9, rfl, x90, x91, hc9, hg9⟩)
      refine hK5.out _ _ trivial (fun _ => ?_)
      clear hK5 K5
      have hX9 := box_grown hX hg9 (fun g e => by have := Option.some.inj e; omega)
      have OA9 := hid (OAa.out.cur hg9 (by omega))
      have OB9 := hid (OBa.out.cur hg9 (by omega))
      have HB9 := hid (below_cur HBa.out hg9 (by have := HSa.out; omega) (Nat.le_refl _))
      try simp only [Act.put, List.setIfInBounds_toArray, List.set_cons_zero, List.set_cons_succ]
      clear hc9 hg9 hX HCa OAa OBa HBa HSa
      obtain ⟨j, rfl⟩ : ∃ j : Nat, x9 = (j : Int) := ⟨x9.toNat, by omega⟩
      obtain ⟨gv, hgv⟩ := four_at hX9 j (by omega)
      have j1 : (j : Int) < 4 := x91
      refine wpAnyH_take (i := 13) (oi := { dst := some 2, op := _, type := _, pos := _, after := _, guard := _ }) (v := va') rfl (by kernel_rfl) (by kernel_rfl) (by kernel_rfl) (fun _ _ _ h => h) (Or.inl ⟨by rfl, fun w hSw => by go_simp⟩) (by trivial) ?_
      try simp only [Act.put, List.setIfInBounds_toArray, List.set_cons_zero, List.set_cons_succ]
      refine wpAnyH_take (i := 14) (oi := { dst := some 3, op := _, type := _, pos := _, after := _, guard := _ }) (v := vb') rfl (by kernel_rfl) (by kernel_rfl) (by kernel_rfl) (fun _ _ _ h => h) (Or.inl ⟨by rfl, fun w hSw => by go_simp⟩) (by trivial) ?_
      try simp only [Act.put, List.setIfInBounds_toArray, List.set_cons_zero, List.set_cons_succ]
      refine wpAnyH_take (i := 11) (oi := { dst := some 84, op := _, type := _, pos := _, after := _, guard := _ }) (v := .pointer (some ⟨B0, j, none⟩)) rfl (by kernel_rfl) (by kernel_rfl) (by kernel_rfl) (fun _ _ _ h => h) (Or.inl ⟨by rfl, fun w hSw => by go_simp⟩) (by trivial) ?_
      try simp only [Act.put, List.setIfInBounds_toArray, List.set_cons_zero, List.set_cons_succ]
      refine wpAnyH_ready (rs := [12]) (by kernel_rfl) (by simp) (AllReadyH.cons (o := { dst := some 85, op := _, type := _, pos := _, after := _, guard := _ }) rfl ?_ AllReadyH.nil)
      intro K5 hK5
      go_simp
      refine hK5.out _ _ trivial (fun _ => ?_)
      clear hK5 K5
      try simp only [Act.put, List.setIfInBounds_toArray, List.set_cons_zero, List.set_cons_succ]
      refine wpAnyH_take (i := 15) (oi := { dst := some 4, op := _, type := _, pos := _, after := _, guard := _ }) (v := .int .i64 gv) rfl (by kernel_rfl) (by kernel_rfl) (by kernel_rfl) (fun _ _ _ h => h) (Or.inl ⟨by rfl, fun w hSw => by go_simp⟩) (by trivial) ?_
      try simp only [Act.put, List.setIfInBounds_toArray, List.set_cons_zero, List.set_cons_succ]
      refine wpAnyH_done (by kernel_rfl) ?_ _
      go_wp2
      refine bodyPost_ret (v := .tuple #[va', vb', .int .i64 gv]) ?_ rfl ⟨va', vb', La', Lb', gv, rfl, by omega, by omega, by rw [← HR.out]; exact OA9.out.mono (by omega), by rw [← HR.out]; exact OB9.out.mono (by omega), by rw [← HR.out]; exact HB9.out⟩
      simp [results, Try.results12, go_sem]
    · intro K4 hK4
      go_simp
      go_wp2_with (go_at_call 34; refine (f34 R R n c _ a 4 w8 HC8.out (by omega) hn (by omega) (by omega)).mono ?_; rintro e w9 ⟨x9, rfl, x90, x91, hc9, hg9⟩)
      refine hK4.out _ _ trivial (fun _ => ?_)
      clear hK4 K4
      have OAa := hid (OA8.out.cur hg9 (by omega))
      have OBa := hid (OB8.out.cur hg9 (by omega))
      have HBa := hid (below_cur HB8.out hg9 (by have := HS8.out; omega) (Nat.le_refl _))
      have HSa := hid (Nat.le_trans HS8.out hg9.size)
      clear hc9 hg9 OA8 OB8 HC8 HB8 HS8
      try simp only [Act.put, List.setIfInBounds_toArray, List.set_cons_zero, List.set_cons_succ]
      refine wpAnyH_take (i := 13) (oi := { dst := some 2, op := _, type := _, pos := _, after := _, guard := _ }) (v := va') rfl (by kernel_rfl) (by kernel_rfl) (by kernel_rfl) (fun _ _ _ h => h) (Or.inl ⟨by rfl, fun w hSw => by go_simp⟩) (by trivial) ?_
      try simp only [Act.put, List.setIfInBounds_toArray, List.set_cons_zero, List.set_cons_succ]
      refine wpAnyH_take (i := 14) (oi := { dst := some 3, op := _, type := _, pos := _, after := _, guard := _ }) (v := vb') rfl (by kernel_rfl) (by kernel_rfl) (by kernel_rfl) (fun _ _ _ h => h) (Or.inl ⟨by rfl, fun w hSw => by go_simp⟩) (by trivial) ?_
      try simp only [Act.put, List.setIfInBounds_toArray, List.set_cons_zero, List.set_cons_succ]
      refine wpAnyH_ready (rs := [8]) (by kernel_rfl) (by simp) (AllReadyH.cons (o := { dst := some 81, op := _, type := _, pos := _, after := _, guard := _ }) rfl ?_ AllReadyH.nil)
      intro K5 hK5
      go_simp
      refine hK5.out _ _ trivial (fun _ => ?_)
      clear hK5 K5
      have hX9 := heap_alloc_new w9 (.cells #[.int .i64 z, .int .i64 (-1), .int .i64 1000000, .int .i64 1000001] 3)
      have hal := (Below.refl w9.heap.size w9).alloc (Nat.le_refl _) (.cells #[.int .i64 z, .int .i64 (-1), .int .i64 1000000, .int .i64 1000001] 3)
      have OA9 := hid (OAa.out.below hal)
      have OB9 := hid (OBa.out.below hal)
      have HB9 := hid (HBa.out.trans (hal.mono (by have := HSa.out; omega)))
      generalize w9.alloc (.cells #[.int .i64 z, .int .i64 (-1), .int .i64 1000000, .int .i64 1000001] 3) = wb at *
      generalize w9.heap.size = B0 at *
      clear hal OAa OBa HBa HSa
      try simp only [Act.put, List.setIfInBounds_toArray, List.set_cons_zero, List.set_cons_succ]
      obtain ⟨j, rfl⟩ : ∃ j : Nat, x9 = (j : Int) := ⟨x9.toNat, by omega⟩
      obtain ⟨gv, hgv⟩ := four_at hX9 j (by omega)
      have j1 : (j : Int) < 4 := x91
      refine wpAnyH_take (i := 11) (oi := { dst := some 84, op := _, type := _, pos := _, after := _, guard := _ }) (v := .pointer (some ⟨B0, j, none⟩)) rfl (by kernel_rfl) (by kernel_rfl) (by kernel_rfl) (fun _ _ _ h => h) (Or.inl ⟨by rfl, fun w hSw => by go_simp⟩) (by trivial) ?_
      try simp only [Act.put, List.setIfInBounds_toArray, List.set_cons_zero, List.set_cons_succ]
      refine wpAnyH_ready (rs := [12]) (by kernel_rfl) (by simp) (AllReadyH.cons (o := { dst := some 85, op := _, type := _, pos := _, after := _, guard := _ }) rfl ?_ AllReadyH.nil)
      intro K5 hK5
      go_simp
      refine hK5.out _ _ trivial (fun _ => ?_)
      clear hK5 K5
      try simp only [Act.put, List.setIfInBounds_toArray, List.set_cons_zero, List.set_cons_succ]
      refine wpAnyH_take (i := 15) (oi := { dst := some 4, op := _, type := _, pos := _, after := _, guard := _ }) (v := .int .i64 gv) rfl (by kernel_rfl) (by kernel_rfl) (by kernel_rfl) (fun _ _ _ h => h) (Or.inl ⟨by rfl, fun w hSw => by go_simp⟩) (by trivial) ?_
      try simp only [Act.put, List.setIfInBounds_toArray, List.set_cons_zero, List.set_cons_succ]
      refine wpAnyH_done (by kernel_rfl) ?_ _
      go_wp2
      refine bodyPost_ret (v := .tuple #[va', vb', .int .i64 gv]) ?_ rfl ⟨va', vb', La', Lb', gv, rfl, by omega, by omega, by rw [← HR.out]; exact OA9.out.mono (by omega), by rw [← HR.out]; exact OB9.out.mono (by omega), by rw [← HR.out]; exact HB9.out⟩
      simp [results, Try.results12, go_sem]
end Go.Proofs.Ytfmijboakipooaa.Smp
