/- Samples that are drawn to be packed: DrawPackChunk. -/
import Derived.Test.YteblbcbfaomdmaaDoorUf
import Derived.Deep.RegionLaw
import Derived.Deep.RegionHeld3
import Derived.Deep.CutRange
namespace Go.Proofs.YteblbcbfaomdmaaDoor.Smp
open Go.RowKit Go.Proofs.YteblbcbfaomdmaaDoor.Cur

/-- An append to a row of the call's own, as one step of a region that draws its order. -/
theorem step_append_own {P : Program} {ops : Array Oper} {o : Oper} {a : Act} {w : World} {K : Act → World → Prop} {Q : Exit → Act → World → Prop} {E : Prop}
    (hg : o.guard = none) (s x : Operand) (t : TypeId) (hop : o.op = Op.call { callee := Callee.builtin Builtin.append, args := #[s, x], argTypes := #[t, t] })
    (base : Nat) (e : TypeId) (i : TypeInfo) (z : Value) (size bytes : Nat) (h1 : P.underlying t = some (.slice e)) (h2 : P.info? e = some i) (h3 : i.zero = some z) (h4 : i.size = size) (h5 : i.bytes = bytes) (h6 : z.cells.size = size) (h7 : 0 < size)
    (ao : Option Addr) (n cap : Nat) (olds : List Value) (hs : a.eval s = .slice ao n cap) (hown : w.ownsRow base e size (.slice ao n cap) n olds)
    (ad : Addr) (m c : Nat) (news : List Value) (hx : a.eval x = .slice (some ad) m c) (hn : news.length = m * size) (hc : ∀ j u, news[j]? = some u → w.cell? (ad.add j) = some u) (h1c : ∀ u ∈ news, u.oneCell' = true)
    (b1 : n + m ≤ maxLen) (b2 : (n + m) * bytes ≤ 140737488355328) (hbase : base ≤ w.heap.size)
    (hK : ∀ v' w', w'.ownsRow base e size v' (n + m) (olds ++ news) → w.grownBy w' (Value.slice ao n cap).ownBlock → K (a.put o.dst v') w') :
    if Region.wanted o (yielded ops a.tmps) = true then Oper.wp P o a w K Q else E := by
  have hw : Region.wanted o (yielded ops a.tmps) = true := by simp [Region.wanted, hg]
  rw [if_pos hw]
  obtain ⟨v', w', hrun, r1, r2, _⟩ := run_append_own (P := P) w base t o.type e i z size bytes h1 h2 h3 h4 h5 h6 h7 (.slice ao n cap) n olds hown ad m c news hn hc h1c b1 b2 hbase
  unfold Oper.wp
  simp [execOp, hop, resolve, invoke, builtin, hs, hx, hrun, Result.andThen]
  exact hK v' w' r1 r2

/-- A row of samples that was drawn, and the cursor. -/
structure Dra (B R : Nat) (a : Option Addr) (n c : Nat) (w : World) (s : Value) (wx : World) : Prop where
  row : ∃ L : List Sm, L.length ≤ 201 ∧ Own wx B s L ∧ Hid (Chk.Vfit L)
  cur : Cu R R a n c 100000 wx
  bel : Below R w wx
  size : B ≤ wx.heap.size
theorem cu_drew {B0 R n c lim : Nat} {a : Option Addr} {w : World} (h : Cu B0 R a n c lim w) : Cu B0 R a n c lim w.drew := ⟨h.1, h.2, h.3⟩
theorem six_new (w : World) (a b c d e f : Value) (t : TypeId) : ∀ j u, [a, b, c, d, e, f][j]? = some u → (w.alloc (.cells #[a, b, c, d, e, f] t)).cell? ((⟨w.heap.size, 0, none⟩ : Addr).add j) = some u := by
  intro j u h
  have hh : (w.alloc (.cells #[a, b, c, d, e, f] t)).heap[w.heap.size]? = some (.cells #[a, b, c, d, e, f] t (0, 0)) := by
    show (w.heap.push _)[w.heap.size]? = _
    simp
  match j, h with
  | 0, h => simp at h; subst h; show (w.alloc _).cell? ⟨w.heap.size, 0, none⟩ = _; unfold World.cell?; simp only [hh]; rfl
  | 1, h => simp at h; subst h; show (w.alloc _).cell? ⟨w.heap.size, 1, none⟩ = _; unfold World.cell?; simp only [hh]; rfl
  | 2, h => simp at h; subst h; show (w.alloc _).cell? ⟨w.heap.size, 2, none⟩ = _; unfold World.cell?; simp only [hh]; rfl
  | 3, h => simp at h; subst h; show (w.alloc _).cell? ⟨w.heap.size, 3, none⟩ = _; unfold World.cell?; simp only [hh]; rfl
  | 4, h => simp at h; subst h; show (w.alloc _).cell? ⟨w.heap.size, 4, none⟩ = _; unfold World.cell?; simp only [hh]; rfl
  | 5, h => simp at h; subst h; show (w.alloc _).cell? ⟨w.heap.size, 5, none⟩ = _; unfold World.cell?; simp only [hh]; rfl
  | k + 6, h => simp at h
theorem none_kept {w w' : World} {R e c : Nat} {a : Option Addr} (h : w.ownsRow (R + 1) e 2 (.slice a 0 c) 0 []) (hg : w.drew.grownBy w' (some R)) : w'.ownsRow (R + 1) e 2 (.slice a 0 c) 0 [] := by
  have hlt := h.lt
  refine World.ownsRow.kept h (row := some R) ⟨hg.os, hg.tape, hg.output, hg.size, hg.block⟩ ?_
  cases hv : (Value.slice a 0 c).ownBlock with
  | none => simp
  | some k => have := (hlt k hv).1; simp; omega
/-- None of a row. -/
theorem Own.none {w : World} {base n c : Nat} {a : Option Addr} {L : List Sm} (h : Own w base (.slice a n c) L) : w.ownsRow base 36 2 (.slice a 0 c) 0 [] := by
  refine ⟨rfl, ?_⟩
  rcases h.2 with ⟨h1, _⟩ | ⟨g, cap, cur, h1, h2, h3, h4, h5, h6, _⟩
  · simp only [Value.slice.injEq] at h1
    obtain ⟨rfl, -, rfl⟩ := h1
    exact .inl ⟨rfl, rfl⟩
  · simp only [Value.slice.injEq] at h1
    obtain ⟨rfl, -, rfl⟩ := h1
    exact .inr ⟨g, c, cur, rfl, h2, h3, Nat.zero_le _, h5, h6, by simp⟩

set_option maxRecDepth 100000 in
set_option maxHeartbeats 4000000 in
theorem f8 (a : Option Addr) (n c : Nat) (w : World) (h : Bya w a n) (hn : n ≤ 1048576) :
    Calls Tryd.prog 8 #[.slice a n c] w fun e w' => ∃ v L, e = .returned v ∧ L.length ≤ 201 ∧ Own w' w.heap.size v L ∧ Below w.heap.size w w' ∧ Hid (Chk.Vfit L) := by
  obtain ⟨i0, hi, hz0, hz1, hz2⟩ := info_parts infoS
  obtain ⟨R, hR⟩ : ∃ R, R = w.heap.size := ⟨_, rfl⟩
  have HR := hid hR
  obtain ⟨v, hv⟩ : ∃ v, v = w.alloc (.cells #[.slice a n c, .int .i64 0, .int .u64 0] 56) := ⟨_, rfl⟩
  have HV := hid hv
  have HC0 := hid (cuNew (c := c) h)
  have hb0 := (Below.refl w.heap.size w).alloc (Nat.le_refl _) (.cells #[.slice a n c, .int .i64 0, .int .u64 0] 56)
  rw [← hv, ← hR] at HC0
  rw [← hv, ← hR] at hb0
  have HB0 := hid hb0
  have hvs : v.heap.size = R + 1 := by rw [hv, hR]; simp
  have HVS := hid hvs
  clear h hv hR hb0 hvs
  go_enter Tryd.func8, Tryd.ntmps8
  go_wp2_with fail
  simp only [← HR.out, ← HV.out]
  refine (f36 R R n c 0 a 50 _ HC0.out (by omega) hn (by omega) (by omega)).mono ?_
  rintro e w1 ⟨x, rfl, x0, x1, hc1, hg1⟩
  have HC1 := hid hc1
  have HB1 := hid (below_cur HB0.out hg1 (by rw [HR.out]; exact HB0.out.size) (Nat.le_refl _))
  have HS1 := hid (show R + 1 ≤ w1.heap.size by rw [← HVS.out]; exact hg1.size)
  have x2 : x ≤ 50 := by omega
  clear hc1 hg1 x1 HB0 HC0
  go_wp2_with fail
  refine (f37 a n c _ hn).mono ?_
  rintro e w1' ⟨m, rfl, m0, m1, rfl⟩
  go_wp2_with fail
  refine (f35 R R n c _ a x (20 + m) _ HC1.out (by omega) hn x0 (by omega) (by omega) (by omega)).mono ?_
  rintro e w2 ⟨va, La, rfl, hla, ho2, hc2, hg2, HV2⟩
  have HC2 := hid hc2
  have HB2 := hid (below_cur HB1.out hg2 (by rw [HR.out]; exact HB1.out.size) (Nat.le_refl _))
  have HS2 := hid (Nat.le_trans HS1.out hg2.size)
  have OA2 := hid (ho2.mono HS1.out)
  clear hc2 hg2 ho2 HB1 HC1
  go_wp2_with fail
  refine (f34 R R n c _ (R + 1) a va La _ HC2.out (by omega) hn OA2.out (by omega) HS2.out (by omega) HV2).mono ?_
  rintro e w3 ⟨vb, Lb, rfl, hlb, ho3, hc3, hg3, _, HV3⟩
  have HC3 := hid hc3
  have HB3 := hid (Below.g2 HB2.out hg3 (by rw [HR.out]; exact HB2.out.size) (Nat.le_refl _) (fun g hg => by have := (World.ownsRow.lt OA2.out g hg).1; omega))
  have HS3 := hid (Nat.le_trans HS2.out hg3.size)
  have OB3 := hid ho3
  have lb2 : Lb.length ≤ 201 := by omega
  clear hc3 hg3 ho3 HB2 HC2 OA2 hla hlb
  go_wp2_with fail
  refine (f38 R R n c _ a 30 _ HC3.out (by omega) hn (by omega) (by omega)).mono ?_
  rintro e w5 ⟨b, rfl, hc5, hg5⟩
  have HC5 := hid hc5
  have HB5 := hid (below_cur HB3.out hg5 (by rw [HR.out]; exact HB3.out.size) (Nat.le_refl _))
  have HS5 := hid (Nat.le_trans HS3.out hg5.size)
  have OB5 := hid (OB3.out.cur hg5 (by omega))
  clear hc5 hg5 HB3 HC3 OB3
  go_upto_if 18 with fail
  go_cut [4] from 18 to 23 (fun s4 wx => Hid (Dra (R + 1) R a n c w s4 wx))
  case first =>
    cases b
    · go_wp2
      go_meet
      exact ⟨⟨Lb, lb2, OB5.out, HV3⟩, HC5.out.mono (by omega), HB5.out, HS5.out⟩
    · go_wp2_with fail
      refine (f36 R R n c _ a 3 _ HC5.out (by omega) hn (by omega) (by omega)).mono ?_
      rintro e w6 ⟨z, rfl, z0, z1, hc6, hg6⟩
      have HC6 := hid hc6
      have HB6 := hid (below_cur HB5.out hg6 (by rw [HR.out]; exact HB5.out.size) (Nat.le_refl _))
      have HS6 := hid (Nat.le_trans HS5.out hg6.size)
      have z2 : z ≤ 3 := by omega
      obtain ⟨N, hN⟩ : ∃ N : Nat, 119 + z = (N : Int) := ⟨(119 + z).toNat, by omega⟩
      have HN := hid hN
      have hN2 : N ≤ 201 := by omega
      clear hc6 hg6 z1 OB5 HB5 HC5 hN
      go_wp2_with fail
      rw [HN.out]
      refine (f39 R N _ (by omega)).mono ?_
      rintro e w7 ⟨vc, Lc, rfl, hlc, ho7, hb7, HV7⟩
      have HC7 := hid (cuKept HC6.out (grown_below none hb7) (by intro g hg; cases hg))
      have HB7 := hid (HB6.out.trans (hb7.mono (by rw [HR.out]; exact HB6.out.size)))
      have HS7 := hid (Nat.le_trans HS6.out hb7.size)
      have OC7 := hid (ho7.mono HS6.out)
      have lc2 : Lc.length ≤ 201 := by omega
      clear hb7 ho7 HC6 HB6 hlc
      go_wp2
      go_meet
      exact ⟨⟨Lc, lc2, OC7.out, HV7⟩, HC7.out.mono (by omega), HB7.out, HS7.out⟩
  case rest =>
  rename World => w8
  have HD := hcut
  clear hcut HC5 HB5 HS5 OB5 HS3 HS2 HS1
  go_wp2_with fail
  refine (f38 R R n c _ a 12 _ HD.out.cur (by omega) hn (by omega) (by omega)).mono ?_
  rintro e w9 ⟨b9, rfl, hc9, hg9⟩
  obtain ⟨L8, l8, o8, HV8⟩ := HD.out.row
  have HC9 := hid hc9
  have HB9 := hid (below_cur HD.out.bel hg9 (by rw [HR.out]; exact HD.out.bel.size) (Nat.le_refl _))
  have HS9 := hid (Nat.le_trans HD.out.size hg9.size)
  have O9 := hid (Own.cur o8 hg9 (by omega))
  clear hc9 hg9 o8 HD
  cases b9
  · go_wp2
    go_ret
    exact ⟨_, L8, rfl, l8, by rw [← HR.out]; exact O9.out.mono (by omega), by rw [← HR.out]; exact HB9.out, HV8⟩
  · obtain ⟨av, cv, rfl⟩ := own_form O9.out
    have HNO := hid (Own.none O9.out)
    go_wp2_with fail
    go_region_law (first | (go_simp; refine (f36 R R n c _ a 2 w9.drew (cu_drew HC9.out) (by omega) hn (by omega) (by omega)).mono ?_; rintro e w10 ⟨z, rfl, z0, z1, hc10, hg10⟩; have HN10 := hid (none_kept HNO.out hg10); have HC10 := hid hc10; have HB10 := hid (below_cur HB9.out.drew hg10 (by rw [HR.out]; exact HB9.out.size) (Nat.le_refl _)); have HS10 := hid (Nat.le_trans HS9.out hg10.size); clear hc10 hg10) | (refine step_append_own rfl (.tmp 27) (.tmp 34) 23 rfl (R + 1) 36 i0 (.agg #[.int .i64 0, .int .i64 0]) 2 16 Tryd.underlying23 hi hz0 hz1 hz2 rfl (by decide) av 0 cv [] (by simp [Act.eval]) (World.ownsRow.alloc HN10.out _) ⟨w10.heap.size, 0, none⟩ 3 3 [_, _, _, _, _, _] (by simp [Act.eval]) rfl (fun j u h => six_new w10 _ _ _ _ _ _ _ j u h) (by intro u hu; simp at hu; rcases hu with rfl | rfl | rfl | rfl | rfl | rfl <;> rfl) (by unfold maxLen; omega) (by omega) (by have := HS10.out; simp; omega) ?_; intro v1 w11 hown1 hgr1; have HO11 := hid hown1; have HG11 := hid hgr1; clear hown1 hgr1))
    have hbA := HB10.out.alloc (by rw [HR.out]; exact HB10.out.size) (.cells #[.int .i64 0, .int .i64 1, .int .i64 (IntKind.i64.wrap (1000000000000 - z)), .int .i64 0, .int .i64 1000000000000, .int .i64 (-1)] 36)
    have HB11 := hid (hbA.grown HG11.out (by have := HS10.out; simp; omega) (fun g hg => by have := (HN10.out.lt g hg).1; omega))
    clear hbA HG11
    go_wp2
    go_ret
    exact ⟨_, [(0, 1), (IntKind.i64.wrap (1000000000000 - z), 0), (1000000000000, -1)], rfl, by simp, by rw [← HR.out]; exact Own.mono (show Own w11 (R + 1) v1 [(0, 1), (IntKind.i64.wrap (1000000000000 - z), 0), (1000000000000, -1)] from HO11.out) (by omega), by rw [← HR.out]; exact HB11.out, vf_snoc (L := [(0, 1), (_, 0)]) (vf_snoc (L := [(0, 1)]) (vf_snoc vf_nil ⟨by decide, by decide⟩) ⟨by decide, by decide⟩) ⟨by decide, by decide⟩⟩
end Go.Proofs.YteblbcbfaomdmaaDoor.Smp
