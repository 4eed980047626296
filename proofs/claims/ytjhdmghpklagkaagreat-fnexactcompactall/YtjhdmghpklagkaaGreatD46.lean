/- The model's l10Plan and PlanOf. -/
import Derived.Test.YtjhdmghpklagkaaGreatD44
import Derived.Test.YtjhdmghpklagkaaGreatD45
namespace Go.Proofs.YtjhdmghpklagkaaGreat.Pln
open Go.RowKit
open Go.Proofs.YtjhdmghpklagkaaGreat.Stb
open Go.Proofs.YtjhdmghpklagkaaGreat.Srs (q0 lt_at kept set_at OwnO own_below)
open Go.Proofs.YtjhdmghpklagkaaGreat.Blk
open Go.Proofs.YtjhdmghpklagkaaGreat.Mgb
open Go.Proofs.YtjhdmghpklagkaaGreat.Hpl
open Go.Proofs.YtjhdmghpklagkaaGreat.Shf (wid BadW)
open Go.Proofs.YtjhdmghpklagkaaGreat.Ino (Now one_row info3)

theorem apartR {w : World} {b1 b2 e1 e2 s1 s2 n1 n2 : Nat} {v1 v2 : Value} {x1 x2 : List Value} (h1 : w.ownsRow b1 e1 s1 v1 n1 x1) (h2 : w.ownsRow b2 e2 s2 v2 n2 x2) (hne : e1 ≠ e2) {g : Nat} (hg1 : v1.ownBlock = some g) (hg2 : v2.ownBlock = some g) : False := by
  rcases h1.2 with ⟨rfl, _⟩ | ⟨g1, c1, cur1, rfl, _, k1, _⟩
  · cases hg1
  · rcases h2.2 with ⟨rfl, _⟩ | ⟨g2, c2, cur2, rfl, _, k2, _⟩
    · cases hg2
    · simp only [Value.ownBlock, Option.some.injEq] at hg1 hg2
      subst hg1 hg2
      rw [k1] at k2
      simp only [Option.some.injEq, Obj.cells.injEq] at k2
      exact hne k2.2.1
theorem row_kept {w x : World} {r : Option Nat} {base e size n : Nat} {v : Value} {xs : List Value} (h : w.ownsRow base e size v n xs) (hg : w.grownBy x r) (hne : ∀ g, v.ownBlock = some g → r = some g → False) : x.ownsRow base e size v n xs :=
  h.kept hg (by
    cases hv : v.ownBlock with
    | none => exact .inl rfl
    | some g => exact .inr fun e => hne g hv e.symm)
structure Col (w : World) (L : List Int) (R : List Bk) (v1 v2 : Value) (x : World) : Prop where
  ints : Ino.Own x w.heap.size v1 L
  blks : x.ownsRow w.heap.size 36 5 v2 R.length (flatK R)
  bel : Below w.heap.size w x
theorem Col.below {w : World} {L : List Int} {R : List Bk} {v1 v2 : Value} {x y : World} (h : Col w L R v1 v2 x) (hb : Below x.heap.size x y) : Col w L R v1 v2 y := ⟨h.ints.below hb, own_below h.blks hb, h.bel.trans (hb.mono h.bel.size)⟩
theorem Col.int {w : World} {L : List Int} {R : List Bk} {v1 v2 v1' : Value} {z : Int} {x y : World} (h : Col w L R v1 v2 x) (hg : x.grownBy y v1.ownBlock) (ho : y.ownsRow w.heap.size 3 1 v1' (L.length + 1) (L.map (Value.int .i64) ++ [.int .i64 z])) : Col w (L ++ [z]) R v1' v2 y := by
  refine ⟨?_, row_kept h.blks hg (fun g h1 h2 => apartR h.ints h.blks (by decide) h2 h1), h.bel.grown hg h.bel.size (fun k hk => (h.ints.lt k hk).1)⟩
  unfold Ino.Own
  rw [List.length_append, List.map_append]
  exact ho
theorem Col.blk {w : World} {L : List Int} {R : List Bk} {v1 v2 v2' : Value} {q : Bk} {x y : World} (h : Col w L R v1 v2 x) (hg : x.grownBy y v2.ownBlock) (ho : y.ownsRow w.heap.size 36 5 v2' (R.length + 1) (flatK R ++ clK q)) : Col w L (R ++ [q]) v1 v2' y := by
  refine ⟨row_kept h.ints hg (fun g h1 h2 => apartR h.ints h.blks (by decide) h1 h2), ?_, h.bel.grown hg h.bel.size (fun k hk => (h.blks.lt k hk).1)⟩
  rw [List.length_append, flatK_append]
  have : flatK [q] = clK q := by show clK q ++ [] = _; rw [List.append_nil]
  rw [this]
  exact ho
theorem Col.has {w : World} {L : List Int} {R : List Bk} {v1 : Value} {a : Option Addr} {n c : Nat} {x : World} (h : Col w L R v1 (.slice a n c) x) (hn : R.length = n) (hb : ∀ i, i < R.length → HasB w (R.getD i k0)) : HasK x a R := by
  subst hn
  rcases h.blks.2 with ⟨h1, h2⟩ | ⟨g, cap, cur, h1, _⟩
  · exact .inl (List.eq_nil_of_length_eq_zero h2)
  · have hr := h.blks
    simp only [Value.slice.injEq] at h1
    obtain ⟨rfl, -, rfl⟩ := h1
    exact ownK_has hr fun i hi => (hb i hi).below h.bel
theorem five_nw (w : World) (v0 v1 v2 v3 v4 : Value) (t : TypeId) : ∀ j u, [v0, v1, v2, v3, v4][j]? = some u → (w.alloc (.cells #[v0, v1, v2, v3, v4] t)).cell? ((⟨w.heap.size, 0, none⟩ : Addr).add j) = some u := by
  intro j u hj
  obtain ⟨d0, d1, d2, d3, d4⟩ := five (heap_alloc_new w (.cells #[v0, v1, v2, v3, v4] t))
  rw [Smp.add_none, Nat.zero_add]
  match j, hj with
  | 0, h => simp at h; rw [← h]; exact d0
  | 1, h => simp at h; rw [← h]; exact d1
  | 2, h => simp at h; rw [← h]; exact d2
  | 3, h => simp at h; rw [← h]; exact d3
  | 4, h => simp at h; rw [← h]; exact d4
def Ms (b L : Int) (bs : List Bk) (k : Nat) : Prop := ∀ q, Has1 L (wid b L) q bs k → ¬ Cand b L q bs
theorem Ms.zero (b L : Int) (bs : List Bk) : Ms b L bs 0 := fun q h => by obtain ⟨j, hj, _⟩ := h; omega
theorem Ms.next {b L : Int} {bs : List Bk} {k : Nat} (h : Ms b L bs k) (hn : (bs.getD k k0).L = L - 1 → ¬ Cand b L ((bs.getD k k0).F / wid b L) bs) : Ms b L bs (k + 1) := fun q h1 => by
  obtain ⟨j, hj, h2, h3⟩ := h1
  by_cases e : j = k
  · subst e; rw [← h3]; exact hn h2
  · exact h q ⟨j, by omega, h2, h3⟩
theorem Ms.end {b L : Int} {bs : List Bk} (h : Ms b L bs bs.length) (q : Int) : ¬ Cand b L q bs := fun c => h q c.1 c
theorem Ms.fst {b L : Int} {bs : List Bk} (g : GoodK b bs) (h2 : 2 ≤ L) (h4 : L ≤ 4) {k : Nat} (h : Ms b L bs k) {q : Int} (hq : q < (bs.getD k k0).F / wid b L) : ¬ Cand b L q bs := fun c => by
  obtain ⟨j, hj, h3, h5⟩ := c.1
  by_cases e : j < k
  · exact h q ⟨j, e, h3, h5⟩ c
  · have := div_mono (wid_pos' g.1 (L := L) (by omega) h4).1 (F_mono g (show k ≤ j by omega) hj)
    omega
theorem grp_has {w : World} {a : Option Addr} {bs : List Bk} {p : Bk → Bool} (hr : HasK w a bs) : ∀ i, i < (bs.filter p).length → HasB w ((bs.filter p).getD i k0) := fun i hi => by
  obtain ⟨j, hj, e⟩ := get_filter p hi
  rw [e]
  obtain ⟨_, _, _, _, _, h⟩ := hr.at2 j hj
  exact h
set_option maxRecDepth 10000 in
set_option maxHeartbeats 8000000 in
theorem f35 (b : Int) (a : Option Addr) (n c : Nat) (bs : List Bk) (w : World) (g : GoodK b bs) (hn : bs.length = n) (hr : HasK w a bs) (hf : FitK bs) (hz : SmlK bs) :
    Calls Tryz.prog 35 #[.int .i64 b, .slice a n c] w fun e w' => ∃ z v, e = .returned v ∧ Ans b bs z ∧ Ino.Own w' w.heap.size v (z.map Int.ofNat) ∧ Below w.heap.size w w' := by
  obtain ⟨i0, hi, hz0, hz1, hz2⟩ := info_parts info3
  obtain ⟨j0, ji, jz0, jz1, jz2⟩ := info_parts infoK
  have HN := hid hn
  have HR := hid hr
  have HGK := hid g
  have hn100 : n ≤ 100 := by rw [← hn]; exact g.2.1
  have hb12 := g.1
  have HMg := hid (fun p a' m c' x (hm : (bs.filter p).length = m) hx => f40 b a' m c' (bs.filter p) x (good_filter g p) hm hx (fit_filter p hf) (sml_filter p hz))
  clear hn hr hf hz g
  go_enter Tryz.func35, Tryz.ntmps35
  go_wp2
  go_loopw [5] (fun s5 wr => ∃ (k : Nat), 2 ≤ k ∧ k ≤ 5 ∧ s5 = .int .i64 k ∧ Hid (∀ L q, 2 ≤ L → L < (k : Int) → ¬ Cand b L q bs) ∧ Hid (Below w.heap.size w wr)) (fun si _ => 5 - (intOf si).toNat)
  case atStart => exact ⟨2, Nat.le_refl _, by omega, rfl, fun L q h1 h2 => by omega, Below.refl _ _⟩
  case round =>
    obtain ⟨l, hl2, hl5, rfl, HA, HB⟩ := hrel
    by_cases hl4 : l ≤ 4
    rotate_left
    · obtain rfl : l = 5 := by omega
      have HE : Hid (∀ L q, 2 ≤ L → L ≤ 4 → ¬ Cand b L q bs) := fun L q h1 h2 => HA.out L q h1 (by omega)
      go_wp2
      go_ret
      exact ⟨[], _, rfl, .inl ⟨rfl, HE.out⟩, Ino.Own.nil _ _, HB.out⟩
    have HWo := hid (fun x => Shf.f64 b l x (by omega) (by omega) (by omega) (by omega))
    have hW := wid_pos' HGK.out.1 (L := l) (by omega) (by omega)
    have i1 : (l : Int) ≤ 4 := by omega
    have h2 : (2 : Int) ≤ (l : Int) := by omega
    obtain ⟨wv, hwv⟩ : ∃ wv, wv = wid b l := ⟨_, rfl⟩
    rw [← hwv] at HWo hW
    have HWv := hid hwv
    clear hwv
    go_wp2_with fail
    refine (HWo.out _).mono ?_
    rintro e w1 ⟨rfl, hb1⟩
    have HB1 := hid (HB.out.trans (hb1.mono HB.out.size))
    clear hb1 HB HWo
    go_wp2
    go_loopw [26] (fun si wr => ∃ (k : Nat), k ≤ n ∧ si = .int .i64 k ∧ Hid (Ms b l bs k) ∧ Hid (Below w.heap.size w wr)) (fun si _ => n - (intOf si).toNat)
    case atStart => exact ⟨0, Nat.zero_le _, rfl, Ms.zero _ _ _, HB1.out⟩
    case round =>
      clear HB1
      obtain ⟨k, hk, rfl, HM, HB⟩ := hrel
      by_cases hlt : k < n
      rotate_left
      · obtain rfl : k = n := by omega
        have HA2 : Hid (∀ L q, 2 ≤ L → L < ((l + 1 : Nat) : Int) → ¬ Cand b L q bs) := fun L q h1 h2 => by
          by_cases e : L < (l : Int)
          · exact HA.out L q h1 e
          · obtain rfl : L = (l : Int) := by omega
            have h := HM.out
            rw [← HN.out] at h
            exact h.end q
        go_wp2
        go_roundw
        case rel => exact ⟨l + 1, by omega, by omega, by go_num, HA2, HB⟩
        case measure => simp [intOf]; omega
      have HRr := hid (HR.out.below HB.out)
      obtain ⟨bb, off, rfl, hbl, hcc, t1⟩ := HRr.out.at2 k (by rw [HN.out]; exact hlt)
      obtain ⟨c0, c1, c2, c3, c4⟩ := hcc
      have hHd := (HGK.out.2.2 k (by rw [HN.out]; exact hlt))
      have hF := hHd.2.1.1.1
      have hLv := hHd.1
      have HNx := hid (fun h => HM.out.next (k := k) h)
      have HFs := hid (fun q h => HM.out.fst HGK.out h2 (by omega) (q := q) (k := k) h)
      have HNc := hid (fun i hi => no_cross HGK.out h2 (by omega) (i := i) (j := k) hi (by rw [HN.out]; exact hlt))
      have HLl := hid (fun i hi => lev_lt HGK.out h2 (by omega) (i := i) (j := k) hi (by rw [HN.out]; exact hlt))
      have HH1 := hid (fun h => (⟨k, by rw [HN.out]; exact hlt, h, rfl⟩ : Has1 l (wid b l) ((bs.getD k k0).F / wid b l) bs bs.length))
      rw [← HWv.out] at HNx HFs HNc HLl HH1
      have HW0 := hid ((Below.refl wr.heap.size wr).alloc (Nat.le_refl _) (.cells (clB (bs.getD k k0)) 36))
      have HBx := hid (heap_alloc_new wr (.cells (clB (bs.getD k k0)) 36))
      have hH1 : (1 : Int) ≤ (n : Int) := by omega
      obtain ⟨bb', off', hbe, hbl', hcc', t1'⟩ := HRr.out.at2 (n - 1) (by rw [HN.out]; omega)
      cases hbe
      have d0 := hcc'.1
      have hFl := (HGK.out.2.2 (n - 1) (by rw [HN.out]; omega)).2.1.1.1
      have HFl : Hid ((bs.getD (n - 1) k0).F = (bs.getD (bs.length - 1) k0).F) := by unfold Hid; rw [HN.out]
      generalize hFlv : (bs.getD (n - 1) k0).F = Fl at *
      have HCd : Hid (∀ q, Cand b l q bs ↔ Has1 l wv q bs bs.length ∧ wv * q + wv ≤ Fl ∧ okM b (grp wv q bs)) := fun q => by unfold Cand; rw [← HFl.out, ← HWv.out]
      clear hFlv HFl hbl' hcc' t1'
      generalize bs.getD k k0 = q at *
      have i2 : (k : Int) < (n : Int) := by omega
      have HB0 := hid (HB.out.trans (HW0.out.mono HB.out.size))
      have d1 := (HW0.out.cell (p := ⟨bb, off + (n - 1) * 5, none⟩) (by exact hbl)).trans d0
      simp only [clB] at HW0 HBx HB0 d1
      clear t1 hHd d0
      obtain ⟨W3, hW3⟩ : ∃ W, W = wr.alloc (.cells #[.int .i64 q.F, .int .i64 q.T, .int .i64 q.L, .slice q.a q.qs.length q.c, .slice q.b q.ts.length q.d] 36) := ⟨_, rfl⟩
      rw [← hW3] at HBx HB0 d1
      clear HW0
      go_upto_region 8 with fail
      rw [← hW3]
      clear hW3 c0 c1 c2 c3 c4
      obtain ⟨x0, -, x2, -, -⟩ := five HBx.out
      by_cases hLe : q.L = l - 1
      rotate_left
      · have HM2 := hid (HNx.out (fun h => absurd h hLe))
        have g1 : (q.L != (l : Int) - 1) = true := by simpa using hLe
        go_wp2
        go_roundw
        case rel => exact ⟨k + 1, by omega, by go_num, HM2, HB0⟩
        case measure => simp [intOf]; omega
      have g1 : (q.L != (l : Int) - 1) = false := by simpa using hLe
      obtain ⟨qv, hqv⟩ : ∃ qv, qv = q.F / wv := ⟨_, rfl⟩
      obtain ⟨fv, hfv⟩ : ∃ fv, fv = wv * qv := ⟨_, rfl⟩
      have hdv := (div_iff (q := qv) (F := q.F) hW.1).1 hqv.symm
      have hfv0 : 0 ≤ qv := by rw [hqv]; exact Int.ediv_nonneg hF.1 (by omega)
      have hfv1 : 0 ≤ fv := by rw [hfv]; exact Int.mul_nonneg (by omega) hfv0
      have hfv2 : q.F / wv * wv = fv := by rw [← hqv, hfv, Int.mul_comm]
      have hwr : IntKind.i64.wrap (q.F / wv * wv) = fv := by rw [hfv2]; exact wrap_in (by omega) (by omega)
      rw [← hqv] at HNx HFs HLl HH1 HNc
      rw [← hfv] at hdv HNc
      have HQv := hid hqv
      have HFv := hid hfv
      have HHs := hid (HH1.out hLe)
      clear hqv hfv hfv2 HH1
      by_cases hFlt : Fl < fv + wv
      · have HM2 := hid (HNx.out (fun _ h => by
          have h1 := ((HCd.out qv).1 h).2.1
          rw [← HFv.out] at h1
          omega))
        go_wp2
        go_roundw
        case rel => exact ⟨k + 1, by omega, by go_num, HM2, HB0⟩
        case measure => simp [intOf]; omega
      go_wp2
      clear x0 x2 d1 hwr
      go_loopw [10, 11, 12, 54] (fun s10 s11 s12 si wx => ∃ (m : Nat) (L : List Int) (R : List Bk) (a1 a2 : Option Addr) (e1 e2 : Nat), m ≤ n ∧ si = .int .i64 m ∧ s12 = .bool true ∧ s10 = .slice a1 L.length e1 ∧ s11 = .slice a2 R.length e2 ∧ L.length ≤ m ∧ R.length ≤ m ∧ Hid (L = (idxK wv qv bs m).map Int.ofNat ∧ R = grpK wv qv bs m) ∧ Hid (Col w L R (.slice a1 L.length e1) (.slice a2 R.length e2) wx)) (fun _ _ _ si _ => n - (intOf si).toNat)
      case atStart => exact ⟨0, [], [], none, none, 0, 0, Nat.zero_le _, rfl, rfl, rfl, rfl, Nat.le_refl _, Nat.le_refl _, ⟨rfl, by simp [grpK, grp]⟩, ⟨Ino.Own.nil _ _, World.ownsRow_nil _ _ _ _, HB0.out⟩⟩
      case round =>
        clear HB0 HBx HRr
        obtain ⟨m, L, R, a1, a2, e1, e2, hm, rfl, rfl, rfl, rfl, hLm, hRm, HLR, HC⟩ := hrel
        by_cases hmn : m < n
        rotate_left
        · obtain rfl : m = n := by omega
          have HRg : Hid (bs.filter (fun h => decide (h.F / wv = qv)) = R) := by
            have h := HLR.out.2
            rw [← HN.out, grpK_end] at h
            exact h.symm
          have HLg : Hid (L = (idx wv qv bs).map Int.ofNat) := by
            have h := HLR.out.1
            rw [← HN.out, idxK_end] at h
            exact h
          have HCg : Hid (Cand b l qv bs ↔ okM b R) := by
            unfold Hid
            rw [HCd.out qv, ← HRg.out]
            have h1 : wv * qv + wv ≤ Fl := by rw [← HFv.out]; omega
            exact ⟨fun h => h.2.2, fun h => ⟨HHs.out, h1, h⟩⟩
          have hcall := HMg.out (fun h => decide (h.F / wv = qv)) a2 R.length e2 wr (by rw [HRg.out]) (by rw [HRg.out]; exact HC.out.has rfl (by rw [← HRg.out]; exact grp_has HR.out))
          rw [HRg.out] at hcall
          have HMc := hid hcall
          clear hcall
          go_wp2_with fail
          refine HMc.out.mono ?_
          rintro e w4 ⟨hG, rfl, -, hb4⟩
          have HC4 := hid (HC.out.below hb4)
          clear hb4 HC HMc
          obtain ⟨F, TT, LL, qs, ga, gc, ts, gb, gd⟩ := hG
          simp only [agB, clB]
          obtain ⟨W6, hW6⟩ : ∃ W, W = w4.alloc (.cells #[.int .i64 F, .int .i64 TT, .int .i64 LL, .slice ga qs.length gc, .slice gb ts.length gd] 36) := ⟨_, rfl⟩
          have HC6 := hid (HC4.out.below (two_new hW6).1)
          go_upto_region 24 with fail
          rw [← hW6]
          clear hW6 HC4
          by_cases hok : okM b R
          · have HOk : Hid (okB b R = true) := decide_eq_true hok
            rw [HOk.out]
            have HAns : Hid (Ans b bs (idx wv qv bs)) := .inr ⟨l, qv, h2, i1, HCg.out.2 hok, HA.out, fun q' hq => HFs.out q' hq, by rw [HWv.out]⟩
            go_wp2
            go_ret
            exact ⟨_, _, rfl, HAns.out, by rw [← HLg.out]; exact HC6.out.ints, HC6.out.bel⟩
          · have HOk : Hid (okB b R = false) := decide_eq_false hok
            rw [HOk.out]
            have HM2 := hid (HNx.out (fun _ h => hok (HCg.out.1 h)))
            have HB6 := hid HC6.out.bel
            go_wp2
            go_roundw
            case rel => exact ⟨k + 1, by omega, by go_num, HM2, HB6⟩
            case measure => simp [intOf]; omega
        obtain ⟨bb', off', hbe, hbl', hcc, t1⟩ := (HR.out.below HC.out.bel).at2 m (by rw [HN.out]; exact hmn)
        cases hbe
        obtain ⟨c0, c1, c2, c3, c4⟩ := hcc
        have hncr := HNc.out m (by rw [HN.out]; exact hmn)
        have hlev := HLl.out m (by rw [HN.out]; exact hmn) hLe
        have HIx := hid (idxK_next (W := wv) (q := qv) (bs := bs) (k := m))
        have HGx := hid (grpK_next (W := wv) (q := qv) (bs := bs) (k := m) (by rw [HN.out]; exact hmn))
        have hpF := (HGK.out.2.2 m (by rw [HN.out]; exact hmn)).2.1.1.1
        generalize bs.getD m k0 = p at *
        have i3 : (m : Int) < (n : Int) := by omega
        obtain ⟨W5, hW5⟩ : ∃ W, W = wr.alloc (.cells #[.int .i64 p.F, .int .i64 p.T, .int .i64 p.L, .slice p.a p.qs.length p.c, .slice p.b p.ts.length p.d] 36) := ⟨_, rfl⟩
        obtain ⟨hba, hbx⟩ := two_new hW5
        have HC5 := hid (HC.out.below hba)
        have HX5 := hid hbx
        have HLo : Hid ((∀ g, (Value.slice a1 L.length e1).ownBlock = some g → g < wr.heap.size) ∧ (∀ g, (Value.slice a2 R.length e2).ownBlock = some g → g < wr.heap.size)) := ⟨fun g hg => (HC.out.ints.lt g hg).2, fun g hg => (HC.out.blks.lt g hg).2⟩
        clear hba hbx t1 hbl'
        go_upto_region 17 with fail
        rw [← hW5]
        clear hW5 c0 c1 c2 c3 c4
        generalize hBX : wr.heap.size = BX at *
        clear hBX
        obtain ⟨x0, x1, x2, x3, x4⟩ := five HX5.out
        by_cases hA : p.F / wv = qv
        rotate_left
        · have HLR2 : Hid (L = (idxK wv qv bs (m + 1)).map Int.ofNat ∧ R = grpK wv qv bs (m + 1)) := by
            unfold Hid
            rw [HIx.out, HGx.out, if_neg hA, if_neg hA, List.append_nil, List.append_nil]
            exact HLR.out
          have hnA : ¬ (fv ≤ p.F ∧ p.F < fv + wv) := fun h => hA ((div_iff hW.1).2 (by rw [← HFv.out]; exact h))
          by_cases hlow : p.F < fv
          · have hTp : ¬ fv < p.T := fun h => hncr ⟨hlow, h⟩
            have hge : ¬ fv ≤ p.F := by omega
            clear hncr hnA hlev
            go_wp2
            go_roundw
            case rel => exact ⟨m + 1, L, R, a1, a2, e1, e2, by omega, by go_num, rfl, rfl, rfl, by omega, by omega, HLR2, HC5⟩
            case measure => simp [intOf]; omega
          · have hge : fv ≤ p.F := by omega
            have hhi : ¬ p.F < fv + wv := fun h => hnA ⟨hge, h⟩
            clear hncr hnA hlev
            go_wp2
            go_roundw
            case rel => exact ⟨m + 1, L, R, a1, a2, e1, e2, by omega, by go_num, rfl, rfl, rfl, by omega, by omega, HLR2, HC5⟩
            case measure => simp [intOf]; omega
        have hA2 := (div_iff hW.1).1 hA
        rw [← HFv.out] at hA2
        have hge := hA2.1
        have hhi := hA2.2
        have hlv : p.L < (l : Int) := hlev hA
        have HLR2 : Hid (L ++ [(m : Int)] = (idxK wv qv bs (m + 1)).map Int.ofNat ∧ R ++ [p] = grpK wv qv bs (m + 1)) := by
          unfold Hid
          rw [HIx.out, HGx.out, if_pos hA, if_pos hA, ← HLR.out.2, List.map_append, ← HLR.out.1]
          exact ⟨rfl, rfl⟩
        clear hncr hlev hA hA2 HIx HGx
        have hba := (Below.refl W5.heap.size W5).alloc (Nat.le_refl _) (.cells #[.int .i64 (m : Int)] 3)
        have HA5 := hid (HC5.out.below hba)
        have HXa := hid (kept HX5.out hba)
        clear hba
        go_wp2_with (at_builtin; refine wpList_append_own _ rfl (.tmp 83) (.tmp 85) 24 rfl w.heap.size 3 i0 (.int .i64 0) 1 8 Tryz.underlying24 hi hz0 hz1 hz2 rfl (by decide) _ _ _ rfl HA5.out.ints ⟨W5.heap.size, 0, none⟩ 1 1 [.int .i64 (m : Int)] rfl rfl ?d1 ?d2 ?d3 ?d4 ?d5 ?_)
        case d1 => intro j u hj; exact one_row _ _ _ j u hj
        case d2 => intro u hu; simp at hu; subst hu; rfl
        case d3 => unfold maxLen; omega
        case d4 => omega
        case d5 => have h5 := HC5.out.bel.size; first | omega | (simp; omega)
        intro v1 w6 hown1 hgr1 _
        obtain ⟨a8, c8, rfl⟩ := Ino.own_form (L := L ++ [(m : Int)]) (by simpa using hown1)
        have HC6 := hid (HA5.out.int hgr1 hown1)
        have HX6 := hid ((hgr1.block BX (lt_at HXa.out) (fun e => by have := HLo.out.1 BX e.symm; omega)).trans HXa.out)
        clear hown1 hgr1 HA5 HXa x0 x1 x2 x3 x4 HX5 HC5
        obtain ⟨x0, x1, x2, x3, x4⟩ := five HX6.out
        have hba := (Below.refl w6.heap.size w6).alloc (Nat.le_refl _) (.cells #[.int .i64 p.F, .int .i64 p.T, .int .i64 p.L, .slice p.a p.qs.length p.c, .slice p.b p.ts.length p.d] 36)
        have HA7 := hid (HC6.out.below hba)
        have HXa := hid (kept HX6.out hba)
        clear hba
        go_wp2_with (at_builtin; refine wpList_append_own _ rfl (.tmp 87) (.tmp 89) 26 rfl w.heap.size 36 j0 (.agg #[.int .i64 0, .int .i64 0, .int .i64 0, .slice none 0 0, .slice none 0 0]) 5 72 Tryz.underlying26 ji jz0 jz1 jz2 rfl (by decide) _ _ _ rfl HA7.out.blks ⟨w6.heap.size, 0, none⟩ 1 1 (clK p) rfl rfl ?d1 ?d2 ?d3 ?d4 ?d5 ?_)
        case d1 => exact five_nw w6 _ _ _ _ _ _
        case d2 => (intro u hu; simp [clK] at hu; rcases hu with rfl | rfl | rfl | rfl | rfl <;> rfl)
        case d3 => unfold maxLen; omega
        case d4 => omega
        case d5 => have h5 := HC6.out.bel.size; first | omega | (simp; omega)
        intro v2 w7 hown2 hgr2 _
        obtain ⟨a9, c9, rfl⟩ := Smp.own_form hown2
        have HC7 := hid (HA7.out.blk hgr2 hown2)
        have HX7 := hid ((hgr2.block BX (lt_at HXa.out) (fun e => by have := HLo.out.2 BX e.symm; omega)).trans HXa.out)
        clear hown2 hgr2 HA7 HXa x0 x1 x2 x3 x4 HX6 HC6
        obtain ⟨x0, x1, x2, x3, x4⟩ := five HX7.out
        go_wp2
        go_roundw
        case rel => exact ⟨m + 1, L ++ [(m : Int)], R ++ [p], a8, a9, c8, c9, by omega, by go_num, rfl, by simp, by simp, by simp; omega, by simp; omega, HLR2, by unfold Hid; simpa using HC7.out⟩
        case measure => simp [intOf]; omega
end Go.Proofs.YtjhdmghpklagkaaGreat.Pln
