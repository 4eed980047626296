/- The model's l10Compact. -/
import Derived.Test.YtjhdmghpklagkaaGreatD52
namespace Go.Proofs.YtjhdmghpklagkaaGreat.Pln
open Go.RowKit
open Go.Proofs.YtjhdmghpklagkaaGreat.Smp (own_form)
open Go.Proofs.YtjhdmghpklagkaaGreat.Srs (hid lt_at kept q0)
open Go.Proofs.YtjhdmghpklagkaaGreat.Blk
open Go.Proofs.YtjhdmghpklagkaaGreat.Mgb
open Go.Proofs.YtjhdmghpklagkaaGreat.Shf (wid BadW)

structure Lq (b : Int) (bs : List Bk) (a : Option Addr) (n c : Nat) (A R : List Bk) (w : World) : Prop where
  has : HasK w a R
  rlen : R.length = n
  cap : n ≤ c
  fit : FitK R
  sml : SmlK R
  len : A.length = n
  same : SameK n A R
  good : GoodK b A
  cmp : ∀ r, Cmp b A r → Cmp b bs r
theorem Lq.below {b : Int} {bs : List Bk} {a : Option Addr} {n c : Nat} {A R : List Bk} {w w' : World} (h : Lq b bs a n c A R w) (hb : Below w.heap.size w w') : Lq b bs a n c A R w' := ⟨h.has.below hb, h.rlen, h.cap, h.fit, h.sml, h.len, h.same, h.good, h.cmp⟩
theorem Lq.goodR {b : Int} {bs : List Bk} {a : Option Addr} {n c : Nat} {A R : List Bk} {w : World} (h : Lq b bs a n c A R w) : GoodK b R := h.same.good h.len h.rlen h.good
theorem ans_stp {b : Int} {R : List Bk} {z : List Nat} (g : GoodK b R) (h : Pln.Ans b R z) (hz : z ≠ []) : ∃ L q s e, Stp b L q R s e ∧ z = List.range' s (e - s) ∧ e < R.length := by
  rcases h with ⟨h, _⟩ | ⟨L, q, h2, h4, hc, hl, hq, rfl⟩
  · exact absurd h hz
  · have hW := wid_pos' g.1 (L := L) (by omega) h4
    have key : ∀ m, m ≤ R.length → ∃ s e, s ≤ e ∧ e ≤ m ∧ (∀ i, i < m → ((R.getD i k0).F / wid b L = q ↔ s ≤ i ∧ i < e)) ∧ (∀ i, e ≤ i → i < m → q < (R.getD i k0).F / wid b L) ∧ (∀ i, i < s → (R.getD i k0).F / wid b L < q) := by
      intro m
      induction m with
      | zero => intro _; exact ⟨0, 0, Nat.le_refl _, Nat.le_refl _, fun i hi => by omega, fun i _ hi => by omega, fun i hi => by omega⟩
      | succ m ih =>
        intro hm
        obtain ⟨s, e, k1, k2, k3, k4, k5⟩ := ih (by omega)
        have mono : ∀ i, i ≤ m → (R.getD i k0).F / wid b L ≤ (R.getD m k0).F / wid b L := fun i hi => div_mono hW.1 (F_mono g hi (by omega))
        rcases Int.lt_trichotomy ((R.getD m k0).F / wid b L) q with hlt | heq | hgt
        · refine ⟨m + 1, m + 1, Nat.le_refl _, Nat.le_refl _, fun i hi => ⟨fun h => ?_, fun h => by omega⟩, fun i h1 h2 => by omega, fun i hi => ?_⟩
          · have := mono i (by omega); omega
          · have := mono i (by omega); omega
        · by_cases hse : s < e
          · have hem : e = m := by
              rcases Nat.lt_or_ge e m with h | h
              · have := k4 e (Nat.le_refl _) h; have := mono e (by omega); omega
              · omega
            subst hem
            refine ⟨s, e + 1, by omega, Nat.le_refl _, fun i hi => ?_, fun i h1 h2 => by omega, k5⟩
            by_cases c1 : i = e
            · subst c1; exact ⟨fun _ => ⟨by omega, by omega⟩, fun _ => heq⟩
            · have := k3 i (by omega)
              exact ⟨fun h => by have := this.1 h; omega, fun h => this.2 ⟨h.1, by omega⟩⟩
          · have low : ∀ i, i < m → (R.getD i k0).F / wid b L < q := fun i hi => by
              have h1 := mono i (by omega)
              have h3 := k3 i hi
              rcases Int.lt_or_eq_of_le (show (R.getD i k0).F / wid b L ≤ q by omega) with h | h
              · exact h
              · have := h3.1 h; omega
            refine ⟨m, m + 1, by omega, Nat.le_refl _, fun i hi => ⟨fun h => ?_, fun h => ?_⟩, fun i h1 h2 => by omega, low⟩
            · rcases Nat.lt_or_ge i m with h' | h'
              · have := low i h'; omega
              · omega
            · have : i = m := by omega
              rw [this]; exact heq
        · refine ⟨s, e, k1, by omega, fun i hi => ?_, fun i h1 h2 => ?_, k5⟩
          · by_cases c1 : i = m
            · subst c1; exact ⟨fun h => by omega, fun h => by omega⟩
            · exact k3 i (by omega)
          · by_cases c1 : i = m
            · subst c1; exact hgt
            · exact k4 i h1 (by omega)
    obtain ⟨s, e, k1, k2, k3, k4, k5⟩ := key R.length (Nat.le_refl _)
    obtain ⟨j, hj, _, hjq⟩ := hc.1
    have hje := (k3 j hj).1 hjq
    have gr : Gr b L R s e q := ⟨by omega, k2, k3, k4⟩
    refine ⟨L, q, s, e, ⟨h2, h4, hc, hl, hq, gr⟩, idx_cut k1 k2 k3, ?_⟩
    exact ((cand_iff g h2 h4 gr).1 hc).2.1
end Go.Proofs.YtjhdmghpklagkaaGreat.Pln
namespace Go.Proofs.YtjhdmghpklagkaaGreat.Pln
open Go.RowKit
open Go.Proofs.YtjhdmghpklagkaaGreat.Smp (own_form)
open Go.Proofs.YtjhdmghpklagkaaGreat.Srs (hid lt_at kept q0)
open Go.Proofs.YtjhdmghpklagkaaGreat.Blk
open Go.Proofs.YtjhdmghpklagkaaGreat.Mgb
open Go.Proofs.YtjhdmghpklagkaaGreat.Shf (wid BadW)

theorem flat_src {x : World} {bb off : Nat} {R : List Bk} (h : HasK x (some ⟨bb, off, none⟩) R) : ∀ j v, (flatK R)[j]? = some v → x.cell? ⟨bb, off + j, none⟩ = some v := by
  intro j v hj
  have hl : j < R.length * 5 := by
    have := (List.getElem?_eq_some_iff.1 hj).1
    rwa [flatK_len] at this
  obtain ⟨b', o', e, _, ⟨c0, c1, c2, c3, c4⟩, _⟩ := h.at2 (j / 5) (by omega)
  cases e
  obtain ⟨g0, g1, g2, g3, g4⟩ := flatK_get R (j / 5) (by omega)
  rcases (show j % 5 = 0 ∨ j % 5 = 1 ∨ j % 5 = 2 ∨ j % 5 = 3 ∨ j % 5 = 4 by omega) with k | k | k | k | k
  · have e : j = j / 5 * 5 := by omega
    rw [e] at hj ⊢; rw [g0] at hj; rw [← hj]; exact c0
  · have e : j = j / 5 * 5 + 1 := by omega
    rw [e] at hj ⊢; rw [g1] at hj; rw [← hj, ← Nat.add_assoc]; exact c1
  · have e : j = j / 5 * 5 + 2 := by omega
    rw [e] at hj ⊢; rw [g2] at hj; rw [← hj, ← Nat.add_assoc]; exact c2
  · have e : j = j / 5 * 5 + 3 := by omega
    rw [e] at hj ⊢; rw [g3] at hj; rw [← hj, ← Nat.add_assoc]; exact c3
  · have e : j = j / 5 * 5 + 4 := by omega
    rw [e] at hj ⊢; rw [g4] at hj; rw [← hj, ← Nat.add_assoc]; exact c4
theorem src_take {x : World} {bb off s : Nat} {R : List Bk} (h : HasK x (some ⟨bb, off, none⟩) R) (hs : s ≤ R.length) : ∀ j v, (flatK (R.take s))[j]? = some v → x.cell? ((⟨bb, off, none⟩ : Addr).add j) = some v := by
  intro j v hj
  rw [Smp.add_none]
  rw [← flatK_take R s hs, List.getElem?_take] at hj
  split at hj
  · exact flat_src h j v hj
  · simp at hj
theorem src_drop {x : World} {bb off e : Nat} {R : List Bk} (h : HasK x (some ⟨bb, off, none⟩) R) (he : e ≤ R.length) : ∀ j v, (flatK (R.drop e))[j]? = some v → x.cell? ((⟨bb, off + e * 5, none⟩ : Addr).add j) = some v := by
  intro j v hj
  rw [Smp.add_none]
  rw [← flatK_drop R e he, List.getElem?_drop] at hj
  rw [Nat.add_assoc]
  exact flat_src h _ v hj
theorem step_app {P : Program} {ops : Array Oper} {o : Oper} {a : Act} {w : World} {K : Act → World → Prop} {Q : Exit → Act → World → Prop} {E : Prop}
    (hg : o.guard = none) (s x : Operand) (t : TypeId) (hop : o.op = Op.call { callee := Callee.builtin Builtin.append, args := #[s, x], argTypes := #[t, t] })
    (base : Nat) (e : TypeId) (i : TypeInfo) (z : Value) (size bytes : Nat) (h1 : P.underlying t = some (.slice e)) (h2 : P.info? e = some i) (h3 : i.zero = some z) (h4 : i.size = size) (h5 : i.bytes = bytes) (h6 : z.cells.size = size) (h7 : 0 < size)
    (ao : Option Addr) (n cap : Nat) (olds : List Value) (hs : a.eval s = .slice ao n cap) (hown : w.ownsRow base e size (.slice ao n cap) n olds)
    (ad : Addr) (m c : Nat) (news : List Value) (hx : a.eval x = .slice (some ad) m c) (hn : news.length = m * size) (hc : ∀ j u, news[j]? = some u → w.cell? (ad.add j) = some u) (h1c : ∀ u ∈ news, u.oneCell' = true)
    (b1 : n + m ≤ maxLen) (b2 : (n + m) * bytes ≤ 140737488355328) (hbase : base ≤ w.heap.size)
    (hK : ∀ ao' c' w', w'.ownsRow base e size (.slice ao' (n + m) c') (n + m) (olds ++ news) → w.grownBy w' (Value.slice ao n cap).ownBlock → K (a.put o.dst (.slice ao' (n + m) c')) w') :
    if Region.wanted o (yielded ops a.tmps) = true then Oper.wp P o a w K Q else E := by
  have hw : Region.wanted o (yielded ops a.tmps) = true := by simp [Region.wanted, hg]
  rw [if_pos hw]
  obtain ⟨v', w', hrun, r1, r2, _⟩ := run_append_own_at (P := P) w base t o.type e i z size bytes h1 h2 h3 h4 h5 h6 h7 (.slice ao n cap) n olds hown ad m c news hn hc h1c b1 b2 hbase
  obtain ⟨ao', c', rfl⟩ := Smp.own_form r1
  unfold Oper.wp
  simp [execOp, hop, resolve, invoke, builtin, hs, hx, hrun, Result.andThen]
  exact hK ao' c' w' r1 r2
theorem Lq.mz {b : Int} {bs : List Bk} {a : Option Addr} {n c : Nat} {A R : List Bk} {w : World} (h : Lq b bs a n c A R w) : Pln.mz (.slice a n c) w = mu R := mz_eq h.has h.rlen
theorem Lq.rpl {b L q : Int} {bs : List Bk} {a a' : Option Addr} {n c c' s e X : Nat} {A R : List Bk} {hG : Bk} {wr x : World} (h : Lq b bs a n c A R wr) (hS : Stp b L q R s e) (hs : SameB (mbk b (grp (wid b L) q R)) hG) (hen : e < n) (hh : HasB x hG) (hb : Below wr.heap.size wr x)
    (hr : x.ownsRow X 36 5 (.slice a' (s + 1 + (n - e)) c') (s + 1 + (n - e)) (flatK (Pln.rpl s e hG R))) (hf : FitB hG) (hz : SmlB hG) : Lq b bs a' (s + 1 + (n - e)) c' (Pln.rpl s e (mbk b (grp (wid b L) q A)) A) (Pln.rpl s e hG R) x ∧ mu (Pln.rpl s e hG R) < mu R := by
  have st := step_same h.same h.len h.rlen h.good hS hs
  have hse := hS.gr.se
  have hl := h.rlen
  have hget := rpl_get (s := s) (e := e) (h := hG) (bs := R) hse (by omega)
  have hlen := rpl_len (s := s) (e := e) (h := hG) (bs := R) hse (by omega)
  have hB : ∀ i, i < n → HasB x (R.getD i k0) := fun i hi => by
    obtain ⟨_, _, _, _, _, h5⟩ := h.has.at2 i (by omega)
    exact h5.below hb
  refine ⟨⟨?_, by rw [hlen, hl], row_cap hr, fun k => ?_, fun k hk => ?_, by rw [rpl_len hse (by rw [h.len]; omega), h.len], st.1, st.2.1, fun r hr => h.cmp r (st.2.2.2 r hr)⟩, st.2.2.1⟩
  · rcases hr.2 with ⟨_, h2⟩ | ⟨g, cap, cur, h1, _⟩
    · omega
    · have hr' := hr
      simp only [Value.slice.injEq] at h1
      obtain ⟨rfl, -, rfl⟩ := h1
      refine ownK_has hr' fun k hk => ?_
      rw [hlen, hl] at hk
      rw [hget k]
      by_cases c1 : k < s
      · rw [if_pos c1]; exact hB k (by omega)
      · rw [if_neg c1]
        by_cases c2 : k = s
        · rw [if_pos c2]; exact hh
        · rw [if_neg c2]; exact hB _ (by omega)
  · rw [hget k]
    by_cases c1 : k < s
    · rw [if_pos c1]; exact h.fit k
    · rw [if_neg c1]
      by_cases c2 : k = s
      · rw [if_pos c2]; exact hf
      · rw [if_neg c2]; exact h.fit _
  · rw [hlen, hl] at hk
    rw [hget k]
    by_cases c1 : k < s
    · rw [if_pos c1]; exact h.sml k (by omega)
    · rw [if_neg c1]
      by_cases c2 : k = s
      · rw [if_pos c2]; exact hz
      · rw [if_neg c2]; exact h.sml _ (by omega)
theorem rng_get {s e i : Nat} (hi : i < e - s) : ((List.range' s (e - s)).map Int.ofNat).getD i 0 = ((s + i : Nat) : Int) := by
  simp [hi]
set_option maxRecDepth 10000 in
set_option maxHeartbeats 8000000 in
theorem f44 (b : Int) (a : Option Addr) (n c : Nat) (bs : List Bk) (w : World) (g : GoodK b bs) (hn : bs.length = n) (hr : HasK w a bs) (hf : FitK bs) (hz : SmlK bs)
    (hcap : ∀ i, i < n → ∀ j, j < (bs.getD i k0).qs.length → ((bs.getD i k0).qs.getD j q0).d = ((bs.getD i k0).qs.getD j q0).s.length) :
    Calls Tryz.prog 44 #[.int .i64 b, .slice a n c] w fun e w' => ∃ (a' : Option Addr) (n' c' : Nat) (A R : List Bk), e = .returned (.slice a' n' c') ∧ Hid (Cmp b bs A ∧ A.length = n' ∧ R.length = n' ∧ SameK n' A R ∧ HasK w' a' R ∧ SmlK R) ∧ Below w.heap.size w w' := by
  obtain ⟨j0, ji, jz0, jz1, jz2⟩ := info_parts infoK
  have HGK := hid g
  have hn100 : n ≤ 100 := by rw [← hn]; exact g.2.1
  have HCc := hid (f77 a n c bs w hn hn100 hr (fun i hi => good_cpb (g.2.2 i (by rw [hn]; exact hi)).2.1 (hz i (by rw [hn]; exact hi)) (hcap i hi)))
  have HI : Hid (∀ (R : List Bk), R.length = n → SameK n bs R → FitK R ∧ SmlK R) := fun R h1 h2 => ⟨h2.fit h1 hf, h2.sml h1 hn hz⟩
  have HN := hid hn
  clear hn hr hf hz hcap g
  go_enter Tryz.func44, Tryz.ntmps44
  go_wp2_with fail
  refine HCc.out.mono ?_
  rintro e w1 ⟨a1, c1, R1, rfl, hh, hb1⟩
  have HL1 : Hid (Lq b bs a1 n c1 bs R1 w1) := ⟨hh.out.2.2.1, hh.out.1, hh.out.2.2.2, (HI.out R1 hh.out.1 hh.out.2.1).1, (HI.out R1 hh.out.1 hh.out.2.1).2, HN.out, hh.out.2.1, HGK.out, fun r h => h⟩
  have HB1 := hid hb1
  clear hh hb1 HCc HI
  have HPl := hid (f35 b a1 n c1 R1 w1 HL1.out.goodR HL1.out.rlen HL1.out.has HL1.out.fit HL1.out.sml)
  go_wp2_with fail
  refine HPl.out.mono ?_
  rintro e w2 ⟨z, v, rfl, hA, hO, hb2⟩
  have HL2 := hid (HL1.out.below hb2)
  have HZ2 : Hid (Pln.Ans b R1 z ∧ Ino.Own w2 w1.heap.size v (z.map Int.ofNat)) := ⟨hA, hO⟩
  have HB2 := hid (HB1.out.trans (hb2.mono HB1.out.size))
  clear hA hO hb2 HPl HL1 HB1
  go_wp2
  go_loopw [1, 5] (fun s1 s5 wr => ∃ (a' : Option Addr) (n' c' : Nat) (A R : List Bk) (z : List Nat) (v : Value) (X : Nat), s1 = .slice a' n' c' ∧ s5 = v ∧ n' ≤ 100 ∧ Hid (Lq b bs a' n' c' A R wr) ∧ Hid (Pln.Ans b R z ∧ Ino.Own wr X v (z.map Int.ofNat)) ∧ Hid (Below w.heap.size w wr)) (fun s1 _ wr => mz s1 wr)
  case atStart => exact ⟨a1, n, c1, bs, R1, z, v, _, rfl, rfl, hn100, HL2, HZ2, HB2⟩
  case round =>
    clear HL2 HZ2 HB2
    obtain ⟨a', n', c', A, R, z, v, X, rfl, hv, hn', HL, HZ, HX⟩ := hrel
    have hv' := hv.symm
    subst hv'
    clear hv
    obtain ⟨ap, cp, rfl⟩ : ∃ ap cp, v = .slice ap z.length cp := by
      rcases HZ.out.2.form with ⟨h1, h2⟩ | ⟨g, c, h2⟩
      · have : z.length = 0 := by simpa using congrArg List.length h1
        exact ⟨none, 0, by rw [this]; exact h2⟩
      · exact ⟨some ⟨g, 0, none⟩, c, by rw [List.length_map] at h2; exact h2⟩
    have hzl : z.length ≤ 100 := by
      have h1 := ans_len HZ.out.1
      rw [HL.out.rlen] at h1
      omega
    by_cases hz0 : z.length = 0
    · have HE : Hid (Cmp b bs A ∧ A.length = n' ∧ R.length = n' ∧ SameK n' A R ∧ HasK wr a' R ∧ SmlK R) := by
        have hnil : z = [] := List.eq_nil_of_length_eq_zero hz0
        have hC : Cmp b A A := .done (fun L q h1 h2 cc => by
          have cR := (cand_same HL.out.same HL.out.len HL.out.rlen HL.out.good).2 cc
          rcases HZ.out.1 with ⟨_, h⟩ | ⟨L', q', h3, h4, h5, _, _, h6⟩
          · exact h L q h1 h2 cR
          · obtain ⟨j, hj, _, hq⟩ := h5.1
            have : j ∈ idx (wid b L') q' R := by unfold idx; rw [List.mem_filter]; exact ⟨List.mem_range.2 hj, by simpa using hq⟩
            rw [← h6, hnil] at this
            simp at this)
        exact ⟨HL.out.cmp A hC, HL.out.len, HL.out.rlen, HL.out.same, HL.out.has, HL.out.sml⟩
      rw [hz0]
      go_wp2
      go_ret
      exact ⟨a', n', c', A, R, rfl, HE, HX.out⟩
    obtain ⟨L, q, s, e, hS, hze, hen⟩ := ans_stp HL.out.goodR HZ.out.1 (fun h => hz0 (by rw [h]; rfl))
    have HS := hid hS
    have hse : s < e := hS.gr.se
    rw [HL.out.rlen] at hen
    have hzn : z.length = e - s := by rw [hze]; simp
    have HZe := hid hze
    clear hS hze
    obtain ⟨bp, offp, hap, hpl, hpc⟩ : ∃ bp offp, ap = some ⟨bp, offp, none⟩ ∧ bp < wr.heap.size ∧ ∀ i, i < (z.map Int.ofNat).length → wr.cell? ⟨bp, offp + i, none⟩ = some (.int .i64 ((z.map Int.ofNat).getD i 0)) := by
      rcases HZ.out.2.has.2 with h | h
      · exact absurd (by simpa using congrArg List.length h) hz0
      · exact h
    subst hap
    have d0 : wr.cell? ⟨bp, offp, none⟩ = some (.int .i64 (s : Int)) := by
      have h := hpc 0 (by rw [List.length_map]; omega)
      rw [HZe.out, rng_get (by omega)] at h
      simpa using h
    have d1 : wr.cell? ⟨bp, offp + (z.length - 1), none⟩ = some (.int .i64 ((e : Int) - 1)) := by
      have h := hpc (z.length - 1) (by rw [List.length_map]; omega)
      rw [h, hzn, HZe.out, rng_get (by omega), show s + (e - s - 1) = e - 1 by omega, show ((e - 1 : Nat) : Int) = (e : Int) - 1 by omega]
    have i1 : (0 : Int) < (z.length : Int) := by omega
    obtain ⟨bb, off, rfl, hbl, -, -⟩ := HL.out.has.at2 0 (by rw [HL.out.rlen]; omega)
    have hcc : n' ≤ c' := HL.out.cap
    have HZn := hid hzn
    clear hpc hpl hbl hzn
    have q1 : (s : Int) ≤ (e : Int) := by omega
    have q2 : (e : Int) ≤ (c' : Int) := by omega
    have q3 : ¬ c' = s := by omega
    have HGc := hid (grp_cut (W := wid b L) (Nat.le_of_lt hse) (by rw [HL.out.rlen]; omega) HS.out.gr.iff)
    have HSub : Hid ((grp (wid b L) q R).length = e - s) := by unfold Hid; rw [HGc.out, List.length_take, List.length_drop, HL.out.rlen]; omega
    have HMc := hid (fun x hx => f40 b (some ⟨bb, off + s * 5, none⟩) (e - s) (c' - s) (grp (wid b L) q R) x (good_filter HL.out.goodR _) HSub.out hx (fit_filter _ HL.out.fit) (sml_filter _ HL.out.sml))
    have HRs : Hid (HasK wr (some ⟨bb, off + s * 5, none⟩) (grp (wid b L) q R)) := by unfold Hid; rw [HGc.out]; exact has_cut HL.out.has
    go_wp2_with fail
    refine (HMc.out _ HRs.out).mono ?_
    rintro e4 w3 ⟨hG, rfl, hh, hb3⟩
    have HH := hid (hh.out HS.out.cand.2.2)
    have HB3 := hid hb3
    clear hh hb3 HMc HRs d0 d1
    have HOk : Hid (okB b (grp (wid b L) q R) = true) := decide_eq_true HS.out.cand.2.2
    rw [HOk.out]
    have HFt := hid (mg_fit (good_filter HL.out.goodR _) (fit_filter _ HL.out.fit) HS.out.cand.2.2 HH.out.1 HH.out.2.ts)
    have HSs := hid (step_same HL.out.same HL.out.len HL.out.rlen HL.out.good HS.out HH.out.1)
    obtain ⟨F, TT, LL, qs, ga, gc, ts, gb, gd⟩ := hG
    simp only [agB, clB]
    obtain ⟨W4, hW4⟩ : ∃ W, W = w3.alloc (.cells #[.int .i64 F, .int .i64 TT, .int .i64 LL, .slice ga qs.length gc, .slice gb ts.length gd] 36) := ⟨_, rfl⟩
    obtain ⟨hba, hbx⟩ := two_new hW4
    have HX4 := hid hbx
    have HBa := hid hba
    clear hba hbx
    go_upto_region 9 with fail
    rw [← hW4]
    clear hW4
    obtain ⟨x0, x1, x2, x3, x4⟩ := five HX4.out
    have hb34 : Below wr.heap.size wr W4 := HB3.out.trans (HBa.out.mono HB3.out.size)
    have HHk : Hid (∀ x, Below W4.heap.size W4 x → HasK x (some ⟨bb, off, none⟩) R) := fun x hx => HL.out.has.below (hb34.trans (hx.mono hb34.size))
    have HT1 : Hid (∀ x, Below W4.heap.size W4 x → ∀ j v, (flatK (R.take s))[j]? = some v → x.cell? ((⟨bb, off, none⟩ : Addr).add j) = some v) := fun x hx => src_take (HHk.out x hx) (by rw [HL.out.rlen]; omega)
    have HT2 : Hid (∀ x, Below W4.heap.size W4 x → ∀ j v, (flatK (R.drop e))[j]? = some v → x.cell? ((⟨bb, off + e * 5, none⟩ : Addr).add j) = some v) := fun x hx => src_drop (HHk.out x hx) (by rw [HL.out.rlen]; omega)
    have HT3 : Hid ((flatK (R.take s)).length = s * 5 ∧ (flatK (R.drop e)).length = (n' - e) * 5) := by
      unfold Hid
      rw [flatK_len, flatK_len, List.length_take, List.length_drop, HL.out.rlen]
      exact ⟨by rw [Nat.min_eq_left (by omega)], rfl⟩
    have HO1 := hid (flatK_one (R.take s))
    have HO2 := hid (flatK_one (R.drop e))
    have HO3 := hid (cl_ones ⟨F, TT, LL, qs, ga, gc, ts, gb, gd⟩)
    have HD0 : Hid (Below W4.heap.size W4 W4.drew) := below_drew W4
    have HD1 : Hid (Below W4.heap.size W4 (W4.drew.alloc (.cells #[.int .i64 F, .int .i64 TT, .int .i64 LL, .slice ga qs.length gc, .slice gb ts.length gd] 36))) := HD0.out.alloc (Nat.le_refl _) _
    have HN5 := hid (fun x : World => five_nw x (.int .i64 F) (.int .i64 TT) (.int .i64 LL) (.slice ga qs.length gc) (.slice gb ts.length gd) 36)
    have hb34s : W4.heap.size ≤ W4.heap.size := Nat.le_refl _
    have M1 : 0 + s ≤ maxLen := by unfold maxLen; omega
    have M2 : (0 + s) * 72 ≤ 140737488355328 := by omega
    have M3 : s + 1 ≤ maxLen := by unfold maxLen; omega
    have M4 : (s + 1) * 72 ≤ 140737488355328 := by omega
    have M5 : s + 1 + (n' - e) ≤ maxLen := by unfold maxLen; omega
    have M6 : (s + 1 + (n' - e)) * 72 ≤ 140737488355328 := by omega
    have p1 : (0 : Int) ≤ (s : Int) := by omega
    have p2 : (s : Int) ≤ (c' : Int) := by omega
    have p3 : (0 : Int) ≤ (e : Int) := by omega
    have p4 : (e : Int) ≤ (n' : Int) := by omega
    have p5 : (n' : Int) ≤ (c' : Int) := by omega
    have p6 : ¬ c' = e := by omega
    have p7 : s ≤ c' := by omega
    have p8 : e ≤ n' := by omega
    go_region_law (first | (refine step_app rfl (.tmp 41) (.tmp 44) 26 rfl W4.heap.size 36 j0 (.agg #[.int .i64 0, .int .i64 0, .int .i64 0, .slice none 0 0, .slice none 0 0]) 5 72 Tryz.underlying26 ji jz0 jz1 jz2 rfl (by decide) none 0 0 [] (by go_simp) (World.ownsRow_nil _ _ _ _) ⟨bb, off, none⟩ s c' (flatK (R.take s)) (by go_simp) HT3.out.1 (HT1.out _ HD0.out) HO1.out M1 M2 HD0.out.size ?_; intro a45 c45 w45 ho45 hg45; have hb45 : Below W4.heap.size W4 w45 := HD0.out.grown hg45 HD0.out.size (fun k hk => by cases hk); rw [Nat.zero_add, List.nil_append] at ho45; obtain ⟨y0, y1, y2, y3, y4⟩ := five (kept HX4.out hb45)) | (refine step_app rfl (.tmp 41) (.tmp 44) 26 rfl W4.heap.size 36 j0 (.agg #[.int .i64 0, .int .i64 0, .int .i64 0, .slice none 0 0, .slice none 0 0]) 5 72 Tryz.underlying26 ji jz0 jz1 jz2 rfl (by decide) none 0 0 [] (by go_simp) (World.ownsRow_nil _ _ _ _) ⟨bb, off, none⟩ s c' (flatK (R.take s)) (by go_simp) HT3.out.1 (HT1.out _ HD1.out) HO1.out M1 M2 HD1.out.size ?_; intro a45 c45 w45 ho45 hg45; have hb45 : Below W4.heap.size W4 w45 := HD1.out.grown hg45 HD1.out.size (fun k hk => by cases hk); rw [Nat.zero_add, List.nil_append] at ho45; obtain ⟨y0, y1, y2, y3, y4⟩ := five (kept HX4.out hb45); have hc47 : ∀ j u, (clK ⟨F, TT, LL, qs, ga, gc, ts, gb, gd⟩)[j]? = some u → w45.cell? ((⟨W4.heap.size, 0, none⟩ : Addr).add j) = some u := cl_src ((hg45.block W4.heap.size (lt_at (heap_alloc_new W4.drew _)) (fun e => by cases e)).trans (heap_alloc_new W4.drew _))) | (refine step_app rfl (.tmp 45) (.tmp 47) 26 rfl W4.heap.size 36 j0 (.agg #[.int .i64 0, .int .i64 0, .int .i64 0, .slice none 0 0, .slice none 0 0]) 5 72 Tryz.underlying26 ji jz0 jz1 jz2 rfl (by decide) a45 s c45 (flatK (R.take s)) (by go_simp) (ho45.alloc _) ⟨w45.heap.size, 0, none⟩ 1 1 (clK ⟨F, TT, LL, qs, ga, gc, ts, gb, gd⟩) (by go_simp) rfl (HN5.out w45) HO3.out M3 M4 (hb45.alloc hb45.size (.cells #[.int .i64 F, .int .i64 TT, .int .i64 LL, .slice ga qs.length gc, .slice gb ts.length gd] 36)).size ?_; intro a48 c48 w48 ho48 hg48; have hb48 : Below W4.heap.size W4 w48 := (hb45.alloc hb45.size (.cells #[.int .i64 F, .int .i64 TT, .int .i64 LL, .slice ga qs.length gc, .slice gb ts.length gd] 36)).grown hg48 (hb45.alloc hb45.size (.cells #[.int .i64 F, .int .i64 TT, .int .i64 LL, .slice ga qs.length gc, .slice gb ts.length gd] 36)).size (fun k hk => (ho45.lt k hk).1)) | (refine step_app rfl (.tmp 45) (.tmp 47) 26 rfl W4.heap.size 36 j0 (.agg #[.int .i64 0, .int .i64 0, .int .i64 0, .slice none 0 0, .slice none 0 0]) 5 72 Tryz.underlying26 ji jz0 jz1 jz2 rfl (by decide) a45 s c45 (flatK (R.take s)) (by go_simp) ho45 ⟨W4.heap.size, 0, none⟩ 1 1 (clK ⟨F, TT, LL, qs, ga, gc, ts, gb, gd⟩) (by go_simp) rfl hc47 HO3.out M3 M4 hb45.size ?_; intro a48 c48 w48 ho48 hg48; have hb48 : Below W4.heap.size W4 w48 := hb45.grown hg48 hb45.size (fun k hk => (ho45.lt k hk).1)) | (refine step_app rfl (.tmp 48) (.tmp 51) 26 rfl W4.heap.size 36 j0 (.agg #[.int .i64 0, .int .i64 0, .int .i64 0, .slice none 0 0, .slice none 0 0]) 5 72 Tryz.underlying26 ji jz0 jz1 jz2 rfl (by decide) a48 (s + 1) c48 (flatK (R.take s) ++ clK ⟨F, TT, LL, qs, ga, gc, ts, gb, gd⟩) (by go_simp) ho48 ⟨bb, off + e * 5, none⟩ (n' - e) (c' - e) (flatK (R.drop e)) (by go_simp) HT3.out.2 (HT2.out _ hb48) HO2.out M5 M6 hb48.size ?_; intro a52 c52 w52 ho52 hg52; have hb52 : Below W4.heap.size W4 w52 := hb48.grown hg52 hb48.size (fun k hk => (ho48.lt k hk).1)))
    all_goals
      have hb5 : Below wr.heap.size wr w52 := hb34.trans (hb52.mono hb34.size)
      rw [← rpl_flat] at ho52
      have HLq := hid (HL.out.rpl HS.out HH.out.1 hen (((HH.out.2.below HBa.out).below hb52).has) hb5 ho52 HFt.out.1 HFt.out.2)
      have HX5 := hid (HX.out.trans (hb5.mono HX.out.size))
      clear ho52 hg52 hb52 hb5 ho48 hg48 hb48 ho45 hg45 hb45
      have HPl := hid (f35 b a52 (s + 1 + (n' - e)) c52 (rpl s e ⟨F, TT, LL, qs, ga, gc, ts, gb, gd⟩ R) w52 HLq.out.1.goodR HLq.out.1.rlen HLq.out.1.has HLq.out.1.fit HLq.out.1.sml)
      go_wp2_with fail
      refine HPl.out.mono ?_
      rintro e6 w6 ⟨z6, v6, rfl, hA6, hO6, hb6⟩
      have HL6 := hid (HLq.out.1.below hb6)
      have HZ6 : Hid (Pln.Ans b (rpl s e ⟨F, TT, LL, qs, ga, gc, ts, gb, gd⟩ R) z6 ∧ Ino.Own w6 w52.heap.size v6 (z6.map Int.ofNat)) := ⟨hA6, hO6⟩
      have HX6 := hid (HX5.out.trans (hb6.mono HX5.out.size))
      have HMz : Hid (mz (.slice a52 (s + 1 + (n' - e)) c52) w6 < mz (.slice (some ⟨bb, off, none⟩) n' c') wr) := by
        unfold Hid
        rw [HL6.out.mz, HL.out.mz]
        exact HLq.out.2
      have hn6 : s + 1 + (n' - e) ≤ 100 := by omega
      clear hA6 hO6 hb6 HPl
      go_wp2
      go_roundw
      case rel => exact ⟨_, _, _, _, _, z6, v6, _, rfl, rfl, hn6, HL6, HZ6, HX6⟩
      case measure => exact HMz.out
end Go.Proofs.YtjhdmghpklagkaaGreat.Pln
namespace Go.Proofs.YtjhdmghpklagkaaGreat.Pln
open Go.RowKit
open Go.Proofs.YtjhdmghpklagkaaGreat.Srs (hid lt_at kept q0 tot)
open Go.Proofs.YtjhdmghpklagkaaGreat.Stn (T t0 mk mk_succ)
open Go.Proofs.YtjhdmghpklagkaaGreat.Blk
open Go.Proofs.YtjhdmghpklagkaaGreat.Mgb
open Go.Proofs.YtjhdmghpklagkaaGreat.Shf (wid BadW)

theorem Cmp.good {b : Int} {bs r : List Bk} (h : Cmp b bs r) : GoodK b bs → GoodK b r := by
  induction h with
  | done _ => exact id
  | step k _ ih => exact fun g => ih (rpl_good g k.l2 k.l4 k.gr k.cand)
theorem Cmp.same {b : Int} {d r : List Bk} (h : Cmp b d r) : ∀ {n : Nat} {bs : List Bk}, SameK n bs d → bs.length = n → d.length = n → GoodK b bs → ∃ r', Cmp b bs r' ∧ r'.length = r.length ∧ SameK r.length r' r := by
  induction h with
  | done hn =>
    intro n bs s h1 h2 g
    exact ⟨bs, .done (fun L q k1 k2 c => hn L q k1 k2 ((cand_same s h1 h2 g).2 c)), by omega, by rw [h2]; exact s⟩
  | step k _ ih =>
    intro n bs s h1 h2 g
    have st := step_same s h1 h2 g k (sameB_refl _)
    have hse := k.gr.se
    have hel := k.gr.el
    obtain ⟨r', c1, c2, c3⟩ := ih st.1 (by rw [rpl_len hse (by omega), h1]) (by rw [rpl_len hse (by omega), h2]) st.2.1
    exact ⟨r', st.2.2.2 r' c1, c2, c3⟩
theorem CpA.one {b : Int} {bs A A' : List Bk} (h : CpA b bs A) (h' : CpA b bs A') : A = A' := by
  rcases h with ⟨g, rfl⟩ | ⟨g, h⟩
  · rcases h' with ⟨_, rfl⟩ | ⟨g', _⟩
    · rfl
    · exact absurd g' g
  · rcases h' with ⟨g', _⟩ | ⟨_, h'⟩
    · exact absurd g g'
    · exact h.one h'
theorem CpA.same {b : Int} {n : Nat} {bs d A : List Bk} (s : SameK n bs d) (hn : bs.length = n) (hl : d.length = n) (h : CpA b d A) : ∃ A', CpA b bs A' ∧ A'.length = A.length ∧ SameK A.length A' A := by
  rcases h with ⟨g, rfl⟩ | ⟨g, h⟩
  · exact ⟨[], .inl ⟨fun g' => g (s.good hn hl g'), rfl⟩, rfl, fun i hi => by simp at hi⟩
  · have g' := s.symm.good hl hn g
    obtain ⟨r', h1, h2, h3⟩ := h.same s hn hl g'
    exact ⟨r', .inr ⟨g', h1⟩, h2, h3⟩
theorem CpA.each {b : Int} {bs A : List Bk} (h : CpA b bs A) : A.length ≤ 100 ∧ ∀ i, i < A.length → GoodB (A.getD i k0) := by
  rcases h with ⟨_, rfl⟩ | ⟨g, h⟩
  · exact ⟨Nat.zero_le _, fun i hi => by simp at hi⟩
  · have := h.good g
    exact ⟨this.2.1, fun i hi => (this.2.2 i hi).2.1⟩
theorem mkb_good {h h' : Bk} (g : GoodB h) (s : SameB h h') : mkb h' ≤ 820000 := by
  have hq := g.2.1
  have l1 : h'.qs.length ≤ 200 := by have := hq.1; have := s.lq; omega
  have l2 : h'.ts.length ≤ 100 := by have := g.2.2.2.1; have := s.lt; omega
  have k1 : ∀ k, k ≤ h'.qs.length → tot h'.qs k ≤ 2020 * k := by
    intro k
    induction k with
    | zero => intro _; exact Nat.zero_le _
    | succ k ih =>
      intro hk
      have e := s.sq k (by have := s.lq; omega)
      have h2 := Srs.okq_mem hq (Srs.get_mem' (show k < h.qs.length by have := s.lq; omega))
      have e1 : (h'.qs.getD k q0).l = (h.qs.getD k q0).l := congrArg Prod.fst e
      have e2 : (h'.qs.getD k q0).s = (h.qs.getD k q0).s := congrArg Prod.snd e
      have a1 : (h.qs.getD k q0).l.length ≤ 20 := (Srs.good_goodP h2.1.1).1
      have a2 := (show Smp.GoodP (h.qs.getD k q0).s from of_decide_eq_true h2.2.1).1
      have := ih (by omega)
      simp only [tot]
      rw [e1, e2]
      omega
  have k2 : ∀ k, k ≤ h'.ts.length → mk h'.ts k ≤ 42 * k := by
    intro k
    induction k with
    | zero => intro _; simp [mk, Stn.tot]
    | succ k ih =>
      intro hk
      have hk' : k < h.ts.length := by have := s.lt; omega
      have e := s.st k hk'
      obtain ⟨i, hi1, hi2⟩ := (g.2.2.2.2.1 k hk').1
      have e0 := lst_zero hi2
      have a1 : (h.qs.getD i q0).l.length ≤ 20 := (Srs.good_goodP (hq.2 i hi1).1.1.1).1
      have a3 : (h.ts.getD k t0).l.length ≤ 20 := by rw [← e0]; exact a1
      have e1 : (h'.ts.getD k t0).l = (h.ts.getD k t0).l := congrArg Prod.fst e
      have := ih (by omega)
      rw [mk_succ, e1]
      omega
  unfold mkb
  have := k1 _ (Nat.le_refl _)
  have := k2 _ (Nat.le_refl _)
  omega
theorem mkK_good {n : Nat} {A R : List Bk} (s : SameK n A R) (g : ∀ i, i < n → GoodB (A.getD i k0)) : ∀ k, k ≤ n → mkK R k ≤ 820000 * k := by
  intro k
  induction k with
  | zero => intro _; exact Nat.zero_le _
  | succ k ih =>
    intro hk
    have := ih (by omega)
    have := mkb_good (g k (by omega)) (s k (by omega))
    simp only [mkK]
    omega
def GivesY (b : Int) (bs : List Bk) (w : World) (e : Ending) (w' : World) : Prop := ∃ (a : Option Addr) (n c : Nat) (A R : List Bk), e = .returned (.slice a n c) ∧ CpA b bs A ∧ A.length = n ∧ R.length = n ∧ SameK n A R ∧ HasK w' a R ∧ SmlK R ∧ Below w.heap.size w w'
set_option maxHeartbeats 4000000 in
theorem f21 (b : Int) (a : Option Addr) (n c : Nat) (bs : List Bk) (w : World) (hb0 : -9223372036854775808 ≤ b) (hb1 : b ≤ 9223372036854775807) (hn : bs.length = n) (hb : n ≤ 1048576) (hr : HasK w a bs) (hf : FitK bs) (hz : SmlK bs)
    (hcap : ∀ i, i < n → ∀ j, j < (bs.getD i k0).qs.length → ((bs.getD i k0).qs.getD j q0).d = ((bs.getD i k0).qs.getD j q0).s.length) :
    Calls Tryz.prog 21 #[.int .i64 b, .slice a n c] w (GivesY b bs w) := by
  have HR := hid hr
  have H1 := hid (f34 b a n c bs w hb0 hb1 hn hb hr hf hz)
  have HPl := hid (fun x g hx => f44 b a n c bs x g hn hx hf hz hcap)
  clear hn hr hf hz hcap
  go_enter Tryz.func21, Tryz.ntmps21
  go_wp2_with fail
  refine H1.out.mono ?_
  rintro e w2 ⟨rfl, hb2⟩
  have HB2 := hid hb2
  clear hb2 H1
  cases hg : gdK b bs
  · have HNo : Hid (¬ GoodK b bs) := fun h => by rw [gdK_yes h] at hg; cases hg
    go_wp2
    go_ret
    exact ⟨none, 0, 0, [], [], rfl, .inl ⟨HNo.out, rfl⟩, rfl, rfl, fun i hi => by omega, .inl rfl, fun i hi => by simp at hi, HB2.out⟩
  have HGK := hid (gdK_iff.1 hg)
  clear hg
  go_wp2_with fail
  refine (HPl.out _ HGK.out (HR.out.below HB2.out)).mono ?_
  rintro e w3 ⟨a3, n3, c3, A, R, rfl, hh, hb3⟩
  have HE : Hid (GivesY b bs w (.returned (.slice a3 n3 c3)) w3) := ⟨a3, n3, c3, A, R, rfl, .inr ⟨HGK.out, hh.out.1⟩, hh.out.2.1, hh.out.2.2.1, hh.out.2.2.2.1, hh.out.2.2.2.2.1, hh.out.2.2.2.2.2, HB2.out.trans (hb3.mono HB2.out.size)⟩
  clear hh hb3
  go_wp2
  go_ret
  exact HE.out
end Go.Proofs.YtjhdmghpklagkaaGreat.Pln
