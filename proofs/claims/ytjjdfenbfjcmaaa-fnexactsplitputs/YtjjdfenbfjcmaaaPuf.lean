/- Puts parted by their labels: both SplitPuts. -/
import Derived.Test.YtjjdfenbfjcmaaaPue
import Derived.Test.YtjjdfenbfjcmaaaHl
namespace Go.Proofs.Ytjjdfenbfjcmaaa.Ptn
open Go.RowKit
open Go.Proofs.Ytjjdfenbfjcmaaa.Lab (Lb HasL goodL mix txtR)

theorem step_lo (x z : Int) : 0 ≤ Lab.step x z := Lab.bits_lo _ _ _
theorem step_hi (x z : Int) : Lab.step x z ≤ 18446744073709551615 := Lab.bits_hi _ _ _
theorem fold_b (l : List UInt8) : ∀ x : Int, 0 ≤ x → x ≤ 18446744073709551615 → 0 ≤ l.foldl (fun x z => Lab.step x z.toNat) x ∧ l.foldl (fun x z => Lab.step x z.toNat) x ≤ 18446744073709551615 := by
  induction l with
  | nil => intro x h1 h2; exact ⟨h1, h2⟩
  | cons z l ih => intro x h1 h2; exact ih _ (step_lo _ _) (step_hi _ _)
theorem mix_lo (zs : List UInt8) : 0 ≤ mix zs := by unfold mix Lab.upto; have := (fold_b (zs.take zs.length) 1469598103 (by omega) (by omega)).1; omega
theorem mix_hi (zs : List UInt8) : mix zs ≤ 9223372036854775807 := by unfold mix Lab.upto; have := (fold_b (zs.take zs.length) 1469598103 (by omega) (by omega)).2; omega
/-- Whether all labels are good. -/
def allG (P : List Pl) : Bool := P.all fun p => goodL p.1
/-- The row to which a put goes. -/
def shd (n : Nat) (p : Pl) : Nat := (mix (txtR p.1)).toNat % n
def shs (P : List Pl) (n : Nat) : List (List Pl) := (List.range n).map fun j => P.filter fun p => decide (shd n p = j)
/-- What SplitPuts tells. -/
def spl (P : List Pl) (n : Int) : List (List Pl) := if (1 ≤ n ∧ n ≤ 50) ∧ P.length ≤ 2000 ∧ allG P = true then shs P n.toNat else []
theorem shs_len (P : List Pl) (n : Nat) : (shs P n).length = n := by simp [shs]
theorem shs_snoc (P : List Pl) (p : Pl) (n : Nat) : shs (P ++ [p]) n = (shs P n).set (shd n p) (((shs P n).getD (shd n p) []) ++ [p]) := by
  apply List.ext_getElem (by simp [shs])
  intro j h1 h2
  have hj : j < n := by simpa [shs] using h1
  rw [List.getElem_set]
  by_cases e : shd n p = j
  · rw [if_pos e]
    subst e
    simp [shs, hj]
  · rw [if_neg e]
    simp [shs, e]
theorem allG_snoc (P : List Pl) (p : Pl) : allG (P ++ [p]) = (allG P && goodL p.1) := by simp [allG]
theorem take_get {S : List T} {k : Nat} (h : k < S.length) : S.take (k + 1) = S.take k ++ [S.getD k t0] := by
  rw [List.take_succ_eq_append_getElem h]; simp [h]
theorem allG_not {ps : List T} {k : Nat} (h : k < ps.length) (hg : goodL (ps.getD k t0).l = false) : allG (ps.map pl) = false := by
  unfold allG
  rw [List.all_eq_false]
  exact ⟨pl (ps.getD k t0), List.mem_map_of_mem (get_mem h), by rw [show (pl (ps.getD k t0)).1 = (ps.getD k t0).l from rfl, hg]; simp⟩
theorem infoS : (Try.prog.info? 32).map (fun i => (i.zero, i.size, i.bytes)) = some (some (.slice none 0 0), 1, 24) := by kernel_rfl
theorem made_one (n : Nat) : (madeCells #[.slice none 0 0] n).toList = (List.replicate n s0).map vS := by
  apply List.ext_getElem?
  intro j
  unfold madeCells
  by_cases hj : j < n
  · simp [hj, vS, s0, Nat.mod_one]
  · simp [hj]
theorem repl_get (n i : Nat) : (List.replicate n s0).getD i s0 = s0 := by
  rw [List.getD_eq_getElem?_getD, List.getElem?_replicate]; split <;> rfl
theorem OwnSS.start {X g n : Nat} {w : World} (h : w.ownsRow X 32 1 (.slice (some ⟨g, 0, none⟩) n n) n ((List.replicate n s0).map vS)) : OwnSS X g n (List.replicate n s0) w := by
  refine ⟨by simp, h, fun i hi => ?_, fun i j _ _ _ g' e1 _ => ?_, fun i j _ _ _ p hp => ?_⟩
  · rw [repl_get]; exact ⟨rfl, World.ownsRow_nil _ _ _ _, (fun q hq => by cases hq), List.Pairwise.nil⟩
  · rw [repl_get] at e1; cases e1
  · rw [repl_get] at hp; cases hp
theorem start_map (n : Nat) : (List.replicate n s0).map plS = shs [] n := by
  apply List.ext_getElem (by simp [shs])
  intro j h1 h2
  simp [shs, plS, s0]
/-- An answer: nothing, or all of it the call's own. -/
def AnsS (X : Nat) (a : Option Addr) (m c : Nat) (R : List S) (w : World) : Prop := (a = none ∧ m = 0 ∧ c = 0 ∧ R = []) ∨ ∃ g, a = some ⟨g, 0, none⟩ ∧ c = m ∧ OwnSS X g m R w
theorem AnsS.below {X m c : Nat} {a : Option Addr} {R : List S} {w w' : World} (h : AnsS X a m c R w) (hb : Below w.heap.size w w') : AnsS X a m c R w' := by
  rcases h with h | ⟨g, h1, h2, h3⟩
  · exact .inl h
  · exact .inr ⟨g, h1, h2, h3.below hb⟩
def GivesS (w : World) (L : List (List Pl)) (e : Ending) (w' : World) : Prop := ∃ a m c R, e = .returned (.slice a m c) ∧ AnsS w.heap.size a m c R w' ∧ R.map plS = L ∧ Below w.heap.size w w'
/-- A put in its box. -/
abbrev SB (q : T) (B : Nat) (x : World) : Prop := x.cell? ⟨B, 0, none⟩ = some (.slice q.a q.l.length q.c) ∧ x.cell? ⟨B, 1, none⟩ = some (.int .i64 q.f) ∧ x.cell? ⟨B, 2, none⟩ = some (.int .i64 q.t)
theorem step_append_p {P : Program} {ops : Array Oper} {o : Oper} {a : Act} {w : World} {K : Act → World → Prop} {Q : Exit → Act → World → Prop} {E : Prop}
    (hg : o.guard = none) (s x : Operand) (t : TypeId) (hop : o.op = Op.call { callee := Callee.builtin Builtin.append, args := #[s, x], argTypes := #[t, t] })
    (base : Nat) (e : TypeId) (i : TypeInfo) (z : Value) (size bytes : Nat) (h1 : P.underlying t = some (.slice e)) (h2 : P.info? e = some i) (h3 : i.zero = some z) (h4 : i.size = size) (h5 : i.bytes = bytes) (h6 : z.cells.size = size) (h7 : 0 < size)
    (ao : Option Addr) (n cap : Nat) (olds : List Value) (hs : a.eval s = .slice ao n cap) (hown : w.ownsRow base e size (.slice ao n cap) n olds)
    (ad : Addr) (m c : Nat) (news : List Value) (hx : a.eval x = .slice (some ad) m c) (hn : news.length = m * size) (hc : ∀ j u, news[j]? = some u → w.cell? (ad.add j) = some u) (h1c : ∀ u ∈ news, u.oneCell' = true)
    (b1 : n + m ≤ maxLen) (b2 : (n + m) * bytes ≤ 140737488355328) (hbase : base ≤ w.heap.size)
    (hK : ∀ v' w', w'.ownsRow base e size v' (n + m) (olds ++ news) → w.grownBy w' (Value.slice ao n cap).ownBlock → (v'.ownBlock = (Value.slice ao n cap).ownBlock ∨ v'.ownBlock = some w.heap.size) → K (a.put o.dst v') w') :
    if Region.wanted o (yielded ops a.tmps) = true then Oper.wp P o a w K Q else E := by
  have hw : Region.wanted o (yielded ops a.tmps) = true := by simp [Region.wanted, hg]
  rw [if_pos hw]
  obtain ⟨v', w', hrun, r1, r2, _, r4⟩ := run_append_own_at (P := P) w base t o.type e i z size bytes h1 h2 h3 h4 h5 h6 h7 (.slice ao n cap) n olds hown ad m c news hn hc h1c b1 b2 hbase
  unfold Oper.wp
  simp [execOp, hop, resolve, invoke, builtin, hs, hx, hrun, Result.andThen]
  exact hK v' w' r1 r2 r4
theorem three_row (w : World) (x y z : Value) (t : TypeId) : ∀ j u, [x, y, z][j]? = some u → (w.alloc (.cells #[x, y, z] t)).cell? ((⟨w.heap.size, 0, none⟩ : Addr).add j) = some u := by
  intro j u hj
  match j, hj with
  | 0, hj => simp at hj; subst hj; simp [Addr.add]
  | 1, hj => simp at hj; subst hj; simp [Addr.add]
  | 2, hj => simp at hj; subst hj; simp [Addr.add]
/-- What is asked of the puts that are parted. -/
structure PG (w : World) (a : Option Addr) (ps : List T) : Prop where
  has : HasT w a ps
  fit : FitT ps
  sml : SmlT ps
  adr : ∀ q ∈ ps, ∃ b off, q.a = some ⟨b, off, none⟩
set_option maxRecDepth 10000 in
set_option maxHeartbeats 8000000 in
theorem f9 (a : Option Addr) (N c : Nat) (s : Int) (ps : List T) (w : World) (hn : ps.length = N) (hb : N ≤ 1048576) (hp : PG w a ps) :
    Calls Try.prog 9 #[.slice a N c, .int .i64 s] w (GivesS w (spl (ps.map pl) s)) := by
  have HN := hid hn
  have HP := hid hp
  clear hn hp
  have HPL : Hid ((ps.map pl).length = N) := by unfold Hid; rw [List.length_map]; exact HN.out
  obtain ⟨i0, hi, hz0, hz1, hz2⟩ := info_parts infoT
  obtain ⟨i1, hi1, hz01, hz11, hz21⟩ := info_parts infoS
  by_cases h1 : 1 ≤ s
  rotate_left
  · have HE : Hid (spl (ps.map pl) s = []) := if_neg fun h => h1 h.1.1
    go_enter Try.func9, Try.ntmps9
    by_cases h3 : (N : Int) ≤ 2000
    all_goals
      go_wp2
      go_ret
      exact ⟨none, 0, 0, [], rfl, .inl ⟨rfl, rfl, rfl, rfl⟩, HE.out.symm, Below.refl _ _⟩
  by_cases h2 : s ≤ 50
  rotate_left
  · have HE : Hid (spl (ps.map pl) s = []) := if_neg fun h => h2 h.1.2
    go_enter Try.func9, Try.ntmps9
    by_cases h3 : (N : Int) ≤ 2000
    all_goals
      go_wp2
      go_ret
      exact ⟨none, 0, 0, [], rfl, .inl ⟨rfl, rfl, rfl, rfl⟩, HE.out.symm, Below.refl _ _⟩
  by_cases h3 : (N : Int) ≤ 2000
  rotate_left
  · have HE : Hid (spl (ps.map pl) s = []) := if_neg fun h => by have := h.2.1; rw [HPL.out] at this; omega
    go_enter Try.func9, Try.ntmps9
    go_wp2
    go_ret
    exact ⟨none, 0, 0, [], rfl, .inl ⟨rfl, rfl, rfl, rfl⟩, HE.out.symm, Below.refl _ _⟩
  obtain ⟨n, hns⟩ : ∃ n : Nat, s = n := ⟨s.toNat, by omega⟩
  subst hns
  have hn1 : 1 ≤ n := by omega
  have hn2 : n ≤ 50 := by omega
  have hN2 : N ≤ 2000 := by omega
  have HSpl : Hid (allG (ps.map pl) = true → spl (ps.map pl) n = shs (ps.map pl) n) := fun h => if_pos ⟨⟨h1, h2⟩, by rw [HPL.out]; omega, h⟩
  have HSpn : Hid (allG (ps.map pl) = false → spl (ps.map pl) n = []) := fun h => if_neg fun g => by have := g.2.2; rw [h] at this; cases this
  generalize spl (ps.map pl) n = Z at *
  clear h1 h2
  have g1 : ¬ (n : Int) < 1 := by omega
  have g2 : ¬ (50 : Int) < (n : Int) := by omega
  have g3 : ¬ (2000 : Int) < (N : Int) := by omega
  clear h3
  go_enter Try.func9, Try.ntmps9
  go_wp2_with (at_make; refine wpList_make_full _ rfl _ _ 30 rfl w.heap.size 32 i1 (.slice none 0 0) 1 Try.underlying30 hi1 hz01 hz11 _ _ _ _ n rfl rfl rfl rfl ?b2 ?b3 (Nat.le_refl _) ?_)
  case b2 => omega
  case b3 => unfold maxLen; omega
  intro w0 hown0 hgrow0
  have HO0 : Hid (OwnSS w.heap.size w.heap.size n (List.replicate n s0) w0) := OwnSS.start (by rw [← made_one]; exact hown0)
  have HB0 := hid ((Below.refl w.heap.size w).grown hgrow0 (Nat.le_refl _) (fun k h => by cases h))
  clear hown0 hgrow0
  go_wp2
  go_loopw [24] (fun si wr => ∃ (k : Nat) (R : List S), k ≤ N ∧ si = .int .i64 k ∧ Hid (OwnSS w.heap.size w.heap.size n R wr) ∧ Hid (R.map plS = shs ((ps.take k).map pl) n) ∧ Hid (allG ((ps.take k).map pl) = true) ∧ Hid (∀ j, j < n → (R.getD j s0).ps.length ≤ k) ∧ Hid (Below w.heap.size w wr)) (fun si _ => N - (intOf si).toNat)
  case atStart => exact ⟨0, _, Nat.zero_le _, rfl, HO0.out, start_map n, rfl, fun j _ => by rw [repl_get]; exact Nat.zero_le _, HB0.out⟩
  case round =>
    clear HO0 HB0
    obtain ⟨k, R, hk, rfl, HO, HR, HG, HLe, HX⟩ := hrel
    by_cases hlt : k < N
    rotate_left
    · obtain rfl : k = N := by omega
      have HFin : Hid (R.map plS = Z) := by
        have h1 := HR.out
        have h2 := HG.out
        rw [List.take_of_length_le (by rw [HN.out]; exact Nat.le_refl _)] at h1 h2
        unfold Hid
        rw [HSpl.out h2]; exact h1
      go_wp2
      go_ret
      exact ⟨_, _, _, R, rfl, .inr ⟨_, rfl, rfl, HO.out⟩, HFin.out, HX.out⟩
    obtain ⟨bb, off, rfl, hbl, ⟨c0, c1, c2⟩, t1⟩ := (HP.out.has.below HX.out).at2 k (by rw [HN.out]; exact hlt)
    have HFq := hid (HP.out.fit k)
    have HZq := hid (HP.out.sml k (by rw [HN.out]; exact hlt))
    have HAq := hid (HP.out.adr _ (get_mem (show k < ps.length by rw [HN.out]; exact hlt)))
    have HTk := hid (take_get (show k < ps.length by rw [HN.out]; exact hlt))
    have HNo : Hid (goodL (ps.getD k t0).l = false → Z = []) := fun h => HSpn.out (allG_not (by rw [HN.out]; exact hlt) h)
    generalize ps.getD k t0 = q at *
    have i1' : (k : Int) < (N : Int) := by omega
    have HW0 := hid ((Below.refl wr.heap.size wr).alloc (Nat.le_refl _) (.cells #[.slice q.a q.l.length q.c, .int .i64 q.f, .int .i64 q.t] 46))
    have HBx := hid (heap_alloc_new wr (.cells #[.slice q.a q.l.length q.c, .int .i64 q.f, .int .i64 q.t] 46))
    have HT1 := hid (t1.below HW0.out)
    obtain ⟨W, hW⟩ : ∃ W, W = wr.alloc (.cells #[.slice q.a q.l.length q.c, .int .i64 q.f, .int .i64 q.t] 46) := ⟨_, rfl⟩
    obtain ⟨e0, e1, e2⟩ := three HBx.out
    rw [← hW] at HW0 HBx HT1
    clear t1 hbl
    go_wp2_with fail
    rw [← hW]
    refine (Lab.f19 q.a q.l.length q.c q.l _ rfl HFq.out.2.1 HT1.out HFq.out.1).mono ?_
    rintro e w2 ⟨rfl, hb2⟩
    have HX2 := hid (HW0.out.trans (hb2.mono HW0.out.size))
    have HBx2 := hid (kept HBx.out hb2)
    have HT2 := hid (HT1.out.below hb2)
    clear hb2 e0 e1 e2 c0 c1 c2 hW HT1 HBx
    obtain ⟨e0, e1, e2⟩ := three HBx2.out
    cases hg : goodL q.l with
    | false =>
      have HE := hid (HNo.out hg)
      have HX3 := hid (HX.out.trans (HX2.out.mono HX.out.size))
      clear hg
      go_wp2
      go_ret
      exact ⟨none, 0, 0, [], rfl, .inl ⟨rfl, rfl, rfl, rfl⟩, HE.out.symm, HX3.out⟩
    | true =>
    have HGq := hid hg
    clear hg
    go_wp2_with fail
    refine (Lab.f20 q.a q.l.length q.c q.l _ rfl HZq.out HT2.out HFq.out.1).mono ?_
    rintro e w3 ⟨rfl, hb3⟩
    have HX3 := hid (HX2.out.trans (hb3.mono HX2.out.size))
    have HBx3 := hid (kept HBx2.out hb3)
    have HT3 := hid (HT2.out.below hb3)
    clear hb3 e0 e1 e2 HBx2 HT2 HX2
    have hmlo := mix_lo (txtR q.l)
    have hmhi := mix_hi (txtR q.l)
    obtain ⟨M, hM⟩ : ∃ M : Nat, (M : Int) = mix (txtR q.l) := ⟨(mix (txtR q.l)).toNat, by omega⟩
    have HI : Hid (shd n (pl q) = M % n) := by unfold Hid shd pl; rw [← hM]; rfl
    rw [← hM]
    rw [← hM] at hmhi
    clear hmlo hM
    have gz : ¬ (n : Int) = 0 := by omega
    have gneg : ¬ (M : Int) < 0 := by omega
    have hil : M % n < n := Nat.mod_lt _ (by omega)
    have HMo : Hid ((M : Int) % (n : Int) = ((M % n : Nat) : Int)) := by unfold Hid; simp
    go_upto_region 10 with fail
    rw [HMo.out]
    generalize hiv : M % n = i at *
    clear HMo hiv
    have HLs := hid (HLe.out i hil)
    have HC0 := hid ((HO.out.row.cellAt i (by omega)).trans (map_get R i (by rw [HO.out.len]; exact hil)))
    have hgl := (HO.out.row.lt w.heap.size rfl).2
    have HEi := hid (HO.out.each i hil)
    obtain ⟨s, hs⟩ : ∃ s, s = R.getD i s0 := ⟨_, rfl⟩
    have HSe := hid hs
    rw [← hs] at HC0 HEi HLs
    simp only [vS] at HC0
    have hBW : wr.heap.size < w3.heap.size := lt_at HBx3.out
    have j0 : (0 : Int) ≤ (i : Int) := by omega
    have j1 : (i : Int) < (n : Int) := by omega
    have hdr : Below w3.heap.size w3 w3.drew := (Below.refl _ _).drew
    have hX3d : Below wr.heap.size wr w3.drew := HX3.out.trans (hdr.mono HX3.out.size)
    have z0 := (hX3d.cell (p := ⟨w.heap.size, i, none⟩) hgl).trans HC0.out
    have HSB : Hid (SB q wr.heap.size w3.drew) := three (kept HBx3.out hdr)
    have hdsz : w3.drew.heap.size = w3.heap.size := rfl
    obtain ⟨ba, bo, hqa⟩ := HAq.out
    have HC := hid (f21 q ba bo w3.drew hqa (HT3.out.below hdr) HZq.out)
    clear hs hqa HAq
    generalize hB : wr.heap.size = B at *
    generalize hg : w.heap.size = g at *
    go_wp2_with fail
    refine wp_region_held_drew (S := fun x => SB q B x) rfl HSB.out (fun hHeld => ?_)
    refine wpAnyH_take (i := 0) (oi := { dst := some 37, op := _, type := _, pos := _, after := _, guard := _ }) (v := (.slice (some ⟨g, 0, none⟩) n n)) rfl (by kernel_rfl) (by kernel_rfl) (by kernel_rfl) (fun _ _ _ h => h) (Or.inl ⟨by rfl, fun w hSw => by (try dsimp only at hSw); go_split_ands; go_simp⟩) (by assumption) ?_
    simp only [Act.put, List.setIfInBounds_toArray, List.set_cons_zero, List.set_cons_succ]
    refine wpAnyH_take (i := 1) (oi := { dst := some 38, op := _, type := _, pos := _, after := _, guard := _ }) (v := (.int .i64 (i : Int))) rfl (by kernel_rfl) (by kernel_rfl) (by kernel_rfl) (fun _ _ _ h => h) (Or.inl ⟨by rfl, fun w hSw => by (try dsimp only at hSw); go_split_ands; go_simp⟩) (by assumption) ?_
    simp only [Act.put, List.setIfInBounds_toArray, List.set_cons_zero, List.set_cons_succ]
    refine wpAnyH_take (i := 2) (oi := { dst := some 39, op := _, type := _, pos := _, after := _, guard := _ }) (v := (.slice (some ⟨g, 0, none⟩) n n)) rfl (by kernel_rfl) (by kernel_rfl) (by kernel_rfl) (fun _ _ _ h => h) (Or.inl ⟨by rfl, fun w hSw => by (try dsimp only at hSw); go_split_ands; go_simp⟩) (by assumption) ?_
    simp only [Act.put, List.setIfInBounds_toArray, List.set_cons_zero, List.set_cons_succ]
    refine wpAnyH_take (i := 3) (oi := { dst := some 40, op := _, type := _, pos := _, after := _, guard := _ }) (v := (.int .i64 (i : Int))) rfl (by kernel_rfl) (by kernel_rfl) (by kernel_rfl) (fun _ _ _ h => h) (Or.inl ⟨by rfl, fun w hSw => by (try dsimp only at hSw); go_split_ands; go_simp⟩) (by assumption) ?_
    simp only [Act.put, List.setIfInBounds_toArray, List.set_cons_zero, List.set_cons_succ]
    refine wpAnyH_take (i := 4) (oi := { dst := some 41, op := _, type := _, pos := _, after := _, guard := _ }) (v := (.pointer (some ⟨g, i, none⟩))) rfl (by kernel_rfl) (by kernel_rfl) (by kernel_rfl) (fun _ _ _ h => h) (Or.inl ⟨by rfl, fun w hSw => by (try dsimp only at hSw); go_split_ands; go_simp⟩) (by assumption) ?_
    simp only [Act.put, List.setIfInBounds_toArray, List.set_cons_zero, List.set_cons_succ]
    refine wpAnyH_take (i := 6) (oi := { dst := some 43, op := _, type := _, pos := _, after := _, guard := _ }) (v := (agT q)) rfl (by kernel_rfl) (by kernel_rfl) (by kernel_rfl) (fun _ _ _ h => h) (Or.inl ⟨by rfl, fun w hSw => by (try dsimp only at hSw); go_split_ands; go_simp⟩) (by assumption) ?_
    simp only [Act.put, List.setIfInBounds_toArray, List.set_cons_zero, List.set_cons_succ]
    refine wpAnyH_ready (rs := [5, 7]) (by kernel_rfl) (by simp) (AllReadyH.cons (o := { dst := some 42, op := _, type := _, pos := _, after := _, guard := _ }) rfl ?_ (AllReadyH.cons (o := { dst := some 44, op := _, type := _, pos := _, after := _, guard := _ }) rfl ?_ AllReadyH.nil))
    · intro K1 hK1
      go_simp
      refine hK1.out _ _ (three (kept HBx3.out hdr)) (fun _ => ?_)
      clear hK1 K1
      try simp only [Act.put, List.setIfInBounds_toArray, List.set_cons_zero, List.set_cons_succ]
      refine wpAnyH_ready (rs := [7]) (by kernel_rfl) (by simp) (AllReadyH.cons (o := { dst := some 44, op := _, type := _, pos := _, after := _, guard := _ }) rfl ?_ AllReadyH.nil)
      intro K2 hK2
      go_simp
      go_wp2_with (go_at_call 21; refine HC.out.mono ?_; rintro e w5 ⟨q', rfl, hpl5, hol5, hb5⟩)
      have hw5 : Below w3.heap.size w3 w5 := hdr.trans (hb5.mono hdr.size)
      refine hK2.out _ _ (three (kept HBx3.out hw5)) (fun _ => ?_)
      clear hK2 K2
      try simp only [Act.put, List.setIfInBounds_toArray, List.set_cons_zero, List.set_cons_succ]
      have z5 := (hb5.cell (p := ⟨g, i, none⟩) (show g < w3.drew.heap.size by have := hX3d.size; omega)).trans z0
      have hr5 : Below B wr w5 := HX3.out.trans (hw5.mono (by omega))
      refine wpAnyH_ready (rs := [8]) (by kernel_rfl) (by simp) (AllReadyH.cons (o := { dst := some 45, op := _, type := _, pos := _, after := _, guard := _ }) rfl ?_ AllReadyH.nil)
      intro K3 hK3
      go_simp
      have hba := (Below.refl w5.heap.size w5).alloc (Nat.le_refl _) (.cells #[.slice q'.a q'.l.length q'.c, .int .i64 q'.f, .int .i64 q'.t] 46)
      have hwa := hw5.trans (hba.mono hw5.size)
      refine hK3.out _ _ (three (kept HBx3.out hwa)) (fun _ => ?_)
      clear hK3 K3
      try simp only [Act.put, List.setIfInBounds_toArray, List.set_cons_zero, List.set_cons_succ]
      have z6 := (hba.cell (p := ⟨g, i, none⟩) (show g < w5.heap.size by have := hX3d.size; have := hb5.size; omega)).trans z5
      refine wpAnyH_ready (rs := [9]) (by kernel_rfl) (by simp) (AllReadyH.cons (o := { dst := some 46, op := _, type := _, pos := _, after := _, guard := _ }) rfl ?_ AllReadyH.nil)
      intro K4 hK4
      have hOr : (w5.alloc (.cells #[.slice q'.a q'.l.length q'.c, .int .i64 q'.f, .int .i64 q'.t] 46)).ownsRow g 46 3 (.slice s.a s.ps.length s.c) s.ps.length (flat s.ps) := own_below (own_below HEi.out.row (hB ▸ hr5)) hba
      refine step_append_p rfl (.tmp 42) (.tmp 45) 32 rfl g 46 i0 (.agg #[.slice none 0 0, .int .i64 0, .int .i64 0]) 3 40 Try.underlying32 hi hz0 hz1 hz2 rfl (by decide) s.a s.ps.length s.c (flat s.ps) rfl hOr ⟨w5.heap.size, 0, none⟩ 1 1 [.slice q'.a q'.l.length q'.c, .int .i64 q'.f, .int .i64 q'.t] rfl rfl (three_row w5 _ _ _ _) (by intro u hu; simp at hu; rcases hu with rfl | rfl | rfl <;> rfl) (by have := HLs.out; unfold maxLen; omega) (by have := HLs.out; omega) (by have := HX.out.size; have := hr5.size; simp; omega) ?_
      intro v6 w6 hown6 hgr6 hat6
      obtain ⟨a6, c6, rfl⟩ := own_form hown6
      have hgX := HX.out.size
      have HPu := hid (OwnSS.push (q' := q') HO.out ((hB ▸ hr5 : Below wr.heap.size wr w5).trans (hba.mono (hB ▸ hr5 : Below wr.heap.size wr w5).size)) (by omega) hil ((hol5.base (by show wr.heap.size ≤ w3.drew.heap.size; omega)).below hba) (by rw [← HSe.out]; exact hgr6) (by rw [← HSe.out]; exact hown6) (by rw [← HSe.out]; exact hat6))
      rw [← HSe.out] at HPu
      have hX6 : Below g w w6 := (HX.out.trans ((hr5.trans (hba.mono (by have := hr5.size; omega))).mono (by omega))).grown hgr6 (by simp; have := hr5.size; omega) (fun j hj => (hOr.lt j hj).1)
      have hbx : w6.heap[B]? = some (.cells #[.slice q.a q.l.length q.c, .int .i64 q.f, .int .i64 q.t] 46) := by
        rw [hgr6.block B (by have := hwa.size; omega) (fun e => by have := (HEi.out.row.lt B e.symm).2; omega)]
        exact kept HBx3.out hwa
      refine hK4.out _ _ (three hbx) (fun _ => ?_)
      clear hK4 K4
      try simp only [Act.put, List.setIfInBounds_toArray, List.set_cons_zero, List.set_cons_succ]
      refine wpAnyH_take (i := 10) (oi := { dst := some 47, op := _, type := _, pos := _, after := _, guard := _ }) (v := (.pointer (some ⟨g, i, none⟩))) rfl (by kernel_rfl) (by kernel_rfl) (by kernel_rfl) (fun _ _ _ h => h) (Or.inl ⟨by rfl, fun w hSw => by (try dsimp only at hSw); go_split_ands; go_simp⟩) (three hbx) ?_
      simp only [Act.put, List.setIfInBounds_toArray, List.set_cons_zero, List.set_cons_succ]
      have hrow6 : w6.ownsRow g 32 1 (.slice (some ⟨g, 0, none⟩) n n) n (R.map vS) := own_fw (own_below (own_below HO.out.row (hB ▸ hr5)) hba) (Fw.grownO hgr6) fun g' e1 e2 => apart (g := g') (own_below (own_below HO.out.row (hB ▸ hr5)) hba) hOr (by decide) e1 e2
      have y6 := (hrow6.cellAt i (by omega)).trans (map_get R i (by rw [HO.out.len]; exact hil))
      have f6 := hrow6.frozenAt i
      refine wpAnyH_ready (rs := [11]) (by kernel_rfl) (by simp) (AllReadyH.cons (o := { dst := none, op := _, type := _, pos := _, after := _, guard := _ }) rfl ?_ AllReadyH.nil)
      intro K5 hK5
      go_simp
      refine hK5.out _ _ (three (set_else hbx (by show B ≠ g; omega))) (fun _ => ?_)
      clear hK5 K5
      refine wpAnyH_done (by kernel_rfl) ?_ _
      have HE6 := hid (hX6.setCell (p := ⟨g, i, none⟩) (Nat.le_refl _) (.slice a6 (s.ps.length + 1) c6))
      have HR6 : Hid ((R.set i ⟨s.ps ++ [q'], a6, c6⟩).map plS = shs ((ps.take (k + 1)).map pl) n) := by
        unfold Hid
        rw [HTk.out, List.map_append, List.map_singleton, shs_snoc, HI.out, ← HR.out, List.map_set]
        have e1 : (R.map plS).getD i [] = plS s := by
          rw [HSe.out]
          have := HO.out.len
          simp [show i < R.length by omega]
        rw [e1]
        simp [plS, hpl5]
      have HG6 : Hid (allG ((ps.take (k + 1)).map pl) = true) := by
        unfold Hid
        rw [HTk.out, List.map_append, List.map_singleton, allG_snoc, HG.out]
        simp [pl, HGq.out]
      have HL6 : Hid (∀ j, j < n → ((R.set i ⟨s.ps ++ [q'], a6, c6⟩).getD j s0).ps.length ≤ k + 1) := fun j hj => by
        rw [getD_setS R i j _ (by have := HO.out.len; omega)]
        by_cases e : i = j
        · rw [if_pos e]; simp; exact HLs.out
        · rw [if_neg e]; have := HLe.out j hj; omega
      have HP6 := hid HPu.out.1
      clear HPu hown6 hgr6 hat6 hbx hX6 hrow6 y6 f6 hOr hwa hba z5 z6 hw5 hr5 hb5 hol5 hpl5 HC HSB z0 HEi HC0 HSe HO HR HG HLe HX HX3 HBx3 HT3 hHeld hX3d hdr
      subst hg
      go_wp2
      go_roundw
      case rel => exact ⟨k + 1, _, by omega, by go_num, HP6.out, HR6.out, HG6.out, HL6.out, HE6.out⟩
      case measure => simp [intOf]; omega
    · intro K1 hK1
      go_simp
      go_wp2_with (go_at_call 21; refine HC.out.mono ?_; rintro e w5 ⟨q', rfl, hpl5, hol5, hb5⟩)
      have hw5 : Below w3.heap.size w3 w5 := hdr.trans (hb5.mono hdr.size)
      refine hK1.out _ _ (three (kept HBx3.out hw5)) (fun _ => ?_)
      clear hK1 K1
      try simp only [Act.put, List.setIfInBounds_toArray, List.set_cons_zero, List.set_cons_succ]
      have z5 := (hb5.cell (p := ⟨g, i, none⟩) (show g < w3.drew.heap.size by have := hX3d.size; omega)).trans z0
      have hr5 : Below B wr w5 := HX3.out.trans (hw5.mono (by omega))
      refine wpAnyH_ready (rs := [5, 8]) (by kernel_rfl) (by simp) (AllReadyH.cons (o := { dst := some 42, op := _, type := _, pos := _, after := _, guard := _ }) rfl ?_ (AllReadyH.cons (o := { dst := some 45, op := _, type := _, pos := _, after := _, guard := _ }) rfl ?_ AllReadyH.nil))
      · intro K2 hK2
        go_simp
        refine hK2.out _ _ (three (kept HBx3.out hw5)) (fun _ => ?_)
        clear hK2 K2
        try simp only [Act.put, List.setIfInBounds_toArray, List.set_cons_zero, List.set_cons_succ]
        refine wpAnyH_ready (rs := [8]) (by kernel_rfl) (by simp) (AllReadyH.cons (o := { dst := some 45, op := _, type := _, pos := _, after := _, guard := _ }) rfl ?_ AllReadyH.nil)
        intro K3 hK3
        go_simp
        have hba := (Below.refl w5.heap.size w5).alloc (Nat.le_refl _) (.cells #[.slice q'.a q'.l.length q'.c, .int .i64 q'.f, .int .i64 q'.t] 46)
        have hwa := hw5.trans (hba.mono hw5.size)
        refine hK3.out _ _ (three (kept HBx3.out hwa)) (fun _ => ?_)
        clear hK3 K3
        try simp only [Act.put, List.setIfInBounds_toArray, List.set_cons_zero, List.set_cons_succ]
        have z6 := (hba.cell (p := ⟨g, i, none⟩) (show g < w5.heap.size by have := hX3d.size; have := hb5.size; omega)).trans z5
        refine wpAnyH_ready (rs := [9]) (by kernel_rfl) (by simp) (AllReadyH.cons (o := { dst := some 46, op := _, type := _, pos := _, after := _, guard := _ }) rfl ?_ AllReadyH.nil)
        intro K4 hK4
        have hOr : (w5.alloc (.cells #[.slice q'.a q'.l.length q'.c, .int .i64 q'.f, .int .i64 q'.t] 46)).ownsRow g 46 3 (.slice s.a s.ps.length s.c) s.ps.length (flat s.ps) := own_below (own_below HEi.out.row (hB ▸ hr5)) hba
        refine step_append_p rfl (.tmp 42) (.tmp 45) 32 rfl g 46 i0 (.agg #[.slice none 0 0, .int .i64 0, .int .i64 0]) 3 40 Try.underlying32 hi hz0 hz1 hz2 rfl (by decide) s.a s.ps.length s.c (flat s.ps) rfl hOr ⟨w5.heap.size, 0, none⟩ 1 1 [.slice q'.a q'.l.length q'.c, .int .i64 q'.f, .int .i64 q'.t] rfl rfl (three_row w5 _ _ _ _) (by intro u hu; simp at hu; rcases hu with rfl | rfl | rfl <;> rfl) (by have := HLs.out; unfold maxLen; omega) (by have := HLs.out; omega) (by have := HX.out.size; have := hr5.size; simp; omega) ?_
        intro v6 w6 hown6 hgr6 hat6
        obtain ⟨a6, c6, rfl⟩ := own_form hown6
        have hgX := HX.out.size
        have HPu := hid (OwnSS.push (q' := q') HO.out ((hB ▸ hr5 : Below wr.heap.size wr w5).trans (hba.mono (hB ▸ hr5 : Below wr.heap.size wr w5).size)) (by omega) hil ((hol5.base (by show wr.heap.size ≤ w3.drew.heap.size; omega)).below hba) (by rw [← HSe.out]; exact hgr6) (by rw [← HSe.out]; exact hown6) (by rw [← HSe.out]; exact hat6))
        rw [← HSe.out] at HPu
        have hX6 : Below g w w6 := (HX.out.trans ((hr5.trans (hba.mono (by have := hr5.size; omega))).mono (by omega))).grown hgr6 (by simp; have := hr5.size; omega) (fun j hj => (hOr.lt j hj).1)
        have hbx : w6.heap[B]? = some (.cells #[.slice q.a q.l.length q.c, .int .i64 q.f, .int .i64 q.t] 46) := by
          rw [hgr6.block B (by have := hwa.size; omega) (fun e => by have := (HEi.out.row.lt B e.symm).2; omega)]
          exact kept HBx3.out hwa
        refine hK4.out _ _ (three hbx) (fun _ => ?_)
        clear hK4 K4
        try simp only [Act.put, List.setIfInBounds_toArray, List.set_cons_zero, List.set_cons_succ]
        refine wpAnyH_take (i := 10) (oi := { dst := some 47, op := _, type := _, pos := _, after := _, guard := _ }) (v := (.pointer (some ⟨g, i, none⟩))) rfl (by kernel_rfl) (by kernel_rfl) (by kernel_rfl) (fun _ _ _ h => h) (Or.inl ⟨by rfl, fun w hSw => by (try dsimp only at hSw); go_split_ands; go_simp⟩) (three hbx) ?_
        simp only [Act.put, List.setIfInBounds_toArray, List.set_cons_zero, List.set_cons_succ]
        have hrow6 : w6.ownsRow g 32 1 (.slice (some ⟨g, 0, none⟩) n n) n (R.map vS) := own_fw (own_below (own_below HO.out.row (hB ▸ hr5)) hba) (Fw.grownO hgr6) fun g' e1 e2 => apart (g := g') (own_below (own_below HO.out.row (hB ▸ hr5)) hba) hOr (by decide) e1 e2
        have y6 := (hrow6.cellAt i (by omega)).trans (map_get R i (by rw [HO.out.len]; exact hil))
        have f6 := hrow6.frozenAt i
        refine wpAnyH_ready (rs := [11]) (by kernel_rfl) (by simp) (AllReadyH.cons (o := { dst := none, op := _, type := _, pos := _, after := _, guard := _ }) rfl ?_ AllReadyH.nil)
        intro K5 hK5
        go_simp
        refine hK5.out _ _ (three (set_else hbx (by show B ≠ g; omega))) (fun _ => ?_)
        clear hK5 K5
        refine wpAnyH_done (by kernel_rfl) ?_ _
        have HE6 := hid (hX6.setCell (p := ⟨g, i, none⟩) (Nat.le_refl _) (.slice a6 (s.ps.length + 1) c6))
        have HR6 : Hid ((R.set i ⟨s.ps ++ [q'], a6, c6⟩).map plS = shs ((ps.take (k + 1)).map pl) n) := by
          unfold Hid
          rw [HTk.out, List.map_append, List.map_singleton, shs_snoc, HI.out, ← HR.out, List.map_set]
          have e1 : (R.map plS).getD i [] = plS s := by
            rw [HSe.out]
            have := HO.out.len
            simp [show i < R.length by omega]
          rw [e1]
          simp [plS, hpl5]
        have HG6 : Hid (allG ((ps.take (k + 1)).map pl) = true) := by
          unfold Hid
          rw [HTk.out, List.map_append, List.map_singleton, allG_snoc, HG.out]
          simp [pl, HGq.out]
        have HL6 : Hid (∀ j, j < n → ((R.set i ⟨s.ps ++ [q'], a6, c6⟩).getD j s0).ps.length ≤ k + 1) := fun j hj => by
          rw [getD_setS R i j _ (by have := HO.out.len; omega)]
          by_cases e : i = j
          · rw [if_pos e]; simp; exact HLs.out
          · rw [if_neg e]; have := HLe.out j hj; omega
        have HP6 := hid HPu.out.1
        clear HPu hown6 hgr6 hat6 hbx hX6 hrow6 y6 f6 hOr hwa hba z5 z6 hw5 hr5 hb5 hol5 hpl5 HC HSB z0 HEi HC0 HSe HO HR HG HLe HX HX3 HBx3 HT3 hHeld hX3d hdr
        subst hg
        go_wp2
        go_roundw
        case rel => exact ⟨k + 1, _, by omega, by go_num, HP6.out, HR6.out, HG6.out, HL6.out, HE6.out⟩
        case measure => simp [intOf]; omega
      · intro K2 hK2
        go_simp
        have hba := (Below.refl w5.heap.size w5).alloc (Nat.le_refl _) (.cells #[.slice q'.a q'.l.length q'.c, .int .i64 q'.f, .int .i64 q'.t] 46)
        have hwa := hw5.trans (hba.mono hw5.size)
        refine hK2.out _ _ (three (kept HBx3.out hwa)) (fun _ => ?_)
        clear hK2 K2
        try simp only [Act.put, List.setIfInBounds_toArray, List.set_cons_zero, List.set_cons_succ]
        have z6 := (hba.cell (p := ⟨g, i, none⟩) (show g < w5.heap.size by have := hX3d.size; have := hb5.size; omega)).trans z5
        refine wpAnyH_ready (rs := [5]) (by kernel_rfl) (by simp) (AllReadyH.cons (o := { dst := some 42, op := _, type := _, pos := _, after := _, guard := _ }) rfl ?_ AllReadyH.nil)
        intro K3 hK3
        go_simp
        refine hK3.out _ _ (three (kept HBx3.out hwa)) (fun _ => ?_)
        clear hK3 K3
        try simp only [Act.put, List.setIfInBounds_toArray, List.set_cons_zero, List.set_cons_succ]
        refine wpAnyH_ready (rs := [9]) (by kernel_rfl) (by simp) (AllReadyH.cons (o := { dst := some 46, op := _, type := _, pos := _, after := _, guard := _ }) rfl ?_ AllReadyH.nil)
        intro K4 hK4
        have hOr : (w5.alloc (.cells #[.slice q'.a q'.l.length q'.c, .int .i64 q'.f, .int .i64 q'.t] 46)).ownsRow g 46 3 (.slice s.a s.ps.length s.c) s.ps.length (flat s.ps) := own_below (own_below HEi.out.row (hB ▸ hr5)) hba
        refine step_append_p rfl (.tmp 42) (.tmp 45) 32 rfl g 46 i0 (.agg #[.slice none 0 0, .int .i64 0, .int .i64 0]) 3 40 Try.underlying32 hi hz0 hz1 hz2 rfl (by decide) s.a s.ps.length s.c (flat s.ps) rfl hOr ⟨w5.heap.size, 0, none⟩ 1 1 [.slice q'.a q'.l.length q'.c, .int .i64 q'.f, .int .i64 q'.t] rfl rfl (three_row w5 _ _ _ _) (by intro u hu; simp at hu; rcases hu with rfl | rfl | rfl <;> rfl) (by have := HLs.out; unfold maxLen; omega) (by have := HLs.out; omega) (by have := HX.out.size; have := hr5.size; simp; omega) ?_
        intro v6 w6 hown6 hgr6 hat6
        obtain ⟨a6, c6, rfl⟩ := own_form hown6
        have hgX := HX.out.size
        have HPu := hid (OwnSS.push (q' := q') HO.out ((hB ▸ hr5 : Below wr.heap.size wr w5).trans (hba.mono (hB ▸ hr5 : Below wr.heap.size wr w5).size)) (by omega) hil ((hol5.base (by show wr.heap.size ≤ w3.drew.heap.size; omega)).below hba) (by rw [← HSe.out]; exact hgr6) (by rw [← HSe.out]; exact hown6) (by rw [← HSe.out]; exact hat6))
        rw [← HSe.out] at HPu
        have hX6 : Below g w w6 := (HX.out.trans ((hr5.trans (hba.mono (by have := hr5.size; omega))).mono (by omega))).grown hgr6 (by simp; have := hr5.size; omega) (fun j hj => (hOr.lt j hj).1)
        have hbx : w6.heap[B]? = some (.cells #[.slice q.a q.l.length q.c, .int .i64 q.f, .int .i64 q.t] 46) := by
          rw [hgr6.block B (by have := hwa.size; omega) (fun e => by have := (HEi.out.row.lt B e.symm).2; omega)]
          exact kept HBx3.out hwa
        refine hK4.out _ _ (three hbx) (fun _ => ?_)
        clear hK4 K4
        try simp only [Act.put, List.setIfInBounds_toArray, List.set_cons_zero, List.set_cons_succ]
        refine wpAnyH_take (i := 10) (oi := { dst := some 47, op := _, type := _, pos := _, after := _, guard := _ }) (v := (.pointer (some ⟨g, i, none⟩))) rfl (by kernel_rfl) (by kernel_rfl) (by kernel_rfl) (fun _ _ _ h => h) (Or.inl ⟨by rfl, fun w hSw => by (try dsimp only at hSw); go_split_ands; go_simp⟩) (three hbx) ?_
        simp only [Act.put, List.setIfInBounds_toArray, List.set_cons_zero, List.set_cons_succ]
        have hrow6 : w6.ownsRow g 32 1 (.slice (some ⟨g, 0, none⟩) n n) n (R.map vS) := own_fw (own_below (own_below HO.out.row (hB ▸ hr5)) hba) (Fw.grownO hgr6) fun g' e1 e2 => apart (g := g') (own_below (own_below HO.out.row (hB ▸ hr5)) hba) hOr (by decide) e1 e2
        have y6 := (hrow6.cellAt i (by omega)).trans (map_get R i (by rw [HO.out.len]; exact hil))
        have f6 := hrow6.frozenAt i
        refine wpAnyH_ready (rs := [11]) (by kernel_rfl) (by simp) (AllReadyH.cons (o := { dst := none, op := _, type := _, pos := _, after := _, guard := _ }) rfl ?_ AllReadyH.nil)
        intro K5 hK5
        go_simp
        refine hK5.out _ _ (three (set_else hbx (by show B ≠ g; omega))) (fun _ => ?_)
        clear hK5 K5
        refine wpAnyH_done (by kernel_rfl) ?_ _
        have HE6 := hid (hX6.setCell (p := ⟨g, i, none⟩) (Nat.le_refl _) (.slice a6 (s.ps.length + 1) c6))
        have HR6 : Hid ((R.set i ⟨s.ps ++ [q'], a6, c6⟩).map plS = shs ((ps.take (k + 1)).map pl) n) := by
          unfold Hid
          rw [HTk.out, List.map_append, List.map_singleton, shs_snoc, HI.out, ← HR.out, List.map_set]
          have e1 : (R.map plS).getD i [] = plS s := by
            rw [HSe.out]
            have := HO.out.len
            simp [show i < R.length by omega]
          rw [e1]
          simp [plS, hpl5]
        have HG6 : Hid (allG ((ps.take (k + 1)).map pl) = true) := by
          unfold Hid
          rw [HTk.out, List.map_append, List.map_singleton, allG_snoc, HG.out]
          simp [pl, HGq.out]
        have HL6 : Hid (∀ j, j < n → ((R.set i ⟨s.ps ++ [q'], a6, c6⟩).getD j s0).ps.length ≤ k + 1) := fun j hj => by
          rw [getD_setS R i j _ (by have := HO.out.len; omega)]
          by_cases e : i = j
          · rw [if_pos e]; simp; exact HLs.out
          · rw [if_neg e]; have := HLe.out j hj; omega
        have HP6 := hid HPu.out.1
        clear HPu hown6 hgr6 hat6 hbx hX6 hrow6 y6 f6 hOr hwa hba z5 z6 hw5 hr5 hb5 hol5 hpl5 HC HSB z0 HEi HC0 HSe HO HR HG HLe HX HX3 HBx3 HT3 hHeld hX3d hdr
        subst hg
        go_wp2
        go_roundw
        case rel => exact ⟨k + 1, _, by omega, by go_num, HP6.out, HR6.out, HG6.out, HL6.out, HE6.out⟩
        case measure => simp [intOf]; omega
set_option maxRecDepth 10000 in
set_option maxHeartbeats 8000000 in
theorem f11 (a : Option Addr) (N c : Nat) (s : Int) (ps : List T) (w : World) (hn : ps.length = N) (hb : N ≤ 1048576) (hp : PG w a ps) :
    Calls Try.prog 11 #[.slice a N c, .int .i64 s] w (GivesS w (spl (ps.map pl) s)) := by
  have HN := hid hn
  have HP := hid hp
  clear hn hp
  have HPL : Hid ((ps.map pl).length = N) := by unfold Hid; rw [List.length_map]; exact HN.out
  obtain ⟨i0, hi, hz0, hz1, hz2⟩ := info_parts infoT
  obtain ⟨i1, hi1, hz01, hz11, hz21⟩ := info_parts infoS
  by_cases h1 : 1 ≤ s
  rotate_left
  · have HE : Hid (spl (ps.map pl) s = []) := if_neg fun h => h1 h.1.1
    go_enter Try.func11, Try.ntmps11
    by_cases h3 : (N : Int) ≤ 2000
    all_goals
      go_wp2
      go_ret
      exact ⟨none, 0, 0, [], rfl, .inl ⟨rfl, rfl, rfl, rfl⟩, HE.out.symm, Below.refl _ _⟩
  by_cases h2 : s ≤ 50
  rotate_left
  · have HE : Hid (spl (ps.map pl) s = []) := if_neg fun h => h2 h.1.2
    go_enter Try.func11, Try.ntmps11
    by_cases h3 : (N : Int) ≤ 2000
    all_goals
      go_wp2
      go_ret
      exact ⟨none, 0, 0, [], rfl, .inl ⟨rfl, rfl, rfl, rfl⟩, HE.out.symm, Below.refl _ _⟩
  by_cases h3 : (N : Int) ≤ 2000
  rotate_left
  · have HE : Hid (spl (ps.map pl) s = []) := if_neg fun h => by have := h.2.1; rw [HPL.out] at this; omega
    go_enter Try.func11, Try.ntmps11
    go_wp2
    go_ret
    exact ⟨none, 0, 0, [], rfl, .inl ⟨rfl, rfl, rfl, rfl⟩, HE.out.symm, Below.refl _ _⟩
  obtain ⟨n, hns⟩ : ∃ n : Nat, s = n := ⟨s.toNat, by omega⟩
  subst hns
  have hn1 : 1 ≤ n := by omega
  have hn2 : n ≤ 50 := by omega
  have hN2 : N ≤ 2000 := by omega
  have HSpl : Hid (allG (ps.map pl) = true → spl (ps.map pl) n = shs (ps.map pl) n) := fun h => if_pos ⟨⟨h1, h2⟩, by rw [HPL.out]; omega, h⟩
  have HSpn : Hid (allG (ps.map pl) = false → spl (ps.map pl) n = []) := fun h => if_neg fun g => by have := g.2.2; rw [h] at this; cases this
  generalize spl (ps.map pl) n = Z at *
  clear h1 h2
  have g1 : ¬ (n : Int) < 1 := by omega
  have g2 : ¬ (50 : Int) < (n : Int) := by omega
  have g3 : ¬ (2000 : Int) < (N : Int) := by omega
  clear h3
  go_enter Try.func11, Try.ntmps11
  go_wp2_with (at_make; refine wpList_make_full _ rfl _ _ 30 rfl w.heap.size 32 i1 (.slice none 0 0) 1 Try.underlying30 hi1 hz01 hz11 _ _ _ _ n rfl rfl rfl rfl ?b2 ?b3 (Nat.le_refl _) ?_)
  case b2 => omega
  case b3 => unfold maxLen; omega
  intro w0 hown0 hgrow0
  have HO0 : Hid (OwnSS w.heap.size w.heap.size n (List.replicate n s0) w0) := OwnSS.start (by rw [← made_one]; exact hown0)
  have HB0 := hid ((Below.refl w.heap.size w).grown hgrow0 (Nat.le_refl _) (fun k h => by cases h))
  clear hown0 hgrow0
  go_wp2
  go_loopw [24] (fun si wr => ∃ (k : Nat) (R : List S), k ≤ N ∧ si = .int .i64 k ∧ Hid (OwnSS w.heap.size w.heap.size n R wr) ∧ Hid (R.map plS = shs ((ps.take k).map pl) n) ∧ Hid (allG ((ps.take k).map pl) = true) ∧ Hid (∀ j, j < n → (R.getD j s0).ps.length ≤ k) ∧ Hid (Below w.heap.size w wr)) (fun si _ => N - (intOf si).toNat)
  case atStart => exact ⟨0, _, Nat.zero_le _, rfl, HO0.out, start_map n, rfl, fun j _ => by rw [repl_get]; exact Nat.zero_le _, HB0.out⟩
  case round =>
    clear HO0 HB0
    obtain ⟨k, R, hk, rfl, HO, HR, HG, HLe, HX⟩ := hrel
    by_cases hlt : k < N
    rotate_left
    · obtain rfl : k = N := by omega
      have HFin : Hid (R.map plS = Z) := by
        have h1 := HR.out
        have h2 := HG.out
        rw [List.take_of_length_le (by rw [HN.out]; exact Nat.le_refl _)] at h1 h2
        unfold Hid
        rw [HSpl.out h2]; exact h1
      go_wp2
      go_ret
      exact ⟨_, _, _, R, rfl, .inr ⟨_, rfl, rfl, HO.out⟩, HFin.out, HX.out⟩
    obtain ⟨bb, off, rfl, hbl, ⟨c0, c1, c2⟩, t1⟩ := (HP.out.has.below HX.out).at2 k (by rw [HN.out]; exact hlt)
    have HFq := hid (HP.out.fit k)
    have HZq := hid (HP.out.sml k (by rw [HN.out]; exact hlt))
    have HAq := hid (HP.out.adr _ (get_mem (show k < ps.length by rw [HN.out]; exact hlt)))
    have HTk := hid (take_get (show k < ps.length by rw [HN.out]; exact hlt))
    have HNo : Hid (goodL (ps.getD k t0).l = false → Z = []) := fun h => HSpn.out (allG_not (by rw [HN.out]; exact hlt) h)
    generalize ps.getD k t0 = q at *
    have i1' : (k : Int) < (N : Int) := by omega
    have HW0 := hid ((Below.refl wr.heap.size wr).alloc (Nat.le_refl _) (.cells #[.slice q.a q.l.length q.c, .int .i64 q.f, .int .i64 q.t] 46))
    have HBx := hid (heap_alloc_new wr (.cells #[.slice q.a q.l.length q.c, .int .i64 q.f, .int .i64 q.t] 46))
    have HT1 := hid (t1.below HW0.out)
    obtain ⟨W, hW⟩ : ∃ W, W = wr.alloc (.cells #[.slice q.a q.l.length q.c, .int .i64 q.f, .int .i64 q.t] 46) := ⟨_, rfl⟩
    obtain ⟨e0, e1, e2⟩ := three HBx.out
    rw [← hW] at HW0 HBx HT1
    clear t1 hbl
    go_wp2_with fail
    rw [← hW]
    refine (Lab.f23 q.a q.l.length q.c q.l _ rfl HFq.out.2.1 HT1.out HFq.out.1).mono ?_
    rintro e w2 ⟨rfl, hb2⟩
    have HX2 := hid (HW0.out.trans (hb2.mono HW0.out.size))
    have HBx2 := hid (kept HBx.out hb2)
    have HT2 := hid (HT1.out.below hb2)
    clear hb2 e0 e1 e2 c0 c1 c2 hW HT1 HBx
    obtain ⟨e0, e1, e2⟩ := three HBx2.out
    cases hg : goodL q.l with
    | false =>
      have HE := hid (HNo.out hg)
      have HX3 := hid (HX.out.trans (HX2.out.mono HX.out.size))
      clear hg
      go_wp2
      go_ret
      exact ⟨none, 0, 0, [], rfl, .inl ⟨rfl, rfl, rfl, rfl⟩, HE.out.symm, HX3.out⟩
    | true =>
    have HGq := hid hg
    clear hg
    go_wp2_with fail
    refine (Lab.f24 q.a q.l.length q.c q.l _ rfl HZq.out HT2.out HFq.out.1).mono ?_
    rintro e w3 ⟨rfl, hb3⟩
    have HX3 := hid (HX2.out.trans (hb3.mono HX2.out.size))
    have HBx3 := hid (kept HBx2.out hb3)
    have HT3 := hid (HT2.out.below hb3)
    clear hb3 e0 e1 e2 HBx2 HT2 HX2
    have hmlo := mix_lo (txtR q.l)
    have hmhi := mix_hi (txtR q.l)
    obtain ⟨M, hM⟩ : ∃ M : Nat, (M : Int) = mix (txtR q.l) := ⟨(mix (txtR q.l)).toNat, by omega⟩
    have HI : Hid (shd n (pl q) = M % n) := by unfold Hid shd pl; rw [← hM]; rfl
    rw [← hM]
    rw [← hM] at hmhi
    clear hmlo hM
    have gz : ¬ (n : Int) = 0 := by omega
    have gneg : ¬ (M : Int) < 0 := by omega
    have hil : M % n < n := Nat.mod_lt _ (by omega)
    have HMo : Hid ((M : Int) % (n : Int) = ((M % n : Nat) : Int)) := by unfold Hid; simp
    go_upto_region 10 with fail
    rw [HMo.out]
    generalize hiv : M % n = i at *
    clear HMo hiv
    have HLs := hid (HLe.out i hil)
    have HC0 := hid ((HO.out.row.cellAt i (by omega)).trans (map_get R i (by rw [HO.out.len]; exact hil)))
    have hgl := (HO.out.row.lt w.heap.size rfl).2
    have HEi := hid (HO.out.each i hil)
    obtain ⟨s, hs⟩ : ∃ s, s = R.getD i s0 := ⟨_, rfl⟩
    have HSe := hid hs
    rw [← hs] at HC0 HEi HLs
    simp only [vS] at HC0
    have hBW : wr.heap.size < w3.heap.size := lt_at HBx3.out
    have j0 : (0 : Int) ≤ (i : Int) := by omega
    have j1 : (i : Int) < (n : Int) := by omega
    have hdr : Below w3.heap.size w3 w3.drew := (Below.refl _ _).drew
    have hX3d : Below wr.heap.size wr w3.drew := HX3.out.trans (hdr.mono HX3.out.size)
    have z0 := (hX3d.cell (p := ⟨w.heap.size, i, none⟩) hgl).trans HC0.out
    have HSB : Hid (SB q wr.heap.size w3.drew) := three (kept HBx3.out hdr)
    have hdsz : w3.drew.heap.size = w3.heap.size := rfl
    obtain ⟨ba, bo, hqa⟩ := HAq.out
    have HC := hid (f25 q ba bo w3.drew hqa (HT3.out.below hdr) HZq.out)
    clear hs hqa HAq
    generalize hB : wr.heap.size = B at *
    generalize hg : w.heap.size = g at *
    go_wp2_with fail
    refine wp_region_held_drew (S := fun x => SB q B x) rfl HSB.out (fun hHeld => ?_)
    refine wpAnyH_take (i := 0) (oi := { dst := some 37, op := _, type := _, pos := _, after := _, guard := _ }) (v := (.slice (some ⟨g, 0, none⟩) n n)) rfl (by kernel_rfl) (by kernel_rfl) (by kernel_rfl) (fun _ _ _ h => h) (Or.inl ⟨by rfl, fun w hSw => by (try dsimp only at hSw); go_split_ands; go_simp⟩) (by assumption) ?_
    simp only [Act.put, List.setIfInBounds_toArray, List.set_cons_zero, List.set_cons_succ]
    refine wpAnyH_take (i := 1) (oi := { dst := some 38, op := _, type := _, pos := _, after := _, guard := _ }) (v := (.int .i64 (i : Int))) rfl (by kernel_rfl) (by kernel_rfl) (by kernel_rfl) (fun _ _ _ h => h) (Or.inl ⟨by rfl, fun w hSw => by (try dsimp only at hSw); go_split_ands; go_simp⟩) (by assumption) ?_
    simp only [Act.put, List.setIfInBounds_toArray, List.set_cons_zero, List.set_cons_succ]
    refine wpAnyH_take (i := 2) (oi := { dst := some 39, op := _, type := _, pos := _, after := _, guard := _ }) (v := (.slice (some ⟨g, 0, none⟩) n n)) rfl (by kernel_rfl) (by kernel_rfl) (by kernel_rfl) (fun _ _ _ h => h) (Or.inl ⟨by rfl, fun w hSw => by (try dsimp only at hSw); go_split_ands; go_simp⟩) (by assumption) ?_
    simp only [Act.put, List.setIfInBounds_toArray, List.set_cons_zero, List.set_cons_succ]
    refine wpAnyH_take (i := 3) (oi := { dst := some 40, op := _, type := _, pos := _, after := _, guard := _ }) (v := (.int .i64 (i : Int))) rfl (by kernel_rfl) (by kernel_rfl) (by kernel_rfl) (fun _ _ _ h => h) (Or.inl ⟨by rfl, fun w hSw => by (try dsimp only at hSw); go_split_ands; go_simp⟩) (by assumption) ?_
    simp only [Act.put, List.setIfInBounds_toArray, List.set_cons_zero, List.set_cons_succ]
    refine wpAnyH_take (i := 4) (oi := { dst := some 41, op := _, type := _, pos := _, after := _, guard := _ }) (v := (.pointer (some ⟨g, i, none⟩))) rfl (by kernel_rfl) (by kernel_rfl) (by kernel_rfl) (fun _ _ _ h => h) (Or.inl ⟨by rfl, fun w hSw => by (try dsimp only at hSw); go_split_ands; go_simp⟩) (by assumption) ?_
    simp only [Act.put, List.setIfInBounds_toArray, List.set_cons_zero, List.set_cons_succ]
    refine wpAnyH_take (i := 6) (oi := { dst := some 43, op := _, type := _, pos := _, after := _, guard := _ }) (v := (agT q)) rfl (by kernel_rfl) (by kernel_rfl) (by kernel_rfl) (fun _ _ _ h => h) (Or.inl ⟨by rfl, fun w hSw => by (try dsimp only at hSw); go_split_ands; go_simp⟩) (by assumption) ?_
    simp only [Act.put, List.setIfInBounds_toArray, List.set_cons_zero, List.set_cons_succ]
    refine wpAnyH_ready (rs := [5, 7]) (by kernel_rfl) (by simp) (AllReadyH.cons (o := { dst := some 42, op := _, type := _, pos := _, after := _, guard := _ }) rfl ?_ (AllReadyH.cons (o := { dst := some 44, op := _, type := _, pos := _, after := _, guard := _ }) rfl ?_ AllReadyH.nil))
    · intro K1 hK1
      go_simp
      refine hK1.out _ _ (three (kept HBx3.out hdr)) (fun _ => ?_)
      clear hK1 K1
      try simp only [Act.put, List.setIfInBounds_toArray, List.set_cons_zero, List.set_cons_succ]
      refine wpAnyH_ready (rs := [7]) (by kernel_rfl) (by simp) (AllReadyH.cons (o := { dst := some 44, op := _, type := _, pos := _, after := _, guard := _ }) rfl ?_ AllReadyH.nil)
      intro K2 hK2
      go_simp
      go_wp2_with (go_at_call 25; refine HC.out.mono ?_; rintro e w5 ⟨q', rfl, hpl5, hol5, hb5⟩)
      have hw5 : Below w3.heap.size w3 w5 := hdr.trans (hb5.mono hdr.size)
      refine hK2.out _ _ (three (kept HBx3.out hw5)) (fun _ => ?_)
      clear hK2 K2
      try simp only [Act.put, List.setIfInBounds_toArray, List.set_cons_zero, List.set_cons_succ]
      have z5 := (hb5.cell (p := ⟨g, i, none⟩) (show g < w3.drew.heap.size by have := hX3d.size; omega)).trans z0
      have hr5 : Below B wr w5 := HX3.out.trans (hw5.mono (by omega))
      refine wpAnyH_ready (rs := [8]) (by kernel_rfl) (by simp) (AllReadyH.cons (o := { dst := some 45, op := _, type := _, pos := _, after := _, guard := _ }) rfl ?_ AllReadyH.nil)
      intro K3 hK3
      go_simp
      have hba := (Below.refl w5.heap.size w5).alloc (Nat.le_refl _) (.cells #[.slice q'.a q'.l.length q'.c, .int .i64 q'.f, .int .i64 q'.t] 46)
      have hwa := hw5.trans (hba.mono hw5.size)
      refine hK3.out _ _ (three (kept HBx3.out hwa)) (fun _ => ?_)
      clear hK3 K3
      try simp only [Act.put, List.setIfInBounds_toArray, List.set_cons_zero, List.set_cons_succ]
      have z6 := (hba.cell (p := ⟨g, i, none⟩) (show g < w5.heap.size by have := hX3d.size; have := hb5.size; omega)).trans z5
      refine wpAnyH_ready (rs := [9]) (by kernel_rfl) (by simp) (AllReadyH.cons (o := { dst := some 46, op := _, type := _, pos := _, after := _, guard := _ }) rfl ?_ AllReadyH.nil)
      intro K4 hK4
      have hOr : (w5.alloc (.cells #[.slice q'.a q'.l.length q'.c, .int .i64 q'.f, .int .i64 q'.t] 46)).ownsRow g 46 3 (.slice s.a s.ps.length s.c) s.ps.length (flat s.ps) := own_below (own_below HEi.out.row (hB ▸ hr5)) hba
      refine step_append_p rfl (.tmp 42) (.tmp 45) 32 rfl g 46 i0 (.agg #[.slice none 0 0, .int .i64 0, .int .i64 0]) 3 40 Try.underlying32 hi hz0 hz1 hz2 rfl (by decide) s.a s.ps.length s.c (flat s.ps) rfl hOr ⟨w5.heap.size, 0, none⟩ 1 1 [.slice q'.a q'.l.length q'.c, .int .i64 q'.f, .int .i64 q'.t] rfl rfl (three_row w5 _ _ _ _) (by intro u hu; simp at hu; rcases hu with rfl | rfl | rfl <;> rfl) (by have := HLs.out; unfold maxLen; omega) (by have := HLs.out; omega) (by have := HX.out.size; have := hr5.size; simp; omega) ?_
      intro v6 w6 hown6 hgr6 hat6
      obtain ⟨a6, c6, rfl⟩ := own_form hown6
      have hgX := HX.out.size
      have HPu := hid (OwnSS.push (q' := q') HO.out ((hB ▸ hr5 : Below wr.heap.size wr w5).trans (hba.mono (hB ▸ hr5 : Below wr.heap.size wr w5).size)) (by omega) hil ((hol5.base (by show wr.heap.size ≤ w3.drew.heap.size; omega)).below hba) (by rw [← HSe.out]; exact hgr6) (by rw [← HSe.out]; exact hown6) (by rw [← HSe.out]; exact hat6))
      rw [← HSe.out] at HPu
      have hX6 : Below g w w6 := (HX.out.trans ((hr5.trans (hba.mono (by have := hr5.size; omega))).mono (by omega))).grown hgr6 (by simp; have := hr5.size; omega) (fun j hj => (hOr.lt j hj).1)
      have hbx : w6.heap[B]? = some (.cells #[.slice q.a q.l.length q.c, .int .i64 q.f, .int .i64 q.t] 46) := by
        rw [hgr6.block B (by have := hwa.size; omega) (fun e => by have := (HEi.out.row.lt B e.symm).2; omega)]
        exact kept HBx3.out hwa
      refine hK4.out _ _ (three hbx) (fun _ => ?_)
      clear hK4 K4
      try simp only [Act.put, List.setIfInBounds_toArray, List.set_cons_zero, List.set_cons_succ]
      refine wpAnyH_take (i := 10) (oi := { dst := some 47, op := _, type := _, pos := _, after := _, guard := _ }) (v := (.pointer (some ⟨g, i, none⟩))) rfl (by kernel_rfl) (by kernel_rfl) (by kernel_rfl) (fun _ _ _ h => h) (Or.inl ⟨by rfl, fun w hSw => by (try dsimp only at hSw); go_split_ands; go_simp⟩) (three hbx) ?_
      simp only [Act.put, List.setIfInBounds_toArray, List.set_cons_zero, List.set_cons_succ]
      have hrow6 : w6.ownsRow g 32 1 (.slice (some ⟨g, 0, none⟩) n n) n (R.map vS) := own_fw (own_below (own_below HO.out.row (hB ▸ hr5)) hba) (Fw.grownO hgr6) fun g' e1 e2 => apart (g := g') (own_below (own_below HO.out.row (hB ▸ hr5)) hba) hOr (by decide) e1 e2
      have y6 := (hrow6.cellAt i (by omega)).trans (map_get R i (by rw [HO.out.len]; exact hil))
      have f6 := hrow6.frozenAt i
      refine wpAnyH_ready (rs := [11]) (by kernel_rfl) (by simp) (AllReadyH.cons (o := { dst := none, op := _, type := _, pos := _, after := _, guard := _ }) rfl ?_ AllReadyH.nil)
      intro K5 hK5
      go_simp
      refine hK5.out _ _ (three (set_else hbx (by show B ≠ g; omega))) (fun _ => ?_)
      clear hK5 K5
      refine wpAnyH_done (by kernel_rfl) ?_ _
      have HE6 := hid (hX6.setCell (p := ⟨g, i, none⟩) (Nat.le_refl _) (.slice a6 (s.ps.length + 1) c6))
      have HR6 : Hid ((R.set i ⟨s.ps ++ [q'], a6, c6⟩).map plS = shs ((ps.take (k + 1)).map pl) n) := by
        unfold Hid
        rw [HTk.out, List.map_append, List.map_singleton, shs_snoc, HI.out, ← HR.out, List.map_set]
        have e1 : (R.map plS).getD i [] = plS s := by
          rw [HSe.out]
          have := HO.out.len
          simp [show i < R.length by omega]
        rw [e1]
        simp [plS, hpl5]
      have HG6 : Hid (allG ((ps.take (k + 1)).map pl) = true) := by
        unfold Hid
        rw [HTk.out, List.map_append, List.map_singleton, allG_snoc, HG.out]
        simp [pl, HGq.out]
      have HL6 : Hid (∀ j, j < n → ((R.set i ⟨s.ps ++ [q'], a6, c6⟩).getD j s0).ps.length ≤ k + 1) := fun j hj => by
        rw [getD_setS R i j _ (by have := HO.out.len; omega)]
        by_cases e : i = j
        · rw [if_pos e]; simp; exact HLs.out
        · rw [if_neg e]; have := HLe.out j hj; omega
      have HP6 := hid HPu.out.1
      clear HPu hown6 hgr6 hat6 hbx hX6 hrow6 y6 f6 hOr hwa hba z5 z6 hw5 hr5 hb5 hol5 hpl5 HC HSB z0 HEi HC0 HSe HO HR HG HLe HX HX3 HBx3 HT3 hHeld hX3d hdr
      subst hg
      go_wp2
      go_roundw
      case rel => exact ⟨k + 1, _, by omega, by go_num, HP6.out, HR6.out, HG6.out, HL6.out, HE6.out⟩
      case measure => simp [intOf]; omega
    · intro K1 hK1
      go_simp
      go_wp2_with (go_at_call 25; refine HC.out.mono ?_; rintro e w5 ⟨q', rfl, hpl5, hol5, hb5⟩)
      have hw5 : Below w3.heap.size w3 w5 := hdr.trans (hb5.mono hdr.size)
      refine hK1.out _ _ (three (kept HBx3.out hw5)) (fun _ => ?_)
      clear hK1 K1
      try simp only [Act.put, List.setIfInBounds_toArray, List.set_cons_zero, List.set_cons_succ]
      have z5 := (hb5.cell (p := ⟨g, i, none⟩) (show g < w3.drew.heap.size by have := hX3d.size; omega)).trans z0
      have hr5 : Below B wr w5 := HX3.out.trans (hw5.mono (by omega))
      refine wpAnyH_ready (rs := [5, 8]) (by kernel_rfl) (by simp) (AllReadyH.cons (o := { dst := some 42, op := _, type := _, pos := _, after := _, guard := _ }) rfl ?_ (AllReadyH.cons (o := { dst := some 45, op := _, type := _, pos := _, after := _, guard := _ }) rfl ?_ AllReadyH.nil))
      · intro K2 hK2
        go_simp
        refine hK2.out _ _ (three (kept HBx3.out hw5)) (fun _ => ?_)
        clear hK2 K2
        try simp only [Act.put, List.setIfInBounds_toArray, List.set_cons_zero, List.set_cons_succ]
        refine wpAnyH_ready (rs := [8]) (by kernel_rfl) (by simp) (AllReadyH.cons (o := { dst := some 45, op := _, type := _, pos := _, after := _, guard := _ }) rfl ?_ AllReadyH.nil)
        intro K3 hK3
        go_simp
        have hba := (Below.refl w5.heap.size w5).alloc (Nat.le_refl _) (.cells #[.slice q'.a q'.l.length q'.c, .int .i64 q'.f, .int .i64 q'.t] 46)
        have hwa := hw5.trans (hba.mono hw5.size)
        refine hK3.out _ _ (three (kept HBx3.out hwa)) (fun _ => ?_)
        clear hK3 K3
        try simp only [Act.put, List.setIfInBounds_toArray, List.set_cons_zero, List.set_cons_succ]
        have z6 := (hba.cell (p := ⟨g, i, none⟩) (show g < w5.heap.size by have := hX3d.size; have := hb5.size; omega)).trans z5
        refine wpAnyH_ready (rs := [9]) (by kernel_rfl) (by simp) (AllReadyH.cons (o := { dst := some 46, op := _, type := _, pos := _, after := _, guard := _ }) rfl ?_ AllReadyH.nil)
        intro K4 hK4
        have hOr : (w5.alloc (.cells #[.slice q'.a q'.l.length q'.c, .int .i64 q'.f, .int .i64 q'.t] 46)).ownsRow g 46 3 (.slice s.a s.ps.length s.c) s.ps.length (flat s.ps) := own_below (own_below HEi.out.row (hB ▸ hr5)) hba
        refine step_append_p rfl (.tmp 42) (.tmp 45) 32 rfl g 46 i0 (.agg #[.slice none 0 0, .int .i64 0, .int .i64 0]) 3 40 Try.underlying32 hi hz0 hz1 hz2 rfl (by decide) s.a s.ps.length s.c (flat s.ps) rfl hOr ⟨w5.heap.size, 0, none⟩ 1 1 [.slice q'.a q'.l.length q'.c, .int .i64 q'.f, .int .i64 q'.t] rfl rfl (three_row w5 _ _ _ _) (by intro u hu; simp at hu; rcases hu with rfl | rfl | rfl <;> rfl) (by have := HLs.out; unfold maxLen; omega) (by have := HLs.out; omega) (by have := HX.out.size; have := hr5.size; simp; omega) ?_
        intro v6 w6 hown6 hgr6 hat6
        obtain ⟨a6, c6, rfl⟩ := own_form hown6
        have hgX := HX.out.size
        have HPu := hid (OwnSS.push (q' := q') HO.out ((hB ▸ hr5 : Below wr.heap.size wr w5).trans (hba.mono (hB ▸ hr5 : Below wr.heap.size wr w5).size)) (by omega) hil ((hol5.base (by show wr.heap.size ≤ w3.drew.heap.size; omega)).below hba) (by rw [← HSe.out]; exact hgr6) (by rw [← HSe.out]; exact hown6) (by rw [← HSe.out]; exact hat6))
        rw [← HSe.out] at HPu
        have hX6 : Below g w w6 := (HX.out.trans ((hr5.trans (hba.mono (by have := hr5.size; omega))).mono (by omega))).grown hgr6 (by simp; have := hr5.size; omega) (fun j hj => (hOr.lt j hj).1)
        have hbx : w6.heap[B]? = some (.cells #[.slice q.a q.l.length q.c, .int .i64 q.f, .int .i64 q.t] 46) := by
          rw [hgr6.block B (by have := hwa.size; omega) (fun e => by have := (HEi.out.row.lt B e.symm).2; omega)]
          exact kept HBx3.out hwa
        refine hK4.out _ _ (three hbx) (fun _ => ?_)
        clear hK4 K4
        try simp only [Act.put, List.setIfInBounds_toArray, List.set_cons_zero, List.set_cons_succ]
        refine wpAnyH_take (i := 10) (oi := { dst := some 47, op := _, type := _, pos := _, after := _, guard := _ }) (v := (.pointer (some ⟨g, i, none⟩))) rfl (by kernel_rfl) (by kernel_rfl) (by kernel_rfl) (fun _ _ _ h => h) (Or.inl ⟨by rfl, fun w hSw => by (try dsimp only at hSw); go_split_ands; go_simp⟩) (three hbx) ?_
        simp only [Act.put, List.setIfInBounds_toArray, List.set_cons_zero, List.set_cons_succ]
        have hrow6 : w6.ownsRow g 32 1 (.slice (some ⟨g, 0, none⟩) n n) n (R.map vS) := own_fw (own_below (own_below HO.out.row (hB ▸ hr5)) hba) (Fw.grownO hgr6) fun g' e1 e2 => apart (g := g') (own_below (own_below HO.out.row (hB ▸ hr5)) hba) hOr (by decide) e1 e2
        have y6 := (hrow6.cellAt i (by omega)).trans (map_get R i (by rw [HO.out.len]; exact hil))
        have f6 := hrow6.frozenAt i
        refine wpAnyH_ready (rs := [11]) (by kernel_rfl) (by simp) (AllReadyH.cons (o := { dst := none, op := _, type := _, pos := _, after := _, guard := _ }) rfl ?_ AllReadyH.nil)
        intro K5 hK5
        go_simp
        refine hK5.out _ _ (three (set_else hbx (by show B ≠ g; omega))) (fun _ => ?_)
        clear hK5 K5
        refine wpAnyH_done (by kernel_rfl) ?_ _
        have HE6 := hid (hX6.setCell (p := ⟨g, i, none⟩) (Nat.le_refl _) (.slice a6 (s.ps.length + 1) c6))
        have HR6 : Hid ((R.set i ⟨s.ps ++ [q'], a6, c6⟩).map plS = shs ((ps.take (k + 1)).map pl) n) := by
          unfold Hid
          rw [HTk.out, List.map_append, List.map_singleton, shs_snoc, HI.out, ← HR.out, List.map_set]
          have e1 : (R.map plS).getD i [] = plS s := by
            rw [HSe.out]
            have := HO.out.len
            simp [show i < R.length by omega]
          rw [e1]
          simp [plS, hpl5]
        have HG6 : Hid (allG ((ps.take (k + 1)).map pl) = true) := by
          unfold Hid
          rw [HTk.out, List.map_append, List.map_singleton, allG_snoc, HG.out]
          simp [pl, HGq.out]
        have HL6 : Hid (∀ j, j < n → ((R.set i ⟨s.ps ++ [q'], a6, c6⟩).getD j s0).ps.length ≤ k + 1) := fun j hj => by
          rw [getD_setS R i j _ (by have := HO.out.len; omega)]
          by_cases e : i = j
          · rw [if_pos e]; simp; exact HLs.out
          · rw [if_neg e]; have := HLe.out j hj; omega
        have HP6 := hid HPu.out.1
        clear HPu hown6 hgr6 hat6 hbx hX6 hrow6 y6 f6 hOr hwa hba z5 z6 hw5 hr5 hb5 hol5 hpl5 HC HSB z0 HEi HC0 HSe HO HR HG HLe HX HX3 HBx3 HT3 hHeld hX3d hdr
        subst hg
        go_wp2
        go_roundw
        case rel => exact ⟨k + 1, _, by omega, by go_num, HP6.out, HR6.out, HG6.out, HL6.out, HE6.out⟩
        case measure => simp [intOf]; omega
      · intro K2 hK2
        go_simp
        have hba := (Below.refl w5.heap.size w5).alloc (Nat.le_refl _) (.cells #[.slice q'.a q'.l.length q'.c, .int .i64 q'.f, .int .i64 q'.t] 46)
        have hwa := hw5.trans (hba.mono hw5.size)
        refine hK2.out _ _ (three (kept HBx3.out hwa)) (fun _ => ?_)
        clear hK2 K2
        try simp only [Act.put, List.setIfInBounds_toArray, List.set_cons_zero, List.set_cons_succ]
        have z6 := (hba.cell (p := ⟨g, i, none⟩) (show g < w5.heap.size by have := hX3d.size; have := hb5.size; omega)).trans z5
        refine wpAnyH_ready (rs := [5]) (by kernel_rfl) (by simp) (AllReadyH.cons (o := { dst := some 42, op := _, type := _, pos := _, after := _, guard := _ }) rfl ?_ AllReadyH.nil)
        intro K3 hK3
        go_simp
        refine hK3.out _ _ (three (kept HBx3.out hwa)) (fun _ => ?_)
        clear hK3 K3
        try simp only [Act.put, List.setIfInBounds_toArray, List.set_cons_zero, List.set_cons_succ]
        refine wpAnyH_ready (rs := [9]) (by kernel_rfl) (by simp) (AllReadyH.cons (o := { dst := some 46, op := _, type := _, pos := _, after := _, guard := _ }) rfl ?_ AllReadyH.nil)
        intro K4 hK4
        have hOr : (w5.alloc (.cells #[.slice q'.a q'.l.length q'.c, .int .i64 q'.f, .int .i64 q'.t] 46)).ownsRow g 46 3 (.slice s.a s.ps.length s.c) s.ps.length (flat s.ps) := own_below (own_below HEi.out.row (hB ▸ hr5)) hba
        refine step_append_p rfl (.tmp 42) (.tmp 45) 32 rfl g 46 i0 (.agg #[.slice none 0 0, .int .i64 0, .int .i64 0]) 3 40 Try.underlying32 hi hz0 hz1 hz2 rfl (by decide) s.a s.ps.length s.c (flat s.ps) rfl hOr ⟨w5.heap.size, 0, none⟩ 1 1 [.slice q'.a q'.l.length q'.c, .int .i64 q'.f, .int .i64 q'.t] rfl rfl (three_row w5 _ _ _ _) (by intro u hu; simp at hu; rcases hu with rfl | rfl | rfl <;> rfl) (by have := HLs.out; unfold maxLen; omega) (by have := HLs.out; omega) (by have := HX.out.size; have := hr5.size; simp; omega) ?_
        intro v6 w6 hown6 hgr6 hat6
        obtain ⟨a6, c6, rfl⟩ := own_form hown6
        have hgX := HX.out.size
        have HPu := hid (OwnSS.push (q' := q') HO.out ((hB ▸ hr5 : Below wr.heap.size wr w5).trans (hba.mono (hB ▸ hr5 : Below wr.heap.size wr w5).size)) (by omega) hil ((hol5.base (by show wr.heap.size ≤ w3.drew.heap.size; omega)).below hba) (by rw [← HSe.out]; exact hgr6) (by rw [← HSe.out]; exact hown6) (by rw [← HSe.out]; exact hat6))
        rw [← HSe.out] at HPu
        have hX6 : Below g w w6 := (HX.out.trans ((hr5.trans (hba.mono (by have := hr5.size; omega))).mono (by omega))).grown hgr6 (by simp; have := hr5.size; omega) (fun j hj => (hOr.lt j hj).1)
        have hbx : w6.heap[B]? = some (.cells #[.slice q.a q.l.length q.c, .int .i64 q.f, .int .i64 q.t] 46) := by
          rw [hgr6.block B (by have := hwa.size; omega) (fun e => by have := (HEi.out.row.lt B e.symm).2; omega)]
          exact kept HBx3.out hwa
        refine hK4.out _ _ (three hbx) (fun _ => ?_)
        clear hK4 K4
        try simp only [Act.put, List.setIfInBounds_toArray, List.set_cons_zero, List.set_cons_succ]
        refine wpAnyH_take (i := 10) (oi := { dst := some 47, op := _, type := _, pos := _, after := _, guard := _ }) (v := (.pointer (some ⟨g, i, none⟩))) rfl (by kernel_rfl) (by kernel_rfl) (by kernel_rfl) (fun _ _ _ h => h) (Or.inl ⟨by rfl, fun w hSw => by (try dsimp only at hSw); go_split_ands; go_simp⟩) (three hbx) ?_
        simp only [Act.put, List.setIfInBounds_toArray, List.set_cons_zero, List.set_cons_succ]
        have hrow6 : w6.ownsRow g 32 1 (.slice (some ⟨g, 0, none⟩) n n) n (R.map vS) := own_fw (own_below (own_below HO.out.row (hB ▸ hr5)) hba) (Fw.grownO hgr6) fun g' e1 e2 => apart (g := g') (own_below (own_below HO.out.row (hB ▸ hr5)) hba) hOr (by decide) e1 e2
        have y6 := (hrow6.cellAt i (by omega)).trans (map_get R i (by rw [HO.out.len]; exact hil))
        have f6 := hrow6.frozenAt i
        refine wpAnyH_ready (rs := [11]) (by kernel_rfl) (by simp) (AllReadyH.cons (o := { dst := none, op := _, type := _, pos := _, after := _, guard := _ }) rfl ?_ AllReadyH.nil)
        intro K5 hK5
        go_simp
        refine hK5.out _ _ (three (set_else hbx (by show B ≠ g; omega))) (fun _ => ?_)
        clear hK5 K5
        refine wpAnyH_done (by kernel_rfl) ?_ _
        have HE6 := hid (hX6.setCell (p := ⟨g, i, none⟩) (Nat.le_refl _) (.slice a6 (s.ps.length + 1) c6))
        have HR6 : Hid ((R.set i ⟨s.ps ++ [q'], a6, c6⟩).map plS = shs ((ps.take (k + 1)).map pl) n) := by
          unfold Hid
          rw [HTk.out, List.map_append, List.map_singleton, shs_snoc, HI.out, ← HR.out, List.map_set]
          have e1 : (R.map plS).getD i [] = plS s := by
            rw [HSe.out]
            have := HO.out.len
            simp [show i < R.length by omega]
          rw [e1]
          simp [plS, hpl5]
        have HG6 : Hid (allG ((ps.take (k + 1)).map pl) = true) := by
          unfold Hid
          rw [HTk.out, List.map_append, List.map_singleton, allG_snoc, HG.out]
          simp [pl, HGq.out]
        have HL6 : Hid (∀ j, j < n → ((R.set i ⟨s.ps ++ [q'], a6, c6⟩).getD j s0).ps.length ≤ k + 1) := fun j hj => by
          rw [getD_setS R i j _ (by have := HO.out.len; omega)]
          by_cases e : i = j
          · rw [if_pos e]; simp; exact HLs.out
          · rw [if_neg e]; have := HLe.out j hj; omega
        have HP6 := hid HPu.out.1
        clear HPu hown6 hgr6 hat6 hbx hX6 hrow6 y6 f6 hOr hwa hba z5 z6 hw5 hr5 hb5 hol5 hpl5 HC HSB z0 HEi HC0 HSe HO HR HG HLe HX HX3 HBx3 HT3 hHeld hX3d hdr
        subst hg
        go_wp2
        go_roundw
        case rel => exact ⟨k + 1, _, by omega, by go_num, HP6.out, HR6.out, HG6.out, HL6.out, HE6.out⟩
        case measure => simp [intOf]; omega
end Go.Proofs.Ytjjdfenbfjcmaaa.Ptn
