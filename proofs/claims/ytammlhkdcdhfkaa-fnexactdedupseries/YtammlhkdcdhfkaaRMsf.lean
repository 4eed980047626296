/- Lists of series joined: the program's joinLists at firstOf. -/
import Derived.Test.YtammlhkdcdhfkaaRMse
import Derived.Deep.QuietTactic
namespace Go.Proofs.Ytammlhkdcdhfkaa.Srs
open Go.RowKit
open Go.Proofs.Ytammlhkdcdhfkaa.Lab (Lb HasL cmpList)
open Go.Proofs.Ytammlhkdcdhfkaa.Smp (Sm HasS mrg)
open Go.Proofs.Ytammlhkdcdhfkaa.Stb (isort ltP ltQ runs upd eqv sortQ isort_mem isort_len isortQ foldl_runs)

/-- Two series of the same name, joined. -/
def jF (x y : Pl) : Pl := (x.1, mrg x.2 y.2)
theorem mrg_pos {xs ys : List Sm} (h : xs ≠ []) : mrg xs ys ≠ [] := by
  cases xs with
  | nil => exact absurd rfl h
  | cons p A =>
    cases ys with
    | nil => rw [Smp.mrg_nil_right]; simp
    | cons q B =>
      rw [Smp.mrg_cons]
      split
      · simp
      · split <;> simp
/-- Series that can be joined. -/
structure JQ (q : Q) : Prop where
  l1 : q.l ≠ []
  s1 : q.s ≠ []
  l2 : q.l.length ≤ 20
  s2 : q.s.length ≤ 2000
  d2 : q.d = q.s.length
theorem take_get {S : List Q} {k : Nat} (h : k < S.length) : S.take (k + 1) = S.take k ++ [S.getD k q0] := by
  rw [List.take_succ_eq_append_getElem h]; simp [h]
theorem get_mem' {S : List Q} {k : Nat} (h : k < S.length) : S.getD k q0 ∈ S := by
  have e : S.getD k q0 = S[k] := by simp [h]
  rw [e]; exact List.getElem_mem h
theorem own_hasO {w : World} {base n c E : Nat} {a : Option Addr} {qs : List Q} (h : w.ownsRow base E 2 (.slice a n c) n (flat qs)) (hT : ∀ q ∈ qs, HasL w q.a q.l ∧ HasS w q.b q.s) : HasQ w a qs := by
  rcases h.2 with ⟨_, h2⟩ | ⟨g, cap, cur, h1, _⟩
  · have := h.1
    rw [flat_len, h2] at this
    exact .inl (List.eq_nil_of_length_eq_zero (by omega))
  · simp only [Value.slice.injEq] at h1
    rw [h1.1] at h ⊢
    exact own_has h fun i hi => hT _ (get_mem' hi)
/-- The state: what is joined of the first k. -/
abbrev JR (S R : List Q) (k : Nat) : Prop := R.map pl = ((S.take k).map pl).foldl (upd ltP jF) [] ∧ ∀ q ∈ R, q.s ≠ [] ∧ q.l.length ≤ 20 ∧ q.s.length ≤ 2000 * k
/-- Whether the last one that is joined has the name of the one at hand. -/
def jb (R : List Q) (q : Q) : Bool := match R.getLast? with | none => false | some p => decide (cmpList p.l q.l = 0)
theorem jb_nil (q : Q) : jb [] q = false := rfl
theorem jb_snoc (R : List Q) (p q : Q) : jb (R ++ [p]) q = decide (cmpList p.l q.l = 0) := by simp [jb]
theorem snoc_of {R : List Q} {m : Nat} (h : R.length = m + 1) : ∃ R' p, R = R' ++ [p] ∧ R'.length = m := by
  have hne : R ≠ [] := by intro e; rw [e] at h; simp at h
  exact ⟨R.dropLast, R.getLast hne, (List.dropLast_concat_getLast hne).symm, by simp [h]⟩
/-- What is read: the last one that is joined, and the one at hand in its box. -/
abbrev SJ (g o B : Nat) (p q : Q) (W x : World) : Prop := x.cell? ⟨g, o, none⟩ = some (.slice p.a p.l.length p.c) ∧ x.cell? ⟨g, o + 1, none⟩ = some (.slice p.b p.s.length p.d) ∧ x.cell? ⟨B, 0, none⟩ = some (.slice q.a q.l.length q.c) ∧ x.cell? ⟨B, 1, none⟩ = some (.slice q.b q.s.length q.d) ∧ Below W.heap.size W x
theorem step_append_j {P : Program} {ops : Array Oper} {o : Oper} {a : Act} {w : World} {K : Act → World → Prop} {Q : Exit → Act → World → Prop} {E : Prop}
    (hg : o.guard = none) (s x : Operand) (t : TypeId) (hop : o.op = Op.call { callee := Callee.builtin Builtin.append, args := #[s, x], argTypes := #[t, t] })
    (base : Nat) (e : TypeId) (i : TypeInfo) (z : Value) (size bytes : Nat) (h1 : P.underlying t = some (.slice e)) (h2 : P.info? e = some i) (h3 : i.zero = some z) (h4 : i.size = size) (h5 : i.bytes = bytes) (h6 : z.cells.size = size) (h7 : 0 < size)
    (ao : Option Addr) (n cap : Nat) (olds : List Value) (hs : a.eval s = .slice ao n cap) (hown : w.ownsRow base e size (.slice ao n cap) n olds)
    (ad : Addr) (m c : Nat) (news : List Value) (hx : a.eval x = .slice (some ad) m c) (hn : news.length = m * size) (hc : ∀ j u, news[j]? = some u → w.cell? (ad.add j) = some u) (h1c : ∀ u ∈ news, u.oneCell' = true)
    (b1 : n + m ≤ maxLen) (b2 : (n + m) * bytes ≤ 140737488355328) (hbase : base ≤ w.heap.size)
    (hK : ∀ v' w', w'.ownsRow base e size v' (n + m) (olds ++ news) → w.grownBy w' (Value.slice ao n cap).ownBlock → (v'.ownBlock = (Value.slice ao n cap).ownBlock ∨ v'.ownBlock = some w.heap.size) → K (a.put o.dst v') w') :
    if Region.wanted o (yielded ops a.tmps) = true then Oper.wp P o a w K Q else E := by
  have hw : Region.wanted o (yielded ops a.tmps) = true := by simp [Region.wanted, hg]
  rw [if_pos hw]
  obtain ⟨v', w', hrun, r1, r2, _, r4⟩ := run_append_own_at (P := P) w base t o.type e i z size bytes h1 h2 h3 h4 h5 h6 h7 (.slice ao n cap) n olds hown ad m c news hn hc h1c b1 b2 hbase
  unfold Oper.wp
  simp [execOp, hop, resolve, invoke, builtin, hs, hx, hrun, Result.andThen]
  exact hK v' w' r1 r2 r4
/-- The one at hand in its box. -/
abbrev SB (q : Q) (B : Nat) (x : World) : Prop := x.cell? ⟨B, 0, none⟩ = some (.slice q.a q.l.length q.c) ∧ x.cell? ⟨B, 1, none⟩ = some (.slice q.b q.s.length q.d)
theorem own_formP {w : World} {base e size n : Nat} {v : Value} {xs : List Value} (h : w.ownsRow base e size v n xs) (hp : 0 < n) : ∃ g c, v = .slice (some ⟨g, 0, none⟩) n c := by
  rcases h.2 with ⟨_, h2⟩ | ⟨g, cap, cur, h1, _⟩
  · omega
  · exact ⟨g, cap, h1⟩
theorem JR.join {S R' : List Q} {p q q' : Q} {k : Nat} (h : JR S (R' ++ [p]) k) (ht : S.take (k + 1) = S.take k ++ [q]) (hc : cmpList p.l q.l = 0) (hq : JQ q) (hl : q'.l = p.l) (hs : q'.s = mrg p.s q.s) : JR S (R' ++ [q']) (k + 1) := by
  refine ⟨?_, fun x hx => ?_⟩
  · rw [ht, show (S.take k ++ [q]).map pl = (S.take k).map pl ++ [pl q] by simp, List.foldl_append, ← h.1]
    simp only [List.map_append, List.map_cons, List.map_nil, List.foldl_cons, List.foldl_nil]
    rw [Stb.upd_eq (by rw [Stb.eqvP]; exact decide_eq_true hc)]
    simp only [pl, jF, hl, hs]
  · rcases List.mem_append.1 hx with h1 | h1
    · have := h.2 x (by simp [h1])
      exact ⟨this.1, this.2.1, by omega⟩
    · obtain rfl : x = q' := by simpa using h1
      have h2 := h.2 p (by simp)
      refine ⟨by rw [hs]; exact mrg_pos h2.1, by rw [hl]; exact h2.2.1, ?_⟩
      have := Smp.mrg_len p.s q.s
      have := hq.s2
      rw [hs]; omega
theorem JR.more {S R : List Q} {q q' : Q} {k : Nat} (h : JR S R k) (ht : S.take (k + 1) = S.take k ++ [q]) (hj : jb R q = false) (hq : JQ q) (he : pl q' = pl q) : JR S (R ++ [q']) (k + 1) := by
  have hl : q'.l = q.l := congrArg Prod.fst he
  have hs : q'.s = q.s := congrArg Prod.snd he
  refine ⟨?_, fun x hx => ?_⟩
  · rw [ht, show (S.take k ++ [q]).map pl = (S.take k).map pl ++ [pl q] by simp, List.foldl_append, ← h.1]
    simp only [List.map_append, List.map_cons, List.map_nil, List.foldl_cons, List.foldl_nil, he]
    by_cases h0 : R.length = 0
    · rw [List.eq_nil_of_length_eq_zero h0]; rfl
    · obtain ⟨R', p, rfl, _⟩ := snoc_of (R := R) (m := R.length - 1) (by omega)
      rw [jb_snoc] at hj
      rw [List.map_append, List.map_singleton, Stb.upd_ne (by rw [Stb.eqvP]; exact hj)]
  · rcases List.mem_append.1 hx with h1 | h1
    · have := h.2 x h1
      exact ⟨this.1, this.2.1, by omega⟩
    · obtain rfl : x = q' := by simpa using h1
      have := hq.s2
      exact ⟨by rw [hs]; exact hq.s1, by rw [hl]; exact hq.l2, by rw [hs]; omega⟩
set_option maxRecDepth 10000 in
set_option maxHeartbeats 8000000 in
theorem f36 (b c : Nat) (Ls : List Pc) (w : World) (hp : Pcs w b Ls) (h3 : Ls.length ≤ 3) (hn : (joined Ls Ls.length).length ≤ 400) (hq : ∀ q ∈ joined Ls Ls.length, JQ q ∧ HasL w q.a q.l ∧ HasS w q.b q.s) :
    Calls Try.prog 36 #[.func (.func 37) #[] #[], .slice (some ⟨b, 0, none⟩) Ls.length c] w fun e w' => ∃ a' m' c' R, e = .returned (.slice a' m' c') ∧ OwnO w.heap.size a' m' c' R w' ∧ R.map pl = runs ltP jF (isort ltP ((joined Ls Ls.length).map pl)) ∧ (m' ≤ 400 ∧ ∀ q ∈ R, q.s ≠ [] ∧ q.l.length ≤ 20 ∧ q.s.length ≤ 800000) ∧ Below w.heap.size w w' := by
  obtain ⟨i0, hi, hz0, hz1, hz2⟩ := info_parts infoQ''
  have HCC := hid (f64 b c Ls w hp h3 (by omega))
  have HSS := hid (fun v x => sortQ w x v (joined Ls Ls.length) (by omega))
  generalize joined Ls Ls.length = D at *
  generalize hnn : D.length = n at *
  have HN := hid hnn
  have HQ := hid hq
  clear hp hq hnn
  go_enter Try.func36, Try.ntmps36
  go_wp2_with fail
  refine HCC.out.mono ?_
  rintro e w1 ⟨v1, rfl, ho1, hb1⟩
  obtain ⟨va, ca, rfl⟩ := Smp.own_form ho1
  have HS1 := hid (HSS.out _ w1 hb1 (fun q hq => ⟨by have := (HQ.out q hq).1.l2; omega, (HQ.out q hq).2.1⟩) ho1)
  clear ho1 hb1 HCC HSS
  go_wp2_with fail
  refine HS1.out.mono ?_
  rintro e w2 ⟨rfl, ho2, hb2⟩
  have HB2 := hid hb2
  obtain ⟨S, hS⟩ : ∃ S, S = isort ltQ D := ⟨_, rfl⟩
  rw [← hS] at ho2
  have HSn : Hid (S.length = n) := by unfold Hid; rw [hS, isort_len]; exact HN.out
  have HSq : Hid (∀ q ∈ S, JQ q) := fun q hq => (HQ.out q (by rw [hS] at hq; exact isort_mem.1 hq)).1
  have HRQ : Hid (HasQ w2 va S) := own_hasO ho2 fun q hq => by
    have := (HQ.out q (by rw [hS] at hq; exact isort_mem.1 hq)).2
    exact ⟨this.1.below hb2, this.2.below hb2⟩
  have HFin : Hid (((S.take n).map pl).foldl (upd ltP jF) [] = runs ltP jF (isort ltP (D.map pl))) := by
    unfold Hid
    rw [List.take_of_length_le (by rw [HSn.out]; exact Nat.le_refl _), foldl_runs, hS, isortQ]
  clear ho2 hb2 HS1 HQ hS HN
  have hsz : w.heap.size ≤ w2.heap.size := HB2.out.size
  go_wp2_with (at_make; refine wpList_make_own _ rfl _ _ 24 rfl w2.heap.size 42 i0 (.agg #[.slice none 0 0, .slice none 0 0]) 2 Try.underlying24 hi hz0 hz1 _ _ _ n rfl rfl (by omega) ?b2 ?b3 (Nat.le_refl _) ?_)
  case b2 => rw [hz2]; omega
  case b3 => unfold maxLen; omega
  intro w3 hown0 hgrow0
  have HB3 := hid ((Below.refl w2.heap.size w2).grown hgrow0 (Nat.le_refl _) (fun k h => by cases h))
  have HO0 : Hid (OwnO w2.heap.size (some ⟨w2.heap.size, 0, none⟩) 0 n [] w3) := ⟨rfl, hown0, fun i hi => by omega, fun g _ i hi => by omega, fun i j hi => by omega⟩
  clear hown0 hgrow0
  go_wp2
  go_loopw [6, 19] (fun so si wr => ∃ (k m c' : Nat) (a' : Option Addr) (R : List Q), k ≤ n ∧ m ≤ k ∧ si = .int .i64 k ∧ so = .slice a' m c' ∧ Hid (OwnO w2.heap.size a' m c' R wr) ∧ Hid (JR S R k) ∧ Hid (Below w2.heap.size w2 wr)) (fun _ si _ => n - (intOf si).toNat)
  case atStart => exact ⟨0, 0, n, _, [], Nat.zero_le _, Nat.zero_le _, rfl, rfl, HO0.out, ⟨rfl, fun q hq => by cases hq⟩, HB3.out⟩
  case round =>
    clear HO0 HB3
    obtain ⟨k, m, c', a', R, hk, hm, rfl, rfl, HO, HS, HX⟩ := hrel
    by_cases hlt : k < n
    rotate_left
    · obtain rfl : k = n := by omega
      go_wp2
      go_ret
      exact ⟨a', m, c', R, rfl, HO.out.base hsz, HS.out.1.trans HFin.out, ⟨by omega, fun x hx => by have := HS.out.2 x hx; exact ⟨this.1, this.2.1, by omega⟩⟩, HB2.out.trans (HX.out.mono hsz)⟩
    obtain ⟨bb, off, rfl, hbl, c0, c1, t1, t2⟩ := (HRQ.out.below HX.out).at2 k (by rw [HSn.out]; exact hlt)
    have HJ := hid (HSq.out _ (get_mem' (show k < S.length by rw [HSn.out]; exact hlt)))
    have HTk := hid (take_get (show k < S.length by rw [HSn.out]; exact hlt))
    generalize S.getD k q0 = q at *
    have i1 : (k : Int) < (n : Int) := by omega
    have HW0 := hid ((Below.refl wr.heap.size wr).alloc (Nat.le_refl _) (.cells #[.slice q.a q.l.length q.c, .slice q.b q.s.length q.d] 42))
    have HBx := hid (heap_alloc_new wr (.cells #[.slice q.a q.l.length q.c, .slice q.b q.s.length q.d] 42))
    have HT1 := hid (t1.below HW0.out)
    have HT2 := hid (t2.below HW0.out)
    obtain ⟨W, hW⟩ : ∃ W, W = wr.alloc (.cells #[.slice q.a q.l.length q.c, .slice q.b q.s.length q.d] 42) := ⟨_, rfl⟩
    rw [← hW] at HW0 HBx HT1 HT2
    clear t1 t2 hbl
    go_upto_region 8 with fail
    rw [← hW]
    clear hW c0 c1
    have hd2 : Below W.heap.size W W.drew := (Below.refl _ _).drew
    have hwW : wr.heap.size ≤ W.heap.size := HW0.out.size
    go_cut [9, 36] from 20 to 60 (fun c9 cc wx => c9 = .int .i64 ((m : Int) - 1) ∧ cc = .bool (jb R q) ∧ Hid (Below W.heap.size W wx))
    case first =>
      by_cases hm0 : m = 0
      · subst hm0
        have hR : R = [] := List.eq_nil_of_length_eq_zero HO.out.len
        subst hR
        go_quiet (fail)
        go_wp2
        go_meet
        exact ⟨by go_num, rfl, Lab.below_drewN (Below.refl _ _) _⟩
      · obtain ⟨m', rfl⟩ : ∃ m', m = m' + 1 := ⟨m - 1, by omega⟩
        obtain ⟨R', p, rfl, hR'⟩ := snoc_of HO.out.len
        obtain ⟨g, rfl⟩ : ∃ g, a' = some ⟨g, 0, none⟩ := by
          rcases HO.out.cases with ⟨_, h, _⟩ | ⟨g, h, _⟩
          · omega
          · exact ⟨g, h⟩
        have hg : g < wr.heap.size := (HO.out.row.lt g rfl).2
        obtain ⟨y0, y1⟩ := flat_get (R' ++ [p]) m' (by simp [hR'])
        rw [getD_snoc, if_pos hR'.symm] at y0 y1
        have z0 := (HO.out.row.cellAt (m' * 2) (by omega)).trans y0
        have z1 := (HO.out.row.cellAt (m' * 2 + 1) (by omega)).trans y1
        have hWd : Below wr.heap.size wr W.drew := HW0.out.trans (hd2.mono hwW)
        have HSJ : Hid (SJ g (m' * 2) wr.heap.size p q W.drew W.drew) := ⟨(hWd.cell (p := ⟨g, m' * 2, none⟩) hg).trans z0, (hWd.cell (p := ⟨g, m' * 2 + 1, none⟩) hg).trans z1, (two (kept HBx.out hd2)).1, (two (kept HBx.out hd2)).2, Below.refl _ _⟩
        have hop := HO.out.own m' (by omega)
        rw [getD_snoc, if_pos hR'.symm] at hop
        have HCall := hid (f27 p q W.drew (by have := (HS.out.2 p (by simp)).2.1; omega) (by have := HJ.out.l2; omega) (hop.hasL.below hWd) (HT1.out.below hd2))
        clear hop y0 y1 z0 z1
        have hB : wr.heap.size < W.drew.heap.size := lt_at (kept HBx.out hd2)
        have hgW : g < W.drew.heap.size := Nat.lt_of_lt_of_le hg hWd.size
        clear hg
        have j1 : (0 : Int) ≤ (m' : Int) := by omega
        have j2 : (m' : Int) < (m' : Int) + 1 := by omega
        have j3 : (m' : Int) < ((m' + 1 : Nat) : Int) := by omega
        have j4 : m' < m' + 1 := by omega
        generalize wr.heap.size = B at *
        go_region_held3 (fun x => SJ g (m' * 2) B p q W.drew x) (first | exact HSJ.out | assumption) (first | (go_at_call 27; refine HCall.out.mono ?_; rintro e w5 ⟨rfl, hb5⟩; have hs5 : SJ g (m' * 2) B p q W.drew w5 := ⟨(hb5.cell (p := ⟨g, m' * 2, none⟩) hgW).trans HSJ.out.1, (hb5.cell (p := ⟨g, m' * 2 + 1, none⟩) hgW).trans HSJ.out.2.1, (hb5.cell (p := ⟨B, 0, none⟩) hB).trans HSJ.out.2.2.1, (hb5.cell (p := ⟨B, 1, none⟩) hB).trans HSJ.out.2.2.2.1, hb5⟩))
        go_wp2
        go_meet
        exact ⟨by go_num, by rw [jb_snoc]; rfl, hd2.trans (hb5.mono hd2.size)⟩
    case rest =>
    obtain ⟨rfl, rfl, HX5⟩ := hcut
    cases hj : jb R q with
    | true =>
      obtain ⟨m', rfl⟩ : ∃ m', m = m' + 1 := ⟨m - 1, by
        have : m ≠ 0 := fun e => by
          rw [List.eq_nil_of_length_eq_zero (HO.out.len.trans e)] at hj; cases hj
        omega⟩
      obtain ⟨R', p, rfl, hR'⟩ := snoc_of HO.out.len
      obtain ⟨g, rfl⟩ : ∃ g, a' = some ⟨g, 0, none⟩ := by
        rcases HO.out.cases with ⟨_, h, _⟩ | ⟨g, h, _⟩
        · omega
        · exact ⟨g, h⟩
      rw [jb_snoc] at hj
      have HJc := hid (of_decide_eq_true hj)
      clear hj
      have hg : g < wr.heap.size := (HO.out.row.lt g rfl).2
      obtain ⟨y0, y1⟩ := flat_get (R' ++ [p]) m' (by simp [hR'])
      rw [getD_snoc, if_pos hR'.symm] at y0 y1
      have hop := HO.out.own m' (by omega)
      rw [getD_snoc, if_pos hR'.symm] at hop
      have hWx : Below wr.heap.size wr wc := HW0.out.trans (HX5.out.mono hwW)
      have hdx : Below wc.heap.size wc wc.drew := (Below.refl _ _).drew
      have hWd : Below wr.heap.size wr wc.drew := hWx.trans (hdx.mono hWx.size)
      have hW5 : Below W.heap.size W wc.drew := HX5.out.trans (hdx.mono HX5.out.size)
      have z1 := (hWd.cell (p := ⟨g, m' * 2 + 1, none⟩) hg).trans ((HO.out.row.cellAt (m' * 2 + 1) (by omega)).trans y1)
      have hpb := HS.out.2 p (by simp)
      obtain ⟨bs, os, hqs⟩ : ∃ b o, q.b = some ⟨b, o, none⟩ := by
        rcases HT2.out with h | ⟨b, o, h, _⟩
        · exact absurd h HJ.out.s1
        · exact ⟨b, o, h⟩
      have HC := hid (Smp.f65 p.b q.b p.d q.d p.s q.s wc.drew (by omega) (by have := HJ.out.s2; omega) (hop.hasS.below hWd) (HT2.out.below hW5) (by rw [HJ.out.d2]; exact Nat.le_refl _) (fun h => by rw [hqs] at h; cases h))
      have e9 : (((m' + 1 : Nat) : Int) - 1) = (m' : Int) := by omega
      have j1 : (0 : Int) ≤ (m' : Int) := by omega
      have j2 : (m' : Int) < (m' : Int) + 1 := by omega
      have j3 : (m' : Int) < ((m' + 1 : Nat) : Int) := by omega
      have j4 : m' < m' + 1 := by omega
      have HSB : Hid (SB q wr.heap.size wc.drew) := two (kept HBx.out hW5)
      have hgne : g ≠ wr.heap.size := by omega
      have hBW : wr.heap.size < W.heap.size := lt_at HBx.out
      clear hop y0 y1 hqs bs os
      rw [e9]
      generalize hB : wr.heap.size = B at *
      go_wp2_with fail
      refine wp_region_held_drew (S := fun x => SB q B x) rfl HSB.out (fun hHeld => ?_)
      refine wpAnyH_take (i := 0) (oi := { dst := some 37, op := _, type := _, pos := _, after := _, guard := _ }) (v := (.slice (some ⟨g, 0, none⟩) (m' + 1) c')) rfl (by kernel_rfl) (by kernel_rfl) (by kernel_rfl) (fun _ _ _ h => h) (Or.inl ⟨by rfl, fun w hSw => by (try dsimp only at hSw); go_split_ands; go_simp⟩) (by assumption) ?_
      simp only [Act.put, List.setIfInBounds_toArray, List.set_cons_zero, List.set_cons_succ]
      refine wpAnyH_take (i := 1) (oi := { dst := some 38, op := _, type := _, pos := _, after := _, guard := _ }) (v := (.int .i64 (m' : Int))) rfl (by kernel_rfl) (by kernel_rfl) (by kernel_rfl) (fun _ _ _ h => h) (Or.inl ⟨by rfl, fun w hSw => by (try dsimp only at hSw); go_split_ands; go_simp⟩) (by assumption) ?_
      simp only [Act.put, List.setIfInBounds_toArray, List.set_cons_zero, List.set_cons_succ]
      refine wpAnyH_take (i := 2) (oi := { dst := some 39, op := _, type := _, pos := _, after := _, guard := _ }) (v := (.func (.func 37) #[] #[])) rfl (by kernel_rfl) (by kernel_rfl) (by kernel_rfl) (fun _ _ _ h => h) (Or.inl ⟨by rfl, fun w hSw => by (try dsimp only at hSw); go_split_ands; go_simp⟩) (by assumption) ?_
      simp only [Act.put, List.setIfInBounds_toArray, List.set_cons_zero, List.set_cons_succ]
      refine wpAnyH_take (i := 3) (oi := { dst := some 40, op := _, type := _, pos := _, after := _, guard := _ }) (v := (.slice (some ⟨g, 0, none⟩) (m' + 1) c')) rfl (by kernel_rfl) (by kernel_rfl) (by kernel_rfl) (fun _ _ _ h => h) (Or.inl ⟨by rfl, fun w hSw => by (try dsimp only at hSw); go_split_ands; go_simp⟩) (by assumption) ?_
      simp only [Act.put, List.setIfInBounds_toArray, List.set_cons_zero, List.set_cons_succ]
      refine wpAnyH_take (i := 4) (oi := { dst := some 41, op := _, type := _, pos := _, after := _, guard := _ }) (v := (.int .i64 (m' : Int))) rfl (by kernel_rfl) (by kernel_rfl) (by kernel_rfl) (fun _ _ _ h => h) (Or.inl ⟨by rfl, fun w hSw => by (try dsimp only at hSw); go_split_ands; go_simp⟩) (by assumption) ?_
      simp only [Act.put, List.setIfInBounds_toArray, List.set_cons_zero, List.set_cons_succ]
      refine wpAnyH_take (i := 5) (oi := { dst := some 42, op := _, type := _, pos := _, after := _, guard := _ }) (v := (.pointer (some ⟨g, m' * 2, none⟩))) rfl (by kernel_rfl) (by kernel_rfl) (by kernel_rfl) (fun _ _ _ h => h) (Or.inl ⟨by rfl, fun w hSw => by (try dsimp only at hSw); go_split_ands; go_simp⟩) (by assumption) ?_
      simp only [Act.put, List.setIfInBounds_toArray, List.set_cons_zero, List.set_cons_succ]
      refine wpAnyH_take (i := 6) (oi := { dst := some 43, op := _, type := _, pos := _, after := _, guard := _ }) (v := (.pointer (some ⟨g, m' * 2 + 1, none⟩))) rfl (by kernel_rfl) (by kernel_rfl) (by kernel_rfl) (fun _ _ _ h => h) (Or.inl ⟨by rfl, fun w hSw => by (try dsimp only at hSw); go_split_ands; go_simp⟩) (by assumption) ?_
      simp only [Act.put, List.setIfInBounds_toArray, List.set_cons_zero, List.set_cons_succ]
      refine wpAnyH_take (i := 8) (oi := { dst := some 45, op := _, type := _, pos := _, after := _, guard := _ }) (v := (.pointer (some ⟨B, 1, none⟩))) rfl (by kernel_rfl) (by kernel_rfl) (by kernel_rfl) (fun _ _ _ h => h) (Or.inl ⟨by rfl, fun w hSw => by (try dsimp only at hSw); go_split_ands; go_simp⟩) (by assumption) ?_
      simp only [Act.put, List.setIfInBounds_toArray, List.set_cons_zero, List.set_cons_succ]
      refine wpAnyH_take (i := 9) (oi := { dst := some 46, op := _, type := _, pos := _, after := _, guard := _ }) (v := (.slice q.b q.s.length q.d)) rfl (by kernel_rfl) (by kernel_rfl) (by kernel_rfl) (fun _ _ _ h => h) (Or.inl ⟨by rfl, fun w hSw => by (try dsimp only at hSw); go_split_ands; go_simp⟩) (by assumption) ?_
      simp only [Act.put, List.setIfInBounds_toArray, List.set_cons_zero, List.set_cons_succ]
      refine wpAnyH_ready (rs := [7]) (by kernel_rfl) (by simp) (AllReadyH.cons (o := { dst := some 44, op := _, type := _, pos := _, after := _, guard := _ }) rfl ?_ AllReadyH.nil)
      intro K1 hK1
      go_simp
      refine hK1.out _ _ HSB.out (fun _ => ?_)
      clear hK1 K1
      refine wpAnyH_ready (rs := [10]) (by kernel_rfl) (by simp) (AllReadyH.cons (o := { dst := some 47, op := _, type := _, pos := _, after := _, guard := _ }) rfl ?_ AllReadyH.nil)
      intro K2 hK2
      go_simp
      go_wp2_with (go_at_call 65; refine HC.out.mono ?_; rintro e w6 ⟨v6, rfl, ho6, hb6⟩; have hw6 : Below W.heap.size W w6 := hW5.trans (hb6.mono hW5.size))
      refine hK2.out _ _ (two (kept HBx.out hw6)) (fun _ => ?_)
      clear hK2 K2
      have hgW : g < w6.heap.size := Nat.lt_of_lt_of_le hg (by have := hWd.size; have := hb6.size; omega)
      obtain ⟨gb, cb, rfl⟩ := own_formP ho6 (List.length_pos_iff.2 (mrg_pos hpb.1))
      have hr6 : Below B wr w6 := by exact hWd.trans (hb6.mono (by have := hWd.size; omega))
      have HO6 := hid (own_below HO.out.row (hB ▸ hr6))
      have z2 := (hb6.cell (p := ⟨g, m' * 2 + 1, none⟩) (Nat.lt_of_lt_of_le hg (by have := hWd.size; omega))).trans z1
      have f2 := HO6.out.frozenAt (m' * 2 + 1)
      have HE : Hid (∀ wz, wz = w6.setCell ⟨g, m' * 2 + 1, none⟩ (.slice (some ⟨gb, 0, none⟩) (mrg p.s q.s).length cb) → OwnO w2.heap.size (some ⟨g, 0, none⟩) (m' + 1) c' (R' ++ [⟨p.l, p.a, p.c, mrg p.s q.s, some ⟨gb, 0, none⟩, cb⟩]) wz ∧ Below w2.heap.size w2 wz) := by
        rintro wz rfl
        refine ⟨HO.out.setLast (hB ▸ hr6) HX.out.size (own_base ho6 (hB ▸ hWd.size)), ?_⟩
        have hg2 : w2.heap.size ≤ g := (HO.out.row.lt g rfl).1
        exact (HX.out.trans ((hB ▸ hr6 : Below wr.heap.size wr w6).mono HX.out.size)).setCell hg2 _
      clear z1
      refine wpAnyH_take (i := 11) (oi := { dst := some 48, op := _, type := _, pos := _, after := _, guard := _ }) (v := (.pointer (some ⟨g, m' * 2, none⟩))) rfl (by kernel_rfl) (by kernel_rfl) (by kernel_rfl) (fun _ _ _ h => h) (Or.inl ⟨by rfl, fun w hSw => by (try dsimp only at hSw); go_split_ands; go_simp⟩) (by assumption) ?_
      simp only [Act.put, List.setIfInBounds_toArray, List.set_cons_zero, List.set_cons_succ]
      refine wpAnyH_take (i := 12) (oi := { dst := some 49, op := _, type := _, pos := _, after := _, guard := _ }) (v := (.pointer (some ⟨g, m' * 2 + 1, none⟩))) rfl (by kernel_rfl) (by kernel_rfl) (by kernel_rfl) (fun _ _ _ h => h) (Or.inl ⟨by rfl, fun w hSw => by (try dsimp only at hSw); go_split_ands; go_simp⟩) (by assumption) ?_
      simp only [Act.put, List.setIfInBounds_toArray, List.set_cons_zero, List.set_cons_succ]
      refine wpAnyH_ready (rs := [13]) (by kernel_rfl) (by simp) (AllReadyH.cons (o := { dst := none, op := _, type := _, pos := _, after := _, guard := _ }) rfl ?_ AllReadyH.nil)
      intro K3 hK3
      go_simp
      refine hK3.out _ _ (two (set_else (kept HBx.out hw6) (by simp only; omega))) (fun _ => ?_)
      clear hK3 K3
      refine wpAnyH_done (by kernel_rfl) ?_ _
      have HJn := hid (JR.join (q' := ⟨p.l, p.a, p.c, mrg p.s q.s, some ⟨gb, 0, none⟩, cb⟩) HS.out HTk.out HJc.out HJ.out rfl rfl)
      clear z2 f2 HO6 hr6 ho6 hb6 hw6 HO HS HX HSB HC HBx HT1 HT2 HW0 hWd hW5 hWx hHeld
      go_wp2
      go_roundw
      case rel => exact ⟨k + 1, m' + 1, c', _, _, by omega, by omega, by go_num, rfl, (HE.out _ rfl).1, HJn.out, (HE.out _ rfl).2⟩
      case measure => simp [intOf]; omega
    | false =>
      have HJf := hid hj
      clear hj
      have hWx : Below wr.heap.size wr wc := HW0.out.trans (HX5.out.mono hwW)
      have hdx : Below wc.heap.size wc wc.drew := (Below.refl _ _).drew
      have hWd : Below wr.heap.size wr wc.drew := hWx.trans (hdx.mono hWx.size)
      have hW5 : Below W.heap.size W wc.drew := HX5.out.trans (hdx.mono HX5.out.size)
      obtain ⟨bl, ol, hql⟩ : ∃ b o, q.a = some ⟨b, o, none⟩ := by
        rcases HT1.out with h | ⟨b, o, h, _⟩
        · exact absurd h HJ.out.l1
        · exact ⟨b, o, h⟩
      obtain ⟨bs, os, hqs⟩ : ∃ b o, q.b = some ⟨b, o, none⟩ := by
        rcases HT2.out with h | ⟨b, o, h, _⟩
        · exact absurd h HJ.out.s1
        · exact ⟨b, o, h⟩
      have hlp : 0 < q.l.length := List.length_pos_iff.2 HJ.out.l1
      have hsp : 0 < q.s.length := List.length_pos_iff.2 HJ.out.s1
      have HC1 : Hid (Calls Try.prog 66 #[.slice q.a q.l.length q.c] wc.drew fun e w' => ∃ v', e = .returned v' ∧ OwnL w' wc.drew.heap.size v' q.l ∧ Below wc.drew.heap.size wc.drew w') := by
        have h := HT1.out.below hW5
        rw [hql] at h ⊢
        exact f66 bl ol q.c q.l wc.drew (by have := HJ.out.l2; omega) h
      have HC2 : Hid (∀ x, Below W.heap.size W x → Calls Try.prog 29 #[.slice q.b q.s.length q.d] x fun e w' => ∃ v', e = .returned v' ∧ Smp.Own w' x.heap.size v' q.s ∧ Below x.heap.size x w') := by
        intro x hx
        have h := HT2.out.below hx
        rw [hqs] at h
        rw [hqs, HJ.out.d2]
        exact Smp.f29 q.s _ x (by have := HJ.out.s2; omega) (.inr ⟨hsp, bs, os, rfl, h⟩)
      have HSB : Hid (SB q wr.heap.size wc.drew) := two (kept HBx.out hW5)
      have hBW : wr.heap.size < W.heap.size := lt_at HBx.out
      clear hql hqs bl ol bs os
      generalize hB : wr.heap.size = B at *
      go_wp2_with fail
      refine wp_region_held_drew (S := fun x => SB q B x) rfl HSB.out (fun hHeld => ?_)
      refine wpAnyH_take (i := 0) (oi := { dst := some 50, op := _, type := _, pos := _, after := _, guard := _ }) (v := (.slice a' m c')) rfl (by kernel_rfl) (by kernel_rfl) (by kernel_rfl) (fun _ _ _ h => h) (Or.inl ⟨by rfl, fun w hSw => by (try dsimp only at hSw); go_split_ands; go_simp⟩) (by assumption) ?_
      simp only [Act.put, List.setIfInBounds_toArray, List.set_cons_zero, List.set_cons_succ]
      refine wpAnyH_take (i := 1) (oi := { dst := some 51, op := _, type := _, pos := _, after := _, guard := _ }) (v := (.pointer (some ⟨B, 0, none⟩))) rfl (by kernel_rfl) (by kernel_rfl) (by kernel_rfl) (fun _ _ _ h => h) (Or.inl ⟨by rfl, fun w hSw => by (try dsimp only at hSw); go_split_ands; go_simp⟩) (by assumption) ?_
      simp only [Act.put, List.setIfInBounds_toArray, List.set_cons_zero, List.set_cons_succ]
      refine wpAnyH_take (i := 2) (oi := { dst := some 52, op := _, type := _, pos := _, after := _, guard := _ }) (v := (.slice q.a q.l.length q.c)) rfl (by kernel_rfl) (by kernel_rfl) (by kernel_rfl) (fun _ _ _ h => h) (Or.inl ⟨by rfl, fun w hSw => by (try dsimp only at hSw); go_split_ands; go_simp⟩) (by assumption) ?_
      simp only [Act.put, List.setIfInBounds_toArray, List.set_cons_zero, List.set_cons_succ]
      refine wpAnyH_take (i := 4) (oi := { dst := some 54, op := _, type := _, pos := _, after := _, guard := _ }) (v := (.pointer (some ⟨B, 1, none⟩))) rfl (by kernel_rfl) (by kernel_rfl) (by kernel_rfl) (fun _ _ _ h => h) (Or.inl ⟨by rfl, fun w hSw => by (try dsimp only at hSw); go_split_ands; go_simp⟩) (by assumption) ?_
      simp only [Act.put, List.setIfInBounds_toArray, List.set_cons_zero, List.set_cons_succ]
      refine wpAnyH_take (i := 5) (oi := { dst := some 55, op := _, type := _, pos := _, after := _, guard := _ }) (v := (.slice q.b q.s.length q.d)) rfl (by kernel_rfl) (by kernel_rfl) (by kernel_rfl) (fun _ _ _ h => h) (Or.inl ⟨by rfl, fun w hSw => by (try dsimp only at hSw); go_split_ands; go_simp⟩) (by assumption) ?_
      simp only [Act.put, List.setIfInBounds_toArray, List.set_cons_zero, List.set_cons_succ]
      refine wpAnyH_ready (rs := [3]) (by kernel_rfl) (by simp) (AllReadyH.cons (o := { dst := some 53, op := _, type := _, pos := _, after := _, guard := _ }) rfl ?_ AllReadyH.nil)
      intro K1 hK1
      go_simp
      go_wp2_with (go_at_call 66; refine HC1.out.mono ?_; rintro e w4 ⟨v4, rfl, ho4, hb4⟩; have hw4 : Below W.heap.size W w4 := hW5.trans (hb4.mono hW5.size))
      refine hK1.out _ _ (two (kept HBx.out hw4)) (fun _ => ?_)
      clear hK1 K1
      refine wpAnyH_ready (rs := [6]) (by kernel_rfl) (by simp) (AllReadyH.cons (o := { dst := some 56, op := _, type := _, pos := _, after := _, guard := _ }) rfl ?_ AllReadyH.nil)
      intro K2 hK2
      go_simp
      go_wp2_with (go_at_call 29; refine (HC2.out w4 hw4).mono ?_; rintro e w5 ⟨v5, rfl, ho5, hb5⟩; have hw5 : Below W.heap.size W w5 := hw4.trans (hb5.mono hw4.size))
      refine hK2.out _ _ (two (kept HBx.out hw5)) (fun _ => ?_)
      clear hK2 K2
      obtain ⟨ga, ca, rfl⟩ := own_formP ho4 hlp
      obtain ⟨gb, cb, rfl⟩ := own_formP ho5 hsp
      have hga : W.heap.size ≤ ga ∧ ga < w4.heap.size := ⟨Nat.le_trans hW5.size (ho4.lt ga rfl).1, (ho4.lt ga rfl).2⟩
      have hgb : w4.heap.size ≤ gb := (ho5.lt gb rfl).1
      have hr5 : Below B wr w5 := HW0.out.trans (hw5.mono (by omega))
      obtain ⟨q', hq'⟩ : ∃ q' : Q, q' = ⟨q.l, some ⟨ga, 0, none⟩, ca, q.s, some ⟨gb, 0, none⟩, cb⟩ := ⟨_, rfl⟩
      have HQ4 : Hid (Own2 w2.heap.size q' w5 ∧ wr.heap.size ≤ blk q'.a ∧ wr.heap.size ≤ blk q'.b ∧ pl q' = pl q ∧ cl q' = [.slice (some ⟨ga, 0, none⟩) q.l.length ca, .slice (some ⟨gb, 0, none⟩) q.s.length cb]) := by
        rw [hq']
        have h1 := HX.out.size
        have h2 := hW5.size
        have h3 := hw4.size
        exact ⟨⟨rfl, rfl, own_base (own_below ho4 hb5) (by omega), own_base ho5 (by omega), (by simp only [blk]; omega)⟩, (by simp only [blk]; omega), (by simp only [blk]; omega), rfl, rfl⟩
      clear hq'
      have HO5 := hid (own_below HO.out.row (hB ▸ hr5))
      have hX5 : Below w2.heap.size w2 w5 := HX.out.trans ((hB ▸ hr5 : Below wr.heap.size wr w5).mono HX.out.size)
      clear ho4 hb4 ho5 hb5
      refine wpAnyH_take (i := 7) (oi := { dst := some 57, op := _, type := _, pos := _, after := _, guard := _ }) (v := (.agg #[.slice (some ⟨ga, 0, none⟩) q.l.length ca, .slice (some ⟨gb, 0, none⟩) q.s.length cb])) rfl (by kernel_rfl) (by kernel_rfl) (by kernel_rfl) (fun _ _ _ h => h) (Or.inl ⟨by rfl, fun w hSw => by (try dsimp only at hSw); go_split_ands; go_simp⟩) (by assumption) ?_
      simp only [Act.put, List.setIfInBounds_toArray, List.set_cons_zero, List.set_cons_succ]
      refine wpAnyH_ready (rs := [8]) (by kernel_rfl) (by simp) (AllReadyH.cons (o := { dst := some 58, op := _, type := _, pos := _, after := _, guard := _ }) rfl ?_ AllReadyH.nil)
      intro K3 hK3
      go_simp
      have hba := (Below.refl w5.heap.size w5).alloc (Nat.le_refl _) (.cells #[.slice (some ⟨ga, 0, none⟩) q.l.length ca, .slice (some ⟨gb, 0, none⟩) q.s.length cb] 42)
      have hwa := hw5.trans (hba.mono hw5.size)
      refine hK3.out _ _ (two (kept HBx.out hwa)) (fun _ => ?_)
      clear hK3 K3
      refine wpAnyH_ready (rs := [9]) (by kernel_rfl) (by simp) (AllReadyH.cons (o := { dst := some 59, op := _, type := _, pos := _, after := _, guard := _ }) rfl ?_ AllReadyH.nil)
      intro K4 hK4
      refine step_append_j rfl (.tmp 50) (.tmp 58) 24 rfl w2.heap.size 42 i0 (.agg #[.slice none 0 0, .slice none 0 0]) 2 48 Try.underlying24 hi hz0 hz1 hz2 rfl (by decide) a' m c' (flat R) rfl (HO5.out.alloc _) ⟨w5.heap.size, 0, none⟩ 1 1 [.slice (some ⟨ga, 0, none⟩) q.l.length ca, .slice (some ⟨gb, 0, none⟩) q.s.length cb] rfl rfl (Smp.two_new w5 _ _ _) (by intro u hu; simp at hu; rcases hu with rfl | rfl <;> rfl) (by unfold maxLen; omega) (by omega) (by have := hX5.size; simp; omega) ?_
      intro v6 w6 hown6 hgr6 hat6
      have hX6 : Below w2.heap.size w2 w6 := (hX5.trans (hba.mono hX5.size)).grown hgr6 (by have := hX5.size; simp; omega) (fun j hj => (HO5.out.lt j hj).1)
      have hw6 : Below W.heap.size W w6 → True := fun _ => trivial
      obtain ⟨a6, c6, rfl⟩ := Smp.own_form hown6
      have HO6 : Hid (OwnO w2.heap.size a6 (m + 1) c6 (R ++ [q']) w6) := by
        refine HO.out.push ((hB ▸ hr5 : Below wr.heap.size wr w5).trans (hba.mono (hB ▸ hr5 : Below wr.heap.size wr w5).size)) (HQ4.out.1.below hba) HQ4.out.2.1 HQ4.out.2.2.1 hgr6 ?_ hat6
        have e : flat (R ++ [q']) = flat R ++ [.slice (some ⟨ga, 0, none⟩) q.l.length ca, .slice (some ⟨gb, 0, none⟩) q.s.length cb] := by
          rw [flat_append]
          show flat R ++ (cl q' ++ []) = _
          rw [HQ4.out.2.2.2.2, List.append_nil]
        rw [e]
        exact hown6
      have hbx : w6.heap[B]? = some (.cells #[.slice q.a q.l.length q.c, .slice q.b q.s.length q.d] 42) := by
        rw [hgr6.block B (by have := hwa.size; omega) (fun e => by have := (HO.out.row.lt B e.symm).2; omega)]
        exact kept HBx.out hwa
      refine hK4.out _ _ (two hbx) (fun _ => ?_)
      clear hK4 K4
      have HJm := hid (JR.more HS.out HTk.out HJf.out HJ.out HQ4.out.2.2.2.1)
      have HX6 := hid hX6
      simp only [Act.put, List.setIfInBounds_toArray, List.set_cons_zero, List.set_cons_succ]
      refine wpAnyH_take (i := 10) (oi := { dst := some 6, op := _, type := _, pos := _, after := _, guard := _ }) (v := (.slice a6 (m + 1) c6)) rfl (by kernel_rfl) (by kernel_rfl) (by kernel_rfl) (fun _ _ _ h => h) (Or.inl ⟨by rfl, fun w hSw => by (try dsimp only at hSw); go_split_ands; go_simp⟩) (two hbx) ?_
      simp only [Act.put, List.setIfInBounds_toArray, List.set_cons_zero, List.set_cons_succ]
      refine wpAnyH_done (by kernel_rfl) ?_ _
      clear hown6 hgr6 hat6 hbx hw6 hX6 hX5 hwa hba HO5 HQ4 hr5 hw5 hw4 HO HS HX HSB HC1 HC2 HBx HT1 HT2 HW0 hWd hW5 hWx hHeld
      go_wp2
      go_roundw
      case rel => exact ⟨k + 1, m + 1, c6, a6, _, by omega, by omega, by go_num, rfl, HO6.out, HJm.out, HX6.out⟩
      case measure => simp [intOf]; omega
end Go.Proofs.Ytammlhkdcdhfkaa.Srs
