/- (At greater lists.) Lists of series merged: the model's l7Merge. -/
import Derived.Test.YtjhdmghpklagkaaGreatD07
import Derived.Test.YtjhdmghpklagkaaGreatD27
import Derived.Test.YtjhdmghpklagkaaGreatD24
import Derived.Test.YtjhdmghpklagkaaGreatD29
namespace Go.Proofs.YtjhdmghpklagkaaGreat.Srs
open Go.RowKit
open Go.Proofs.YtjhdmghpklagkaaGreat.Lab (Lb HasL cmpList)
open Go.Proofs.YtjhdmghpklagkaaGreat.Smp (Sm HasS mrg)
open Go.Proofs.YtjhdmghpklagkaaGreat.Stb (ltP put puts)

structure MQb (B : Nat) (q : Q) : Prop where
  l1 : q.l ≠ []
  s1 : q.s ≠ []
  l2 : q.l.length ≤ 20
  s2 : q.s.length ≤ B
  lf : Lab.Fit q.l
  sf : Smp.Fit q.s
abbrev MQ (q : Q) : Prop := MQb 2000 q
theorem drop_past {α : Type} (X Y : List α) (k : Nat) (h : Y.length ≤ k) : (X ++ Y).drop (X.length + k) = [] := List.drop_eq_nil_of_le (by simp; omega)
theorem shift_flat (A B : List Q) : ∃ x, (flat (A ++ B ++ [q0])).take ((A.length + 1) * 2) ++ flat B ++ (flat (A ++ B ++ [q0])).drop ((A.length + 1) * 2 + (flat B).length) = flat (A ++ x :: B) := by
  obtain ⟨x, C, hC, hl⟩ : ∃ x C, B ++ [q0] = x :: C ∧ C.length = B.length := by
    cases B with
    | nil => exact ⟨q0, [], rfl, rfl⟩
    | cons y B => exact ⟨y, B ++ [q0], rfl, by simp⟩
  refine ⟨x, ?_⟩
  rw [List.append_assoc A B [q0], hC, show A ++ x :: C = (A ++ [x]) ++ C by simp, flat_append (A ++ [x]) C]
  have e1 : (flat (A ++ [x])).length = (A.length + 1) * 2 := by rw [flat_len]; simp
  rw [← e1, List.take_left, drop_past (flat (A ++ [x])) (flat C) (flat B).length (by rw [flat_len, flat_len, hl]; exact Nat.le_refl _), show A ++ x :: B = (A ++ [x]) ++ B by simp, flat_append (A ++ [x]) B, List.append_nil]
theorem own_addr {w : World} {X e z n c g : Nat} {a : Option Addr} {xs : List Value} (h : w.ownsRow X e z (.slice a n c) n xs) (hg : (Value.slice a n c).ownBlock = some g) : a = some ⟨g, 0, none⟩ := by
  rcases h.2 with ⟨h4, _⟩ | ⟨g', cap, cur, h4, _⟩
  · simp only [Value.slice.injEq] at h4; rw [h4.1] at hg; cases hg
  · simp only [Value.slice.injEq] at h4
    rw [h4.1] at hg
    have : g' = g := Option.some.inj hg
    rw [this] at h4
    exact h4.1
theorem own_cap {w : World} {X e z n c : Nat} {g : Nat} {xs : List Value} (h : w.ownsRow X e z (.slice (some ⟨g, 0, none⟩) n c) n xs) : n ≤ c := by
  rcases h.2 with ⟨h4, _⟩ | ⟨g', cap, cur, h4, _, _, h5, _⟩
  · simp at h4
  · simp only [Value.slice.injEq] at h4
    omega
theorem set_mid (A B : List Q) (x q : Q) : (A ++ x :: B).set A.length q = A ++ q :: B := by simp
abbrev MR (B : Nat) (qs ps R : List Q) (k : Nat) : Prop := R.map pl = puts ltP jF (qs.map pl) ((ps.take k).map pl) ∧ ∀ q ∈ R, q.s ≠ [] ∧ q.l.length ≤ 20 ∧ q.s.length ≤ B + 2000 * k ∧ Lab.Fit q.l ∧ Smp.Fit q.s
theorem MR.step {BB : Nat} {qs ps R : List Q} {k : Nat} {q : Q} (h : MR BB qs ps R k) (ht : ps.take (k + 1) = ps.take k ++ [q]) : puts ltP jF (qs.map pl) ((ps.take (k + 1)).map pl) = put ltP jF (pl q) (R.map pl) := by
  rw [ht, show (ps.take k ++ [q]).map pl = (ps.take k).map pl ++ [pl q] by simp, Stb.puts_snoc, h.1]
theorem MR.join {BB : Nat} {qs ps A B : List Q} {p q p' : Q} {k : Nat} (h : MR BB qs ps (A ++ p :: B) k) (ht : ps.take (k + 1) = ps.take k ++ [q]) (hA : ∀ x ∈ A, cmpList x.l q.l < 0) (hc : cmpList p.l q.l = 0) (hq : MQ q) (hl : p'.l = p.l) (hs : p'.s = mrg p.s q.s) : MR BB qs ps (A ++ p' :: B) (k + 1) := by
  refine ⟨?_, fun x hx => ?_⟩
  · rw [MR.step h ht, show (A ++ p :: B).map pl = A.map pl ++ pl p :: B.map pl by simp, put_there (s := pl q) (x := pl p) (fun x hx => by obtain ⟨y, hy, rfl⟩ := List.mem_map.1 hx; exact hA y hy) hc, show (A ++ p' :: B).map pl = A.map pl ++ pl p' :: B.map pl by simp]
    simp only [pl, jF, hl, hs]
  · rcases List.mem_append.1 hx with h1 | h1
    · have := h.2 x (by simp [h1])
      exact ⟨this.1, this.2.1, by omega, this.2.2.2⟩
    · rcases List.mem_cons.1 h1 with h1 | h1
      · have h2 := h.2 p (by simp)
        have h3 := Smp.mrg_len p.s q.s
        have h4 := hq.s2
        rw [h1]
        exact ⟨by rw [hs]; exact mrg_pos h2.1, by rw [hl]; exact h2.2.1, by have e := congrArg List.length hs; omega, by rw [hl]; exact h2.2.2.2.1, by rw [hs]; exact fit_mrg h2.2.2.2.2 hq.sf⟩
      · have := h.2 x (by simp [h1])
        exact ⟨this.1, this.2.1, by omega, this.2.2.2⟩
theorem MR.more {BB : Nat} {qs ps A B : List Q} {q p' : Q} {k : Nat} (h : MR BB qs ps (A ++ B) k) (ht : ps.take (k + 1) = ps.take k ++ [q]) (hA : ∀ x ∈ A, cmpList x.l q.l < 0) (hB : ∀ x, B.head? = some x → 0 < cmpList x.l q.l) (hq : MQ q) (he : pl p' = pl q) : MR BB qs ps (A ++ p' :: B) (k + 1) := by
  have hl : p'.l = q.l := congrArg Prod.fst he
  have hs : p'.s = q.s := congrArg Prod.snd he
  refine ⟨?_, fun x hx => ?_⟩
  · rw [MR.step h ht, show (A ++ B).map pl = A.map pl ++ B.map pl by simp, put_new (s := pl q) (fun x hx => by obtain ⟨y, hy, rfl⟩ := List.mem_map.1 hx; exact hA y hy) (fun x hx => by
      cases B with
      | nil => simp at hx
      | cons y B => simp at hx; rw [← hx]; exact hB y rfl), show (A ++ p' :: B).map pl = A.map pl ++ pl p' :: B.map pl by simp, he]
  · rcases List.mem_append.1 hx with h1 | h1
    · have := h.2 x (by simp [h1])
      exact ⟨this.1, this.2.1, by omega, this.2.2.2⟩
    · rcases List.mem_cons.1 h1 with h1 | h1
      · have h4 := hq.s2
        rw [h1]
        exact ⟨by rw [hs]; exact hq.s1, by rw [hl]; exact hq.l2, by have e := congrArg List.length hs; omega, by rw [hl]; exact hq.lf, by rw [hs]; exact hq.sf⟩
      · have := h.2 x (by simp [h1])
        exact ⟨this.1, this.2.1, by omega, this.2.2.2⟩
theorem MR.fit {BB : Nat} {qs ps R : List Q} {k : Nat} (h : MR BB qs ps R k) (hk : k ≤ 200) (hBB : BB ≤ 400000) : FitQ R ∧ SmlQ R :=
  ⟨fitq_of fun q hq => by have := h.2 q hq; exact ⟨this.2.2.2.1, by unfold maxLen; omega, this.2.2.2.2, by unfold maxLen; omega⟩, fun i hi => by have := h.2 _ (get_mem' hi); exact ⟨by omega, by omega⟩⟩
theorem same_map {n : Nat} {qs R : List Q} (h1 : qs.length = n) (h2 : R.length = n) (h : Same n qs R) : R.map pl = qs.map pl := by
  apply List.ext_getElem (by simp [h1, h2])
  intro i hi hj
  have h3 : i < R.length := by simpa using hi
  have h4 : i < qs.length := by simpa using hj
  have := h i (by omega)
  simpa [h3, h4] using this
set_option maxRecDepth 10000 in
set_option maxHeartbeats 8000000 in
theorem f74 (a b : Option Addr) (n n' c c' BB : Nat) (qs ps : List Q) (w : World) (hn : qs.length = n) (hn' : ps.length = n') (hBB : BB ≤ 400000) (h1 : n ≤ 40000) (h1' : n' ≤ 200) (hr : HasQ w a qs) (hr' : HasQ w b ps) (hq : ∀ q ∈ qs, MQb BB q) (hq' : ∀ q ∈ ps, MQ q) :
    Calls Tryz.prog 74 #[.slice a n c, .slice b n' c'] w fun e w' => ∃ a' m' c'' R, e = .returned (.slice a' m' c'') ∧ OwnO w.heap.size a' m' c'' R w' ∧ MR BB qs ps R n' ∧ m' ≤ n + n' ∧ Below w.heap.size w w' := by
  obtain ⟨i0, hi, hz0, hz1, hz2⟩ := info_parts infoQ''
  have HN := hid hn
  have HN' := hid hn'
  have HR' := hid hr'
  have HQ := hid hq
  have HQ' := hid hq'
  have HCp := hid (f108 a n c qs w hn (by omega) hr (fun i hi => ⟨(hq _ (get_mem' (by omega))).l1, (hq _ (get_mem' (by omega))).s1⟩) (fun i hi => ⟨by have := (hq _ (get_mem' hi)).l2; omega, by have := (hq _ (get_mem' hi)).s2; omega⟩))
  clear hn hn' hr hr' hq hq'
  go_enter Tryz.func74, Tryz.ntmps74
  go_wp2_with fail
  refine HCp.out.mono ?_
  rintro e w1 ⟨a1, c1, R1, rfl, HO1, HS1, hb1⟩
  have HB1 := hid hb1
  have HM1 : Hid (MR BB qs ps R1 0) := by
    have e := same_map HN.out HO1.out.len HS1.out
    refine ⟨e, fun q hq => ?_⟩
    have : pl q ∈ qs.map pl := by rw [← e]; exact List.mem_map_of_mem hq
    obtain ⟨x, hx, hxe⟩ := List.mem_map.1 this
    have hl : x.l = q.l := congrArg Prod.fst hxe
    have hs : x.s = q.s := congrArg Prod.snd hxe
    have hm := HQ.out x hx
    exact ⟨by rw [← hs]; exact hm.s1, by rw [← hl]; exact hm.l2, by rw [← hs]; have := hm.s2; omega, by rw [← hl]; exact hm.lf, by rw [← hs]; exact hm.sf⟩
  clear hb1 HCp HS1 HQ
  go_wp2
  go_loopw [5, 14] (fun so si wr => ∃ (k m c' : Nat) (a' : Option Addr) (R : List Q), k ≤ n' ∧ m ≤ n + k ∧ si = .int .i64 k ∧ so = .slice a' m c' ∧ Hid (OwnO w.heap.size a' m c' R wr) ∧ Hid (MR BB qs ps R k) ∧ Hid (Below w.heap.size w wr)) (fun _ si _ => n' - (intOf si).toNat)
  case atStart => exact ⟨0, n, c1, a1, R1, Nat.zero_le _, Nat.le_refl _, rfl, rfl, HO1.out, HM1.out, HB1.out⟩
  case round =>
    clear HO1 HM1 HB1
    obtain ⟨k, m, c1, a', R, hk, hm, rfl, rfl, HO, HS, HX⟩ := hrel
    by_cases hlt : k < n'
    rotate_left
    · obtain rfl : k = n' := by omega
      go_wp2
      go_ret
      exact ⟨a', m, c1, R, rfl, HO.out, HS.out, by omega, HX.out⟩
    obtain ⟨bb, off, rfl, hbl, c0, c1', t1, t2⟩ := (HR'.out.below HX.out).at2 k (by rw [HN'.out]; exact hlt)
    have HJ := hid (HQ'.out _ (get_mem' (show k < ps.length by rw [HN'.out]; exact hlt)))
    have HTk := hid (take_get (show k < ps.length by rw [HN'.out]; exact hlt))
    have HTw1 : Hid (HasL w (ps.getD k q0).a (ps.getD k q0).l) := by
      obtain ⟨_, _, _, _, _, _, t, _⟩ := HR'.out.at2 k (by rw [HN'.out]; exact hlt)
      exact t
    have HTw2 : Hid (HasS w (ps.getD k q0).b (ps.getD k q0).s) := by
      obtain ⟨_, _, _, _, _, _, _, t⟩ := HR'.out.at2 k (by rw [HN'.out]; exact hlt)
      exact t
    generalize ps.getD k q0 = q at *
    have i1 : (k : Int) < (n' : Int) := by omega
    have HW0 := hid ((Below.refl wr.heap.size wr).alloc (Nat.le_refl _) (.cells #[.slice q.a q.l.length q.c, .slice q.b q.s.length q.d] 80))
    have HBx := hid (heap_alloc_new wr (.cells #[.slice q.a q.l.length q.c, .slice q.b q.s.length q.d] 80))
    have HT1 := hid (t1.below HW0.out)
    have HT2 := hid (t2.below HW0.out)
    have HPl := hid (f109 a' m c1 R q.a q.c q.l _ HO.out.len (by omega) (HO.out.has.below HW0.out) (MR.fit HS.out (by omega) hBB).1 (MR.fit HS.out (by omega) hBB).2 HT1.out (by have := HJ.out.l2; omega))
    obtain ⟨W, hW⟩ : ∃ W, W = wr.alloc (.cells #[.slice q.a q.l.length q.c, .slice q.b q.s.length q.d] 80) := ⟨_, rfl⟩
    obtain ⟨e0, e1⟩ := two HBx.out
    rw [← hW] at HW0 HBx HT1 HT2 HPl
    clear t1 t2 hbl
    go_wp2_with fail
    rw [← hW]
    refine HPl.out.mono ?_
    rintro e w4 ⟨lo, hP, rfl, hb4⟩
    have HX5 := hid hb4
    have hwW : wr.heap.size ≤ W.heap.size := HW0.out.size
    have hlo : lo ≤ m := by have := hP.le; have := HO.out.len; omega
    have HLb : Hid (∀ A p B, R = A ++ p :: B → A.length = lo → lb R lo = p.l) := by
      rintro A p B rfl rfl
      simp [lb]
    obtain ⟨A, B, rfl, hA, hAl, hBg⟩ := hP.part
    have HAl := hid hAl
    have HBg := hid hBg
    clear hb4 hP hAl hBg hW c0 c1' HPl e0 e1
    have hAB : A.length + B.length = m := by have := HO.out.len; simpa using this
    by_cases hth : lo < m ∧ cmpList (lb (A ++ B) lo) q.l = 0
    · obtain ⟨p, B', rfl⟩ : ∃ p B', B = p :: B' := by
        cases B with
        | nil => simp at hAB; omega
        | cons p B' => exact ⟨p, B', rfl⟩
      have hth2 := hth.2
      rw [HLb.out A p B' rfl hA] at hth2
      have HJc := hid hth2
      have hdec : decide (lo < m ∧ cmpList (lb (A ++ p :: B') lo) q.l = 0) = true := decide_eq_true hth
      rw [hdec]
      clear hth hth2 hdec HLb
      obtain ⟨g, rfl⟩ : ∃ g, a' = some ⟨g, 0, none⟩ := by
        rcases HO.out.cases with ⟨_, h, _⟩ | ⟨g, h, _⟩
        · simp at hAB; omega
        · exact ⟨g, h⟩
      have hlm : lo < m := by simp at hAB; omega
      have hg : g < wr.heap.size := (HO.out.row.lt g rfl).2
      obtain ⟨y0, y1⟩ := flat_get (A ++ p :: B') lo (by simp [hA])
      rw [show (A ++ p :: B').getD lo q0 = p by simp [← hA]] at y0 y1
      have hop := HO.out.kin.own p (by simp)
      have hWx : Below wr.heap.size wr w4 := HW0.out.trans (HX5.out.mono hwW)
      have hdx : Below w4.heap.size w4 w4.drew := (Below.refl _ _).drew
      have hWd : Below wr.heap.size wr w4.drew := hWx.trans (hdx.mono hWx.size)
      have hW5 : Below W.heap.size W w4.drew := HX5.out.trans (hdx.mono HX5.out.size)
      have z1 := (hWd.cell (p := ⟨g, lo * 2 + 1, none⟩) hg).trans ((HO.out.row.cellAt (lo * 2 + 1) (by omega)).trans y1)
      have hpb := HS.out.2 p (by simp)
      have HC := hid (Smp.f110 p.b q.b p.d q.d p.s q.s w4.drew (by omega) (by have := HJ.out.s2; omega) (hop.hasS.below hWd) (HT2.out.below hW5))
      have j1 : (0 : Int) ≤ (lo : Int) := by omega
      have j3 : (lo : Int) < (m : Int) := by omega
      have HSB : Hid (SB q wr.heap.size w4.drew) := two (kept HBx.out hW5)
      have hgne : g ≠ wr.heap.size := by omega
      have hBW : wr.heap.size < W.heap.size := lt_at HBx.out
      clear hop y0 y1
      generalize hB : wr.heap.size = B at *
      go_wp2_with fail
      refine wp_region_held_drew (S := fun x => SB q B x) rfl HSB.out (fun hHeld => ?_)
      refine tkH 0 (some 26) ((.slice (some ⟨g, 0, none⟩) m c1)) rfl ?_
      simp only [Act.put, zzA, zzB, zzC]
      refine tkH 1 (some 27) ((.int .i64 (lo : Int))) rfl ?_
      simp only [Act.put, zzA, zzB, zzC]
      refine tkH 2 (some 28) ((.slice (some ⟨g, 0, none⟩) m c1)) rfl ?_
      simp only [Act.put, zzA, zzB, zzC]
      refine tkH 3 (some 29) ((.int .i64 (lo : Int))) rfl ?_
      simp only [Act.put, zzA, zzB, zzC]
      refine tkH 4 (some 30) ((.pointer (some ⟨g, lo * 2, none⟩))) rfl ?_
      simp only [Act.put, zzA, zzB, zzC]
      refine tkH 5 (some 31) ((.pointer (some ⟨g, lo * 2 + 1, none⟩))) rfl ?_
      simp only [Act.put, zzA, zzB, zzC]
      refine tkH 7 (some 33) ((.pointer (some ⟨B, 1, none⟩))) rfl ?_
      simp only [Act.put, zzA, zzB, zzC]
      refine tkH 8 (some 34) ((.slice q.b q.s.length q.d)) rfl ?_
      simp only [Act.put, zzA, zzB, zzC]
      refine wpAnyH_ready (rs := [6]) (by kernel_rfl) (by simp) (AllReadyH.cons (o := { dst := some 32, op := _, type := _, pos := _, after := _, guard := _ }) rfl ?_ AllReadyH.nil)
      intro K1 hK1
      go_simp
      refine hK1.out _ _ HSB.out (fun _ => ?_)
      clear hK1 K1
      refine wpAnyH_ready (rs := [9]) (by kernel_rfl) (by simp) (AllReadyH.cons (o := { dst := some 35, op := _, type := _, pos := _, after := _, guard := _ }) rfl ?_ AllReadyH.nil)
      intro K2 hK2
      go_simp
      go_wp2_with (go_at_call 110; refine HC.out.mono ?_; rintro e w6 ⟨v6, rfl, ho6, hb6⟩; have hw6 : Below W.heap.size W w6 := hW5.trans (hb6.mono hW5.size))
      refine hK2.out _ _ (two (kept HBx.out hw6)) (fun _ => ?_)
      clear hK2 K2
      obtain ⟨gb, cb, rfl⟩ := own_formP ho6 (List.length_pos_iff.2 (mrg_pos hpb.1))
      have hr6 : Below B wr w6 := by exact hWd.trans (hb6.mono (by have := hWd.size; omega))
      have HO6 := hid (own_below HO.out.row (hB ▸ hr6))
      have z2 := (hb6.cell (p := ⟨g, lo * 2 + 1, none⟩) (Nat.lt_of_lt_of_le hg (by have := hWd.size; omega))).trans z1
      have f2 := HO6.out.frozenAt (lo * 2 + 1)
      have HE : Hid (∀ wz, wz = w6.setCell ⟨g, lo * 2 + 1, none⟩ (.slice (some ⟨gb, 0, none⟩) (mrg p.s q.s).length cb) → OwnO w.heap.size (some ⟨g, 0, none⟩) m c1 (A ++ ⟨p.l, p.a, p.c, mrg p.s q.s, some ⟨gb, 0, none⟩, cb⟩ :: B') wz ∧ Below w.heap.size w wz) := by
        rintro wz rfl
        have := HO.out.setAt (hB ▸ hr6) HX.out.size (own_base ho6 (hB ▸ hWd.size))
        rw [hA] at this
        refine ⟨this, ?_⟩
        have hg2 : w.heap.size ≤ g := (HO.out.row.lt g rfl).1
        exact (HX.out.trans ((hB ▸ hr6 : Below wr.heap.size wr w6).mono HX.out.size)).setCell hg2 _
      clear z1
      refine tkH 10 (some 36) ((.pointer (some ⟨g, lo * 2, none⟩))) rfl ?_
      simp only [Act.put, zzA, zzB, zzC]
      refine tkH 11 (some 37) ((.pointer (some ⟨g, lo * 2 + 1, none⟩))) rfl ?_
      simp only [Act.put, zzA, zzB, zzC]
      refine wpAnyH_ready (rs := [12]) (by kernel_rfl) (by simp) (AllReadyH.cons (o := { dst := none, op := _, type := _, pos := _, after := _, guard := _ }) rfl ?_ AllReadyH.nil)
      intro K3 hK3
      go_simp
      refine hK3.out _ _ (two (set_else (kept HBx.out hw6) (by simp only; omega))) (fun _ => ?_)
      clear hK3 K3
      refine wpAnyH_done (by kernel_rfl) ?_ _
      have HJn := hid (MR.join (p' := ⟨p.l, p.a, p.c, mrg p.s q.s, some ⟨gb, 0, none⟩, cb⟩) HS.out HTk.out HAl.out HJc.out HJ.out rfl rfl)
      clear z2 f2 HO6 hr6 ho6 hb6 hw6 HO HS HX HSB HC HBx HT1 HT2 HW0 hWd hW5 hWx hHeld
      go_wp2
      go_roundw
      case rel => exact ⟨k + 1, m, c1, _, _, by omega, by omega, by go_num, rfl, (HE.out _ rfl).1, HJn.out, (HE.out _ rfl).2⟩
      case measure => simp [intOf]; omega
    · have hdec : decide (lo < m ∧ cmpList (lb (A ++ B) lo) q.l = 0) = false := decide_eq_false hth
      rw [hdec]
      have HBp : Hid (∀ x, B.head? = some x → 0 < cmpList x.l q.l) := by
        intro x hx
        have h1 := HBg.out x hx
        cases B with
        | nil => cases hx
        | cons y B' =>
          cases hx
          have h2 := HLb.out A x B' rfl hA
          have h3 : lo < m := by simp at hAB; omega
          rw [h2] at hth
          have : ¬ cmpList x.l q.l = 0 := fun e => hth ⟨h3, e⟩
          omega
      clear hth hdec HLb HBg
      have hWx : Below wr.heap.size wr w4 := HW0.out.trans (HX5.out.mono hwW)
      have hXc : Below w.heap.size w w4 := HX.out.trans (hWx.mono HX.out.size)
      have HO5 := hid (own_below HO.out.row hWx)
      have hbx5 := kept HBx.out HX5.out
      have hBne : ∀ g, (Value.slice a' m c1).ownBlock = some g → g ≠ wr.heap.size := fun g hg => by have := (HO.out.row.lt g hg).2; omega
      have hBc : wr.heap.size < w4.heap.size := lt_at hbx5
      obtain ⟨bl, ol, hql⟩ : ∃ b o, q.a = some ⟨b, o, none⟩ := by
        rcases HTw1.out with h | ⟨b, o, h, _⟩
        · exact absurd h HJ.out.l1
        · exact ⟨b, o, h⟩
      obtain ⟨bs, os, hqs⟩ : ∃ b o, q.b = some ⟨b, o, none⟩ := by
        rcases HTw2.out with h | ⟨b, o, h, _⟩
        · exact absurd h HJ.out.s1
        · exact ⟨b, o, h⟩
      have hlp : 0 < q.l.length := List.length_pos_iff.2 HJ.out.l1
      have hsp : 0 < q.s.length := List.length_pos_iff.2 HJ.out.s1
      have HC1 : Hid (∀ x, Below w.heap.size w x → Calls Tryz.prog 111 #[.slice q.a q.l.length q.c] x fun e w' => ∃ v', e = .returned v' ∧ OwnL w' x.heap.size v' q.l ∧ Below x.heap.size x w') := by
        intro x hx
        have h := HTw1.out.below hx
        rw [hql] at h ⊢
        exact f111 bl ol q.c q.l x (by have := HJ.out.l2; omega) h
      have HC2 : Hid (∀ x, Below w.heap.size w x → Calls Tryz.prog 112 #[.slice q.b q.s.length q.d] x fun e w' => ∃ v', e = .returned v' ∧ Smp.Own w' x.heap.size v' q.s ∧ Below x.heap.size x w') := by
        intro x hx
        have h := HTw2.out.below hx
        rw [hqs] at h ⊢
        exact f112 bs os q.d q.s x (by have := HJ.out.s2; omega) h
      have HKi := hid (HO.out.kin.below hWx)
      clear hql hqs bl ol bs os
      generalize hB : wr.heap.size = Bx at *
      go_wp2_with (at_builtin; refine wpList_append_own_at _ rfl (.tmp 38) (.tmp 40) 33 rfl w.heap.size 80 i0 (.agg #[.slice none 0 0, .slice none 0 0]) 2 48 Tryz.underlying33 hi hz0 hz1 hz2 rfl (by decide) _ _ _ rfl (HO5.out.alloc _) ⟨w4.heap.size, 0, none⟩ 1 1 [.slice none 0 0, .slice none 0 0] rfl rfl ?d1 ?d2 ?d3 ?d4 ?d5 ?_)
      case d1 => first | exact Smp.two_new w4 _ _ _ | exact fun j u h => h
      case d2 => first | (intro u hu; simp at hu; rcases hu with rfl | rfl <;> rfl) | (refine ⟨?_, ?_⟩ <;> rfl) | rfl
      case d3 => unfold maxLen; omega
      case d4 => omega
      case d5 => have := hXc.size; simp; omega
      intro v6 w6 hown6 hgr6 _ hat6
      obtain ⟨g6, c6, rfl⟩ := own_formP hown6 (by omega)
      have hmc : m + 1 ≤ c6 := own_cap hown6
      have hba := (Below.refl w4.heap.size w4).alloc (Nat.le_refl _) (.cells #[.slice none 0 0, .slice none 0 0] 80)
      have hX6 : Below w.heap.size w w6 := (hXc.trans (hba.mono hXc.size)).grown hgr6 (by have := hXc.size; simp; omega) (fun j hj => (HO5.out.lt j hj).1)
      have hg6 : a' = some ⟨g6, 0, none⟩ ∨ g6 = (w4.alloc (.cells #[.slice none 0 0, .slice none 0 0] 80)).heap.size := by
        rcases hat6 with e | e
        · exact .inl (own_addr HO5.out e.symm)
        · exact .inr (by have := Option.some.inj (show some g6 = some (w4.heap.size + 1) from e); simp; omega)
      have hszA : (w4.alloc (.cells #[.slice none 0 0, .slice none 0 0] 80)).heap.size = w4.heap.size + 1 := by simp
      have hgB : g6 ≠ Bx := by
        rcases hg6 with e | e
        · exact hBne g6 (by rw [e]; rfl)
        · omega
      have HK6 : Hid (Kin w.heap.size (some ⟨g6, 0, none⟩) (A ++ B) w6) := by
        refine (HKi.out.below hba).moved hgr6 (fun g e => own_addr HO5.out e) (fun g e => ?_)
        cases e
        rcases hg6 with e | e
        · exact .inl e
        · exact .inr (by omega)
      have HR6 : Hid (w6.ownsRow w.heap.size 80 2 (.slice (some ⟨g6, 0, none⟩) (m + 1) c6) (m + 1) (flat (A ++ B ++ [q0]))) := by
        unfold Hid
        rw [flat_append]
        exact hown6
      have hbx6 : w6.heap[Bx]? = some (.cells #[.slice q.a q.l.length q.c, .slice q.b q.s.length q.d] 80) := by
        rw [hgr6.block Bx (by omega) (fun e => hBne Bx e.symm rfl)]
        exact kept hbx5 hba
      have HX6 := hid hX6
      have HBx6 := hid hbx6
      have hg6l : g6 < w6.heap.size := (HR6.out.lt g6 rfl).2
      have hg6b : w.heap.size ≤ g6 := (HR6.out.lt g6 rfl).1
      clear hown6 hgr6 hat6 hX6 hbx6 hg6 hszA hba HO5 HO HKi hBne hbx5 hXc hWx HX5 HW0 HBx HT1 HT2
      go_upto_region 9 with fail
      go_cut [5] from 15 to 60 (fun s5 wx => s5 = .slice (some ⟨g6, 0, none⟩) (m + 1) c6 ∧ Hid (∃ x, wx.ownsRow w.heap.size 80 2 (.slice (some ⟨g6, 0, none⟩) (m + 1) c6) (m + 1) (flat (A ++ x :: B))) ∧ Hid (w6.grownBy wx (some g6)))
      case first =>
        have hdr : Below w6.heap.size w6 w6.drew := (Below.refl _ _).drew
        have HR6d := hid (own_below HR6.out hdr)
        have HSB6 : Hid (SB q Bx w6.drew) := two (kept HBx6.out hdr)
        have HFin : Hid (∀ wz, wz.ownsRow w.heap.size 80 2 (.slice (some ⟨g6, 0, none⟩) (m + 1) c6) (m + 1) ((flat (A ++ B ++ [q0])).take ((lo + 1) * 2) ++ flat B ++ (flat (A ++ B ++ [q0])).drop ((lo + 1) * 2 + (flat B).length)) → w6.drew.grownBy wz (some g6) → (∃ x, wz.ownsRow w.heap.size 80 2 (.slice (some ⟨g6, 0, none⟩) (m + 1) c6) (m + 1) (flat (A ++ x :: B))) ∧ w6.grownBy wz (some g6)) := by
          intro wz h1 h2
          obtain ⟨x, hx⟩ := shift_flat A B
          rw [← hA, hx] at h1
          exact ⟨⟨x, h1⟩, ⟨h2.os, h2.tape, h2.output, h2.size, h2.block⟩⟩
        have j0 : (0 : Int) ≤ (lo : Int) := by omega
        have j5 : IntKind.i64.wrap ((lo : Int) + 1) = (lo : Int) + 1 := by rw [IntKind.wrap_i64]; omega
        have j6 : ((lo : Int) + 1).toNat = lo + 1 := by omega
        have j9 : (0 : Int) ≤ (lo : Int) + 1 := by omega
        have j8 : ¬ c6 = lo := by omega
        have jA : (lo : Int) ≤ (m : Int) + 1 := by omega
        have jB : (lo : Int) + 1 ≤ (m : Int) + 1 := by omega
        have jC : lo ≤ m + 1 := by omega
        have jD : lo + 1 ≤ m + 1 := by omega
        have jE : (lo : Int) ≤ (c6 : Int) := by omega
        have jF : (lo : Int) + 1 ≤ (c6 : Int) := by omega
        by_cases hcap : c6 = lo + 1
        · go_wp2_with fail
          refine wp_region_held_drew (S := fun x => SB q Bx x) rfl HSB6.out (fun hHeld => ?_)
          refine tkH 0 (some 42) ((.slice (some ⟨g6, 0, none⟩) (m + 1) c6)) rfl ?_
          simp only [Act.put, zzA, zzB, zzC]
          refine tkH 1 (some 43) ((.int .i64 (lo : Int))) rfl ?_
          simp only [Act.put, zzA, zzB, zzC]
          refine tkH 2 (some 44) ((.int .i64 ((lo : Int) + 1))) rfl ?_
          simp only [Act.put, zzA, zzB, zzC]
          refine tkH 3 (some 45) ((.slice (some ⟨g6, 0, none⟩) (m + 1 - (lo + 1)) (c6 - (lo + 1)))) rfl ?_
          simp only [Act.put, zzA, zzB, zzC]
          refine tkH 4 (some 46) ((.slice (some ⟨g6, 0, none⟩) (m + 1) c6)) rfl ?_
          simp only [Act.put, zzA, zzB, zzC]
          refine tkH 5 (some 47) ((.int .i64 (lo : Int))) rfl ?_
          simp only [Act.put, zzA, zzB, zzC]
          refine tkH 6 (some 48) ((.slice (some ⟨g6, lo * 2, none⟩) (m + 1 - lo) (c6 - lo))) rfl ?_
          simp only [Act.put, zzA, zzB, zzC]
          refine wpAnyH_ready (rs := [7]) (by kernel_rfl) (by simp) (AllReadyH.cons (o := { dst := some 49, op := _, type := _, pos := _, after := _, guard := _ }) rfl ?_ AllReadyH.nil)
          intro K7 hK7
          refine Cpy.step_copy_in rfl (.tmp 45) (.tmp 48) 33 33 rfl 80 i0 2 Tryz.underlying33 hi hz1 w.heap.size g6 (m + 1) c6 (flat (A ++ B ++ [q0])) HR6d.out (some ⟨g6, 0, none⟩) (some ⟨g6, lo * 2, none⟩) (m + 1 - (lo + 1)) (c6 - (lo + 1)) (m + 1 - lo) (c6 - lo) rfl rfl (m - lo) ((lo + 1) * 2) (lo * 2) (by show min _ _ = _; omega) (flat B) (by rw [flat_len]; omega) (fun h => by omega) (fun j v hj => by rw [List.append_assoc, flat_append A, List.getElem?_append_right (by rw [flat_len, hA]; omega), flat_len, hA, show lo * 2 + j - lo * 2 = j by omega, flat_append, List.getElem?_append_left (List.getElem?_eq_some_iff.1 hj).1]; exact hj) (by rw [flat_len, flat_len]; simp; omega) (flatQ_oneCell B) ?_
          intro w7 hown7 hgr7
          refine hK7.out _ _ (two (by rw [hgr7.block Bx (lt_at (kept HBx6.out hdr)) (fun e => hgB (Option.some.inj e).symm)]; exact kept HBx6.out hdr)) (fun _ => ?_)
          clear hK7 K7
          refine wpAnyH_done (by kernel_rfl) ?_ _
          have H7 := hid (HFin.out w7 hown7 hgr7)
          clear hown7 hgr7 hHeld HR6d HSB6 HFin HR6
          go_wp2
          go_meet
          exact ⟨rfl, H7.out.1, H7.out.2⟩
        · go_wp2_with fail
          refine wp_region_held_drew (S := fun x => SB q Bx x) rfl HSB6.out (fun hHeld => ?_)
          refine tkH 0 (some 42) ((.slice (some ⟨g6, 0, none⟩) (m + 1) c6)) rfl ?_
          simp only [Act.put, zzA, zzB, zzC]
          refine tkH 1 (some 43) ((.int .i64 (lo : Int))) rfl ?_
          simp only [Act.put, zzA, zzB, zzC]
          refine tkH 2 (some 44) ((.int .i64 ((lo : Int) + 1))) rfl ?_
          simp only [Act.put, zzA, zzB, zzC]
          refine tkH 3 (some 45) ((.slice (some ⟨g6, (lo + 1) * 2, none⟩) (m + 1 - (lo + 1)) (c6 - (lo + 1)))) rfl ?_
          simp only [Act.put, zzA, zzB, zzC]
          refine tkH 4 (some 46) ((.slice (some ⟨g6, 0, none⟩) (m + 1) c6)) rfl ?_
          simp only [Act.put, zzA, zzB, zzC]
          refine tkH 5 (some 47) ((.int .i64 (lo : Int))) rfl ?_
          simp only [Act.put, zzA, zzB, zzC]
          refine tkH 6 (some 48) ((.slice (some ⟨g6, lo * 2, none⟩) (m + 1 - lo) (c6 - lo))) rfl ?_
          simp only [Act.put, zzA, zzB, zzC]
          refine wpAnyH_ready (rs := [7]) (by kernel_rfl) (by simp) (AllReadyH.cons (o := { dst := some 49, op := _, type := _, pos := _, after := _, guard := _ }) rfl ?_ AllReadyH.nil)
          intro K7 hK7
          refine Cpy.step_copy_in rfl (.tmp 45) (.tmp 48) 33 33 rfl 80 i0 2 Tryz.underlying33 hi hz1 w.heap.size g6 (m + 1) c6 (flat (A ++ B ++ [q0])) HR6d.out (some ⟨g6, (lo + 1) * 2, none⟩) (some ⟨g6, lo * 2, none⟩) (m + 1 - (lo + 1)) (c6 - (lo + 1)) (m + 1 - lo) (c6 - lo) rfl rfl (m - lo) ((lo + 1) * 2) (lo * 2) (by show min _ _ = _; omega) (flat B) (by rw [flat_len]; omega) (fun _ => ⟨rfl, rfl⟩) (fun j v hj => by rw [List.append_assoc, flat_append A, List.getElem?_append_right (by rw [flat_len, hA]; omega), flat_len, hA, show lo * 2 + j - lo * 2 = j by omega, flat_append, List.getElem?_append_left (List.getElem?_eq_some_iff.1 hj).1]; exact hj) (by rw [flat_len, flat_len]; simp; omega) (flatQ_oneCell B) ?_
          intro w7 hown7 hgr7
          refine hK7.out _ _ (two (by rw [hgr7.block Bx (lt_at (kept HBx6.out hdr)) (fun e => hgB (Option.some.inj e).symm)]; exact kept HBx6.out hdr)) (fun _ => ?_)
          clear hK7 K7
          refine wpAnyH_done (by kernel_rfl) ?_ _
          have H7 := hid (HFin.out w7 hown7 hgr7)
          clear hown7 hgr7 hHeld HR6d HSB6 HFin HR6
          go_wp2
          go_meet
          exact ⟨rfl, H7.out.1, H7.out.2⟩
      case rest =>
      obtain ⟨rfl, HRx, HGx⟩ := hcut
      obtain ⟨x0, HRx⟩ := HRx.out
      have HRx := hid HRx
      have hdc : Below wc.heap.size wc wc.drew := (Below.refl _ _).drew
      have hXc : Below w.heap.size w wc := HX6.out.grown HGx.out HX6.out.size (fun g e => by cases e; exact hg6b)
      have hXd : Below w.heap.size w wc.drew := hXc.trans (hdc.mono hXc.size)
      have hbxc : wc.heap[Bx]? = some (.cells #[.slice q.a q.l.length q.c, .slice q.b q.s.length q.d] 80) := by
        rw [HGx.out.block Bx (lt_at HBx6.out) (fun e => hgB (Option.some.inj e).symm)]
        exact HBx6.out
      have HSBd : Hid (SB q Bx wc.drew) := two (kept hbxc hdc)
      have HKc : Hid (Kin w.heap.size (some ⟨g6, 0, none⟩) (A ++ B) wc) := HK6.out.moved HGx.out (fun g e => by cases e; rfl) (fun g e => .inl e)
      have hgc : g6 < wc.heap.size := (HRx.out.lt g6 rfl).2
      have HD1 := hid (HC1.out wc.drew hXd)
      have j0 : (0 : Int) ≤ (lo : Int) := by omega
      have j3 : (lo : Int) < (m : Int) + 1 := by omega
      have j4 : lo < m + 1 := by omega
      have j5 : (lo : Int) < ((m + 1 : Nat) : Int) := by omega
      clear HK6 HR6 HX6 HGx HBx6 hg6l
      go_wp2_with fail
      refine wp_region_held_drew (S := fun x => SB q Bx x) rfl HSBd.out (fun hHeld => ?_)
      refine tkH 0 (some 50) ((.slice (some ⟨g6, 0, none⟩) (m + 1) c6)) rfl ?_
      simp only [Act.put, zzA, zzB, zzC]
      refine tkH 1 (some 51) ((.int .i64 (lo : Int))) rfl ?_
      simp only [Act.put, zzA, zzB, zzC]
      refine tkH 2 (some 52) ((.pointer (some ⟨Bx, 0, none⟩))) rfl ?_
      simp only [Act.put, zzA, zzB, zzC]
      refine tkH 3 (some 53) ((.slice q.a q.l.length q.c)) rfl ?_
      simp only [Act.put, zzA, zzB, zzC]
      refine tkH 5 (some 55) ((.pointer (some ⟨Bx, 1, none⟩))) rfl ?_
      simp only [Act.put, zzA, zzB, zzC]
      refine tkH 6 (some 56) ((.slice q.b q.s.length q.d)) rfl ?_
      simp only [Act.put, zzA, zzB, zzC]
      refine wpAnyH_ready (rs := [4]) (by kernel_rfl) (by simp) (AllReadyH.cons (o := { dst := some 54, op := _, type := _, pos := _, after := _, guard := _ }) rfl ?_ AllReadyH.nil)
      intro K8 hK8
      go_simp
      go_wp2_with (go_at_call 111; refine HD1.out.mono ?_; rintro e w8 ⟨v8, rfl, ho8, hb8⟩; have hw8 : Below wc.heap.size wc w8 := hdc.trans (hb8.mono hdc.size); have hX8 : Below w.heap.size w w8 := hXc.trans (hw8.mono hXc.size))
      refine hK8.out _ _ (two (kept hbxc hw8)) (fun _ => ?_)
      clear hK8 K8
      refine wpAnyH_ready (rs := [7]) (by kernel_rfl) (by simp) (AllReadyH.cons (o := { dst := some 57, op := _, type := _, pos := _, after := _, guard := _ }) rfl ?_ AllReadyH.nil)
      intro K9 hK9
      go_simp
      go_wp2_with (go_at_call 112; refine (HC2.out w8 hX8).mono ?_; rintro e w9 ⟨v9, rfl, ho9, hb9⟩; have hw9 : Below wc.heap.size wc w9 := hw8.trans (hb9.mono hw8.size))
      refine hK9.out _ _ (two (kept hbxc hw9)) (fun _ => ?_)
      clear hK9 K9
      obtain ⟨ga, ca, rfl⟩ := own_formP ho8 hlp
      obtain ⟨gb, cb, rfl⟩ := own_formP ho9 hsp
      have hga : wc.heap.size ≤ ga ∧ ga < w8.heap.size := ⟨(ho8.lt ga rfl).1, (ho8.lt ga rfl).2⟩
      have hgb : w8.heap.size ≤ gb := (ho9.lt gb rfl).1
      have hwz : wc.heap.size ≤ w8.heap.size := hw8.size
      have hwX : w.heap.size ≤ wc.heap.size := hXc.size
      have HR9 := hid (own_below HRx.out hw9)
      obtain ⟨q', hq'⟩ : ∃ q' : Q, q' = ⟨q.l, some ⟨ga, 0, none⟩, ca, q.s, some ⟨gb, 0, none⟩, cb⟩ := ⟨_, rfl⟩
      have HQ4 : Hid (Own2 w.heap.size q' w9 ∧ blk q'.a = ga ∧ blk q'.b = gb ∧ pl q' = pl q) := by
        rw [hq']
        exact ⟨⟨rfl, rfl, own_base (own_below ho8 hb9) (by show _ ≤ wc.heap.size; omega), own_base ho9 (by omega), (by simp only [blk]; omega)⟩, rfl, rfl, rfl⟩
      have HQc : Hid (Value.slice q'.a q'.l.length q'.c = .slice (some ⟨ga, 0, none⟩) q.l.length ca ∧ Value.slice q'.b q'.s.length q'.d = .slice (some ⟨gb, 0, none⟩) q.s.length cb) := by rw [hq']; exact ⟨rfl, rfl⟩
      clear hq' ho8 hb8 ho9 hb9
      obtain ⟨y0, y1⟩ := flat_get (A ++ x0 :: B) lo (by simp; omega)
      have z0 := (HR9.out.cellAt (lo * 2) (by omega)).trans y0
      have f0 := HR9.out.frozenAt (lo * 2)
      have hst := HR9.out.stored (lo * 2) (.slice (some ⟨ga, 0, none⟩) q.l.length ca)
      have z1 : (w9.setCell ⟨g6, lo * 2, none⟩ (.slice (some ⟨ga, 0, none⟩) q.l.length ca)).cell? ⟨g6, lo * 2 + 1, none⟩ = some (.slice ((A ++ x0 :: B).getD lo q0).b ((A ++ x0 :: B).getD lo q0).s.length ((A ++ x0 :: B).getD lo q0).d) := by
        rw [hst.1.cellAt (lo * 2 + 1) (by omega), List.getElem?_set_ne (by omega)]; exact y1
      have f1 := hst.1.frozenAt (lo * 2 + 1)
      have z1' := (HR9.out.cellAt (lo * 2 + 1) (by omega)).trans y1
      have f1' := HR9.out.frozenAt (lo * 2 + 1)
      have HE : Hid (∀ wz, wz = (w9.setCell ⟨g6, lo * 2, none⟩ (.slice (some ⟨ga, 0, none⟩) q.l.length ca)).setCell ⟨g6, lo * 2 + 1, none⟩ (.slice (some ⟨gb, 0, none⟩) q.s.length cb) → OwnO w.heap.size (some ⟨g6, 0, none⟩) (m + 1) c6 (A ++ q' :: B) wz ∧ Below w.heap.size w wz) := by
        rintro wz rfl
        have hst2 := hst.1.stored (lo * 2 + 1) (.slice (some ⟨gb, 0, none⟩) q.s.length cb)
        have hX9 : Below w.heap.size w w9 := hXc.trans (hw9.mono hXc.size)
        refine ⟨?_, (hX9.setCell hg6b _).setCell hg6b _⟩
        have hk9 := (HKc.out.below hw9).cons HQ4.out.1 (fun g e => by cases e; rw [HQ4.out.2.1, HQ4.out.2.2.1]; omega) (fun p hp => by
          have := (HKc.out.own p hp).hi
          refine ⟨?_, ?_, ?_, ?_⟩ <;> (first | rw [HQ4.out.2.1] | rw [HQ4.out.2.2.1]) <;> omega)
        have hk10 := ((hk9.moved (a' := some ⟨g6, 0, none⟩) hst.2 (fun g e => by cases e; rfl) (fun g e => .inl e)).moved (a' := some ⟨g6, 0, none⟩) hst2.2 (fun g e => by cases e; rfl) (fun g e => .inl e)).perm (perm_mid A B q')
        refine hk10.ownO (by simp; omega) ?_
        have e := flat_set (A ++ x0 :: B) lo q' (by simp; omega)
        rw [HQc.out.1, HQc.out.2, ← hA, set_mid, hA] at e
        rw [← e]
        exact hst2.1
      have HJn := hid (MR.more HS.out HTk.out HAl.out HBp.out HJ.out HQ4.out.2.2.2)
      refine tkH 8 (some 58) ((.agg #[.slice (some ⟨ga, 0, none⟩) q.l.length ca, .slice (some ⟨gb, 0, none⟩) q.s.length cb])) rfl ?_
      simp only [Act.put, zzA, zzB, zzC]
      refine tkH 9 (some 59) ((.pointer (some ⟨g6, lo * 2, none⟩))) rfl ?_
      simp only [Act.put, zzA, zzB, zzC]
      refine wpAnyH_ready (rs := [10]) (by kernel_rfl) (by simp) (AllReadyH.cons (o := { dst := none, op := _, type := _, pos := _, after := _, guard := _ }) rfl ?_ AllReadyH.nil)
      intro K10 hK10
      go_simp
      refine hK10.out _ _ (two (set_else (set_else (kept hbxc hw9) (by simp only; omega)) (by simp only; omega))) (fun _ => ?_)
      clear hK10 K10
      refine wpAnyH_done (by kernel_rfl) ?_ _
      clear z0 z1 z1' f0 f1 f1' hst HR9 HQ4 HQc hw9 hw8 hX8 HKc HSBd hbxc HS HX HC1 HC2 HD1 hXd hXc hHeld HRx y0 y1
      go_wp2
      go_roundw
      case rel => exact ⟨k + 1, m + 1, c6, _, _, by omega, by omega, by go_num, rfl, (HE.out _ rfl).1, HJn.out, (HE.out _ rfl).2⟩
      case measure => simp [intOf]; omega
end Go.Proofs.YtjhdmghpklagkaaGreat.Srs
