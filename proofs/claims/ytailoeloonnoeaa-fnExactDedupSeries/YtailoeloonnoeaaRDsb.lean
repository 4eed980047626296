/- The program's DedupSeries. -/
import Derived.Test.YtailoeloonnoeaaRDsa
import Derived.Deep.QuietTactic
namespace Go.Proofs.Ytailoeloonnoeaa.Srs
open Go.RowKit
open Go.Proofs.Ytailoeloonnoeaa.Lab (Lb HasL cmpList)
open Go.Proofs.Ytailoeloonnoeaa.Smp (Sm HasS dedT Tml TimeP)
open Go.Proofs.Ytailoeloonnoeaa.Stb (isort ltP ltQ runs upd eqv isort_mem isort_len isortQ foldl_runs fvC slQ ordQ CmpOk sort00 fSortStable isort_perm)

theorem KinV.push {X Y n c : Nat} {a : Option Addr} {qs : List Q} {q : Q} {w W x : World} (h : KinV X qs w) (hr : w.ownsRow Y 40 2 (.slice a n c) n (flat qs)) (hb : Below w.heap.size w W) (hq : OwnW X q W) (hap : ∀ p ∈ qs, Aq p q) (hg : W.grownBy x (Value.slice a n c).ownBlock) : KinV X (qs ++ [q]) x := by
  have hr := own_below hr hb
  refine ⟨fun p hp => ?_, List.pairwise_append.2 ⟨h.dis, List.pairwise_singleton _ _, fun p hp r hr => by rw [List.mem_singleton.1 hr]; exact hap p hp⟩⟩
  have hw : OwnW X p W := by
    rcases List.mem_append.1 hp with e | e
    · exact (h.own p e).below hb
    · rw [List.mem_singleton.1 e]; exact hq
  exact hw.fw (Fw.grownO hg) (hw.noRow hr).1 (hw.noRow hr).2
theorem KinV.setAt {X Y g m c gb d' : Nat} {A B : List Q} {q : Q} {s' : List Sm} {w W : World} (h : KinV X (A ++ q :: B) w) (hr : w.ownsRow Y 40 2 (.slice (some ⟨g, 0, none⟩) m c) m (flat (A ++ q :: B))) (hb : Below w.heap.size w W) (hX : X ≤ w.heap.size) (hs : W.ownsRow w.heap.size 53 2 (.slice (some ⟨gb, 0, none⟩) s'.length d') s'.length (Smp.flat s')) :
    KinV X (A ++ ⟨q.l, q.a, q.c, s', some ⟨gb, 0, none⟩, d'⟩ :: B) (W.setCell ⟨g, A.length * 2 + 1, none⟩ (.slice (some ⟨gb, 0, none⟩) s'.length d')) ∧ (W.setCell ⟨g, A.length * 2 + 1, none⟩ (.slice (some ⟨gb, 0, none⟩) s'.length d')).ownsRow Y 40 2 (.slice (some ⟨g, 0, none⟩) m c) m (flat (A ++ ⟨q.l, q.a, q.c, s', some ⟨gb, 0, none⟩, d'⟩ :: B)) := by
  have hrW := own_below hr hb
  have hst := hrW.stored (A.length * 2 + 1) (.slice (some ⟨gb, 0, none⟩) s'.length d')
  have hgb : w.heap.size ≤ gb := (hs.lt gb rfl).1
  have hk := h.perm (perm_mid A B q).symm
  have hq := hk.own q (by simp)
  have hq' : OwnW X ⟨q.l, q.a, q.c, s', some ⟨gb, 0, none⟩, d'⟩ W := ⟨hq.lab.below hb, rfl, own_base hs hX⟩
  have hk2 : KinV X (⟨q.l, q.a, q.c, s', some ⟨gb, 0, none⟩, d'⟩ :: (A ++ B)) W := by
    refine (hk.tail.below hb).cons hq' (fun p hp => ⟨((List.pairwise_cons.1 hk.dis).1 p hp).1, ?_⟩)
    have h2 := (hk.tail.own p hp).hi.1
    show gb ≠ _; omega
  refine ⟨(hk2.moved hrW hst.2).perm (perm_mid A B _), ?_⟩
  have e : (flat (A ++ q :: B)).set (A.length * 2 + 1) (.slice (some ⟨gb, 0, none⟩) s'.length d') = flat (A ++ ⟨q.l, q.a, q.c, s', some ⟨gb, 0, none⟩, d'⟩ :: B) := by
    rw [flat_mid, flat_mid, List.set_append_right _ _ (by rw [flat_len]; omega), flat_len, show A.length * 2 + 1 - A.length * 2 = 1 by omega]
    rfl
  rw [← e]
  exact hst.1
/-- The series without that label, while they are being told: their labels are the call's own, their samples lie where they lay. -/
structure BR (X : Nat) (a : Option Addr) (k c : Nat) (qs D : List Q) (x : ByteArray) (w : World) : Prop where
  len : D.length = k
  row : w.ownsRow X 40 2 (.slice a k c) k (flat D)
  lab : ∀ d ∈ D, OwnLb X d.l d.a d.c w
  dis : D.Pairwise (fun p q => lbq p = none ∨ lbq p ≠ lbq q)
  eq : D.map pl = ((qs.take k).map pl).map (drp x)
  smp : ∀ d ∈ D, ∃ q ∈ qs, d.b = q.b ∧ d.s = q.s ∧ d.d = q.d ∧ pl d = drp x (pl q)
theorem BR.nil (X : Nat) (qs : List Q) (x : ByteArray) (w : World) : BR X none 0 0 qs [] x w := ⟨rfl, World.ownsRow_nil _ _ _ _, fun d hd => (by cases hd), List.Pairwise.nil, rfl, fun d hd => (by cases hd)⟩
theorem lb_noRow {X Y n : Nat} {q : Q} {v : Value} {xs : List Value} {w : World} (h : OwnLb X q.l q.a q.c w) (hr : w.ownsRow Y 40 2 v n xs) : ∀ g, lbq q = some g → ¬ v.ownBlock = some g :=
  fun g hg e => apart (g := g) hr (h.blk hg).2 (by decide) e rfl
theorem BR.push {X k c c' : Nat} {a a' : Option Addr} {qs D : List Q} {x : ByteArray} {q d : Q} {w W y : World} (h : BR X a k c qs D x w) (hb : Below w.heap.size w W) (hX : X ≤ w.heap.size) (hl : OwnLb w.heap.size d.l d.a d.c W) (ht : qs.take (k + 1) = qs.take k ++ [q]) (hq : q ∈ qs) (h1 : d.b = q.b ∧ d.s = q.s ∧ d.d = q.d) (h2 : pl d = drp x (pl q))
    (hg : W.grownBy y (Value.slice a k c).ownBlock) (ho : y.ownsRow X 40 2 (.slice a' (k + 1) c') (k + 1) (flat (D ++ [d]))) : BR X a' (k + 1) c' qs (D ++ [d]) x y := by
  have hr := own_below h.row hb
  refine ⟨by simp [h.len], ho, fun p hp => ?_, List.pairwise_append.2 ⟨h.dis, List.pairwise_singleton _ _, fun p hp r hr => ?_⟩, ?_, fun p hp => ?_⟩
  · rcases List.mem_append.1 hp with e | e
    · have := (h.lab p e).below hb
      exact this.fw (Fw.grownO hg) (lb_noRow this hr)
    · obtain rfl := List.mem_singleton.1 e
      exact (hl.fw (Fw.grownO hg) (lb_noRow hl hr)).base hX
  · obtain rfl := List.mem_singleton.1 hr
    by_cases e : lbq p = none
    · exact .inl e
    · refine .inr fun e2 => ?_
      obtain ⟨b, hb'⟩ := Option.ne_none_iff_exists'.1 e
      have g1 := (((h.lab p hp).blk hb').2.lt b rfl).2
      have g2 := ((hl.blk (e2.symm.trans hb')).2.lt b rfl).1
      omega
  · rw [List.map_append, h.eq, ht, List.map_append, List.map_append]
    simp [h2]
  · rcases List.mem_append.1 hp with e | e
    · exact h.smp p e
    · rw [List.mem_singleton.1 e]; exact ⟨q, hq, h1.1, h1.2.1, h1.2.2, h2⟩
theorem cmpOkV (X g n c : Nat) (w0 : World) (D : List Q) (hrow : w0.ownsRow X 40 2 (.slice (some ⟨g, 0, none⟩) n c) n (flat D)) (h : ∀ x ∈ D, x.l.length ≤ 1048576 ∧ OwnLb X x.l x.a x.c w0) : CmpOk slQ ltQ w0 g D where
  cmp W x y hx hy hgr := by
    have hL : ∀ z ∈ D, HasL W z.a z.l := fun z hz => ((h z hz).2.fw (Fw.grown (P := fun b => b = g) hgr rfl) (fun b e e2 => by subst e2; exact lb_noRow (h z hz).2 hrow b e rfl)).has
    refine (f24 x y W (h x hx).1 (h y hy).1 (hL x hx) (hL y hy)).mono ?_
    rintro e w' ⟨rfl, hb⟩
    exact ⟨_, rfl, rfl, hb⟩
/-- A row of series of the call's own, sorted, wherever their labels lie. -/
theorem sortV (X : Nat) (w0 : World) (a : Option Addr) (c : Nat) (D : List Q) (hn : D.length ≤ 1048576) (h : ∀ x ∈ D, x.l.length ≤ 1048576 ∧ OwnLb X x.l x.a x.c w0) (hr : w0.ownsRow X 40 2 (.slice a D.length c) D.length (flat D)) :
    Calls Try.prog 23 #[.slice a D.length c, fvC] w0 fun e w' => e = .returned (.tuple #[]) ∧ w'.ownsRow X 40 2 (.slice a D.length c) D.length (flat (isort ltQ D)) ∧ w0.grownBy w' (Value.slice a D.length c).ownBlock := by
  by_cases h0 : D.length = 0
  · have hD : D = [] := List.eq_nil_of_length_eq_zero h0
    subst hD
    refine (sort00 a c w0).mono ?_
    rintro e w' ⟨rfl, rfl⟩
    exact ⟨rfl, hr, ⟨rfl, rfl, rfl, Nat.le_refl _, fun _ _ _ => rfl⟩⟩
  · obtain ⟨g, rfl⟩ : ∃ g, a = some ⟨g, 0, none⟩ := by
      rcases hr.2 with ⟨_, h2⟩ | ⟨g, cap, cur, h1, _⟩
      · exact absurd h2 h0
      · simp only [Value.slice.injEq] at h1; exact ⟨g, h1.1⟩
    refine (fSortStable slQ ltQ ordQ X g c D.length D w0 hn (by omega) (cmpOkV X g D.length c w0 D hr h) hr).mono ?_
    rintro e w' ⟨rfl, h1, h2⟩
    exact ⟨rfl, h1, h2⟩
/-- What is told of the first k of the sorted ones. -/
structure DJ (S R : List Q) (gap : Int) (k : Nat) : Prop where
  eq : R.map pl = ((S.take k).map pl).foldl (upd ltP (jD gap)) []
  fine : ∀ q ∈ R, DR q k
  from_ : ∀ p ∈ R, ∃ j, j < k ∧ lbq p = lbq (S.getD j q0)
theorem DJ.join {S R' : List Q} {p q q' : Q} {gap : Int} {k : Nat} (h : DJ S (R' ++ [p]) gap k) (ht : S.take (k + 1) = S.take k ++ [q]) (hc : cmpList p.l q.l = 0) (hq : DQ q) (hl : q'.l = p.l) (ha : lbq q' = lbq p) (hs : q'.s = dedT gap p.s q.s) : DJ S (R' ++ [q']) gap (k + 1) := by
  refine ⟨?_, fun x hx => ?_, fun x hx => ?_⟩
  · rw [ht, show (S.take k ++ [q]).map pl = (S.take k).map pl ++ [pl q] by simp, List.foldl_append, ← h.eq]
    simp only [List.map_append, List.map_cons, List.map_nil, List.foldl_cons, List.foldl_nil]
    rw [Stb.upd_eq (by rw [Stb.eqvP]; exact decide_eq_true hc)]
    simp only [pl, jD, hl, hs]
  · rcases List.mem_append.1 hx with h1 | h1
    · exact (h.fine x (by simp [h1])).mono (Nat.le_succ _)
    · obtain rfl : x = q' := by simpa using h1
      exact (h.fine p (by simp)).join hq hl hs
  · rcases List.mem_append.1 hx with h1 | h1
    · obtain ⟨j, hj, e⟩ := h.from_ x (by simp [h1]); exact ⟨j, by omega, e⟩
    · obtain rfl : x = q' := by simpa using h1
      obtain ⟨j, hj, e⟩ := h.from_ p (by simp); exact ⟨j, by omega, ha.trans e⟩
theorem DJ.more {S R : List Q} {q q' : Q} {gap : Int} {k : Nat} (h : DJ S R gap k) (ht : S.take (k + 1) = S.take k ++ [q]) (hk : S.getD k q0 = q) (hj : jb R q = false) (hq : DQ q) (he : pl q' = pl q) (ha : lbq q' = lbq q) : DJ S (R ++ [q']) gap (k + 1) := by
  have hl : q'.l = q.l := congrArg Prod.fst he
  have hs : q'.s = q.s := congrArg Prod.snd he
  refine ⟨?_, fun x hx => ?_, fun x hx => ?_⟩
  · rw [ht, show (S.take k ++ [q]).map pl = (S.take k).map pl ++ [pl q] by simp, List.foldl_append, ← h.eq]
    simp only [List.map_append, List.map_cons, List.map_nil, List.foldl_cons, List.foldl_nil, he]
    by_cases h0 : R.length = 0
    · rw [List.eq_nil_of_length_eq_zero h0]; rfl
    · obtain ⟨R', p, rfl, _⟩ := snoc_of (R := R) (m := R.length - 1) (by omega)
      rw [jb_snoc] at hj
      rw [List.map_append, List.map_singleton, Stb.upd_ne (by rw [Stb.eqvP]; exact hj)]
  · rcases List.mem_append.1 hx with h1 | h1
    · exact (h.fine x h1).mono (Nat.le_succ _)
    · obtain rfl : x = q' := by simpa using h1
      exact hq.dr hl hs
  · rcases List.mem_append.1 hx with h1 | h1
    · obtain ⟨j, hj, e⟩ := h.from_ x h1; exact ⟨j, by omega, e⟩
    · obtain rfl : x = q' := by simpa using h1
      exact ⟨k, by omega, by rw [ha, hk]⟩
theorem own_capW {w : World} {X e z n c g : Nat} {xs : List Value} (h : w.ownsRow X e z (.slice (some ⟨g, 0, none⟩) n c) n xs) : n ≤ c := by
  rcases h.2 with ⟨h4, _⟩ | ⟨g', cap, cur, h4, _, _, h5, _⟩
  · simp at h4
  · simp only [Value.slice.injEq] at h4; omega
theorem one_txt (w : World) (x : ByteArray) : Lab.HasT (w.alloc (.cells #[.string x] 9)) (some ⟨w.heap.size, 0, none⟩) [x] := by
  refine .inr ⟨w.heap.size, 0, rfl, by simp, fun i hi => ?_⟩
  obtain rfl : i = 0 := by simp at hi; exact hi
  exact Lab.one_new w (.string x) _
set_option maxRecDepth 10000 in
set_option maxHeartbeats 8000000 in
theorem f7 (a : Option Addr) (n c : Nat) (qs : List Q) (x : ByteArray) (gap : Int) (w : World) (hn : qs.length = n) (h1 : n ≤ 1048576) (hr : HasQ w a qs) (hf : FitQ qs) (hz : SmlQ qs) (hd : ∀ q ∈ qs, q.d = q.s.length) (hx : x.size ≤ maxLen) :
    Calls Try.prog 7 #[.slice a n c, .string x, .int .i64 gap] w fun e w' => ∃ a' m' c'' R, e = .returned (.slice a' m' c'') ∧ OwnO w.heap.size a' m' c'' R w' ∧ R.map pl = dsL (qs.map pl) x gap ∧ Below w.heap.size w w' := by
  obtain ⟨i0, hi, hz0, hz1, hz2⟩ := info_parts infoQ''
  have HN := hid hn
  have HR := hid hr
  have HF := hid hf
  have HZ := hid hz
  have HD := hid hd
  clear hn hr hf hz hd
  go_enter Try.func7, Try.ntmps7
  go_wp2_with fail
  refine (f19 a n c qs _ HN.out (by unfold maxLen; omega) HR.out HF.out HZ.out).mono ?_
  rintro e w1 ⟨rfl, hb1⟩
  have HB1 := hid hb1
  clear hb1
  cases ga : gdQ qs with
  | false =>
    have HE := hid (dsL_a (L := qs.map pl) (x := x) (gap := gap) (by rw [← gdQ_pl, ga]; simp))
    go_wp2
    go_ret
    exact ⟨none, 0, 0, [], rfl, OwnO.nil _ _, HE.out.symm, HB1.out⟩
  | true =>
  go_wp2_with fail
  refine (Str.f20 x _ hx).mono ?_
  rintro e w1x ⟨rfl, hw⟩; subst w1x
  cases gn : Str.nameL x.data.toList with
  | false =>
    have HE := hid (dsL_b (L := qs.map pl) (x := x) (gap := gap) (by rw [gn]; simp))
    go_wp2
    go_ret
    exact ⟨none, 0, 0, [], rfl, OwnO.nil _ _, HE.out.symm, HB1.out⟩
  | true =>
  go_wp2_with fail
  refine (Smp.f21 gap _).mono ?_
  rintro e w1x ⟨rfl, hw⟩; subst w1x
  by_cases gg : 0 ≤ gap ∧ gap ≤ 1000000
  rotate_left
  · have HE := hid (dsL_c (L := qs.map pl) (x := x) (gap := gap) gg)
    rw [decide_eq_false gg]
    clear gg
    go_wp2
    go_ret
    exact ⟨none, 0, 0, [], rfl, OwnO.nil _ _, HE.out.symm, HB1.out⟩
  rw [decide_eq_true gg]
  have HGq := hid (gdQ_iff.1 ga)
  have HPa := hid (show gdL (qs.map pl) = true by rw [← gdQ_pl]; exact ga)
  have HPn := hid gn
  have HPg := hid gg
  have h200 : n ≤ 200 := by have := HGq.out.1; have := HN.out; omega
  have HQd : Hid (∀ q ∈ qs, DQ q) := fun q hq => dq_of (okq_mem HGq.out hq) (fitq_mem HF.out hq)
  clear ga gn gg
  go_wp2
  go_loopw [7, 29] (fun so si wr => ∃ (k c' : Nat) (a' : Option Addr) (D : List Q), k ≤ n ∧ si = .int .i64 k ∧ so = .slice a' k c' ∧ Hid (BR w.heap.size a' k c' qs D x wr) ∧ Hid (Below w.heap.size w wr)) (fun _ si _ => n - (intOf si).toNat)
  case atStart => exact ⟨0, 0, none, [], Nat.zero_le _, rfl, rfl, BR.nil _ _ _ _, HB1.out⟩
  case round =>
    clear HB1
    obtain ⟨k, c', a', D, hk, rfl, rfl, HB, HX⟩ := hrel
    by_cases hlt : k < n
    · obtain ⟨bb, off, rfl, hbl, c0, c1, t1, t2⟩ := (HR.out.below HX.out).at2 k (by rw [HN.out]; exact hlt)
      have hmem := get_mem' (show k < qs.length by rw [HN.out]; exact hlt)
      have HJ := hid (HQd.out _ hmem)
      have HMem := hid hmem
      have HGl := hid (okq_mem HGq.out hmem).1
      have HTk := hid (take_get (show k < qs.length by rw [HN.out]; exact hlt))
      clear hmem
      generalize qs.getD k q0 = q at *
      have i1 : (k : Int) < (n : Int) := by omega
      have HW0 := hid ((Below.refl wr.heap.size wr).alloc (Nat.le_refl _) (.cells #[.slice q.a q.l.length q.c, .slice q.b q.s.length q.d] 40))
      have HBx := hid (heap_alloc_new wr (.cells #[.slice q.a q.l.length q.c, .slice q.b q.s.length q.d] 40))
      have HT1 := hid (t1.below HW0.out)
      obtain ⟨W, hW⟩ : ∃ W, W = wr.alloc (.cells #[.slice q.a q.l.length q.c, .slice q.b q.s.length q.d] 40) := ⟨_, rfl⟩
      rw [← hW] at HW0 HBx HT1
      clear t1 t2 hbl
      go_upto_region 7 with fail
      rw [← hW]
      clear hW c0 c1
      have hdr : Below W.heap.size W W.drew := (Below.refl _ _).drew
      have HSB : Hid (SB q wr.heap.size W.drew) := two (kept HBx.out hdr)
      have hBW : wr.heap.size < W.heap.size := lt_at HBx.out
      have hgX := HX.out.size
      generalize hB : wr.heap.size = B at *
      go_wp2_with fail
      refine wp_region_held_drew (S := fun x => SB q B x) rfl HSB.out (fun hHeld => ?_)
      refine wpAnyH_take (i := 0) (oi := { dst := some 33, op := _, type := _, pos := _, after := _, guard := _ }) (v := ((.slice a' k c'))) rfl (by kernel_rfl) (by kernel_rfl) (by kernel_rfl) (fun _ _ _ h => h) (Or.inl ⟨by rfl, fun w hSw => by (try dsimp only at hSw); go_split_ands; go_simp⟩) (by assumption) ?_
      try simp only [Act.put, List.setIfInBounds_toArray, List.set_cons_zero, List.set_cons_succ]
      refine wpAnyH_take (i := 1) (oi := { dst := some 34, op := _, type := _, pos := _, after := _, guard := _ }) (v := ((.pointer (some ⟨B, 0, none⟩)))) rfl (by kernel_rfl) (by kernel_rfl) (by kernel_rfl) (fun _ _ _ h => h) (Or.inl ⟨by rfl, fun w hSw => by (try dsimp only at hSw); go_split_ands; go_simp⟩) (by assumption) ?_
      try simp only [Act.put, List.setIfInBounds_toArray, List.set_cons_zero, List.set_cons_succ]
      refine wpAnyH_take (i := 2) (oi := { dst := some 35, op := _, type := _, pos := _, after := _, guard := _ }) (v := ((.slice q.a q.l.length q.c))) rfl (by kernel_rfl) (by kernel_rfl) (by kernel_rfl) (fun _ _ _ h => h) (Or.inl ⟨by rfl, fun w hSw => by (try dsimp only at hSw); go_split_ands; go_simp⟩) (by assumption) ?_
      try simp only [Act.put, List.setIfInBounds_toArray, List.set_cons_zero, List.set_cons_succ]
      refine wpAnyH_take (i := 3) (oi := { dst := some 36, op := _, type := _, pos := _, after := _, guard := _ }) (v := ((.string x))) rfl (by kernel_rfl) (by kernel_rfl) (by kernel_rfl) (fun _ _ _ h => h) (Or.inl ⟨by rfl, fun w hSw => by (try dsimp only at hSw); go_split_ands; go_simp⟩) (by assumption) ?_
      try simp only [Act.put, List.setIfInBounds_toArray, List.set_cons_zero, List.set_cons_succ]
      refine wpAnyH_take (i := 6) (oi := { dst := some 39, op := _, type := _, pos := _, after := _, guard := _ }) (v := ((.pointer (some ⟨B, 1, none⟩)))) rfl (by kernel_rfl) (by kernel_rfl) (by kernel_rfl) (fun _ _ _ h => h) (Or.inl ⟨by rfl, fun w hSw => by (try dsimp only at hSw); go_split_ands; go_simp⟩) (by assumption) ?_
      try simp only [Act.put, List.setIfInBounds_toArray, List.set_cons_zero, List.set_cons_succ]
      refine wpAnyH_take (i := 7) (oi := { dst := some 40, op := _, type := _, pos := _, after := _, guard := _ }) (v := ((.slice q.b q.s.length q.d))) rfl (by kernel_rfl) (by kernel_rfl) (by kernel_rfl) (fun _ _ _ h => h) (Or.inl ⟨by rfl, fun w hSw => by (try dsimp only at hSw); go_split_ands; go_simp⟩) (by assumption) ?_
      try simp only [Act.put, List.setIfInBounds_toArray, List.set_cons_zero, List.set_cons_succ]
      refine wpAnyH_ready (rs := [4]) (by kernel_rfl) (by simp) (AllReadyH.cons (o := { dst := some 37, op := _, type := _, pos := _, after := _, guard := _ }) rfl ?_ AllReadyH.nil)
      intro K1 hK1
      go_simp
      have hba := (Below.refl W.drew.heap.size W.drew).alloc (Nat.le_refl _) (.cells #[.string x] 9)
      have hwa := hdr.trans (hba.mono hdr.size)
      have HDr := hid (Lab.f22 q.a (some ⟨W.drew.heap.size, 0, none⟩) q.l.length q.c 1 1 q.l [x] (W.drew.alloc (.cells #[.string x] 9)) rfl (by have := HJ.out.l2; omega) (HT1.out.below hwa) HJ.out.lf rfl (by omega) (one_txt W.drew x))
      rw [Lab.selR_yes (ls := q.l) (ss := [x]) (b := false) HGl.out.1 (by simp)] at HDr
      refine hK1.out _ _ (two (kept HBx.out hwa)) (fun _ => ?_)
      clear hK1 K1
      refine wpAnyH_ready (rs := [5]) (by kernel_rfl) (by simp) (AllReadyH.cons (o := { dst := some 38, op := _, type := _, pos := _, after := _, guard := _ }) rfl ?_ AllReadyH.nil)
      intro K2 hK2
      go_simp
      go_wp2_with (go_at_call 22; refine HDr.out.mono ?_; rintro e w4 ⟨la, lm, lc, rfl, ho4, hb4⟩)
      have hw4 : Below W.heap.size W w4 := hwa.trans (hb4.mono hwa.size)
      refine hK2.out _ _ (two (kept HBx.out hw4)) (fun _ => ?_)
      clear hK2 K2
      obtain ⟨hlm, hol⟩ := OwnLb.ofRow ho4
      subst hlm
      obtain ⟨d, hd'⟩ : ∃ d : Q, d = ⟨Lab.selL [x] false q.l, la, lc, q.s, q.b, q.d⟩ := ⟨_, rfl⟩
      have HDd : Hid (OwnLb B d.l d.a d.c w4 ∧ (d.b = q.b ∧ d.s = q.s ∧ d.d = q.d) ∧ pl d = drp x (pl q) ∧ cl d = [.slice la (Lab.selL [x] false q.l).length lc, .slice q.b q.s.length q.d]) := by
        rw [hd']; exact ⟨hol.base (by show B ≤ (W.drew.alloc _).heap.size; simp; show B ≤ W.heap.size + 1; omega), ⟨rfl, rfl, rfl⟩, rfl, rfl⟩
      have hr4 : Below B wr w4 := HW0.out.trans (hw4.mono (by omega))
      clear hd' hol ho4
      refine wpAnyH_take (i := 8) (oi := { dst := some 41, op := _, type := _, pos := _, after := _, guard := _ }) (v := ((.agg #[.slice la (Lab.selL [x] false q.l).length lc, .slice q.b q.s.length q.d]))) rfl (by kernel_rfl) (by kernel_rfl) (by kernel_rfl) (fun _ _ _ h => h) (Or.inl ⟨by rfl, fun w hSw => by (try dsimp only at hSw); go_split_ands; go_simp⟩) (two (kept HBx.out hw4)) ?_
      try simp only [Act.put, List.setIfInBounds_toArray, List.set_cons_zero, List.set_cons_succ]
      refine wpAnyH_ready (rs := [9]) (by kernel_rfl) (by simp) (AllReadyH.cons (o := { dst := some 42, op := _, type := _, pos := _, after := _, guard := _ }) rfl ?_ AllReadyH.nil)
      intro K3 hK3
      go_simp
      have hbc := (Below.refl w4.heap.size w4).alloc (Nat.le_refl _) (.cells #[.slice la (Lab.selL [x] false q.l).length lc, .slice q.b q.s.length q.d] 40)
      have hwc := hw4.trans (hbc.mono hw4.size)
      refine hK3.out _ _ (two (kept HBx.out hwc)) (fun _ => ?_)
      clear hK3 K3
      refine wpAnyH_ready (rs := [10]) (by kernel_rfl) (by simp) (AllReadyH.cons (o := { dst := some 43, op := _, type := _, pos := _, after := _, guard := _ }) rfl ?_ AllReadyH.nil)
      intro K4 hK4
      have hO5 := own_below HB.out.row (hB ▸ hr4 : Below wr.heap.size wr w4)
      refine step_append_j rfl (.tmp 33) (.tmp 42) 24 rfl w.heap.size 40 i0 (.agg #[.slice none 0 0, .slice none 0 0]) 2 48 Try.underlying24 hi hz0 hz1 hz2 rfl (by decide) a' k c' (flat D) rfl (hO5.alloc _) ⟨w4.heap.size, 0, none⟩ 1 1 [.slice la (Lab.selL [x] false q.l).length lc, .slice q.b q.s.length q.d] rfl rfl (Smp.two_new w4 _ _ _) (by intro u hu; simp at hu; rcases hu with rfl | rfl <;> rfl) (by unfold maxLen; omega) (by omega) (by have := hr4.size; simp; omega) ?_
      intro v6 w6 hown6 hgr6 hat6
      obtain ⟨a6, c6, rfl⟩ := Smp.own_form hown6
      have hX4 : Below w.heap.size w w4 := HX.out.trans ((hB ▸ hr4 : Below wr.heap.size wr w4).mono HX.out.size)
      have hX6 : Below w.heap.size w w6 := (hX4.trans (hbc.mono hX4.size)).grown hgr6 (by have := hX4.size; simp; omega) (fun j hj => (hO5.lt j hj).1)
      have HB6 : Hid (BR w.heap.size a6 (k + 1) c6 qs (D ++ [d]) x w6) := by
        refine HB.out.push ((hB ▸ hr4 : Below wr.heap.size wr w4).trans (hbc.mono (hB ▸ hr4 : Below wr.heap.size wr w4).size)) (by omega) ((hB ▸ HDd.out.1 : OwnLb wr.heap.size d.l d.a d.c w4).below hbc) HTk.out HMem.out HDd.out.2.1 HDd.out.2.2.1 hgr6 ?_
        have e : flat (D ++ [d]) = flat D ++ [.slice la (Lab.selL [x] false q.l).length lc, .slice q.b q.s.length q.d] := by
          rw [flat_append]
          show flat D ++ (cl d ++ []) = _
          rw [HDd.out.2.2.2, List.append_nil]
        rw [e]
        exact hown6
      have hbx : w6.heap[B]? = some (.cells #[.slice q.a q.l.length q.c, .slice q.b q.s.length q.d] 40) := by
        rw [hgr6.block B (by have := hwc.size; omega) (fun e => by have := (HB.out.row.lt B e.symm).2; omega)]
        exact kept HBx.out hwc
      refine hK4.out _ _ (two hbx) (fun _ => ?_)
      clear hK4 K4
      try simp only [Act.put, List.setIfInBounds_toArray, List.set_cons_zero, List.set_cons_succ]
      have HX6 := hid hX6
      refine wpAnyH_take (i := 11) (oi := { dst := some 7, op := _, type := _, pos := _, after := _, guard := _ }) (v := ((.slice a6 (k + 1) c6))) rfl (by kernel_rfl) (by kernel_rfl) (by kernel_rfl) (fun _ _ _ h => h) (Or.inl ⟨by rfl, fun w hSw => by (try dsimp only at hSw); go_split_ands; go_simp⟩) (two hbx) ?_
      try simp only [Act.put, List.setIfInBounds_toArray, List.set_cons_zero, List.set_cons_succ]
      refine wpAnyH_done (by kernel_rfl) ?_ _
      clear hown6 hgr6 hat6 hbx hX6 hX4 hwc hbc hO5 HDd hr4 hw4 hb4 hwa hba HDr HB HX HSB HBx HT1 HW0 hdr hHeld
      go_wp2
      go_roundw
      case rel => exact ⟨k + 1, c6, a6, _, by omega, by go_num, rfl, HB6.out, HX6.out⟩
      case measure => simp [intOf]; omega
    · obtain rfl : k = n := by omega
      have HDl := hid HB.out.len
      have HDq : Hid (∀ d ∈ D, DQ d ∧ d.d = d.s.length) := fun d hd => by
        obtain ⟨q, hq, _, e2, e3, e4⟩ := HB.out.smp d hd
        exact ⟨(HQd.out q hq).drop x e4, by rw [e3, e2]; exact HD.out q hq⟩
      have HSo := hid (sortV w.heap.size wr a' c' D (by rw [HDl.out]; omega) (fun d hd => ⟨by have := (HDq.out d hd).1.l2; omega, HB.out.lab d hd⟩) (by rw [HDl.out]; exact HB.out.row))
      rw [HDl.out] at HSo
      go_wp2_with fail
      refine HSo.out.mono ?_
      rintro e w2 ⟨rfl, ho2, hg2⟩
      obtain ⟨S, hS⟩ : ∃ S, S = isort ltQ D := ⟨_, rfl⟩
      rw [← hS] at ho2
      have HB2 : Hid (Below w.heap.size w w2) := HX.out.grown hg2 HX.out.size (fun j hj => (HB.out.row.lt j hj).1)
      have HSn : Hid (S.length = k) := by unfold Hid; rw [hS, isort_len]; exact HDl.out
      have HSq : Hid (∀ q ∈ S, DQ q ∧ q.d = q.s.length) := fun q hq => HDq.out q (by rw [hS] at hq; exact isort_mem.1 hq)
      have HSl : Hid (∀ q ∈ S, OwnLb w.heap.size q.l q.a q.c w2) := fun q hq => by
        have := HB.out.lab q (by rw [hS] at hq; exact isort_mem.1 hq)
        exact this.fw (Fw.grownO hg2) (lb_noRow this HB.out.row)
      have HSd : Hid (S.Pairwise (fun p q => lbq p = none ∨ lbq p ≠ lbq q)) := by
        unfold Hid
        rw [hS]
        refine ((isort_perm D).pairwise_iff ?_).2 HB.out.dis
        intro p q h
        by_cases e : lbq q = none
        · exact .inl e
        · rcases h with h | h
          · exact .inr fun e2 => e (e2.trans h)
          · exact .inr fun e2 => h e2.symm
      have HRQ : Hid (HasQ w2 a' S) := own_hasO ho2 fun q hq => ⟨(HSl.out q hq).has, by
        obtain ⟨r, hr, e1, e2, _, _⟩ := HB.out.smp q (by rw [hS] at hq; exact isort_mem.1 hq)
        obtain ⟨i, hi, e⟩ := List.getElem_of_mem hr
        obtain ⟨_, _, _, _, _, _, _, t2⟩ := (HR.out.below HB2.out).at2 i hi
        rw [show qs.getD i q0 = r by simp [hi, e]] at t2
        rw [e1, e2]; exact t2⟩
      have HFin : Hid (((S.take k).map pl).foldl (upd ltP (jD gap)) [] = dsA (qs.map pl) x gap) := by
        unfold Hid dsA
        rw [List.take_of_length_le (by rw [HSn.out]; exact Nat.le_refl _), foldl_runs, hS, isortQ, HB.out.eq, List.take_of_length_le (by rw [HN.out]; exact Nat.le_refl _)]
      clear ho2 hg2 HSo HB HX hS HDq HDl
      have hsz : w.heap.size ≤ w2.heap.size := HB2.out.size
      go_wp2
      go_loopw [10, 49] (fun so si wy => ∃ (j m c1 : Nat) (a1 : Option Addr) (R : List Q), j ≤ k ∧ m ≤ j ∧ si = .int .i64 j ∧ so = .slice a1 m c1 ∧ Hid (R.length = m) ∧ Hid (wy.ownsRow w2.heap.size 40 2 (.slice a1 m c1) m (flat R)) ∧ Hid (KinV w.heap.size R wy) ∧ Hid (DJ S R gap j) ∧ Hid (Below w2.heap.size w2 wy)) (fun _ si _ => k - (intOf si).toNat)
      case atStart => exact ⟨0, 0, 0, none, [], Nat.zero_le _, Nat.zero_le _, rfl, rfl, rfl, World.ownsRow_nil _ _ _ _, ⟨fun q hq => (by cases hq), List.Pairwise.nil⟩, ⟨rfl, fun q hq => (by cases hq), fun q hq => (by cases hq)⟩, Below.refl _ _⟩
      case round =>
        obtain ⟨j, m, c1, a1, R, hj, hm, rfl, rfl, HL, HO, HK, HS, HX⟩ := hrel
        by_cases hlt : j < k
        rotate_left
        · obtain rfl : j = k := by omega
          have HB3 := hid (HB2.out.trans (HX.out.mono hsz))
          have HM : Hid (R.map pl = dsA (qs.map pl) x gap) := HS.out.eq.trans HFin.out
          have HFR := hid (DR.fits HS.out.fine (by omega))
          have HOV : Hid (OwnV w.heap.size a1 m c1 R wr) := ⟨HL.out, own_base HO.out hsz, HK.out⟩
          clear HO HK HX
          go_wp2_with fail
          refine (f19 a1 m c1 R _ HOV.out.len (by unfold maxLen; omega) HOV.out.has HFR.out.1 HFR.out.2).mono ?_
          rintro e w4 ⟨rfl, hb4⟩
          have HB4 := hid (HB3.out.trans (hb4.mono HB3.out.size))
          have HO4 := hid (HOV.out.below hb4)
          clear hb4 HOV
          cases gc : gdQ R with
          | false =>
            have HE := hid (dsL_o (L := qs.map pl) (x := x) (gap := gap) (by rw [← HM.out, ← gdQ_pl, gc]; simp))
            go_wp2
            go_ret
            exact ⟨none, 0, 0, [], rfl, OwnO.nil _ _, HE.out.symm, HB4.out⟩
          | true =>
            have HE := hid (dsL_y HPa.out HPn.out HPg.out (by rw [← HM.out, ← gdQ_pl]; exact gc))
            have HOO := hid (HO4.out.ownO (good_lab (gdQ_iff.1 gc)))
            go_wp2
            go_ret
            exact ⟨a1, m, c1, R, rfl, HOO.out, HM.out.trans HE.out.symm, HB4.out⟩
        obtain ⟨bb, off, rfl, hbl, c0, c2, t1, t2⟩ := (HRQ.out.below HX.out).at2 j (by rw [HSn.out]; exact hlt)
        have HJ := hid (HSq.out _ (get_mem' (show j < S.length by rw [HSn.out]; exact hlt)))
        have HLj := hid (HSl.out _ (get_mem' (show j < S.length by rw [HSn.out]; exact hlt)))
        have HTk := hid (take_get (show j < S.length by rw [HSn.out]; exact hlt))
        have HAp : Hid (∀ p ∈ R, lbq p = none ∨ lbq p ≠ lbq (S.getD j q0)) := fun p hp => by
          obtain ⟨i, hi, e⟩ := HS.out.from_ p hp
          have h1 : S.getD i q0 = S[i]'(by have := HSn.out; omega) := by simp [show i < S.length by have := HSn.out; omega]
          have h2 : S.getD j q0 = S[j]'(by have := HSn.out; omega) := by simp [show j < S.length by have := HSn.out; omega]
          have := List.pairwise_iff_getElem.1 HSd.out i j (by have := HSn.out; omega) (by have := HSn.out; omega) hi
          rw [e, h1, h2]; exact this
        have HGe : Hid (S.getD j q0 = S.getD j q0) := rfl
        obtain ⟨q, hq⟩ : ∃ q, q = S.getD j q0 := ⟨_, rfl⟩
        have HQe : Hid (S.getD j q0 = q) := hq.symm
        rw [← hq] at c0 c2 t1 t2 HJ HLj HTk HAp
        clear hq HGe
        have i1 : (j : Int) < (k : Int) := by omega
        have HW0 := hid ((Below.refl wr.heap.size wr).alloc (Nat.le_refl _) (.cells #[.slice q.a q.l.length q.c, .slice q.b q.s.length q.d] 40))
        have HBx := hid (heap_alloc_new wr (.cells #[.slice q.a q.l.length q.c, .slice q.b q.s.length q.d] 40))
        have HT1 := hid (t1.below HW0.out)
        have HT2 := hid (t2.below HW0.out)
        obtain ⟨W, hW⟩ : ∃ W, W = wr.alloc (.cells #[.slice q.a q.l.length q.c, .slice q.b q.s.length q.d] 40) := ⟨_, rfl⟩
        rw [← hW] at HW0 HBx HT1 HT2
        clear t1 t2 hbl
        go_upto_region 15 with fail
        rw [← hW]
        clear hW c0 c2
        have hd2 : Below W.heap.size W W.drew := (Below.refl _ _).drew
        have hwW : wr.heap.size ≤ W.heap.size := HW0.out.size
        go_cut [13, 66] from 50 to 89 (fun c9 cc wx => c9 = .int .i64 ((m : Int) - 1) ∧ cc = .bool (jb R q) ∧ Hid (Below W.heap.size W wx))
        case first =>
          by_cases hm0 : m = 0
          · subst hm0
            have hR : R = [] := List.eq_nil_of_length_eq_zero HL.out
            subst hR
            go_quiet (fail)
            go_wp2
            go_meet
            exact ⟨by go_num, rfl, Lab.below_drewN (Below.refl _ _) _⟩
          · obtain ⟨m', rfl⟩ : ∃ m', m = m' + 1 := ⟨m - 1, by omega⟩
            obtain ⟨R', p, rfl, hR'⟩ := snoc_of HL.out
            obtain ⟨g, rfl⟩ : ∃ g, a1 = some ⟨g, 0, none⟩ := by
              rcases HO.out.2 with ⟨_, h⟩ | ⟨g, cap, cur, h, _⟩
              · omega
              · simp only [Value.slice.injEq] at h; exact ⟨g, h.1⟩
            have hg : g < wr.heap.size := (HO.out.lt g rfl).2
            obtain ⟨y0, y1⟩ := flat_get (R' ++ [p]) m' (by simp [hR'])
            rw [getD_snoc, if_pos hR'.symm] at y0 y1
            have z0 := (HO.out.cellAt (m' * 2) (by omega)).trans y0
            have z1 := (HO.out.cellAt (m' * 2 + 1) (by omega)).trans y1
            have hWd : Below wr.heap.size wr W.drew := HW0.out.trans (hd2.mono hwW)
            have HSJ : Hid (SJ g (m' * 2) wr.heap.size p q W.drew W.drew) := ⟨(hWd.cell (p := ⟨g, m' * 2, none⟩) hg).trans z0, (hWd.cell (p := ⟨g, m' * 2 + 1, none⟩) hg).trans z1, (two (kept HBx.out hd2)).1, (two (kept HBx.out hd2)).2, Below.refl _ _⟩
            have hop := HK.out.own p (by simp)
            have HCall := hid (f24 p q W.drew (by have := (HS.out.fine p (by simp)).l2; omega) (by have := HJ.out.1.l2; omega) (hop.lab.has.below hWd) (HT1.out.below hd2))
            clear hop y0 y1 z0 z1
            have hB : wr.heap.size < W.drew.heap.size := lt_at (kept HBx.out hd2)
            have hgW : g < W.drew.heap.size := Nat.lt_of_lt_of_le hg hWd.size
            clear hg
            have j1 : (0 : Int) ≤ (m' : Int) := by omega
            have j2 : (m' : Int) < (m' : Int) + 1 := by omega
            have j3 : (m' : Int) < ((m' + 1 : Nat) : Int) := by omega
            have j4 : m' < m' + 1 := by omega
            generalize wr.heap.size = B at *
            go_region_held3 (fun x => SJ g (m' * 2) B p q W.drew x) (first | exact HSJ.out | assumption) (first | (go_at_call 24; refine HCall.out.mono ?_; rintro e w5 ⟨rfl, hb5⟩; have hs5 : SJ g (m' * 2) B p q W.drew w5 := ⟨(hb5.cell (p := ⟨g, m' * 2, none⟩) hgW).trans HSJ.out.1, (hb5.cell (p := ⟨g, m' * 2 + 1, none⟩) hgW).trans HSJ.out.2.1, (hb5.cell (p := ⟨B, 0, none⟩) hB).trans HSJ.out.2.2.1, (hb5.cell (p := ⟨B, 1, none⟩) hB).trans HSJ.out.2.2.2.1, hb5⟩))
            go_wp2
            go_meet
            exact ⟨by go_num, by rw [jb_snoc]; rfl, hd2.trans (hb5.mono hd2.size)⟩
        case rest =>
        obtain ⟨rfl, rfl, HX5⟩ := hcut
        cases hjb : jb R q with
        | true =>
          obtain ⟨m', rfl⟩ : ∃ m', m = m' + 1 := ⟨m - 1, by
            have : m ≠ 0 := fun e => by
              rw [List.eq_nil_of_length_eq_zero (HL.out.trans e)] at hjb; cases hjb
            omega⟩
          obtain ⟨R', p, rfl, hR'⟩ := snoc_of HL.out
          obtain ⟨g, rfl⟩ : ∃ g, a1 = some ⟨g, 0, none⟩ := by
            rcases HO.out.2 with ⟨_, h⟩ | ⟨g, cap, cur, h, _⟩
            · omega
            · simp only [Value.slice.injEq] at h; exact ⟨g, h.1⟩
          rw [jb_snoc] at hjb
          have HJc := hid (of_decide_eq_true hjb)
          clear hjb
          have hg : g < wr.heap.size := (HO.out.lt g rfl).2
          obtain ⟨y0, y1⟩ := flat_get (R' ++ [p]) m' (by simp [hR'])
          rw [getD_snoc, if_pos hR'.symm] at y0 y1
          have hop := HK.out.own p (by simp)
          have hWx : Below wr.heap.size wr wc := HW0.out.trans (HX5.out.mono hwW)
          have hdx : Below wc.heap.size wc wc.drew := (Below.refl _ _).drew
          have hWd : Below wr.heap.size wr wc.drew := hWx.trans (hdx.mono hWx.size)
          have hW5 : Below W.heap.size W wc.drew := HX5.out.trans (hdx.mono HX5.out.size)
          have z1 := (hWd.cell (p := ⟨g, m' * 2 + 1, none⟩) hg).trans ((HO.out.cellAt (m' * 2 + 1) (by omega)).trans y1)
          have hpb := HS.out.fine p (by simp)
          obtain ⟨bs, os, hqs⟩ : ∃ b o, q.b = some ⟨b, o, none⟩ := by
            rcases HT2.out with h | ⟨b, o, h, _⟩
            · exact absurd h HJ.out.1.s1
            · exact ⟨b, o, h⟩
          have HC := hid (Smp.f25 p.b q.b p.d q.d p.s q.s gap wc.drew (hpb.tml (by omega)) ⟨by have := HJ.out.1.s2; omega, HJ.out.1.st⟩ HJ.out.1.sp (hop.hasS.below hWd) (HT2.out.below hW5) (own_capW hop.smp) (by rw [HJ.out.2]; exact Nat.le_refl _) (fun h => by rw [hop.hb] at h; cases h) (fun h => by rw [hqs] at h; cases h) HPg.out.1 HPg.out.2)
          have e9 : (((m' + 1 : Nat) : Int) - 1) = (m' : Int) := by omega
          have j1 : (0 : Int) ≤ (m' : Int) := by omega
          have j2 : (m' : Int) < (m' : Int) + 1 := by omega
          have j3 : (m' : Int) < ((m' + 1 : Nat) : Int) := by omega
          have j4 : m' < m' + 1 := by omega
          have HSB : Hid (SB q wr.heap.size wc.drew) := two (kept HBx.out hW5)
          have hgne : g ≠ wr.heap.size := by omega
          have hBW : wr.heap.size < W.heap.size := lt_at HBx.out
          clear hop y0 y1 hqs bs os
          rw [e9]
          generalize hB : wr.heap.size = B at *
          go_wp2_with fail
          refine wp_region_held_drew (S := fun x => SB q B x) rfl HSB.out (fun hHeld => ?_)
          refine wpAnyH_take (i := 0) (oi := { dst := some 67, op := _, type := _, pos := _, after := _, guard := _ }) (v := ((.slice (some ⟨g, 0, none⟩) (m' + 1) c1))) rfl (by kernel_rfl) (by kernel_rfl) (by kernel_rfl) (fun _ _ _ h => h) (Or.inl ⟨by rfl, fun w hSw => by (try dsimp only at hSw); go_split_ands; go_simp⟩) (by assumption) ?_
          try simp only [Act.put, List.setIfInBounds_toArray, List.set_cons_zero, List.set_cons_succ]
          refine wpAnyH_take (i := 1) (oi := { dst := some 68, op := _, type := _, pos := _, after := _, guard := _ }) (v := ((.int .i64 (m' : Int)))) rfl (by kernel_rfl) (by kernel_rfl) (by kernel_rfl) (fun _ _ _ h => h) (Or.inl ⟨by rfl, fun w hSw => by (try dsimp only at hSw); go_split_ands; go_simp⟩) (by assumption) ?_
          try simp only [Act.put, List.setIfInBounds_toArray, List.set_cons_zero, List.set_cons_succ]
          refine wpAnyH_take (i := 2) (oi := { dst := some 69, op := _, type := _, pos := _, after := _, guard := _ }) (v := ((.slice (some ⟨g, 0, none⟩) (m' + 1) c1))) rfl (by kernel_rfl) (by kernel_rfl) (by kernel_rfl) (fun _ _ _ h => h) (Or.inl ⟨by rfl, fun w hSw => by (try dsimp only at hSw); go_split_ands; go_simp⟩) (by assumption) ?_
          try simp only [Act.put, List.setIfInBounds_toArray, List.set_cons_zero, List.set_cons_succ]
          refine wpAnyH_take (i := 3) (oi := { dst := some 70, op := _, type := _, pos := _, after := _, guard := _ }) (v := ((.int .i64 (m' : Int)))) rfl (by kernel_rfl) (by kernel_rfl) (by kernel_rfl) (fun _ _ _ h => h) (Or.inl ⟨by rfl, fun w hSw => by (try dsimp only at hSw); go_split_ands; go_simp⟩) (by assumption) ?_
          try simp only [Act.put, List.setIfInBounds_toArray, List.set_cons_zero, List.set_cons_succ]
          refine wpAnyH_take (i := 4) (oi := { dst := some 71, op := _, type := _, pos := _, after := _, guard := _ }) (v := ((.pointer (some ⟨g, m' * 2, none⟩)))) rfl (by kernel_rfl) (by kernel_rfl) (by kernel_rfl) (fun _ _ _ h => h) (Or.inl ⟨by rfl, fun w hSw => by (try dsimp only at hSw); go_split_ands; go_simp⟩) (by assumption) ?_
          try simp only [Act.put, List.setIfInBounds_toArray, List.set_cons_zero, List.set_cons_succ]
          refine wpAnyH_take (i := 5) (oi := { dst := some 72, op := _, type := _, pos := _, after := _, guard := _ }) (v := ((.pointer (some ⟨g, m' * 2 + 1, none⟩)))) rfl (by kernel_rfl) (by kernel_rfl) (by kernel_rfl) (fun _ _ _ h => h) (Or.inl ⟨by rfl, fun w hSw => by (try dsimp only at hSw); go_split_ands; go_simp⟩) (by assumption) ?_
          try simp only [Act.put, List.setIfInBounds_toArray, List.set_cons_zero, List.set_cons_succ]
          refine wpAnyH_take (i := 7) (oi := { dst := some 74, op := _, type := _, pos := _, after := _, guard := _ }) (v := ((.pointer (some ⟨B, 1, none⟩)))) rfl (by kernel_rfl) (by kernel_rfl) (by kernel_rfl) (fun _ _ _ h => h) (Or.inl ⟨by rfl, fun w hSw => by (try dsimp only at hSw); go_split_ands; go_simp⟩) (by assumption) ?_
          try simp only [Act.put, List.setIfInBounds_toArray, List.set_cons_zero, List.set_cons_succ]
          refine wpAnyH_take (i := 8) (oi := { dst := some 75, op := _, type := _, pos := _, after := _, guard := _ }) (v := ((.slice q.b q.s.length q.d))) rfl (by kernel_rfl) (by kernel_rfl) (by kernel_rfl) (fun _ _ _ h => h) (Or.inl ⟨by rfl, fun w hSw => by (try dsimp only at hSw); go_split_ands; go_simp⟩) (by assumption) ?_
          try simp only [Act.put, List.setIfInBounds_toArray, List.set_cons_zero, List.set_cons_succ]
          refine wpAnyH_take (i := 9) (oi := { dst := some 76, op := _, type := _, pos := _, after := _, guard := _ }) (v := ((.int .i64 gap))) rfl (by kernel_rfl) (by kernel_rfl) (by kernel_rfl) (fun _ _ _ h => h) (Or.inl ⟨by rfl, fun w hSw => by (try dsimp only at hSw); go_split_ands; go_simp⟩) (by assumption) ?_
          try simp only [Act.put, List.setIfInBounds_toArray, List.set_cons_zero, List.set_cons_succ]
          refine wpAnyH_ready (rs := [6]) (by kernel_rfl) (by simp) (AllReadyH.cons (o := { dst := some 73, op := _, type := _, pos := _, after := _, guard := _ }) rfl ?_ AllReadyH.nil)
          intro K1 hK1
          go_simp
          refine hK1.out _ _ HSB.out (fun _ => ?_)
          clear hK1 K1
          refine wpAnyH_ready (rs := [10]) (by kernel_rfl) (by simp) (AllReadyH.cons (o := { dst := some 77, op := _, type := _, pos := _, after := _, guard := _ }) rfl ?_ AllReadyH.nil)
          intro K2 hK2
          go_simp
          go_wp2_with (go_at_call 25; refine HC.out.mono ?_; rintro e w6 ⟨v6, rfl, ho6, hb6⟩; have hw6 : Below W.heap.size W w6 := hW5.trans (hb6.mono hW5.size))
          refine hK2.out _ _ (two (kept HBx.out hw6)) (fun _ => ?_)
          clear hK2 K2
          have hgW : g < w6.heap.size := Nat.lt_of_lt_of_le hg (by have := hWd.size; have := hb6.size; omega)
          obtain ⟨gb, cb, rfl⟩ := own_formP ho6 (List.length_pos_iff.2 (fun e => hpb.s1 (dedT_emp.1 e).1))
          have hr6 : Below B wr w6 := by exact hWd.trans (hb6.mono (by have := hWd.size; omega))
          have HO6 := hid (own_below HO.out (hB ▸ hr6))
          have z2 := (hb6.cell (p := ⟨g, m' * 2 + 1, none⟩) (Nat.lt_of_lt_of_le hg (by have := hWd.size; omega))).trans z1
          have f2 := HO6.out.frozenAt (m' * 2 + 1)
          have HE : Hid (∀ wz, wz = w6.setCell ⟨g, m' * 2 + 1, none⟩ (.slice (some ⟨gb, 0, none⟩) (dedT gap p.s q.s).length cb) → (KinV w.heap.size (R' ++ [⟨p.l, p.a, p.c, dedT gap p.s q.s, some ⟨gb, 0, none⟩, cb⟩]) wz ∧ wz.ownsRow w2.heap.size 40 2 (.slice (some ⟨g, 0, none⟩) (m' + 1) c1) (m' + 1) (flat (R' ++ [⟨p.l, p.a, p.c, dedT gap p.s q.s, some ⟨gb, 0, none⟩, cb⟩]))) ∧ Below w2.heap.size w2 wz) := by
            rintro wz rfl
            refine ⟨?_, ?_⟩
            · have := KinV.setAt (A := R') (B := []) (X := w.heap.size) (Y := w2.heap.size) (m := m' + 1) (c := c1) HK.out HO.out (hB ▸ hr6) (by have := HX.out.size; omega) (own_base ho6 (hB ▸ hWd.size))
              rw [hR'] at this
              exact this
            · have hg2 : w2.heap.size ≤ g := (HO.out.lt g rfl).1
              exact (HX.out.trans ((hB ▸ hr6 : Below wr.heap.size wr w6).mono HX.out.size)).setCell hg2 _
          clear z1
          refine wpAnyH_take (i := 11) (oi := { dst := some 78, op := _, type := _, pos := _, after := _, guard := _ }) (v := ((.pointer (some ⟨g, m' * 2, none⟩)))) rfl (by kernel_rfl) (by kernel_rfl) (by kernel_rfl) (fun _ _ _ h => h) (Or.inl ⟨by rfl, fun w hSw => by (try dsimp only at hSw); go_split_ands; go_simp⟩) (two (kept HBx.out hw6)) ?_
          try simp only [Act.put, List.setIfInBounds_toArray, List.set_cons_zero, List.set_cons_succ]
          refine wpAnyH_take (i := 12) (oi := { dst := some 79, op := _, type := _, pos := _, after := _, guard := _ }) (v := ((.pointer (some ⟨g, m' * 2 + 1, none⟩)))) rfl (by kernel_rfl) (by kernel_rfl) (by kernel_rfl) (fun _ _ _ h => h) (Or.inl ⟨by rfl, fun w hSw => by (try dsimp only at hSw); go_split_ands; go_simp⟩) (two (kept HBx.out hw6)) ?_
          try simp only [Act.put, List.setIfInBounds_toArray, List.set_cons_zero, List.set_cons_succ]
          refine wpAnyH_ready (rs := [13]) (by kernel_rfl) (by simp) (AllReadyH.cons (o := { dst := none, op := _, type := _, pos := _, after := _, guard := _ }) rfl ?_ AllReadyH.nil)
          intro K3 hK3
          go_simp
          refine hK3.out _ _ (two (set_else (kept HBx.out hw6) (by simp only; omega))) (fun _ => ?_)
          clear hK3 K3
          refine wpAnyH_done (by kernel_rfl) ?_ _
          have HDJ : Hid (DJ S (R' ++ [⟨p.l, p.a, p.c, dedT gap p.s q.s, some ⟨gb, 0, none⟩, cb⟩]) gap (j + 1)) := HS.out.join HTk.out HJc.out HJ.out.1 rfl rfl rfl
          have HLn : Hid ((R' ++ [(⟨p.l, p.a, p.c, dedT gap p.s q.s, some ⟨gb, 0, none⟩, cb⟩ : Q)]).length = m' + 1) := by unfold Hid; simp [hR']
          clear z2 f2 HO6 hr6 hgW hw6 hb6 ho6 HC HSB hW5 hWd hdx hWx hpb HO HK HS HX HX5 HBx HT1 HT2 HW0 hHeld
          go_wp2
          go_roundw
          case rel => exact ⟨j + 1, m' + 1, c1, _, _, by omega, by omega, by go_num, rfl, HLn.out, (HE.out _ rfl).1.2, (HE.out _ rfl).1.1, HDJ.out, (HE.out _ rfl).2⟩
          case measure => simp [intOf]; omega
        | false =>
          have HJf := hid hjb
          clear hjb
          have hWx : Below wr.heap.size wr wc := HW0.out.trans (HX5.out.mono hwW)
          have hdx : Below wc.heap.size wc wc.drew := (Below.refl _ _).drew
          have hWd : Below wr.heap.size wr wc.drew := hWx.trans (hdx.mono hWx.size)
          have hW5 : Below W.heap.size W wc.drew := HX5.out.trans (hdx.mono HX5.out.size)
          obtain ⟨bs, os, hqs⟩ : ∃ b o, q.b = some ⟨b, o, none⟩ := by
            rcases HT2.out with h | ⟨b, o, h, _⟩
            · exact absurd h HJ.out.1.s1
            · exact ⟨b, o, h⟩
          have hsp : 0 < q.s.length := List.length_pos_iff.2 HJ.out.1.s1
          have HC2 : Hid (Calls Try.prog 26 #[.slice q.b q.s.length q.d] wc.drew fun e w' => ∃ v', e = .returned v' ∧ Smp.Own w' wc.drew.heap.size v' q.s ∧ Below wc.drew.heap.size wc.drew w') := by
            refine Smp.f26 q.s _ wc.drew (by have := HJ.out.1.s2; omega) (.inr ⟨hsp, bs, os, by rw [hqs, HJ.out.2], ?_⟩)
            rw [← hqs]; exact HT2.out.below hW5
          have HSB : Hid (SB q wr.heap.size wc.drew) := two (kept HBx.out hW5)
          have hBW : wr.heap.size < W.heap.size := lt_at HBx.out
          have hgX := HX.out.size
          clear hqs bs os
          generalize hB : wr.heap.size = B at *
          go_wp2_with fail
          refine wp_region_held_drew (S := fun x => SB q B x) rfl HSB.out (fun hHeld => ?_)
          refine wpAnyH_take (i := 0) (oi := { dst := some 80, op := _, type := _, pos := _, after := _, guard := _ }) (v := ((.slice a1 m c1))) rfl (by kernel_rfl) (by kernel_rfl) (by kernel_rfl) (fun _ _ _ h => h) (Or.inl ⟨by rfl, fun w hSw => by (try dsimp only at hSw); go_split_ands; go_simp⟩) (by assumption) ?_
          try simp only [Act.put, List.setIfInBounds_toArray, List.set_cons_zero, List.set_cons_succ]
          refine wpAnyH_take (i := 1) (oi := { dst := some 81, op := _, type := _, pos := _, after := _, guard := _ }) (v := ((.pointer (some ⟨B, 0, none⟩)))) rfl (by kernel_rfl) (by kernel_rfl) (by kernel_rfl) (fun _ _ _ h => h) (Or.inl ⟨by rfl, fun w hSw => by (try dsimp only at hSw); go_split_ands; go_simp⟩) (by assumption) ?_
          try simp only [Act.put, List.setIfInBounds_toArray, List.set_cons_zero, List.set_cons_succ]
          refine wpAnyH_take (i := 2) (oi := { dst := some 82, op := _, type := _, pos := _, after := _, guard := _ }) (v := ((.slice q.a q.l.length q.c))) rfl (by kernel_rfl) (by kernel_rfl) (by kernel_rfl) (fun _ _ _ h => h) (Or.inl ⟨by rfl, fun w hSw => by (try dsimp only at hSw); go_split_ands; go_simp⟩) (by assumption) ?_
          try simp only [Act.put, List.setIfInBounds_toArray, List.set_cons_zero, List.set_cons_succ]
          refine wpAnyH_take (i := 3) (oi := { dst := some 83, op := _, type := _, pos := _, after := _, guard := _ }) (v := ((.pointer (some ⟨B, 1, none⟩)))) rfl (by kernel_rfl) (by kernel_rfl) (by kernel_rfl) (fun _ _ _ h => h) (Or.inl ⟨by rfl, fun w hSw => by (try dsimp only at hSw); go_split_ands; go_simp⟩) (by assumption) ?_
          try simp only [Act.put, List.setIfInBounds_toArray, List.set_cons_zero, List.set_cons_succ]
          refine wpAnyH_take (i := 4) (oi := { dst := some 84, op := _, type := _, pos := _, after := _, guard := _ }) (v := ((.slice q.b q.s.length q.d))) rfl (by kernel_rfl) (by kernel_rfl) (by kernel_rfl) (fun _ _ _ h => h) (Or.inl ⟨by rfl, fun w hSw => by (try dsimp only at hSw); go_split_ands; go_simp⟩) (by assumption) ?_
          try simp only [Act.put, List.setIfInBounds_toArray, List.set_cons_zero, List.set_cons_succ]
          refine wpAnyH_ready (rs := [5]) (by kernel_rfl) (by simp) (AllReadyH.cons (o := { dst := some 85, op := _, type := _, pos := _, after := _, guard := _ }) rfl ?_ AllReadyH.nil)
          intro K2 hK2
          go_simp
          go_wp2_with (go_at_call 26; refine HC2.out.mono ?_; rintro e w5 ⟨v5, rfl, ho5, hb5⟩; have hw5 : Below W.heap.size W w5 := hW5.trans (hb5.mono hW5.size))
          refine hK2.out _ _ (two (kept HBx.out hw5)) (fun _ => ?_)
          clear hK2 K2
          obtain ⟨gb, cb, rfl⟩ := own_formP ho5 hsp
          have hgb : B ≤ gb := Nat.le_trans (by have := hW5.size; omega) (ho5.lt gb rfl).1
          have hr5 : Below B wr w5 := HW0.out.trans (hw5.mono (by omega))
          have hX5 : Below w2.heap.size w2 w5 := HX.out.trans ((hB ▸ hr5 : Below wr.heap.size wr w5).mono HX.out.size)
          obtain ⟨q', hq'⟩ : ∃ q' : Q, q' = ⟨q.l, q.a, q.c, q.s, some ⟨gb, 0, none⟩, cb⟩ := ⟨_, rfl⟩
          have HQ4 : Hid (OwnW w.heap.size q' w5 ∧ (∀ p ∈ R, Aq p q') ∧ pl q' = pl q ∧ lbq q' = lbq q ∧ cl q' = [.slice q.a q.l.length q.c, .slice (some ⟨gb, 0, none⟩) q.s.length cb]) := by
            rw [hq']
            refine ⟨⟨HLj.out.below hX5, rfl, own_base ho5 (by have := hWd.size; omega)⟩, fun p hp => ⟨HAp.out p hp, ?_⟩, rfl, rfl, rfl⟩
            have := (HK.out.own p hp).hi.1
            show _ ≠ gb
            omega
          clear hq' ho5 hb5
          refine wpAnyH_take (i := 6) (oi := { dst := some 86, op := _, type := _, pos := _, after := _, guard := _ }) (v := ((.agg #[.slice q.a q.l.length q.c, .slice (some ⟨gb, 0, none⟩) q.s.length cb]))) rfl (by kernel_rfl) (by kernel_rfl) (by kernel_rfl) (fun _ _ _ h => h) (Or.inl ⟨by rfl, fun w hSw => by (try dsimp only at hSw); go_split_ands; go_simp⟩) (two (kept HBx.out hw5)) ?_
          try simp only [Act.put, List.setIfInBounds_toArray, List.set_cons_zero, List.set_cons_succ]
          refine wpAnyH_ready (rs := [7]) (by kernel_rfl) (by simp) (AllReadyH.cons (o := { dst := some 87, op := _, type := _, pos := _, after := _, guard := _ }) rfl ?_ AllReadyH.nil)
          intro K3 hK3
          go_simp
          have hba := (Below.refl w5.heap.size w5).alloc (Nat.le_refl _) (.cells #[.slice q.a q.l.length q.c, .slice (some ⟨gb, 0, none⟩) q.s.length cb] 40)
          have hwa := hw5.trans (hba.mono hw5.size)
          refine hK3.out _ _ (two (kept HBx.out hwa)) (fun _ => ?_)
          clear hK3 K3
          refine wpAnyH_ready (rs := [8]) (by kernel_rfl) (by simp) (AllReadyH.cons (o := { dst := some 88, op := _, type := _, pos := _, after := _, guard := _ }) rfl ?_ AllReadyH.nil)
          intro K4 hK4
          have HO5 := hid (own_below HO.out (hB ▸ hr5))
          refine step_append_j rfl (.tmp 80) (.tmp 87) 24 rfl w2.heap.size 40 i0 (.agg #[.slice none 0 0, .slice none 0 0]) 2 48 Try.underlying24 hi hz0 hz1 hz2 rfl (by decide) a1 m c1 (flat R) rfl (HO5.out.alloc _) ⟨w5.heap.size, 0, none⟩ 1 1 [.slice q.a q.l.length q.c, .slice (some ⟨gb, 0, none⟩) q.s.length cb] rfl rfl (Smp.two_new w5 _ _ _) (by intro u hu; simp at hu; rcases hu with rfl | rfl <;> rfl) (by unfold maxLen; omega) (by omega) (by have := hX5.size; simp; omega) ?_
          intro v6 w6 hown6 hgr6 hat6
          have hX6 : Below w2.heap.size w2 w6 := (hX5.trans (hba.mono hX5.size)).grown hgr6 (by have := hX5.size; simp; omega) (fun j hj => (HO5.out.lt j hj).1)
          obtain ⟨a6, c6, rfl⟩ := Smp.own_form hown6
          have hbw : Below wr.heap.size wr (w5.alloc (.cells #[.slice q.a q.l.length q.c, .slice (some ⟨gb, 0, none⟩) q.s.length cb] 40)) := (hB ▸ hr5 : Below wr.heap.size wr w5).trans (hba.mono (hB ▸ hr5 : Below wr.heap.size wr w5).size)
          have HK6 : Hid (KinV w.heap.size (R ++ [q']) w6) := HK.out.push HO.out hbw (HQ4.out.1.below hba) HQ4.out.2.1 hgr6
          have HR6 : Hid (w6.ownsRow w2.heap.size 40 2 (.slice a6 (m + 1) c6) (m + 1) (flat (R ++ [q']))) := by
            unfold Hid
            have e : flat (R ++ [q']) = flat R ++ [.slice q.a q.l.length q.c, .slice (some ⟨gb, 0, none⟩) q.s.length cb] := by
              rw [flat_append]
              show flat R ++ (cl q' ++ []) = _
              rw [HQ4.out.2.2.2.2, List.append_nil]
            rw [e]
            exact hown6
          have hbx : w6.heap[B]? = some (.cells #[.slice q.a q.l.length q.c, .slice q.b q.s.length q.d] 40) := by
            rw [hgr6.block B (by have := hwa.size; omega) (fun e => by have := (HO.out.lt B e.symm).2; omega)]
            exact kept HBx.out hwa
          refine hK4.out _ _ (two hbx) (fun _ => ?_)
          clear hK4 K4
          have HJm := hid (DJ.more HS.out HTk.out HQe.out HJf.out HJ.out.1 HQ4.out.2.2.1 HQ4.out.2.2.2.1)
          have HLn : Hid ((R ++ [q']).length = m + 1) := by unfold Hid; simp [HL.out]
          have HX6 := hid hX6
          try simp only [Act.put, List.setIfInBounds_toArray, List.set_cons_zero, List.set_cons_succ]
          refine wpAnyH_take (i := 9) (oi := { dst := some 10, op := _, type := _, pos := _, after := _, guard := _ }) (v := ((.slice a6 (m + 1) c6))) rfl (by kernel_rfl) (by kernel_rfl) (by kernel_rfl) (fun _ _ _ h => h) (Or.inl ⟨by rfl, fun w hSw => by (try dsimp only at hSw); go_split_ands; go_simp⟩) (two hbx) ?_
          try simp only [Act.put, List.setIfInBounds_toArray, List.set_cons_zero, List.set_cons_succ]
          refine wpAnyH_done (by kernel_rfl) ?_ _
          clear hown6 hgr6 hat6 hbx hX6 hX5 hwa hba HO5 HQ4 hr5 hw5 HO HK HS HX HSB HC2 HBx HT1 HT2 HW0 hWd hW5 hWx hHeld hbw
          go_wp2
          go_roundw
          case rel => exact ⟨j + 1, m + 1, c6, a6, _, by omega, by omega, by go_num, rfl, HLn.out, HR6.out, HK6.out, HJm.out, HX6.out⟩
          case measure => simp [intOf]; omega
end Go.Proofs.Ytailoeloonnoeaa.Srs
