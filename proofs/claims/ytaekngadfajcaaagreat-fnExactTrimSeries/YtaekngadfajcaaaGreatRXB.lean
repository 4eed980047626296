/- Lists of series: toSeries, toSeriesS: all of it owned. -/
import Derived.Test.YtaekngadfajcaaaGreatRXa
namespace Go.Proofs.YtaekngadfajcaaaGreat.Srs
open Go.RowKit
open Go.Proofs.YtaekngadfajcaaaGreat.Lab (Lb HasL)
open Go.Proofs.YtaekngadfajcaaaGreat.Smp (Sm HasS)

theorem own_base {w : World} {base base' e size n : Nat} {v : Value} {xs : List Value} (h : w.ownsRow base e size v n xs) (hb : base' ≤ base) : w.ownsRow base' e size v n xs := by
  refine ⟨h.1, ?_⟩
  rcases h.2 with h2 | ⟨g, cap, cur, h1, h2, h3⟩
  · exact .inl h2
  · exact .inr ⟨g, cap, cur, h1, by omega, h3⟩
theorem own_set {w : World} {base e size n c g : Nat} {xs : List Value} {p : Addr} (h : w.ownsRow base e size (.slice (some ⟨g, 0, none⟩) n c) n xs) (hp : g ≠ p.block) (u : Value) : (w.setCell p u).ownsRow base e size (.slice (some ⟨g, 0, none⟩) n c) n xs := by
  refine h.kept (row := some p.block) ⟨rfl, rfl, rfl, by simp, fun j hj hne => Below.heap_setCell w p u j (fun e => hne (by rw [e]))⟩ (.inr ?_)
  intro e
  exact hp (Option.some.inj e)
theorem own_below {w w' : World} {base e size n : Nat} {v : Value} {xs : List Value} (h : w.ownsRow base e size v n xs) (hb : Below w.heap.size w w') : w'.ownsRow base e size v n xs := Lab.own_below h hb
theorem two_frz {x : World} {b o : Nat} {v0 v1 : Value} {t : TypeId} (h : x.heap[b]? = some (.cells #[v0, v1] t)) : x.frozen? ⟨b, o, none⟩ = false := by
  simp [World.frozen?, h]
theorem set_at {x : World} {b i : Nat} {cs : Array Value} {t : TypeId} {v : Value} (h : x.heap[b]? = some (.cells cs t)) : (x.setCell ⟨b, i, none⟩ v).heap[b]? = some (.cells (cs.setIfInBounds i v) t) := by
  have hlt := lt_at h
  have h' : x.heap[b] = .cells cs t := by simpa [Array.getElem?_eq_getElem hlt] using h
  show (x.heap.modify b _)[b]? = _
  rw [Array.getElem?_eq_getElem (by simpa using hlt), Array.getElem_modify_self, h']
  rfl
theorem set_else {x : World} {b : Nat} {p : Addr} {o : Obj} {v : Value} (h : x.heap[b]? = some o) (hp : b ≠ p.block) : (x.setCell p v).heap[b]? = some o := (Below.heap_setCell x p v b hp).trans h
/-- A series whose labels and samples are in memory of their own, from g on. -/
structure Own1 (X ga gb : Nat) (q : Q) (w : World) : Prop where
  ha : q.a = some ⟨ga, 0, none⟩
  hb : q.b = some ⟨gb, 0, none⟩
  lab : w.ownsRow X 62 2 (.slice (some ⟨ga, 0, none⟩) q.l.length q.c) q.l.length (Lab.flat q.l)
  smp : w.ownsRow X 78 2 (.slice (some ⟨gb, 0, none⟩) q.s.length q.d) q.s.length (Smp.flat q.s)
  lt : ga < gb
theorem Own1.below {X ga gb : Nat} {q : Q} {w w' : World} (h : Own1 X ga gb q w) (hb : Below w.heap.size w w') : Own1 X ga gb q w' := ⟨h.ha, h.hb, own_below h.lab hb, own_below h.smp hb, h.lt⟩
theorem Own1.set {X ga gb : Nat} {q : Q} {w : World} (h : Own1 X ga gb q w) {p : Addr} (h1 : ga ≠ p.block) (h2 : gb ≠ p.block) (v : Value) : Own1 X ga gb q (w.setCell p v) := ⟨h.ha, h.hb, own_set h.lab h1 v, own_set h.smp h2 v, h.lt⟩
theorem Own1.base {X Y ga gb : Nat} {q : Q} {w : World} (h : Own1 X ga gb q w) (hy : Y ≤ X) : Own1 Y ga gb q w := ⟨h.ha, h.hb, own_base h.lab hy, own_base h.smp hy, h.lt⟩
theorem Own1.hasL {X ga gb : Nat} {q : Q} {w : World} (h : Own1 X ga gb q w) : HasL w q.a q.l := by rw [h.ha]; exact Lab.HasL.own h.lab
theorem Own1.hasS {X ga gb : Nat} {q : Q} {w : World} (h : Own1 X ga gb q w) : HasS w q.b q.s := by rw [h.hb]; exact Smp.HasS.own h.smp
theorem Own1.lts {X ga gb : Nat} {q : Q} {w : World} (h : Own1 X ga gb q w) : gb < w.heap.size := (h.smp.lt gb rfl).2

abbrev Z2 : Obj := .cells #[.slice none 0 0, .slice none 0 0] 53
theorem three_new (w : World) (o1 o2 o3 : Obj) : (((w.alloc o1).alloc o2).alloc o3).heap[w.heap.size]? = some o1 ∧ (((w.alloc o1).alloc o2).alloc o3).heap[w.heap.size + 1]? = some o2 ∧ (((w.alloc o1).alloc o2).alloc o3).heap[w.heap.size + 1 + 1]? = some o3 := by
  have h1 := heap_alloc_new w o1
  have h2 := heap_alloc_new (w.alloc o1) o2
  have h3 := heap_alloc_new ((w.alloc o1).alloc o2) o3
  simp only [World.size_alloc] at h2 h3
  have e1 := (Below.heap_alloc (w.alloc o1) o2 w.heap.size (by simp)).trans h1
  have e2 := (Below.heap_alloc ((w.alloc o1).alloc o2) o3 w.heap.size (by simp; omega)).trans e1
  exact ⟨e2, (Below.heap_alloc ((w.alloc o1).alloc o2) o3 (w.heap.size + 1) (by simp)).trans h2, h3⟩
set_option maxHeartbeats 2000000 in
theorem f20 (q : Q) (w : World) (hl : HasL w q.a q.l) (hs : HasS w q.b q.s) (n1 : q.l.length ≤ 1048576) (n2 : q.s.length ≤ 1048576) :
    Calls Tryz.prog 20 #[agQ q] w fun e w' => ∃ (q' : Q) (ga gb : Nat), e = .returned (agQ q') ∧ pl q' = pl q ∧ q'.c = q'.l.length ∧ q'.d = q'.s.length ∧ w.heap.size ≤ ga ∧ Own1 w.heap.size ga gb q' w' ∧ Below w.heap.size w w' := by
  obtain ⟨l, a, c, s, b, d⟩ := q
  simp only at hl hs n1 n2
  have HL := hid hl
  have HS := hid hs
  clear hl hs
  obtain ⟨W, hW⟩ : ∃ W, W = ((w.alloc (.cells #[.slice a l.length c, .slice b s.length d] 40)).alloc Z2).alloc Z2 := ⟨_, rfl⟩
  have HWb : Hid (Below w.heap.size w W ∧ W.heap[w.heap.size]? = some (.cells #[.slice a l.length c, .slice b s.length d] 40) ∧ W.heap[w.heap.size + 1]? = some Z2 ∧ W.heap[w.heap.size + 1 + 1]? = some Z2 ∧ W.heap.size = w.heap.size + 1 + 1 + 1) := by
    subst hW
    obtain ⟨k1, k2, k3⟩ := three_new w (.cells #[.slice a l.length c, .slice b s.length d] 40) Z2 Z2
    exact ⟨(((Below.refl w.heap.size w).alloc (Nat.le_refl _) _).alloc (by simp) _).alloc (by simp; omega) _, k1, k2, k3, by simp⟩
  simp only [agQ]
  go_enter Tryz.func20, Tryz.ntmps20
  go_wp2_with fail
  rw [← hW]
  refine (Lab.f45 a l.length c l _ rfl n1 (HL.out.below HWb.out.1)).mono ?_
  rintro e w1 ⟨rfl, ho1, hb1⟩
  have HB1 := hid (HWb.out.1.trans (hb1.mono HWb.out.1.size))
  have HA1 := hid (kept HWb.out.2.1 hb1)
  have HC1 := hid (kept HWb.out.2.2.2.1 hb1)
  have HD1 := hid (kept HWb.out.2.2.1 hb1)
  have HSZ := hid HWb.out.2.2.2.2
  have HO1 := hid ho1
  clear ho1 hb1 hW HWb
  generalize W.heap.size = S at *
  obtain ⟨b0, b1⟩ := two HA1.out
  obtain ⟨c0, c1⟩ := two HC1.out
  have r0 := two_frz (o := 0) HC1.out
  obtain ⟨w2, hw2⟩ : ∃ x, x = w1.setCell ⟨w.heap.size + 1 + 1, 0, none⟩ (.slice (some ⟨S, 0, none⟩) l.length l.length) := ⟨_, rfl⟩
  have HB2 : Hid (Below w.heap.size w w2) := by rw [hw2]; exact HB1.out.setCell (by have := HSZ.out; simp only; omega) _
  have HA2 : Hid (w2.heap[w.heap.size]? = some (.cells #[.slice a l.length c, .slice b s.length d] 40)) := by rw [hw2]; exact set_else HA1.out (by have := HSZ.out; simp only; omega)
  have HC2 : Hid (w2.heap[w.heap.size + 1 + 1]? = some (.cells #[.slice (some ⟨S, 0, none⟩) l.length l.length, .slice none 0 0] 53)) := by rw [hw2]; exact set_at HC1.out
  have HD2 : Hid (w2.heap[w.heap.size + 1]? = some Z2) := by rw [hw2]; exact set_else HD1.out (by have := HSZ.out; simp only; omega)
  have HO2 : Hid (w2.ownsRow S 62 2 (.slice (some ⟨S, 0, none⟩) l.length l.length) l.length (Lab.flat l)) := by rw [hw2]; exact own_set HO1.out (by have := HSZ.out; simp only; omega) _
  clear HB1 HA1 HC1 HD1 HO1 c1
  go_wp2_with fail
  rw [← hw2]
  clear b0 b1 c0 r0 hw2
  refine (Smp.f46 b d s _ n2 (HS.out.below HB2.out)).mono ?_
  rintro e w3 ⟨rfl, ho3, hb3⟩
  have HB3 := hid (HB2.out.trans (hb3.mono HB2.out.size))
  have HC3 := hid (kept HC2.out hb3)
  have HD3 := hid (kept HD2.out hb3)
  have HO3 := hid (own_below HO2.out hb3)
  have HP3 := hid ho3
  have hlt : S < w2.heap.size := (HO2.out.lt S rfl).2
  clear ho3 hb3 HB2 HA2 HC2 HD2 HO2
  generalize w2.heap.size = S2 at *
  obtain ⟨c0, c1⟩ := two HC3.out
  have r1 := two_frz (o := 1) HC3.out
  obtain ⟨d0, d1⟩ := two HD3.out
  have r2 := two_frz (o := 0) HD3.out
  have r3 := two_frz (o := 1) HD3.out
  have HF : Hid (∀ x, x = ((w3.setCell ⟨w.heap.size + 1 + 1, 1, none⟩ (.slice (some ⟨S2, 0, none⟩) s.length s.length)).setCell ⟨w.heap.size + 1, 0, none⟩ (.slice (some ⟨S, 0, none⟩) l.length l.length)).setCell ⟨w.heap.size + 1, 1, none⟩ (.slice (some ⟨S2, 0, none⟩) s.length s.length) →
      x.heap[w.heap.size + 1]? = some (.cells #[.slice (some ⟨S, 0, none⟩) l.length l.length, .slice (some ⟨S2, 0, none⟩) s.length s.length] 53) ∧ Own1 w.heap.size S S2 ⟨l, some ⟨S, 0, none⟩, l.length, s, some ⟨S2, 0, none⟩, s.length⟩ x ∧ Below w.heap.size w x) := by
    rintro x rfl
    refine ⟨set_at (i := 1) (set_at (i := 0) (set_else HD3.out (by have := HSZ.out; simp only; omega))), ⟨rfl, rfl, ?_, ?_, hlt⟩, ?_⟩
    · exact own_set (own_set (own_set (own_base HO3.out (by have := HSZ.out; omega)) (by have := HSZ.out; simp only; omega) _) (by have := HSZ.out; simp only; omega) _) (by have := HSZ.out; simp only; omega) _
    · exact own_set (own_set (own_set (own_base HP3.out (by have := HSZ.out; omega)) (by have := HSZ.out; simp only; omega) _) (by have := HSZ.out; simp only; omega) _) (by have := HSZ.out; simp only; omega) _
    · exact Below.setCell (p := ⟨w.heap.size + 1, 1, none⟩) (Below.setCell (p := ⟨w.heap.size + 1, 0, none⟩) (Below.setCell (p := ⟨w.heap.size + 1 + 1, 1, none⟩) HB3.out (by have := HSZ.out; simp only; omega) _) (by have := HSZ.out; simp only; omega) _) (by have := HSZ.out; simp only; omega) _
  clear HB3 HC3 HD3 HO3 HP3
  go_wp2
  revert HF
  generalize hwf : World.setCell _ _ _ = wf
  intro HF
  obtain ⟨k1, k2, k3⟩ := HF.out wf (by rw [← hwf])
  obtain ⟨y0, y1⟩ := two k1
  refine bodyPost_ret (v := .agg #[.slice (some ⟨S, 0, none⟩) l.length l.length, .slice (some ⟨S2, 0, none⟩) s.length s.length]) (by simp [results, Tryz.results20, go_sem, y0, y1]) rfl ⟨⟨l, some ⟨S, 0, none⟩, l.length, s, some ⟨S2, 0, none⟩, s.length⟩, S, S2, rfl, rfl, rfl, rfl, by have := HSZ.out; omega, k2, k3⟩
end Go.Proofs.YtaekngadfajcaaaGreat.Srs
/- Lists of series: toSeriesS: all of it owned. -/
namespace Go.Proofs.YtaekngadfajcaaaGreat.Srs
open Go.RowKit
open Go.Proofs.YtaekngadfajcaaaGreat.Lab (Lb HasL)
open Go.Proofs.YtaekngadfajcaaaGreat.Smp (Sm HasS)

theorem infoQ : (Tryz.prog.info? 53).map (fun i => (i.zero, i.size, i.bytes)) = some (some (.agg #[.slice none 0 0, .slice none 0 0]), 2, 48) := by kernel_rfl
theorem step_set (d : List Q) (n k : Nat) (q : Q) (hd : d.length = k) (hk : k < n) : (d ++ List.replicate (n - k) q0).set k q = (d ++ [q]) ++ List.replicate (n - (k + 1)) q0 := by
  rw [List.set_append_right _ _ (by omega), hd, Nat.sub_self, show n - k = (n - (k + 1)) + 1 from by omega, List.replicate_succ, List.set_cons_zero, List.append_assoc]
  rfl
theorem getD_snoc (d : List Q) (q : Q) (i : Nat) : (d ++ [q]).getD i q0 = if i = d.length then q else d.getD i q0 := by
  rw [List.getD_eq_getElem?_getD, List.getD_eq_getElem?_getD]
  by_cases h : i < d.length
  · rw [List.getElem?_append_left h, if_neg (by omega)]
  · rw [List.getElem?_append_right (by omega)]
    by_cases e : i = d.length
    · rw [if_pos e, e, Nat.sub_self]; rfl
    · rw [if_neg e, List.getElem?_eq_none (by simp; omega), List.getElem?_eq_none (by omega)]
/-- Where the labels and the samples of a series lie that is in memory of its own. -/
def blk (a : Option Addr) : Nat := match a with
  | some x => x.block
  | none => 0
/-- The first k of a list of series lie in memory of their own, behind B, one behind the other. -/
structure Owns (X B k : Nat) (d : List Q) (w : World) : Prop where
  len : d.length = k
  own : ∀ i, i < k → Own1 X (blk (d.getD i q0).a) (blk (d.getD i q0).b) (d.getD i q0) w
  off : ∀ i, i < k → B < blk (d.getD i q0).a
  dis : ∀ i j, i < j → j < k → blk (d.getD i q0).b < blk (d.getD j q0).a
theorem Owns.nil {X B : Nat} {w : World} : Owns X B 0 [] w := ⟨rfl, fun i hi => by omega, fun i hi => by omega, fun i j h1 h2 => by omega⟩
theorem Owns.below {X B k : Nat} {d : List Q} {w w' : World} (h : Owns X B k d w) (hb : Below w.heap.size w w') : Owns X B k d w' := ⟨h.len, fun i hi => (h.own i hi).below hb, h.off, h.dis⟩
theorem Owns.set {X B k : Nat} {d : List Q} {w : World} (h : Owns X B k d w) (o : Nat) (v : Value) : Owns X B k d (w.setCell ⟨B, o, none⟩ v) :=
  ⟨h.len, fun i hi => (h.own i hi).set (p := ⟨B, o, none⟩) (Nat.ne_of_gt (h.off i hi)) (Nat.ne_of_gt (Nat.lt_trans (h.off i hi) (h.own i hi).lt)) v, h.off, h.dis⟩
theorem Owns.snoc {X B k : Nat} {d : List Q} {w : World} {q : Q} (h : Owns X B k d w) (h1 : Own1 X (blk q.a) (blk q.b) q w) (h2 : B < blk q.a) (h3 : ∀ i, i < k → blk (d.getD i q0).b < blk q.a) : Owns X B (k + 1) (d ++ [q]) w := by
  have hl := h.len
  refine ⟨by simp [hl], fun i hi => ?_, fun i hi => ?_, fun i j hij hj => ?_⟩
  · rw [getD_snoc]
    by_cases e : i = d.length
    · rw [if_pos e]; exact h1
    · rw [if_neg e]; exact h.own i (by omega)
  · rw [getD_snoc]
    by_cases e : i = d.length
    · rw [if_pos e]; exact h2
    · rw [if_neg e]; exact h.off i (by omega)
  · rw [getD_snoc, getD_snoc, if_neg (show ¬ i = d.length by omega)]
    by_cases e : j = d.length
    · rw [if_pos e]; exact h3 i (by omega)
    · rw [if_neg e]; exact h.dis i j hij (by omega)
theorem Own1.at_blk {X ga gb : Nat} {q : Q} {w : World} (h : Own1 X ga gb q w) : Own1 X (blk q.a) (blk q.b) q w := by
  have e1 : blk q.a = ga := by rw [h.ha]; rfl
  have e2 : blk q.b = gb := by rw [h.hb]; rfl
  rw [e1, e2]; exact h
/-- A list of series at block g, all of it in memory of its own from X on. -/
structure OwnQ (X g n : Nat) (qs : List Q) (w : World) : Prop where
  row : w.ownsRow X 53 2 (.slice (some ⟨g, 0, none⟩) n n) n (flat qs)
  kin : Owns X g n qs w
theorem OwnQ.below {X g n : Nat} {qs : List Q} {w w' : World} (h : OwnQ X g n qs w) (hb : Below w.heap.size w w') : OwnQ X g n qs w' := ⟨own_below h.row hb, h.kin.below hb⟩
theorem OwnQ.has {X g n : Nat} {qs : List Q} {w : World} (h : OwnQ X g n qs w) : HasQ w (some ⟨g, 0, none⟩) qs :=
  own_has h.row fun i hi => ⟨(h.kin.own i (by rw [← h.kin.len]; exact hi)).hasL, (h.kin.own i (by rw [← h.kin.len]; exact hi)).hasS⟩
def SameTo (k : Nat) (qs d : List Q) : Prop := ∀ i, i < k → pl (d.getD i q0) = pl (qs.getD i q0) ∧ (d.getD i q0).c = (d.getD i q0).l.length ∧ (d.getD i q0).d = (d.getD i q0).s.length
theorem SameTo.snoc {k : Nat} {qs d : List Q} {q : Q} (h : SameTo k qs d) (hd : d.length = k) (h1 : pl q = pl (qs.getD k q0)) (h2 : q.c = q.l.length) (h3 : q.d = q.s.length) : SameTo (k + 1) qs (d ++ [q]) := by
  intro i hi
  rw [getD_snoc]
  by_cases e : i = d.length
  · rw [if_pos e, e, hd]; exact ⟨h1, h2, h3⟩
  · rw [if_neg e]; exact h i (by omega)

set_option maxHeartbeats 2000000 in
theorem f7 (a : Option Addr) (n c : Nat) (qs : List Q) (w : World) (hn : qs.length = n) (hb : n ≤ 1048576) (hr : HasQ w a qs) (hz : SmlQ qs) :
    Calls Tryz.prog 7 #[.slice a n c] w fun e w' => ∃ qs' : List Q, e = .returned (.slice (some ⟨w.heap.size, 0, none⟩) n n) ∧ SameTo n qs qs' ∧ OwnQ w.heap.size w.heap.size n qs' w' ∧ Below w.heap.size w w' := by
  obtain ⟨i0, hi, hz0, hz1, hz2⟩ := info_parts infoQ
  have HN := hid hn
  have HR := hid hr
  have HZ := hid hz
  clear hn hr hz
  go_enter Tryz.func7, Tryz.ntmps7
  go_wp2_with (at_make; refine wpList_make_full _ rfl _ _ 26 rfl w.heap.size 53 i0 (.agg #[.slice none 0 0, .slice none 0 0]) 2 Tryz.underlying26 hi hz0 hz1 _ _ _ _ n rfl rfl rfl rfl ?b2 ?b3 (Nat.le_refl _) ?_)
  case b2 => rw [hz2]; omega
  case b3 => unfold maxLen; omega
  intro w0 hown0 hgrow0
  have hown1 : Hid (w0.ownsRow w.heap.size 53 2 (.slice (some ⟨w.heap.size, 0, none⟩) n n) n (flat (List.replicate n q0))) := by
    rw [← made_two]; exact hown0
  have hb0 := hid ((Below.refl w.heap.size w).grown hgrow0 (Nat.le_refl _) (fun k h => by cases h))
  clear hown0 hgrow0
  go_wp2
  go_loopw [4] (fun i wr => ∃ (k : Nat) (d : List Q), k ≤ n ∧ i = .int .i64 k ∧ Hid (SameTo k qs d) ∧ Hid (Owns w.heap.size w.heap.size k d wr) ∧ Hid (wr.ownsRow w.heap.size 53 2 (.slice (some ⟨w.heap.size, 0, none⟩) n n) n (flat (d ++ List.replicate (n - k) q0))) ∧ Hid (Below w.heap.size w wr))
    (fun i _ => n - (intOf i).toNat)
  case atStart => exact ⟨0, [], Nat.zero_le _, rfl, fun i hi => by omega, Owns.nil, by unfold Hid; simpa using hown1.out, hb0.out⟩
  case round =>
    obtain ⟨k, d, hk, rfl, HSm, HD, HO, HX⟩ := hrel
    by_cases hlt : k < n
    · obtain ⟨b, off, rfl, hbl, c0, c1, hT1, hT2⟩ := (HR.out).at2 k (by rw [HN.out]; exact hlt)
      have d0 := (HX.out.cell (p := ⟨b, off + k * 2, none⟩) hbl).trans c0
      have d1 := (HX.out.cell (p := ⟨b, off + k * 2 + 1, none⟩) hbl).trans c1
      have HT1 := hid (hT1.below HX.out)
      have HT2 := hid (hT2.below HX.out)
      have HS := hid (HZ.out k (by rw [HN.out]; exact hlt))
      obtain ⟨q, hq⟩ : ∃ q, q = qs.getD k q0 := ⟨_, rfl⟩
      have HQ := hid hq
      rw [← hq] at d0 d1 HT1 HT2 HS
      clear c0 c1 hT1 hT2 hbl hq
      go_wp2_with fail
      refine (f20 q _ HT1.out HT2.out HS.out.1 HS.out.2).mono ?_
      rintro e w2 ⟨q', ga, gb, rfl, hp, hc', hd', hg, ho2, hb2⟩
      have HD2 := hid (HD.out.below hb2)
      have HO2 := hid (own_below HO.out hb2)
      have HX2 := hid (HX.out.trans (hb2.mono HX.out.size))
      have HT3 := hid ((ho2.base HX.out.size).at_blk)
      have HBa : Hid (blk q'.a = ga) := by unfold Hid; rw [ho2.ha]; rfl
      have HGB : Hid (w.heap.size < blk q'.a ∧ ∀ i, i < k → blk (d.getD i q0).b < blk q'.a) := by
        have h1 := (HO.out.lt w.heap.size rfl).2
        refine ⟨by rw [HBa.out]; omega, fun i hi => ?_⟩
        have h2 := (HD.out.own i hi).lts
        rw [HBa.out]; omega
      have HL : Hid ((d ++ List.replicate (n - k) q0).length = n) := by unfold Hid; have := HD.out.len; simp; omega
      have HSn := hid (HSm.out.snoc HD.out.len (hp.trans (by rw [← HQ.out])) hc' hd')
      obtain ⟨y0, y1⟩ := flat_get (d ++ List.replicate (n - k) q0) k (by rw [HL.out]; exact hlt)
      have z0 := (HO2.out.cellAt (k * 2) (by omega)).trans y0
      have z1 := (HO2.out.cellAt (k * 2 + 1) (by omega)).trans y1
      have f0 := HO2.out.frozenAt (k * 2)
      have f1 := HO2.out.frozenAt (k * 2 + 1)
      have HE : Hid (∀ wz, wz = (w2.setCell ⟨w.heap.size, k * 2, none⟩ (.slice q'.a q'.l.length q'.c)).setCell ⟨w.heap.size, k * 2 + 1, none⟩ (.slice q'.b q'.s.length q'.d) → Owns w.heap.size w.heap.size (k + 1) (d ++ [q']) wz ∧ wz.ownsRow w.heap.size 53 2 (.slice (some ⟨w.heap.size, 0, none⟩) n n) n (flat ((d ++ [q']) ++ List.replicate (n - (k + 1)) q0)) ∧ Below w.heap.size w wz) := by
        rintro wz rfl
        have n1 : blk q'.a ≠ w.heap.size := Nat.ne_of_gt HGB.out.1
        have n2 : blk q'.b ≠ w.heap.size := Nat.ne_of_gt (Nat.lt_trans HGB.out.1 HT3.out.lt)
        refine ⟨((HD2.out.set _ _).set _ _).snoc ((HT3.out.set (p := ⟨w.heap.size, k * 2, none⟩) n1 n2 _).set (p := ⟨w.heap.size, k * 2 + 1, none⟩) n1 n2 _) HGB.out.1 HGB.out.2, ?_, (HX2.out.setCell (Nat.le_refl _) _).setCell (Nat.le_refl _) _⟩
        rw [← step_set d n k _ HD2.out.len hlt, ← flat_set _ k _ (by rw [HL.out]; exact hlt)]
        exact ((HO2.out.stored (k * 2) _).1.stored (k * 2 + 1) _).1
      clear y0 y1 hb2 hg ho2 hp hc' hd' HO HT1 HT2 HO2 HD2 HX2 HT3 HX HD HSm HBa HGB d0 d1
      go_wp2
      go_roundw
      case rel =>
        obtain ⟨e1, e2, e3⟩ := HE.out _ rfl
        exact ⟨k + 1, _, by omega, by go_num, HSn.out, e1, e2, e3⟩
      case measure => simp [intOf]; omega
    · obtain rfl : k = n := by omega
      have HE : Hid (OwnQ w.heap.size w.heap.size k d wr) := by
        have h := HO.out
        rw [Nat.sub_self, List.replicate_zero, List.append_nil] at h
        exact ⟨h, HD.out⟩
      go_wp2
      go_ret
      exact ⟨d, rfl, HSm.out, HE.out, HX.out⟩
end Go.Proofs.YtaekngadfajcaaaGreat.Srs
