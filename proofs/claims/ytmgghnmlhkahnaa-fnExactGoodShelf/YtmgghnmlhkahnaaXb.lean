/- Lists of series: toSeries, toSeriesS: all of it owned. -/
import Derived.Test.YtmgghnmlhkahnaaXa
namespace Go.Proofs.Ytmgghnmlhkahnaa.Srs
open Go.RowKit
open Go.Proofs.Ytmgghnmlhkahnaa.Lab (Lb HasL)
open Go.Proofs.Ytmgghnmlhkahnaa.Smp (Sm HasS)

theorem own_base {w : World} {base base' e size n : Nat} {v : Value} {xs : List Value} (h : w.ownsRow base e size v n xs) (hb : base' ≤ base) : w.ownsRow base' e size v n xs := by
  refine ⟨h.1, ?_⟩
  rcases h.2 with h2 | ⟨g, cap, cur, h1, h2, h3⟩
  · exact .inl h2
  · exact .inr ⟨g, cap, cur, h1, by omega, h3⟩
theorem own_set {w : World} {base e size n c g : Nat} {xs : List Value} {p : Addr} (h : w.ownsRow base e size (.slice (some ⟨g, 0, none⟩) n c) n xs) (hp : g ≠ p.block) (u : Value) : (w.setCell p u).ownsRow base e size (.slice (some ⟨g, 0, none⟩) n c) n xs := by
  refine h.kept (row := some p.block) ⟨rfl, rfl, rfl, by simp, fun j hj hne => Below.heap_setCell w p u j (fun e => hne (by rw [e]))⟩ (.inr ?_)
  intro e
  exact hp (Option.some.inj e)
theorem own_below {w w' : World} {base e size n : Nat} {v : Value} {xs : List Value} (h : w.ownsRow base e size v n xs) (hb : Below w.heap.size w w') : w'.ownsRow base e size v n xs := Lab.own_below h hb
theorem two_frz {x : World} {b o : Nat} {v0 v1 : Value} {t : TypeId} (h : x.heap[b]? = some (.cells #[v0, v1] t)) : x.frozen? ⟨b, o, none⟩ = false := by
  simp [World.frozen?, h]
theorem set_at {x : World} {b i : Nat} {cs : Array Value} {t : TypeId} {v : Value} (h : x.heap[b]? = some (.cells cs t)) : (x.setCell ⟨b, i, none⟩ v).heap[b]? = some (.cells (cs.setIfInBounds i v) t) := by
  have hlt := lt_at h
  have h' : x.heap[b] = .cells cs t := by simpa [Array.getElem?_eq_getElem hlt] using h
  show (x.heap.modify b _)[b]? = _
  rw [Array.getElem?_eq_getElem (by simpa using hlt), Array.getElem_modify_self, h']
  rfl
theorem set_else {x : World} {b : Nat} {p : Addr} {o : Obj} {v : Value} (h : x.heap[b]? = some o) (hp : b ≠ p.block) : (x.setCell p v).heap[b]? = some o := (Below.heap_setCell x p v b hp).trans h
/-- A series whose labels and samples are in memory of their own, from g on. -/
structure Own1 (X ga gb : Nat) (q : Q) (w : World) : Prop where
  ha : q.a = some ⟨ga, 0, none⟩
  hb : q.b = some ⟨gb, 0, none⟩
  lab : w.ownsRow X 71 2 (.slice (some ⟨ga, 0, none⟩) q.l.length q.c) q.l.length (Lab.flat q.l)
  smp : w.ownsRow X 51 2 (.slice (some ⟨gb, 0, none⟩) q.s.length q.d) q.s.length (Smp.flat q.s)
  lt : ga < gb
theorem Own1.below {X ga gb : Nat} {q : Q} {w w' : World} (h : Own1 X ga gb q w) (hb : Below w.heap.size w w') : Own1 X ga gb q w' := ⟨h.ha, h.hb, own_below h.lab hb, own_below h.smp hb, h.lt⟩
theorem Own1.set {X ga gb : Nat} {q : Q} {w : World} (h : Own1 X ga gb q w) {p : Addr} (h1 : ga ≠ p.block) (h2 : gb ≠ p.block) (v : Value) : Own1 X ga gb q (w.setCell p v) := ⟨h.ha, h.hb, own_set h.lab h1 v, own_set h.smp h2 v, h.lt⟩
theorem Own1.base {X Y ga gb : Nat} {q : Q} {w : World} (h : Own1 X ga gb q w) (hy : Y ≤ X) : Own1 Y ga gb q w := ⟨h.ha, h.hb, own_base h.lab hy, own_base h.smp hy, h.lt⟩
theorem Own1.hasL {X ga gb : Nat} {q : Q} {w : World} (h : Own1 X ga gb q w) : HasL w q.a q.l := by rw [h.ha]; exact Lab.HasL.own h.lab
theorem Own1.hasS {X ga gb : Nat} {q : Q} {w : World} (h : Own1 X ga gb q w) : HasS w q.b q.s := by rw [h.hb]; exact Smp.HasS.own h.smp
theorem Own1.lts {X ga gb : Nat} {q : Q} {w : World} (h : Own1 X ga gb q w) : gb < w.heap.size := (h.smp.lt gb rfl).2

abbrev Z2 : Obj := .cells #[.slice none 0 0, .slice none 0 0] 49
theorem three_new (w : World) (o1 o2 o3 : Obj) : (((w.alloc o1).alloc o2).alloc o3).heap[w.heap.size]? = some o1 ∧ (((w.alloc o1).alloc o2).alloc o3).heap[w.heap.size + 1]? = some o2 ∧ (((w.alloc o1).alloc o2).alloc o3).heap[w.heap.size + 1 + 1]? = some o3 := by
  have h1 := heap_alloc_new w o1
  have h2 := heap_alloc_new (w.alloc o1) o2
  have h3 := heap_alloc_new ((w.alloc o1).alloc o2) o3
  simp only [World.size_alloc] at h2 h3
  have e1 := (Below.heap_alloc (w.alloc o1) o2 w.heap.size (by simp)).trans h1
  have e2 := (Below.heap_alloc ((w.alloc o1).alloc o2) o3 w.heap.size (by simp; omega)).trans e1
  exact ⟨e2, (Below.heap_alloc ((w.alloc o1).alloc o2) o3 (w.heap.size + 1) (by simp)).trans h2, h3⟩
set_option maxHeartbeats 2000000 in
theorem f42 (q : Q) (w : World) (hl : HasL w q.a q.l) (hs : HasS w q.b q.s) (n1 : q.l.length ≤ 1048576) (n2 : q.s.length ≤ 1048576) :
    Calls Try.prog 42 #[agQ q] w fun e w' => ∃ (q' : Q) (ga gb : Nat), e = .returned (agQ q') ∧ pl q' = pl q ∧ q'.c = q'.l.length ∧ q'.d = q'.s.length ∧ w.heap.size ≤ ga ∧ Own1 w.heap.size ga gb q' w' ∧ Below w.heap.size w w' := by
  obtain ⟨l, a, c, s, b, d⟩ := q
  simp only at hl hs n1 n2
  have HL := hid hl
  have HS := hid hs
  clear hl hs
  obtain ⟨W, hW⟩ : ∃ W, W = ((w.alloc (.cells #[.slice a l.length c, .slice b s.length d] 65)).alloc Z2).alloc Z2 := ⟨_, rfl⟩
  have HWb : Hid (Below w.heap.size w W ∧ W.heap[w.heap.size]? = some (.cells #[.slice a l.length c, .slice b s.length d] 65) ∧ W.heap[w.heap.size + 1]? = some Z2 ∧ W.heap[w.heap.size + 1 + 1]? = some Z2 ∧ W.heap.size = w.heap.size + 1 + 1 + 1) := by
    subst hW
    obtain ⟨k1, k2, k3⟩ := three_new w (.cells #[.slice a l.length c, .slice b s.length d] 65) Z2 Z2
    exact ⟨(((Below.refl w.heap.size w).alloc (Nat.le_refl _) _).alloc (by simp) _).alloc (by simp; omega) _, k1, k2, k3, by simp⟩
  simp only [agQ]
  go_enter Try.func42, Try.ntmps42
  go_wp2_with fail
  rw [← hW]
  refine (Lab.f59 a l.length c l _ rfl n1 (HL.out.below HWb.out.1)).mono ?_
  rintro e w1 ⟨rfl, ho1, hb1⟩
  have HB1 := hid (HWb.out.1.trans (hb1.mono HWb.out.1.size))
  have HA1 := hid (kept HWb.out.2.1 hb1)
  have HC1 := hid (kept HWb.out.2.2.2.1 hb1)
  have HD1 := hid (kept HWb.out.2.2.1 hb1)
  have HSZ := hid HWb.out.2.2.2.2
  have HO1 := hid ho1
  clear ho1 hb1 hW HWb
  generalize W.heap.size = S at *
  obtain ⟨b0, b1⟩ := two HA1.out
  obtain ⟨c0, c1⟩ := two HC1.out
  have r0 := two_frz (o := 0) HC1.out
  obtain ⟨w2, hw2⟩ : ∃ x, x = w1.setCell ⟨w.heap.size + 1 + 1, 0, none⟩ (.slice (some ⟨S, 0, none⟩) l.length l.length) := ⟨_, rfl⟩
  have HB2 : Hid (Below w.heap.size w w2) := by rw [hw2]; exact HB1.out.setCell (by have := HSZ.out; simp only; omega) _
  have HA2 : Hid (w2.heap[w.heap.size]? = some (.cells #[.slice a l.length c, .slice b s.length d] 65)) := by rw [hw2]; exact set_else HA1.out (by have := HSZ.out; simp only; omega)
  have HC2 : Hid (w2.heap[w.heap.size + 1 + 1]? = some (.cells #[.slice (some ⟨S, 0, none⟩) l.length l.length, .slice none 0 0] 49)) := by rw [hw2]; exact set_at HC1.out
  have HD2 : Hid (w2.heap[w.heap.size + 1]? = some Z2) := by rw [hw2]; exact set_else HD1.out (by have := HSZ.out; simp only; omega)
  have HO2 : Hid (w2.ownsRow S 71 2 (.slice (some ⟨S, 0, none⟩) l.length l.length) l.length (Lab.flat l)) := by rw [hw2]; exact own_set HO1.out (by have := HSZ.out; simp only; omega) _
  clear HB1 HA1 HC1 HD1 HO1 c1
  go_wp2_with fail
  rw [← hw2]
  clear b0 b1 c0 r0 hw2
  refine (Smp.f60 b d s _ n2 (HS.out.below HB2.out)).mono ?_
  rintro e w3 ⟨rfl, ho3, hb3⟩
  have HB3 := hid (HB2.out.trans (hb3.mono HB2.out.size))
  have HC3 := hid (kept HC2.out hb3)
  have HD3 := hid (kept HD2.out hb3)
  have HO3 := hid (own_below HO2.out hb3)
  have HP3 := hid ho3
  have hlt : S < w2.heap.size := (HO2.out.lt S rfl).2
  clear ho3 hb3 HB2 HA2 HC2 HD2 HO2
  generalize w2.heap.size = S2 at *
  obtain ⟨c0, c1⟩ := two HC3.out
  have r1 := two_frz (o := 1) HC3.out
  obtain ⟨d0, d1⟩ := two HD3.out
  have r2 := two_frz (o := 0) HD3.out
  have r3 := two_frz (o := 1) HD3.out
  have HF : Hid (∀ x, x = ((w3.setCell ⟨w.heap.size + 1 + 1, 1, none⟩ (.slice (some ⟨S2, 0, none⟩) s.length s.length)).setCell ⟨w.heap.size + 1, 0, none⟩ (.slice (some ⟨S, 0, none⟩) l.length l.length)).setCell ⟨w.heap.size + 1, 1, none⟩ (.slice (some ⟨S2, 0, none⟩) s.length s.length) →
      x.heap[w.heap.size + 1]? = some (.cells #[.slice (some ⟨S, 0, none⟩) l.length l.length, .slice (some ⟨S2, 0, none⟩) s.length s.length] 49) ∧ Own1 w.heap.size S S2 ⟨l, some ⟨S, 0, none⟩, l.length, s, some ⟨S2, 0, none⟩, s.length⟩ x ∧ Below w.heap.size w x) := by
    rintro x rfl
    refine ⟨set_at (i := 1) (set_at (i := 0) (set_else HD3.out (by have := HSZ.out; simp only; omega))), ⟨rfl, rfl, ?_, ?_, hlt⟩, ?_⟩
    · exact own_set (own_set (own_set (own_base HO3.out (by have := HSZ.out; omega)) (by have := HSZ.out; simp only; omega) _) (by have := HSZ.out; simp only; omega) _) (by have := HSZ.out; simp only; omega) _
    · exact own_set (own_set (own_set (own_base HP3.out (by have := HSZ.out; omega)) (by have := HSZ.out; simp only; omega) _) (by have := HSZ.out; simp only; omega) _) (by have := HSZ.out; simp only; omega) _
    · exact Below.setCell (p := ⟨w.heap.size + 1, 1, none⟩) (Below.setCell (p := ⟨w.heap.size + 1, 0, none⟩) (Below.setCell (p := ⟨w.heap.size + 1 + 1, 1, none⟩) HB3.out (by have := HSZ.out; simp only; omega) _) (by have := HSZ.out; simp only; omega) _) (by have := HSZ.out; simp only; omega) _
  clear HB3 HC3 HD3 HO3 HP3
  go_wp2
  revert HF
  generalize hwf : World.setCell _ _ _ = wf
  intro HF
  obtain ⟨k1, k2, k3⟩ := HF.out wf (by rw [← hwf])
  obtain ⟨y0, y1⟩ := two k1
  refine bodyPost_ret (v := .agg #[.slice (some ⟨S, 0, none⟩) l.length l.length, .slice (some ⟨S2, 0, none⟩) s.length s.length]) (by simp [results, Try.results42, go_sem, y0, y1]) rfl ⟨⟨l, some ⟨S, 0, none⟩, l.length, s, some ⟨S2, 0, none⟩, s.length⟩, S, S2, rfl, rfl, rfl, rfl, by have := HSZ.out; omega, k2, k3⟩
end Go.Proofs.Ytmgghnmlhkahnaa.Srs
