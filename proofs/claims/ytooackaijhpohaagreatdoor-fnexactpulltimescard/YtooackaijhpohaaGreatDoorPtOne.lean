import Derived.Test.YtooackaijhpohaaGreatDoorQk
import Derived.Test.YtooackaijhpohaaGreatDoorHl
import Derived.Test.YtooackaijhpohaaGreatDoorTx
import Derived.Test.YtooackaijhpohaaGreatDoorQh
import Derived.Test.YtooackaijhpohaaGreatDoorRb
import Derived.Deep.CutRange
import Derived.Test.YtooackaijhpohaaGreatDoorQc
import Derived.Laws.BytesArg
import Derived.Test.YtooackaijhpohaaGreatDoorVo
import Derived.Test.YtooackaijhpohaaGreatDoorQi
/- Offsets: both OffsetOfs, and the walk of FnExactOffsetOf. -/
namespace Go.Proofs.YtooackaijhpohaaGreatDoor.Tgt
open Go.RowKit Go.Proofs.YtooackaijhpohaaGreatDoor.Fil Go.Proofs.YtooackaijhpohaaGreatDoor.Rul
open Go.Proofs.YtooackaijhpohaaGreatDoor.Lab (Lb HasL)

/-- A target's box, its first two cells besides. -/
abbrev OS (w : World) (t : Tg) (x : World) : Prop := x.cell? ⟨w.heap.size, 0, none⟩ = some (.slice t.la t.ls.length t.lc) ∧ x.cell? ⟨w.heap.size, 1, none⟩ = some (.int .i64 t.ev) ∧ To w t x
theorem To.os {w : World} {t : Tg} {x : World} (h : To w t x) : OS w t x := by
  obtain ⟨b0, b1, _⟩ := cells5 h.box
  exact ⟨b0, b1, h⟩
theorem OS.to {w : World} {t : Tg} {x : World} (h : OS w t x) : To w t x := h.2.2
theorem OS.below {w : World} {t : Tg} {x y : World} (h : OS w t x) (hb : Below x.heap.size x y) : OS w t y := (h.to.below hb).os
/-- What is to be answered. -/
def OffZ (t : Tg) (z : Int) : Prop := (GoodT t ∧ z = (Lab.mix (Lab.txtR t.ls)).tmod t.ev) ∨ (¬ GoodT t ∧ z = 0)
theorem OffZ.uniq {t t' : Tg} {z z' : Int} (h : OffZ t z) (h' : OffZ t' z') (hs : GoodT t ↔ GoodT t') (hl : t'.ls = t.ls) (he : t'.ev = t.ev) : z' = z := by
  rcases h with ⟨h1, h2⟩ | ⟨h1, h2⟩
  · rcases h' with ⟨k1, k2⟩ | ⟨k1, k2⟩
    · rw [h2, k2, hl, he]
    · exact absurd (hs.1 h1) k1
  · rcases h' with ⟨k1, k2⟩ | ⟨k1, k2⟩
    · exact absurd (hs.2 k1) h1
    · rw [h2, k2]
def Offs (t : Tg) (w : World) (e : Ending) (w' : World) : Prop := ∃ z : Int, e = .returned (.int .i64 z) ∧ OffZ t z ∧ Below w.heap.size w w'
set_option maxHeartbeats 4000000 in
theorem f11 (t : Tg) (w : World) (hr : Has w t) (hf : FitG t) (hz : Sml t) :
    Calls Tryz.prog 11 #[agT t] w (Offs t w) := by
  obtain ⟨ls, la, lc, ev, lm, ho, qs, ra, rc⟩ := t
  have H0 := hid (To.new hr)
  have HF := hid hf
  have HZ := hid hz
  clear hr hf hz
  go_enter Tryz.func11, Tryz.ntmps11
  go_wp2_with fail
  refine (f7 ⟨ls, la, lc, ev, lm, ho, qs, ra, rc⟩ _ H0.out.has HF.out HZ.out).mono ?_
  rintro e w1 ⟨b, rfl, hb, hb1⟩
  have H1 := hid (H0.out.below hb1)
  have HP := hid hb
  clear hb1 H0 hb
  cases b
  · have HNG : Hid (¬ GoodT ⟨ls, la, lc, ev, lm, ho, qs, ra, rc⟩) := fun h => by have := HP.out.2 h; cases this
    go_wp2
    go_ret
    exact ⟨0, rfl, .inr ⟨HNG.out, rfl⟩, H1.out.bel⟩
  have HG := hid (HP.out.1 (by first | rfl | trivial))
  have hev : 1 ≤ ev := HG.out.2.1
  have hev2 : ev ≤ 3600 := HG.out.2.2.1
  have hne : (ev == 0) = false := by rw [beq_eq_false_iff_ne]; omega
  have hn0 : ¬ ev = 0 := by omega
  have hwr : IntKind.i64.wrap ((Lab.mix (Lab.txtR ls)).tmod ev) = (Lab.mix (Lab.txtR ls)).tmod ev := by
    have h1 : ((Lab.mix (Lab.txtR ls)).tmod ev).natAbs < ev.natAbs := by rw [Int.natAbs_tmod]; exact Nat.mod_lt _ (by omega)
    rw [IntKind.wrap_i64]; omega
  go_wp2_with fail
  go_region_held3 (fun x => OS w ⟨ls, la, lc, ev, lm, ho, qs, ra, rc⟩ x) (first | exact (H1.out.below (below_drew _)).os | assumption) (first | (go_at_call 30; refine (Lab.f30 la ls.length lc ls _ rfl HZ.out.ln (Has.lab (To.has (OS.to (by assumption)))) HF.out.lab).mono ?_; rintro e w2 ⟨rfl, hb2⟩; have hs2 := OS.below (by assumption) hb2; clear hb2))
  have H2 := hid hs2.to
  clear hs2
  go_wp2
  go_ret
  exact ⟨_, rfl, .inl ⟨HG.out, rfl⟩, H2.out.bel⟩
set_option maxHeartbeats 4000000 in
theorem f12 (t : Tg) (w : World) (hr : Has w t) (hf : FitG t) (hz : Sml t) (ht : Rel.Tab w) :
    Calls Tryz.prog 12 #[agT t] w (Offs t w) := by
  obtain ⟨ls, la, lc, ev, lm, ho, qs, ra, rc⟩ := t
  have H0 := hid (To.new hr)
  have HF := hid hf
  have HZ := hid hz
  have HT := hid (ht.below ((Below.refl w.heap.size w).alloc (Nat.le_refl _) (.cells (clT ⟨ls, la, lc, ev, lm, ho, qs, ra, rc⟩) 31)))
  clear ht
  clear hr hf hz
  go_enter Tryz.func12, Tryz.ntmps12
  go_wp2_with fail
  refine (f9 ⟨ls, la, lc, ev, lm, ho, qs, ra, rc⟩ _ H0.out.has HF.out HZ.out HT.out).mono ?_
  rintro e w1 ⟨b, rfl, hb, hb1⟩
  have H1 := hid (H0.out.below hb1)
  have HP := hid hb
  clear hb1 H0 hb
  cases b
  · have HNG : Hid (¬ GoodT ⟨ls, la, lc, ev, lm, ho, qs, ra, rc⟩) := fun h => by have := HP.out.2 h; cases this
    go_wp2
    go_ret
    exact ⟨0, rfl, .inr ⟨HNG.out, rfl⟩, H1.out.bel⟩
  have HG := hid (HP.out.1 (by first | rfl | trivial))
  have hev : 1 ≤ ev := HG.out.2.1
  have hev2 : ev ≤ 3600 := HG.out.2.2.1
  have hne : (ev == 0) = false := by rw [beq_eq_false_iff_ne]; omega
  have hn0 : ¬ ev = 0 := by omega
  have hwr : IntKind.i64.wrap ((Lab.mix (Lab.txtR ls)).tmod ev) = (Lab.mix (Lab.txtR ls)).tmod ev := by
    have h1 : ((Lab.mix (Lab.txtR ls)).tmod ev).natAbs < ev.natAbs := by rw [Int.natAbs_tmod]; exact Nat.mod_lt _ (by omega)
    rw [IntKind.wrap_i64]; omega
  go_wp2_with fail
  go_region_held3 (fun x => OS w ⟨ls, la, lc, ev, lm, ho, qs, ra, rc⟩ x) (first | exact (H1.out.below (below_drew _)).os | assumption) (first | (go_at_call 31; refine (Lab.f31 la ls.length lc ls _ rfl HZ.out.ln (Has.lab (To.has (OS.to (by assumption)))) HF.out.lab).mono ?_; rintro e w2 ⟨rfl, hb2⟩; have hs2 := OS.below (by assumption) hb2; clear hb2))
  have H2 := hid hs2.to
  clear hs2
  go_wp2
  go_ret
  exact ⟨_, rfl, .inl ⟨HG.out, rfl⟩, H2.out.bel⟩
set_option maxHeartbeats 4000000 in
theorem walk4 (t : Tg) (w : World) (hr : Has w t) (hf : FitG t) (ht : Rel.Tab w) :
    Calls Tryz.prog 4 #[agT t] w fun e w' => e = .returned (.bool true) ∧ Below w.heap.size w w' := by
  have hbb := (Below.refl w.heap.size w).alloc (Nat.le_refl _) (.cells (clT t) 25)
  have H0 := hid (show (w.alloc (.cells (clT t) 25)).heap[w.heap.size]? = some (.cells (clT t) 25) ∧ Has (w.alloc (.cells (clT t) 25)) t ∧ Below w.heap.size w (w.alloc (.cells (clT t) 25)) from ⟨heap_alloc_new w _, hr.below hbb, hbb⟩)
  have HF := hid hf
  have HT := hid ht
  clear hr hf ht hbb
  obtain ⟨ls, la, lc, ev, lm, ho, qs, ra, rc⟩ := t
  go_enter Tryz.func4, Tryz.ntmps4
  go_wp2_with fail
  refine (f6 ⟨ls, la, lc, ev, lm, ho, qs, ra, rc⟩ _ H0.out.2.1 HF.out).mono ?_
  rintro e w1 ⟨y, rfl, hy, hb1⟩
  have H1 := hid (show w1.heap[w.heap.size]? = some (.cells (clT ⟨ls, la, lc, ev, lm, ho, qs, ra, rc⟩) 25) ∧ Has w1 ⟨ls, la, lc, ev, lm, ho, qs, ra, rc⟩ ∧ Below w.heap.size w w1 from ⟨kept H0.out.1 hb1, H0.out.2.1.below hb1, H0.out.2.2.trans (hb1.mono H0.out.2.2.size)⟩)
  clear hb1 H0
  by_cases g0 : y < 0
  · go_wp2
    go_ret
    exact ⟨rfl, H1.out.2.2⟩
  have HZ := hid (hy (by omega))
  clear hy
  obtain ⟨b0, b1, b2, b3, b4⟩ := cells5 H1.out.1
  go_wp2_with fail
  refine (f8 ⟨ls, la, lc, ev, lm, ho, qs, ra, rc⟩ _ H1.out.2.1 HZ.out).mono ?_
  rintro e w2 ⟨t2, rfl, hs2, hh2, hb2⟩
  have H2 := hid (show w2.heap[w.heap.size]? = some (.cells (clT ⟨ls, la, lc, ev, lm, ho, qs, ra, rc⟩) 25) ∧ Has w2 ⟨ls, la, lc, ev, lm, ho, qs, ra, rc⟩ ∧ Below w.heap.size w w2 from ⟨kept H1.out.1 hb2, H1.out.2.1.below hb2, H1.out.2.2.trans (hb2.mono H1.out.2.2.size)⟩)
  have HS2 := hid hs2
  have HH2 := hid hh2
  clear hb2 hs2 hh2 H1 b0 b1 b2 b3 b4
  go_wp2_with fail
  refine (f11 t2 _ HH2.out (HS2.out.fit HF.out) (HS2.out.sml HZ.out)).mono ?_
  rintro e w3 ⟨p, rfl, hp, hb3⟩
  have H3 := hid (show w3.heap[w.heap.size]? = some (.cells (clT ⟨ls, la, lc, ev, lm, ho, qs, ra, rc⟩) 25) ∧ Has w3 ⟨ls, la, lc, ev, lm, ho, qs, ra, rc⟩ ∧ Below w.heap.size w w3 from ⟨kept H2.out.1 hb3, H2.out.2.1.below hb3, H2.out.2.2.trans (hb3.mono H2.out.2.2.size)⟩)
  have HP := hid hp
  clear hb3 hp H2 HH2
  obtain ⟨b0, b1, b2, b3, b4⟩ := cells5 H3.out.1
  go_wp2_with fail
  refine (f8 ⟨ls, la, lc, ev, lm, ho, qs, ra, rc⟩ _ H3.out.2.1 HZ.out).mono ?_
  rintro e w4 ⟨t4, rfl, hs4, hh4, hb4⟩
  obtain ⟨ls4, la4, lc4, ev4, lm4, ho4, qs4, ra4, rc4⟩ := t4
  have H5 : Hid (Wx w ⟨ls, la, lc, ev, lm, ho, qs, ra, rc⟩ ⟨ls4, la4, lc4, ev4, lm4, ho4, qs4, ra4, rc4⟩ w4.heap.size (w4.alloc (.cells (clT ⟨ls4, la4, lc4, ev4, lm4, ho4, qs4, ra4, rc4⟩) 31))) := by
    have hb := (Below.refl w4.heap.size w4).alloc (Nat.le_refl _) (.cells (clT ⟨ls4, la4, lc4, ev4, lm4, ho4, qs4, ra4, rc4⟩) 31)
    have hb5 := H3.out.2.2.trans (hb4.mono H3.out.2.2.size)
    exact ⟨kept (kept H3.out.1 hb4) hb, heap_alloc_new w4 _, (H3.out.2.1.below hb4).below hb, hh4.below hb, hb5.trans (hb.mono hb5.size)⟩
  have HS4 := hid hs4
  clear hb4 hs4 hh4 H3 b0 b1 b2 b3 b4
  obtain ⟨c0, c1, c2, c3, c4⟩ := cells5 H5.out.two
  have HT5 := hid (HT.out.below H5.out.bel)
  generalize hBB : w4.heap.size = BB at *
  go_wp2_with fail
  refine (f12 ⟨ls4, la4, lc4, ev4, lm4, ho4, qs4, ra4, rc4⟩ _ H5.out.has (HS4.out.fit HF.out) (HS4.out.sml HZ.out) HT5.out).mono ?_
  rintro e w6 ⟨p', rfl, hp', hb6⟩
  have H6 := hid (H5.out.below hb6)
  have hpp : p' = p := HP.out.uniq hp' (HS2.out.good.trans HS4.out.good.symm) (HS4.out.ls.trans HS2.out.ls.symm) (HS4.out.ev.trans HS2.out.ev.symm)
  subst hpp
  clear hb6 hp' H5 HT5 c0 c1 c2 c3 c4 hBB
  have HS4' := hid HS4.out
  have HZ4 := hid (HS4.out.sml HZ.out)
  all_goals
    go_wp2_with fail
    go_region_held3 (fun x => WS w ⟨ls, la, lc, ev, lm, ho, qs, ra, rc⟩ ⟨ls4, la4, lc4, ev4, lm4, ho4, qs4, ra4, rc4⟩ BB x) (first | exact (H6.out.below (below_drew _)).cells | assumption) (first | (go_at_call 8; refine (f8 ⟨ls, la, lc, ev, lm, ho, qs, ra, rc⟩ _ (Wx.arg (WS.wx (by assumption))) HZ.out).mono ?_; rintro e w7 ⟨t7, rfl, hs7, hh7, hb7⟩; have hq7 := WS.below (by assumption) hb7; clear hb7) | (go_at_call 10; refine (f10 ⟨ls4, la4, lc4, ev4, lm4, ho4, qs4, ra4, rc4⟩ t7 _ (Wx.has (WS.wx (by assumption))) (by assumption) (HS4'.out.trans' (by assumption)) HZ4.out).mono ?_; rintro e w8 ⟨rfl, hb8⟩; have hq8 := WS.below (by assumption) hb8; clear hb8))
    have HX8 := hid hq8.wx
    clear hq8
    go_wp2
    go_ret
    exact ⟨rfl, HX8.out.bel⟩
end Go.Proofs.YtooackaijhpohaaGreatDoor.Tgt
/- Times of pulls: plain facts. -/
namespace Go.Proofs.YtooackaijhpohaaGreatDoor.Tgt
open Go.RowKit Go.Proofs.YtooackaijhpohaaGreatDoor.Fil Go.Proofs.YtooackaijhpohaaGreatDoor.Rul

/-- The first time from f on that leaves o when divided by E. -/
def fst (f E o : Int) : Int := if f - f % E + o < f then f - f % E + o + E else f - f % E + o
theorem fst_mod {f E o : Int} (_hE : 1 ≤ E) (ho : 0 ≤ o) (hoE : o < E) : fst f E o % E = o := by
  have h1 : f - f % E = E * (f / E) := by have := Int.mul_ediv_add_emod f E; omega
  have h2 : ∀ q : Int, (E * q + o) % E = o := fun q => by rw [Int.add_comm, Int.add_mul_emod_self_left]; exact Int.emod_eq_of_lt ho hoE
  unfold fst
  split
  · rw [h1, show E * (f / E) + o + E = E * (f / E + 1) + o from by rw [Int.mul_add, Int.mul_one]; omega]
    exact h2 _
  · rw [h1]; exact h2 _
theorem fst_ge {f E o : Int} (hE : 1 ≤ E) (ho : 0 ≤ o) : f ≤ fst f E o := by
  have := Int.emod_lt_of_pos f (show 0 < E by omega)
  unfold fst
  split <;> omega
theorem fst_lt {f E o : Int} (hE : 1 ≤ E) (hoE : o < E) : fst f E o < f + E := by
  have := Int.emod_nonneg f (show E ≠ 0 by omega)
  unfold fst
  split <;> omega
theorem fst_first {f E o a : Int} (hE : 1 ≤ E) (ho : 0 ≤ o) (hoE : o < E) (h1 : f ≤ a) (h2 : a < fst f E o) : a % E ≠ o := by
  intro h
  have h3 := fst_mod (f := f) hE ho hoE
  have h4 := fst_lt (f := f) hE hoE
  have h5 : (fst f E o - a) % E = 0 := by
    rw [Int.emod_eq_emod_iff_emod_sub_eq_zero.1]
    rw [h3, h]
  rw [Int.emod_eq_of_lt (by omega) (by omega)] at h5
  omega
/-- So many times, one every E. -/
def tl (F E : Int) (k : Nat) : List Int := (List.range k).map fun i : Nat => F + (i : Int) * E
theorem tl_len (F E : Int) (k : Nat) : (tl F E k).length = k := by simp [tl]
theorem tl_succ (F E : Int) (k : Nat) : tl F E (k + 1) = tl F E k ++ [F + (k : Int) * E] := by simp [tl, List.range_succ]
/-- How many of them are not behind g. -/
def cnt (F E g : Int) : Nat := if g < F then 0 else ((g - F) / E).toNat + 1
theorem cnt_le {F E g : Int} {k : Nat} (hE : 1 ≤ E) : F + (k : Int) * E ≤ g ↔ k < cnt F E g := by
  unfold cnt
  split
  · rename_i h
    constructor
    · intro h1
      have : 0 ≤ (k : Int) * E := Int.mul_nonneg (by omega) (by omega)
      omega
    · intro h1; omega
  · rename_i h
    have hn : 0 ≤ (g - F) / E := Int.ediv_nonneg (by omega) (by omega)
    have key : (k : Int) * E ≤ g - F ↔ (k : Int) ≤ (g - F) / E := (Int.le_ediv_iff_mul_le (by omega)).symm
    constructor
    · intro h1
      have := key.1 (by omega)
      omega
    · intro h1
      have := key.2 (by omega)
      omega
/-- The times that are told. -/
def ptL (t : Tg) (f g o : Int) : List Int := if cnt (fst f t.ev o) t.ev g ≤ 1000 then tl (fst f t.ev o) t.ev (cnt (fst f t.ev o) t.ev g) else []
def isT (x : Int) : Prop := 0 ≤ x ∧ x ≤ 1000000000000
theorem fold_nonneg : ∀ (l : List UInt8) (x : Int), 0 ≤ x → 0 ≤ l.foldl (fun x z => Lab.step x z.toNat) x := by
  intro l
  induction l with
  | nil => intro x h; exact h
  | cons z l ih => intro x h; exact ih _ (Lab.bits_lo _ _ _)
theorem mix_nonneg (zs : List UInt8) : 0 ≤ Lab.mix zs := by
  unfold Lab.mix Lab.upto
  have := fold_nonneg (zs.take zs.length) 1469598103 (by decide)
  omega
/-- The offset of a good target. -/
theorem off_good {t : Tg} {o : Int} (h : OffZ t o) (hg : GoodT t) : 0 ≤ o ∧ o < t.ev := by
  have he : 1 ≤ t.ev := hg.2.1
  rcases h with ⟨_, rfl⟩ | ⟨h1, _⟩
  · rw [Int.tmod_eq_emod_of_nonneg (mix_nonneg _)]
    exact ⟨Int.emod_nonneg _ (by omega), Int.emod_lt_of_pos _ (by omega)⟩
  · exact absurd hg h1
end Go.Proofs.YtooackaijhpohaaGreatDoor.Tgt
/- Times of pulls: the program's PullTimes. -/
namespace Go.Proofs.YtooackaijhpohaaGreatDoor.Tgt
open Go.RowKit Go.Proofs.YtooackaijhpohaaGreatDoor.Fil Go.Proofs.YtooackaijhpohaaGreatDoor.Rul

instance (x : Int) : Decidable (isT x) := by unfold isT; infer_instance
theorem f33 (x : Int) (w : World) : Calls Tryz.prog 33 #[.int .i64 x] w fun e w' => e = .returned (.bool (decide (isT x))) ∧ w' = w := by
  by_cases h1 : 0 ≤ x
  · by_cases h2 : x ≤ 1000000000000
    · go_enter Tryz.func33, Tryz.ntmps33
      go_wp2
      go_ret
      exact ⟨ret_bool (by rw [decide_eq_true (show isT x from ⟨h1, h2⟩)]), rfl⟩
    · go_enter Tryz.func33, Tryz.ntmps33
      go_wp2
      go_ret
      exact ⟨ret_bool (by rw [decide_eq_false (fun h : isT x => by have := h.2; omega)]), rfl⟩
  · go_enter Tryz.func33, Tryz.ntmps33
    go_wp2
    go_ret
    exact ⟨ret_bool (by rw [decide_eq_false (fun h : isT x => by have := h.1; omega)]), rfl⟩
/-- What is to be told, in memory of its own. -/
def PtR (t : Tg) (f g : Int) (w : World) (e : Ending) (w' : World) : Prop :=
  ∃ (l : List Int) (a : Option Addr) (c : Nat), e = .returned (.slice a l.length c) ∧ w'.ownsRow w.heap.size 3 1 (.slice a l.length c) l.length (l.map fun x => .int .i64 x) ∧ Below w.heap.size w w' ∧ ((GoodT t ∧ isT f ∧ isT g ∧ ∃ o, OffZ t o ∧ l = ptL t f g o) ∨ (¬ (GoodT t ∧ isT f ∧ isT g) ∧ l = []))
/-- A target's box, cell by cell. -/
abbrev O5 (w : World) (t : Tg) (x : World) : Prop := x.cell? ⟨w.heap.size, 0, none⟩ = some (.slice t.la t.ls.length t.lc) ∧ x.cell? ⟨w.heap.size, 1, none⟩ = some (.int .i64 t.ev) ∧ x.cell? ⟨w.heap.size, 2, none⟩ = some (.int .i64 t.lm) ∧ x.cell? ⟨w.heap.size, 3, none⟩ = some (.bool t.ho) ∧ x.cell? ⟨w.heap.size, 4, none⟩ = some (.slice t.ra t.qs.length t.rc) ∧ To w t x
theorem To.o5 {w : World} {t : Tg} {x : World} (h : To w t x) : O5 w t x := by
  obtain ⟨b0, b1, b2, b3, b4⟩ := cells5 h.box
  exact ⟨b0, b1, b2, b3, b4, h⟩
theorem O5.to {w : World} {t : Tg} {x : World} (h : O5 w t x) : To w t x := h.2.2.2.2.2
theorem O5.below {w : World} {t : Tg} {x y : World} (h : O5 w t x) (hb : Below x.heap.size x y) : O5 w t y := (h.to.below hb).o5
theorem pt_none {t : Tg} {f g : Int} {w w' : World} (hb : Below w.heap.size w w') (h : ¬ (GoodT t ∧ isT f ∧ isT g)) : PtR t f g w (.returned (.slice none 0 0)) w' :=
  ⟨[], none, 0, rfl, World.ownsRow_nil _ _ _ _, hb, .inr ⟨h, rfl⟩⟩
theorem info3 : (Tryz.prog.info? 3).map (fun i => (i.zero, i.size, i.bytes)) = some (some (.int .i64 0), 1, 8) := by kernel_rfl
theorem pt_empty {t : Tg} {f g o : Int} {w w' : World} (hb : Below w.heap.size w w') (h1 : GoodT t) (h2 : isT f) (h3 : isT g) (h4 : OffZ t o) (h : ptL t f g o = []) : PtR t f g w (.returned (.slice none 0 0)) w' :=
  ⟨[], none, 0, rfl, World.ownsRow_nil _ _ _ _, hb, .inl ⟨h1, h2, h3, o, h4, h.symm⟩⟩
theorem one_row (w : World) (x : Value) (t : TypeId) : ∀ j u, [x][j]? = some u → (w.alloc (.cells #[x] t)).cell? ((⟨w.heap.size, 0, none⟩ : Addr).add j) = some u := Pat.one_row w x t
/-- The target's box, and the times by now. -/
structure Tm (w : World) (t : Tg) (F E : Int) (k : Nat) (a : Option Addr) (c : Nat) (x : World) : Prop where
  box : To w t x
  row : x.ownsRow (w.heap.size + 1) 3 1 (.slice a k c) k ((tl F E k).map fun y => .int .i64 y)
theorem Tm.below {w : World} {t : Tg} {F E : Int} {k : Nat} {a : Option Addr} {c : Nat} {x y : World} (h : Tm w t F E k a c x) (hb : Below x.heap.size x y) : Tm w t F E k a c y := ⟨h.box.below hb, own_below h.row hb⟩
theorem Tm.app {w : World} {t : Tg} {F E : Int} {k : Nat} {a a' : Option Addr} {c c' : Nat} {x y : World} (h : Tm w t F E k a c x) (hg : x.grownBy y (Value.slice a k c).ownBlock) (ho : y.ownsRow (w.heap.size + 1) 3 1 (.slice a' (k + 1) c') (k + 1) (((tl F E k).map fun y => .int .i64 y) ++ [.int .i64 (F + (k : Int) * E)])) (hw : Has w t) : Tm w t F E (k + 1) a' c' y := by
  have hk : ∀ j, j ≤ w.heap.size → y.heap[j]? = x.heap[j]? := fun j hj => hg.block j (Nat.lt_of_le_of_lt hj (lt_at h.box.box)) (fun e => by have := (h.row.lt j e.symm).1; omega)
  have hbl : Below w.heap.size w y := ⟨hg.os.trans h.box.bel.os, hg.tape.trans h.box.bel.tape, hg.output.trans h.box.bel.output, Nat.le_trans h.box.bel.size hg.size, fun j hj => (hk j (by omega)).trans (h.box.bel.block j hj)⟩
  refine ⟨⟨(hk _ (Nat.le_refl _)).trans h.box.box, hw.below hbl, hbl⟩, ?_⟩
  rw [tl_succ, List.map_append]
  exact ho
theorem own_base {w : World} {base base' e size n : Nat} {v : Value} {xs : List Value} (h : w.ownsRow base e size v n xs) (hb : base' ≤ base) : w.ownsRow base' e size v n xs := by
  refine ⟨h.1, ?_⟩
  rcases h.2 with h2 | ⟨g, cap, cur, h1, h2, h3⟩
  · exact .inl h2
  · exact .inr ⟨g, cap, cur, h1, by omega, h3⟩
theorem wrap_in {x : Int} (h1 : -9223372036854775808 ≤ x) (h2 : x ≤ 9223372036854775807) : IntKind.i64.wrap x = x := by rw [IntKind.wrap_i64]; omega
set_option maxHeartbeats 4000000 in
theorem f14 (t : Tg) (f g : Int) (w : World) (hr : Has w t) (hf : FitG t) (hz : Sml t) (ht : Rel.Tab w) :
    Calls Tryz.prog 14 #[agT t, .int .i64 f, .int .i64 g] w (PtR t f g w) := by
  obtain ⟨ls, la, lc, ev, lm, ho, qs, ra, rc⟩ := t
  have H0 := hid (To.new hr)
  have HF := hid hf
  have HZ := hid hz
  have HT := hid (ht.below ((Below.refl w.heap.size w).alloc (Nat.le_refl _) (.cells (clT ⟨ls, la, lc, ev, lm, ho, qs, ra, rc⟩) 31)))
  have HTw := hid ht
  have HR := hid hr
  clear hr hf hz ht
  go_enter Tryz.func14, Tryz.ntmps14
  go_wp2_with fail
  refine (f9 ⟨ls, la, lc, ev, lm, ho, qs, ra, rc⟩ _ H0.out.has HF.out HZ.out HT.out).mono ?_
  rintro e w1 ⟨b, rfl, hb, hb1⟩
  have H1 := hid (H0.out.below hb1)
  have HP := hid hb
  clear hb1 H0 hb HT
  cases b
  · have HNG : Hid (¬ (GoodT ⟨ls, la, lc, ev, lm, ho, qs, ra, rc⟩ ∧ isT f ∧ isT g)) := fun h => by have := HP.out.2 h.1; cases this
    go_wp2
    go_ret
    exact pt_none H1.out.bel HNG.out
  have HG := hid (HP.out.1 (by first | rfl | trivial))
  go_wp2_with fail
  refine (f33 f _).mono ?_
  rintro e w2 ⟨rfl, rfl⟩
  by_cases hf : isT f
  rotate_left
  · have HNG : Hid (¬ (GoodT ⟨ls, la, lc, ev, lm, ho, qs, ra, rc⟩ ∧ isT f ∧ isT g)) := fun h => hf h.2.1
    rw [decide_eq_false hf]
    go_wp2
    go_ret
    exact pt_none H1.out.bel HNG.out
  rw [decide_eq_true hf]
  go_wp2_with fail
  refine (f33 g _).mono ?_
  rintro e w2' ⟨rfl, rfl⟩
  by_cases hg : isT g
  rotate_left
  · have HNG : Hid (¬ (GoodT ⟨ls, la, lc, ev, lm, ho, qs, ra, rc⟩ ∧ isT f ∧ isT g)) := fun h => hg h.2.2
    rw [decide_eq_false hg]
    go_wp2
    go_ret
    exact pt_none H1.out.bel HNG.out
  rw [decide_eq_true hg]
  have HFT := hid hf
  have HGT := hid hg
  obtain ⟨hf0, hf1⟩ := hf
  obtain ⟨hg0, hg1⟩ := hg
  have hev : 1 ≤ ev := HG.out.2.1
  have hev2 : ev ≤ 3600 := HG.out.2.2.1
  have hne : (ev == 0) = false := by rw [beq_eq_false_iff_ne]; omega
  have hn0 : ¬ ev = 0 := by omega
  have hm0 : 0 ≤ f.tmod ev := by rw [Int.tmod_eq_emod_of_nonneg hf0]; exact Int.emod_nonneg _ hn0
  have hm1 : f.tmod ev < ev := by rw [Int.tmod_eq_emod_of_nonneg hf0]; exact Int.emod_lt_of_pos _ (by omega)
  have HME : Hid (f.tmod ev = f % ev) := Int.tmod_eq_emod_of_nonneg hf0
  have hm2 : f.tmod ev ≤ f := by
    rw [Int.tmod_eq_emod_of_nonneg hf0]
    have h1 := Int.mul_ediv_add_emod f ev
    have h2 : 0 ≤ ev * (f / ev) := Int.mul_nonneg (by omega) (Int.ediv_nonneg hf0 (by omega))
    omega
  have hw1 : IntKind.i64.wrap (f.tmod ev) = f.tmod ev := wrap_in (by omega) (by omega)
  have hw2 : IntKind.i64.wrap (f - f.tmod ev) = f - f.tmod ev := wrap_in (by omega) (by omega)
  go_wp2_with fail
  go_region_held3 (fun x => O5 w ⟨ls, la, lc, ev, lm, ho, qs, ra, rc⟩ x) (first | exact (H1.out.below (below_drew _)).o5 | assumption) (first | (go_at_call 12; refine (f12 ⟨ls, la, lc, ev, lm, ho, qs, ra, rc⟩ _ (To.has (O5.to (by assumption))) HF.out HZ.out (HTw.out.below (To.bel (O5.to (by assumption))))).mono ?_; rintro e w3 ⟨o, rfl, ho3, hb3⟩; have hs3 := O5.below (by assumption) hb3; obtain ⟨ho0, ho1⟩ := off_good ho3 HG.out; have HO3 := hid ho3; simp only at ho1; have hw3 : IntKind.i64.wrap (f - f.tmod ev + o) = f - f.tmod ev + o := wrap_in (by omega) (by omega); clear hb3 ho3))
  have H4 := hid hs3.to
  have HO := HO3
  obtain ⟨F, hFF⟩ : ∃ F, F = fst f ev o := ⟨_, rfl⟩
  have HFF := hid hFF
  have hFg : f ≤ F := by rw [hFF]; exact fst_ge hev ho0
  have hFl : F < f + ev := by rw [hFF]; exact fst_lt hev ho1
  have HF0 : Hid (F = if f - f.tmod ev + o < f then f - f.tmod ev + o + ev else f - f.tmod ev + o) := by rw [hFF, HME.out]; rfl
  have hP0 : 0 ≤ f - f.tmod ev + o := by omega
  have hP1 : f - f.tmod ev + o ≤ 1000000003600 := by omega
  clear hFF hs3 HO3 H1 hw1 hw2 hw3
  generalize f - f.tmod ev + o = P0 at *
  generalize f - f.tmod ev = P1 at *
  generalize f.tmod ev = P2 at *
  clear hm0 hm1 hm2 HME
  go_upto_if 34 with fail
  go_cut [7] from 32 to 38 (fun s7 wx => s7 = .int .i64 F ∧ Hid (To w ⟨ls, la, lc, ev, lm, ho, qs, ra, rc⟩ wx))
  case first =>
    by_cases hlt : P0 < f
    · have HE : Hid (F = P0 + ev) := by unfold Hid; rw [HF0.out, if_pos hlt]
      obtain ⟨b0, b1, b2, b3, b4⟩ := cells5 H4.out.box
      go_wp2
      go_meet
      exact ⟨by rw [HE.out], H4⟩
    · have HE : Hid (F = P0) := by unfold Hid; rw [HF0.out, if_neg hlt]
      go_wp2
      go_meet
      exact ⟨by rw [HE.out], H4⟩
  case rest =>
  clear H4 HF0
  obtain ⟨rfl, H5⟩ := hcut
  obtain ⟨b0, b1, b2, b3, b4⟩ := cells5 H5.out.box
  by_cases hgF : g < F
  · have HL : Hid (ptL ⟨ls, la, lc, ev, lm, ho, qs, ra, rc⟩ f g o = []) := by
      unfold Hid ptL
      simp only
      rw [← HFF.out, show cnt F ev g = 0 from by unfold cnt; rw [if_pos hgF]]
      rfl
    go_wp2
    go_ret
    exact pt_empty H5.out.bel HG.out HFT.out HGT.out HO.out HL.out
  have hgF' : ¬ F > g := by omega
  obtain ⟨q, hq⟩ : ∃ q : Nat, (q : Int) = (g - F) / ev := ⟨((g - F) / ev).toNat, Int.toNat_of_nonneg (Int.ediv_nonneg (by omega) (by omega))⟩
  have HQ : Hid ((g - F).tdiv ev = (q : Int)) := by unfold Hid; rw [hq]; exact Int.tdiv_eq_ediv_of_nonneg (by omega)
  have HC : Hid (cnt F ev g = q + 1) := by unfold Hid cnt; rw [if_neg hgF, ← hq]; simp
  have hqb : (q : Int) ≤ g - F := by
    have h1 := Int.mul_ediv_add_emod (g - F) ev
    have h2 := Int.emod_nonneg (g - F) hn0
    rw [← hq] at h1
    have h3 : (q : Int) ≤ ev * q := by
      have : 1 * (q : Int) ≤ ev * q := Int.mul_le_mul_of_nonneg_right hev (by omega)
      omega
    omega
  clear hq
  have hwd : IntKind.i64.wrap (g - F) = g - F := wrap_in (by omega) (by omega)
  have hq2 := HQ.out
  have hwq : IntKind.i64.wrap (q : Int) = (q : Int) := wrap_in (by omega) (by omega)
  by_cases h1000 : 1000 ≤ (q : Int)
  · have HL : Hid (ptL ⟨ls, la, lc, ev, lm, ho, qs, ra, rc⟩ f g o = []) := by
      unfold Hid ptL
      simp only
      rw [← HFF.out, HC.out, if_neg (by omega)]
    go_wp2
    go_ret
    exact pt_empty H5.out.bel HG.out HFT.out HGT.out HO.out HL.out
  have h1000' : ¬ (q : Int) ≥ 1000 := h1000
  have HT0 : Hid (Tm w ⟨ls, la, lc, ev, lm, ho, qs, ra, rc⟩ F ev 0 none 0 wc) := ⟨H5.out, World.ownsRow_nil _ _ _ _⟩
  have HCL := hid (fun k : Nat => cnt_le (F := F) (g := g) (k := k) hev)
  obtain ⟨i0, hi, hz0, hz1, hz2⟩ := info_parts info3
  go_wp2
  go_loopw [8, 9] (fun s8 s9 wr => ∃ (k : Nat) (y : Int) (a : Option Addr) (c : Nat), k ≤ q + 1 ∧ s8 = .slice a k c ∧ s9 = .int .i64 y ∧ Hid (y = F + (k : Int) * ev) ∧ 0 ≤ y ∧ y ≤ 1000000007200 ∧ Hid (Tm w ⟨ls, la, lc, ev, lm, ho, qs, ra, rc⟩ F ev k a c wr)) (fun _ s9 _ => (1000000007200 - intOf s9).toNat)
  case atStart => exact ⟨0, F, none, 0, by omega, rfl, rfl, by unfold Hid; simp, by omega, by omega, HT0⟩
  case round =>
    obtain ⟨k, y, a, c, hk, rfl, rfl, HY, hy0, hy1, HTm⟩ := hrel
    by_cases hyg : y ≤ g
    · have hkq : k < q + 1 := by
        have := (HCL.out k).1 (by rw [← HY.out]; exact hyg)
        rw [HC.out] at this; exact this
      obtain ⟨c0, c1, c2, c3, c4⟩ := cells5 HTm.out.box.box
      have HTa := hid (HTm.out.below ((Below.refl _ wr).alloc (Nat.le_refl _) (.cells #[.int .i64 y] 3)))
      go_wp2_with (at_builtin; refine wpList_append_own _ rfl (.tmp 59) (.tmp 61) 36 rfl (w.heap.size + 1) 3 i0 (.int .i64 0) 1 8 Tryz.underlying36 hi hz0 hz1 hz2 rfl (by decide) _ _ _ rfl HTa.out.row ⟨wr.heap.size, 0, none⟩ 1 1 [.int .i64 y] rfl rfl ?d1 ?d2 ?d3 ?d4 ?d5 ?_)
      case d2 => rfl
      case d3 => unfold maxLen; omega
      case d4 => omega
      case d5 => have h5 := lt_at HTm.out.box.box; first | omega | (simp; omega)
      intro v1 w6 hown1 hgr1 _
      obtain ⟨a2, c2', rfl⟩ := Pat.own_form hown1
      have HT6 : Hid (Tm w ⟨ls, la, lc, ev, lm, ho, qs, ra, rc⟩ F ev (k + 1) a2 c2' w6) := by
        refine HTa.out.app hgr1 ?_ HR.out
        rw [← HY.out]
        exact hown1
      clear hown1 hgr1 HTa c0 c1 c2 c3 c4
      obtain ⟨c0, c1, c2, c3, c4⟩ := cells5 HT6.out.box.box
      go_wp2
      go_roundw
      case rel => exact ⟨k + 1, _, a2, c2', by omega, by go_num, rfl, by unfold Hid; rw [HY.out]; push_cast; rw [Int.add_mul]; omega, by omega, by omega, HT6⟩
      case measure => simp [intOf]; omega
    · have HKQ : Hid (k = q + 1) := by
        have h1 : ¬ k < cnt F ev g := fun h => hyg (by rw [HY.out]; exact (HCL.out k).2 h)
        rw [HC.out] at h1
        unfold Hid; omega
      have HL : Hid (ptL ⟨ls, la, lc, ev, lm, ho, qs, ra, rc⟩ f g o = tl F ev k) := by
        unfold Hid ptL
        simp only
        rw [← HFF.out, HC.out, if_pos (by omega), HKQ.out]
      go_wp2
      go_ret
      refine ⟨tl F ev k, a, c, by rw [tl_len]; rfl, by rw [tl_len]; exact own_base HTm.out.row (by omega), HTm.out.box.bel, .inl ⟨HG.out, HFT.out, HGT.out, o, HO.out, HL.out.symm⟩⟩
end Go.Proofs.YtooackaijhpohaaGreatDoor.Tgt
/- Times of pulls: the model's PullTimes. -/
namespace Go.Proofs.YtooackaijhpohaaGreatDoor.Tgt
open Go.RowKit Go.Proofs.YtooackaijhpohaaGreatDoor.Fil Go.Proofs.YtooackaijhpohaaGreatDoor.Rul

theorem f32 (x : Int) (w : World) : Calls Tryz.prog 32 #[.int .i64 x] w fun e w' => e = .returned (.bool (decide (isT x))) ∧ w' = w := by
  by_cases h1 : 0 ≤ x
  · by_cases h2 : x ≤ 1000000000000
    · go_enter Tryz.func32, Tryz.ntmps32
      go_wp2
      go_ret
      exact ⟨ret_bool (by rw [decide_eq_true (show isT x from ⟨h1, h2⟩)]), rfl⟩
    · go_enter Tryz.func32, Tryz.ntmps32
      go_wp2
      go_ret
      exact ⟨ret_bool (by rw [decide_eq_false (fun h : isT x => by have := h.2; omega)]), rfl⟩
  · go_enter Tryz.func32, Tryz.ntmps32
    go_wp2
    go_ret
    exact ⟨ret_bool (by rw [decide_eq_false (fun h : isT x => by have := h.1; omega)]), rfl⟩
set_option maxRecDepth 100000 in
set_option maxHeartbeats 4000000 in
theorem f13 (t : Tg) (f g : Int) (w : World) (hr : Has w t) (hf : FitG t) (hz : Sml t) :
    Calls Tryz.prog 13 #[agT t, .int .i64 f, .int .i64 g] w (PtR t f g w) := by
  obtain ⟨ls, la, lc, ev, lm, ho, qs, ra, rc⟩ := t
  have H0 := hid (To.new hr)
  have HF := hid hf
  have HZ := hid hz
  have HR := hid hr
  clear hr hf hz
  go_enter Tryz.func13, Tryz.ntmps13
  go_wp2_with fail
  refine (f7 ⟨ls, la, lc, ev, lm, ho, qs, ra, rc⟩ _ H0.out.has HF.out HZ.out).mono ?_
  rintro e w1 ⟨b, rfl, hb, hb1⟩
  have H1 := hid (H0.out.below hb1)
  have HP := hid hb
  clear hb1 H0 hb
  cases b
  · have HNG : Hid (¬ (GoodT ⟨ls, la, lc, ev, lm, ho, qs, ra, rc⟩ ∧ isT f ∧ isT g)) := fun h => by have := HP.out.2 h.1; cases this
    go_wp2
    go_ret
    exact pt_none H1.out.bel HNG.out
  have HG := hid (HP.out.1 (by first | rfl | trivial))
  go_wp2_with fail
  refine (f32 f _).mono ?_
  rintro e w2 ⟨rfl, rfl⟩
  by_cases hf : isT f
  rotate_left
  · have HNG : Hid (¬ (GoodT ⟨ls, la, lc, ev, lm, ho, qs, ra, rc⟩ ∧ isT f ∧ isT g)) := fun h => hf h.2.1
    rw [decide_eq_false hf]
    go_wp2
    go_ret
    exact pt_none H1.out.bel HNG.out
  rw [decide_eq_true hf]
  go_wp2_with fail
  refine (f32 g _).mono ?_
  rintro e w2' ⟨rfl, rfl⟩
  by_cases hg : isT g
  rotate_left
  · have HNG : Hid (¬ (GoodT ⟨ls, la, lc, ev, lm, ho, qs, ra, rc⟩ ∧ isT f ∧ isT g)) := fun h => hg h.2.2
    rw [decide_eq_false hg]
    go_wp2
    go_ret
    exact pt_none H1.out.bel HNG.out
  rw [decide_eq_true hg]
  have HFT := hid hf
  have HGT := hid hg
  obtain ⟨hf0, hf1⟩ := hf
  obtain ⟨hg0, hg1⟩ := hg
  have hev : 1 ≤ ev := HG.out.2.1
  have hev2 : ev ≤ 3600 := HG.out.2.2.1
  have hne : (ev == 0) = false := by rw [beq_eq_false_iff_ne]; omega
  have hn0 : ¬ ev = 0 := by omega
  obtain ⟨o, hOZ⟩ : ∃ o, OffZ ⟨ls, la, lc, ev, lm, ho, qs, ra, rc⟩ o := ⟨_, .inl ⟨HG.out, rfl⟩⟩
  have HO := hid hOZ
  obtain ⟨ho0, ho1⟩ := off_good hOZ HG.out
  simp only at ho1
  obtain ⟨F, hFF⟩ : ∃ F, F = fst f ev o := ⟨_, rfl⟩
  have HFF := hid hFF
  have hFg : f ≤ F := by rw [hFF]; exact fst_ge hev ho0
  have hFl : F < f + ev := by rw [hFF]; exact fst_lt hev ho1
  have HFM : Hid (F.tmod ev = o) := by unfold Hid; rw [Int.tmod_eq_emod_of_nonneg (by omega), hFF]; exact fst_mod hev ho0 ho1
  have HFN : Hid (∀ y, f ≤ y → y < F → ¬ y.tmod ev = o) := fun y h1 h2 => by rw [Int.tmod_eq_emod_of_nonneg (by omega)]; rw [hFF] at h2; exact fst_first hev ho0 ho1 h1 h2
  clear hFF hOZ
  obtain ⟨i0, hi, hz0, hz1, hz2⟩ := info_parts info3
  have HCL := hid (fun k : Nat => cnt_le (F := F) (g := g) (k := k) hev)
  go_wp2
  go_loopw [7] (fun s7 wr => ∃ y : Int, s7 = .int .i64 y ∧ f ≤ y ∧ y ≤ F ∧ Hid (To w ⟨ls, la, lc, ev, lm, ho, qs, ra, rc⟩ wr)) (fun s7 _ => (F - intOf s7).toNat)
  case atStart => exact ⟨f, rfl, by omega, by omega, H1⟩
  case round =>
    obtain ⟨y, rfl, hy0, hy1, HTo⟩ := hrel
    have hyw : IntKind.i64.wrap (y.tmod ev) = y.tmod ev := by
      have h1 : (y.tmod ev).natAbs < ev.natAbs := by rw [Int.natAbs_tmod]; exact Nat.mod_lt _ (by omega)
      exact wrap_in (by omega) (by omega)
    by_cases hyF : y < F
    · have HNE := hid (HFN.out y hy0 hyF)
      go_wp2_with fail
      go_region_held3 (fun x => O5 w ⟨ls, la, lc, ev, lm, ho, qs, ra, rc⟩ x) (first | exact (HTo.out.below (below_drew _)).o5 | assumption) (first | (go_at_call 11; refine (f11 ⟨ls, la, lc, ev, lm, ho, qs, ra, rc⟩ _ (To.has (O5.to (by assumption))) HF.out HZ.out).mono ?_; rintro e w3 ⟨o3, rfl, ho3, hb3⟩; have hs3 := O5.below (by assumption) hb3; have ho4 : o3 = o := HO.out.uniq ho3 Iff.rfl rfl rfl; have hne3 : ¬ y.tmod ev = o3 := fun h => HNE.out (h.trans ho4); clear hb3 ho3 ho4))
      have H4 := hid hs3.to
      clear hs3
      go_wp2
      go_roundw
      case rel => exact ⟨y + 1, rfl, by omega, by omega, H4⟩
      case measure => simp [intOf]; omega
    · obtain rfl : y = F := by omega
      have HEQ := HFM
      go_wp2_with fail
      go_region_held3 (fun x => O5 w ⟨ls, la, lc, ev, lm, ho, qs, ra, rc⟩ x) (first | exact (HTo.out.below (below_drew _)).o5 | assumption) (first | (go_at_call 11; refine (f11 ⟨ls, la, lc, ev, lm, ho, qs, ra, rc⟩ _ (To.has (O5.to (by assumption))) HF.out HZ.out).mono ?_; rintro e w3 ⟨o3, rfl, ho3, hb3⟩; have hs3 := O5.below (by assumption) hb3; have ho4 : o3 = o := HO.out.uniq ho3 Iff.rfl rfl rfl; have hne3 : y.tmod ev = o3 := HEQ.out.trans ho4.symm; clear hb3 ho3 ho4))
      have H4 := hid hs3.to
      clear hs3 hyw hy0 hy1 hyF HTo H1
      have HT0 : Hid (Tm w ⟨ls, la, lc, ev, lm, ho, qs, ra, rc⟩ y ev 0 none 0 w3) := ⟨H4.out, World.ownsRow_nil _ _ _ _⟩
      go_wp2
      go_loopw [7, 8] (fun s7 s8 wr => ∃ (k : Nat) (z : Int) (a : Option Addr) (c : Nat), k ≤ 1000 ∧ s8 = .slice a k c ∧ s7 = .int .i64 z ∧ Hid (z = y + (k : Int) * ev) ∧ Hid (k ≤ cnt y ev g) ∧ 0 ≤ z ∧ z ≤ 1000000007200 ∧ Hid (Tm w ⟨ls, la, lc, ev, lm, ho, qs, ra, rc⟩ y ev k a c wr)) (fun s7 _ _ => (1000000007200 - intOf s7).toNat)
      case atStart => exact ⟨0, y, none, 0, by omega, rfl, rfl, by unfold Hid; simp, by unfold Hid; omega, by omega, by omega, HT0⟩
      case round =>
        obtain ⟨k, z, a, c, hk, rfl, rfl, HY, HKC, hz0', hz1', HTm⟩ := hrel
        by_cases hyg : z ≤ g
        · have HKC2 : Hid (k + 1 ≤ cnt y ev g) := (HCL.out k).1 (by rw [← HY.out]; exact hyg)
          obtain ⟨c0, c1, c2, c3, c4⟩ := cells5 HTm.out.box.box
          have HTa := hid (HTm.out.below ((Below.refl _ wr).alloc (Nat.le_refl _) (.cells #[.int .i64 z] 3)))
          go_wp2_with (at_builtin; refine wpList_append_own _ rfl (.tmp 39) (.tmp 41) 36 rfl (w.heap.size + 1) 3 i0 (.int .i64 0) 1 8 Tryz.underlying36 hi hz0 hz1 hz2 rfl (by decide) _ _ _ rfl HTa.out.row ⟨wr.heap.size, 0, none⟩ 1 1 [.int .i64 z] rfl rfl ?d1 ?d2 ?d3 ?d4 ?d5 ?_)
          case d2 => rfl
          case d3 => unfold maxLen; omega
          case d4 => omega
          case d5 => have h5 := lt_at HTm.out.box.box; first | omega | (simp; omega)
          intro v1 w6 hown1 hgr1 _
          obtain ⟨a2, c2', rfl⟩ := Pat.own_form hown1
          have HT6 : Hid (Tm w ⟨ls, la, lc, ev, lm, ho, qs, ra, rc⟩ y ev (k + 1) a2 c2' w6) := by
            refine HTa.out.app hgr1 ?_ HR.out
            rw [← HY.out]
            exact hown1
          clear hown1 hgr1 HTa c0 c1 c2 c3 c4
          obtain ⟨c0, c1, c2, c3, c4⟩ := cells5 HT6.out.box.box
          by_cases h1000 : k = 1000
          · have HL : Hid (ptL ⟨ls, la, lc, ev, lm, ho, qs, ra, rc⟩ f g o = []) := by
              unfold Hid ptL
              simp only
              rw [← HFF.out, if_neg (by have := HKC2.out; omega)]
            subst h1000
            go_wp2
            go_ret
            exact pt_empty HT6.out.box.bel HG.out HFT.out HGT.out HO.out HL.out
          have hk2 : k + 1 ≤ 1000 := by omega
          go_wp2
          go_roundw
          case rel => exact ⟨k + 1, _, a2, c2', by omega, by go_num, rfl, by unfold Hid; rw [HY.out]; push_cast; rw [Int.add_mul]; omega, HKC2, by omega, by omega, HT6⟩
          case measure => simp [intOf]; omega
        · have HKQ : Hid (k = cnt y ev g) := by
            have h1 : ¬ k < cnt y ev g := fun h => hyg (by rw [HY.out]; exact (HCL.out k).2 h)
            have h2 := HKC.out
            unfold Hid; omega
          have HL : Hid (ptL ⟨ls, la, lc, ev, lm, ho, qs, ra, rc⟩ f g o = tl y ev k) := by
            unfold Hid ptL
            simp only
            rw [← HFF.out, ← HKQ.out, if_pos hk]
          go_wp2
          go_ret
          refine ⟨tl y ev k, a, c, by rw [tl_len]; rfl, by rw [tl_len]; exact own_base HTm.out.row (by omega), HTm.out.box.bel, .inl ⟨HG.out, HFT.out, HGT.out, o, HO.out, HL.out.symm⟩⟩
end Go.Proofs.YtooackaijhpohaaGreatDoor.Tgt
/- Lists of ints: eqIntS, markIntS, heldIntS. -/
namespace Go.Proofs.YtooackaijhpohaaGreatDoor.Ints
open Go.RowKit Go.Proofs.YtooackaijhpohaaGreatDoor.Fil

abbrev vI (l : List Int) : List Value := l.map fun x => .int .i64 x
/-- The slice that begins at 'a' holds the numbers. -/
def HasI (w : World) (a : Option Addr) (l : List Int) : Prop :=
  l = [] ∨ ∃ b off, a = some ⟨b, off, none⟩ ∧ b < w.heap.size ∧ ∀ i, i < l.length → w.cell? ⟨b, off + i, none⟩ = some (.int .i64 (l.getD i 0))
theorem HasI.below {w w' : World} {a : Option Addr} {l : List Int} (h : HasI w a l) (hb : Below w.heap.size w w') : HasI w' a l := by
  rcases h with h | ⟨b, off, h1, h2, h3⟩
  · exact .inl h
  · exact .inr ⟨b, off, h1, Nat.lt_of_lt_of_le h2 hb.size, fun i hi => (hb.cell (by exact h2)).trans (h3 i hi)⟩
theorem HasI.own {w : World} {base c : Nat} {a : Option Addr} {l : List Int} (h : w.ownsRow base 3 1 (.slice a l.length c) l.length (vI l)) : HasI w a l := by
  rcases h.2 with ⟨h1, h2⟩ | ⟨g, cap, cur, h1, _⟩
  · exact .inl (List.eq_nil_of_length_eq_zero h2)
  · simp only [Value.slice.injEq] at h1
    obtain ⟨rfl, -, rfl⟩ := h1
    refine .inr ⟨g, 0, rfl, (h.lt g rfl).2, fun i hi => ?_⟩
    rw [Nat.zero_add, h.cellAt i (by omega)]
    simp [hi]
set_option maxHeartbeats 1000000 in
theorem f15 (a a' : Option Addr) (c c' : Nat) (l : List Int) (w : World) (hb : l.length ≤ 1048576) (hr : HasI w a l) (hr' : HasI w a' l) :
    Calls Tryz.prog 15 #[.slice a l.length c, .slice a' l.length c'] w fun e w' => e = .returned (.bool true) ∧ Below w.heap.size w w' := by
  generalize hN : l.length = n at *
  have HN := hid hN
  clear hN
  go_enter Tryz.func15, Tryz.ntmps15
  go_wp2
  go_loopw [5] (fun i wr => ∃ k : Nat, k ≤ n ∧ i = .int .i64 k ∧ Below w.heap.size w wr) (fun i _ => n - (intOf i).toNat)
  case atStart => exact ⟨0, Nat.zero_le _, rfl, Below.refl _ _⟩
  case round =>
    obtain ⟨k, hk, rfl, hnx⟩ := hrel
    have HX := hid hnx
    by_cases hlt : k < n
    · rcases hr with hr | ⟨b, off, rfl, hbl, hc⟩
      · exact absurd HN.out (by rw [hr]; simp; omega)
      rcases hr' with hr | ⟨b', off', rfl, hbl', hc'⟩
      · exact absurd HN.out (by rw [hr]; simp; omega)
      have d0 := (hnx.cell (p := ⟨b, off + k, none⟩) hbl).trans (hc k (by rw [HN.out]; exact hlt))
      have d0' := (hnx.cell (p := ⟨b', off' + k, none⟩) hbl').trans (hc' k (by rw [HN.out]; exact hlt))
      have i1 : (k : Int) < (n : Int) := by omega
      clear hc hc' hnx
      generalize l.getD k 0 = x at *
      go_wp2
      go_quiet (fail)
      go_wp2
      go_roundw
      case rel => exact ⟨k + 1, by omega, by go_num, below_drewN HX.out _⟩
      case measure => simp [intOf]; omega
    · go_wp2
      go_ret
      exact ⟨rfl, HX.out⟩
/-- Numbers from k on. -/
def mk (k n : Nat) : List Int := (List.range n).map fun i : Nat => ((k + i : Nat) : Int)
theorem mk_len (k n : Nat) : (mk k n).length = n := by simp [mk]
theorem mk_get (k n i : Nat) (h : i < n) : (mk k n).getD i 0 = ((k + i : Nat) : Int) := by simp [mk, h]
def mkU (k : Nat) (l : List Int) (i : Nat) : List Int := mk k i ++ l.drop i
theorem mkU_set (k n i : Nat) (l : List Int) (h : l.length = n) (hi : i < n) : (mkU k l i).set i ((k + i : Nat) : Int) = mkU k l (i + 1) := by
  unfold mkU
  rw [List.set_append_right _ _ (by rw [mk_len]; exact Nat.le_refl _), mk_len, Nat.sub_self, List.drop_eq_getElem_cons (by omega), List.set_cons_zero]
  have : mk k (i + 1) = mk k i ++ [((k + i : Nat) : Int)] := by simp [mk, List.range_succ]
  rw [this, List.append_assoc]
  rfl
theorem mkU_len (k n i : Nat) (l : List Int) (h : l.length = n) (hi : i ≤ n) : (mkU k l i).length = n := by simp [mkU, mk_len]; omega
theorem mkU_zero (k : Nat) (l : List Int) : mkU k l 0 = l := by simp [mkU, mk]
theorem mkU_end (k n : Nat) (l : List Int) (h : l.length = n) : mkU k l n = mk k n := by simp [mkU, ← h]
theorem grown_trans {a b c : World} {r : Option Nat} (h : a.grownBy b r) (k : b.grownBy c r) : a.grownBy c r :=
  ⟨k.os.trans h.os, k.tape.trans h.tape, k.output.trans h.output, Nat.le_trans h.size k.size, fun i hi hne => (k.block i (Nat.lt_of_lt_of_le hi h.size) hne).trans (h.block i hi hne)⟩
set_option maxHeartbeats 2000000 in
theorem f17 (g n c base k : Nat) (l : List Int) (w : World) (hn : l.length = n) (hk : k + n ≤ 100000000) (hown : w.ownsRow base 3 1 (.slice (some ⟨g, 0, none⟩) n c) n (vI l)) :
    Calls Tryz.prog 17 #[.slice (some ⟨g, 0, none⟩) n c, .int .i64 k] w fun e w' => e = .returned (.int .i64 ((k + n : Nat) : Int)) ∧ w'.ownsRow base 3 1 (.slice (some ⟨g, 0, none⟩) n c) n (vI (mk k n)) ∧ w.grownBy w' (some g) := by
  have HN := hid hn
  have HO0 := hid hown
  clear hn hown
  go_enter Tryz.func17, Tryz.ntmps17
  go_wp2
  go_loopw [1, 5] (fun sk si wr => ∃ (i m : Nat), i ≤ n ∧ si = .int .i64 i ∧ sk = .int .i64 (m : Int) ∧ Hid (m = k + i) ∧ wr.ownsRow base 3 1 (.slice (some ⟨g, 0, none⟩) n c) n (vI (mkU k l i)) ∧ w.grownBy wr (some g)) (fun _ si _ => n - (intOf si).toNat)
  case atStart => exact ⟨0, k, Nat.zero_le _, rfl, rfl, rfl, by rw [mkU_zero]; exact HO0.out, ⟨rfl, rfl, rfl, Nat.le_refl _, fun _ _ _ => rfl⟩⟩
  case round =>
    obtain ⟨i, m, hi, rfl, rfl, hm, hown, hgr⟩ := hrel
    have HO := hid hown
    have HG := hid hgr
    have HM := hid (mkU_len k n i l HN.out hi)
    clear hown hgr HO0
    by_cases hlt : i < n
    · have HS := hid (mkU_set k n i l HN.out hlt)
      have hm1 : m ≤ 99999999 := by have := hm.out; omega
      have fz := HO.out.frozenAt i
      have cz : wr.cell? ⟨g, i, none⟩ = some (.int .i64 ((mkU k l i).getD i 0)) := by
        have hl' : i < (mkU k l i).length := by rw [HM.out]; exact hlt
        rw [HO.out.cellAt i (by omega), List.getElem?_map, List.getElem?_eq_getElem hl']
        simp [hl']
      have HST := hid (HO.out.stored i (.int .i64 (m : Int)))
      have HG3 := hid (grown_trans HG.out HST.out.2)
      have HO3 : Hid ((wr.setCell ⟨g, i, none⟩ (.int .i64 (m : Int))).ownsRow base 3 1 (.slice (some ⟨g, 0, none⟩) n c) n (vI (mkU k l (i + 1)))) := by
        unfold Hid vI; rw [← HS.out, ← hm.out, List.map_set]; exact HST.out.1
      generalize (mkU k l i).getD i 0 = u0 at *
      go_wp2
      go_roundw
      case rel => exact ⟨i + 1, m + 1, by omega, by go_num, by go_num, by have := hm.out; unfold Hid; omega, HO3.out, HG3.out⟩
      case measure => simp [intOf]; omega
    · obtain rfl : i = n := by omega
      go_wp2
      go_ret
      exact ⟨by rw [← hm.out]; rfl, by rw [← mkU_end k i l HN.out]; exact HO.out, HG.out⟩
theorem f17n (k : Nat) (w : World) : Calls Tryz.prog 17 #[.slice none 0 0, .int .i64 k] w fun e w' => e = .returned (.int .i64 k) ∧ w' = w := by
  go_enter Tryz.func17, Tryz.ntmps17
  go_wp2
  go_loop [1, 5] (fun sk i => sk = .int .i64 k ∧ i = .int .i64 0) (fun _ _ => 0)
  case atStart => exact ⟨rfl, rfl⟩
  case round =>
    obtain ⟨rfl, rfl⟩ := hrel
    go_wp2
    go_ret
    exact ⟨rfl, rfl⟩
theorem f18n (k : Nat) (w : World) : Calls Tryz.prog 18 #[.slice none 0 0, .int .i64 k] w fun e w' => e = .returned (.int .i64 k) ∧ w' = w := by
  go_enter Tryz.func18, Tryz.ntmps18
  go_wp2
  go_loop [1, 5] (fun sk i => sk = .int .i64 k ∧ i = .int .i64 0) (fun _ _ => 0)
  case atStart => exact ⟨rfl, rfl⟩
  case round =>
    obtain ⟨rfl, rfl⟩ := hrel
    go_wp2
    go_ret
    exact ⟨rfl, rfl⟩
set_option maxHeartbeats 2000000 in
theorem f18 (g n c k : Nat) (w : World) (hk : k + n ≤ 100000000) (hr : HasI w (some ⟨g, 0, none⟩) (mk k n)) :
    Calls Tryz.prog 18 #[.slice (some ⟨g, 0, none⟩) n c, .int .i64 k] w fun e w' => e = .returned (.int .i64 ((k + n : Nat) : Int)) ∧ Below w.heap.size w w' := by
  go_enter Tryz.func18, Tryz.ntmps18
  go_wp2
  go_loopw [1, 5] (fun sk si wr => ∃ (i m : Nat), i ≤ n ∧ si = .int .i64 i ∧ sk = .int .i64 (m : Int) ∧ Hid (m = k + i) ∧ Below w.heap.size w wr) (fun _ si _ => n - (intOf si).toNat)
  case atStart => exact ⟨0, k, Nat.zero_le _, rfl, rfl, rfl, Below.refl _ _⟩
  case round =>
    obtain ⟨i, m, hi, rfl, rfl, hm, hnx⟩ := hrel
    have HX := hid hnx
    by_cases hlt : i < n
    · rcases hr with hr | ⟨b, off, hbo, hbl, hc⟩
      · have := mk_len k n; rw [hr] at this; simp at this; omega
      simp only [Option.some.injEq, Addr.mk.injEq, and_true] at hbo
      obtain ⟨rfl, rfl⟩ := hbo
      have c0 := hc i (by rw [mk_len]; exact hlt)
      rw [mk_get k n i hlt, ← hm.out, Nat.zero_add] at c0
      have d0 := (hnx.cell (p := ⟨g, i, none⟩) hbl).trans c0
      have i1 : (i : Int) < (n : Int) := by omega
      have hm1 : m ≤ 99999999 := by have := hm.out; omega
      clear hc c0 hnx hbl
      go_wp2
      go_roundw
      case rel => exact ⟨i + 1, m + 1, by omega, by go_num, by go_num, by have := hm.out; unfold Hid; omega, HX.out⟩
      case measure => simp [intOf]; omega
    · obtain rfl : i = n := by omega
      go_wp2
      go_ret
      exact ⟨by rw [← hm.out]; rfl, HX.out⟩
end Go.Proofs.YtooackaijhpohaaGreatDoor.Ints
/- How many names the rules have together: szStringS, szRelabelS, szTarget once more. -/
namespace Go.Proofs.YtooackaijhpohaaGreatDoor.Tot
open Go.RowKit Go.Proofs.YtooackaijhpohaaGreatDoor.Fil Go.Proofs.YtooackaijhpohaaGreatDoor.Rul Go.Proofs.YtooackaijhpohaaGreatDoor.Rel

/-- The names of the first k rules. -/
def tot (qs : List Q) (k : Nat) : Nat := ((qs.take k).map fun q => q.r.from'.length).sum
theorem tot_succ (qs : List Q) (k : Nat) (h : k < qs.length) : tot qs (k + 1) = tot qs k + (qs.getD k q0).r.from'.length := by
  unfold tot
  rw [List.take_succ_eq_append_getElem h, List.map_append, List.sum_append]
  simp [h]
set_option maxHeartbeats 1000000 in
theorem f59 (a : Option Addr) (n c : Nat) (L : Int) (ss : List ByteArray) (w : World) (hL0 : 0 ≤ L) (hL1 : L ≤ 1048576) (hn : ss.length = n) (hr : HasT w a ss) (hf : FitT ss) (hmax : n ≤ maxLen) :
    Calls Tryz.prog 59 #[.slice a n c, .int .i64 L] w fun e w' => ∃ y : Int, e = .returned (.int .i64 y) ∧ (0 ≤ y → (n ≤ 1048576 ∧ ∀ i, i < n → (ss.getD i ByteArray.empty).size ≤ 1048576) ∧ y + n ≤ L) ∧ -1 ≤ y ∧ y ≤ 1048576 ∧ w' = w := by
  unfold maxLen at hmax
  by_cases hbig : (n : Int) ≤ L
  · have HN := hid hn
    clear hn
    go_enter Tryz.func59, Tryz.ntmps59
    go_wp2
    go_loop [1, 5] (fun sx i => ∃ (k : Nat) (x : Int), k ≤ n ∧ i = .int .i64 k ∧ sx = .int .i64 x ∧ 0 ≤ x ∧ x ≤ 1048576 ∧ x + n ≤ L ∧ Hid (∀ i, i < k → (ss.getD i ByteArray.empty).size ≤ 1048576)) (fun _ i => n - (intOf i).toNat)
    case atStart => exact ⟨0, _, Nat.zero_le _, rfl, rfl, by omega, by omega, by omega, fun i hi => by omega⟩
    case round =>
      obtain ⟨k, x, hk, rfl, rfl, hx0, hx1, hxl, HU⟩ := hrel
      by_cases hlt : k < n
      · rcases hr with h | ⟨b, off, rfl, h2, h3⟩
        · exfalso; rw [h] at HN; have := HN.out; simp at this; omega
        have c0 := h3 k (by rw [HN.out]; exact hlt)
        have g0 := hf k
        clear h3
        have HU2 : Hid ((ss.getD k ByteArray.empty).size ≤ 1048576 → ∀ i, i < k + 1 → (ss.getD i ByteArray.empty).size ≤ 1048576) := by
          intro h i hi
          by_cases e : i = k
          · subst e; exact h
          · exact HU.out i (by omega)
        generalize ss.getD k ByteArray.empty = s at *
        unfold maxLen at g0
        by_cases hy : x - s.size < 0
        · go_wp2
          go_ret
          exact ⟨-1, rfl, fun h => absurd h (by omega), by omega, by omega, rfl⟩
        · have HU2 := hid (HU2.out (by omega))
          go_wp2
          go_round
          case rel => exact ⟨k + 1, _, by omega, by go_num, rfl, by omega, by omega, by omega, HU2.out⟩
          case measure => simp [intOf]; omega
      · go_wp2
        go_ret
        exact ⟨x, rfl, fun _ => ⟨⟨by omega, fun i hi => HU.out i (by omega)⟩, hxl⟩, by omega, hx1, rfl⟩
  · go_enter Tryz.func59, Tryz.ntmps59
    go_wp2
    go_ret
    exact ⟨-1, rfl, fun h => absurd h (by omega), by omega, by omega, rfl⟩

set_option maxHeartbeats 2000000 in
theorem f37 (r : Rule) (a : Option Addr) (n c : Nat) (L : Int) (w : World) (hL0 : 0 ≤ L) (hL1 : L ≤ 1048576) (hn : r.from'.length = n) (hr : HasT w a r.from') (hf : FitT r.from') (hmax : n ≤ maxLen) (hz : FitR r) :
    Calls Tryz.prog 37 #[agR r a n c, .int .i64 L] w fun e w' => ∃ y : Int, e = .returned (.int .i64 y) ∧ (0 ≤ y → SmlR r ∧ y + n ≤ L) ∧ -1 ≤ y ∧ y ≤ 1048576 ∧ Below w.heap.size w w' := by
  obtain ⟨A, ss, sep, pat, tgt, val, md⟩ := r
  obtain ⟨h1, h2, h3, h4, h5, h6, h7, h8⟩ := hz
  simp only at h1 h2 h3 h4 h5 h6 h7 h8 hn hr hf
  unfold maxLen at h5 h6 h7 h8
  have HN := hid hn
  have HR := hid hr
  have HB0 := hid ((Below.refl w.heap.size w).alloc (Nat.le_refl _) (.cells #[.int .i64 A, .slice a n c, .string sep, .string pat, .string tgt, .string val, .int .i64 md] 64))
  have HW := hid (new_at w (.cells #[.int .i64 A, .slice a n c, .string sep, .string pat, .string tgt, .string val, .int .i64 md] 64))
  clear hn hr
  simp only [agR]
  go_enter Tryz.func37, Tryz.ntmps37
  go_wp2_with fail
  refine (f59 a n c L ss _ hL0 hL1 HN.out (HR.out.below HB0.out) hf hmax).mono ?_
  rintro e w1 ⟨y, rfl, hy, y0, y1, hw1⟩
  have hw2 := hw1.symm
  clear hw1
  subst hw2
  by_cases g0 : y < 0
  · go_wp2
    go_ret
    exact ⟨-1, rfl, fun h => absurd h (by omega), by omega, by omega, HB0.out⟩
  have HY := hid (hy (by omega))
  clear hy
  by_cases g1 : y - sep.size < 0
  · go_wp2
    go_ret
    exact ⟨-1, rfl, fun h => absurd h (by omega), by omega, by omega, HB0.out⟩
  by_cases g2 : y - sep.size - pat.size < 0
  · go_wp2
    go_ret
    exact ⟨-1, rfl, fun h => absurd h (by omega), by omega, by omega, HB0.out⟩
  by_cases g3 : y - sep.size - pat.size - tgt.size < 0
  · go_wp2
    go_ret
    exact ⟨-1, rfl, fun h => absurd h (by omega), by omega, by omega, HB0.out⟩
  by_cases g4 : y - sep.size - pat.size - tgt.size - val.size < 0
  · go_wp2
    go_ret
    exact ⟨-1, rfl, fun h => absurd h (by omega), by omega, by omega, HB0.out⟩
  · go_wp2
    go_ret
    refine ⟨_, rfl, fun _ => ⟨⟨?_, ?_, ?_, ?_, ?_, ?_⟩, by have := HY.out.2; omega⟩, by omega, by omega, HB0.out⟩
    · simp only; rw [HN.out]; exact HY.out.1.1
    · simp only; rw [HN.out]; exact HY.out.1.2
    all_goals (simp only; omega)

set_option maxHeartbeats 2000000 in
theorem f20 (a : Option Addr) (n c : Nat) (L : Int) (qs : List Q) (w : World) (hL0 : 0 ≤ L) (hL1 : L ≤ 1048576) (hn : qs.length = n) (hr : HasR w a qs) (hf : FitQ qs) (hmax : n ≤ maxLen) :
    Calls Tryz.prog 20 #[.slice a n c, .int .i64 L] w fun e w' => ∃ y : Int, e = .returned (.int .i64 y) ∧ (0 ≤ y → (n ≤ 1048576 ∧ SmlQ qs) ∧ y + n + tot qs n ≤ L) ∧ -1 ≤ y ∧ y ≤ 1048576 ∧ Below w.heap.size w w' := by
  unfold maxLen at hmax
  by_cases hbig : (n : Int) ≤ L
  · have HN := hid hn
    have HR := hid hr
    have HF := hid hf
    clear hn hr hf
    go_enter Tryz.func20, Tryz.ntmps20
    go_wp2
    go_loopw [1, 5] (fun sx i wr => ∃ (k : Nat) (x : Int), k ≤ n ∧ i = .int .i64 k ∧ sx = .int .i64 x ∧ 0 ≤ x ∧ x ≤ 1048576 ∧ Hid (x + n + tot qs k ≤ L) ∧ Hid (∀ i, i < k → SmlR (qs.getD i q0).r) ∧ Hid (Below w.heap.size w wr)) (fun _ i _ => n - (intOf i).toNat)
    case atStart => exact ⟨0, _, Nat.zero_le _, rfl, rfl, by omega, by omega, by unfold Hid tot; simp; try omega, fun i hi => by omega, Below.refl _ _⟩
    case round =>
      obtain ⟨k, x, hk, rfl, rfl, hx0, hx1, HXL, HU, HB⟩ := hrel
      by_cases hlt : k < n
      · obtain ⟨b, off, rfl, hbl, c0, c1, c2, c3, c4, c5, c6, hT⟩ := (HR.out).at7 k (by rw [HN.out]; exact hlt)
        obtain ⟨g0, g1, g2⟩ := HF.out k
        have d0 := (HB.out.cell (p := ⟨b, off + k * 7, none⟩) hbl).trans c0
        have d1 := (HB.out.cell (p := ⟨b, off + k * 7 + 1, none⟩) hbl).trans c1
        have d2 := (HB.out.cell (p := ⟨b, off + k * 7 + 2, none⟩) hbl).trans c2
        have d3 := (HB.out.cell (p := ⟨b, off + k * 7 + 3, none⟩) hbl).trans c3
        have d4 := (HB.out.cell (p := ⟨b, off + k * 7 + 4, none⟩) hbl).trans c4
        have d5 := (HB.out.cell (p := ⟨b, off + k * 7 + 5, none⟩) hbl).trans c5
        have d6 := (HB.out.cell (p := ⟨b, off + k * 7 + 6, none⟩) hbl).trans c6
        have HT := hid (hT.below HB.out)
        have HU2 : Hid (SmlR (qs.getD k q0).r → ∀ i, i < k + 1 → SmlR (qs.getD i q0).r) := by
          intro h i hi
          by_cases e : i = k
          · subst e; exact h
          · exact HU.out i (by omega)
        have HTS := hid (tot_succ qs k (by rw [HN.out]; exact hlt))
        have G0 := hid g0
        have G1 := hid g1
        have G2 := hid g2
        clear c0 c1 c2 c3 c4 c5 c6 hT g0 g1 g2 hbl
        generalize qs.getD k q0 = q at *
        obtain ⟨r, aq, cq⟩ := q
        go_wp2_with fail
        refine (f37 r aq r.from'.length cq x _ hx0 hx1 rfl HT.out G1.out G2.out G0.out).mono ?_
        rintro e w2 ⟨y, rfl, hy, y0, y1, hb2⟩
        have HB2 := hid (HB.out.trans (hb2.mono HB.out.size))
        clear hb2 d0 d1 d2 d3 d4 d5 d6 HB
        by_cases hy0 : y < 0
        · go_wp2
          go_ret
          exact ⟨-1, rfl, fun h => absurd h (by omega), by omega, by omega, HB2.out⟩
        · have HU3 := hid (HU2.out (hy (by omega)).1)
          have HXL2 : Hid (y + n + tot qs (k + 1) ≤ L) := by have h1 := (hy (by omega)).2; have h2 := HXL.out; have h3 := HTS.out; unfold Hid; omega
          clear hy
          go_wp2
          go_roundw
          case rel => exact ⟨k + 1, y, by omega, by go_num, rfl, by omega, y1, HXL2, HU3.out, HB2.out⟩
          case measure => simp [intOf]; omega
      · go_wp2
        go_ret
        exact ⟨x, rfl, fun _ => ⟨⟨by omega, fun i hi => HU.out i (by have := HN.out; omega)⟩, (show k = n by omega) ▸ HXL.out⟩, by omega, hx1, HB.out⟩
  · go_enter Tryz.func20, Tryz.ntmps20
    go_wp2
    go_ret
    exact ⟨-1, rfl, fun h => absurd h (by omega), by omega, by omega, Below.refl _ _⟩
end Go.Proofs.YtooackaijhpohaaGreatDoor.Tot
namespace Go.Proofs.YtooackaijhpohaaGreatDoor.Tgt
open Go.RowKit Go.Proofs.YtooackaijhpohaaGreatDoor.Fil Go.Proofs.YtooackaijhpohaaGreatDoor.Rul
open Go.Proofs.YtooackaijhpohaaGreatDoor.Tot (tot)
set_option maxHeartbeats 2000000 in
theorem f6t (t : Tg) (w : World) (hr : Has w t) (hf : FitG t) :
    Calls Tryz.prog 6 #[agT t, .int .i64 1048576] w fun e w' => ∃ y : Int, e = .returned (.int .i64 y) ∧ (0 ≤ y → Sml t ∧ t.qs.length + tot t.qs t.qs.length ≤ 1048576) ∧ Below w.heap.size w w' := by
  obtain ⟨ls, la, lc, ev, lm, ho, qs, ra, rc⟩ := t
  have HB0 := hid ((Below.refl w.heap.size w).alloc (Nat.le_refl _) (.cells #[.slice la ls.length lc, .int .i64 ev, .int .i64 lm, .bool ho, .slice ra qs.length rc] 25))
  have HW0 := hid (heap_alloc_new w (.cells #[.slice la ls.length lc, .int .i64 ev, .int .i64 lm, .bool ho, .slice ra qs.length rc] 25))
  have HR := hid hr
  have HF := hid hf
  clear hr hf
  go_enter Tryz.func6, Tryz.ntmps6
  go_wp2_with fail
  refine (Lab.f19g la ls.length lc 1048576 ls _ (by omega) (by omega) rfl (HR.out.lab.below HB0.out) HF.out.lab HF.out.ln).mono ?_
  rintro e w1 ⟨y, rfl, hy, y0, y1, hb1⟩
  have HB1 := hid (HB0.out.trans (hb1.mono HB0.out.size))
  have HW1 := hid (kept HW0.out hb1)
  clear hb1 HW0
  by_cases g0 : y < 0
  · go_wp2
    go_ret
    exact ⟨-1, rfl, fun h => absurd h (by omega), HB1.out⟩
  have HY := hid (hy (by omega))
  clear hy
  obtain ⟨b0, b1, b2, b3, b4⟩ := cells5 HW1.out
  go_wp2_with fail
  refine (Tot.f20 ra qs.length rc y qs _ (by omega) y1 rfl (HR.out.rul.below HB1.out) HF.out.rul HF.out.qn).mono ?_
  rintro e w2 ⟨z, rfl, hz, z0, z1, hb2⟩
  have HB2 := hid (HB1.out.trans (hb2.mono HB1.out.size))
  clear hb2 b0 b1 b2 b3 b4
  by_cases g1 : z < 0
  · go_wp2
    go_ret
    exact ⟨-1, rfl, fun h => absurd h (by omega), HB2.out⟩
  have HZ := hid (hz (by omega))
  clear hz
  go_wp2
  go_ret
  exact ⟨z, rfl, fun _ => ⟨⟨HY.out, HZ.out.1.1, HZ.out.1.2⟩, by have := HZ.out.2; omega⟩, HB2.out⟩

end Go.Proofs.YtooackaijhpohaaGreatDoor.Tgt
/- Rules: toRelabel, its names owned. -/
namespace Go.Proofs.YtooackaijhpohaaGreatDoor.Row
open Go.RowKit Go.Proofs.YtooackaijhpohaaGreatDoor.Fil Go.Proofs.YtooackaijhpohaaGreatDoor.Rel

theorem own_base {w : World} {base base' e size n : Nat} {v : Value} {xs : List Value} (h : w.ownsRow base e size v n xs) (hb : base' ≤ base) : w.ownsRow base' e size v n xs := by
  refine ⟨h.1, ?_⟩
  rcases h.2 with h2 | ⟨g, cap, cur, h1, h2, h3⟩
  · exact .inl h2
  · exact .inr ⟨g, cap, cur, h1, by omega, h3⟩
theorem own_set {w : World} {base e size n c g : Nat} {xs : List Value} {p : Addr} (h : w.ownsRow base e size (.slice (some ⟨g, 0, none⟩) n c) n xs) (hp : g ≠ p.block) (u : Value) : (w.setCell p u).ownsRow base e size (.slice (some ⟨g, 0, none⟩) n c) n xs := by
  refine h.kept (row := some p.block) ⟨rfl, rfl, rfl, by simp, fun j hj hne => Below.heap_setCell w p u j (fun e => hne (by rw [e]))⟩ (.inr ?_)
  intro e
  exact hp (Option.some.inj e)
theorem f66o (a : Option Addr) (n c : Nat) (ss : List ByteArray) (w : World) (hn : ss.length = n) (hb : n ≤ 1048576) (hr : HasT w a ss) :
    Calls Tryz.prog 66 #[.slice a n c] w fun e w' => ∃ g, e = .returned (.slice (some ⟨g, 0, none⟩) n n) ∧ w.heap.size ≤ g ∧ w'.ownsRow w.heap.size 9 1 (.slice (some ⟨g, 0, none⟩) n n) n (ss.map Value.string) ∧ Below w.heap.size w w' :=
  (f66 a n c ss w hn hb hr).mono fun _ _ h => ⟨w.heap.size, h.1, Nat.le_refl _, h.2.1, h.2.2⟩

/-- The box, the rule that is being made, its place in the answer. -/
structure Bx (w : World) (ss : List ByteArray) (n B1 B2 B3 g : Nat) (b o : Array Value) (x : World) : Prop where
  one : x.heap[B1]? = some (.cells b 64)
  two : ∃ z0 z1 z2 z3 z4 z5 z6, x.heap[B2]? = some (.cells #[z0, z1, z2, z3, z4, z5, z6] 65)
  three : x.heap[B3]? = some (.cells o 65)
  txt : x.ownsRow w.heap.size 9 1 (.slice (some ⟨g, 0, none⟩) n n) n (ss.map Value.string)
  bel : Below w.heap.size w x
theorem Bx.set {w : World} {ss : List ByteArray} {n B1 B2 B3 g i : Nat} {b o o' : Array Value} {v : Value} {x : World} (h : Bx w ss n B1 B2 B3 g b o x) (n1 : B1 ≠ B3) (n2 : B2 ≠ B3) (n3 : g ≠ B3) (hB : w.heap.size ≤ B3) (ho : o.setIfInBounds i v = o') : Bx w ss n B1 B2 B3 g b o' (x.setCell ⟨B3, i, none⟩ v) := by
  obtain ⟨h1, ⟨z0, z1, z2, z3, z4, z5, z6, h2⟩, h3, h4, h5⟩ := h
  refine ⟨?_, ⟨z0, z1, z2, z3, z4, z5, z6, ?_⟩, ?_, own_set h4 n3 v, h5.setCell hB v⟩
  · rw [Below.heap_setCell _ _ _ _ n1]; exact h1
  · rw [Below.heap_setCell _ _ _ _ n2]; exact h2
  · rw [set_at h3, ho]

set_option maxHeartbeats 4000000 in
theorem f42o (r : Rule) (a : Option Addr) (n c : Nat) (w : World) (hn : r.from'.length = n) (hr : HasT w a r.from') (hb : n ≤ 1048576) :
    Calls Tryz.prog 42 #[agR r a n c] w fun e w' => ∃ g, e = .returned (agR r (some ⟨g, 0, none⟩) n n) ∧ w.heap.size ≤ g ∧ w'.ownsRow w.heap.size 9 1 (.slice (some ⟨g, 0, none⟩) n n) n (r.from'.map Value.string) ∧ Below w.heap.size w w' := by
  obtain ⟨A, ss, sep, pat, tgt, val, md⟩ := r
  simp only at hn hr
  have HN := hid hn
  have HR := hid hr
  have HB0 := hid ((((Below.refl w.heap.size w).alloc (Nat.le_refl _) (.cells #[.int .i64 A, .slice a n c, .string sep, .string pat, .string tgt, .string val, .int .i64 md] 64)).alloc (by simp) (.cells #[.int .i64 0, .slice none 0 0, .string ⟨#[]⟩, .string ⟨#[]⟩, .string ⟨#[]⟩, .string ⟨#[]⟩, .int .i64 0] 65)).alloc (by simp; omega) (.cells #[.int .i64 A, .slice none 0 0, .string ⟨#[]⟩, .string ⟨#[]⟩, .string ⟨#[]⟩, .string ⟨#[]⟩, .int .i64 0] 65))
  have HT0 := hid (three_new w (.cells #[.int .i64 A, .slice a n c, .string sep, .string pat, .string tgt, .string val, .int .i64 md] 64) (.cells #[.int .i64 0, .slice none 0 0, .string ⟨#[]⟩, .string ⟨#[]⟩, .string ⟨#[]⟩, .string ⟨#[]⟩, .int .i64 0] 65) (.cells #[.int .i64 A, .slice none 0 0, .string ⟨#[]⟩, .string ⟨#[]⟩, .string ⟨#[]⟩, .string ⟨#[]⟩, .int .i64 0] 65))
  clear hn hr
  obtain ⟨B1, e1⟩ : ∃ B, B = w.heap.size := ⟨_, rfl⟩
  obtain ⟨B2, e2⟩ : ∃ B, B = w.heap.size + 1 := ⟨_, rfl⟩
  obtain ⟨B3, e3⟩ : ∃ B, B = w.heap.size + 1 + 1 := ⟨_, rfl⟩
  have E1 := hid e1
  have E2 := hid e2
  have E3 := hid e3
  clear e1 e2 e3
  simp only [agR]
  go_enter Tryz.func42, Tryz.ntmps42
  go_upto_region 3 with fail
  go_cut [1, 2, 3] from 7 to 10 (fun s1 s2 s3 wx => s1 = .pointer (some ⟨B1, 0, none⟩) ∧ s2 = .pointer (some ⟨B2, 0, none⟩) ∧ s3 = .pointer (some ⟨B3, 0, none⟩) ∧ ∃ g, Hid (Bx w ss n B1 B2 B3 g #[.int .i64 A, .slice a n c, .string sep, .string pat, .string tgt, .string val, .int .i64 md] #[.int .i64 A, .slice (some ⟨g, 0, none⟩) n n, .string ⟨#[]⟩, .string ⟨#[]⟩, .string ⟨#[]⟩, .string ⟨#[]⟩, .int .i64 0] wx ∧ w.heap.size + 1 + 1 + 1 ≤ g))
  case first =>
    go_wp2_with fail
    refine (f66o a n c ss _ HN.out hb (HR.out.below HB0.out)).mono ?_
    rintro e w4 ⟨g, rfl, hg, ho4, hb4⟩
    have HX : Hid (Bx w ss n w.heap.size (w.heap.size + 1) (w.heap.size + 1 + 1) g #[.int .i64 A, .slice a n c, .string sep, .string pat, .string tgt, .string val, .int .i64 md] #[.int .i64 A, .slice none 0 0, .string ⟨#[]⟩, .string ⟨#[]⟩, .string ⟨#[]⟩, .string ⟨#[]⟩, .int .i64 0] w4) := by
      obtain ⟨k1, k2, k3⟩ := HT0.out
      exact ⟨kept_at k1 hb4, ⟨_, _, _, _, _, _, _, kept_at k2 hb4⟩, kept_at k3 hb4, own_base ho4 (by simp only [World.size_alloc]; omega), HB0.out.trans (hb4.mono HB0.out.size)⟩
    have hg' : w.heap.size + 1 + 1 + 1 ≤ g := by simpa using hg
    obtain ⟨d0, d1, d2, d3, d4, d5, d6⟩ := cells7 HX.out.three
    have z3 := froz7 HX.out.three
    have HY := hid (HX.out.set (i := 1) (v := .slice (some ⟨g, 0, none⟩) n n) (o' := #[.int .i64 A, .slice (some ⟨g, 0, none⟩) n n, .string ⟨#[]⟩, .string ⟨#[]⟩, .string ⟨#[]⟩, .string ⟨#[]⟩, .int .i64 0]) (by omega) (by omega) (by omega) (by omega) rfl)
    clear d0 d2 d3 d4 d5 d6 ho4 hb4 hg
    go_wp2
    go_meet
    refine ⟨by rw [E1.out], by rw [E2.out], by rw [E3.out], g, ?_⟩
    rw [E1.out, E2.out, E3.out]
    exact ⟨HY.out, hg'⟩
  case rest =>
  obtain ⟨rfl, rfl, rfl, g, HX0⟩ := hcut
  have n1 : B1 ≠ B3 := by have := E1.out; have := E3.out; omega
  have n2 : B2 ≠ B3 := by have := E2.out; have := E3.out; omega
  have n3 : g ≠ B3 := by have := HX0.out.2; have := E3.out; omega
  have n4 : g ≠ B2 := by have := HX0.out.2; have := E2.out; omega
  have l3 : w.heap.size ≤ B3 := by have := E3.out; omega
  have l2 : w.heap.size ≤ B2 := by have := E2.out; omega
  have HGG : Hid (w.heap.size ≤ g) := by have := HX0.out.2; unfold Hid; omega
  have HX2 := hid HX0.out.1
  clear HB0 HT0 HX0
  go_upto_region 4 with fail
  go_cut [] from 11 to 13 (fun wx => Hid (Bx w ss n B1 B2 B3 g #[.int .i64 A, .slice a n c, .string sep, .string pat, .string tgt, .string val, .int .i64 md] #[.int .i64 A, .slice (some ⟨g, 0, none⟩) n n, .string sep, .string ⟨#[]⟩, .string ⟨#[]⟩, .string ⟨#[]⟩, .int .i64 0] wx))
  case first =>
    obtain ⟨b0, b1, b2, b3, b4, b5, b6⟩ := cells7 HX2.out.one
    obtain ⟨d0, d1, d2, d3, d4, d5, d6⟩ := cells7 HX2.out.three
    have z3 := froz7 HX2.out.three 2
    have HY := hid (HX2.out.set (i := 2) (v := .string sep) (o' := #[.int .i64 A, .slice (some ⟨g, 0, none⟩) n n, .string sep, .string ⟨#[]⟩, .string ⟨#[]⟩, .string ⟨#[]⟩, .int .i64 0]) n1 n2 n3 l3 rfl)
    clear b0 b1 b3 b4 b5 b6 d0 d1 d3 d4 d5 d6
    go_wp2
    go_meet
    exact HY
  case rest =>
  have HX3 := hid hcut.out
  clear hcut HX2
  go_upto_region 5 with fail
  go_cut [] from 14 to 16 (fun wx => Hid (Bx w ss n B1 B2 B3 g #[.int .i64 A, .slice a n c, .string sep, .string pat, .string tgt, .string val, .int .i64 md] #[.int .i64 A, .slice (some ⟨g, 0, none⟩) n n, .string sep, .string pat, .string ⟨#[]⟩, .string ⟨#[]⟩, .int .i64 0] wx))
  case first =>
    obtain ⟨b0, b1, b2, b3, b4, b5, b6⟩ := cells7 HX3.out.one
    obtain ⟨d0, d1, d2, d3, d4, d5, d6⟩ := cells7 HX3.out.three
    have z3 := froz7 HX3.out.three 3
    have HY := hid (HX3.out.set (i := 3) (v := .string pat) (o' := #[.int .i64 A, .slice (some ⟨g, 0, none⟩) n n, .string sep, .string pat, .string ⟨#[]⟩, .string ⟨#[]⟩, .int .i64 0]) n1 n2 n3 l3 rfl)
    clear b0 b1 b2 b4 b5 b6 d0 d1 d2 d4 d5 d6
    go_wp2
    go_meet
    exact HY
  case rest =>
  have HX4 := hid hcut.out
  clear hcut HX3
  go_upto_region 6 with fail
  go_cut [] from 17 to 19 (fun wx => Hid (Bx w ss n B1 B2 B3 g #[.int .i64 A, .slice a n c, .string sep, .string pat, .string tgt, .string val, .int .i64 md] #[.int .i64 A, .slice (some ⟨g, 0, none⟩) n n, .string sep, .string pat, .string tgt, .string ⟨#[]⟩, .int .i64 0] wx))
  case first =>
    obtain ⟨b0, b1, b2, b3, b4, b5, b6⟩ := cells7 HX4.out.one
    obtain ⟨d0, d1, d2, d3, d4, d5, d6⟩ := cells7 HX4.out.three
    have z3 := froz7 HX4.out.three 4
    have HY := hid (HX4.out.set (i := 4) (v := .string tgt) (o' := #[.int .i64 A, .slice (some ⟨g, 0, none⟩) n n, .string sep, .string pat, .string tgt, .string ⟨#[]⟩, .int .i64 0]) n1 n2 n3 l3 rfl)
    clear b0 b1 b2 b3 b5 b6 d0 d1 d2 d3 d5 d6
    go_wp2
    go_meet
    exact HY
  case rest =>
  have HX5 := hid hcut.out
  clear hcut HX4
  go_upto_region 7 with fail
  go_cut [] from 20 to 22 (fun wx => Hid (Bx w ss n B1 B2 B3 g #[.int .i64 A, .slice a n c, .string sep, .string pat, .string tgt, .string val, .int .i64 md] #[.int .i64 A, .slice (some ⟨g, 0, none⟩) n n, .string sep, .string pat, .string tgt, .string val, .int .i64 0] wx))
  case first =>
    obtain ⟨b0, b1, b2, b3, b4, b5, b6⟩ := cells7 HX5.out.one
    obtain ⟨d0, d1, d2, d3, d4, d5, d6⟩ := cells7 HX5.out.three
    have z3 := froz7 HX5.out.three 5
    have HY := hid (HX5.out.set (i := 5) (v := .string val) (o' := #[.int .i64 A, .slice (some ⟨g, 0, none⟩) n n, .string sep, .string pat, .string tgt, .string val, .int .i64 0]) n1 n2 n3 l3 rfl)
    clear b0 b1 b2 b3 b4 b6 d0 d1 d2 d3 d4 d6
    go_wp2
    go_meet
    exact HY
  case rest =>
  have HX6 := hid hcut.out
  clear hcut HX5
  go_upto_region 8 with fail
  go_cut [] from 23 to 25 (fun wx => Hid (Bx w ss n B1 B2 B3 g #[.int .i64 A, .slice a n c, .string sep, .string pat, .string tgt, .string val, .int .i64 md] #[.int .i64 A, .slice (some ⟨g, 0, none⟩) n n, .string sep, .string pat, .string tgt, .string val, .int .i64 md] wx))
  case first =>
    obtain ⟨b0, b1, b2, b3, b4, b5, b6⟩ := cells7 HX6.out.one
    obtain ⟨d0, d1, d2, d3, d4, d5, d6⟩ := cells7 HX6.out.three
    have z3 := froz7 HX6.out.three 6
    have HY := hid (HX6.out.set (i := 6) (v := .int .i64 md) (o' := #[.int .i64 A, .slice (some ⟨g, 0, none⟩) n n, .string sep, .string pat, .string tgt, .string val, .int .i64 md]) n1 n2 n3 l3 rfl)
    clear b0 b1 b2 b3 b4 b5 d0 d1 d2 d3 d4 d5
    go_wp2
    go_meet
    exact HY
  case rest =>
  have HX7 := hid hcut.out
  clear hcut HX6
  obtain ⟨d0, d1, d2, d3, d4, d5, d6⟩ := cells7 HX7.out.three
  obtain ⟨z0, z1, z2, z3, z4, z5, z6, h2⟩ := HX7.out.two
  obtain ⟨c0, c1, c2, c3, c4, c5, c6⟩ := cells7 h2
  have fz := froz7 h2
  have HC := hid (set_at (i := 6) (v := .int .i64 md) (set_at (i := 5) (v := .string val) (set_at (i := 4) (v := .string tgt) (set_at (i := 3) (v := .string pat) (set_at (i := 2) (v := .string sep) (set_at (i := 1) (v := .slice (some ⟨g, 0, none⟩) n n) (set_at (i := 0) (v := .int .i64 A) h2)))))))
  clear h2
  go_wp2
  have HF := hid (own_set (p := ⟨B2, 6, none⟩) (own_set (p := ⟨B2, 5, none⟩) (own_set (p := ⟨B2, 4, none⟩) (own_set (p := ⟨B2, 3, none⟩) (own_set (p := ⟨B2, 2, none⟩) (own_set (p := ⟨B2, 1, none⟩) (own_set (p := ⟨B2, 0, none⟩) HX7.out.txt n4 (.int .i64 A)) n4 (.slice (some ⟨g, 0, none⟩) n n)) n4 (.string sep)) n4 (.string pat)) n4 (.string tgt)) n4 (.string val)) n4 (.int .i64 md))
  have HG := hid (Below.setCell (p := ⟨B2, 6, none⟩) (Below.setCell (p := ⟨B2, 5, none⟩) (Below.setCell (p := ⟨B2, 4, none⟩) (Below.setCell (p := ⟨B2, 3, none⟩) (Below.setCell (p := ⟨B2, 2, none⟩) (Below.setCell (p := ⟨B2, 1, none⟩) (Below.setCell (p := ⟨B2, 0, none⟩) HX7.out.bel l2 (.int .i64 A)) l2 (.slice (some ⟨g, 0, none⟩) n n)) l2 (.string sep)) l2 (.string pat)) l2 (.string tgt)) l2 (.string val)) l2 (.int .i64 md))
  clear c0 c1 c2 c3 c4 c5 c6 d0 d1 d2 d3 d4 d5 d6 fz HX7
  revert HC HF HG
  generalize World.setCell _ _ _ = wf
  intro HC HF HG
  obtain ⟨y0, y1, y2, y3, y4, y5, y6⟩ := cells7 (show wf.heap[B2]? = some (.cells #[.int .i64 A, .slice (some ⟨g, 0, none⟩) n n, .string sep, .string pat, .string tgt, .string val, .int .i64 md] 65) from HC.out)
  refine bodyPost_ret (v := .agg #[.int .i64 A, .slice (some ⟨g, 0, none⟩) n n, .string sep, .string pat, .string tgt, .string val, .int .i64 md]) ?_ rfl ⟨g, rfl, HGG.out, HF.out, HG.out⟩
  simp [results, Tryz.results42, go_sem, y0, y1, y2, y3, y4, y5, y6]
end Go.Proofs.YtooackaijhpohaaGreatDoor.Row
/- Lists of rules: toRelabelS, all of it owned. -/
namespace Go.Proofs.YtooackaijhpohaaGreatDoor.Rul
open Go.RowKit Go.Proofs.YtooackaijhpohaaGreatDoor.Fil Go.Proofs.YtooackaijhpohaaGreatDoor.Rel

theorem putN_own' {base e size n c g b : Nat} {xs : List Value} (hp : g ≠ b) : ∀ (vs : List Value) (w : World) (o : Nat), w.ownsRow base e size (.slice (some ⟨g, 0, none⟩) n c) n xs → (putN w b o vs).ownsRow base e size (.slice (some ⟨g, 0, none⟩) n c) n xs := by
  intro vs
  induction vs with
  | nil => intro w o h; exact h
  | cons v vs ih => intro w o h; exact ih _ _ (Row.own_set h hp v)
/-- A row of names of a rule. -/
abbrev nmR (X : Nat) (q : Q) (w : World) : Prop := w.ownsRow X 9 1 (.slice q.a q.r.from'.length q.c) q.r.from'.length (q.r.from'.map Value.string)
theorem own_blk {w : World} {base e size n c : Nat} {a : Option Addr} {xs : List Value} {x : Addr} (h : w.ownsRow base e size (.slice a n c) n xs) (e1 : a = some x) : (Value.slice (some x) n c).ownBlock = some x.block := by
  subst e1
  rcases h.2 with ⟨h1, _⟩ | ⟨g, cap, cur, h1, _⟩
  · cases h1
  · cases h1; rfl
theorem putN_nm {X b o : Nat} {q : Q} {w : World} (h : nmR X q w) (hp : ∀ x, q.a = some x → b < x.block) (vs : List Value) : nmR X q (putN w b o vs) := by
  unfold nmR at *
  cases ha : q.a with
  | none =>
    rw [ha] at h
    rcases h.2 with ⟨h1, h2⟩ | ⟨g, cap, cur, h1, _⟩
    · exact ⟨h.1, .inl ⟨h1, h2⟩⟩
    · cases h1
  | some x =>
    rw [ha] at h
    rcases h.2 with ⟨h1, _⟩ | ⟨g, cap, cur, h1, _⟩
    · cases h1
    · cases h1
      exact putN_own' (Nat.ne_of_gt (hp _ ha)) vs _ _ h
/-- The rules that are made by now, all of it owned. -/
structure DnO (qs : List Q) (B k : Nat) (d : List Q) (w : World) : Prop where
  len : d.length = k
  same : ∀ i, i < k → (d.getD i q0).r = (qs.getD i q0).r
  txt : ∀ i, i < k → nmR B (d.getD i q0) w
  off : ∀ i, i < k → ∀ x, (d.getD i q0).a = some x → B < x.block
  dis : ∀ i j, i < j → j < k → ∀ x y, (d.getD i q0).a = some x → (d.getD j q0).a = some y → x.block < y.block
theorem DnO.below {qs d : List Q} {B k : Nat} {w w' : World} (h : DnO qs B k d w) (hb : Below w.heap.size w w') : DnO qs B k d w' := ⟨h.len, h.same, fun i hi => own_below (h.txt i hi) hb, h.off, h.dis⟩
theorem DnO.put {qs d : List Q} {B k o : Nat} {w : World} (h : DnO qs B k d w) (vs : List Value) : DnO qs B k d (putN w B o vs) := ⟨h.len, h.same, fun i hi => putN_nm (h.txt i hi) (h.off i hi) vs, h.off, h.dis⟩
theorem DnO.snoc {qs d : List Q} {B k : Nat} {w : World} {q : Q} (h : DnO qs B k d w) (h1 : q.r = (qs.getD k q0).r) (h2 : nmR B q w) (h3 : ∀ x, q.a = some x → B < x.block) (h4 : ∀ i, i < k → ∀ x y, (d.getD i q0).a = some x → q.a = some y → x.block < y.block) : DnO qs B (k + 1) (d ++ [q]) w := by
  have hl := h.len
  refine ⟨by simp [hl], fun i hi => ?_, fun i hi => ?_, fun i hi => ?_, fun i j hij hj => ?_⟩
  · rw [getD_snoc]
    by_cases e : i = d.length
    · rw [if_pos e, e, hl]; exact h1
    · rw [if_neg e]; exact h.same i (by omega)
  · rw [getD_snoc]
    by_cases e : i = d.length
    · rw [if_pos e]; exact h2
    · rw [if_neg e]; exact h.txt i (by omega)
  · rw [getD_snoc]
    by_cases e : i = d.length
    · rw [if_pos e]; exact h3
    · rw [if_neg e]; exact h.off i (by omega)
  · rw [getD_snoc, getD_snoc, if_neg (show ¬ i = d.length by omega)]
    by_cases e : j = d.length
    · rw [if_pos e]; exact h4 i (by omega)
    · rw [if_neg e]; exact h.dis i j hij (by omega)
/-- Rules that lie at block g, they and their names in memory from X on. -/
structure OwnR (X g n : Nat) (qs : List Q) (w : World) : Prop where
  len : qs.length = n
  row : w.ownsRow X 65 7 (.slice (some ⟨g, 0, none⟩) n n) n (flat qs)
  txt : ∀ i, i < n → nmR X (qs.getD i q0) w
  off : ∀ i, i < n → ∀ x, (qs.getD i q0).a = some x → g < x.block
  dis : ∀ i j, i < j → j < n → ∀ x y, (qs.getD i q0).a = some x → (qs.getD j q0).a = some y → x.block < y.block
set_option maxHeartbeats 2000000 in
theorem f24o (a : Option Addr) (n c : Nat) (qs : List Q) (w : World) (hn : qs.length = n) (hb : n ≤ 1048576) (hr : HasR w a qs) (hz : SmlQ qs) :
    Calls Tryz.prog 24 #[.slice a n c] w fun e w' => ∃ qs' : List Q, e = .returned (.slice (some ⟨w.heap.size, 0, none⟩) n n) ∧ (∀ i, i < n → (qs'.getD i q0).r = (qs.getD i q0).r) ∧ OwnR w.heap.size w.heap.size n qs' w' ∧ Below w.heap.size w w' := by
  obtain ⟨i0, hi, hz0, hz1, hz2⟩ := info_parts info7
  have HN := hid hn
  have HR := hid hr
  have HZ := hid hz
  clear hn hr hz
  go_enter Tryz.func24, Tryz.ntmps24
  go_wp2_with (at_make; refine wpList_make_full _ rfl _ _ 29 rfl w.heap.size 65 i0 (.agg #[.int .i64 0, .slice none 0 0, .string ByteArray.empty, .string ByteArray.empty, .string ByteArray.empty, .string ByteArray.empty, .int .i64 0]) 7 Tryz.underlying29 hi hz0 hz1 _ _ _ _ n rfl rfl rfl rfl ?b2 ?b3 (Nat.le_refl _) ?_)
  case b2 => rw [hz2]; omega
  case b3 => unfold maxLen; omega
  intro w0 hown0 hgrow0
  have hown1 : Hid (w0.ownsRow w.heap.size 65 7 (.slice (some ⟨w.heap.size, 0, none⟩) n n) n (flat (List.replicate n q0))) := by
    rw [← made_seven]; exact hown0
  have hb0 := hid ((Below.refl w.heap.size w).grown hgrow0 (Nat.le_refl _) (fun k h => by cases h))
  clear hown0 hgrow0
  go_wp2
  go_loopw [4] (fun i wr => ∃ (k : Nat) (d : List Q), k ≤ n ∧ i = .int .i64 k ∧ Hid (DnO qs w.heap.size k d wr) ∧ Hid (wr.ownsRow w.heap.size 65 7 (.slice (some ⟨w.heap.size, 0, none⟩) n n) n (flat (d ++ List.replicate (n - k) q0))) ∧ Hid (Below w.heap.size w wr))
    (fun i _ => n - (intOf i).toNat)
  case atStart => exact ⟨0, [], Nat.zero_le _, rfl, ⟨rfl, fun i hi => by omega, fun i hi => by omega, fun i hi => by omega, fun i j h1 h2 => by omega⟩, by unfold Hid; simpa using hown1.out, hb0.out⟩
  case round =>
    obtain ⟨k, d, hk, rfl, HD, HO, HX⟩ := hrel
    by_cases hlt : k < n
    · obtain ⟨b, off, rfl, hbl, c0, c1, c2, c3, c4, c5, c6, hT⟩ := (HR.out).at7 k (by rw [HN.out]; exact hlt)
      have d0 := (HX.out.cell (p := ⟨b, off + k * 7, none⟩) hbl).trans c0
      have d1 := (HX.out.cell (p := ⟨b, off + k * 7 + 1, none⟩) hbl).trans c1
      have d2 := (HX.out.cell (p := ⟨b, off + k * 7 + 2, none⟩) hbl).trans c2
      have d3 := (HX.out.cell (p := ⟨b, off + k * 7 + 3, none⟩) hbl).trans c3
      have d4 := (HX.out.cell (p := ⟨b, off + k * 7 + 4, none⟩) hbl).trans c4
      have d5 := (HX.out.cell (p := ⟨b, off + k * 7 + 5, none⟩) hbl).trans c5
      have d6 := (HX.out.cell (p := ⟨b, off + k * 7 + 6, none⟩) hbl).trans c6
      have HT := hid (hT.below HX.out)
      have HS := hid ((HZ.out k (by rw [HN.out]; exact hlt)).n)
      obtain ⟨q, hq⟩ : ∃ q, q = qs.getD k q0 := ⟨_, rfl⟩
      have HQ := hid hq
      rw [← hq] at d0 d1 d2 d3 d4 d5 d6 HT HS
      clear c0 c1 c2 c3 c4 c5 c6 hT hbl hq
      obtain ⟨r, aq, cq⟩ := q
      go_wp2_with fail
      refine (Row.f42o r aq r.from'.length cq _ rfl HT.out HS.out).mono ?_
      rintro e w2 ⟨g, rfl, hg, hT2, hb2⟩
      have HD2 := hid (HD.out.below hb2)
      have HO2 := hid (own_below HO.out hb2)
      have HX2 := hid (HX.out.trans (hb2.mono HX.out.size))
      have HT2 := hid (Row.own_base hT2 HX.out.size)
      have HGE := hid hg
      have HGB : Hid (w.heap.size < g) := by
        have h1 := (HO.out.lt w.heap.size rfl).2
        unfold Hid; omega
      have HL : Hid ((d ++ List.replicate (n - k) q0).length = n) := by unfold Hid; have := HD.out.len; simp; omega
      have HZQ : Hid ((d ++ List.replicate (n - k) q0).getD k q0 = q0) := by
        unfold Hid
        rw [List.getD_eq_getElem?_getD, List.getElem?_append_right (by have := HD.out.len; omega), List.getElem?_replicate]
        split <;> rfl
      have fz := fun j => HO2.out.frozenAt (k * 7 + j)
      have cz : ∀ j, j < 7 → w2.cell? ⟨w.heap.size, k * 7 + j, none⟩ = (cl q0)[j]? := fun j hj => by
        rw [HO2.out.cellAt (k * 7 + j) (by omega), flat_get _ k j (by rw [HL.out]; exact hlt) hj, HZQ.out]
      have z0 : w2.cell? ⟨w.heap.size, k * 7, none⟩ = some (.int .i64 0) := cz 0 (by omega)
      have z1 : w2.cell? ⟨w.heap.size, k * 7 + 1, none⟩ = some (.slice none 0 0) := cz 1 (by omega)
      have z2 : w2.cell? ⟨w.heap.size, k * 7 + 2, none⟩ = some (.string ⟨#[]⟩) := cz 2 (by omega)
      have z3 : w2.cell? ⟨w.heap.size, k * 7 + 3, none⟩ = some (.string ⟨#[]⟩) := cz 3 (by omega)
      have z4 : w2.cell? ⟨w.heap.size, k * 7 + 4, none⟩ = some (.string ⟨#[]⟩) := cz 4 (by omega)
      have z5 : w2.cell? ⟨w.heap.size, k * 7 + 5, none⟩ = some (.string ⟨#[]⟩) := cz 5 (by omega)
      have z6 : w2.cell? ⟨w.heap.size, k * 7 + 6, none⟩ = some (.int .i64 0) := cz 6 (by omega)
      have f0 : w2.frozen? ⟨w.heap.size, k * 7, none⟩ = false := fz 0
      have f1 := fz 1
      have f2 := fz 2
      have f3 := fz 3
      have f4 := fz 4
      have f5 := fz 5
      have f6 := fz 6
      have HE : Hid (∀ wz, wz = putN w2 w.heap.size (k * 7) (cl ⟨r, some ⟨g, 0, none⟩, r.from'.length⟩) → DnO qs w.heap.size (k + 1) (d ++ [⟨r, some ⟨g, 0, none⟩, r.from'.length⟩]) wz ∧ wz.ownsRow w.heap.size 65 7 (.slice (some ⟨w.heap.size, 0, none⟩) n n) n (flat ((d ++ [⟨r, some ⟨g, 0, none⟩, r.from'.length⟩]) ++ List.replicate (n - (k + 1)) q0)) ∧ Below w.heap.size w wz) := by
        rintro wz rfl
        have hnb : ∀ x, (some ⟨g, 0, none⟩ : Option Addr) = some x → w.heap.size < x.block := by rintro x e; cases e; exact HGB.out
        refine ⟨(HD2.out.put _).snoc (by show r = _; rw [← HQ.out]) (putN_own' (Nat.ne_of_gt HGB.out) _ _ _ HT2.out) hnb (fun i hi x y e1 e2 => by
          cases e2
          have h1 := (HD.out.txt i hi).lt x.block (by rw [e1]; exact own_blk (HD.out.txt i hi) e1)
          have h2 := HGE.out
          simp only; omega), ?_, putN_below (Nat.le_refl _) _ _ _ HX2.out⟩
        rw [← step_set d n k _ HD2.out.len hlt, ← flat_set _ k _ (by rw [HL.out]; exact hlt)]
        exact putN_own _ _ _ _ HO2.out
      clear hT2 hb2 hg fz cz HO HT HO2 HD2 HX2 HT2 HX HD d0 d1 d2 d3 d4 d5 d6
      go_wp2
      go_roundw
      case rel =>
        obtain ⟨e1, e2, e3⟩ := HE.out _ rfl
        exact ⟨k + 1, _, by omega, by go_num, e1, e2, e3⟩
      case measure => simp [intOf]; omega
    · obtain rfl : k = n := by omega
      have HE : Hid (OwnR w.heap.size w.heap.size k d wr) := by
        have h := HO.out
        rw [Nat.sub_self, List.replicate_zero, List.append_nil] at h
        exact ⟨HD.out.len, h, HD.out.txt, HD.out.off, HD.out.dis⟩
      have HSM := hid HD.out.same
      go_wp2
      go_ret
      exact ⟨d, rfl, HSM.out, HE.out, HX.out⟩
end Go.Proofs.YtooackaijhpohaaGreatDoor.Rul
/- Lists of texts marked; lists of rules marked: only their own memory changes. -/
namespace Go.Proofs.YtooackaijhpohaaGreatDoor.Mrk
open Go.RowKit Go.Proofs.YtooackaijhpohaaGreatDoor.Fil

theorem ret_str {a b : ByteArray} (h : a = b) : Ending.returned (.string a) = .returned (.string b) := by rw [h]
theorem one_new (w : World) (v : Value) (t : TypeId) : (w.alloc (.cells #[v] t)).cell? ⟨w.heap.size, 0, none⟩ = some v := by
  have h := heap_alloc_new w (.cells #[v] t)
  unfold World.cell?
  simp only [h]
  rfl

def dgs (k : Nat) (out : ByteArray) : ByteArray := if k = 0 then out else dgs (k / 10) (strOfNums [48 + (k : Int) % 10] ++ out)
termination_by k
decreasing_by omega
theorem dgs_zero (out : ByteArray) : dgs 0 out = out := by rw [dgs, if_pos rfl]
theorem dgs_pos (k : Nat) (out : ByteArray) (h : 0 < k) : dgs k out = dgs (k / 10) (strOfNums [48 + (k : Int) % 10] ++ out) := by rw [dgs, if_neg (by omega)]
def mkT (k : Nat) : ByteArray := if k = 0 then { data := #[109, 48] } else { data := #[109] } ++ dgs k ByteArray.empty

set_option maxHeartbeats 1000000 in
set_option maxRecDepth 100000 in
theorem f57 (k : Nat) (w : World) (hk : k ≤ 100000000) :
    Calls Tryz.prog 57 #[.int .i64 k] w fun e w' => e = .returned (.string (mkT k)) ∧ Below w.heap.size w w' := by
  by_cases h0 : k = 0
  · subst h0
    go_enter Tryz.func57, Tryz.ntmps57
    go_wp2
    go_ret
    exact ⟨ret_str (by unfold mkT; rw [if_pos rfl]), Below.refl _ _⟩
  have HE : Hid (mkT k = { data := #[109] } ++ dgs k ByteArray.empty) := by unfold Hid mkT; rw [if_neg h0]
  go_enter Tryz.func57, Tryz.ntmps57
  go_wp2
  go_loopw [0, 3] (fun sk so wr => ∃ (j : Nat) (out : ByteArray), out.size + j ≤ k ∧ sk = .int .i64 j ∧ so = .string out ∧ Hid (dgs j out = dgs k ByteArray.empty) ∧ Below w.heap.size w wr) (fun sk _ _ => (intOf sk).toNat)
  case atStart => exact ⟨k, ByteArray.empty, by simp, rfl, rfl, rfl, Below.refl _ _⟩
  case round =>
    obtain ⟨j, out, hj, rfl, rfl, hd, hnx⟩ := hrel
    have HX := hid hnx
    clear hnx
    by_cases hlt : 0 < j
    · have kc := run_convert_bytes_arg (P := Tryz.prog) (wr.alloc (.cells #[.int .u8 (48 + (j : Int) % 10)] 5)) 87 5 Tryz.underlying87 Tryz.underlying5 wr.heap.size 0 1 1 [48 + (j : Int) % 10] rfl (by
        intro i hi
        obtain rfl : i = 0 := by omega
        exact one_new wr _ 5) 9 Tryz.underlying9
      have HS : Hid ((strOfNums [48 + (j : Int) % 10]).size = 1) := rfl
      have hs2 : (strOfNums [48 + (j : Int) % 10]).size ≤ 1 := by rw [HS.out]; exact Nat.le_refl _
      have HD := hid (dgs_pos j out hlt)
      generalize strOfNums [48 + (j : Int) % 10] = u at *
      go_wp2
      go_roundw
      case rel =>
        refine ⟨j / 10, u ++ out, ?_, by go_num, rfl, by unfold Hid; rw [← HD.out]; exact hd.out, HX.out.alloc HX.out.size _⟩
        rw [ByteArray.size_append, HS.out]; omega
      case measure => simp [intOf]; omega
    · obtain rfl : j = 0 := by omega
      have hs : out.size ≤ 100000000 := by omega
      go_wp2
      go_ret
      exact ⟨ret_str (by rw [HE.out, ← hd.out, dgs_zero]), HX.out⟩

theorem grown_trans {a b c : World} {r : Option Nat} (h : a.grownBy b r) (k : b.grownBy c r) : a.grownBy c r :=
  ⟨k.os.trans h.os, k.tape.trans h.tape, k.output.trans h.output, Nat.le_trans h.size k.size, fun i hi hne => (k.block i (Nat.lt_of_lt_of_le hi h.size) hne).trans (h.block i hi hne)⟩
theorem grown_below {a b : World} (r : Option Nat) (h : Below a.heap.size a b) : a.grownBy b r := ⟨h.os, h.tape, h.output, h.size, fun i hi _ => h.block i hi⟩
def markT (k n : Nat) : List ByteArray := (List.range n).map fun i => mkT (k + i)
theorem markT_len (k n : Nat) : (markT k n).length = n := by simp [markT]
theorem markT_get (k n i : Nat) (h : i < n) : (markT k n).getD i ByteArray.empty = mkT (k + i) := by simp [markT, h]
def markU (k : Nat) (ss : List ByteArray) (i : Nat) : List ByteArray := markT k i ++ ss.drop i
theorem markU_set (k n i : Nat) (ss : List ByteArray) (h : ss.length = n) (hi : i < n) : (markU k ss i).set i (mkT (k + i)) = markU k ss (i + 1) := by
  unfold markU
  rw [List.set_append_right _ _ (by rw [markT_len]; exact Nat.le_refl _), markT_len, Nat.sub_self, List.drop_eq_getElem_cons (by omega), List.set_cons_zero]
  have : markT k (i + 1) = markT k i ++ [mkT (k + i)] := by simp [markT, List.range_succ]
  rw [this, List.append_assoc]
  rfl
theorem markU_len (k n i : Nat) (ss : List ByteArray) (h : ss.length = n) (hi : i ≤ n) : (markU k ss i).length = n := by simp [markU, markT_len]; omega
theorem markU_zero (k : Nat) (ss : List ByteArray) : markU k ss 0 = ss := by simp [markU, markT]
theorem markU_end (k n : Nat) (ss : List ByteArray) (h : ss.length = n) : markU k ss n = markT k n := by simp [markU, ← h]

set_option maxHeartbeats 2000000 in
theorem f58 (g n c base k : Nat) (ss : List ByteArray) (w : World) (hn : ss.length = n) (hk : k + n ≤ 100000000) (hown : w.ownsRow base 9 1 (.slice (some ⟨g, 0, none⟩) n c) n (ss.map Value.string)) :
    Calls Tryz.prog 58 #[.slice (some ⟨g, 0, none⟩) n c, .int .i64 k] w fun e w' => e = .returned (.int .i64 ((k + n : Nat) : Int)) ∧ w'.ownsRow base 9 1 (.slice (some ⟨g, 0, none⟩) n c) n ((markT k n).map Value.string) ∧ w.grownBy w' (some g) := by
  have HN := hid hn
  have HO0 := hid hown
  clear hn hown
  go_enter Tryz.func58, Tryz.ntmps58
  go_wp2
  go_loopw [1, 5] (fun sk si wr => ∃ (i m : Nat), i ≤ n ∧ si = .int .i64 i ∧ sk = .int .i64 (m : Int) ∧ Hid (m = k + i) ∧ wr.ownsRow base 9 1 (.slice (some ⟨g, 0, none⟩) n c) n ((markU k ss i).map Value.string) ∧ w.grownBy wr (some g)) (fun _ si _ => n - (intOf si).toNat)
  case atStart => exact ⟨0, k, Nat.zero_le _, rfl, rfl, rfl, by rw [markU_zero]; exact HO0.out, ⟨rfl, rfl, rfl, Nat.le_refl _, fun _ _ _ => rfl⟩⟩
  case round =>
    obtain ⟨i, m, hi, rfl, rfl, hm, hown, hgr⟩ := hrel
    have HO := hid hown
    have HG := hid hgr
    have HM := hid (markU_len k n i ss HN.out hi)
    clear hown hgr HO0
    by_cases hlt : i < n
    · have HS := hid (markU_set k n i ss HN.out hlt)
      have hm1 : m ≤ 99999999 := by have := hm.out; omega
      go_wp2_with fail
      refine (f57 m _ (by omega)).mono ?_
      rintro e w2 ⟨rfl, hb2⟩
      have HO2 := hid (own_below HO.out hb2)
      have HG2 := hid (grown_trans HG.out (grown_below (some g) hb2))
      have fz := HO2.out.frozenAt i
      have cz : w2.cell? ⟨g, i, none⟩ = some (.string ((markU k ss i).getD i ByteArray.empty)) := by
        have hl' : i < (markU k ss i).length := by rw [HM.out]; exact hlt
        rw [HO2.out.cellAt i (by omega), List.getElem?_map, List.getElem?_eq_getElem hl']
        simp [hl']
      have HST := hid (HO2.out.stored i (.string (mkT m)))
      have HG3 := hid (grown_trans HG2.out HST.out.2)
      have HO3 : Hid ((w2.setCell ⟨g, i, none⟩ (.string (mkT m))).ownsRow base 9 1 (.slice (some ⟨g, 0, none⟩) n c) n ((markU k ss (i + 1)).map Value.string)) := by
        unfold Hid; rw [← HS.out, ← hm.out, List.map_set]; exact HST.out.1
      clear hb2
      generalize (markU k ss i).getD i ByteArray.empty = u0 at *
      go_wp2
      go_roundw
      case rel => exact ⟨i + 1, m + 1, by omega, by go_num, by go_num, by have := hm.out; unfold Hid; omega, HO3.out, HG3.out⟩
      case measure => simp [intOf]; omega
    · obtain rfl : i = n := by omega
      go_wp2
      go_ret
      exact ⟨by rw [← hm.out]; rfl, by rw [← markU_end k i ss HN.out]; exact HO.out, HG.out⟩
theorem f58n (k : Nat) (w : World) : Calls Tryz.prog 58 #[.slice none 0 0, .int .i64 k] w fun e w' => e = .returned (.int .i64 k) ∧ w' = w := by
  go_enter Tryz.func58, Tryz.ntmps58
  go_wp2
  go_loop [1, 5] (fun sk i => sk = .int .i64 k ∧ i = .int .i64 0) (fun _ _ => 0)
  case atStart => exact ⟨rfl, rfl⟩
  case round =>
    obtain ⟨rfl, rfl⟩ := hrel
    go_wp2
    go_ret
    exact ⟨rfl, rfl⟩
theorem own_cases {w : World} {base e size n c : Nat} {a : Option Addr} {xs : List Value} (h : w.ownsRow base e size (.slice a n c) n xs) : (a = none ∧ n = 0 ∧ c = 0) ∨ ∃ g, a = some ⟨g, 0, none⟩ := by
  rcases h.2 with ⟨h1, _⟩ | ⟨g, cap, cur, h1, _⟩
  · simp only [Value.slice.injEq] at h1; exact .inl ⟨h1.1, h1.2.1, h1.2.2⟩
  · simp only [Value.slice.injEq] at h1; exact .inr ⟨g, h1.1⟩
theorem f58o (a : Option Addr) (n c base k : Nat) (ss : List ByteArray) (w : World) (hn : ss.length = n) (hk : k + n ≤ 100000000) (hown : w.ownsRow base 9 1 (.slice a n c) n (ss.map Value.string)) :
    Calls Tryz.prog 58 #[.slice a n c, .int .i64 k] w fun e w' => e = .returned (.int .i64 ((k + n : Nat) : Int)) ∧ w'.ownsRow base 9 1 (.slice a n c) n ((markT k n).map Value.string) ∧ w.grownBy w' (Value.slice a n c).ownBlock := by
  rcases own_cases hown with ⟨rfl, rfl, rfl⟩ | ⟨g, rfl⟩
  · refine (f58n k w).mono ?_
    rintro e w' ⟨rfl, rfl⟩
    exact ⟨rfl, World.ownsRow_nil _ _ _ _, ⟨rfl, rfl, rfl, Nat.le_refl _, fun _ _ _ => rfl⟩⟩
  · exact f58 g n c base k ss w hn hk hown
end Go.Proofs.YtooackaijhpohaaGreatDoor.Mrk
namespace Go.Proofs.YtooackaijhpohaaGreatDoor.Rul
open Go.RowKit Go.Proofs.YtooackaijhpohaaGreatDoor.Fil Go.Proofs.YtooackaijhpohaaGreatDoor.Rel

/-- What lies outside the blocks from X to Y is as it was. -/
structure Fr (X Y : Nat) (w x : World) : Prop where
  os : x.os = w.os
  tape : x.tape = w.tape
  output : x.output = w.output
  size : w.heap.size ≤ x.heap.size
  block : ∀ j, j < w.heap.size → j < X ∨ Y ≤ j → x.heap[j]? = w.heap[j]?
theorem Fr.refl (X Y : Nat) (w : World) : Fr X Y w w := ⟨rfl, rfl, rfl, Nat.le_refl _, fun _ _ _ => rfl⟩
theorem Fr.below {X Y : Nat} {w x y : World} (h : Fr X Y w x) (hb : Below x.heap.size x y) : Fr X Y w y :=
  ⟨hb.os.trans h.os, hb.tape.trans h.tape, hb.output.trans h.output, Nat.le_trans h.size hb.size, fun j hj hq => (hb.block j (Nat.lt_of_lt_of_le hj h.size)).trans (h.block j hj hq)⟩
theorem Fr.grown {X Y g : Nat} {w x y : World} (h : Fr X Y w x) (hg : x.grownBy y (some g)) (h1 : X ≤ g) (h2 : g < Y) : Fr X Y w y :=
  ⟨hg.os.trans h.os, hg.tape.trans h.tape, hg.output.trans h.output, Nat.le_trans h.size hg.size, fun j hj hq => (hg.block j (Nat.lt_of_lt_of_le hj h.size) (by simp; omega)).trans (h.block j hj hq)⟩
/-- Rules that are being marked. -/
structure Ms (X Y g n : Nat) (qs : List Q) (i : Nat) (w x : World) : Prop where
  row : ∃ xs, x.ownsRow X 65 7 (.slice (some ⟨g, 0, none⟩) n n) n xs ∧ ∀ k, k < n → xs[k * 7 + 1]? = some (.slice (qs.getD k q0).a (qs.getD k q0).r.from'.length (qs.getD k q0).c)
  txt : ∀ k, i ≤ k → k < n → nmR X (qs.getD k q0) x
  fr : Fr X Y w x
  lo : X ≤ g
  hi : g < Y
theorem Ms.below {X Y g n i : Nat} {qs : List Q} {w x y : World} (h : Ms X Y g n qs i w x) (hb : Below x.heap.size x y) : Ms X Y g n qs i w y := by
  obtain ⟨xs, h1, h2⟩ := h.row
  exact ⟨⟨xs, own_below h1 hb, h2⟩, fun k h3 h4 => own_below (h.txt k h3 h4) hb, h.fr.below hb, h.lo, h.hi⟩
theorem Ms.cell {X Y g n i : Nat} {qs : List Q} {w x : World} (h : Ms X Y g n qs i w x) (o : Nat) (ho : o < n * 7) : (∃ v, x.cell? ⟨g, o, none⟩ = some v) ∧ x.frozen? ⟨g, o, none⟩ = false := by
  obtain ⟨xs, h1, h2⟩ := h.row
  refine ⟨?_, h1.frozenAt o⟩
  have hl := h1.1
  rw [h1.cellAt o (by omega)]
  exact ⟨xs[o], List.getElem?_eq_getElem (by omega)⟩
theorem Ms.head {X Y g n i : Nat} {qs : List Q} {w x : World} (h : Ms X Y g n qs i w x) (k : Nat) (hk : k < n) : x.cell? ⟨g, k * 7 + 1, none⟩ = some (.slice (qs.getD k q0).a (qs.getD k q0).r.from'.length (qs.getD k q0).c) := by
  obtain ⟨xs, h1, h2⟩ := h.row
  have hl := h1.1
  rw [h1.cellAt _ (by omega)]
  exact h2 k hk
theorem Ms.set {X Y g n i o : Nat} {qs : List Q} {w x : World} (h : Ms X Y g n qs i w x) (ho : o % 7 ≠ 1) (hoff : ∀ k, i ≤ k → k < n → ∀ y, (qs.getD k q0).a = some y → g < y.block) (v : Value) : Ms X Y g n qs i w (x.setCell ⟨g, o, none⟩ v) := by
  obtain ⟨xs, h1, h2⟩ := h.row
  have hs := h1.stored o v
  refine ⟨⟨_, hs.1, fun k hk => ?_⟩, fun k h3 h4 => putN_nm (h.txt k h3 h4) (hoff k h3 h4) [v], h.fr.grown hs.2 h.lo h.hi, h.lo, h.hi⟩
  rw [List.getElem?_set_ne (by omega)]
  exact h2 k hk
end Go.Proofs.YtooackaijhpohaaGreatDoor.Rul
/- Lists of rules marked: markRelabelS. -/
namespace Go.Proofs.YtooackaijhpohaaGreatDoor.Rul
open Go.RowKit Go.Proofs.YtooackaijhpohaaGreatDoor.Fil Go.Proofs.YtooackaijhpohaaGreatDoor.Rel

theorem Ms.marked {X Y g n i : Nat} {qs : List Q} {w x y : World} (h : Ms X Y g n qs i w x) (hi : i < n) (hg : x.grownBy y (Value.slice (qs.getD i q0).a (qs.getD i q0).r.from'.length (qs.getD i q0).c).ownBlock)
    (hoff : ∀ k, k < n → ∀ z, (qs.getD k q0).a = some z → g < z.block) (hY : ∀ k, k < n → ∀ z, (qs.getD k q0).a = some z → z.block < Y) (hd : ∀ k, i < k → k < n → ∀ z z', (qs.getD i q0).a = some z → (qs.getD k q0).a = some z' → z.block < z'.block) : Ms X Y g n qs (i + 1) w y := by
  obtain ⟨xs, h1, h2⟩ := h.row
  have ht := h.txt i (Nat.le_refl _) hi
  have hlo := h.lo
  cases ha : (qs.getD i q0).a with
  | none =>
    have hb : (Value.slice (qs.getD i q0).a (qs.getD i q0).r.from'.length (qs.getD i q0).c).ownBlock = none := by
      rw [ha]; rfl
    rw [hb] at hg
    have hbl : Below x.heap.size x y := ⟨hg.os, hg.tape, hg.output, hg.size, fun j hj => hg.block j hj (by simp)⟩
    have h' := h.below hbl
    exact ⟨h'.row, fun k h3 h4 => h'.txt k (by omega) h4, h'.fr, h'.lo, h'.hi⟩
  | some z =>
    have hb : (Value.slice (qs.getD i q0).a (qs.getD i q0).r.from'.length (qs.getD i q0).c).ownBlock = some z.block := by
      rw [ha]; exact own_blk ht ha
    rw [hb] at hg
    have hz1 := hoff i hi z ha
    have hz2 := hY i hi z ha
    refine ⟨⟨xs, h1.kept hg (.inr (by simp only [Value.ownBlock]; intro e; have := Option.some.inj e; omega)), h2⟩, fun k h3 h4 => ?_, h.fr.grown hg (by omega) hz2, h.lo, h.hi⟩
    have hk := h.txt k (by omega) h4
    refine hk.kept hg ?_
    cases hq : (Value.slice (qs.getD k q0).a (qs.getD k q0).r.from'.length (qs.getD k q0).c).ownBlock with
    | none => exact .inl rfl
    | some b =>
      refine .inr ?_
      intro e
      have e2 := Option.some.inj e
      cases hak : (qs.getD k q0).a with
      | none => rw [hak] at hq; cases hq
      | some z' =>
        have h5 := own_blk hk hak
        rw [hak] at hq
        rw [hq] at h5
        have h6 := Option.some.inj h5
        have h7 := hd k (by omega) h4 z z' ha hak
        omega
theorem tot_step (qs : List Q) (k : Nat) : Tot.tot qs k ≤ Tot.tot qs (k + 1) := by
  by_cases h : k < qs.length
  · rw [Tot.tot_succ qs k h]; omega
  · unfold Tot.tot
    rw [List.take_of_length_le (by omega), List.take_of_length_le (by omega)]
    exact Nat.le_refl _
theorem tot_mono (qs : List Q) (i d : Nat) : Tot.tot qs i ≤ Tot.tot qs (i + d) := by
  induction d with
  | zero => exact Nat.le_refl _
  | succ d ih => exact Nat.le_trans ih (tot_step qs (i + d))
set_option maxRecDepth 100000 in
set_option maxHeartbeats 4000000 in
theorem f35 (X Y g n k : Nat) (qs : List Q) (w : World) (h : OwnR X g n qs w) (hY : g < Y) (hYn : ∀ i, i < n → ∀ x, (qs.getD i q0).a = some x → x.block < Y) (hk : k + 6 * n + Tot.tot qs n ≤ 50000000) :
    Calls Tryz.prog 35 #[.slice (some ⟨g, 0, none⟩) n n, .int .i64 k] w fun e w' => (∃ k' : Nat, k' ≤ 50000000 ∧ e = .returned (.int .i64 (k' : Int))) ∧ Fr X Y w w' := by
  have HO := hid h
  have HY := hid hYn
  have HM0 : Hid (Ms X Y g n qs 0 w w) := ⟨⟨flat qs, h.row, fun i hi => flat_get qs i 1 (by rw [h.len]; exact hi) (by omega)⟩, fun i _ hi => h.txt i hi, Fr.refl _ _ _, (h.row.lt g rfl).1, hY⟩
  have HTM : Hid (∀ i, i ≤ n → Tot.tot qs i ≤ Tot.tot qs n) := by
    intro i hi
    have := tot_mono qs i (n - i)
    rwa [show i + (n - i) = n from by omega] at this
  clear h hYn
  go_enter Tryz.func35, Tryz.ntmps35
  go_wp2
  go_loopw [1, 5] (fun sk si wr => ∃ (i m : Nat), i ≤ n ∧ si = .int .i64 i ∧ sk = .int .i64 (m : Int) ∧ Hid (m = k + 6 * i + Tot.tot qs i) ∧ Hid (Ms X Y g n qs i w wr)) (fun _ si _ => n - (intOf si).toNat)
  case atStart => exact ⟨0, k, Nat.zero_le _, rfl, rfl, by unfold Hid Tot.tot; simp, HM0⟩
  case round =>
    obtain ⟨i, m, hi, rfl, rfl, hm, HM⟩ := hrel
    by_cases hlt : i < n
    · have HTS := hid (Tot.tot_succ qs i (by rw [HO.out.len]; exact hlt))
      have hmb : m + 6 + (qs.getD i q0).r.from'.length ≤ 50000000 := by
        have h1 := hm.out; have h2 := HTS.out; have h3 := HTM.out (i + 1) hlt
        omega
      have HOF : Hid (∀ k, i ≤ k → k < n → ∀ y, (qs.getD k q0).a = some y → g < y.block) := fun k _ h2 y e => HO.out.off k h2 y e
      have HOF2 : Hid (∀ k, i + 1 ≤ k → k < n → ∀ y, (qs.getD k q0).a = some y → g < y.block) := fun k _ h2 y e => HO.out.off k h2 y e
      obtain ⟨⟨v0, c0⟩, f0⟩ := HM.out.cell (i * 7) (by omega)
      have hd := HM.out.head i hlt
      have HM1 := hid (HM.out.set (o := i * 7) (by omega) HOF.out (.int .i64 (m : Int)))
      have HTX := hid (HM1.out.txt i (Nat.le_refl _) hlt)
      have HMK := hid (fun y hg => HM1.out.marked (y := y) hlt hg HO.out.off HY.out (fun k h1 h2 => HO.out.dis i k h1 h2))
      have HTS2 := HTS
      generalize qs.getD i q0 = q at *
      obtain ⟨r, aq, cq⟩ := q
      have i1 : (i : Int) < (n : Int) := by omega
      have hm1 : m ≤ 50000000 := by omega
      clear HM
      go_wp2_with fail
      rw [show ((m : Int) + 1) = ((m + 1 : Nat) : Int) from by omega]
      refine (Mrk.f58o aq r.from'.length cq X (m + 1) r.from' _ rfl (by omega) HTX.out).mono ?_
      rintro e w2 ⟨rfl, _, hg2⟩
      have HM2 := hid (HMK.out _ hg2)
      obtain ⟨m2, hm2⟩ : ∃ m2, m2 = m + 1 + r.from'.length := ⟨_, rfl⟩
      have HE2 := hid hm2
      have hb2 : m2 + 5 ≤ 50000000 := by omega
      rw [← hm2]
      clear hg2 HM1 HTX HMK hm2 c0 f0 hd hmb
      go_wp2_with fail
      refine (Mrk.f57 (m2) _ (by omega)).mono ?_
      rintro e w3a ⟨rfl, hb3a⟩
      have HA3 := hid (HM2.out.below hb3a)
      obtain ⟨⟨v2, c2⟩, f2⟩ := HA3.out.cell (i * 7 + 2) (by omega)
      have HM3 := hid (HA3.out.set (o := i * 7 + 2) (by omega) HOF2.out (.string (Mrk.mkT (m2))))
      clear hb3a HM2 HA3
      go_wp2_with fail
      rw [show ((m2 : Int) + 1) = ((m2 + 1 : Nat) : Int) from by omega]
      refine (Mrk.f57 (m2 + 1) _ (by omega)).mono ?_
      rintro e w4a ⟨rfl, hb4a⟩
      have HA4 := hid (HM3.out.below hb4a)
      obtain ⟨⟨v3, c3⟩, f3⟩ := HA4.out.cell (i * 7 + 3) (by omega)
      have HM4 := hid (HA4.out.set (o := i * 7 + 3) (by omega) HOF2.out (.string (Mrk.mkT (m2 + 1))))
      clear hb4a HM3 HA4
      go_wp2_with fail
      rw [show ((m2 : Int) + 1 + 1) = ((m2 + 2 : Nat) : Int) from by omega]
      refine (Mrk.f57 (m2 + 2) _ (by omega)).mono ?_
      rintro e w5a ⟨rfl, hb5a⟩
      have HA5 := hid (HM4.out.below hb5a)
      obtain ⟨⟨v4, c4⟩, f4⟩ := HA5.out.cell (i * 7 + 4) (by omega)
      have HM5 := hid (HA5.out.set (o := i * 7 + 4) (by omega) HOF2.out (.string (Mrk.mkT (m2 + 2))))
      clear hb5a HM4 HA5
      go_wp2_with fail
      rw [show ((m2 : Int) + 2 + 1) = ((m2 + 3 : Nat) : Int) from by omega]
      refine (Mrk.f57 (m2 + 3) _ (by omega)).mono ?_
      rintro e w6a ⟨rfl, hb6a⟩
      have HA6 := hid (HM5.out.below hb6a)
      obtain ⟨⟨v5, c5⟩, f5⟩ := HA6.out.cell (i * 7 + 5) (by omega)
      have HM6 := hid (HA6.out.set (o := i * 7 + 5) (by omega) HOF2.out (.string (Mrk.mkT (m2 + 3))))
      clear hb6a HM5 HA6
      obtain ⟨⟨v6, c6⟩, f6⟩ := HM6.out.cell (i * 7 + 6) (by omega)
      have HM7 := hid (fun v => HM6.out.set (o := i * 7 + 6) (by omega) HOF2.out v)
      clear HM6
      go_wp2
      go_roundw
      case rel => exact ⟨i + 1, m2 + 5, by omega, by go_num, by go_num, by have h1 := hm.out; have h2 := HTS2.out; have h3 := HE2.out; unfold Hid; omega, HM7.out _⟩
      case measure => simp [intOf]; omega
    · go_wp2
      go_ret
      exact ⟨⟨m, by have h1 := hm.out; have h2 := HTM.out i hi; omega, rfl⟩, HM.out.fr⟩
end Go.Proofs.YtooackaijhpohaaGreatDoor.Rul
/- The marks: what markText comes to. -/
namespace Go.Proofs.YtooackaijhpohaaGreatDoor.Lab
open Go.RowKit Go.Proofs.YtooackaijhpohaaGreatDoor.Str

theorem one_new (w : World) (v : Value) (t : TypeId) : (w.alloc (.cells #[v] t)).cell? ⟨w.heap.size, 0, none⟩ = some v := by
  have h := heap_alloc_new w (.cells #[v] t)
  unfold World.cell?
  simp only [h]
  rfl

def dgs (k : Nat) (out : ByteArray) : ByteArray := if k = 0 then out else dgs (k / 10) (strOfNums [48 + (k : Int) % 10] ++ out)
termination_by k
decreasing_by omega
theorem dgs_zero (out : ByteArray) : dgs 0 out = out := by rw [dgs, if_pos rfl]
theorem dgs_pos (k : Nat) (out : ByteArray) (h : 0 < k) : dgs k out = dgs (k / 10) (strOfNums [48 + (k : Int) % 10] ++ out) := by rw [dgs, if_neg (by omega)]
def mkT (k : Nat) : ByteArray := if k = 0 then { data := #[109, 48] } else { data := #[109] } ++ dgs k ByteArray.empty

set_option maxHeartbeats 1000000 in
set_option maxRecDepth 100000 in
theorem f57 (k : Nat) (w : World) (hk : k ≤ 100000000) :
    Calls Tryz.prog 57 #[.int .i64 k] w fun e w' => e = .returned (.string (mkT k)) ∧ Below w.heap.size w w' := by
  by_cases h0 : k = 0
  · subst h0
    go_enter Tryz.func57, Tryz.ntmps57
    go_wp2
    go_ret
    exact ⟨ret_str (by unfold mkT; rw [if_pos rfl]), Below.refl _ _⟩
  have HE : Hid (mkT k = { data := #[109] } ++ dgs k ByteArray.empty) := by unfold Hid mkT; rw [if_neg h0]
  go_enter Tryz.func57, Tryz.ntmps57
  go_wp2
  go_loopw [0, 3] (fun sk so wr => ∃ (j : Nat) (out : ByteArray), out.size + j ≤ k ∧ sk = .int .i64 j ∧ so = .string out ∧ Hid (dgs j out = dgs k ByteArray.empty) ∧ Below w.heap.size w wr) (fun sk _ _ => (intOf sk).toNat)
  case atStart => exact ⟨k, ByteArray.empty, by simp, rfl, rfl, rfl, Below.refl _ _⟩
  case round =>
    obtain ⟨j, out, hj, rfl, rfl, hd, hnx⟩ := hrel
    have HX := hid hnx
    clear hnx
    by_cases hlt : 0 < j
    · have kc := run_convert_bytes_arg (P := Tryz.prog) (wr.alloc (.cells #[.int .u8 (48 + (j : Int) % 10)] 5)) 87 5 Tryz.underlying87 Tryz.underlying5 wr.heap.size 0 1 1 [48 + (j : Int) % 10] rfl (by
        intro i hi
        obtain rfl : i = 0 := by omega
        exact one_new wr _ 5) 9 Tryz.underlying9
      have HS : Hid ((strOfNums [48 + (j : Int) % 10]).size = 1) := rfl
      have hs2 : (strOfNums [48 + (j : Int) % 10]).size ≤ 1 := by rw [HS.out]; exact Nat.le_refl _
      have HD := hid (dgs_pos j out hlt)
      generalize strOfNums [48 + (j : Int) % 10] = u at *
      go_wp2
      go_roundw
      case rel =>
        refine ⟨j / 10, u ++ out, ?_, by go_num, rfl, by unfold Hid; rw [← HD.out]; exact hd.out, HX.out.alloc HX.out.size _⟩
        rw [ByteArray.size_append, HS.out]; omega
      case measure => simp [intOf]; omega
    · obtain rfl : j = 0 := by omega
      have hs : out.size ≤ 100000000 := by omega
      go_wp2
      go_ret
      exact ⟨ret_str (by rw [HE.out, ← hd.out, dgs_zero]), HX.out⟩
end Go.Proofs.YtooackaijhpohaaGreatDoor.Lab
/- Rows of labels marked and held: markLabelS, heldLabelS. -/
namespace Go.Proofs.YtooackaijhpohaaGreatDoor.Lab
open Go.RowKit Go.Proofs.YtooackaijhpohaaGreatDoor.Str

theorem grown_trans {a b c : World} {r : Option Nat} (h : a.grownBy b r) (k : b.grownBy c r) : a.grownBy c r :=
  ⟨k.os.trans h.os, k.tape.trans h.tape, k.output.trans h.output, Nat.le_trans h.size k.size, fun i hi hne => (k.block i (Nat.lt_of_lt_of_le hi h.size) hne).trans (h.block i hi hne)⟩
theorem grown_below {a b : World} (r : Option Nat) (h : Below a.heap.size a b) : a.grownBy b r := ⟨h.os, h.tape, h.output, h.size, fun i hi _ => h.block i hi⟩
theorem grown_setRow {w w' : World} {g o : Nat} (h : w.grownBy w' (some g)) (u : Value) : w.grownBy (w'.setCell ⟨g, o, none⟩ u) (some g) :=
  ⟨h.os, h.tape, h.output, by simpa using h.size, fun i hi hne => (Below.heap_setCell w' ⟨g, o, none⟩ u i (by intro e; exact hne (by rw [e]))).trans (h.block i hi hne)⟩
theorem below_grown {B g : Nat} {a w w' : World} (h : Below B a w) (hg : w.grownBy w' (some g)) (hB : B ≤ w.heap.size) (hr : B ≤ g) : Below B a w' := h.grown hg hB (by intro k hk; cases hk; exact hr)

def markL (k n : Nat) : List Lb := (List.range n).map fun i => (mkT (k + 2 * i), mkT (k + 2 * i + 1))
theorem markL_len (k n : Nat) : (markL k n).length = n := by simp [markL]
theorem markL_get (k n i : Nat) (h : i < n) : (markL k n).getD i e0 = (mkT (k + 2 * i), mkT (k + 2 * i + 1)) := by simp [markL, h]

/-- The row while it is being marked. -/
def markR (k : Nat) (ls : List Lb) (i : Nat) : List Lb := (markL k i) ++ ls.drop i
theorem markR_zero (k : Nat) (ls : List Lb) : markR k ls 0 = ls := by simp [markR, markL]
theorem markR_end (k n : Nat) (ls : List Lb) (h : ls.length = n) : markR k ls n = markL k n := by simp [markR, ← h]
theorem markR_len (k n i : Nat) (ls : List Lb) (h : ls.length = n) (hi : i ≤ n) : (markR k ls i).length = n := by simp [markR, markL_len]; omega
theorem markR_set (k n i : Nat) (ls : List Lb) (h : ls.length = n) (hi : i < n) : (markR k ls i).set i (mkT (k + 2 * i), mkT (k + 2 * i + 1)) = markR k ls (i + 1) := by
  unfold markR
  rw [List.set_append_right _ _ (by rw [markL_len]; exact Nat.le_refl _), markL_len, Nat.sub_self, List.drop_eq_getElem_cons (by omega), List.set_cons_zero]
  have : markL k (i + 1) = markL k i ++ [(mkT (k + 2 * i), mkT (k + 2 * i + 1))] := by simp [markL, List.range_succ]
  rw [this, List.append_assoc]
  rfl

set_option maxHeartbeats 2000000 in
theorem f34 (g n c base k : Nat) (ls : List Lb) (w : World) (hn : ls.length = n) (hk : k + 2 * n ≤ 100000000) (hown : w.ownsRow base 67 2 (.slice (some ⟨g, 0, none⟩) n c) n (flat ls)) :
    Calls Tryz.prog 34 #[.slice (some ⟨g, 0, none⟩) n c, .int .i64 k] w fun e w' => e = .returned (.int .i64 ((k + 2 * n : Nat) : Int)) ∧ w'.ownsRow base 67 2 (.slice (some ⟨g, 0, none⟩) n c) n (flat (markL k n)) ∧ w.grownBy w' (some g) := by
  have HN := hid hn
  have HO0 := hid hown
  clear hn hown
  go_enter Tryz.func34, Tryz.ntmps34
  go_wp2
  go_loopw [1, 5] (fun sk si wr => ∃ (i m : Nat), i ≤ n ∧ si = .int .i64 i ∧ sk = .int .i64 (m : Int) ∧ Hid (m = k + 2 * i) ∧ wr.ownsRow base 67 2 (.slice (some ⟨g, 0, none⟩) n c) n (flat (markR k ls i)) ∧ w.grownBy wr (some g)) (fun _ si _ => n - (intOf si).toNat)
  case atStart => exact ⟨0, k, Nat.zero_le _, rfl, rfl, rfl, by rw [markR_zero]; exact HO0.out, ⟨rfl, rfl, rfl, Nat.le_refl _, fun _ _ _ => rfl⟩⟩
  case round =>
    obtain ⟨i, m, hi, rfl, rfl, hm, hown, hgr⟩ := hrel
    have HO := hid hown
    have HG := hid hgr
    have HM := hid (markR_len k n i ls HN.out hi)
    clear hown hgr HO0
    by_cases hlt : i < n
    · have HS := hid (markR_set k n i ls HN.out hlt)
      have hm1 : m ≤ 99999998 := by have := hm.out; omega
      go_wp2_with fail
      refine (f57 m _ (by omega)).mono ?_
      rintro e w2 ⟨rfl, hb2⟩
      have HO2 := hid (own_below HO.out hb2)
      have HG2 := hid (grown_trans HG.out (grown_below (some g) hb2))
      have fz := HO2.out.frozenAt (i * 2)
      obtain ⟨y0, y1⟩ := flat_get (markR k ls i) i (by rw [HM.out]; exact hlt)
      have cz := (HO2.out.cellAt (i * 2) (by omega)).trans y0
      have HO3 := hid (HO2.out.stored (i * 2) (.string (mkT m))).1
      have HG3 := hid (grown_setRow (o := i * 2) HG2.out (.string (mkT m)))
      clear hb2 y0 y1
      go_wp2_with fail
      refine (f57 (m + 1) _ (by omega)).mono ?_
      rintro e w3 ⟨rfl, hb3⟩
      have HO4 := hid (own_below HO3.out hb3)
      have HG4 := hid (grown_trans HG3.out (grown_below (some g) hb3))
      have fz4 := HO4.out.frozenAt (i * 2 + 1)
      obtain ⟨y0, y1⟩ := flat_get (markR k ls i) i (by rw [HM.out]; exact hlt)
      have cz4 := (HO4.out.cellAt (i * 2 + 1) (by omega)).trans ((List.getElem?_set_ne (by omega)).trans y1)
      have HO5 := hid (HO4.out.stored (i * 2 + 1) (.string (mkT (m + 1)))).1
      have HG5 := hid (grown_setRow (o := i * 2 + 1) HG4.out (.string (mkT (m + 1))))
      clear hb3 y0 y1 fz cz
      go_wp2
      go_roundw
      case rel =>
        refine ⟨i + 1, m + 2, by omega, by go_num, by go_num, by have := hm.out; unfold Hid; omega, ?_, HG5.out⟩
        have := HO5.out
        rw [flat_set _ i _ _ (by rw [HM.out]; exact hlt)] at this
        rw [← HS.out, ← hm.out]
        exact this
      case measure => simp [intOf]; omega
    · obtain rfl : i = n := by omega
      go_wp2
      go_ret
      exact ⟨by rw [← hm.out]; rfl, by rw [← markR_end k i ls HN.out]; exact HO.out, HG.out⟩
theorem f34n (k : Nat) (w : World) : Calls Tryz.prog 34 #[.slice none 0 0, .int .i64 k] w fun e w' => e = .returned (.int .i64 k) ∧ w' = w := by
  go_enter Tryz.func34, Tryz.ntmps34
  go_wp2
  go_loop [1, 5] (fun sk i => sk = .int .i64 k ∧ i = .int .i64 0) (fun _ _ => 0)
  case atStart => exact ⟨rfl, rfl⟩
  case round =>
    obtain ⟨rfl, rfl⟩ := hrel
    go_wp2
    go_ret
    exact ⟨rfl, rfl⟩
end Go.Proofs.YtooackaijhpohaaGreatDoor.Lab
/- Targets: toTarget, all of it owned; markTarget. -/
namespace Go.Proofs.YtooackaijhpohaaGreatDoor.Rul
open Go.RowKit Go.Proofs.YtooackaijhpohaaGreatDoor.Fil Go.Proofs.YtooackaijhpohaaGreatDoor.Rel
theorem Fr.trans {X Y : Nat} {w x y : World} (h : Fr X Y w x) (h' : Fr X Y x y) : Fr X Y w y :=
  ⟨h'.os.trans h.os, h'.tape.trans h.tape, h'.output.trans h.output, Nat.le_trans h.size h'.size, fun j hj hq => (h'.block j (Nat.lt_of_lt_of_le hj h.size) hq).trans (h.block j hj hq)⟩
theorem nmR.has {X : Nat} {q : Q} {w : World} (h : nmR X q w) : HasT w q.a q.r.from' := by
  unfold nmR at h
  rcases h.2 with ⟨h1, h2⟩ | ⟨g, cap, cur, h1, _⟩
  · exact .inl (List.eq_nil_of_length_eq_zero h2)
  · simp only [Value.slice.injEq] at h1
    rw [h1.1] at h ⊢
    exact HasT.own h
theorem OwnR.has {X g n : Nat} {qs : List Q} {w : World} (h : OwnR X g n qs w) : HasR w (some ⟨g, 0, none⟩) qs := own_rows h.row (fun i hi => (h.txt i (by rw [← h.len]; exact hi)).has)
theorem OwnR.below {X g n : Nat} {qs : List Q} {w w' : World} (h : OwnR X g n qs w) (hb : Below w.heap.size w w') : OwnR X g n qs w' := ⟨h.len, own_below h.row hb, fun i hi => own_below (h.txt i hi) hb, h.off, h.dis⟩
theorem OwnR.put {X g n b o : Nat} {qs : List Q} {w : World} (h : OwnR X g n qs w) (hb : b < g) (vs : List Value) : OwnR X g n qs (putN w b o vs) :=
  ⟨h.len, putN_own' (Nat.ne_of_gt hb) vs _ _ h.row, fun i hi => putN_nm (h.txt i hi) (fun x e => Nat.lt_trans hb (h.off i hi x e)) vs, h.off, h.dis⟩
theorem OwnR.base {X X' g n : Nat} {qs : List Q} {w : World} (h : OwnR X g n qs w) (hb : X' ≤ X) : OwnR X' g n qs w := ⟨h.len, Row.own_base h.row hb, fun i hi => Row.own_base (h.txt i hi) hb, h.off, h.dis⟩
end Go.Proofs.YtooackaijhpohaaGreatDoor.Rul
namespace Go.Proofs.YtooackaijhpohaaGreatDoor.Tgt
open Go.RowKit Go.Proofs.YtooackaijhpohaaGreatDoor.Fil Go.Proofs.YtooackaijhpohaaGreatDoor.Rul
open Go.Proofs.YtooackaijhpohaaGreatDoor.Lab (Lb HasL)

/-- A target that lies in memory of its own, from X on. -/
def OwnT (X : Nat) (t : Tg) (w : World) : Prop :=
  ∃ S, t.la = some ⟨S, 0, none⟩ ∧ w.ownsRow X 67 2 (.slice (some ⟨S, 0, none⟩) t.ls.length t.lc) t.ls.length (Lab.flat t.ls) ∧ ∃ g, t.ra = some ⟨g, 0, none⟩ ∧ t.rc = t.qs.length ∧ OwnR X g t.qs.length t.qs w ∧ S < g
set_option maxHeartbeats 4000000 in
theorem f8o (t : Tg) (w : World) (hr : Has w t) (hz : Sml t) :
    Calls Tryz.prog 8 #[agT t] w fun e w' => ∃ t' : Tg, e = .returned (agT t') ∧ Same t t' ∧ Has w' t' ∧ Below w.heap.size w w' ∧ OwnT w.heap.size t' w' := by
  obtain ⟨ls, la, lc, ev, lm, ho, qs, ra, rc⟩ := t
  have HR := hid hr
  have HZ := hid hz
  clear hr hz
  obtain ⟨W, hW⟩ : ∃ W, W = ((w.alloc (.cells (clT ⟨ls, la, lc, ev, lm, ho, qs, ra, rc⟩) 25)).alloc Z5).alloc Z5 := ⟨_, rfl⟩
  have HWb : Hid (Below w.heap.size w W ∧ W.heap[w.heap.size]? = some (.cells (clT ⟨ls, la, lc, ev, lm, ho, qs, ra, rc⟩) 25) ∧ W.heap[w.heap.size + 1]? = some Z5 ∧ W.heap[w.heap.size + 1 + 1]? = some Z5 ∧ W.heap.size = w.heap.size + 1 + 1 + 1) := by
    subst hW
    obtain ⟨k1, k2, k3⟩ := Rel.three_new w (.cells (clT ⟨ls, la, lc, ev, lm, ho, qs, ra, rc⟩) 25) Z5 Z5
    exact ⟨(((Below.refl w.heap.size w).alloc (Nat.le_refl _) _).alloc (by simp) _).alloc (by simp; omega) _, k1, k2, k3, by simp⟩
  go_enter Tryz.func8, Tryz.ntmps8
  go_wp2_with fail
  rw [← hW]
  refine (Lab.f23 la ls.length lc ls _ rfl HZ.out.ln (HR.out.lab.below HWb.out.1)).mono ?_
  rintro e w1 ⟨rfl, ho1, hb1⟩
  have HL1 := hid (Lab.HasL.own ho1)
  have HO1 := hid ho1
  have HB1 := hid (HWb.out.1.trans (hb1.mono HWb.out.1.size))
  have HA1 := hid (kept HWb.out.2.1 hb1)
  have HC1 := hid (kept HWb.out.2.2.2.1 hb1)
  have HD1 := hid (kept HWb.out.2.2.1 hb1)
  have HSZ := hid HWb.out.2.2.2.2
  clear ho1 hb1 hW HWb
  generalize hWS : W.heap.size = S at *
  clear hWS
  obtain ⟨b0, b1, b2, b3, b4⟩ := cells5 HA1.out
  obtain ⟨c0, c1, c2, c3, c4⟩ := cells5 HC1.out
  have rf0 := five_frz (o := 0) HC1.out
  have rf1 := five_frz (o := 1) HC1.out
  have rf2 := five_frz (o := 2) HC1.out
  have rf3 := five_frz (o := 3) HC1.out
  go_wp2_with fail
  have hsz := HSZ.out
  obtain ⟨w2, hw2⟩ : ∃ w2, w2 = putN w1 (w.heap.size + 1 + 1) 0 [.slice (some ⟨S, 0, none⟩) ls.length ls.length, .int .i64 ev, .int .i64 lm, .bool ho] := ⟨_, rfl⟩
  have HB2 : Hid (Below w.heap.size w w2) := by rw [hw2]; exact putN_below (by omega) _ _ _ HB1.out
  have HC2 : Hid (w2.heap[w.heap.size + 1 + 1]? = some (.cells #[.slice (some ⟨S, 0, none⟩) ls.length ls.length, .int .i64 ev, .int .i64 lm, .bool ho, .slice none 0 0] 31)) := by rw [hw2]; exact five4 HC1.out _ _ _ _
  have HD2 : Hid (w2.heap[w.heap.size + 1]? = some Z5) := by rw [hw2]; exact (putN_block (by omega) _ _ _).trans HD1.out
  have HO2 : Hid (w2.ownsRow S 67 2 (.slice (some ⟨S, 0, none⟩) ls.length ls.length) ls.length (Lab.flat ls)) := by rw [hw2]; exact putN_own' (by omega) _ _ _ HO1.out
  have HL2 : Hid (HasL w2 (some ⟨S, 0, none⟩) ls) := by rw [hw2]; exact putN_labels (by rintro x e; cases e; simp only; omega) _ _ _ HL1.out
  have hS2 : S < w2.heap.size := by rw [hw2, putN_size]; exact (HO1.out.lt S rfl).2
  show Calls Tryz.prog 24 _ (putN w1 (w.heap.size + 1 + 1) 0 [.slice (some ⟨S, 0, none⟩) ls.length ls.length, .int .i64 ev, .int .i64 lm, .bool ho]) _
  rw [← hw2]
  refine (Rul.f24o ra qs.length rc qs w2 rfl HZ.out.qn (HR.out.rul.below HB2.out) HZ.out.rul).mono ?_
  rintro e w3 ⟨qs', rfl, hs3, hown3, hb3⟩
  have HOR := hid hown3
  have hn3 := hown3.len
  have ha3 := hown3.off
  have hr3 := hown3.has
  have HO3 := hid (own_below HO2.out hb3)
  have HB3 := hid (HB2.out.trans (hb3.mono HB2.out.size))
  have HC3 := hid (kept HC2.out hb3)
  have HD3 := hid (kept HD2.out hb3)
  have HL3 := hid (HL2.out.below hb3)
  have HR3 := hid hr3
  have HS3 := hid hs3
  have HA3 := hid ha3
  have HN3 := hid hn3
  have hlt2 : w.heap.size + 1 + 1 < w2.heap.size := lt_at HC2.out
  clear hb3 hr3 hs3 ha3 hn3 hown3 HO1 HO2 HC2 HD2 HL2 HL1 HB1 HA1 HC1 HD1 b0 b1 b2 b3 b4 c0 c1 c2 c3 c4 rf0 rf1 rf2 rf3 hw2 HB2 hsz
  generalize hWS : w2.heap.size = S2 at *
  clear hWS
  obtain ⟨c0, c1, c2, c3, c4⟩ := cells5 HC3.out
  obtain ⟨z0, z1, z2, z3, z4⟩ := cells5 HD3.out
  have rf4 := five_frz (o := 4) HC3.out
  have rg0 := five_frz (o := 0) HD3.out
  have rg1 := five_frz (o := 1) HD3.out
  have rg2 := five_frz (o := 2) HD3.out
  have rg3 := five_frz (o := 3) HD3.out
  have rg4 := five_frz (o := 4) HD3.out
  have HE : Hid (∀ wf, wf = putN (w3.setCell ⟨w.heap.size + 1 + 1, 4, none⟩ (.slice (some ⟨S2, 0, none⟩) qs.length qs.length)) (w.heap.size + 1) 0 [.slice (some ⟨S, 0, none⟩) ls.length ls.length, .int .i64 ev, .int .i64 lm, .bool ho, .slice (some ⟨S2, 0, none⟩) qs.length qs.length] →
      wf.heap[w.heap.size + 1]? = some (.cells #[.slice (some ⟨S, 0, none⟩) ls.length ls.length, .int .i64 ev, .int .i64 lm, .bool ho, .slice (some ⟨S2, 0, none⟩) qs.length qs.length] 31) ∧ Has wf ⟨ls, some ⟨S, 0, none⟩, ls.length, ev, lm, ho, qs', some ⟨S2, 0, none⟩, qs.length⟩ ∧ Below w.heap.size w wf ∧ OwnT w.heap.size ⟨ls, some ⟨S, 0, none⟩, ls.length, ev, lm, ho, qs', some ⟨S2, 0, none⟩, qs.length⟩ wf) := by
    rintro wf rfl
    have hsz := HSZ.out
    have e4 : w3.setCell ⟨w.heap.size + 1 + 1, 4, none⟩ (.slice (some ⟨S2, 0, none⟩) qs.length qs.length) = putN w3 (w.heap.size + 1 + 1) 4 [.slice (some ⟨S2, 0, none⟩) qs.length qs.length] := rfl
    have hq1 : ∀ g, g ≤ w.heap.size + 1 + 1 → ∀ x, (some ⟨S2, 0, none⟩ : Option Addr) = some x → x.block ≠ g := by rintro g hg x e; cases e; simp only; omega
    have hq0 : ∀ g, g ≤ w.heap.size + 1 + 1 → ∀ x, (some ⟨S, 0, none⟩ : Option Addr) = some x → x.block ≠ g := by rintro g hg x e; cases e; simp only; omega
    have hq2 : ∀ g, g ≤ w.heap.size + 1 + 1 → ∀ i, i < qs'.length → ∀ x, (qs'.getD i q0).a = some x → x.block ≠ g := fun g hg i hi x e => by
      have := HA3.out i (by rw [← HN3.out]; exact hi) x e; omega
    refine ⟨?_, ⟨?_, ?_⟩, ?_, ?_⟩
    · refine five5 (x0 := .slice none 0 0) (x1 := .int .i64 0) (x2 := .int .i64 0) (x3 := .bool false) (x4 := .slice none 0 0) ?_ _ _ _ _ _
      rw [e4, putN_block (by omega)]; exact HD3.out
    · rw [e4]; exact putN_labels (hq0 _ (by omega)) _ _ _ (putN_labels (hq0 _ (by omega)) _ _ _ HL3.out)
    · rw [e4]; exact putN_rules (hq1 _ (by omega)) (hq2 _ (by omega)) _ _ _ (putN_rules (hq1 _ (by omega)) (hq2 _ (by omega)) _ _ _ HR3.out)
    · rw [e4]; exact putN_below (by omega) _ _ _ (putN_below (by omega) _ _ _ HB3.out)
    · rw [e4]
      have hl1 := putN_own' (b := w.heap.size + 1) (by omega) [.slice (some ⟨S, 0, none⟩) ls.length ls.length, .int .i64 ev, .int .i64 lm, .bool ho, .slice (some ⟨S2, 0, none⟩) qs.length qs.length] _ 0 (putN_own' (b := w.heap.size + 1 + 1) (by omega) [.slice (some ⟨S2, 0, none⟩) qs.length qs.length] _ 4 HO3.out)
      have hl2 := (HOR.out.put (b := w.heap.size + 1 + 1) (o := 4) (by omega) [.slice (some ⟨S2, 0, none⟩) qs.length qs.length]).put (b := w.heap.size + 1) (o := 0) (by omega) [.slice (some ⟨S, 0, none⟩) ls.length ls.length, .int .i64 ev, .int .i64 lm, .bool ho, .slice (some ⟨S2, 0, none⟩) qs.length qs.length]
      exact ⟨S, rfl, Row.own_base hl1 (by omega), S2, rfl, by rw [HN3.out], by simp only; rw [HN3.out]; exact ⟨hl2.base (by omega), hS2⟩⟩
  go_wp2
  clear c0 c1 c2 c3 c4 z0 z1 z2 z3 z4 rf4 rg0 rg1 rg2 rg3 rg4
  generalize hwf : World.setCell _ _ _ = wf
  obtain ⟨hy, hh, hbl, hot⟩ := HE.out wf hwf.symm
  obtain ⟨y0, y1, y2, y3, y4⟩ := cells5 hy
  have hsame : Same ⟨ls, la, lc, ev, lm, ho, qs, ra, rc⟩ ⟨ls, some ⟨S, 0, none⟩, ls.length, ev, lm, ho, qs', some ⟨S2, 0, none⟩, qs.length⟩ := ⟨rfl, rfl, rfl, rfl, HN3.out, HS3.out⟩
  refine bodyPost_ret (v := .agg #[.slice (some ⟨S, 0, none⟩) ls.length ls.length, .int .i64 ev, .int .i64 lm, .bool ho, .slice (some ⟨S2, 0, none⟩) qs.length qs.length]) ?_ rfl ⟨_, by rw [← HN3.out], hsame, hh, hbl, hot⟩
  simp [results, Tryz.results8, go_sem, y0, y1, y2, y3, y4]
/-- The blocks of the target lie ahead of Y. -/
structure LtT (Y : Nat) (t : Tg) : Prop where
  lab : ∀ x, t.la = some x → x.block < Y
  rul : ∀ x, t.ra = some x → x.block < Y
  txt : ∀ i, i < t.qs.length → ∀ x, (t.qs.getD i q0).a = some x → x.block < Y
theorem OwnT.lt {X : Nat} {t : Tg} {w : World} (h : OwnT X t w) : LtT w.heap.size t := by
  obtain ⟨S, h1, h2, g, h3, h4, h5, h6⟩ := h
  refine ⟨fun x e => ?_, fun x e => ?_, fun i hi x e => ?_⟩
  · rw [h1] at e; cases e; exact (h2.lt S rfl).2
  · rw [h3] at e; cases e; exact (h5.row.lt g rfl).2
  · have := h5.txt i hi
    exact (this.lt x.block (by rw [e]; exact own_blk this e)).2
theorem OwnT.below {X : Nat} {t : Tg} {w w' : World} (h : OwnT X t w) (hb : Below w.heap.size w w') : OwnT X t w' := by
  obtain ⟨S, h1, h2, g, h3, h4, h5, h6⟩ := h
  exact ⟨S, h1, own_below h2 hb, g, h3, h4, h5.below hb, h6⟩
theorem ownR_grown {X g n S : Nat} {qs : List Q} {w w' : World} (h : OwnR X g n qs w) (hS : S < g) (hg : w.grownBy w' (some S)) : OwnR X g n qs w' := by
  refine ⟨h.len, h.row.kept hg (.inr (by simp only [Value.ownBlock]; intro e; have := Option.some.inj e; omega)), fun i hi => ?_, h.off, h.dis⟩
  have ht := h.txt i hi
  refine ht.kept hg ?_
  cases hq : (Value.slice (qs.getD i q0).a (qs.getD i q0).r.from'.length (qs.getD i q0).c).ownBlock with
  | none => exact .inl rfl
  | some b =>
    refine .inr ?_
    intro e
    have e2 := Option.some.inj e
    cases hak : (qs.getD i q0).a with
    | none => rw [hak] at hq; cases hq
    | some z' =>
      have h5 := own_blk ht hak
      rw [hak] at hq
      rw [hq] at h5
      have h6 := Option.some.inj h5
      have h7 := h.off i hi z' hak
      omega
set_option maxHeartbeats 2000000 in
theorem f16 (t : Tg) (X Y : Nat) (w : World) (h : OwnT X t w) (hY : LtT Y t) (hYw : Y ≤ w.heap.size) (hz : Sml t) (ht : t.qs.length + Tot.tot t.qs t.qs.length ≤ 1048576) :
    Calls Tryz.prog 16 #[agT t, .int .i64 1] w fun e w' => (∃ k' : Nat, k' ≤ 50000000 ∧ e = .returned (.int .i64 (k' : Int))) ∧ Fr X Y w w' := by
  obtain ⟨ls, la, lc, ev, lm, ho, qs, ra, rc⟩ := t
  obtain ⟨S, h1, h2, g, h3, h4, h5, h6⟩ := h
  simp only at h1 h2 h3 h4 h5 ht
  subst h1 h3 h4
  have hln : ls.length ≤ 1048576 := hz.ln
  have hS1 : S < Y := hY.lab ⟨S, 0, none⟩ rfl
  have hg1 : g < Y := hY.rul ⟨g, 0, none⟩ rfl
  have HO := hid h2
  have HR := hid h5
  have HYN := hid hY.txt
  have HX := hid (h2.lt S rfl).1
  have HB0 := hid ((Below.refl w.heap.size w).alloc (Nat.le_refl _) (.cells #[.slice (some ⟨S, 0, none⟩) ls.length lc, .int .i64 ev, .int .i64 lm, .bool ho, .slice (some ⟨g, 0, none⟩) qs.length qs.length] 31))
  have HW0 := hid (heap_alloc_new w (.cells #[.slice (some ⟨S, 0, none⟩) ls.length lc, .int .i64 ev, .int .i64 lm, .bool ho, .slice (some ⟨g, 0, none⟩) qs.length qs.length] 31))
  clear h2 h5 hY hz
  go_enter Tryz.func16, Tryz.ntmps16
  go_wp2_with fail
  refine (Lab.f34 S ls.length lc X 1 ls _ rfl (by omega) (HO.out.alloc _)).mono ?_
  rintro e w1 ⟨rfl, _, hg2⟩
  have HF1 := hid (((Fr.refl X Y w).below HB0.out).grown hg2 HX.out hS1)
  have HR1 := hid (ownR_grown (HR.out.below HB0.out) h6 hg2)
  have HW1 : Hid (w1.heap[w.heap.size]? = some (.cells #[.slice (some ⟨S, 0, none⟩) ls.length lc, .int .i64 ev, .int .i64 lm, .bool ho, .slice (some ⟨g, 0, none⟩) qs.length qs.length] 31)) := by
    unfold Hid
    rw [hg2.block _ (by simp) (by simp; omega)]
    exact HW0.out
  clear hg2 HW0
  obtain ⟨b0, b1, b2, b3, b4⟩ := cells5 HW1.out
  go_wp2_with fail
  refine (Rul.f35 X Y g qs.length (1 + 2 * ls.length) qs _ HR1.out hg1 HYN.out (by omega)).mono ?_
  rintro e w2 ⟨⟨k', hk', rfl⟩, hf2⟩
  have HF2 := hid (HF1.out.trans hf2)
  clear hf2
  go_wp2
  go_ret
  exact ⟨⟨k', hk', rfl⟩, HF2.out⟩
end Go.Proofs.YtooackaijhpohaaGreatDoor.Tgt
/- The walk of FnExactPullTimes. -/
namespace Go.Proofs.YtooackaijhpohaaGreatDoor.Ints
open Go.RowKit
theorem own_mk {w : World} {base c k n : Nat} {a : Option Addr} (h : w.ownsRow base 3 1 (.slice a n c) n (vI (mk k n))) : HasI w a (mk k n) :=
  HasI.own (base := base) (c := c) (by simpa only [mk_len] using h)
end Go.Proofs.YtooackaijhpohaaGreatDoor.Ints
namespace Go.Proofs.YtooackaijhpohaaGreatDoor.Tgt
open Go.RowKit Go.Proofs.YtooackaijhpohaaGreatDoor.Fil Go.Proofs.YtooackaijhpohaaGreatDoor.Rul
open Go.Proofs.YtooackaijhpohaaGreatDoor.Ints (HasI vI mk)

/-- Which times are to be told. -/
def PtZ (t : Tg) (f g : Int) (l : List Int) : Prop := (GoodT t ∧ isT f ∧ isT g ∧ ∃ o, OffZ t o ∧ l = ptL t f g o) ∨ (¬ (GoodT t ∧ isT f ∧ isT g) ∧ l = [])
theorem PtZ.len {t : Tg} {f g : Int} {l : List Int} (h : PtZ t f g l) : l.length ≤ 1000 := by
  rcases h with ⟨_, _, _, o, _, rfl⟩ | ⟨_, rfl⟩
  · unfold ptL
    split
    · rw [tl_len]; assumption
    · simp
  · simp
theorem PtZ.uniq {t t' : Tg} {f g : Int} {l l' : List Int} (h : PtZ t f g l) (h' : PtZ t' f g l') (hs : GoodT t ↔ GoodT t') (hl : t'.ls = t.ls) (he : t'.ev = t.ev) : l' = l := by
  rcases h with ⟨h1, h2, h3, o, h4, rfl⟩ | ⟨h1, rfl⟩
  · rcases h' with ⟨k1, k2, k3, o', k4, rfl⟩ | ⟨k1, rfl⟩
    · rw [h4.uniq k4 hs hl he]; unfold ptL; rw [he]
    · exact absurd ⟨hs.1 h1, h2, h3⟩ k1
  · rcases h' with ⟨k1, k2, k3, o', k4, rfl⟩ | ⟨k1, rfl⟩
    · exact absurd ⟨hs.2 k1, k2, k3⟩ h1
    · rfl
theorem own_fr {X Y : Nat} {w w' : World} {base e size n : Nat} {v : Value} {xs : List Value} (h : w.ownsRow base e size v n xs) (hf : Fr X Y w w') (hY : Y ≤ base) : w'.ownsRow base e size v n xs := by
  refine ⟨h.1, ?_⟩
  rcases h.2 with h2 | ⟨g, cap, cur, h1, h2, h3, h4⟩
  · exact .inl h2
  · refine .inr ⟨g, cap, cur, h1, h2, ?_, h4⟩
    have hlt : g < w.heap.size := lt_at h3
    exact (hf.block g hlt (.inr (Nat.le_trans hY h2))).trans h3
theorem fr_below {X Y : Nat} {w0 w w' : World} (hb : Below X w0 w) (hf : Fr X Y w w') (hX : X ≤ w.heap.size) : Below X w0 w' :=
  ⟨hf.os.trans hb.os, hf.tape.trans hb.tape, hf.output.trans hb.output, Nat.le_trans hb.size hf.size, fun j hj => (hf.block j (by omega) (.inl hj)).trans (hb.block j hj)⟩
theorem grown_below {X g : Nat} {w0 w w' : World} (hb : Below X w0 w) (hf : w.grownBy w' (some g)) (hX : X ≤ w.heap.size) (hg : X ≤ g) : Below X w0 w' :=
  ⟨hf.os.trans hb.os, hf.tape.trans hb.tape, hf.output.trans hb.output, Nat.le_trans hb.size hf.size, fun j hj => (hf.block j (by omega) (by simp; omega)).trans (hb.block j hj)⟩
theorem tot_same : ∀ (qs qs' : List Q), qs'.length = qs.length → (∀ i, i < qs.length → (qs'.getD i q0).r = (qs.getD i q0).r) → (qs'.map fun q => q.r.from'.length).sum = (qs.map fun q => q.r.from'.length).sum := by
  intro qs
  induction qs with
  | nil => intro qs' hn _; rw [List.eq_nil_of_length_eq_zero hn]
  | cons q qs ih =>
    intro qs' hn h
    cases qs' with
    | nil => simp at hn
    | cons q' qs' =>
      have h0 : q'.r = q.r := h 0 (by simp)
      have h1 := ih qs' (by simpa using hn) (fun i hi => h (i + 1) (by simp; omega))
      simp only [List.map_cons, List.sum_cons, h0, h1]
theorem Same.tot {t t' : Tg} (h : Same t t') (ht : t.qs.length + Tot.tot t.qs t.qs.length ≤ 1048576) : t'.qs.length + Tot.tot t'.qs t'.qs.length ≤ 1048576 := by
  unfold Tot.tot at *
  rw [List.take_length] at *
  rw [h.qn, tot_same _ _ h.qn h.rul]
  exact ht
/-- What lies about, the times that were told besides. -/
structure Pw (w0 w : World) (t t' : Tg) (B : Nat) (a : Option Addr) (c : Nat) (l : List Int) (x : World) : Prop where
  wx : Wx w t t' B x
  own : OwnT w0.heap.size t' x
  row : x.ownsRow (B + 1) 3 1 (.slice a l.length c) l.length (vI l)
  bel : Below w0.heap.size w0 x
theorem Pw.below {w0 w : World} {t t' : Tg} {B : Nat} {a : Option Addr} {c : Nat} {l : List Int} {x y : World} (h : Pw w0 w t t' B a c l x) (hb : Below x.heap.size x y) : Pw w0 w t t' B a c l y :=
  ⟨h.wx.below hb, h.own.below hb, own_below h.row hb, h.bel.trans (hb.mono h.bel.size)⟩
abbrev PS (w0 w : World) (t t' : Tg) (B : Nat) (a : Option Addr) (c : Nat) (l : List Int) (x : World) : Prop :=
  x.cell? ⟨w.heap.size, 0, none⟩ = some (.slice t.la t.ls.length t.lc) ∧ x.cell? ⟨w.heap.size, 1, none⟩ = some (.int .i64 t.ev) ∧ x.cell? ⟨w.heap.size, 2, none⟩ = some (.int .i64 t.lm) ∧ x.cell? ⟨w.heap.size, 3, none⟩ = some (.bool t.ho) ∧ x.cell? ⟨w.heap.size, 4, none⟩ = some (.slice t.ra t.qs.length t.rc) ∧
  x.cell? ⟨B, 0, none⟩ = some (.slice t'.la t'.ls.length t'.lc) ∧ x.cell? ⟨B, 1, none⟩ = some (.int .i64 t'.ev) ∧ x.cell? ⟨B, 2, none⟩ = some (.int .i64 t'.lm) ∧ x.cell? ⟨B, 3, none⟩ = some (.bool t'.ho) ∧ x.cell? ⟨B, 4, none⟩ = some (.slice t'.ra t'.qs.length t'.rc) ∧ Pw w0 w t t' B a c l x
section
variable {w0 w : World} {t t' : Tg} {B : Nat} {a : Option Addr} {c : Nat} {l : List Int} {x y : World}
theorem Pw.cells (h : Pw w0 w t t' B a c l x) : PS w0 w t t' B a c l x := by
  obtain ⟨b0, b1, b2, b3, b4⟩ := cells5 h.wx.one
  obtain ⟨c0, c1, c2, c3, c4⟩ := cells5 h.wx.two
  exact ⟨b0, b1, b2, b3, b4, c0, c1, c2, c3, c4, h⟩
theorem PS.pw (h : PS w0 w t t' B a c l x) : Pw w0 w t t' B a c l x := h.2.2.2.2.2.2.2.2.2.2
theorem PS.below (h : PS w0 w t t' B a c l x) (hb : Below x.heap.size x y) : PS w0 w t t' B a c l y := (h.pw.below hb).cells
end
/-- What the world before held, the box of the argument besides. -/
structure Pv (w0 w : World) (t : Tg) (a : Option Addr) (l : List Int) : Prop where
  one : w0.heap[w.heap.size]? = some (.cells (clT t) 25)
  arg : Has w0 t
  bel : Below w.heap.size w w0
  row : HasI w0 a l
theorem Pv.below {w0 w : World} {t : Tg} {a : Option Addr} {l : List Int} {x : World} (h : Pv w0 w t a l) (hb : Below w0.heap.size w0 x) : Pv x w t a l := ⟨kept h.one hb, h.arg.below hb, h.bel.trans (hb.mono h.bel.size), h.row.below hb⟩

set_option maxHeartbeats 8000000 in
theorem walk5 (t : Tg) (f g : Int) (w : World) (hr : Has w t) (hf : FitG t) (ht : Rel.Tab w) :
    Calls Tryz.prog 5 #[agT t, .int .i64 f, .int .i64 g] w fun e w' => e = .returned (.bool true) ∧ Below w.heap.size w w' := by
  have hbb := (Below.refl w.heap.size w).alloc (Nat.le_refl _) (.cells (clT t) 25)
  have H0 := hid (show (w.alloc (.cells (clT t) 25)).heap[w.heap.size]? = some (.cells (clT t) 25) ∧ Has (w.alloc (.cells (clT t) 25)) t ∧ Below w.heap.size w (w.alloc (.cells (clT t) 25)) from ⟨heap_alloc_new w _, hr.below hbb, hbb⟩)
  have HF := hid hf
  have HT := hid ht
  clear hr hf ht hbb
  obtain ⟨ls, la, lc, ev, lm, ho, qs, ra, rc⟩ := t
  go_enter Tryz.func5, Tryz.ntmps5
  go_wp2_with fail
  refine (Tgt.f6t ⟨ls, la, lc, ev, lm, ho, qs, ra, rc⟩ _ H0.out.2.1 HF.out).mono ?_
  rintro e w1 ⟨y, rfl, hy, hb1⟩
  have H1 := hid (show w1.heap[w.heap.size]? = some (.cells (clT ⟨ls, la, lc, ev, lm, ho, qs, ra, rc⟩) 25) ∧ Has w1 ⟨ls, la, lc, ev, lm, ho, qs, ra, rc⟩ ∧ Below w.heap.size w w1 from ⟨kept H0.out.1 hb1, H0.out.2.1.below hb1, H0.out.2.2.trans (hb1.mono H0.out.2.2.size)⟩)
  clear hb1 H0
  by_cases g0 : y < 0
  · go_wp2
    go_ret
    exact ⟨rfl, H1.out.2.2⟩
  have HZ := hid (hy (by omega)).1
  have HTO := hid (hy (by omega)).2
  clear hy
  obtain ⟨b0, b1, b2, b3, b4⟩ := cells5 H1.out.1
  go_wp2_with fail
  refine (f8 ⟨ls, la, lc, ev, lm, ho, qs, ra, rc⟩ _ H1.out.2.1 HZ.out).mono ?_
  rintro e w2 ⟨t2, rfl, hs2, hh2, hb2⟩
  have H2 := hid (show w2.heap[w.heap.size]? = some (.cells (clT ⟨ls, la, lc, ev, lm, ho, qs, ra, rc⟩) 25) ∧ Has w2 ⟨ls, la, lc, ev, lm, ho, qs, ra, rc⟩ ∧ Below w.heap.size w w2 from ⟨kept H1.out.1 hb2, H1.out.2.1.below hb2, H1.out.2.2.trans (hb2.mono H1.out.2.2.size)⟩)
  have HS2 := hid hs2
  have HH2 := hid hh2
  clear hb2 hs2 hh2 H1 b0 b1 b2 b3 b4
  go_wp2_with fail
  refine (f13 t2 f g _ HH2.out (HS2.out.fit HF.out) (HS2.out.sml HZ.out)).mono ?_
  rintro e w3 ⟨l, a0, c0, rfl, ho3, hb3, hp⟩
  have HP : Hid (PtZ t2 f g l) := hp
  have HL := hid HP.out.len
  have HV : Hid (Pv w3 w ⟨ls, la, lc, ev, lm, ho, qs, ra, rc⟩ a0 l) := ⟨kept H2.out.1 hb3, H2.out.2.1.below hb3, H2.out.2.2.trans (hb3.mono H2.out.2.2.size), HasI.own ho3⟩
  clear hb3 hp H2 HH2 ho3
  obtain ⟨b0, b1, b2, b3, b4⟩ := cells5 HV.out.one
  go_wp2_with fail
  refine (f8o ⟨ls, la, lc, ev, lm, ho, qs, ra, rc⟩ _ HV.out.arg HZ.out).mono ?_
  rintro e w4 ⟨t4, rfl, hs4, hh4, hb4, how4⟩
  obtain ⟨ls4, la4, lc4, ev4, lm4, ho4, qs4, ra4, rc4⟩ := t4
  have hb := (Below.refl w4.heap.size w4).alloc (Nat.le_refl _) (.cells (clT ⟨ls4, la4, lc4, ev4, lm4, ho4, qs4, ra4, rc4⟩) 31)
  have HV4 := HV.out.below hb4
  have HB5 := hid (hb4.trans (hb.mono hb4.size))
  have H5 : Hid (Wx w ⟨ls, la, lc, ev, lm, ho, qs, ra, rc⟩ ⟨ls4, la4, lc4, ev4, lm4, ho4, qs4, ra4, rc4⟩ w4.heap.size (w4.alloc (.cells (clT ⟨ls4, la4, lc4, ev4, lm4, ho4, qs4, ra4, rc4⟩) 31))) :=
    ⟨kept HV4.one hb, heap_alloc_new w4 _, HV4.arg.below hb, hh4.below hb, HV4.bel.trans (hb.mono HV4.bel.size)⟩
  have HO5 := hid (how4.below hb)
  have HLT := hid how4.lt
  have HXB := hid hb4.size
  have HS4 := hid hs4
  have HSZ : Hid ((w4.alloc (.cells (clT ⟨ls4, la4, lc4, ev4, lm4, ho4, qs4, ra4, rc4⟩) 31)).heap.size = w4.heap.size + 1) := by unfold Hid; simp
  clear hb4 hs4 hh4 how4 HV4 hb b0 b1 b2 b3 b4
  obtain ⟨c0', c1, c2, c3, c4⟩ := cells5 H5.out.two
  have HT5 := hid (HT.out.below H5.out.bel)
  generalize hBB : w4.heap.size = BB at *
  go_wp2_with fail
  refine (f14 ⟨ls4, la4, lc4, ev4, lm4, ho4, qs4, ra4, rc4⟩ f g _ H5.out.has (HS4.out.fit HF.out) (HS4.out.sml HZ.out) HT5.out).mono ?_
  rintro e w6 ⟨l', a6, c6, rfl, ho6, hb6, hp'⟩
  have hll : l' = l := HP.out.uniq hp' (HS2.out.good.trans HS4.out.good.symm) (HS4.out.ls.trans HS2.out.ls.symm) (HS4.out.ev.trans HS2.out.ev.symm)
  subst hll
  rw [HSZ.out] at ho6
  have H6 : Hid (Pw w3 w ⟨ls, la, lc, ev, lm, ho, qs, ra, rc⟩ ⟨ls4, la4, lc4, ev4, lm4, ho4, qs4, ra4, rc4⟩ BB a6 c6 l' w6) := ⟨H5.out.below hb6, HO5.out.below hb6, ho6, HB5.out.trans (hb6.mono HB5.out.size)⟩
  clear hb6 hp' H5 HT5 c0' c1 c2 c3 c4 ho6 HO5 HB5 HSZ hBB
  have HS4' := hid HS4.out
  have HZ4 := hid (HS4.out.sml HZ.out)
  have HT4 := hid (HS4.out.tot HTO.out)
  have HLN := HL.out
  go_wp2_with fail
  refine (Ints.f15 a6 a0 c6 c0 l' _ (by omega) (HasI.own H6.out.row) (HV.out.row.below H6.out.bel)).mono ?_
  rintro e w7 ⟨rfl, hb7⟩
  have H7 := hid (H6.out.below hb7)
  clear hb7 H6
  go_wp2_with fail
  go_region_held3 (fun x => PS w3 w ⟨ls, la, lc, ev, lm, ho, qs, ra, rc⟩ ⟨ls4, la4, lc4, ev4, lm4, ho4, qs4, ra4, rc4⟩ BB a6 c6 l' x) (first | exact (H7.out.below (below_drew _)).cells | assumption) (first | (go_at_call 8; refine (f8 ⟨ls, la, lc, ev, lm, ho, qs, ra, rc⟩ _ (Wx.arg (Pw.wx (PS.pw (by assumption)))) HZ.out).mono ?_; rintro e w7 ⟨t7, rfl, hs7, hh7, hb7⟩; have hq7 := PS.below (by assumption) hb7; clear hb7) | (go_at_call 10; refine (f10 ⟨ls4, la4, lc4, ev4, lm4, ho4, qs4, ra4, rc4⟩ t7 _ (Wx.has (Pw.wx (PS.pw (by assumption)))) (by assumption) (HS4'.out.trans' (by assumption)) HZ4.out).mono ?_; rintro e w8 ⟨rfl, hb8⟩; have hq8 := PS.below (by assumption) hb8; clear hb8))
  have H8 := hid hq8.pw
  clear hq8
  obtain ⟨c0', c1, c2, c3, c4⟩ := cells5 H8.out.wx.two
  have hBlt : BB ≤ w8.heap.size := Nat.le_of_lt (lt_at H8.out.wx.two)
  have HXB' := HXB.out
  go_wp2_with fail
  refine (f16 ⟨ls4, la4, lc4, ev4, lm4, ho4, qs4, ra4, rc4⟩ w3.heap.size BB _ H8.out.own HLT.out hBlt HZ4.out HT4.out).mono ?_
  rintro e w9 ⟨⟨k', _, rfl⟩, hf9⟩
  have HB9 := hid (fr_below H8.out.bel hf9 H8.out.bel.size)
  have HR9 := hid (own_fr H8.out.row hf9 (by omega))
  clear hf9 H8 c0' c1 c2 c3 c4
  go_wp2_with fail
  refine (Ints.f15 a6 a0 c6 c0 l' _ (by omega) (HasI.own HR9.out) (HV.out.row.below HB9.out)).mono ?_
  rintro e w10 ⟨rfl, hb10⟩
  have HB10 := hid (HB9.out.trans (hb10.mono HB9.out.size))
  have HR10 := hid (own_below HR9.out hb10)
  clear hb10 HB9 HR9
  clear HLT HS4' HZ4 HT4 HXB hBlt HTO HS4
  generalize hX3 : w3.heap.size = X3 at *
  rcases HR10.out.2 with ⟨h1, h2⟩ | ⟨g', cap, cur, h1, h2, h3⟩
  · have hl0 : l' = [] := List.eq_nil_of_length_eq_zero h2
    subst hl0
    simp only [Value.slice.injEq] at h1
    obtain ⟨rfl, -, rfl⟩ := h1
    go_wp2_with fail
    refine (Ints.f17n 1 _).mono ?_
    rintro e w11 ⟨rfl, rfl⟩
    go_wp2_with fail
    refine (Ints.f18n 1 _).mono ?_
    rintro e w12 ⟨rfl, rfl⟩
    subst hX3
    have HV12 := HV.out.below HB10.out
    obtain ⟨b0, b1, b2, b3, b4⟩ := cells5 HV12.one
    go_wp2_with fail
    refine (f8 ⟨ls, la, lc, ev, lm, ho, qs, ra, rc⟩ _ HV12.arg HZ.out).mono ?_
    rintro e w13 ⟨t13, rfl, hs13, hh13, hb13⟩
    have HV13 := hid (HV12.below hb13)
    have HS13 := hid hs13
    have HH13 := hid hh13
    clear hb13 hs13 hh13 HV12 b0 b1 b2 b3 b4
    have HT13 := hid (HT.out.below HV13.out.bel)
    go_wp2_with fail
    refine (f14 t13 f g _ HH13.out (HS13.out.fit HF.out) (HS13.out.sml HZ.out) HT13.out).mono ?_
    rintro e w14 ⟨l', a6, c6, rfl, ho14, hb14, hp'⟩
    have hll : l' = [] := HP.out.uniq hp' (HS2.out.good.trans HS13.out.good.symm) (HS13.out.ls.trans HS2.out.ls.symm) (HS13.out.ev.trans HS2.out.ev.symm)
    subst hll
    have HV14 := hid (HV13.out.below hb14)
    have HR14 := hid (HasI.own ho14)
    clear hb14 ho14 hp'
    go_wp2_with fail
    refine (Ints.f15 a6 a0 c6 c0 [] _ (by simp) HR14.out HV14.out.row).mono ?_
    rintro e w15 ⟨rfl, hb15⟩
    have HV15 := hid (HV14.out.below hb15)
    clear hb15
    go_wp2_with fail
    refine (Ints.f18n 1 _).mono ?_
    rintro e w16 ⟨rfl, rfl⟩
    go_wp2
    go_ret
    exact ⟨rfl, HV15.out.bel⟩
  · simp only [Value.slice.injEq] at h1
    obtain ⟨rfl, -, rfl⟩ := h1
    clear h2 h3 cur
    have hg1 := HR10.out.lt g' rfl
    have hg2 : X3 ≤ g' := by omega
    generalize hK : 1 + l'.length = K
    have hK1 : K ≤ 1001 := by omega
    go_wp2_with fail
    refine (Ints.f17 g' l'.length c6 (BB + 1) 1 l' _ rfl (by omega) HR10.out).mono ?_
    rintro e w11 ⟨rfl, ho11, hgr11⟩
    have HB11 : Hid (Below X3 w3 w11) := grown_below HB10.out hgr11 (by subst hX3; exact HB10.out.size) hg2
    have HR11 := hid ho11
    clear hgr11 ho11 HB10 HR10 hg1
    rw [hK]
    go_wp2_with fail
    refine (Ints.f18 g' l'.length c6 1 _ (by omega) (Ints.own_mk HR11.out)).mono ?_
    rintro e w12 ⟨rfl, hb12⟩
    subst hX3
    have HB12 := hid (HB11.out.trans (hb12.mono HB11.out.size))
    have HR12 := hid (own_below HR11.out hb12)
    clear hb12 HB11 HR11
    have HV12 := HV.out.below HB12.out
    obtain ⟨b0, b1, b2, b3, b4⟩ := cells5 HV12.one
    rw [hK]
    go_wp2_with fail
    refine (f8 ⟨ls, la, lc, ev, lm, ho, qs, ra, rc⟩ _ HV12.arg HZ.out).mono ?_
    rintro e w13 ⟨t13, rfl, hs13, hh13, hb13⟩
    have HV13 := hid (HV12.below hb13)
    have HR13 := hid (own_below HR12.out hb13)
    have HS13 := hid hs13
    have HH13 := hid hh13
    clear hb13 hs13 hh13 HV12 b0 b1 b2 b3 b4 HR12 HB12
    have HT13 := hid (HT.out.below HV13.out.bel)
    go_wp2_with fail
    refine (f14 t13 f g _ HH13.out (HS13.out.fit HF.out) (HS13.out.sml HZ.out) HT13.out).mono ?_
    rintro e w14 ⟨l, a6, c6', rfl, ho14, hb14, hp'⟩
    have hll : l = l' := HP.out.uniq hp' (HS2.out.good.trans HS13.out.good.symm) (HS13.out.ls.trans HS2.out.ls.symm) (HS13.out.ev.trans HS2.out.ev.symm)
    subst hll
    have HV14 := hid (HV13.out.below hb14)
    have HG14 := hid (own_below HR13.out hb14)
    have HR14 := hid (HasI.own ho14)
    clear hb14 ho14 hp' HR13
    go_wp2_with fail
    refine (Ints.f15 a6 a0 c6' c0 l _ (by omega) HR14.out HV14.out.row).mono ?_
    rintro e w15 ⟨rfl, hb15⟩
    have HV15 := hid (HV14.out.below hb15)
    have HG15 := hid (own_below HG14.out hb15)
    clear hb15 HV14 HG14 HR14
    go_wp2_with fail
    refine (Ints.f18 g' l.length c6 1 _ (by omega) (Ints.own_mk HG15.out)).mono ?_
    rintro e w16 ⟨rfl, hb16⟩
    have HV16 := hid (HV15.out.below hb16)
    clear hb16
    rw [hK]
    go_wp2
    go_ret
    exact ⟨rfl, HV16.out.bel⟩
end Go.Proofs.YtooackaijhpohaaGreatDoor.Tgt
