/- Intervals that are drawn: the state of oddInterval. -/
import Derived.Test.YtcnilidckicccaaDoorIwd
namespace Go.Proofs.YtcnilidckicccaaDoor.Cur
open Go.RowKit
open Go.Proofs.YtcnilidckicccaaDoor.Cal (hid)
open Go.Proofs.YtcnilidckicccaaDoor.Rng (Sm e0 HasS Fit flat In64)

/-- Nothing below X, and not D, has turned but R. -/
structure Kb (X D R : Nat) (w w' : World) : Prop where
  os : w'.os = w.os
  tape : w'.tape = w.tape
  output : w'.output = w.output
  size : w.heap.size ≤ w'.heap.size
  block : ∀ i, (i < X ∨ i = D) → i ≠ R → w'.heap[i]? = w.heap[i]?
theorem Kb.refl (X D R : Nat) (w : World) : Kb X D R w w := ⟨rfl, rfl, rfl, Nat.le_refl _, fun _ _ _ => rfl⟩
theorem Kb.step {X D R : Nat} {w x y : World} {row : Option Nat} (h : Kb X D R w x) (hX : X ≤ w.heap.size ∧ D < w.heap.size) (hg : x.grownBy y row) (hr : ∀ g, row = some g → g = R ∨ (X ≤ g ∧ g ≠ D)) : Kb X D R w y :=
  ⟨hg.os.trans h.os, hg.tape.trans h.tape, hg.output.trans h.output, Nat.le_trans h.size hg.size, fun i hi hR => (hg.block i (by have := h.size; omega) (fun e => by rcases hr i e.symm with e | e; exact hR e; omega)).trans (h.block i hi hR)⟩
theorem RowR.up {K K' X : Nat} {w : World} {v : Value} (h : RowR K X w v) (hk : K ≤ K') : RowR K' X w v := by
  obtain ⟨a, n, c, l, rfl, h1, h2, h3, h4⟩ := h; exact ⟨a, n, c, l, rfl, by omega, h2, h3, h4⟩
theorem RowI.up {K K' X : Nat} {w : World} {v : Value} (h : RowI K X w v) (hk : K ≤ K') : RowI K' X w v := by
  obtain ⟨a, n, c, l, rfl, h1, h2, h3, h4⟩ := h; exact ⟨a, n, c, l, rfl, by omega, h2, h3, h4⟩
theorem Bx.up {K K' X B : Nat} {z : Int} {v1 v2 v3 v4 v5 v6 : Value} {w : World} (h : Bx K X B z v1 v2 v3 v4 v5 v6 w) (hk : K ≤ K') : Bx K' X B z v1 v2 v3 v4 v5 v6 w :=
  ⟨h.box, h.z, h.r1.up hk, h.r2.up hk, h.r3.up hk, h.r4.up hk, h.r5.up hk, h.r6.up hk, h.ap, h.nb⟩
/-- The box at B, the result's at B + 1, all else below X as it was. -/
structure Od (K B0 R n c lim : Nat) (a : Option Addr) (w : World) (X D B : Nat) (z : Int) (v1 v2 v3 v4 v5 v6 : Value) (x : World) : Prop where
  bx : Bx K X B z v1 v2 v3 v4 v5 v6 x
  ny : ∀ v ∈ [v1, v2, v3, v4, v5, v6], v.ownBlock ≠ some (B + 1)
  cu : Cu B0 R a n c lim x
  kb : Kb X D R w x
  res : x.heap[B + 1]? = some ZI
  ord : R < X ∧ (X ≤ w.heap.size ∧ D < w.heap.size) ∧ w.heap.size ≤ B
  nd : ∀ v ∈ [v1, v2, v3, v4, v5, v6], v.ownBlock ≠ some D
theorem Od.mono {K B0 R n c lim : Nat} {a : Option Addr} {w : World} {X D B : Nat} {z : Int} {v1 v2 v3 v4 v5 v6 : Value} {x : World} (h : Od K B0 R n c lim a w X D B z v1 v2 v3 v4 v5 v6 x) {lim' : Nat} (hl : lim ≤ lim') : Od K B0 R n c lim' a w X D B z v1 v2 v3 v4 v5 v6 x := ⟨h.bx, h.ny, h.cu.mono hl, h.kb, h.res, h.ord, h.nd⟩
theorem Od.up {K B0 R n c lim : Nat} {a : Option Addr} {w : World} {X D B : Nat} {z : Int} {v1 v2 v3 v4 v5 v6 : Value} {x : World} (h : Od K B0 R n c lim a w X D B z v1 v2 v3 v4 v5 v6 x) {K' : Nat} (hk : K ≤ K') : Od K' B0 R n c lim a w X D B z v1 v2 v3 v4 v5 v6 x := ⟨h.bx.up hk, h.ny, h.cu, h.kb, h.res, h.ord, h.nd⟩
theorem Od.call {K B0 R n c lim : Nat} {a : Option Addr} {w : World} {X D B : Nat} {z : Int} {v1 v2 v3 v4 v5 v6 : Value} {x : World} (h : Od K B0 R n c lim a w X D B z v1 v2 v3 v4 v5 v6 x) {y : World} {lim' : Nat} (hg : x.grownBy y (some R)) (hc : Cu B0 R a n c lim' y) : Od K B0 R n c lim' a w X D B z v1 v2 v3 v4 v5 v6 y := by
  have ho := h.ord
  exact ⟨h.bx.of hg (fun g e => by cases e; omega), h.ny, hc, h.kb.step ho.2.1 hg (fun g e => .inl (Option.some.inj e).symm), (hg.block (B + 1) (Cal.lt_block h.res) (fun e => by have := Option.some.inj e; omega)).trans h.res, ho, h.nd⟩
theorem Od.quiet {K B0 R n c lim : Nat} {a : Option Addr} {w : World} {X D B : Nat} {z : Int} {v1 v2 v3 v4 v5 v6 : Value} {x : World} (h : Od K B0 R n c lim a w X D B z v1 v2 v3 v4 v5 v6 x) {y : World} (hg : x.grownBy y none) : Od K B0 R n c lim a w X D B z v1 v2 v3 v4 v5 v6 y := by
  have ho := h.ord
  exact ⟨h.bx.of hg (fun g e => by cases e), h.ny, cuKept h.cu hg (fun g e => by cases e), h.kb.step ho.2.1 hg (fun g e => by cases e), (hg.block (B + 1) (Cal.lt_block h.res) (fun e => by cases e)).trans h.res, ho, h.nd⟩
theorem Od.new {K B0 R n c lim : Nat} {a : Option Addr} {w : World} {X D B : Nat} {z : Int} {v1 v2 v3 v4 v5 v6 : Value} {x : World} (h : Od K B0 R n c lim a w X D B z v1 v2 v3 v4 v5 v6 x) (o : Obj) : Od K B0 R n c lim a w X D B z v1 v2 v3 v4 v5 v6 (x.alloc o) := h.quiet (grown_alloc (World.grownBy.refl _ _) o)
theorem Od.drew {K B0 R n c lim : Nat} {a : Option Addr} {w : World} {X D B : Nat} {z : Int} {v1 v2 v3 v4 v5 v6 : Value} {x : World} (h : Od K B0 R n c lim a w X D B z v1 v2 v3 v4 v5 v6 x) : Od K B0 R n c lim a w X D B z v1 v2 v3 v4 v5 v6 x.drew := h.quiet ⟨rfl, rfl, rfl, Nat.le_refl _, fun _ _ _ => rfl⟩
theorem Od.box {K B0 R n c lim : Nat} {a : Option Addr} {w : World} {X D B : Nat} {z : Int} {v1 v2 v3 v4 v5 v6 : Value} {x : World} (h : Od K B0 R n c lim a w X D B z v1 v2 v3 v4 v5 v6 x) {z' : Int} {u1 u2 u3 u4 u5 u6 v : Value} {o : Nat} (hb : Bx K X B z' u1 u2 u3 u4 u5 u6 (x.setCell ⟨B, o, none⟩ v)) (hn : ∀ v ∈ [u1, u2, u3, u4, u5, u6], v.ownBlock ≠ some (B + 1)) (hd : ∀ v ∈ [u1, u2, u3, u4, u5, u6], v.ownBlock ≠ some D) : Od K B0 R n c lim a w X D B z' u1 u2 u3 u4 u5 u6 (x.setCell ⟨B, o, none⟩ v) := by
  have ho := h.ord
  have hg := set_grown x B o v
  exact ⟨hb, hn, cuKept h.cu hg (by intro g e; cases e; omega), h.kb.step ho.2.1 hg (fun g e => by cases e; omega), (hg.block (B + 1) (Cal.lt_block h.res) (fun e => by have := Option.some.inj e; omega)).trans h.res, ho, hd⟩
theorem Od.put0 {K B0 R n c lim : Nat} {a : Option Addr} {w : World} {X D B : Nat} {z : Int} {v1 v2 v3 v4 v5 v6 : Value} {x : World} (h : Od K B0 R n c lim a w X D B z v1 v2 v3 v4 v5 v6 x) (y : Int) (hy : In64 y) : ∀ q, q = x.setCell ⟨B, 0, none⟩ (.int .i64 y) → Od K B0 R n c lim a w X D B y v1 v2 v3 v4 v5 v6 q := by
  rintro q rfl
  exact h.box (h.bx.s0 hy) h.ny h.nd
theorem Od.put5 {K B0 R n c lim : Nat} {a : Option Addr} {w : World} {X D B : Nat} {z : Int} {v1 v2 v3 v4 v5 v6 : Value} {x : World} (h : Od K B0 R n c lim a w X D B z v1 v2 v3 v4 v5 v6 x) (h2 : 2 ≤ K) (p q : Int) (hp : In64 p) (hq : In64 q) : ∀ y, y = (x.alloc (.cells #[.int .i64 p, .int .i64 q] 55)).setCell ⟨B, 5, none⟩ (.slice (some ⟨x.heap.size, 0, none⟩) 1 1) → Od K B0 R n c lim a w X D B z v1 v2 v3 v4 (.slice (some ⟨x.heap.size, 0, none⟩) 1 1) v6 y := by
  rintro y rfl
  have hlt := Cal.lt_block h.bx.box
  have hlt2 := Cal.lt_block h.res
  have ho := h.ord
  obtain ⟨f1, f2⟩ := h.bx.far (v := .slice (some ⟨x.heap.size, 0, none⟩) 1 1) (Nat.le_refl _) (fun g e => by cases e; exact Nat.le_refl _) v5
  have hs : (Value.slice (some ⟨x.heap.size, 0, none⟩) 1 1).ownBlock ≠ some (B + 1) := fun e => by
    have := Option.some.inj (show some x.heap.size = some (B + 1) from e); omega
  have hs2 : (Value.slice (some ⟨x.heap.size, 0, none⟩) 1 1).ownBlock ≠ some D := fun e => by
    have := Option.some.inj (show some x.heap.size = some D from e); omega
  refine (h.new _).box ((h.bx.new _).s5 ((RowR.one x p q hp hq X (by omega)).up h2) f1 f2) ?_ ?_
  · intro v hv
    simp only [List.mem_cons, List.not_mem_nil, or_false] at hv
    rcases hv with rfl | rfl | rfl | rfl | rfl | rfl
    all_goals first | exact hs | exact h.ny _ (by simp)
  · intro v hv
    simp only [List.mem_cons, List.not_mem_nil, or_false] at hv
    rcases hv with rfl | rfl | rfl | rfl | rfl | rfl
    all_goals first | exact hs2 | exact h.nd _ (by simp)
theorem Od.app1 {K B0 R n c lim : Nat} {a : Option Addr} {w : World} {X D B : Nat} {z : Int} {v1 v2 v3 v4 v5 v6 : Value} {x : World} (h : Od K B0 R n c lim a w X D B z v1 v2 v3 v4 v5 v6 x) {K' : Nat} {y : World} {v : Value} (hk : K ≤ K') (hgr : x.grownBy y v1.ownBlock) (hv : RowR K' X y v) (ho : v.ownBlock = v1.ownBlock ∨ v.ownBlock = some x.heap.size) : ∀ q, q = y.setCell ⟨B, 1, none⟩ v → Od K' B0 R n c lim a w X D B z v v2 v3 v4 v5 v6 q := by
  rintro q rfl
  have hb := h.bx.up hk
  have hX := h.ord
  have hlt := Cal.lt_block h.bx.box
  have hlt2 := Cal.lt_block h.res
  have hg2 := set_grown y B 1 v
  have hkX : ∀ g, v1.ownBlock = some g → X ≤ g := fun g e => (h.bx.lts _ (by simp) g e).1
  have hnk : v1.ownBlock ≠ some B := h.bx.nb _ (by simp)
  have hny : v1.ownBlock ≠ some (B + 1) := h.ny _ (by simp)
  have hnd : v1.ownBlock ≠ some D := h.nd _ (by simp)
  have hvD : v.ownBlock ≠ some D := by
    rcases ho with e | e
    · rw [e]; exact hnd
    · rw [e]; intro e2; have := Option.some.inj e2; omega
  have hvB : v.ownBlock ≠ some B := by
    rcases ho with e | e
    · rw [e]; exact hnk
    · rw [e]; intro e2; have := Option.some.inj e2; omega
  have hvY : v.ownBlock ≠ some (B + 1) := by
    rcases ho with e | e
    · rw [e]; exact hny
    · rw [e]; intro e2; have := Option.some.inj e2; omega
  obtain ⟨⟨p12, p13, p14, p15, p16⟩, ⟨p23, p24, p25, p26⟩, ⟨p34, p35, p36⟩, ⟨p45, p46⟩, p56⟩ : (Rl v1 v2 ∧ Rl v1 v3 ∧ Rl v1 v4 ∧ Rl v1 v5 ∧ Rl v1 v6) ∧ (Rl v2 v3 ∧ Rl v2 v4 ∧ Rl v2 v5 ∧ Rl v2 v6) ∧ (Rl v3 v4 ∧ Rl v3 v5 ∧ Rl v3 v6) ∧ (Rl v4 v5 ∧ Rl v4 v6) ∧ Rl v5 v6 := by
    have hap := hb.ap
    simp only [List.pairwise_cons, List.mem_cons, List.not_mem_nil, or_false, forall_eq_or_imp, forall_eq, List.Pairwise.nil, and_true] at hap
    exact ⟨hap.1, hap.2.1, hap.2.2.1, hap.2.2.2.1, hap.2.2.2.2.1⟩
  have hap : [v, v2, v3, v4, v5, v6].Pairwise Rl := ap_set [v1, v2, v3, v4, v5, v6] 0 v hb.ap (fun g e => by
    rcases ho with e2 | e2
    · exact .inl ⟨v1, rfl, by rw [← e2]; exact e⟩
    · refine .inr fun u hu hu2 => ?_
      have h1 := (h.bx.lts u hu g hu2).2
      rw [e2] at e; have := Option.some.inj e; omega)
  have hnb : ∀ u ∈ [v, v2, v3, v4, v5, v6], u.ownBlock ≠ some B ∧ u.ownBlock ≠ some (B + 1) ∧ u.ownBlock ≠ some D := by
    intro u hu
    simp only [List.mem_cons, List.not_mem_nil, or_false] at hu
    rcases hu with rfl | rfl | rfl | rfl | rfl | rfl
    all_goals first | exact ⟨hvB, hvY, hvD⟩ | exact ⟨h.bx.nb _ (by simp), h.ny _ (by simp), h.nd _ (by simp)⟩
  refine ⟨⟨set_box ((hgr.block B hlt (fun e => hnk e.symm)).trans hb.box), hb.z, hv.of hg2 (fun g e e2 => hvB (e.trans e2.symm)), (hb.r2.of hgr (fun g e e2 => p12 g e2 e)).of hg2 (fun g e e2 => hb.nb _ (by simp) (e.trans e2.symm)), (hb.r3.of hgr (fun g e e2 => p13 g e2 e)).of hg2 (fun g e e2 => hb.nb _ (by simp) (e.trans e2.symm)), (hb.r4.of hgr (fun g e e2 => p14 g e2 e)).of hg2 (fun g e e2 => hb.nb _ (by simp) (e.trans e2.symm)), (hb.r5.of hgr (fun g e e2 => p15 g e2 e)).of hg2 (fun g e e2 => hb.nb _ (by simp) (e.trans e2.symm)), (hb.r6.of hgr (fun g e e2 => p16 g e2 e)).of hg2 (fun g e e2 => hb.nb _ (by simp) (e.trans e2.symm)), hap, fun u hu => (hnb u hu).1⟩, fun u hu => (hnb u hu).2.1, cuKept (cuKept h.cu hgr (fun g e => by have := hkX g e; omega)) hg2 (by intro g e; cases e; omega), (h.kb.step hX.2.1 hgr (fun g e => .inr ⟨hkX g e, fun e2 => hnd (by rw [e, e2])⟩)).step hX.2.1 hg2 (fun g e => by cases e; omega), ?_, hX, fun u hu => (hnb u hu).2.2⟩
  exact (hg2.block (B + 1) (Nat.lt_of_lt_of_le hlt2 hgr.size) (fun e => by have := Option.some.inj e; omega)).trans ((hgr.block (B + 1) hlt2 (fun e => hny e.symm)).trans h.res)
theorem Od.app3 {K B0 R n c lim : Nat} {a : Option Addr} {w : World} {X D B : Nat} {z : Int} {v1 v2 v3 v4 v5 v6 : Value} {x : World} (h : Od K B0 R n c lim a w X D B z v1 v2 v3 v4 v5 v6 x) {K' : Nat} {y : World} {v : Value} (hk : K ≤ K') (hgr : x.grownBy y v3.ownBlock) (hv : RowR K' X y v) (ho : v.ownBlock = v3.ownBlock ∨ v.ownBlock = some x.heap.size) : ∀ q, q = y.setCell ⟨B, 3, none⟩ v → Od K' B0 R n c lim a w X D B z v1 v2 v v4 v5 v6 q := by
  rintro q rfl
  have hb := h.bx.up hk
  have hX := h.ord
  have hlt := Cal.lt_block h.bx.box
  have hlt2 := Cal.lt_block h.res
  have hg2 := set_grown y B 3 v
  have hkX : ∀ g, v3.ownBlock = some g → X ≤ g := fun g e => (h.bx.lts _ (by simp) g e).1
  have hnk : v3.ownBlock ≠ some B := h.bx.nb _ (by simp)
  have hny : v3.ownBlock ≠ some (B + 1) := h.ny _ (by simp)
  have hnd : v3.ownBlock ≠ some D := h.nd _ (by simp)
  have hvD : v.ownBlock ≠ some D := by
    rcases ho with e | e
    · rw [e]; exact hnd
    · rw [e]; intro e2; have := Option.some.inj e2; omega
  have hvB : v.ownBlock ≠ some B := by
    rcases ho with e | e
    · rw [e]; exact hnk
    · rw [e]; intro e2; have := Option.some.inj e2; omega
  have hvY : v.ownBlock ≠ some (B + 1) := by
    rcases ho with e | e
    · rw [e]; exact hny
    · rw [e]; intro e2; have := Option.some.inj e2; omega
  obtain ⟨⟨p12, p13, p14, p15, p16⟩, ⟨p23, p24, p25, p26⟩, ⟨p34, p35, p36⟩, ⟨p45, p46⟩, p56⟩ : (Rl v1 v2 ∧ Rl v1 v3 ∧ Rl v1 v4 ∧ Rl v1 v5 ∧ Rl v1 v6) ∧ (Rl v2 v3 ∧ Rl v2 v4 ∧ Rl v2 v5 ∧ Rl v2 v6) ∧ (Rl v3 v4 ∧ Rl v3 v5 ∧ Rl v3 v6) ∧ (Rl v4 v5 ∧ Rl v4 v6) ∧ Rl v5 v6 := by
    have hap := hb.ap
    simp only [List.pairwise_cons, List.mem_cons, List.not_mem_nil, or_false, forall_eq_or_imp, forall_eq, List.Pairwise.nil, and_true] at hap
    exact ⟨hap.1, hap.2.1, hap.2.2.1, hap.2.2.2.1, hap.2.2.2.2.1⟩
  have hap : [v1, v2, v, v4, v5, v6].Pairwise Rl := ap_set [v1, v2, v3, v4, v5, v6] 2 v hb.ap (fun g e => by
    rcases ho with e2 | e2
    · exact .inl ⟨v3, rfl, by rw [← e2]; exact e⟩
    · refine .inr fun u hu hu2 => ?_
      have h1 := (h.bx.lts u hu g hu2).2
      rw [e2] at e; have := Option.some.inj e; omega)
  have hnb : ∀ u ∈ [v1, v2, v, v4, v5, v6], u.ownBlock ≠ some B ∧ u.ownBlock ≠ some (B + 1) ∧ u.ownBlock ≠ some D := by
    intro u hu
    simp only [List.mem_cons, List.not_mem_nil, or_false] at hu
    rcases hu with rfl | rfl | rfl | rfl | rfl | rfl
    all_goals first | exact ⟨hvB, hvY, hvD⟩ | exact ⟨h.bx.nb _ (by simp), h.ny _ (by simp), h.nd _ (by simp)⟩
  refine ⟨⟨set_box ((hgr.block B hlt (fun e => hnk e.symm)).trans hb.box), hb.z, (hb.r1.of hgr (fun g e e2 => p13 g e e2)).of hg2 (fun g e e2 => hb.nb _ (by simp) (e.trans e2.symm)), (hb.r2.of hgr (fun g e e2 => p23 g e e2)).of hg2 (fun g e e2 => hb.nb _ (by simp) (e.trans e2.symm)), hv.of hg2 (fun g e e2 => hvB (e.trans e2.symm)), (hb.r4.of hgr (fun g e e2 => p34 g e2 e)).of hg2 (fun g e e2 => hb.nb _ (by simp) (e.trans e2.symm)), (hb.r5.of hgr (fun g e e2 => p35 g e2 e)).of hg2 (fun g e e2 => hb.nb _ (by simp) (e.trans e2.symm)), (hb.r6.of hgr (fun g e e2 => p36 g e2 e)).of hg2 (fun g e e2 => hb.nb _ (by simp) (e.trans e2.symm)), hap, fun u hu => (hnb u hu).1⟩, fun u hu => (hnb u hu).2.1, cuKept (cuKept h.cu hgr (fun g e => by have := hkX g e; omega)) hg2 (by intro g e; cases e; omega), (h.kb.step hX.2.1 hgr (fun g e => .inr ⟨hkX g e, fun e2 => hnd (by rw [e, e2])⟩)).step hX.2.1 hg2 (fun g e => by cases e; omega), ?_, hX, fun u hu => (hnb u hu).2.2⟩
  exact (hg2.block (B + 1) (Nat.lt_of_lt_of_le hlt2 hgr.size) (fun e => by have := Option.some.inj e; omega)).trans ((hgr.block (B + 1) hlt2 (fun e => hny e.symm)).trans h.res)
theorem Od.app4 {K B0 R n c lim : Nat} {a : Option Addr} {w : World} {X D B : Nat} {z : Int} {v1 v2 v3 v4 v5 v6 : Value} {x : World} (h : Od K B0 R n c lim a w X D B z v1 v2 v3 v4 v5 v6 x) {K' : Nat} {y : World} {v : Value} (hk : K ≤ K') (hgr : x.grownBy y v4.ownBlock) (hv : RowR K' X y v) (ho : v.ownBlock = v4.ownBlock ∨ v.ownBlock = some x.heap.size) : ∀ q, q = y.setCell ⟨B, 4, none⟩ v → Od K' B0 R n c lim a w X D B z v1 v2 v3 v v5 v6 q := by
  rintro q rfl
  have hb := h.bx.up hk
  have hX := h.ord
  have hlt := Cal.lt_block h.bx.box
  have hlt2 := Cal.lt_block h.res
  have hg2 := set_grown y B 4 v
  have hkX : ∀ g, v4.ownBlock = some g → X ≤ g := fun g e => (h.bx.lts _ (by simp) g e).1
  have hnk : v4.ownBlock ≠ some B := h.bx.nb _ (by simp)
  have hny : v4.ownBlock ≠ some (B + 1) := h.ny _ (by simp)
  have hnd : v4.ownBlock ≠ some D := h.nd _ (by simp)
  have hvD : v.ownBlock ≠ some D := by
    rcases ho with e | e
    · rw [e]; exact hnd
    · rw [e]; intro e2; have := Option.some.inj e2; omega
  have hvB : v.ownBlock ≠ some B := by
    rcases ho with e | e
    · rw [e]; exact hnk
    · rw [e]; intro e2; have := Option.some.inj e2; omega
  have hvY : v.ownBlock ≠ some (B + 1) := by
    rcases ho with e | e
    · rw [e]; exact hny
    · rw [e]; intro e2; have := Option.some.inj e2; omega
  obtain ⟨⟨p12, p13, p14, p15, p16⟩, ⟨p23, p24, p25, p26⟩, ⟨p34, p35, p36⟩, ⟨p45, p46⟩, p56⟩ : (Rl v1 v2 ∧ Rl v1 v3 ∧ Rl v1 v4 ∧ Rl v1 v5 ∧ Rl v1 v6) ∧ (Rl v2 v3 ∧ Rl v2 v4 ∧ Rl v2 v5 ∧ Rl v2 v6) ∧ (Rl v3 v4 ∧ Rl v3 v5 ∧ Rl v3 v6) ∧ (Rl v4 v5 ∧ Rl v4 v6) ∧ Rl v5 v6 := by
    have hap := hb.ap
    simp only [List.pairwise_cons, List.mem_cons, List.not_mem_nil, or_false, forall_eq_or_imp, forall_eq, List.Pairwise.nil, and_true] at hap
    exact ⟨hap.1, hap.2.1, hap.2.2.1, hap.2.2.2.1, hap.2.2.2.2.1⟩
  have hap : [v1, v2, v3, v, v5, v6].Pairwise Rl := ap_set [v1, v2, v3, v4, v5, v6] 3 v hb.ap (fun g e => by
    rcases ho with e2 | e2
    · exact .inl ⟨v4, rfl, by rw [← e2]; exact e⟩
    · refine .inr fun u hu hu2 => ?_
      have h1 := (h.bx.lts u hu g hu2).2
      rw [e2] at e; have := Option.some.inj e; omega)
  have hnb : ∀ u ∈ [v1, v2, v3, v, v5, v6], u.ownBlock ≠ some B ∧ u.ownBlock ≠ some (B + 1) ∧ u.ownBlock ≠ some D := by
    intro u hu
    simp only [List.mem_cons, List.not_mem_nil, or_false] at hu
    rcases hu with rfl | rfl | rfl | rfl | rfl | rfl
    all_goals first | exact ⟨hvB, hvY, hvD⟩ | exact ⟨h.bx.nb _ (by simp), h.ny _ (by simp), h.nd _ (by simp)⟩
  refine ⟨⟨set_box ((hgr.block B hlt (fun e => hnk e.symm)).trans hb.box), hb.z, (hb.r1.of hgr (fun g e e2 => p14 g e e2)).of hg2 (fun g e e2 => hb.nb _ (by simp) (e.trans e2.symm)), (hb.r2.of hgr (fun g e e2 => p24 g e e2)).of hg2 (fun g e e2 => hb.nb _ (by simp) (e.trans e2.symm)), (hb.r3.of hgr (fun g e e2 => p34 g e e2)).of hg2 (fun g e e2 => hb.nb _ (by simp) (e.trans e2.symm)), hv.of hg2 (fun g e e2 => hvB (e.trans e2.symm)), (hb.r5.of hgr (fun g e e2 => p45 g e2 e)).of hg2 (fun g e e2 => hb.nb _ (by simp) (e.trans e2.symm)), (hb.r6.of hgr (fun g e e2 => p46 g e2 e)).of hg2 (fun g e e2 => hb.nb _ (by simp) (e.trans e2.symm)), hap, fun u hu => (hnb u hu).1⟩, fun u hu => (hnb u hu).2.1, cuKept (cuKept h.cu hgr (fun g e => by have := hkX g e; omega)) hg2 (by intro g e; cases e; omega), (h.kb.step hX.2.1 hgr (fun g e => .inr ⟨hkX g e, fun e2 => hnd (by rw [e, e2])⟩)).step hX.2.1 hg2 (fun g e => by cases e; omega), ?_, hX, fun u hu => (hnb u hu).2.2⟩
  exact (hg2.block (B + 1) (Nat.lt_of_lt_of_le hlt2 hgr.size) (fun e => by have := Option.some.inj e; omega)).trans ((hgr.block (B + 1) hlt2 (fun e => hny e.symm)).trans h.res)
theorem Od.app6 {K B0 R n c lim : Nat} {a : Option Addr} {w : World} {X D B : Nat} {z : Int} {v1 v2 v3 v4 v5 v6 : Value} {x : World} (h : Od K B0 R n c lim a w X D B z v1 v2 v3 v4 v5 v6 x) {K' : Nat} {y : World} {v : Value} (hk : K ≤ K') (hgr : x.grownBy y v6.ownBlock) (hv : RowI K' X y v) (ho : v.ownBlock = v6.ownBlock ∨ v.ownBlock = some x.heap.size) : ∀ q, q = y.setCell ⟨B, 6, none⟩ v → Od K' B0 R n c lim a w X D B z v1 v2 v3 v4 v5 v q := by
  rintro q rfl
  have hb := h.bx.up hk
  have hX := h.ord
  have hlt := Cal.lt_block h.bx.box
  have hlt2 := Cal.lt_block h.res
  have hg2 := set_grown y B 6 v
  have hkX : ∀ g, v6.ownBlock = some g → X ≤ g := fun g e => (h.bx.lts _ (by simp) g e).1
  have hnk : v6.ownBlock ≠ some B := h.bx.nb _ (by simp)
  have hny : v6.ownBlock ≠ some (B + 1) := h.ny _ (by simp)
  have hnd : v6.ownBlock ≠ some D := h.nd _ (by simp)
  have hvD : v.ownBlock ≠ some D := by
    rcases ho with e | e
    · rw [e]; exact hnd
    · rw [e]; intro e2; have := Option.some.inj e2; omega
  have hvB : v.ownBlock ≠ some B := by
    rcases ho with e | e
    · rw [e]; exact hnk
    · rw [e]; intro e2; have := Option.some.inj e2; omega
  have hvY : v.ownBlock ≠ some (B + 1) := by
    rcases ho with e | e
    · rw [e]; exact hny
    · rw [e]; intro e2; have := Option.some.inj e2; omega
  obtain ⟨⟨p12, p13, p14, p15, p16⟩, ⟨p23, p24, p25, p26⟩, ⟨p34, p35, p36⟩, ⟨p45, p46⟩, p56⟩ : (Rl v1 v2 ∧ Rl v1 v3 ∧ Rl v1 v4 ∧ Rl v1 v5 ∧ Rl v1 v6) ∧ (Rl v2 v3 ∧ Rl v2 v4 ∧ Rl v2 v5 ∧ Rl v2 v6) ∧ (Rl v3 v4 ∧ Rl v3 v5 ∧ Rl v3 v6) ∧ (Rl v4 v5 ∧ Rl v4 v6) ∧ Rl v5 v6 := by
    have hap := hb.ap
    simp only [List.pairwise_cons, List.mem_cons, List.not_mem_nil, or_false, forall_eq_or_imp, forall_eq, List.Pairwise.nil, and_true] at hap
    exact ⟨hap.1, hap.2.1, hap.2.2.1, hap.2.2.2.1, hap.2.2.2.2.1⟩
  have hap : [v1, v2, v3, v4, v5, v].Pairwise Rl := ap_set [v1, v2, v3, v4, v5, v6] 5 v hb.ap (fun g e => by
    rcases ho with e2 | e2
    · exact .inl ⟨v6, rfl, by rw [← e2]; exact e⟩
    · refine .inr fun u hu hu2 => ?_
      have h1 := (h.bx.lts u hu g hu2).2
      rw [e2] at e; have := Option.some.inj e; omega)
  have hnb : ∀ u ∈ [v1, v2, v3, v4, v5, v], u.ownBlock ≠ some B ∧ u.ownBlock ≠ some (B + 1) ∧ u.ownBlock ≠ some D := by
    intro u hu
    simp only [List.mem_cons, List.not_mem_nil, or_false] at hu
    rcases hu with rfl | rfl | rfl | rfl | rfl | rfl
    all_goals first | exact ⟨hvB, hvY, hvD⟩ | exact ⟨h.bx.nb _ (by simp), h.ny _ (by simp), h.nd _ (by simp)⟩
  refine ⟨⟨set_box ((hgr.block B hlt (fun e => hnk e.symm)).trans hb.box), hb.z, (hb.r1.of hgr (fun g e e2 => p16 g e e2)).of hg2 (fun g e e2 => hb.nb _ (by simp) (e.trans e2.symm)), (hb.r2.of hgr (fun g e e2 => p26 g e e2)).of hg2 (fun g e e2 => hb.nb _ (by simp) (e.trans e2.symm)), (hb.r3.of hgr (fun g e e2 => p36 g e e2)).of hg2 (fun g e e2 => hb.nb _ (by simp) (e.trans e2.symm)), (hb.r4.of hgr (fun g e e2 => p46 g e e2)).of hg2 (fun g e e2 => hb.nb _ (by simp) (e.trans e2.symm)), (hb.r5.of hgr (fun g e e2 => p56 g e e2)).of hg2 (fun g e e2 => hb.nb _ (by simp) (e.trans e2.symm)), hv.of hg2 (fun g e e2 => hvB (e.trans e2.symm)), hap, fun u hu => (hnb u hu).1⟩, fun u hu => (hnb u hu).2.1, cuKept (cuKept h.cu hgr (fun g e => by have := hkX g e; omega)) hg2 (by intro g e; cases e; omega), (h.kb.step hX.2.1 hgr (fun g e => .inr ⟨hkX g e, fun e2 => hnd (by rw [e, e2])⟩)).step hX.2.1 hg2 (fun g e => by cases e; omega), ?_, hX, fun u hu => (hnb u hu).2.2⟩
  exact (hg2.block (B + 1) (Nat.lt_of_lt_of_le hlt2 hgr.size) (fun e => by have := Option.some.inj e; omega)).trans ((hgr.block (B + 1) hlt2 (fun e => hny e.symm)).trans h.res)
end Go.Proofs.YtcnilidckicccaaDoor.Cur
