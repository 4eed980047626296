import Derived.Test.YtjhdmghpklagkaaGreatD12
namespace Go.Proofs.YtjhdmghpklagkaaGreat.Blk
open Go.RowKit
open Go.Proofs.YtjhdmghpklagkaaGreat.Lab (Lb HasL)
open Go.Proofs.YtjhdmghpklagkaaGreat.Smp (In64)
open Go.Proofs.YtjhdmghpklagkaaGreat.Srs (hid lt_at kept own_base own_set own_below set_at set_else three_new blk Q HasQ FitQ SmlQ OwnQ q0)
open Go.Proofs.YtjhdmghpklagkaaGreat.Stn (T HasT FitT SmlT OwnT t0 fit_t0)

def k0 : Bk := ⟨0, 0, 0, [], none, 0, [], none, 0⟩
instance : Inhabited Bk := ⟨k0⟩
def clK (h : Bk) : List Value := [.int .i64 h.F, .int .i64 h.T, .int .i64 h.L, .slice h.a h.qs.length h.c, .slice h.b h.ts.length h.d]
def flatK (L : List Bk) : List Value := L.flatMap clK
theorem flatK_cons (q : Bk) (L : List Bk) : flatK (q :: L) = clK q ++ flatK L := rfl
theorem flatK_append (L K : List Bk) : flatK (L ++ K) = flatK L ++ flatK K := by simp [flatK]
theorem flatK_len (L : List Bk) : (flatK L).length = L.length * 5 := by
  induction L with
  | nil => rfl
  | cons q L ih => rw [flatK_cons, List.length_append, ih, show (clK q).length = 5 from rfl, List.length_cons]; omega
theorem flatK_get : ∀ (L : List Bk) (i : Nat), i < L.length → (flatK L)[i * 5]? = some (.int .i64 (L.getD i k0).F) ∧ (flatK L)[i * 5 + 1]? = some (.int .i64 (L.getD i k0).T) ∧ (flatK L)[i * 5 + 2]? = some (.int .i64 (L.getD i k0).L) ∧ (flatK L)[i * 5 + 3]? = some (.slice (L.getD i k0).a (L.getD i k0).qs.length (L.getD i k0).c) ∧ (flatK L)[i * 5 + 4]? = some (.slice (L.getD i k0).b (L.getD i k0).ts.length (L.getD i k0).d) := by
  intro L
  induction L with
  | nil => intro i h; simp at h
  | cons p L ih =>
    intro i h
    cases i with
    | zero => exact ⟨rfl, rfl, rfl, rfl, rfl⟩
    | succ i =>
      have := ih i (by simpa using h)
      rw [flatK_cons]
      refine ⟨?_, ?_, ?_, ?_, ?_⟩
      · rw [show (i + 1) * 5 = i * 5 + 1 + 1 + 1 + 1 + 1 by omega]; simpa [clK] using this.1
      · rw [show (i + 1) * 5 + 1 = i * 5 + 1 + 1 + 1 + 1 + 1 + 1 by omega]; simpa [clK] using this.2.1
      · rw [show (i + 1) * 5 + 2 = i * 5 + 2 + 1 + 1 + 1 + 1 + 1 by omega]; simpa [clK] using this.2.2.1
      · rw [show (i + 1) * 5 + 3 = i * 5 + 3 + 1 + 1 + 1 + 1 + 1 by omega]; simpa [clK] using this.2.2.2.1
      · rw [show (i + 1) * 5 + 4 = i * 5 + 4 + 1 + 1 + 1 + 1 + 1 by omega]; simpa [clK] using this.2.2.2.2
theorem flatK_set : ∀ (L : List Bk) (i : Nat) (q : Bk), i < L.length → (((((flatK L).set (i * 5) (.int .i64 q.F)).set (i * 5 + 1) (.int .i64 q.T)).set (i * 5 + 2) (.int .i64 q.L)).set (i * 5 + 3) (.slice q.a q.qs.length q.c)).set (i * 5 + 4) (.slice q.b q.ts.length q.d) = flatK (L.set i q) := by
  intro L
  induction L with
  | nil => intro i q h; simp at h
  | cons p L ih =>
    intro i q h
    cases i with
    | zero => rfl
    | succ i =>
      have := ih i q (by simpa using h)
      rw [flatK_cons, List.set_cons_succ, flatK_cons, ← this]
      rw [show (i + 1) * 5 = i * 5 + 1 + 1 + 1 + 1 + 1 by omega]
      simp [clK]
theorem made_five (n : Nat) : (madeCells #[.int .i64 0, .int .i64 0, .int .i64 0, .slice none 0 0, .slice none 0 0] (n * 5)).toList = flatK (List.replicate n k0) := by
  apply List.ext_getElem?
  intro j
  by_cases hj : j < n * 5
  · have hl : j / 5 < (List.replicate n k0).length := by simp; omega
    have h2 : (List.replicate n k0).getD (j / 5) k0 = k0 := by
      rw [List.getD_eq_getElem?_getD, List.getElem?_replicate]; split <;> rfl
    obtain ⟨g0, g1, g2, g3, g4⟩ := flatK_get _ _ hl
    rw [h2] at g0 g1 g2 g3 g4
    unfold madeCells
    rcases (show j % 5 = 0 ∨ j % 5 = 1 ∨ j % 5 = 2 ∨ j % 5 = 3 ∨ j % 5 = 4 by omega) with h | h | h | h | h
    · rw [show j = j / 5 * 5 by omega] at hj ⊢
      rw [g0]
      simp [hj]
      rfl
    · rw [show j = j / 5 * 5 + 1 by omega] at hj ⊢
      rw [g1]
      simp [hj, Nat.add_mod]
      rfl
    · rw [show j = j / 5 * 5 + 2 by omega] at hj ⊢
      rw [g2]
      simp [hj, Nat.add_mod]
      rfl
    · rw [show j = j / 5 * 5 + 3 by omega] at hj ⊢
      rw [g3]
      simp [hj, Nat.add_mod]
      exact ⟨rfl, rfl, rfl⟩
    · rw [show j = j / 5 * 5 + 4 by omega] at hj ⊢
      rw [g4]
      simp [hj, Nat.add_mod]
      exact ⟨rfl, rfl, rfl⟩
  · rw [List.getElem?_eq_none (by simp [size_madeCells]; omega), List.getElem?_eq_none (by rw [flatK_len]; simp; omega)]

def CellsK (w : World) (b o : Nat) (q : Bk) : Prop := w.cell? ⟨b, o, none⟩ = some (.int .i64 q.F) ∧ w.cell? ⟨b, o + 1, none⟩ = some (.int .i64 q.T) ∧ w.cell? ⟨b, o + 2, none⟩ = some (.int .i64 q.L) ∧ w.cell? ⟨b, o + 3, none⟩ = some (.slice q.a q.qs.length q.c) ∧ w.cell? ⟨b, o + 4, none⟩ = some (.slice q.b q.ts.length q.d)
theorem CellsK.below {w w' : World} {b o : Nat} {q : Bk} (h : CellsK w b o q) (hb : Below w.heap.size w w') (hl : b < w.heap.size) : CellsK w' b o q :=
  ⟨(hb.cell (by exact hl)).trans h.1, (hb.cell (by exact hl)).trans h.2.1, (hb.cell (by exact hl)).trans h.2.2.1, (hb.cell (by exact hl)).trans h.2.2.2.1, (hb.cell (by exact hl)).trans h.2.2.2.2⟩
def HasK (w : World) (a : Option Addr) (bs : List Bk) : Prop :=
  bs = [] ∨ ∃ b off, a = some ⟨b, off, none⟩ ∧ b < w.heap.size ∧ ∀ i, i < bs.length → CellsK w b (off + i * 5) (bs.getD i k0) ∧ HasB w (bs.getD i k0)
theorem HasK.below {w w' : World} {a : Option Addr} {bs : List Bk} (h : HasK w a bs) (hb : Below w.heap.size w w') : HasK w' a bs := by
  rcases h with h | ⟨b, off, h1, h2, h3⟩
  · exact .inl h
  · exact .inr ⟨b, off, h1, Nat.lt_of_lt_of_le h2 hb.size, fun i hi => ⟨(h3 i hi).1.below hb h2, (h3 i hi).2.below hb⟩⟩
theorem HasK.at2 {w : World} {a : Option Addr} {bs : List Bk} (h : HasK w a bs) (i : Nat) (hi : i < bs.length) : ∃ b off, a = some ⟨b, off, none⟩ ∧ b < w.heap.size ∧ CellsK w b (off + i * 5) (bs.getD i k0) ∧ HasB w (bs.getD i k0) := by
  rcases h with h | ⟨b, off, h1, h2, h3⟩
  · rw [h] at hi; simp at hi
  · exact ⟨b, off, h1, h2, h3 i hi⟩
def FitK (bs : List Bk) : Prop := ∀ i, FitB (bs.getD i k0)
theorem fit_k0 : FitB k0 := ⟨by simp [k0, In64], by simp [k0, In64], by simp [k0, In64], fun i => by rw [show k0.qs = [] from rfl, List.getD_nil]; exact Srs.fit_q0, Nat.zero_le _, fun i => by rw [show k0.ts = [] from rfl, List.getD_nil]; exact fit_t0, Nat.zero_le _⟩
def tk (h : Bk) : Nat := h.qs.length + Srs.tot h.qs h.qs.length + h.ts.length + Stn.tot h.ts h.ts.length
def totK (bs : List Bk) : Nat → Nat
  | 0 => 0
  | k + 1 => totK bs k + tk (bs.getD k k0)
theorem totK_mono (bs : List Bk) : ∀ (k j : Nat), j ≤ k → totK bs j ≤ totK bs k := by
  intro k
  induction k with
  | zero => intro j h; rw [show j = 0 by omega]; exact Nat.le_refl _
  | succ k ih =>
    intro j h
    by_cases e : j = k + 1
    · rw [e]; exact Nat.le_refl _
    · have := ih j (by omega)
      simp only [totK]; omega
theorem sml_tk {h : Bk} (g : tk h ≤ 1048576) : SmlB h := by
  unfold tk at g
  exact ⟨by omega, Srs.sml_tot (by omega), by omega, Stn.sml_tot (by omega)⟩
def SmlK (bs : List Bk) : Prop := ∀ i, i < bs.length → SmlB (bs.getD i k0)
theorem sml_totK {bs : List Bk} (h : totK bs bs.length ≤ 1048576) : SmlK bs := by
  intro i hi
  have := totK_mono bs bs.length (i + 1) hi
  simp only [totK] at this
  exact sml_tk (by omega)
def SameK (n : Nat) (bs d : List Bk) : Prop := ∀ i, i < n → SameB (bs.getD i k0) (d.getD i k0)
theorem SameK.fit {n : Nat} {bs d : List Bk} (s : SameK n bs d) (hl : d.length = n) (hf : FitK bs) : FitK d := by
  intro i
  by_cases hi : i < n
  · exact (s i hi).fit (hf i)
  · rw [List.getD_eq_getElem?_getD, List.getElem?_eq_none (by omega)]; exact fit_k0
theorem SameK.sml {n : Nat} {bs d : List Bk} (s : SameK n bs d) (hl : d.length = n) (hn : bs.length = n) (hz : SmlK bs) : SmlK d := by
  intro i hi
  exact (s i (by omega)).sml (hz i (by omega))

set_option maxHeartbeats 1000000 in
theorem f33k (h : Bk) (M : Int) (w : World) (hM0 : 0 ≤ M) (hM1 : M ≤ 1048576) (hr : HasB w h) (hf : FitB h) :
    Calls Tryz.prog 33 #[agB h, .int .i64 M] w fun e w' => ∃ y : Int, e = .returned (.int .i64 y) ∧ -1 ≤ y ∧ y ≤ M ∧ (0 ≤ y → tk h + y ≤ M) ∧ Below w.heap.size w w' := by
  obtain ⟨F, T, L, qs, a, c, ts, b, d⟩ := h
  obtain ⟨-, -, -, f4, f5, f6, f7⟩ := hf
  obtain ⟨hr1, hr2⟩ := hr
  simp only at hr1 hr2 f4 f5 f6 f7
  have HR := hid hr1
  have HT := hid hr2
  have HF := hid f4
  have HM := hid f5
  have HF2 := hid f6
  have HM2 := hid f7
  have HB0 := hid ((Below.refl w.heap.size w).alloc (Nat.le_refl _) (.cells #[.int .i64 F, .int .i64 T, .int .i64 L, .slice a qs.length c, .slice b ts.length d] 55))
  have HC0 := hid (heap_alloc_new w (.cells #[.int .i64 F, .int .i64 T, .int .i64 L, .slice a qs.length c, .slice b ts.length d] 55))
  clear hr1 hr2 f4 f5 f6 f7
  simp only [agB, clB]
  go_enter Tryz.func33, Tryz.ntmps33
  go_wp2_with fail
  refine (Srs.f62 a qs.length c M qs _ hM0 hM1 rfl (HR.out.below HB0.out) HF.out HM.out).mono ?_
  rintro e w1 ⟨y, rfl, y0, y1, hy, hb1⟩
  have HB1 := hid (HB0.out.trans (hb1.mono HB0.out.size))
  obtain ⟨c0, c1, c2, c3, c4⟩ := five (kept HC0.out hb1)
  have HY := hid hy
  clear hb1 hy
  by_cases g0 : y < 0
  · go_wp2
    go_ret
    exact ⟨-1, rfl, by omega, by omega, fun h => absurd h (by omega), HB1.out⟩
  · go_wp2_with fail
    refine (Stn.f63 b ts.length d y ts _ (by omega) (by omega) rfl (HT.out.below HB1.out) HF2.out HM2.out).mono ?_
    rintro e w2 ⟨z, rfl, z0, z1, hz, hb2⟩
    have HB2 := hid (HB1.out.trans (hb2.mono HB1.out.size))
    have HZ : Hid (0 ≤ z → tk ⟨F, T, L, qs, a, c, ts, b, d⟩ + z ≤ M) := fun h => by
      have h1 := HY.out (by omega)
      have h2 := hz h
      unfold tk
      simp only
      omega
    clear hb2 hz
    by_cases g1 : z < 0
    · go_wp2
      go_ret
      exact ⟨-1, rfl, by omega, by omega, fun h => absurd h (by omega), HB2.out⟩
    · go_wp2
      go_ret
      exact ⟨z, rfl, by omega, by omega, HZ.out, HB2.out⟩

set_option maxHeartbeats 1000000 in
theorem f7 (a : Option Addr) (n c : Nat) (L : Int) (ts : List Bk) (w : World) (hL0 : 0 ≤ L) (hL1 : L ≤ 1048576) (hn : ts.length = n) (hr : HasK w a ts) (hf : FitK ts) (hmax : n ≤ maxLen) :
    Calls Tryz.prog 7 #[.slice a n c, .int .i64 L] w fun e w' => ∃ y : Int, e = .returned (.int .i64 y) ∧ -1 ≤ y ∧ y ≤ L ∧ (0 ≤ y → n + totK ts n + y ≤ L) ∧ Below w.heap.size w w' := by
  unfold maxLen at hmax
  by_cases hbig : n ≤ L
  · have HN := hid hn
    have HR := hid hr
    have HF := hid hf
    clear hn hr hf
    go_enter Tryz.func7, Tryz.ntmps7
    go_wp2
    go_loopw [1, 5] (fun sx i wr => ∃ (k : Nat) (x : Int), k ≤ n ∧ i = .int .i64 k ∧ sx = .int .i64 x ∧ 0 ≤ x ∧ n + totK ts k + x ≤ L ∧ Hid (Below w.heap.size w wr)) (fun _ i _ => n - (intOf i).toNat)
    case atStart => exact ⟨0, _, Nat.zero_le _, rfl, rfl, by omega, by simp only [totK]; omega, Below.refl _ _⟩
    case round =>
      obtain ⟨k, x, hk, rfl, rfl, hx0, hx1, HB⟩ := hrel
      by_cases hlt : k < n
      · obtain ⟨b, off, rfl, hbl, hc, hl⟩ := (HR.out).at2 k (by rw [HN.out]; exact hlt)
        obtain ⟨d0, d1, d2, d3, d4⟩ := hc.below HB.out hbl
        have HL := hid (hl.below HB.out)
        have G := hid (HF.out k)
        have HT : Hid (totK ts (k + 1) = totK ts k + tk (ts.getD k k0)) := rfl
        clear hc hl hbl
        generalize ts.getD k k0 = q at *
        go_wp2_with fail
        refine (f33k q x _ hx0 (by omega) HL.out G.out).mono ?_
        rintro e w2 ⟨y, rfl, y0, y1, hy, hb2⟩
        have HB2 := hid (HB.out.trans (hb2.mono HB.out.size))
        clear hb2 d0 d1 d2 d3 d4 HB
        by_cases hy0 : y < 0
        · go_wp2
          go_ret
          exact ⟨-1, rfl, by omega, by omega, fun h => absurd h (by omega), HB2.out⟩
        · have hy' := hid (hy (by omega))
          clear hy
          go_wp2
          go_roundw
          case rel => exact ⟨k + 1, y, by omega, by go_num, rfl, by omega, by rw [HT.out]; have := hy'.out; omega, HB2.out⟩
          case measure => simp [intOf]; omega
      · obtain rfl : k = n := by omega
        go_wp2
        go_ret
        exact ⟨x, rfl, by omega, by omega, fun _ => by omega, HB.out⟩
  · go_enter Tryz.func7, Tryz.ntmps7
    go_wp2
    go_ret
    exact ⟨-1, rfl, by omega, by omega, by omega, Below.refl _ _⟩
end Go.Proofs.YtjhdmghpklagkaaGreat.Blk
namespace Go.Proofs.YtjhdmghpklagkaaGreat.Blk
open Go.RowKit
open Go.Proofs.YtjhdmghpklagkaaGreat.Lab (Lb HasL)
open Go.Proofs.YtjhdmghpklagkaaGreat.Smp (In64)
open Go.Proofs.YtjhdmghpklagkaaGreat.Srs (hid lt_at kept own_base own_set own_below set_at set_else three_new blk Q HasQ FitQ SmlQ OwnQ q0)
open Go.Proofs.YtjhdmghpklagkaaGreat.Stn (T HasT FitT SmlT OwnT t0 fit_t0)

theorem OwnB.set {X g k S : Nat} {h h' : Bk} {w : World} (o : OwnB X g k S h h' w) {p : Addr} (hp : p.block < X) (v : Value) : OwnB X g k S h h' (w.setCell p v) :=
  ⟨o.eF, o.eT, o.eL, o.ea, o.eb, o.ec, o.ed, o.lq, o.lt, o.sq, o.st, own_setq o.oq (by have := o.lo; omega) v, o.ot.set (by have := o.lo; have := o.mid; omega) v, o.lo, o.mid, o.top⟩
def OwnIn (X Y : Nat) (h h' : Bk) (w : World) : Prop :=
  ∃ g k S, OwnB X g k S h h' w ∧ k < Y ∧ (∀ i, i < h.ts.length → blk (h'.ts.getD i t0).a < Y) ∧ Y ≤ w.heap.size
theorem OwnIn.below {X Y : Nat} {h h' : Bk} {w w' : World} (o : OwnIn X Y h h' w) (hb : Below w.heap.size w w') : OwnIn X Y h h' w' := by
  obtain ⟨g, k, S, h1, h2, h3, h4⟩ := o
  exact ⟨g, k, S, h1.below hb, h2, h3, Nat.le_trans h4 hb.size⟩
theorem OwnIn.set {X Y : Nat} {h h' : Bk} {w : World} (o : OwnIn X Y h h' w) {p : Addr} (hp : p.block < X) (v : Value) : OwnIn X Y h h' (w.setCell p v) := by
  obtain ⟨g, k, S, h1, h2, h3, h4⟩ := o
  exact ⟨g, k, S, h1.set hp v, h2, h3, by simpa using h4⟩
theorem OwnIn.has {X Y : Nat} {h h' : Bk} {w : World} (o : OwnIn X Y h h' w) : HasB w h' := by
  obtain ⟨g, k, S, h1, h2, h3, h4⟩ := o
  exact h1.has
theorem OwnIn.same {X Y : Nat} {h h' : Bk} {w : World} (o : OwnIn X Y h h' w) : SameB h h' := by
  obtain ⟨g, k, S, h1, h2, h3, h4⟩ := o
  exact h1.same
theorem getK_snoc (d : List Bk) (q : Bk) (i : Nat) : (d ++ [q]).getD i k0 = if i = d.length then q else d.getD i k0 := by
  rw [List.getD_eq_getElem?_getD, List.getD_eq_getElem?_getD]
  by_cases h : i < d.length
  · rw [List.getElem?_append_left h, if_neg (by omega)]
  · rw [List.getElem?_append_right (by omega)]
    by_cases e : i = d.length
    · rw [if_pos e, e, Nat.sub_self]; rfl
    · rw [if_neg e, List.getElem?_eq_none (by simp; omega), List.getElem?_eq_none (by omega)]
structure KinK (R : Nat) (Z : Nat → Nat) (k : Nat) (bs d : List Bk) (w : World) : Prop where
  len : d.length = k
  low : R < Z 0
  up : ∀ i, i < k → Z i ≤ Z (i + 1)
  top : Z k ≤ w.heap.size
  own : ∀ i, i < k → OwnIn (Z i) (Z (i + 1)) (bs.getD i k0) (d.getD i k0) w
theorem KinK.lo {R : Nat} {Z : Nat → Nat} {k : Nat} {bs d : List Bk} {w : World} (h : KinK R Z k bs d w) : ∀ i, i ≤ k → R < Z i := by
  intro i
  induction i with
  | zero => intro _; exact h.low
  | succ i ih => intro hi; have := ih (by omega); have := h.up i (by omega); omega
theorem KinK.below {R : Nat} {Z : Nat → Nat} {k : Nat} {bs d : List Bk} {w w' : World} (h : KinK R Z k bs d w) (hb : Below w.heap.size w w') : KinK R Z k bs d w' :=
  ⟨h.len, h.low, h.up, Nat.le_trans h.top hb.size, fun i hi => (h.own i hi).below hb⟩
theorem KinK.set {R : Nat} {Z : Nat → Nat} {k : Nat} {bs d : List Bk} {w : World} (h : KinK R Z k bs d w) (o : Nat) (v : Value) : KinK R Z k bs d (w.setCell ⟨R, o, none⟩ v) :=
  ⟨h.len, h.low, h.up, by simpa using h.top, fun i hi => (h.own i hi).set (p := ⟨R, o, none⟩) (h.lo i (by omega)) v⟩
theorem KinK.snoc {R : Nat} {Z : Nat → Nat} {k Y : Nat} {bs d : List Bk} {w : World} {q : Bk} (h : KinK R Z k bs d w) (hy : Z k ≤ Y) (hw : Y ≤ w.heap.size) (h1 : OwnIn (Z k) Y (bs.getD k k0) q w) : KinK R (fun i => if i = k + 1 then Y else Z i) (k + 1) bs (d ++ [q]) w := by
  have hl := h.len
  refine ⟨by simp [hl], by rw [if_neg (by omega)]; exact h.low, fun i hi => ?_, by rw [if_pos rfl]; exact hw, fun i hi => ?_⟩
  · by_cases e : i = k
    · subst e; simp only [if_true]; rw [if_neg (by omega)]; exact hy
    · rw [if_neg (by omega), if_neg (by omega)]; exact h.up i (by omega)
  · rw [getK_snoc]
    by_cases e : i = k
    · subst e; rw [if_pos hl.symm, if_neg (by omega), if_pos rfl]; exact h1
    · rw [if_neg (by omega), if_neg (by omega), if_neg (by omega)]; exact h.own i (by omega)
theorem KinK.nil {R X : Nat} {bs : List Bk} {w : World} (h : R < X) (hx : X ≤ w.heap.size) : KinK R (fun _ => X) 0 bs [] w := ⟨rfl, h, fun i hi => by omega, hx, fun i hi => by omega⟩
theorem KinK.same {R : Nat} {Z : Nat → Nat} {k : Nat} {bs d : List Bk} {w : World} (h : KinK R Z k bs d w) : SameK k bs d := fun i hi => (h.own i hi).same
structure OwnK (R : Nat) (Z : Nat → Nat) (n : Nat) (bs d : List Bk) (w : World) : Prop where
  row : w.ownsRow R 36 5 (.slice (some ⟨R, 0, none⟩) n n) n (flatK d)
  kin : KinK R Z n bs d w
theorem OwnK.below {R : Nat} {Z : Nat → Nat} {n : Nat} {bs d : List Bk} {w w' : World} (h : OwnK R Z n bs d w) (hb : Below w.heap.size w w') : OwnK R Z n bs d w' := ⟨own_below h.row hb, h.kin.below hb⟩
theorem ownK_has {w : World} {base g n c E : Nat} {ts : List Bk} (h : w.ownsRow base E 5 (.slice (some ⟨g, 0, none⟩) n c) n (flatK ts)) (hT : ∀ i, i < ts.length → HasB w (ts.getD i k0)) : HasK w (some ⟨g, 0, none⟩) ts := by
  have hl := h.1
  rw [flatK_len] at hl
  refine .inr ⟨g, 0, rfl, (h.lt g rfl).2, fun i hi => ?_⟩
  obtain ⟨y0, y1, y2, y3, y4⟩ := flatK_get ts i hi
  rw [Nat.zero_add]
  exact ⟨⟨(h.cellAt (i * 5) (by omega)).trans y0, (h.cellAt (i * 5 + 1) (by omega)).trans y1, (h.cellAt (i * 5 + 2) (by omega)).trans y2, (h.cellAt (i * 5 + 3) (by omega)).trans y3, (h.cellAt (i * 5 + 4) (by omega)).trans y4⟩, hT i hi⟩
theorem OwnK.has {R : Nat} {Z : Nat → Nat} {n : Nat} {bs d : List Bk} {w : World} (h : OwnK R Z n bs d w) : HasK w (some ⟨R, 0, none⟩) d :=
  ownK_has h.row fun i hi => (h.kin.own i (by rw [← h.kin.len]; exact hi)).has
theorem infoK : (Tryz.prog.info? 36).map (fun i => (i.zero, i.size, i.bytes)) = some (some (.agg #[.int .i64 0, .int .i64 0, .int .i64 0, .slice none 0 0, .slice none 0 0]), 5, 72) := by kernel_rfl
theorem stepK_set (d : List Bk) (n k : Nat) (q : Bk) (hd : d.length = k) (hk : k < n) : (d ++ List.replicate (n - k) k0).set k q = (d ++ [q]) ++ List.replicate (n - (k + 1)) k0 := by
  rw [List.set_append_right _ _ (by omega), hd, Nat.sub_self, show n - k = (n - (k + 1)) + 1 from by omega, List.replicate_succ, List.set_cons_zero, List.append_assoc]
  rfl
theorem own_in {X g k S : Nat} {h h' : Bk} {w : World} (o : OwnB X g k S h h' w) : OwnIn X w.heap.size h h' w :=
  ⟨g, k, S, o, (o.ot.row.lt k rfl).2, fun i hi => (o.ot.kin.own i hi).lts, Nat.le_refl _⟩
theorem OwnIn.mono {X X' Y Y' : Nat} {h h' : Bk} {w : World} (o : OwnIn X Y h h' w) (hx : X' ≤ X) (hy : Y ≤ Y') (hw : Y' ≤ w.heap.size) : OwnIn X' Y' h h' w := by
  obtain ⟨g, k, S, h1, h2, h3, h4⟩ := o
  exact ⟨g, k, S, ⟨h1.eF, h1.eT, h1.eL, h1.ea, h1.eb, h1.ec, h1.ed, h1.lq, h1.lt, h1.sq, h1.st, h1.oq, h1.ot, Nat.le_trans hx h1.lo, h1.mid, h1.top⟩, by omega, fun i hi => by have := h3 i hi; omega, hw⟩
set_option maxHeartbeats 4000000 in
theorem f9 (a : Option Addr) (n c : Nat) (ts : List Bk) (w : World) (hn : ts.length = n) (hb : n ≤ 1048576) (hr : HasK w a ts) (hz : SmlK ts) :
    Calls Tryz.prog 9 #[.slice a n c] w fun e w' => ∃ (d : List Bk) (Z : Nat → Nat), e = .returned (.slice (some ⟨w.heap.size, 0, none⟩) n n) ∧ OwnK w.heap.size Z n ts d w' ∧ Below w.heap.size w w' := by
  obtain ⟨i0, hi, hz0, hz1, hz2⟩ := info_parts infoK
  have HN := hid hn
  have HR := hid hr
  have HZ := hid hz
  clear hn hr hz
  go_enter Tryz.func9, Tryz.ntmps9
  go_wp2_with (at_make; refine wpList_make_full _ rfl _ _ 26 rfl w.heap.size 36 i0 (.agg #[.int .i64 0, .int .i64 0, .int .i64 0, .slice none 0 0, .slice none 0 0]) 5 Tryz.underlying26 hi hz0 hz1 _ _ _ _ n rfl rfl rfl rfl ?b2 ?b3 (Nat.le_refl _) ?_)
  case b2 => rw [hz2]; omega
  case b3 => unfold maxLen; omega
  intro w0 hown0 hgrow0
  have hown1 : Hid (w0.ownsRow w.heap.size 36 5 (.slice (some ⟨w.heap.size, 0, none⟩) n n) n (flatK (List.replicate n k0))) := by
    rw [← made_five]; exact hown0
  have hb0 := hid ((Below.refl w.heap.size w).grown hgrow0 (Nat.le_refl _) (fun k h => by cases h))
  clear hown0 hgrow0
  go_wp2
  go_loopw [4] (fun i wr => ∃ (k : Nat) (d : List Bk) (Z : Nat → Nat), k ≤ n ∧ i = .int .i64 k ∧ Hid (KinK w.heap.size Z k ts d wr) ∧ Hid (wr.ownsRow w.heap.size 36 5 (.slice (some ⟨w.heap.size, 0, none⟩) n n) n (flatK (d ++ List.replicate (n - k) k0))) ∧ Hid (Below w.heap.size w wr))
    (fun i _ => n - (intOf i).toNat)
  case atStart => exact ⟨0, [], fun _ => w.heap.size + 1, Nat.zero_le _, rfl, KinK.nil (Nat.lt_succ_self _) (hown1.out.lt w.heap.size rfl).2, by unfold Hid; simpa using hown1.out, hb0.out⟩
  case round =>
    obtain ⟨k, d, Z, hk, rfl, HD, HO, HX⟩ := hrel
    by_cases hlt : k < n
    · obtain ⟨b, off, rfl, hbl, hc, hT1⟩ := (HR.out).at2 k (by rw [HN.out]; exact hlt)
      obtain ⟨d0, d1, d2, d3, d4⟩ := hc.below HX.out hbl
      have HT1 := hid (hT1.below HX.out)
      have HS := hid (HZ.out k (by rw [HN.out]; exact hlt))
      obtain ⟨q, hq⟩ : ∃ q, q = ts.getD k k0 := ⟨_, rfl⟩
      have HQ := hid hq
      rw [← hq] at d0 d1 d2 d3 d4 HT1 HS
      clear hc hT1 hbl hq
      go_wp2_with fail
      refine (f36 q _ HT1.out HS.out).mono ?_
      rintro e w2 ⟨q', g', k', S', rfl, ho2, hk2, hb2⟩
      have HD2 := hid (HD.out.below hb2)
      have HO2 := hid (own_below HO.out hb2)
      have HX2 := hid (HX.out.trans (hb2.mono HX.out.size))
      have HT3 : Hid (OwnIn (Z k) w2.heap.size q q' w2) := (own_in ho2).mono HD.out.top (Nat.le_refl _) (Nat.le_refl _)
      have HL : Hid ((d ++ List.replicate (n - k) k0).length = n) := by unfold Hid; have := HD.out.len; simp; omega
      obtain ⟨y0, y1, y2, y3, y4⟩ := flatK_get (d ++ List.replicate (n - k) k0) k (by rw [HL.out]; exact hlt)
      have z0 := (HO2.out.cellAt (k * 5) (by omega)).trans y0
      have z1 := (HO2.out.cellAt (k * 5 + 1) (by omega)).trans y1
      have z2 := (HO2.out.cellAt (k * 5 + 2) (by omega)).trans y2
      have z3 := (HO2.out.cellAt (k * 5 + 3) (by omega)).trans y3
      have z4 := (HO2.out.cellAt (k * 5 + 4) (by omega)).trans y4
      have f0 := HO2.out.frozenAt (k * 5)
      have f1 := HO2.out.frozenAt (k * 5 + 1)
      have f2 := HO2.out.frozenAt (k * 5 + 2)
      have f3 := HO2.out.frozenAt (k * 5 + 3)
      have f4 := HO2.out.frozenAt (k * 5 + 4)
      have HE : Hid (∀ wz, wz = ((((w2.setCell ⟨w.heap.size, k * 5, none⟩ (.int .i64 q'.F)).setCell ⟨w.heap.size, k * 5 + 1, none⟩ (.int .i64 q'.T)).setCell ⟨w.heap.size, k * 5 + 2, none⟩ (.int .i64 q'.L)).setCell ⟨w.heap.size, k * 5 + 3, none⟩ (.slice q'.a q'.qs.length q'.c)).setCell ⟨w.heap.size, k * 5 + 4, none⟩ (.slice q'.b q'.ts.length q'.d) → KinK w.heap.size (fun i => if i = k + 1 then w2.heap.size else Z i) (k + 1) ts (d ++ [q']) wz ∧ wz.ownsRow w.heap.size 36 5 (.slice (some ⟨w.heap.size, 0, none⟩) n n) n (flatK ((d ++ [q']) ++ List.replicate (n - (k + 1)) k0)) ∧ Below w.heap.size w wz) := by
        rintro wz rfl
        have hz := HD.out.lo k (Nat.le_refl _)
        refine ⟨(((((HD2.out.set _ _).set _ _).set _ _).set _ _).set _ _).snoc (by have := HD2.out.top; omega) (by simp) ?_, ?_, ((((HX2.out.setCell (Nat.le_refl _) _).setCell (Nat.le_refl _) _).setCell (Nat.le_refl _) _).setCell (Nat.le_refl _) _).setCell (Nat.le_refl _) _⟩
        · rw [← HQ.out]
          exact ((((HT3.out.set (p := ⟨w.heap.size, k * 5, none⟩) hz _).set (p := ⟨w.heap.size, k * 5 + 1, none⟩) hz _).set (p := ⟨w.heap.size, k * 5 + 2, none⟩) hz _).set (p := ⟨w.heap.size, k * 5 + 3, none⟩) hz _).set (p := ⟨w.heap.size, k * 5 + 4, none⟩) hz _
        · rw [← stepK_set d n k _ HD2.out.len hlt, ← flatK_set _ k _ (by rw [HL.out]; exact hlt)]
          exact (((((HO2.out.stored (k * 5) _).1.stored (k * 5 + 1) _).1.stored (k * 5 + 2) _).1.stored (k * 5 + 3) _).1.stored (k * 5 + 4) _).1
      clear y0 y1 y2 y3 y4 hb2 ho2 hk2 HO HT1 HO2 HD2 HX2 HT3 HX HD d0 d1 d2 d3 d4
      go_wp2
      go_roundw
      case rel =>
        obtain ⟨e1, e2, e3⟩ := HE.out _ rfl
        exact ⟨k + 1, _, _, by omega, by go_num, e1, e2, e3⟩
      case measure => simp [intOf]; omega
    · obtain rfl : k = n := by omega
      have HE : Hid (OwnK w.heap.size Z k ts d wr) := by
        have h := HO.out
        rw [Nat.sub_self, List.replicate_zero, List.append_nil] at h
        exact ⟨h, HD.out⟩
      go_wp2
      go_ret
      exact ⟨d, Z, rfl, HE.out, HX.out⟩

abbrev EK (w : World) (q q' : Bk) (b o b' o' : Nat) (x : World) : Prop :=
  x.cell? ⟨b, o, none⟩ = some (.int .i64 q.F) ∧ x.cell? ⟨b, o + 1, none⟩ = some (.int .i64 q.T) ∧ x.cell? ⟨b, o + 2, none⟩ = some (.int .i64 q.L) ∧ x.cell? ⟨b, o + 3, none⟩ = some (.slice q.a q.qs.length q.c) ∧ x.cell? ⟨b, o + 4, none⟩ = some (.slice q.b q.ts.length q.d) ∧
  x.cell? ⟨b', o', none⟩ = some (.int .i64 q'.F) ∧ x.cell? ⟨b', o' + 1, none⟩ = some (.int .i64 q'.T) ∧ x.cell? ⟨b', o' + 2, none⟩ = some (.int .i64 q'.L) ∧ x.cell? ⟨b', o' + 3, none⟩ = some (.slice q'.a q'.qs.length q'.c) ∧ x.cell? ⟨b', o' + 4, none⟩ = some (.slice q'.b q'.ts.length q'.d) ∧
  HasB x q ∧ HasB x q' ∧ b < x.heap.size ∧ b' < x.heap.size ∧ Below w.heap.size w x
theorem EK.below {w : World} {q q' : Bk} {b o b' o' : Nat} {x y : World} (h : EK w q q' b o b' o' x) (hb : Below x.heap.size x y) : EK w q q' b o b' o' y := by
  obtain ⟨h0, h1, h2, h3, h4, k0, k1, k2, k3, k4, t1, t3, l1, l2, hw⟩ := h
  have e1 : ∀ j, y.cell? ⟨b, j, none⟩ = x.cell? ⟨b, j, none⟩ := fun j => hb.cell (by exact l1)
  have e2 : ∀ j, y.cell? ⟨b', j, none⟩ = x.cell? ⟨b', j, none⟩ := fun j => hb.cell (by exact l2)
  exact ⟨(e1 _).trans h0, (e1 _).trans h1, (e1 _).trans h2, (e1 _).trans h3, (e1 _).trans h4, (e2 _).trans k0, (e2 _).trans k1, (e2 _).trans k2, (e2 _).trans k3, (e2 _).trans k4, t1.below hb, t3.below hb, Nat.lt_of_lt_of_le l1 hb.size, Nat.lt_of_lt_of_le l2 hb.size, hw.trans (hb.mono hw.size)⟩
theorem EK.drew {w : World} {q q' : Bk} {b o b' o' : Nat} {x : World} (h : EK w q q' b o b' o' x) : EK w q q' b o b' o' x.drew := h.below (Below.refl _ x).drew
theorem EK.t1 {w : World} {q q' : Bk} {b o b' o' : Nat} {x : World} (h : EK w q q' b o b' o' x) : HasB x q := h.2.2.2.2.2.2.2.2.2.2.1
theorem EK.t3 {w : World} {q q' : Bk} {b o b' o' : Nat} {x : World} (h : EK w q q' b o b' o' x) : HasB x q' := h.2.2.2.2.2.2.2.2.2.2.2.1
theorem EK.bel {w : World} {q q' : Bk} {b o b' o' : Nat} {x : World} (h : EK w q q' b o b' o' x) : Below w.heap.size w x := h.2.2.2.2.2.2.2.2.2.2.2.2.2.2
set_option maxHeartbeats 2000000 in
theorem f12 (a a' : Option Addr) (n c c' : Nat) (ts ts' : List Bk) (w : World) (hn : ts.length = n) (hn' : ts'.length = n) (hb : n ≤ 1048576) (hr : HasK w a ts) (hr' : HasK w a' ts') (hs : SameK n ts ts') (hz : SmlK ts) :
    Calls Tryz.prog 12 #[.slice a n c, .slice a' n c'] w fun e w' => e = .returned (.bool true) ∧ Below w.heap.size w w' := by
  have HN := hid hn
  have HN' := hid hn'
  have HR := hid hr
  have HR' := hid hr'
  have HS := hid hs
  have HZ := hid hz
  clear hn hn' hr hr' hs hz
  go_enter Tryz.func12, Tryz.ntmps12
  go_wp2
  go_loopw [5] (fun i wr => ∃ k : Nat, k ≤ n ∧ i = .int .i64 k ∧ Hid (Below w.heap.size w wr)) (fun i _ => n - (intOf i).toNat)
  case atStart => exact ⟨0, Nat.zero_le _, rfl, Below.refl _ _⟩
  case round =>
    obtain ⟨k, hk, rfl, HX⟩ := hrel
    by_cases hlt : k < n
    · obtain ⟨b, off, rfl, hbl, hc, t1⟩ := (HR.out.below HX.out).at2 k (by rw [HN.out]; exact hlt)
      obtain ⟨b', off', rfl, hbl', hc', t1'⟩ := (HR'.out.below HX.out).at2 k (by rw [HN'.out]; exact hlt)
      have HP := hid (HS.out k hlt)
      have HL := hid (HZ.out k (by rw [HN.out]; exact hlt))
      generalize ts.getD k k0 = q at *
      generalize ts'.getD k k0 = q' at *
      have HE : Hid (EK w q q' b (off + k * 5) b' (off' + k * 5) wr) := ⟨hc.1, hc.2.1, hc.2.2.1, hc.2.2.2.1, hc.2.2.2.2, hc'.1, hc'.2.1, hc'.2.2.1, hc'.2.2.2.1, hc'.2.2.2.2, t1, t1', hbl, hbl', HX.out⟩
      clear hc hc' t1 t1' hbl hbl'
      have i1 : (k : Int) < (n : Int) := by omega
      go_wp2_with fail
      go_region_held3 (fun x => EK w q q' b (off + k * 5) b' (off' + k * 5) x) (first | exact HE.out.drew | assumption) (first | (go_at_call 18; refine (f18 q q' _ HP.out.eF HP.out.eT HP.out.eL HP.out.lq HP.out.lt (EK.t1 (by assumption)) (EK.t3 (by assumption)) HP.out.sq HP.out.st HL.out).mono ?_; rintro e w2 ⟨rfl, hb2⟩; have hs2 := EK.below (by assumption) hb2; clear hb2))
      have HX2 := hid hs2.bel
      clear hs2
      go_wp2
      go_roundw
      case rel => exact ⟨k + 1, by omega, by go_num, HX2.out⟩
      case measure => simp [intOf]; omega
    · go_wp2
      go_ret
      exact ⟨rfl, HX.out⟩
end Go.Proofs.YtjhdmghpklagkaaGreat.Blk
