/- Lists of blocks: how they lie in memory; szBlockS. -/
import Derived.Test.YtmgghnmlhkahnaaJh
namespace Go.Proofs.Ytmgghnmlhkahnaa.Blk
open Go.RowKit
open Go.Proofs.Ytmgghnmlhkahnaa.Lab (Lb HasL)
open Go.Proofs.Ytmgghnmlhkahnaa.Smp (In64)
open Go.Proofs.Ytmgghnmlhkahnaa.Srs (hid lt_at kept own_base own_set own_below set_at set_else three_new blk Q HasQ FitQ SmlQ OwnQ q0)
open Go.Proofs.Ytmgghnmlhkahnaa.Stn (T HasT FitT SmlT OwnT t0 fit_t0)

def k0 : Bk := ⟨0, 0, 0, [], none, 0, [], none, 0⟩
instance : Inhabited Bk := ⟨k0⟩
def clK (h : Bk) : List Value := [.int .i64 h.F, .int .i64 h.T, .int .i64 h.L, .slice h.a h.qs.length h.c, .slice h.b h.ts.length h.d]
def flatK (L : List Bk) : List Value := L.flatMap clK
theorem flatK_cons (q : Bk) (L : List Bk) : flatK (q :: L) = clK q ++ flatK L := rfl
theorem flatK_append (L K : List Bk) : flatK (L ++ K) = flatK L ++ flatK K := by simp [flatK]
theorem flatK_len (L : List Bk) : (flatK L).length = L.length * 5 := by
  induction L with
  | nil => rfl
  | cons q L ih => rw [flatK_cons, List.length_append, ih, show (clK q).length = 5 from rfl, List.length_cons]; omega
theorem flatK_get : ∀ (L : List Bk) (i : Nat), i < L.length → (flatK L)[i * 5]? = some (.int .i64 (L.getD i k0).F) ∧ (flatK L)[i * 5 + 1]? = some (.int .i64 (L.getD i k0).T) ∧ (flatK L)[i * 5 + 2]? = some (.int .i64 (L.getD i k0).L) ∧ (flatK L)[i * 5 + 3]? = some (.slice (L.getD i k0).a (L.getD i k0).qs.length (L.getD i k0).c) ∧ (flatK L)[i * 5 + 4]? = some (.slice (L.getD i k0).b (L.getD i k0).ts.length (L.getD i k0).d) := by
  intro L
  induction L with
  | nil => intro i h; simp at h
  | cons p L ih =>
    intro i h
    cases i with
    | zero => exact ⟨rfl, rfl, rfl, rfl, rfl⟩
    | succ i =>
      have := ih i (by simpa using h)
      rw [flatK_cons]
      refine ⟨?_, ?_, ?_, ?_, ?_⟩
      · rw [show (i + 1) * 5 = i * 5 + 1 + 1 + 1 + 1 + 1 by omega]; simpa [clK] using this.1
      · rw [show (i + 1) * 5 + 1 = i * 5 + 1 + 1 + 1 + 1 + 1 + 1 by omega]; simpa [clK] using this.2.1
      · rw [show (i + 1) * 5 + 2 = i * 5 + 2 + 1 + 1 + 1 + 1 + 1 by omega]; simpa [clK] using this.2.2.1
      · rw [show (i + 1) * 5 + 3 = i * 5 + 3 + 1 + 1 + 1 + 1 + 1 by omega]; simpa [clK] using this.2.2.2.1
      · rw [show (i + 1) * 5 + 4 = i * 5 + 4 + 1 + 1 + 1 + 1 + 1 by omega]; simpa [clK] using this.2.2.2.2
theorem flatK_set : ∀ (L : List Bk) (i : Nat) (q : Bk), i < L.length → (((((flatK L).set (i * 5) (.int .i64 q.F)).set (i * 5 + 1) (.int .i64 q.T)).set (i * 5 + 2) (.int .i64 q.L)).set (i * 5 + 3) (.slice q.a q.qs.length q.c)).set (i * 5 + 4) (.slice q.b q.ts.length q.d) = flatK (L.set i q) := by
  intro L
  induction L with
  | nil => intro i q h; simp at h
  | cons p L ih =>
    intro i q h
    cases i with
    | zero => rfl
    | succ i =>
      have := ih i q (by simpa using h)
      rw [flatK_cons, List.set_cons_succ, flatK_cons, ← this]
      rw [show (i + 1) * 5 = i * 5 + 1 + 1 + 1 + 1 + 1 by omega]
      simp [clK]
theorem made_five (n : Nat) : (madeCells #[.int .i64 0, .int .i64 0, .int .i64 0, .slice none 0 0, .slice none 0 0] (n * 5)).toList = flatK (List.replicate n k0) := by
  apply List.ext_getElem?
  intro j
  by_cases hj : j < n * 5
  · have hl : j / 5 < (List.replicate n k0).length := by simp; omega
    have h2 : (List.replicate n k0).getD (j / 5) k0 = k0 := by
      rw [List.getD_eq_getElem?_getD, List.getElem?_replicate]; split <;> rfl
    obtain ⟨g0, g1, g2, g3, g4⟩ := flatK_get _ _ hl
    rw [h2] at g0 g1 g2 g3 g4
    unfold madeCells
    rcases (show j % 5 = 0 ∨ j % 5 = 1 ∨ j % 5 = 2 ∨ j % 5 = 3 ∨ j % 5 = 4 by omega) with h | h | h | h | h
    · rw [show j = j / 5 * 5 by omega] at hj ⊢
      rw [g0]
      simp [hj]
      rfl
    · rw [show j = j / 5 * 5 + 1 by omega] at hj ⊢
      rw [g1]
      simp [hj, Nat.add_mod]
      rfl
    · rw [show j = j / 5 * 5 + 2 by omega] at hj ⊢
      rw [g2]
      simp [hj, Nat.add_mod]
      rfl
    · rw [show j = j / 5 * 5 + 3 by omega] at hj ⊢
      rw [g3]
      simp [hj, Nat.add_mod]
      exact ⟨rfl, rfl, rfl⟩
    · rw [show j = j / 5 * 5 + 4 by omega] at hj ⊢
      rw [g4]
      simp [hj, Nat.add_mod]
      exact ⟨rfl, rfl, rfl⟩
  · rw [List.getElem?_eq_none (by simp [size_madeCells]; omega), List.getElem?_eq_none (by rw [flatK_len]; simp; omega)]

/-- The cells of a block in a list. -/
def CellsK (w : World) (b o : Nat) (q : Bk) : Prop := w.cell? ⟨b, o, none⟩ = some (.int .i64 q.F) ∧ w.cell? ⟨b, o + 1, none⟩ = some (.int .i64 q.T) ∧ w.cell? ⟨b, o + 2, none⟩ = some (.int .i64 q.L) ∧ w.cell? ⟨b, o + 3, none⟩ = some (.slice q.a q.qs.length q.c) ∧ w.cell? ⟨b, o + 4, none⟩ = some (.slice q.b q.ts.length q.d)
theorem CellsK.below {w w' : World} {b o : Nat} {q : Bk} (h : CellsK w b o q) (hb : Below w.heap.size w w') (hl : b < w.heap.size) : CellsK w' b o q :=
  ⟨(hb.cell (by exact hl)).trans h.1, (hb.cell (by exact hl)).trans h.2.1, (hb.cell (by exact hl)).trans h.2.2.1, (hb.cell (by exact hl)).trans h.2.2.2.1, (hb.cell (by exact hl)).trans h.2.2.2.2⟩
/-- The slice that begins at 'a' holds the blocks 'bs' in the world 'w'. -/
def HasK (w : World) (a : Option Addr) (bs : List Bk) : Prop :=
  bs = [] ∨ ∃ b off, a = some ⟨b, off, none⟩ ∧ b < w.heap.size ∧ ∀ i, i < bs.length → CellsK w b (off + i * 5) (bs.getD i k0) ∧ HasB w (bs.getD i k0)
theorem HasK.below {w w' : World} {a : Option Addr} {bs : List Bk} (h : HasK w a bs) (hb : Below w.heap.size w w') : HasK w' a bs := by
  rcases h with h | ⟨b, off, h1, h2, h3⟩
  · exact .inl h
  · exact .inr ⟨b, off, h1, Nat.lt_of_lt_of_le h2 hb.size, fun i hi => ⟨(h3 i hi).1.below hb h2, (h3 i hi).2.below hb⟩⟩
theorem HasK.nil {w : World} {a : Option Addr} : HasK w a [] := .inl rfl
theorem HasK.at2 {w : World} {a : Option Addr} {bs : List Bk} (h : HasK w a bs) (i : Nat) (hi : i < bs.length) : ∃ b off, a = some ⟨b, off, none⟩ ∧ b < w.heap.size ∧ CellsK w b (off + i * 5) (bs.getD i k0) ∧ HasB w (bs.getD i k0) := by
  rcases h with h | ⟨b, off, h1, h2, h3⟩
  · rw [h] at hi; simp at hi
  · exact ⟨b, off, h1, h2, h3 i hi⟩
def FitK (bs : List Bk) : Prop := ∀ i, FitB (bs.getD i k0)
theorem fit_k0 : FitB k0 := ⟨by simp [k0, In64], by simp [k0, In64], by simp [k0, In64], fun i => by rw [show k0.qs = [] from rfl, List.getD_nil]; exact Srs.fit_q0, Nat.zero_le _, fun i => by rw [show k0.ts = [] from rfl, List.getD_nil]; exact fit_t0, Nat.zero_le _⟩
/-- How much a block has. -/
def tk (h : Bk) : Nat := h.qs.length + Srs.tot h.qs h.qs.length + h.ts.length + Stn.tot h.ts h.ts.length
/-- How much the first k blocks have. -/
def totK (bs : List Bk) : Nat → Nat
  | 0 => 0
  | k + 1 => totK bs k + tk (bs.getD k k0)
theorem totK_mono (bs : List Bk) : ∀ (k j : Nat), j ≤ k → totK bs j ≤ totK bs k := by
  intro k
  induction k with
  | zero => intro j h; rw [show j = 0 by omega]; exact Nat.le_refl _
  | succ k ih =>
    intro j h
    by_cases e : j = k + 1
    · rw [e]; exact Nat.le_refl _
    · have := ih j (by omega)
      simp only [totK]; omega
theorem sml_tk {h : Bk} (g : tk h ≤ 1048576) : SmlB h := by
  unfold tk at g
  exact ⟨by omega, Srs.sml_tot (by omega), by omega, Stn.sml_tot (by omega)⟩
def SmlK (bs : List Bk) : Prop := ∀ i, i < bs.length → SmlB (bs.getD i k0)
theorem sml_totK {bs : List Bk} (h : totK bs bs.length ≤ 1048576) : SmlK bs := by
  intro i hi
  have := totK_mono bs bs.length (i + 1) hi
  simp only [totK] at this
  exact sml_tk (by omega)
def SameK (n : Nat) (bs d : List Bk) : Prop := ∀ i, i < n → SameB (bs.getD i k0) (d.getD i k0)
theorem SameK.fit {n : Nat} {bs d : List Bk} (s : SameK n bs d) (hl : d.length = n) (hf : FitK bs) : FitK d := by
  intro i
  by_cases hi : i < n
  · exact (s i hi).fit (hf i)
  · rw [List.getD_eq_getElem?_getD, List.getElem?_eq_none (by omega)]; exact fit_k0
theorem SameK.sml {n : Nat} {bs d : List Bk} (s : SameK n bs d) (hl : d.length = n) (hn : bs.length = n) (hz : SmlK bs) : SmlK d := by
  intro i hi
  exact (s i (by omega)).sml (hz i (by omega))

set_option maxHeartbeats 1000000 in
theorem f9k (h : Bk) (M : Int) (w : World) (hM0 : 0 ≤ M) (hM1 : M ≤ 1048576) (hr : HasB w h) (hf : FitB h) :
    Calls Try.prog 9 #[agB h, .int .i64 M] w fun e w' => ∃ y : Int, e = .returned (.int .i64 y) ∧ -1 ≤ y ∧ y ≤ M ∧ (0 ≤ y → tk h + y ≤ M) ∧ Below w.heap.size w w' := by
  obtain ⟨F, T, L, qs, a, c, ts, b, d⟩ := h
  obtain ⟨-, -, -, f4, f5, f6, f7⟩ := hf
  obtain ⟨hr1, hr2⟩ := hr
  simp only at hr1 hr2 f4 f5 f6 f7
  have HR := hid hr1
  have HT := hid hr2
  have HF := hid f4
  have HM := hid f5
  have HF2 := hid f6
  have HM2 := hid f7
  have HB0 := hid ((Below.refl w.heap.size w).alloc (Nat.le_refl _) (.cells #[.int .i64 F, .int .i64 T, .int .i64 L, .slice a qs.length c, .slice b ts.length d] 33))
  have HC0 := hid (heap_alloc_new w (.cells #[.int .i64 F, .int .i64 T, .int .i64 L, .slice a qs.length c, .slice b ts.length d] 33))
  clear hr1 hr2 f4 f5 f6 f7
  simp only [agB, clB]
  go_enter Try.func9, Try.ntmps9
  go_wp2_with fail
  refine (Srs.f19 a qs.length c M qs _ hM0 hM1 rfl (HR.out.below HB0.out) HF.out HM.out).mono ?_
  rintro e w1 ⟨y, rfl, y0, y1, hy, hb1⟩
  have HB1 := hid (HB0.out.trans (hb1.mono HB0.out.size))
  obtain ⟨c0, c1, c2, c3, c4⟩ := five (kept HC0.out hb1)
  have HY := hid hy
  clear hb1 hy
  by_cases g0 : y < 0
  · go_wp2
    go_ret
    exact ⟨-1, rfl, by omega, by omega, fun h => absurd h (by omega), HB1.out⟩
  · go_wp2_with fail
    refine (Stn.f20 b ts.length d y ts _ (by omega) (by omega) rfl (HT.out.below HB1.out) HF2.out HM2.out).mono ?_
    rintro e w2 ⟨z, rfl, z0, z1, hz, hb2⟩
    have HB2 := hid (HB1.out.trans (hb2.mono HB1.out.size))
    have HZ : Hid (0 ≤ z → tk ⟨F, T, L, qs, a, c, ts, b, d⟩ + z ≤ M) := fun h => by
      have h1 := HY.out (by omega)
      have h2 := hz h
      unfold tk
      simp only
      omega
    clear hb2 hz
    by_cases g1 : z < 0
    · go_wp2
      go_ret
      exact ⟨-1, rfl, by omega, by omega, fun h => absurd h (by omega), HB2.out⟩
    · go_wp2
      go_ret
      exact ⟨z, rfl, by omega, by omega, HZ.out, HB2.out⟩

set_option maxHeartbeats 1000000 in
theorem f4 (a : Option Addr) (n c : Nat) (L : Int) (ts : List Bk) (w : World) (hL0 : 0 ≤ L) (hL1 : L ≤ 1048576) (hn : ts.length = n) (hr : HasK w a ts) (hf : FitK ts) (hmax : n ≤ maxLen) :
    Calls Try.prog 4 #[.slice a n c, .int .i64 L] w fun e w' => ∃ y : Int, e = .returned (.int .i64 y) ∧ -1 ≤ y ∧ y ≤ L ∧ (0 ≤ y → n + totK ts n + y ≤ L) ∧ Below w.heap.size w w' := by
  unfold maxLen at hmax
  by_cases hbig : n ≤ L
  · have HN := hid hn
    have HR := hid hr
    have HF := hid hf
    clear hn hr hf
    go_enter Try.func4, Try.ntmps4
    go_wp2
    go_loopw [1, 5] (fun sx i wr => ∃ (k : Nat) (x : Int), k ≤ n ∧ i = .int .i64 k ∧ sx = .int .i64 x ∧ 0 ≤ x ∧ n + totK ts k + x ≤ L ∧ Hid (Below w.heap.size w wr)) (fun _ i _ => n - (intOf i).toNat)
    case atStart => exact ⟨0, _, Nat.zero_le _, rfl, rfl, by omega, by simp only [totK]; omega, Below.refl _ _⟩
    case round =>
      obtain ⟨k, x, hk, rfl, rfl, hx0, hx1, HB⟩ := hrel
      by_cases hlt : k < n
      · obtain ⟨b, off, rfl, hbl, hc, hl⟩ := (HR.out).at2 k (by rw [HN.out]; exact hlt)
        obtain ⟨d0, d1, d2, d3, d4⟩ := hc.below HB.out hbl
        have HL := hid (hl.below HB.out)
        have G := hid (HF.out k)
        have HT : Hid (totK ts (k + 1) = totK ts k + tk (ts.getD k k0)) := rfl
        clear hc hl hbl
        generalize ts.getD k k0 = q at *
        go_wp2_with fail
        refine (f9k q x _ hx0 (by omega) HL.out G.out).mono ?_
        rintro e w2 ⟨y, rfl, y0, y1, hy, hb2⟩
        have HB2 := hid (HB.out.trans (hb2.mono HB.out.size))
        clear hb2 d0 d1 d2 d3 d4 HB
        by_cases hy0 : y < 0
        · go_wp2
          go_ret
          exact ⟨-1, rfl, by omega, by omega, fun h => absurd h (by omega), HB2.out⟩
        · have hy' := hid (hy (by omega))
          clear hy
          go_wp2
          go_roundw
          case rel => exact ⟨k + 1, y, by omega, by go_num, rfl, by omega, by rw [HT.out]; have := hy'.out; omega, HB2.out⟩
          case measure => simp [intOf]; omega
      · obtain rfl : k = n := by omega
        go_wp2
        go_ret
        exact ⟨x, rfl, by omega, by omega, fun _ => by omega, HB.out⟩
  · go_enter Try.func4, Try.ntmps4
    go_wp2
    go_ret
    exact ⟨-1, rfl, by omega, by omega, by omega, Below.refl _ _⟩
end Go.Proofs.Ytmgghnmlhkahnaa.Blk
