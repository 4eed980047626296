/- The series of a shelf's blocks: sorted stably and written one behind the other they are what comes of merging block by block. -/
import Derived.Test.YtjhdmghpklagkaaGreatD38
import Derived.Test.YtjhdmghpklagkaaGreatD26
namespace Go.Proofs.YtjhdmghpklagkaaGreat.Hpl
open Go.RowKit
open Go.Proofs.YtjhdmghpklagkaaGreat.Stb
open Go.Proofs.YtjhdmghpklagkaaGreat.Lab (Lb cmpList)
open Go.Proofs.YtjhdmghpklagkaaGreat.Smp (Sm mrg cut)
open Go.Proofs.YtjhdmghpklagkaaGreat.Srs (Q q0 pl Pl jF GoodQ)
open Go.Proofs.YtjhdmghpklagkaaGreat.Blk
open Go.Proofs.YtjhdmghpklagkaaGreat.Pat (Mt HasM goodM)

theorem smp_rise {s : List Sm} (g : Smp.GoodP s) : ∀ j i, i ≤ j → j < s.length → (s.getD i Smp.e0).1 ≤ (s.getD j Smp.e0).1
  | 0, i, h, _ => by rw [show i = 0 by omega]; exact Int.le_refl _
  | j + 1, i, h, hj => by
    by_cases e : i = j + 1
    · rw [e]; exact Int.le_refl _
    · have h1 := smp_rise g j i (by omega) (by omega)
      have h2 := (g.2 (j + 1) hj).2 (by omega)
      simp only [Nat.add_sub_cancel] at h2
      omega
theorem in_span {h : Bk} (g : GoodB h) {i : Nat} (hi : i < h.qs.length) {p : Sm} (hp : p ∈ (h.qs.getD i q0).s) : h.F ≤ p.1 ∧ p.1 < h.T := by
  obtain ⟨h1, h2⟩ := g.2.2.1 i hi
  have hS := good_smp g hi
  generalize (h.qs.getD i q0).s = s at *
  obtain ⟨j, hj, rfl⟩ := List.getElem_of_mem hp
  have e : s[j] = s.getD j Smp.e0 := by simp [hj]
  rw [e]
  unfold firstT at h1
  unfold lastT at h2
  have a1 := smp_rise hS j 0 (Nat.zero_le _) hj
  have a2 := smp_rise hS (s.length - 1) j (by omega) (by omega)
  omega
theorem shelf_lt {b : Int} {bs : List Bk} (g : GoodK b bs) : ∀ j i, i < j → j < bs.length → (bs.getD i k0).T ≤ (bs.getD j k0).F
  | 0, i, h, _ => by omega
  | j + 1, i, h, hj => by
    have h1 : (bs.getD j k0).T ≤ (bs.getD (j + 1) k0).F := (g.2.2 (j + 1) hj).2.2.2.2
    by_cases e : i = j
    · subst e; exact h1
    · have h2 := shelf_lt g j i (by omega) (by omega)
      have h3 := (g.2.2 j (by omega)).2.1.1
      unfold Blk.Head at h3
      omega
theorem sels_mem {b : Int} {bs : List Bk} {ms : List Mt} {x y : Int} (g : GoodK b bs) : ∀ k, k ≤ bs.length → ∀ v ∈ sels bs ms x y k, ∃ i, i < k ∧ ∀ p ∈ v.2, (bs.getD i k0).F ≤ p.1 ∧ p.1 < (bs.getD i k0).T
  | 0, _, v, hv => by simp [sels] at hv
  | k + 1, hk, v, hv => by
    rw [sels_next (by omega)] at hv
    rcases List.mem_append.1 hv with hv | hv
    · obtain ⟨i, hi, h⟩ := sels_mem g k (by omega) v hv
      exact ⟨i, by omega, h⟩
    · have gB := (g.2.2 k (by omega)).2.1
      obtain ⟨i, hi, ht⟩ := (ans_tells gB).1 v hv
      exact ⟨k, by omega, fun p hp => in_span gB hi (ht.mem p hp)⟩
theorem sels_then {b : Int} {bs : List Bk} {ms : List Mt} {x y : Int} (g : GoodK b bs) : ∀ k, k ≤ bs.length → (sels bs ms x y k).Pairwise Then
  | 0, _ => by simp [sels]
  | k + 1, hk => by
    rw [sels_next (by omega)]
    have gB := (g.2.2 k (by omega)).2.1
    refine List.pairwise_append.2 ⟨sels_then g k (by omega), ?_, fun v hv u hu _ p hp q hq => ?_⟩
    · exact (ans_tells gB).2.imp (fun hlt e => by rw [e, Stb.lst_self] at hlt; omega)
    · obtain ⟨i, hi, h⟩ := sels_mem g k (by omega) v hv
      obtain ⟨j, hj, ht⟩ := (ans_tells gB).1 u hu
      have h1 := h p hp
      have h2 := in_span gB hj (ht.mem q hq)
      have h3 := shelf_lt g k i hi (by omega)
      omega
theorem shelf_join {b : Int} {bs : List Bk} {ms : List Mt} {x y : Int} (g : GoodK b bs) : runs ltP jCat (isort ltP (sels bs ms x y bs.length)) = puts ltP jF [] (sels bs ms x y bs.length) :=
  join_same ordP ⟨fun _ _ _ => rfl, fun _ _ _ => rfl⟩ eqv_key _ (sels_then g bs.length (Nat.le_refl _))
end Go.Proofs.YtjhdmghpklagkaaGreat.Hpl
namespace Go.Proofs.YtjhdmghpklagkaaGreat.Hpl
open Go.RowKit
open Go.Proofs.YtjhdmghpklagkaaGreat.Stb
open Go.Proofs.YtjhdmghpklagkaaGreat.Lab (HasL cmpList two0 two1)
open Go.Proofs.YtjhdmghpklagkaaGreat.Smp (Sm HasS)
open Go.Proofs.YtjhdmghpklagkaaGreat.Srs (Q q0 pl Pl Own2 Kin Dsj blk flat flat_append flat_get getD_snoc OwnO own_below own_formP infoQ'' jF)
open Go.Proofs.YtjhdmghpklagkaaGreat.Blk
open Go.Proofs.YtjhdmghpklagkaaGreat.Pat (Mt HasM goodM FitM)

abbrev Fd := Sl × List Q
abbrev svl (f : Fd) : Value := .slice f.1.1 f.1.2.1 f.1.2.2
abbrev qsF (Fs : List Fd) : List Q := Fs.flatMap (·.2)
structure Fnd (w : World) (L : List (List Pl)) (k : Nat) (a : Option Addr) (c : Nat) (Fs : List Fd) (W : World) : Prop where
  bel : Below w.heap.size w W
  len : Fs.length = k
  row : W.ownsRow w.heap.size 33 1 (.slice a k c) k (Fs.map svl)
  ans : ∀ f ∈ Fs, f.1.2.1 = f.2.length ∧ W.ownsRow w.heap.size 80 2 (svl f) f.1.2.1 (flat f.2)
  own : ∀ q ∈ qsF Fs, Own2 w.heap.size q W
  dis : (qsF Fs).Pairwise Dsj
  pls : Fs.map (fun f => f.2.map pl) = L
theorem Fnd.nil (w : World) : Fnd w [] 0 none 0 [] w := ⟨Below.refl _ _, rfl, World.ownsRow_nil _ _ _ _, fun f hf => by simp at hf, fun q hq => by simp at hq, by simp, rfl⟩
theorem Fnd.below {w W W' : World} {L : List (List Pl)} {k c : Nat} {a : Option Addr} {Fs : List Fd} (h : Fnd w L k a c Fs W) (hb : Below W.heap.size W W') : Fnd w L k a c Fs W' :=
  ⟨h.bel.trans (hb.mono h.bel.size), h.len, own_below h.row hb, fun f hf => ⟨(h.ans f hf).1, own_below (h.ans f hf).2 hb⟩, fun q hq => (h.own q hq).below hb, h.dis, h.pls⟩
theorem apt {w : World} {b1 b2 e1 e2 s1 s2 n1 n2 : Nat} {v1 v2 : Value} {x1 x2 : List Value} (h1 : w.ownsRow b1 e1 s1 v1 n1 x1) (h2 : w.ownsRow b2 e2 s2 v2 n2 x2) (hne : e1 ≠ e2) {g : Nat} (hg1 : v1.ownBlock = some g) (hg2 : v2.ownBlock = some g) : False := by
  rcases Pat.own_apart h1 h2 hne with h | h
  · rw [hg1] at h; cases h
  · exact h (hg1.trans hg2.symm)
theorem kept_apt {w W : World} {b1 b2 e1 e2 s1 s2 n1 n2 : Nat} {v1 v2 : Value} {x1 x2 : List Value} (h1 : w.ownsRow b1 e1 s1 v1 n1 x1) (h2 : w.ownsRow b2 e2 s2 v2 n2 x2) (hne : e1 ≠ e2) (hg : w.grownBy W v2.ownBlock) : W.ownsRow b1 e1 s1 v1 n1 x1 :=
  h1.kept hg (Pat.own_apart h1 h2 hne)
theorem Fnd.next {w W W1 W2 : World} {L : List (List Pl)} {k m' c c' c2 : Nat} {a a' a2 : Option Addr} {Fs : List Fd} {R : List Q} (h : Fnd w L k a c Fs W) (hb : Below W.heap.size W W1) (ho : OwnO W.heap.size a' m' c' R W1) (hg : W1.grownBy W2 (Value.slice a k c).ownBlock)
    (hr : W2.ownsRow w.heap.size 33 1 (.slice a2 (k + 1) c2) (k + 1) (Fs.map svl ++ [.slice a' m' c'])) : Fnd w (L ++ [R.map pl]) (k + 1) a2 c2 (Fs ++ [((a', m', c'), R)]) W2 := by
  have h1 := h.below hb
  have hX := h.bel.size
  have ho1 := OwnO_base ho hX
  have hk := ho1.kin
  refine ⟨h1.bel.grown hg h1.bel.size (fun j e => (h1.row.lt j e).1), by simp [h.len], by rw [List.map_append]; exact hr, fun f hf => ?_, fun q hq => ?_, ?_, by rw [List.map_append, h.pls]; rfl⟩
  · rcases List.mem_append.1 hf with hf | hf
    · exact ⟨(h1.ans f hf).1, kept_apt (h1.ans f hf).2 h1.row (by decide) hg⟩
    · obtain rfl : f = ((a', m', c'), R) := by simpa using hf
      exact ⟨ho.len.symm, kept_apt ho1.row h1.row (by decide) hg⟩
  · have hq1 : Own2 w.heap.size q W1 := by
      simp only [qsF, List.flatMap_append, List.mem_append] at hq
      rcases hq with hq | hq
      · exact h1.own q hq
      · exact hk.own q (by simpa using hq)
    exact ⟨hq1.ha, hq1.hb, kept_apt hq1.lab h1.row (by decide) hg, kept_apt hq1.smp h1.row (by decide) hg, hq1.ne⟩
  · simp only [qsF, List.flatMap_append]
    refine List.pairwise_append.2 ⟨h.dis, by simpa using hk.dis, fun p hp q hq => ?_⟩
    have hp1 := (h.own p hp).hi
    have hq1 : q ∈ R := by simpa using hq
    have hq2 := (ho.kin.own q hq1).lo
    exact ⟨by omega, by omega, by omega, by omega⟩
def lns : Nat → List Fd → List Ln
  | _, [] => []
  | k, f :: Fs => if 0 < f.1.2.1 then ⟨k, blk f.1.1, 0, f.1.2.2, f.2⟩ :: lns (k + 1) Fs else lns (k + 1) Fs
def Adr (f : Fd) : Prop := f.1.2.1 = f.2.length ∧ (0 < f.1.2.1 → f.1.1 = some ⟨blk f.1.1, 0, none⟩)
theorem lns_encs : ∀ (Fs : List Fd) (k : Nat), (∀ f ∈ Fs, Adr f) → (lns k Fs).map YQ.enc = encs k (Fs.map Prod.fst)
  | [], _, _ => rfl
  | f :: Fs, k, h => by
    have ih := lns_encs Fs (k + 1) (fun x hx => h x (by simp [hx]))
    have hf := h f (by simp)
    rw [lns, List.map_cons, encs]
    by_cases h0 : 0 < f.1.2.1
    · rw [if_pos h0, if_pos h0, List.map_cons, ih]
      refine congrArg (· :: _) ?_
      show ((.int .i64 k, .slice (some ⟨blk f.1.1, 0, none⟩) f.2.length f.1.2.2) : Value × Value) = _
      rw [← hf.2 h0, ← hf.1]
    · rw [if_neg h0, if_neg h0, ih]
theorem lns_mem : ∀ {Fs : List Fd} {k : Nat} {x : Ln}, x ∈ lns k Fs → ∃ f ∈ Fs, 0 < f.1.2.1 ∧ x.b = blk f.1.1 ∧ x.o = 0 ∧ x.c = f.1.2.2 ∧ x.L = f.2 ∧ k ≤ x.k
  | [], _, x, h => by simp [lns] at h
  | f :: Fs, k, x, h => by
    rw [lns] at h
    have go : x ∈ lns (k + 1) Fs → ∃ f' ∈ f :: Fs, 0 < f'.1.2.1 ∧ x.b = blk f'.1.1 ∧ x.o = 0 ∧ x.c = f'.1.2.2 ∧ x.L = f'.2 ∧ k ≤ x.k := fun h => by
      obtain ⟨f', h1, h2, h3, h4, h5, h6, h7⟩ := lns_mem h
      exact ⟨f', List.mem_cons_of_mem _ h1, h2, h3, h4, h5, h6, by omega⟩
    split at h
    · rename_i h0
      rcases List.mem_cons.1 h with rfl | h
      · exact ⟨f, by simp, h0, rfl, rfl, rfl, rfl, Nat.le_refl _⟩
      · exact go h
    · exact go h
theorem lns_nums : ∀ (Fs : List Fd) (k : Nat), (lns k Fs).Pairwise (fun x y => x.k < y.k)
  | [], _ => by simp [lns]
  | f :: Fs, k => by
    have ih := lns_nums Fs (k + 1)
    rw [lns]
    split
    · refine List.pairwise_cons.2 ⟨fun y hy => ?_, ih⟩
      obtain ⟨_, _, _, _, _, _, _, h⟩ := lns_mem hy
      show k < y.k
      omega
    · exact ih
theorem lns_all : ∀ (Fs : List Fd) (k : Nat), (∀ f ∈ Fs, Adr f) → (lns k Fs).flatMap Ln.L = qsF Fs
  | [], _, _ => rfl
  | f :: Fs, k, h => by
    have ih := lns_all Fs (k + 1) (fun x hx => h x (by simp [hx]))
    have hf := h f (by simp)
    rw [lns]
    by_cases h0 : 0 < f.1.2.1
    · rw [if_pos h0, List.flatMap_cons, ih]; rfl
    · rw [if_neg h0, ih]
      have : f.2 = [] := List.eq_nil_of_length_eq_zero (by rw [← hf.1]; omega)
      show qsF Fs = qsF (f :: Fs)
      rw [qsF, qsF, List.flatMap_cons, this]; rfl
theorem Fnd.adr {w W : World} {L : List (List Pl)} {k c : Nat} {a : Option Addr} {Fs : List Fd} (h : Fnd w L k a c Fs W) : ∀ f ∈ Fs, Adr f := by
  intro f hf
  refine ⟨(h.ans f hf).1, fun h0 => ?_⟩
  rcases (h.ans f hf).2.2 with ⟨_, h2⟩ | ⟨g, cap, cur, h1, _⟩
  · omega
  · simp only [svl, Value.slice.injEq] at h1
    rw [h1.1]; rfl
theorem Fnd.lanes {w W : World} {L : List (List Pl)} {k c : Nat} {a : Option Addr} {Fs : List Fd} (h : Fnd w L k a c Fs W) (hr : ∀ X ∈ L, X.Pairwise (fun v u => cmpList v.1 u.1 < 0)) : Lanes cbQ Ln.k Ln.L (lns 0 Fs) := by
  refine ⟨fun x hx => ?_, fun x hx => ?_, (lns_nums Fs 0).imp (fun h => by omega)⟩
  · obtain ⟨f, hf, _, _, _, _, h6, _⟩ := lns_mem hx
    rw [h6]
    have := hr (f.2.map pl) (by rw [← h.pls]; exact List.mem_map_of_mem hf)
    rw [List.pairwise_map] at this
    exact this
  · obtain ⟨f, hf, h0, _, _, _, h6, _⟩ := lns_mem hx
    rw [h6]
    intro e
    have := (h.ans f hf).1
    rw [e] at this
    simp at this
    omega
def LnP (Fs : List Fd) (x : Ln) : Prop := ∃ f ∈ Fs, ∃ j, 0 < f.1.2.1 ∧ j < f.2.length ∧ x.b = blk f.1.1 ∧ x.o = j * 2 ∧ x.c = f.1.2.2 - j ∧ x.L = f.2.drop j
def Rws (Fs : List Fd) (b : Nat) : Prop := ∃ f ∈ Fs, 0 < f.1.2.1 ∧ b = blk f.1.1
theorem lnP_of {Fs : List Fd} {k : Nat} {x : Ln} (hA : ∀ f ∈ Fs, Adr f) (h : x ∈ lns k Fs) : LnP Fs x := by
  obtain ⟨f, hf, h0, h1, h2, h3, h4, _⟩ := lns_mem h
  exact ⟨f, hf, 0, h0, by rw [← (hA f hf).1]; exact h0, h1, by rw [h2], by rw [h3]; simp, by rw [h4]; simp⟩
theorem lnP_len {Fs : List Fd} {x : Ln} (h : LnP Fs x) : x.L ≠ [] := by
  obtain ⟨f, _, j, _, h2, _, _, _, h6⟩ := h
  rw [h6]
  intro e
  have := congrArg List.length e
  simp at this
  omega
theorem lnP_head {Fs : List Fd} {x : Ln} (h : LnP Fs x) : x.L.headD q0 ∈ qsF Fs := by
  obtain ⟨f, hf, j, _, h2, _, _, _, h6⟩ := h
  rw [h6, List.headD_eq_head?_getD, List.head?_drop, List.getElem?_eq_getElem h2]
  exact List.mem_flatMap.2 ⟨f, hf, List.getElem_mem h2⟩
theorem lnP_tl {Fs : List Fd} {x : Ln} (h : LnP Fs x) (h2 : 2 ≤ x.L.length) : LnP Fs x.tl := by
  obtain ⟨f, hf, j, h0, h1, h3, h4, h5, h6⟩ := h
  rw [h6, List.length_drop] at h2
  refine ⟨f, hf, j + 1, h0, by omega, h3, ?_, ?_, ?_⟩
  · show x.o + 2 = _; rw [h4]; omega
  · show x.c - 1 = _; rw [h5]; omega
  · show x.L.tail = _; rw [h6, List.tail_drop]
theorem lnP_cells {w W : World} {L : List (List Pl)} {k c : Nat} {a : Option Addr} {Fs : List Fd} (h : Fnd w L k a c Fs W) {W' : World} (hr : ∀ b, Rws Fs b → W'.heap[b]? = W.heap[b]?) {x : Ln} (hx : LnP Fs x) : W'.cell? ⟨x.b, x.o, none⟩ = some (YQ.h1 x) ∧ W'.cell? ⟨x.b, x.o + 1, none⟩ = some (YQ.h2 x) := by
  obtain ⟨f, hf, j, h0, h1, h3, h4, h5, h6⟩ := hx
  have hrow := (h.ans f hf).2
  have hadr := (h.adr f hf).2 h0
  have hln := (h.ans f hf).1
  have e0 : svl f = .slice (some ⟨blk f.1.1, 0, none⟩) f.1.2.1 f.1.2.2 := by unfold svl; rw [← hadr]
  rw [e0] at hrow
  obtain ⟨y0, y1⟩ := flat_get f.2 j h1
  have z0 := (hrow.cellAt (j * 2) (by omega)).trans y0
  have z1 := (hrow.cellAt (j * 2 + 1) (by omega)).trans y1
  have hb := hr (blk f.1.1) ⟨f, hf, h0, rfl⟩
  have hh : x.L.headD q0 = f.2.getD j q0 := by
    rw [h6, List.headD_eq_head?_getD, List.head?_drop, List.getD_eq_getElem?_getD]
  have ec : ∀ o, W'.cell? ⟨blk f.1.1, o, none⟩ = W.cell? ⟨blk f.1.1, o, none⟩ := fun o => by simp only [World.cell?, hb]
  rw [h3, h4, ec, ec, z0, z1]
  exact ⟨by show _ = some (Value.slice (slH (x.L.headD q0)).1.1 (slH (x.L.headD q0)).1.2.1 (slH (x.L.headD q0)).1.2.2); rw [hh], by show _ = some (Value.slice (slH (x.L.headD q0)).2.1 (slH (x.L.headD q0)).2.2.1 (slH (x.L.headD q0)).2.2.2); rw [hh]⟩
theorem lnP_cap {w W : World} {L : List (List Pl)} {k c : Nat} {a : Option Addr} {Fs : List Fd} (h : Fnd w L k a c Fs W) {x : Ln} (hx : LnP Fs x) : x.L.length ≤ x.c ∧ x.c ≤ maxLen ∧ Rws Fs x.b ∧ x.b < W.heap.size := by
  obtain ⟨f, hf, j, h0, h1, h3, h4, h5, h6⟩ := hx
  have hrow := (h.ans f hf).2
  have hadr := (h.adr f hf).2 h0
  have hln := (h.ans f hf).1
  have hlt : blk f.1.1 < W.heap.size := (hrow.lt _ (by unfold svl; rw [hadr]; rfl)).2
  refine ⟨?_, ?_, ⟨f, hf, h0, h3⟩, by rw [h3]; exact hlt⟩
  · rcases hrow.2 with ⟨_, h2⟩ | ⟨g, cap, cur, e1, _, _, hc, _⟩
    · omega
    · simp only [svl, Value.slice.injEq] at e1
      rw [h6, h5, List.length_drop, e1.2.2]
      omega
  · rcases hrow.2 with ⟨_, h2⟩ | ⟨g, cap, cur, e1, _, _, hc, hm, _⟩
    · omega
    · simp only [svl, Value.slice.injEq] at e1
      rw [h5, e1.2.2]
      omega
end Go.Proofs.YtjhdmghpklagkaaGreat.Hpl
namespace Go.Proofs.YtjhdmghpklagkaaGreat.Hpl
open Go.RowKit
open Go.Proofs.YtjhdmghpklagkaaGreat.Stb
open Go.Proofs.YtjhdmghpklagkaaGreat.Lab (HasL cmpList two0 two1)
open Go.Proofs.YtjhdmghpklagkaaGreat.Smp (Sm HasS)
open Go.Proofs.YtjhdmghpklagkaaGreat.Srs (Q q0 pl Pl Own2 Kin Dsj blk flat flat_append flat_get getD_snoc OwnO own_below own_formP infoQ'' jF)
attribute [local go_sem] Oper.semAt_some

def JInv (w W0 : World) (B0 B1 : Nat) (Fs : List Fd) (T : List Q) (l D Ob hb g : Nat) (fn : FuncId) (v : Vs) (pre : List Q) (W : World) : Prop :=
  ∃ oh og a m c R rest, Jm w W0 B0 B1 (Rws Fs) T l D Ob hb g (jRec fn v Ob D .ready) oh og pre a m c R rest W
theorem jLoopy {w W0 : World} {B0 B1 : Nat} {L : List (List Pl)} {k c9 : Nat} {a9 : Option Addr} {Fs : List Fd} {T : List Q} {l D Ob hb g : Nat} {fn : FuncId} {v : Vs} (hF : Fnd w L k a9 c9 Fs W0) (S : Js w B0 B1 (Rws Fs) T) (I : Lie B0 B1 Ob hb g D l) (hT : ∀ q ∈ qsF Fs, q ∈ T) :
    Loopy (JInv w W0 B0 B1 Fs T l D Ob hb g fn v) (LnP Fs) T l hb g (jRec fn v Ob D .ready) 33 where
  recd := by rintro pre W ⟨_, _, _, _, _, _, _, h⟩; exact h.L
  par := rfl
  lane := by
    intro x hx
    obtain ⟨h1, h2, h3, _⟩ := lnP_cap hF hx
    have h4 := S.row _ h3
    have i1 := I.a
    have i2 := I.b
    have i3 := I.c
    exact ⟨h1, h2, by omega, by omega, fun h => lnP_tl hx h⟩
  cel := by
    rintro pre W x ⟨_, _, _, _, _, _, _, h⟩ hx
    exact lnP_cells hF h.C.rws hx
  cmp := by
    rintro pre W x y ⟨_, _, _, _, _, _, _, h⟩ hx hy
    have h1 := hT _ (lnP_head hx)
    have h2 := hT _ (lnP_head hy)
    have s1 := S.one _ h1
    have s2 := S.one _ h2
    refine Srs.f92 (x.L.headD q0) (y.L.headD q0) W (by omega) (by omega) ?_ ?_
    · rw [s1.2.2.2.2.2]; exact Lab.HasL.own (h.C.lab _ h1)
    · rw [s2.2.2.2.2.2]; exact Lab.HasL.own (h.C.lab _ h2)
  stay := by
    rintro pre W W' j ⟨oh, og, a, m, c, R, rest, h⟩ hj hg
    have i1 := I.a
    have i2 := I.b
    have i3 := I.c
    have i4 := I.d
    have i5 := I.e
    have i6 := I.f
    have hs := h.C.siz
    have hk : ∀ b, b ≠ j → b < B1 → W'.heap[b]? = W.heap[b]? := fun b hb hb1 => hg.block b (by omega) (fun e => hb (Option.some.inj e))
    have hj1 : B0 ≤ j ∧ j < B1 ∧ l ≠ j ∧ D ≠ j ∧ Ob ≠ j := by rcases hj with rfl | rfl <;> omega
    exact ⟨_, _, a, m, c, R, rest, (hk l (by omega) (by omega)).trans h.L, (hk D (by omega) (by omega)).trans h.K, (hk Ob (by omega) (by omega)).trans h.O, rfl, rfl, h.C.mid S hg hj1.1 hj1.2.1⟩
  round := by
    rintro n pre W x ⟨oh, og, a, m, c, R, rest, h⟩ hx hne ⟨rest', hr⟩
    have e : rest = x.L.headD q0 :: rest' := by
      have := h.C.tot
      rw [← hr] at this
      exact (List.append_cancel_left this).symm
    subst e
    refine (jRound n (x.L.headD q0) S I h).mono ?_
    rintro e W' ⟨rfl, a', m', c', R', rest2, h'⟩
    exact ⟨rfl, ⟨oh, og, a', m', c', R', rest2, h'⟩, h'.kh.trans h.kh.symm, h'.kg.trans h.kg.symm⟩
theorem all_none {l hb c : Nat} {a : Option Addr} {W : World} (hx : Hbx W hb a 0 c) : CallsIn Fence.wide 2 Tryz.prog 93 #[.pointer (some ⟨hb, 0, none⟩), .func (.yield l) #[] #[]] W fun e W' => (∃ v, e = .returned v) ∧ W' = W := by
  have x0 := two0 hx
  refine callsIn_of_wp Tryz.func93 rfl trivial ?_ rfl
  simp only [Tryz.ntmps93, List.size_toArray, List.length_cons, List.length_nil, Nat.reduceAdd, Nat.reduceSub, Array.replicate_succ, Array.replicate_zero, List.push_toArray, List.append_toArray, List.nil_append, List.cons_append]
  gi_wp2
  gi_loopw [4] (fun _ wr => wr = W) (fun _ _ => 0)
  case atStart => rfl
  case round =>
    subst hrel
    gi_wp2
    go_end0
    exact ⟨⟨_, rfl⟩, rfl⟩
end Go.Proofs.YtjhdmghpklagkaaGreat.Hpl
