import Derived.Test.YtjhdmghpklagkaaGreatD21
import Derived.Deep.RegionHeld3
import Derived.Test.YtjhdmghpklagkaaGreatD22
import Derived.Lib.MinMax
import Derived.Maps.AppendAt
import Derived.Lib.AppendZeros
import Derived.Test.YtjhdmghpklagkaaGreatD20
namespace Go.Proofs.YtjhdmghpklagkaaGreat.Lab
open Go.RowKit Go.Proofs.YtjhdmghpklagkaaGreat.Str

abbrev UU (w : World) (b o : Nat) (v : ByteArray) (w' : World) : Prop := w'.cell? ⟨b, o, none⟩ = some (.string v) ∧ b < w'.heap.size ∧ Below w.heap.size w w'
theorem UU.below {w W W' : World} {b o : Nat} {v : ByteArray} (h : UU w b o v W) (hb : Below W.heap.size W W') : UU w b o v W' :=
  ⟨(hb.cell (p := ⟨b, o, none⟩) h.2.1).trans h.1, Nat.lt_of_lt_of_le h.2.1 hb.size, h.2.2.trans (hb.mono h.2.2.size)⟩
theorem UU.drew {w W : World} {b o : Nat} {v : ByteArray} (h : UU w b o v W) : UU w b o v W.drew := ⟨h.1, h.2.1, h.2.2.drew⟩

set_option maxHeartbeats 2000000 in
theorem f60 (g n c k : Nat) (w : World) (hk : k + 2 * n ≤ 100000000) (hr : HasL w (some ⟨g, 0, none⟩) (markL k n)) :
    Calls Tryz.prog 60 #[.slice (some ⟨g, 0, none⟩) n c, .int .i64 k] w fun e w' => e = .returned (.int .i64 ((k + 2 * n : Nat) : Int)) ∧ Below w.heap.size w w' := by
  go_enter Tryz.func60, Tryz.ntmps60
  go_wp2
  go_loopw [1, 5] (fun sk si wr => ∃ (i m : Nat), i ≤ n ∧ si = .int .i64 i ∧ sk = .int .i64 (m : Int) ∧ Hid (m = k + 2 * i) ∧ Below w.heap.size w wr) (fun _ si _ => n - (intOf si).toNat)
  case atStart => exact ⟨0, k, Nat.zero_le _, rfl, rfl, rfl, Below.refl _ _⟩
  case round =>
    obtain ⟨i, m, hi, rfl, rfl, hm, hnx⟩ := hrel
    have HX := hid hnx
    by_cases hlt : i < n
    · rcases hr with hr | ⟨b, off, hbo, hbl, hc⟩
      · have := markL_len k n; rw [hr] at this; simp at this; omega
      simp only [Option.some.injEq, Addr.mk.injEq, and_true] at hbo
      obtain ⟨rfl, rfl⟩ := hbo
      obtain ⟨c0, c1⟩ := hc i (by rw [markL_len]; exact hlt)
      rw [markL_get k n i hlt, ← hm.out, Nat.zero_add] at c0 c1
      have HS := hid (show UU w g (i * 2) (mkT m) wr from ⟨(hnx.cell (p := ⟨g, i * 2, none⟩) hbl).trans c0, Nat.lt_of_lt_of_le hbl hnx.size, hnx⟩)
      have HT := hid (show w.cell? ⟨g, i * 2 + 1, none⟩ = some (.string (mkT (m + 1))) from c1)
      have HL := hid hbl
      have i1 : (i : Int) < (n : Int) := by omega
      have hm1 : m ≤ 99999998 := by have := hm.out; omega
      clear hc c0 c1 hnx hbl
      go_wp2_with fail
      go_region_held3 (fun w' => UU w g (i * 2) (mkT m) w') (first | exact HS.out.drew | assumption) (first | (go_at_call 57; refine (f57 m _ (by omega)).mono ?_; rintro e w2 ⟨rfl, hb2⟩; have hs2 := UU.below (by assumption) hb2; clear hb2))
      have HX2 := hid hs2.2.2
      have HS2 := hid (show UU w g (i * 2 + 1) (mkT (m + 1)) w2 from ⟨(HX2.out.cell (p := ⟨g, i * 2 + 1, none⟩) HL.out).trans HT.out, hs2.2.1, hs2.2.2⟩)
      clear hs2
      go_wp2_with fail
      go_region_held3 (fun w' => UU w g (i * 2 + 1) (mkT (m + 1)) w') (first | exact HS2.out.drew | assumption) (first | (go_at_call 57; refine (f57 (m + 1) _ (by omega)).mono ?_; rintro e w3 ⟨rfl, hb3⟩; have hs3 := UU.below (by assumption) hb3; clear hb3))
      have HX3 := hid hs3.2.2
      clear hs3
      go_wp2
      go_roundw
      case rel => exact ⟨i + 1, m + 2, by omega, by go_num, by go_num, by have := hm.out; unfold Hid; omega, HX3.out⟩
      case measure => simp [intOf]; omega
    · obtain rfl : i = n := by omega
      go_wp2
      go_ret
      exact ⟨by rw [← hm.out]; rfl, HX.out⟩
end Go.Proofs.YtjhdmghpklagkaaGreat.Lab
namespace Go.Proofs.YtjhdmghpklagkaaGreat.Srs
open Go.RowKit
open Go.Proofs.YtjhdmghpklagkaaGreat.Lab (Lb HasL)
open Go.Proofs.YtjhdmghpklagkaaGreat.Smp (Sm HasS)

structure Own2 (X : Nat) (q : Q) (w : World) : Prop where
  ha : q.a = some ⟨blk q.a, 0, none⟩
  hb : q.b = some ⟨blk q.b, 0, none⟩
  lab : w.ownsRow X 117 2 (.slice (some ⟨blk q.a, 0, none⟩) q.l.length q.c) q.l.length (Lab.flat q.l)
  smp : w.ownsRow X 119 2 (.slice (some ⟨blk q.b, 0, none⟩) q.s.length q.d) q.s.length (Smp.flat q.s)
  ne : blk q.a ≠ blk q.b
theorem Own2.below {X : Nat} {q : Q} {w w' : World} (h : Own2 X q w) (hb : Below w.heap.size w w') : Own2 X q w' := ⟨h.ha, h.hb, own_below h.lab hb, own_below h.smp hb, h.ne⟩
theorem Own2.grown {X r : Nat} {q : Q} {w x : World} (h : Own2 X q w) (hg : w.grownBy x (some r)) (h1 : blk q.a ≠ r) (h2 : blk q.b ≠ r) : Own2 X q x := ⟨h.ha, h.hb, own_grown h.lab hg h1, own_grown h.smp hg h2, h.ne⟩
theorem Own2.kept {X : Nat} {q : Q} {w x : World} {r : Option Nat} (h : Own2 X q w) (hg : w.grownBy x r) (h1 : some (blk q.a) ≠ r) (h2 : some (blk q.b) ≠ r) : Own2 X q x := ⟨h.ha, h.hb, h.lab.kept hg (.inr h1), h.smp.kept hg (.inr h2), h.ne⟩
theorem Own2.hasL {X : Nat} {q : Q} {w : World} (h : Own2 X q w) : HasL w q.a q.l := by rw [h.ha]; exact Lab.HasL.own h.lab
theorem Own2.hasS {X : Nat} {q : Q} {w : World} (h : Own2 X q w) : HasS w q.b q.s := by rw [h.hb]; exact Smp.HasS.own h.smp
theorem Own2.lo {X : Nat} {q : Q} {w : World} (h : Own2 X q w) : X ≤ blk q.a ∧ X ≤ blk q.b := ⟨(h.lab.lt _ rfl).1, (h.smp.lt _ rfl).1⟩
theorem Own2.hi {X : Nat} {q : Q} {w : World} (h : Own2 X q w) : blk q.a < w.heap.size ∧ blk q.b < w.heap.size := ⟨(h.lab.lt _ rfl).2, (h.smp.lt _ rfl).2⟩
structure Apart (g n : Nat) (f : Nat → Q) : Prop where
  nea : ∀ i, i < n → blk (f i).a ≠ g ∧ blk (f i).b ≠ g
  dis : ∀ i j, i < n → j < n → i ≠ j → blk (f i).a ≠ blk (f j).a ∧ blk (f i).a ≠ blk (f j).b ∧ blk (f i).b ≠ blk (f j).a ∧ blk (f i).b ≠ blk (f j).b
structure OwnG (X g n c : Nat) (qs : List Q) (w : World) : Prop where
  len : qs.length = n
  row : w.ownsRow X 80 2 (.slice (some ⟨g, 0, none⟩) n c) n (flat qs)
  own : ∀ i, i < n → Own2 X (qs.getD i q0) w
  apt : Apart g n (fun i => qs.getD i q0)
theorem OwnG.below {X g n c : Nat} {qs : List Q} {w w' : World} (h : OwnG X g n c qs w) (hb : Below w.heap.size w w') : OwnG X g n c qs w' := ⟨h.len, own_below h.row hb, fun i hi => (h.own i hi).below hb, h.apt⟩
theorem OwnG.has {X g n c : Nat} {qs : List Q} {w : World} (h : OwnG X g n c qs w) : HasQ w (some ⟨g, 0, none⟩) qs :=
  own_has h.row fun i hi => ⟨(h.own i (by rw [← h.len]; exact hi)).hasL, (h.own i (by rw [← h.len]; exact hi)).hasS⟩
def mq (k : Nat) (q : Q) : Q := ⟨Lab.markL k q.l.length, q.a, q.c, Smp.markL (k + 2 * q.l.length) q.s.length, q.b, q.d⟩
def mqs (k : Nat) (qs : List Q) : List Q := (List.range qs.length).map fun j => mq (k + 2 * tot qs j) (qs.getD j q0)
theorem mqs_len (k : Nat) (qs : List Q) : (mqs k qs).length = qs.length := by simp [mqs]
theorem mqs_get (k : Nat) (qs : List Q) (j : Nat) (h : j < qs.length) : (mqs k qs).getD j q0 = mq (k + 2 * tot qs j) (qs.getD j q0) := by simp [mqs, h]
theorem flat_mqs (k : Nat) (qs : List Q) : flat (mqs k qs) = flat qs := by
  refine List.ext_getElem? fun j => ?_
  by_cases hj : j < qs.length * 2
  · have h1 : j / 2 < qs.length := by omega
    have h2 : j / 2 < (mqs k qs).length := by rw [mqs_len]; exact h1
    obtain ⟨a0, a1⟩ := flat_get qs (j / 2) h1
    obtain ⟨b0, b1⟩ := flat_get (mqs k qs) (j / 2) h2
    rw [mqs_get k qs (j / 2) h1] at b0 b1
    have e0 : ((mq (k + 2 * tot qs (j / 2)) (qs.getD (j / 2) q0)).l).length = (qs.getD (j / 2) q0).l.length := by simp [mq, Lab.markL_len]
    have e1 : ((mq (k + 2 * tot qs (j / 2)) (qs.getD (j / 2) q0)).s).length = (qs.getD (j / 2) q0).s.length := by simp [mq, Smp.markL_len]
    rw [e0] at b0
    rw [e1] at b1
    rcases (show j % 2 = 0 ∨ j % 2 = 1 by omega) with h | h
    · rw [show j = j / 2 * 2 by omega, a0, b0]; rfl
    · rw [show j = j / 2 * 2 + 1 by omega, a1, b1]; rfl
  · rw [List.getElem?_eq_none (by rw [flat_len, mqs_len]; omega), List.getElem?_eq_none (by rw [flat_len]; omega)]
set_option maxHeartbeats 2000000 in
theorem f32 (X g n c k : Nat) (qs : List Q) (w : World) (hn : qs.length = n) (hb : n ≤ 1048576) (hk : k + 2 * tot qs n ≤ 100000000) (hr : OwnG X g n c (mqs k qs) w) :
    Calls Tryz.prog 32 #[.slice (some ⟨g, 0, none⟩) n c, .int .i64 k] w fun e w' => e = .returned (.int .i64 ((k + 2 * tot qs n : Nat) : Int)) ∧ Below w.heap.size w w' := by
  have HN := hid hn
  have HK := hid hk
  have HR := hid hr
  clear hn hk hr
  go_enter Tryz.func32, Tryz.ntmps32
  go_wp2
  go_loopw [1, 5] (fun sk si wr => ∃ (i m : Nat), i ≤ n ∧ si = .int .i64 i ∧ sk = .int .i64 (m : Int) ∧ Hid (m = k + 2 * tot qs i) ∧ Hid (Below w.heap.size w wr)) (fun _ si _ => n - (intOf si).toNat)
  case atStart => exact ⟨0, k, Nat.zero_le _, rfl, rfl, rfl, Below.refl _ _⟩
  case round =>
    obtain ⟨i, m, hi, rfl, rfl, hm, HX⟩ := hrel
    by_cases hlt : i < n
    rotate_left
    · obtain rfl : i = n := by omega
      go_wp2
      go_ret
      exact ⟨by rw [← hm.out]; rfl, HX.out⟩
    have hrw := HR.out.below HX.out
    obtain ⟨b, off, e0, hbl, c0, c1, t1, t2⟩ := hrw.has.at2 i (by rw [mqs_len, HN.out]; exact hlt)
    have ho := hrw.own i hlt
    rw [mqs_get k qs i (by rw [HN.out]; exact hlt)] at c0 c1 t1 t2 ho
    rw [ho.ha] at c0 t1
    cases e0
    clear hrw ho
    have HT : Hid (tot qs (i + 1) = tot qs i + (qs.getD i q0).l.length + (qs.getD i q0).s.length) := rfl
    have HTn := hid (tot_mono qs n (i + 1) hlt)
    simp only [mq, Lab.markL_len, Smp.markL_len, Nat.zero_add] at c0 c1 t1 t2
    rw [← hm.out] at t1 t2
    generalize qs.getD i q0 = q at *
    have HT1 := hid t1
    have HT2 := hid t2
    have N1 : Hid (m + 2 * q.l.length + 2 * q.s.length ≤ 100000000) := by unfold Hid; have := hm.out; have := HK.out; have := HTn.out; have := HT.out; omega
    clear t1 t2
    go_wp2_with fail
    refine (Lab.f60 (blk q.a) q.l.length q.c m _ (by have := N1.out; omega) HT1.out).mono ?_
    rintro e w2 ⟨rfl, hb2⟩
    have HX2 := hid (HX.out.trans (hb2.mono HX.out.size))
    have HT2' := hid (HT2.out.below hb2)
    have d1 := (hb2.cell (p := ⟨g, i * 2 + 1, none⟩) hbl).trans c1
    clear hb2 c0 c1 hbl
    have hm2 : ¬ ((m + 2 * q.l.length : Nat) : Int) < 0 := by omega
    obtain ⟨m2, hm2e⟩ : ∃ m2, m2 = m + 2 * q.l.length := ⟨_, rfl⟩
    have HE2 := hid hm2e
    rw [← hm2e] at hm2 HT2' N1 ⊢
    clear hm2e
    go_wp2_with fail
    refine (Smp.f61 q.b q.s.length q.d m2 _ (by have := N1.out; omega) HT2'.out).mono ?_
    rintro e w3 ⟨rfl, rfl⟩
    have HX3 := hid HX2.out
    clear d1
    have hm3 : ¬ ((m2 + 2 * q.s.length : Nat) : Int) < 0 := by omega
    obtain ⟨m3, hm3e⟩ : ∃ m3, m3 = m2 + 2 * q.s.length := ⟨_, rfl⟩
    have HE3 : Hid (m3 = k + 2 * tot qs (i + 1)) := by unfold Hid; have := hm.out; have := HT.out; have := HE2.out; omega
    rw [← hm3e] at hm3 ⊢
    clear hm3e
    go_wp2
    go_roundw
    case rel => exact ⟨i + 1, m3, by omega, by go_num, rfl, HE3.out, HX3.out⟩
    case measure => simp [intOf]; omega
end Go.Proofs.YtjhdmghpklagkaaGreat.Srs
namespace Go.Proofs.YtjhdmghpklagkaaGreat.Srs
open Go.RowKit
open Go.Proofs.YtjhdmghpklagkaaGreat.Lab (Lb HasL)
open Go.Proofs.YtjhdmghpklagkaaGreat.Smp (Sm HasS)

structure OwnO (X : Nat) (a : Option Addr) (n c : Nat) (qs : List Q) (w : World) : Prop where
  len : qs.length = n
  row : w.ownsRow X 80 2 (.slice a n c) n (flat qs)
  own : ∀ i, i < n → Own2 X (qs.getD i q0) w
  nea : ∀ g, a = some ⟨g, 0, none⟩ → ∀ i, i < n → blk (qs.getD i q0).a ≠ g ∧ blk (qs.getD i q0).b ≠ g
  dis : ∀ i j, i < n → j < n → i ≠ j → blk (qs.getD i q0).a ≠ blk (qs.getD j q0).a ∧ blk (qs.getD i q0).a ≠ blk (qs.getD j q0).b ∧ blk (qs.getD i q0).b ≠ blk (qs.getD j q0).a ∧ blk (qs.getD i q0).b ≠ blk (qs.getD j q0).b
theorem OwnO.nil (X : Nat) (w : World) : OwnO X none 0 0 [] w := ⟨rfl, World.ownsRow_nil _ _ _ _, fun i hi => by omega, fun g _ i hi => by omega, fun i j hi => by omega⟩
theorem OwnO.below {X n c : Nat} {a : Option Addr} {qs : List Q} {w w' : World} (h : OwnO X a n c qs w) (hb : Below w.heap.size w w') : OwnO X a n c qs w' := ⟨h.len, own_below h.row hb, fun i hi => (h.own i hi).below hb, h.nea, h.dis⟩
theorem OwnO.cases {X n c : Nat} {a : Option Addr} {qs : List Q} {w : World} (h : OwnO X a n c qs w) : (a = none ∧ n = 0 ∧ c = 0 ∧ qs = []) ∨ ∃ g, a = some ⟨g, 0, none⟩ ∧ OwnG X g n c qs w := by
  rcases h.row.2 with ⟨h1, h2⟩ | ⟨g, cap, cur, h1, _⟩
  · simp only [Value.slice.injEq] at h1
    exact .inl ⟨h1.1, h1.2.1, h1.2.2, List.eq_nil_of_length_eq_zero (by rw [h.len]; exact h2)⟩
  · simp only [Value.slice.injEq] at h1
    obtain ⟨h1, _, _⟩ := h1
    refine .inr ⟨g, h1, h.len, by have := h.row; rw [h1] at this; exact this, h.own, ⟨h.nea g h1, h.dis⟩⟩
theorem OwnO.has {X n c : Nat} {a : Option Addr} {qs : List Q} {w : World} (h : OwnO X a n c qs w) : HasQ w a qs := by
  rcases h.cases with ⟨_, _, _, h4⟩ | ⟨g, h1, h2⟩
  · exact .inl h4
  · rw [h1]; exact h2.has
theorem OwnO.push {X n c c' : Nat} {a a' : Option Addr} {qs : List Q} {q : Q} {w W w' : World} (h : OwnO X a n c qs w) (hb : Below w.heap.size w W) (hq : Own2 X q W) (h1 : w.heap.size ≤ blk q.a) (h2 : w.heap.size ≤ blk q.b)
    (hg : W.grownBy w' (Value.slice a n c).ownBlock) (hr : w'.ownsRow X 80 2 (.slice a' (n + 1) c') (n + 1) (flat (qs ++ [q])))
    (hv : (Value.slice a' (n + 1) c').ownBlock = (Value.slice a n c).ownBlock ∨ (Value.slice a' (n + 1) c').ownBlock = some W.heap.size) : OwnO X a' (n + 1) c' (qs ++ [q]) w' := by
  have hl := h.len
  have hget : ∀ i, (qs ++ [q]).getD i q0 = if i = n then q else qs.getD i q0 := fun i => by rw [getD_snoc, hl]
  have hlo : ∀ i, i < n → blk (qs.getD i q0).a < w.heap.size ∧ blk (qs.getD i q0).b < w.heap.size := fun i hi => (h.own i hi).hi
  have hob : ∀ g, (Value.slice a n c).ownBlock = some g → a = some ⟨g, 0, none⟩ ∧ g < w.heap.size := by
    intro g hgg
    have h3 := h.row.lt g hgg
    rcases h.row.2 with ⟨h4, _⟩ | ⟨g', cap, cur, h4, _⟩
    · simp only [Value.slice.injEq] at h4; rw [h4.1] at hgg; cases hgg
    · simp only [Value.slice.injEq] at h4
      rw [h4.1] at hgg
      have : g' = g := Option.some.inj hgg
      rw [this] at h4
      exact ⟨h4.1, h3.2⟩
  refine ⟨by simp [hl], hr, fun i hi => ?_, fun g hg' i hi => ?_, fun i j hi hj hij => ?_⟩
  · rw [hget]
    by_cases e : i = n
    · rw [if_pos e]
      refine hq.kept hg (fun e => ?_) (fun e => ?_)
      · have := (hob _ e.symm).2; omega
      · have := (hob _ e.symm).2; omega
    · rw [if_neg e]
      have hi' : i < n := by omega
      refine ((h.own i hi').below hb).kept hg (fun e => ?_) (fun e => ?_)
      · exact (h.nea _ (hob _ e.symm).1 i hi').1 rfl
      · exact (h.nea _ (hob _ e.symm).1 i hi').2 rfl
  · rw [hg'] at hv
    have hv' : some g = (Value.slice a n c).ownBlock ∨ some g = some W.heap.size := hv
    rw [hget]
    by_cases e : i = n
    · rw [if_pos e]
      rcases hv' with h3 | h3
      · have := (hob g h3.symm).2; constructor <;> omega
      · have h4 := Option.some.inj h3; have := hq.hi; constructor <;> omega
    · rw [if_neg e]
      have hi' : i < n := by omega
      rcases hv' with h3 | h3
      · exact h.nea g (hob g h3.symm).1 i hi'
      · have h4 := Option.some.inj h3; have := hlo i hi'; have := hb.size; constructor <;> omega
  · rw [hget, hget]
    by_cases e : i = n
    · have ej : ¬ j = n := by omega
      rw [if_pos e, if_neg ej]
      have := hlo j (by omega)
      refine ⟨?_, ?_, ?_, ?_⟩ <;> omega
    · rw [if_neg e]
      by_cases ej : j = n
      · rw [if_pos ej]
        have := hlo i (by omega)
        refine ⟨?_, ?_, ?_, ?_⟩ <;> omega
      · rw [if_neg ej]; exact h.dis i j (by omega) (by omega) hij
abbrev OwnL (w : World) (base : Nat) (v : Value) (L : List Lb) : Prop := w.ownsRow base 117 2 v L.length (Lab.flat L)
theorem infoL : (Tryz.prog.info? 117).map (fun i => (i.zero, i.size, i.bytes)) = some (some (.agg #[.string ByteArray.empty, .string ByteArray.empty]), 2, 32) := by kernel_rfl
theorem lab_cells {w : World} {b off : Nat} {L : List Lb} (hr : HasL w (some ⟨b, off, none⟩) L) : ∀ j u, (Lab.flat L)[j]? = some u → w.cell? ((⟨b, off, none⟩ : Addr).add j) = some u := by
  intro j u hj
  have hlt : j < L.length * 2 := by
    by_cases h : j < L.length * 2
    · exact h
    · rw [List.getElem?_eq_none (by rw [Lab.flat_len]; omega)] at hj; cases hj
  rcases hr with h | ⟨b', off', h1, h2, h3⟩
  · rw [h] at hlt; simp at hlt
  · cases h1
    have e : (⟨b, off, none⟩ : Addr).add j = ⟨b, off + j, none⟩ := by simp [Addr.add]
    rw [e]
    obtain ⟨g0, g1⟩ := h3 (j / 2) (by omega)
    obtain ⟨y0, y1⟩ := Lab.flat_get L (j / 2) (by omega)
    rcases (show j % 2 = 0 ∨ j % 2 = 1 by omega) with h | h
    · rw [show j = j / 2 * 2 by omega, y0] at hj
      rw [show off + j = off + j / 2 * 2 by omega, g0]; exact hj
    · rw [show j = j / 2 * 2 + 1 by omega, y1] at hj
      rw [show off + j = off + j / 2 * 2 + 1 by omega, g1]; exact hj
theorem lab_one (L : List Lb) : ∀ u ∈ Lab.flat L, u.oneCell' = true := by
  intro u hu
  unfold Lab.flat at hu
  rw [List.mem_flatMap] at hu
  obtain ⟨p, _, hp⟩ := hu
  simp at hp
  rcases hp with rfl | rfl <;> rfl
theorem eqNilL (w : World) (a : Option Addr) (l c : Nat) : (binOp .eql 77 (.slice a l c) (.slice none 0 0)).run Tryz.prog w = .ok (.bool a.isNone) w := Go.run_eql_slice_nil w _ _ a l c Tryz.underlying77
theorem f132 (b off c : Nat) (L : List Lb) (w : World) (h20 : L.length ≤ 1048576) (hr : HasL w (some ⟨b, off, none⟩) L) :
    Calls Tryz.prog 132 #[.slice (some ⟨b, off, none⟩) L.length c] w fun e w' => ∃ v', e = .returned v' ∧ OwnL w' w.heap.size v' L ∧ Below w.heap.size w w' := by
  obtain ⟨i0, hi, hz0, hz1, hz2⟩ := info_parts infoL
  have q := eqNilL
  have HN := hid (lab_cells (hr.alloc (.cells #[] 117)))
  have H1 := hid (lab_one L)
  clear hr
  go_enter Tryz.func132, Tryz.ntmps132
  go_wp2_with (at_builtin; refine wpList_append_own _ rfl (.tmp 5) (.tmp 6) 77 rfl w.heap.size 117 i0 (.agg #[.string ByteArray.empty, .string ByteArray.empty]) 2 32 Tryz.underlying77 hi hz0 hz1 hz2 rfl (by decide) _ _ _ rfl (World.ownsRow_made w #[] 0 (Nat.le_refl _) (Nat.zero_le _) rfl) ⟨b, off, none⟩ L.length c (Lab.flat L) rfl (Lab.flat_len L) HN.out H1.out ?d3 ?d4 ?d5 ?_)
  case d3 => unfold maxLen; omega
  case d4 => omega
  case d5 => simp
  intro v1 w3 hown1 hgr1 _
  go_wp2
  go_ret
  refine ⟨v1, rfl, ?_, ?_⟩
  · unfold OwnL; simpa using hown1
  · exact ((Below.refl _ w).alloc (Nat.le_refl _) _).grown hgr1 (by simp) (by intro k hk; simp [Value.ownBlock] at hk; omega)
theorem f111 (b off c : Nat) (L : List Lb) (w : World) (h20 : L.length ≤ 1048576) (hr : HasL w (some ⟨b, off, none⟩) L) :
    Calls Tryz.prog 111 #[.slice (some ⟨b, off, none⟩) L.length c] w fun e w' => ∃ v', e = .returned v' ∧ OwnL w' w.heap.size v' L ∧ Below w.heap.size w w' := by
  obtain ⟨i0, hi, hz0, hz1, hz2⟩ := info_parts infoL
  have HN := hid (lab_cells hr)
  have H1 := hid (lab_one L)
  clear hr
  go_enter Tryz.func111, Tryz.ntmps111
  go_wp2_with (at_builtin; refine wpList_append_own _ rfl (.tmp 4) (.tmp 5) 77 rfl w.heap.size 117 i0 (.agg #[.string ByteArray.empty, .string ByteArray.empty]) 2 32 Tryz.underlying77 hi hz0 hz1 hz2 rfl (by decide) _ _ _ rfl (World.ownsRow_nil w w.heap.size 117 2) ⟨b, off, none⟩ L.length c (Lab.flat L) rfl (Lab.flat_len L) HN.out H1.out ?d3 ?d4 ?d5 ?_)
  case d3 => unfold maxLen; omega
  case d4 => omega
  case d5 => simp
  intro v1 w3 hown1 hgr1 _
  go_wp2
  go_ret
  refine ⟨v1, rfl, ?_, ?_⟩
  · unfold OwnL; simpa using hown1
  · exact (Below.refl _ w).grown hgr1 (Nat.le_refl _) (by intro k hk; simp [Value.ownBlock] at hk)
end Go.Proofs.YtjhdmghpklagkaaGreat.Srs
namespace Go.Proofs.YtjhdmghpklagkaaGreat.Srs
open Go.RowKit
open Go.Proofs.YtjhdmghpklagkaaGreat.Lab (Lb HasL cmpList)
open Go.Proofs.YtjhdmghpklagkaaGreat.Smp (In64 own_form)

theorem infoQ'' : (Tryz.prog.info? 80).map (fun i => (i.zero, i.size, i.bytes)) = some (some (.agg #[.slice none 0 0, .slice none 0 0]), 2, 48) := by kernel_rfl
theorem flatQ_oneCell (L : List Q) : ∀ u ∈ flat L, u.oneCell' = true := by
  intro u hu
  unfold flat at hu
  obtain ⟨p, _, hp⟩ := List.mem_flatMap.1 hu
  simp only [cl, List.mem_cons, List.not_mem_nil, or_false] at hp
  rcases hp with rfl | rfl <;> rfl
abbrev Pc := Value × List Q
def joined (Ls : List Pc) (k : Nat) : List Q := (Ls.take k).flatMap fun p => p.2
end Go.Proofs.YtjhdmghpklagkaaGreat.Srs
namespace Go.Proofs.YtjhdmghpklagkaaGreat.Stb
open Go.RowKit
open Go.Proofs.YtjhdmghpklagkaaGreat.Lab (Lb HasL cmpList)
open Go.Proofs.YtjhdmghpklagkaaGreat.Smp (Sm HasS)
open Go.Proofs.YtjhdmghpklagkaaGreat.Srs (Q HasQ agQ pl q0 Pl)

theorem isort_mem {α : Type} {lt : α → α → Bool} {L : List α} {x : α} : x ∈ isort lt L ↔ x ∈ L := (isort_perm L).mem_iff
end Go.Proofs.YtjhdmghpklagkaaGreat.Stb
namespace Go.Proofs.YtjhdmghpklagkaaGreat.Smp
open Go.RowKit

theorem Own.lt {w : World} {base : Nat} {v : Value} {L : List Sm} (h : Own w base v L) : ∀ k, v.ownBlock = some k → base ≤ k ∧ k < w.heap.size := World.ownsRow.lt h
theorem Own.to {w : World} {g : Nat} {ls : List Sm} (h : w.ownsRow g 119 2 (.slice (some ⟨g, 0, none⟩) ls.length ls.length) ls.length (flat ls)) : Own w g (.slice (some ⟨g, 0, none⟩) ls.length ls.length) ls := h
end Go.Proofs.YtjhdmghpklagkaaGreat.Smp
