/- slices.Grow and slices.Concat at series. -/
import Derived.Test.YtammlhkdcdhfkaaRGb
import Derived.Lib.MinMax
import Derived.Maps.AppendAt
import Derived.Lib.AppendZeros
namespace Go.Proofs.Ytammlhkdcdhfkaa.Srs
open Go.RowKit
open Go.Proofs.Ytammlhkdcdhfkaa.Lab (Lb HasL cmpList)
open Go.Proofs.Ytammlhkdcdhfkaa.Smp (In64 own_form)

theorem infoQ'' : (Try.prog.info? 42).map (fun i => (i.zero, i.size, i.bytes)) = some (some (.agg #[.slice none 0 0, .slice none 0 0]), 2, 48) := by kernel_rfl
/-- The cells of a list of series lie there, or it is empty. -/
def Src (w : World) (v : Value) (L : List Q) : Prop := (v = .slice none 0 0 ∧ L = []) ∨ ∃ (ad : Addr) (c : Nat), v = .slice (some ad) L.length c ∧ ∀ j u, (flat L)[j]? = some u → w.cell? (ad.add j) = some u
theorem cell_lt {w : World} {p : Addr} {u : Value} (h : w.cell? p = some u) : p.block < w.heap.size := by
  unfold World.cell? at h
  by_cases e : p.block < w.heap.size
  · exact e
  · rw [Array.getElem?_eq_none (by omega)] at h; simp at h
theorem Src.below {w w' : World} {v : Value} {L : List Q} (h : Src w v L) (hb : Below w.heap.size w w') : Src w' v L := by
  rcases h with h | ⟨ad, c, h1, h2⟩
  · exact .inl h
  · exact .inr ⟨ad, c, h1, fun j u hj => by have := h2 j u hj; rw [hb.cell (cell_lt this)]; exact this⟩
theorem flatQ_cells {w : World} {b off : Nat} {L : List Q} (hr : HasQ w (some ⟨b, off, none⟩) L) : ∀ j u, (flat L)[j]? = some u → w.cell? ((⟨b, off, none⟩ : Addr).add j) = some u := by
  intro j u hj
  have hjl : j < L.length * 2 := by
    have := (List.getElem?_eq_some_iff.1 hj).1
    rw [flat_len] at this; exact this
  have hi : j / 2 < L.length := by omega
  obtain ⟨b', off', e, _, c0, c1, _⟩ := hr.at2 (j / 2) hi
  obtain ⟨g0, g1⟩ := flat_get L (j / 2) hi
  cases e
  rw [Smp.add_none]
  rcases (show j % 2 = 0 ∨ j % 2 = 1 by omega) with h | h
  · rw [show j = j / 2 * 2 by omega, g0] at hj
    cases hj
    rw [show off + j = off + j / 2 * 2 by omega]; exact c0
  · rw [show j = j / 2 * 2 + 1 by omega, g1] at hj
    cases hj
    rw [show off + j = off + j / 2 * 2 + 1 by omega]; exact c1
theorem flatQ_oneCell (L : List Q) : ∀ u ∈ flat L, u.oneCell' = true := by
  intro u hu
  unfold flat at hu
  obtain ⟨p, _, hp⟩ := List.mem_flatMap.1 hu
  simp only [cl, List.mem_cons, List.not_mem_nil, or_false] at hp
  rcases hp with rfl | rfl <;> rfl
theorem Src.of {w : World} {a : Option Addr} {c : Nat} {L : List Q} (h : HasQ w a L) (hc : a = none → c = 0) : Src w (.slice a L.length c) L := by
  cases a with
  | none =>
    rcases h with h | ⟨b, off, h1, _⟩
    · exact .inl ⟨by rw [h, hc rfl]; rfl, h⟩
    · cases h1
  | some ad =>
    rcases h with h | ⟨b, off, h1, h2, h3⟩
    · refine .inr ⟨ad, c, rfl, fun j u hj => ?_⟩
      rw [h] at hj; simp [flat] at hj
    · cases h1
      exact .inr ⟨_, c, rfl, flatQ_cells (.inr ⟨b, off, rfl, h2, h3⟩)⟩

set_option maxHeartbeats 1000000 in
theorem growP (n : Nat) (w : World) (h1 : 0 < n) (hn : n ≤ 2097152) :
    Calls Try.prog 85 #[.slice none 0 0, .int .i64 n] w fun e w' => ∃ v, e = .returned v ∧ w'.ownsRow w.heap.size 42 2 v 0 [] ∧ Below w.heap.size w w' := by
  obtain ⟨i0, hi, hz0, hz1, hz2⟩ := info_parts infoQ''
  have hc := grownCap_ge w n 0 42
  have hc2 := grownCap_le_maxLen w n 0 42 (by unfold maxLen; omega)
  have HR := hid (Lib.run_append_nil_zeros (P := Try.prog) w 24 3 24 42 i0 (.agg #[.slice none 0 0, .slice none 0 0]) .i64 .i64 Try.underlying24 Try.underlying3 hi hz0 n h1 (by rw [hz1]; decide) (by omega) (by rw [hz2]; omega))
  obtain ⟨C, hC⟩ : ∃ C, C = grownCap w n 0 42 := ⟨_, rfl⟩
  rw [← hC] at HR hc hc2
  obtain ⟨W, hW⟩ : ∃ W, W = w.drew.alloc (.cells (Builtin.zeroCells (Value.agg #[.slice none 0 0, .slice none 0 0]).cells n ++ Builtin.zeroCells (Value.agg #[.slice none 0 0, .slice none 0 0]).cells (C - n)) 42) := ⟨_, rfl⟩
  rw [← hW] at HR
  have HO : Hid (W.ownsRow w.heap.size 42 2 (.slice (some ⟨w.heap.size, 0, none⟩) 0 C) 0 [] ∧ Below w.heap.size w W) := by
    rw [hW]
    refine ⟨World.ownsRow_made (w := w.drew) _ C (Nat.le_refl _) hc2 ?_, ((Below.refl w.heap.size w).drew).alloc (Nat.le_refl _) _⟩
    simp only [Array.size_append, size_zeroCells]
    show n * 2 + (C - n) * 2 = C * 2
    omega
  clear hC hW
  have i1 : ¬ (n : Int) < 0 := by omega
  have i2 : (0 : Int) < (n : Int) := by omega
  unfold maxLen at hc2
  go_enter Try.func85, Try.ntmps85
  go_wp2_with (at_builtin; refine Lib.wpList_append_run _ rfl (.tmp 20) (.tmp 21) 24 3 rfl _ _ rfl rfl _ _ HR.out ?_)
  go_ret
  exact ⟨_, rfl, HO.out.1, HO.out.2⟩

set_option maxHeartbeats 1000000 in
theorem grow0 (w : World) :
    Calls Try.prog 85 #[.slice none 0 0, .int .i64 (0 : Nat)] w fun e w' => e = .returned (.slice none 0 0) ∧ w' = w := by
  go_enter Try.func85, Try.ntmps85
  go_wp2
  go_ret
  exact ⟨rfl, rfl⟩
theorem f85 (n : Nat) (w : World) (hn : n ≤ 2097152) :
    Calls Try.prog 85 #[.slice none 0 0, .int .i64 n] w fun e w' => ∃ v, e = .returned v ∧ w'.ownsRow w.heap.size 42 2 v 0 [] ∧ Below w.heap.size w w' := by
  by_cases h1 : 0 < n
  · exact growP n w h1 hn
  · obtain rfl : n = 0 := by omega
    refine (grow0 w).mono ?_
    rintro e w' ⟨rfl, rfl⟩
    exact ⟨_, rfl, World.ownsRow_nil _ _ _ _, Below.refl _ _⟩

/-- Lists of series, one behind the other. -/
abbrev Pc := Value × List Q
def pz : Pc := (.slice none 0 0, [])
def joined (Ls : List Pc) (k : Nat) : List Q := (Ls.take k).flatMap fun p => p.2
theorem joined_succ {Ls : List Pc} {k : Nat} (hk : k < Ls.length) : joined Ls (k + 1) = joined Ls k ++ (Ls.getD k pz).2 := by
  unfold joined
  rw [List.take_succ_eq_append_getElem hk, List.flatMap_append]
  simp [hk]
theorem joined_le {Ls : List Pc} : ∀ {j k : Nat}, j ≤ k → k ≤ Ls.length → (joined Ls j).length ≤ (joined Ls k).length := by
  intro j k
  induction k with
  | zero => intro h _; rw [show j = 0 by omega]; exact Nat.le_refl _
  | succ k ih =>
    intro h hk
    by_cases e : j = k + 1
    · rw [e]; exact Nat.le_refl _
    · have := ih (by omega) (by omega)
      rw [joined_succ (by omega), List.length_append]
      omega
def Pcs (w : World) (b : Nat) (Ls : List Pc) : Prop := ∀ i, i < Ls.length → w.cell? ⟨b, i, none⟩ = some (Ls.getD i pz).1 ∧ Src w (Ls.getD i pz).1 (Ls.getD i pz).2
theorem Pcs.below {w w' : World} {b : Nat} {Ls : List Pc} (h : Pcs w b Ls) (hb : Below w.heap.size w w') : Pcs w' b Ls := fun i hi => by
  obtain ⟨h1, h2⟩ := h i hi
  exact ⟨by rw [hb.cell (cell_lt h1)]; exact h1, h2.below hb⟩
set_option maxRecDepth 10000 in
set_option maxHeartbeats 4000000 in
theorem f64 (b c : Nat) (Ls : List Pc) (w : World) (hp : Pcs w b Ls) (h3 : Ls.length ≤ 3) (hn : (joined Ls Ls.length).length ≤ 2097152) :
    Calls Try.prog 64 #[.slice (some ⟨b, 0, none⟩) Ls.length c] w fun e w' => ∃ v, e = .returned v ∧ w'.ownsRow w.heap.size 42 2 v (joined Ls Ls.length).length (flat (joined Ls Ls.length)) ∧ Below w.heap.size w w' := by
  obtain ⟨i0, hi, hz0, hz1, hz2⟩ := info_parts infoQ''
  have HP := hid hp
  have HLe : Hid (∀ k, k ≤ Ls.length → (joined Ls k).length ≤ 2097152) := fun k hk => by have := joined_le hk (Nat.le_refl _); omega
  have HG := fun x => hid (f85 (joined Ls Ls.length).length x hn)
  clear hp
  go_enter Try.func64, Try.ntmps64
  go_wp2
  go_loopw [3, 11] (fun ss si wr => ∃ k : Nat, k ≤ Ls.length ∧ si = .int .i64 k ∧ ss = .int .i64 ((joined Ls k).length : Nat) ∧ Hid (w = wr)) (fun _ si _ => Ls.length - (intOf si).toNat)
  case atStart => exact ⟨0, Nat.zero_le _, rfl, rfl, rfl⟩
  case round =>
    obtain ⟨k, hk, rfl, rfl, hw⟩ := hrel
    have hw := hw.out
    subst hw
    by_cases hlt : k < Ls.length
    · obtain ⟨c0, hs⟩ := HP.out k hlt
      have i1 : (k : Int) < (Ls.length : Int) := by omega
      have HJ : Hid ((joined Ls (k + 1)).length = (joined Ls k).length + (Ls.getD k pz).2.length) := by unfold Hid; rw [joined_succ hlt, List.length_append]
      have h4 := HLe.out (k + 1) (by omega)
      rw [HJ.out] at h4
      generalize Ls.getD k pz = p at *
      generalize hJ : (joined Ls k).length = J at *
      obtain ⟨pv, pL⟩ := p
      simp only at c0 hs HJ h4
      rcases hs with ⟨rfl, rfl⟩ | ⟨ad, cc, rfl, hcs⟩
      · have i2 : ¬ (J : Int) < 0 := by omega
        simp only [List.length_nil, Nat.add_zero] at HJ
        go_wp2
        go_roundw
        case rel => exact ⟨k + 1, by omega, by go_num, by rw [HJ.out], trivial⟩
        case measure => simp [intOf]; omega
      · clear hcs
        generalize pL.length = m at *
        have i2 : ¬ (J : Int) + (m : Int) < 0 := by omega
        go_wp2
        go_roundw
        case rel => exact ⟨k + 1, by omega, by go_num, by rw [HJ.out]; go_num, trivial⟩
        case measure => simp [intOf]; omega
    · obtain rfl : k = Ls.length := by omega
      have i1 : ¬ (Ls.length : Int) < (Ls.length : Int) := by omega
      go_wp2_with fail
      refine (HG _).out.mono ?_
      rintro e w1 ⟨v1, rfl, ho1, hb1⟩
      have HO1 := hid ho1
      have HB1 := hid hb1
      clear ho1 hb1
      go_wp2
      go_loopw [6, 27] (fun so si wr => ∃ (k : Nat) (v : Value), k ≤ Ls.length ∧ si = .int .i64 k ∧ so = v ∧ Hid (wr.ownsRow w.heap.size 42 2 v (joined Ls k).length (flat (joined Ls k))) ∧ Hid (Below w.heap.size w wr)) (fun _ si _ => Ls.length - (intOf si).toNat)
      case atStart => exact ⟨0, v1, Nat.zero_le _, rfl, rfl, HO1.out, HB1.out⟩
      case round =>
        clear HO1 HB1
        obtain ⟨k, v, hk, rfl, rfl, HO, HX⟩ := hrel
        obtain ⟨ao, co, rfl⟩ := own_form HO.out
        by_cases hlt : k < Ls.length
        · obtain ⟨c0, hs⟩ := (HP.out.below HX.out) k hlt
          have i1 : (k : Int) < (Ls.length : Int) := by omega
          have HJ : Hid (joined Ls (k + 1) = joined Ls k ++ (Ls.getD k pz).2) := joined_succ hlt
          have h4 := HLe.out (k + 1) (by omega)
          rw [HJ.out, List.length_append] at h4
          generalize Ls.getD k pz = p at *
          generalize hJ : joined Ls k = J at *
          obtain ⟨pv, pL⟩ := p
          simp only at c0 hs HJ h4
          rcases hs with ⟨rfl, rfl⟩ | ⟨ad, cc, rfl, hcs⟩
          · go_wp2_with (at_builtin; refine wpList_append_own_none rfl (.tmp 31) (.tmp 32) 24 rfl w.heap.size 42 i0 2 Try.underlying24 hi _ _ _ rfl HO.out rfl ?_)
            go_roundw
            case rel => exact ⟨k + 1, _, by omega, by go_num, rfl, by rw [HJ.out, List.append_nil]; exact HO.out, HX.out⟩
            case measure => simp [intOf]; omega
          · have HCS := hid hcs
            have HOC := hid (flatQ_oneCell pL)
            have HFL := hid (flat_len pL)
            clear hcs
            go_wp2_with (at_builtin; refine wpList_append_own _ rfl (.tmp 31) (.tmp 32) 24 rfl w.heap.size 42 i0 (.agg #[.slice none 0 0, .slice none 0 0]) 2 48 Try.underlying24 hi hz0 hz1 hz2 rfl (by decide) _ _ _ rfl HO.out ad pL.length cc (flat pL) rfl HFL.out HCS.out HOC.out ?d3 ?d4 HX.out.size ?_)
            case d3 => unfold maxLen; omega
            case d4 => omega
            intro v2 w3 hown1 hgr1 _
            have HO3 : Hid (w3.ownsRow w.heap.size 42 2 v2 (joined Ls (k + 1)).length (flat (joined Ls (k + 1)))) := by
              unfold Hid
              rw [HJ.out, flat_append, List.length_append]
              exact hown1
            have HX3 := hid (HX.out.grown hgr1 HX.out.size (fun k hk => (World.ownsRow.lt HO.out k hk).1))
            clear hown1 hgr1
            go_wp2
            go_roundw
            case rel => exact ⟨k + 1, _, by omega, by go_num, rfl, HO3, HX3⟩
            case measure => simp [intOf]; omega
        · obtain rfl : k = Ls.length := by omega
          have i1 : ¬ (Ls.length : Int) < (Ls.length : Int) := by omega
          go_wp2
          go_ret
          exact ⟨_, rfl, HO.out, HX.out⟩
end Go.Proofs.Ytammlhkdcdhfkaa.Srs
