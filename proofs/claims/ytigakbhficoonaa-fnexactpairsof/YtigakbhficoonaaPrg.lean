/- The labels of a line's pairs: plain. -/
import Derived.Test.YtigakbhficoonaaPre
import Derived.Test.YtigakbhficoonaaWm
namespace Go.Proofs.Ytigakbhficoonaa.Prs
open Go.RowKit
open Go.Proofs.Ytigakbhficoonaa.Rdd
open Go.Proofs.Ytigakbhficoonaa.Pat (hid nbC)
open Go.Proofs.Ytigakbhficoonaa.Lab (Lb HasL e0 cmpN okL GoodP withF ins fnd Place OfV cmpX)
open Go.Proofs.Ytigakbhficoonaa.Str (nameL valueL)

/-- No label of this name. -/
def Miss (fs : List Lb) (x : ByteArray) : Prop := ∀ k, k < fs.length → (fs.getD k e0).1 ≠ x
instance (fs : List Lb) (x : ByteArray) : Decidable (Miss fs x) := by unfold Miss; infer_instance
def addP (fs : List Lb) (x : ByteArray) : List Lb :=
  match rdP x with
  | some p => if Miss fs p.1 ∧ fs.length < 20 then withF fs p.1 p.2 else fs
  | none => fs
theorem add_none {fs : List Lb} {x : ByteArray} (h : rdP x = none) : addP fs x = fs := by unfold addP; rw [h]
theorem add_some {fs : List Lb} {x : ByteArray} {p : Lb} (h : rdP x = some p) : addP fs x = if Miss fs p.1 ∧ fs.length < 20 then withF fs p.1 p.2 else fs := by unfold addP; rw [h]
def prs (ds : List ByteArray) : List Lb := ds.foldl addP []
def upP (ds : List ByteArray) (k : Nat) : List Lb := (ds.take k).foldl addP []
theorem upP_zero (ds : List ByteArray) : upP ds 0 = [] := rfl
theorem upP_succ {ds : List ByteArray} {k : Nat} (h : k < ds.length) : upP ds (k + 1) = addP (upP ds k) (ds.getD k ByteArray.empty) := by
  unfold upP
  rw [List.take_succ_eq_append_getElem h, List.foldl_append]
  simp [h]
theorem upP_all {ds : List ByteArray} {k : Nat} (h : ds.length ≤ k) : upP ds k = prs ds := by unfold upP prs; rw [List.take_of_length_le h]
theorem rd_ok {x : ByteArray} {p : Lb} (h : rdP x = some p) : okL p = true := by
  unfold rdP at h
  split at h
  · rename_i hc
    cases hv : vl (x.extract (nmE (bys x) 0 + 1) x.size) with
    | none => rw [hv] at h; cases h
    | some u =>
      rw [hv] at h
      simp only [Option.bind_some] at h
      split at h
      · rename_i hu
        cases h
        unfold okL
        rw [Bool.and_eq_true]
        exact ⟨hc.2, hu⟩
      · cases h
  · cases h
theorem miss_ofv {fs : List Lb} {x v : ByteArray} (hg : GoodP fs) (h : OfV fs x v) : v = ByteArray.empty ↔ Miss fs x := by
  rcases h with ⟨k, hk, h1, h2, _⟩ | ⟨h1, h2⟩
  · constructor
    · intro e
      have := (hg.2 k hk).1
      unfold okL at this
      rw [Bool.and_eq_true, h2, e] at this
      exact absurd this.2 (by decide)
    · intro hm; exact absurd h1 (hm k hk)
  · exact ⟨fun _ => h1, fun _ => h2⟩
theorem place_there {fs : List Lb} {x : ByteArray} {lo : Nat} (hg : GoodP fs) (h : Lab.Place fs (x, ByteArray.empty) lo) : decide (lo < fs.length ∧ cmpN (fs.getD lo e0) (x, ByteArray.empty) = 0) = !decide (Miss fs x) := by
  by_cases hc : lo < fs.length ∧ cmpN (fs.getD lo e0) (x, ByteArray.empty) = 0
  · rw [decide_eq_true hc, decide_eq_false fun hm => hm lo hc.1 (Lab.cmpN_zero hc.2)]; rfl
  · rw [decide_eq_false hc, decide_eq_true (show Miss fs x from h.missed hg hc)]; rfl
/-- Where it goes. -/
theorem with_at {fs : List Lb} {x v : ByteArray} {lo : Nat} (hg : GoodP fs) (h : Lab.Place fs (x, ByteArray.empty) lo) (hm : Miss fs x) (hv : v ≠ ByteArray.empty) : withF fs x v = fs.take lo ++ (x, v) :: fs.drop lo := by
  rw [Lab.with_ins hg h hv]
  unfold ins fnd
  rw [if_neg (fun hc => hm lo hc.1 (Lab.cmpN_zero hc.2)), Nat.add_zero]
theorem val_ne {p : Lb} (h : okL p = true) : p.2 ≠ ByteArray.empty := by
  intro e
  unfold okL at h
  rw [Bool.and_eq_true, e] at h
  exact absurd h.2 (by decide)
theorem put_get (fs : List Lb) (p : Lb) (lo i : Nat) (hlo : lo ≤ fs.length) : (fs.take lo ++ p :: fs.drop lo).getD i e0 = if i < lo then fs.getD i e0 else if i = lo then p else fs.getD (i - 1) e0 := by
  have hl : (fs.take lo).length = lo := by rw [List.length_take]; omega
  simp only [List.getD_eq_getElem?_getD]
  by_cases h1 : i < lo
  · rw [if_pos h1, List.getElem?_append_left (by omega), List.getElem?_take_of_lt h1]
  · rw [if_neg h1, List.getElem?_append_right (by omega), hl]
    by_cases h2 : i = lo
    · rw [if_pos h2, h2, Nat.sub_self]; rfl
    · rw [if_neg h2, show i - lo = (i - lo - 1) + 1 by omega, List.getElem?_cons_succ, List.getElem?_drop, show lo + (i - lo - 1) = i - 1 by omega]
theorem put_good {fs : List Lb} {p : Lb} {lo : Nat} (hg : GoodP fs) (h : Lab.Place fs (p.1, ByteArray.empty) lo) (hm : Miss fs p.1) (hok : okL p = true) (hl : fs.length < 20) : GoodP (fs.take lo ++ p :: fs.drop lo) := by
  have hlen : (fs.take lo ++ p :: fs.drop lo).length = fs.length + 1 := by simp [List.length_take, List.length_drop]; have := h.le; omega
  refine ⟨by omega, fun i hi => ?_⟩
  rw [hlen] at hi
  have hle := h.le
  rw [put_get fs p lo i hle, put_get fs p lo (i - 1) hle]
  by_cases h1 : i < lo
  · rw [if_pos h1, if_pos (by omega)]; exact hg.2 i (by omega)
  · rw [if_neg h1]
    by_cases h2 : i = lo
    · rw [if_pos h2]
      refine ⟨hok, fun h0 => ?_⟩
      rw [if_pos (by omega)]
      exact h.less (i - 1) (by omega)
    · rw [if_neg h2]
      refine ⟨(hg.2 (i - 1) (by omega)).1, fun h0 => ?_⟩
      rw [if_neg (show ¬ i - 1 < lo by omega)]
      by_cases h3 : i - 1 = lo
      · rw [if_pos h3, h3]
        have h4 := h.geq (by omega)
        have h5 : cmpN (fs.getD lo e0) (p.1, ByteArray.empty) ≠ 0 := fun e => hm lo (by omega) (Lab.cmpN_zero e)
        have h6 : cmpN p (fs.getD lo e0) = - cmpN (fs.getD lo e0) (p.1, ByteArray.empty) := Lab.cmpX_eq p.1 (fs.getD lo e0)
        omega
      · rw [if_neg h3]
        exact (hg.2 (i - 1) (by omega)).2 (by omega)
theorem add_good {fs : List Lb} {x : ByteArray} (hg : GoodP fs) : GoodP (addP fs x) := by
  cases h : rdP x with
  | none => rw [add_none h]; exact hg
  | some p =>
    rw [add_some h]
    split
    · rename_i hc
      obtain ⟨lo, hp⟩ := Lab.place_exists fs (p.1, ByteArray.empty)
      rw [with_at hg hp hc.1 (val_ne (rd_ok h))]
      exact put_good hg hp hc.1 (rd_ok h) hc.2
    · exact hg
theorem good_nil : GoodP [] := ⟨Nat.zero_le _, fun i hi => absurd hi (by simp)⟩
theorem upP_good (ds : List ByteArray) : ∀ k, GoodP (upP ds k) := by
  intro k
  induction k with
  | zero => exact good_nil
  | succ k ih =>
    by_cases h : k < ds.length
    · rw [upP_succ h]; exact add_good ih
    · rw [upP_all (k := k + 1) (by omega), ← upP_all (k := k) (by omega)]; exact ih
/-- The labels of a text's pairs. -/
def pairsL (s : ByteArray) : List Lb := prs ((pcs false false [] (by' s)).map mkS)
theorem pairs_of {s : ByteArray} {ds : List ByteArray} (h : ds.map bys = pcs false false [] (by' s)) : prs ds = pairsL s := by
  unfold pairsL
  rw [← h, List.map_map]
  congr 1
  conv => lhs; rw [← List.map_id ds]
  refine List.map_congr_left fun d _ => ?_
  show d = mkS d.data.toList
  cases d; simp [mkS]
theorem pairs_good (s : ByteArray) : GoodP (pairsL s) := by
  unfold pairsL
  rw [← upP_all (Nat.le_refl _)]
  exact upP_good _ _
theorem pcs_len : ∀ (l : List UInt8) (q t : Bool) (now : List UInt8), ∀ d ∈ pcs q t now l, d.length ≤ now.length + l.length := by
  intro l
  induction l with
  | nil => intro q t now d hd; cases t <;> (simp [pcs] at hd; subst hd; simp)
  | cons c l ih =>
    intro q t now d hd
    cases t
    · simp only [pcs] at hd
      split at hd
      · have := ih _ _ _ d hd; simp at this ⊢; omega
      · split at hd
        · have := ih _ _ _ d hd; simp at this ⊢; omega
        · split at hd
          · rcases List.mem_cons.1 hd with rfl | hd
            · simp
            · have := ih _ _ _ d hd; simp at this ⊢; omega
          · have := ih _ _ _ d hd; simp at this ⊢; omega
    · simp only [pcs] at hd
      have := ih _ _ _ d hd; simp at this ⊢; omega
/-- Every piece is no longer than the text. -/
theorem piece_len {s : ByteArray} {ds : List ByteArray} (h : ds.map bys = pcs false false [] (by' s)) (k : Nat) : (ds.getD k ByteArray.empty).size ≤ s.size := by
  by_cases hk : k < ds.length
  · have hm : bys (ds.getD k ByteArray.empty) ∈ ds.map bys := by
      rw [List.getD_eq_getElem?_getD, List.getElem?_eq_getElem hk]
      exact List.mem_map.2 ⟨_, List.getElem_mem hk, rfl⟩
    rw [h] at hm
    have := pcs_len _ _ _ _ _ hm
    simpa using this
  · rw [List.getD_eq_getElem?_getD, List.getElem?_eq_none (by omega)]
    exact Nat.zero_le _
theorem flat_take (L : List Lb) (i : Nat) (h : i ≤ L.length) : (Lab.flat L).take (i * 2) = Lab.flat (L.take i) := by
  conv => lhs; rw [← List.take_append_drop i L, Lab.flat_append]
  rw [List.take_append_of_le_length (by rw [Lab.flat_len, List.length_take]; omega), List.take_of_length_le (by rw [Lab.flat_len, List.length_take]; omega)]
theorem flat_drop (L : List Lb) (i : Nat) (h : i ≤ L.length) : (Lab.flat L).drop (i * 2) = Lab.flat (L.drop i) := by
  conv => lhs; rw [← List.take_append_drop i L, Lab.flat_append]
  rw [List.drop_append]
  have e : (Lab.flat (L.take i)).length = i * 2 := by rw [Lab.flat_len, List.length_take]; omega
  rw [e, Nat.sub_self, List.drop_zero, List.drop_of_length_le (by omega), List.nil_append]
theorem flat_put (L : List Lb) (p : Lb) (i : Nat) (h : i ≤ L.length) : (Lab.flat L).take (i * 2) ++ [.string p.1, .string p.2] ++ (Lab.flat L).drop (i * 2) = Lab.flat (L.take i ++ p :: L.drop i) := by
  rw [flat_take L i h, flat_drop L i h, Lab.flat_append, Lab.flat_cons]
  simp
theorem flat_ones (L : List Lb) : ∀ v ∈ Lab.flat L, v.oneCell' = true := fun v hv => by
  unfold Lab.flat at hv
  obtain ⟨q, _, hq⟩ := List.mem_flatMap.1 hv
  simp at hq
  rcases hq with rfl | rfl <;> rfl
theorem hasl_own {w : World} {X n c : Nat} {a : Option Addr} {ls : List Lb} (h : w.ownsRow X 33 2 (.slice a n c) n (Lab.flat ls)) : HasL w a ls := by
  rcases h.2 with ⟨_, h2⟩ | ⟨g, cap, cur, h1, _⟩
  · left
    have := h.1
    rw [Lab.flat_len, h2] at this
    exact List.eq_nil_of_length_eq_zero (by omega)
  · simp only [Value.slice.injEq] at h1
    obtain ⟨rfl, _, rfl⟩ := h1
    exact Lab.HasL.own h
end Go.Proofs.Ytigakbhficoonaa.Prs
