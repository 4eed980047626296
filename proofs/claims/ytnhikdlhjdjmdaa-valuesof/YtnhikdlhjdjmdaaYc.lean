/- Values: the model's ValuesOf. -/
import Derived.Test.YtnhikdlhjdjmdaaYb
import Derived.Test.YtnhikdlhjdjmdaaXf
namespace Go.Proofs.Ytnhikdlhjdjmdaa.Val
open Go.Lib Go.RowKit
open Go.Proofs.Ytnhikdlhjdjmdaa.Lab (Lb HasL OfV goodL GoodP)
open Go.Proofs.Ytnhikdlhjdjmdaa.Srs (Q q0 HasQ FitQ SmlQ GoodQ gdQ gdQ_iff GG box_gg empty_iff)

theorem has_of (ls : List Lb) (x : ByteArray) : ∃ v, OfV ls x v := by
  by_cases h : ∃ k, k < ls.length ∧ (ls.getD k Lab.e0).1 = x
  · have key : ∀ n, (∃ k, k < n ∧ k < ls.length ∧ (ls.getD k Lab.e0).1 = x) → ∃ v, OfV ls x v := by
      intro n
      induction n with
      | zero => rintro ⟨k, h, _⟩; omega
      | succ n ih =>
        rintro ⟨k, h1, h2, h3⟩
        by_cases g : ∃ j, j < n ∧ j < ls.length ∧ (ls.getD j Lab.e0).1 = x
        · exact ih g
        · refine ⟨(ls.getD k Lab.e0).2, .inl ⟨k, h2, h3, rfl, fun i hi e => g ⟨i, by omega, by omega, e⟩⟩⟩
    obtain ⟨k, h1, h2⟩ := h
    exact key (k + 1) ⟨k, by omega, h1, h2⟩
  · exact ⟨ByteArray.empty, .inr ⟨fun k hk e => h ⟨k, hk, e⟩, rfl⟩⟩
theorem vals : ∃ val : List Lb → ByteArray → ByteArray, ∀ ls x, OfV ls x (val ls x) := ⟨fun ls x => Classical.choose (has_of ls x), fun ls x => Classical.choose_spec (has_of ls x)⟩
theorem val_size {ls : List Lb} {x v : ByteArray} (hg : GoodP ls) (h : OfV ls x v) : v.size ≤ 100 := by
  rcases h with ⟨k, hk, _, rfl, _⟩ | ⟨_, rfl⟩
  · have h1 := (hg.2 k hk).1
    unfold Lab.okL Str.valueL at h1
    simp only [Bool.and_eq_true, decide_eq_true_eq] at h1
    have h2 := h1.2.1.2
    rw [Array.length_toList] at h2
    exact h2
  · exact Nat.zero_le _
/-- One value, if there is one. -/
def v1 (v : ByteArray) : List Tx := if v = ByteArray.empty then [] else [v.data.toList]
/-- The values of the first k series under a name, in their order. -/
def vl (val : List Lb → ByteArray → ByteArray) (qs : List Q) (x : ByteArray) : Nat → List Tx
  | 0 => []
  | k + 1 => vl val qs x k ++ v1 (val (qs.getD k q0).l x)
theorem vl_len (val : List Lb → ByteArray → ByteArray) (qs : List Q) (x : ByteArray) : ∀ k, (vl val qs x k).length ≤ k := by
  intro k
  induction k with
  | zero => exact Nat.le_refl _
  | succ k ih =>
    rw [vl, List.length_append]
    have : (v1 (val (qs.getD k q0).l x)).length ≤ 1 := by unfold v1; split <;> simp
    omega
theorem vl_size {val : List Lb → ByteArray → ByteArray} {qs : List Q} {x : ByteArray} (hv : ∀ ls x, OfV ls x (val ls x)) (hg : GoodQ qs) : ∀ k, k ≤ qs.length → ∀ t ∈ vl val qs x k, t.length ≤ 100 := by
  intro k
  induction k with
  | zero => intro _ t ht; simp [vl] at ht
  | succ k ih =>
    intro hk t ht
    rw [vl, List.mem_append] at ht
    rcases ht with h | h
    · exact ih (by omega) t h
    · unfold v1 at h
      split at h
      · simp at h
      · simp at h
        subst h
        have := val_size (Srs.good_goodP (hg.2 k (by omega)).1.1.1) (hv (qs.getD k q0).l x)
        rw [Array.length_toList]; exact this
theorem ins_len (s : Tx) : ∀ D : List Tx, (insF D s).length ≤ D.length + 1 := by
  intro D
  induction D with
  | nil => simp [insF]
  | cons t D ih =>
    rw [insF]
    split
    · simp; omega
    · split <;> simp
theorem all_len (D : List Tx) : (insAll D).length ≤ D.length := by
  have key : ∀ (D A : List Tx), (D.foldl insF A).length ≤ A.length + D.length := by
    intro D
    induction D with
    | nil => intro A; simp
    | cons s D ih => intro A; have := ih (insF A s); have := ins_len s A; simp only [List.foldl_cons, List.length_cons]; omega
  have := key D []
  simpa [insAll] using this
theorem getD_le {D : List Tx} {n : Nat} (h : ∀ t ∈ D, t.length ≤ n) (i : Nat) : (D.getD i []).length ≤ n := by
  rw [List.getD_eq_getElem?_getD]
  by_cases hi : i < D.length
  · rw [List.getElem?_eq_getElem hi]; exact h _ (List.getElem_mem hi)
  · rw [List.getElem?_eq_none (by omega)]; exact Nat.zero_le _
/-- What ValuesOf tells. -/
def voF (val : List Lb → ByteArray → ByteArray) (qs : List Q) (x : ByteArray) : List Tx := if gdQ qs = true then insAll (vl val qs x qs.length) else []
set_option maxHeartbeats 2000000 in
theorem f30 (val : List Lb → ByteArray → ByteArray) (hv : ∀ ls x, OfV ls x (val ls x)) (a : Option Addr) (n c : Nat) (qs : List Q) (x : ByteArray) (w : World) (hn : qs.length = n) (hmax : n ≤ maxLen) (hr : HasQ w a qs) (hf : FitQ qs) (hz : SmlQ qs) :
    Calls Try.prog 30 #[.slice a n c, .string x] w fun e w' => ∃ a' m' c', e = .returned (.slice a' m' c') ∧ Row w' w.heap.size a' m' c' (voF val qs x) ∧ Below w.heap.size w w' := by
  have HN := hid hn
  have HR := hid hr
  have HF := hid hf
  have HZ := hid hz
  have HV := hid hv
  clear hn hr hf hz hv
  go_enter Try.func30, Try.ntmps30
  go_wp2_with fail
  refine (Srs.f17 a n c qs _ HN.out hmax HR.out HF.out HZ.out).mono ?_
  rintro e w1 ⟨rfl, hb1⟩
  have HB1 := hid hb1
  clear hb1
  cases hg : gdQ qs
  · have HE : Hid (voF val qs x = []) := by unfold Hid voF; rw [hg]; rfl
    go_wp2
    go_ret
    exact ⟨none, 0, 0, rfl, by rw [HE.out]; exact World.ownsRow_nil _ _ _ _, HB1.out⟩
  have HG := hid (gdQ_iff.1 hg)
  have HE : Hid (voF val qs x = insAll (vl val qs x qs.length)) := by unfold Hid voF; rw [hg]; rfl
  have h200 : n ≤ 200 := by rw [← HN.out]; exact HG.out.1
  clear hg
  go_wp2
  go_loopw [5, 14] (fun so si wr => ∃ (k m c' : Nat) (a' : Option Addr), k ≤ n ∧ si = .int .i64 k ∧ so = .slice a' m c' ∧ Hid (Row wr w.heap.size a' m c' (insAll (vl val qs x k))) ∧ Hid (Below w.heap.size w wr)) (fun _ si _ => n - (intOf si).toNat)
  case atStart => exact ⟨0, 0, 0, none, Nat.zero_le _, rfl, rfl, World.ownsRow_nil _ _ _ _, HB1.out⟩
  case round =>
    obtain ⟨k, m, c', a', hk, rfl, rfl, HO, HX⟩ := hrel
    by_cases hlt : k < n
    rotate_left
    · have HK : Hid (k = qs.length) := by unfold Hid; rw [HN.out]; omega
      go_wp2
      go_ret
      exact ⟨a', m, c', rfl, by rw [HE.out, ← HK.out]; exact HO.out, HX.out⟩
    obtain ⟨b, off, rfl, hbl, c0, c1, t1, t2⟩ := (HR.out.below HX.out).at2 k (by rw [HN.out]; exact hlt)
    have HQ := hid (Srs.good_goodP (HG.out.2 k (by rw [HN.out]; exact hlt)).1.1.1)
    have HSz := hid (getD_le (n := maxLen) (D := insAll (vl val qs x k)) (fun t ht => by
      have := vl_size HV.out HG.out k (by rw [HN.out]; exact hk) t (((insAll_ok _).2 t).1 ht)
      unfold maxLen; omega))
    have HDl : Hid ((insAll (vl val qs x k)).length = m) := by have := HO.out.1; unfold Hid; simpa using this
    have hm : m ≤ 1000 := by have := HDl.out; have := all_len (vl val qs x k); have := vl_len val qs x k; omega
    have HVL : Hid (vl val qs x (k + 1) = vl val qs x k ++ v1 (val (qs.getD k q0).l x)) := rfl
    simp only [Srs.pl] at HQ
    generalize qs.getD k q0 = q at *
    have HG1 := hid (box_gg (w := w) (q := q) (p := q) c0 t1 t2 t1 hbl HX.out)
    have HO1 := hid (HO.out.alloc (.cells #[.slice q.a q.l.length q.c, .slice q.b q.s.length q.d] 79))
    clear t1 t2
    go_wp2_with fail
    refine (Lab.f62 q.a q.l.length q.c q.l x _ rfl HQ.out.1 (GG.t1 HG1.out)).mono ?_
    rintro e w2 ⟨v, hv, rfl, hb2⟩
    have HX2 := hid (GG.below HG1.out hb2).bel
    have HO2 := hid (own_below HO1.out hb2)
    have HVv := hid (hv.uniq (HV.out q.l x))
    clear hv hb2 HO1 HG1 c0 c1
    cases hq : v.toList.isEmpty
    · have HE2 : Hid (insF (insAll (vl val qs x k)) v.data.toList = insAll (vl val qs x (k + 1))) := by
        unfold Hid
        have hne : ¬ v = ByteArray.empty := fun e => by rw [empty_iff.2 e] at hq; cases hq
        rw [HVL.out, ← HVv.out, v1, if_neg hne, insAll_snoc]
      go_wp2_with fail
      refine (f63 a' m c' w.heap.size (insAll (vl val qs x k)) v _ HX2.out.size HDl.out hm HSz.out HO2.out).mono ?_
      rw [HE2.out]
      rintro e w3 ⟨a3, m3, c3, rfl, ho3, hb3⟩
      have HO3 := hid ho3
      have HX3 := hid (HX2.out.trans hb3)
      clear ho3 hb3
      go_wp2
      go_roundw
      case rel => exact ⟨k + 1, m3, c3, a3, by omega, by go_num, rfl, HO3.out, HX3.out⟩
      case measure => simp [intOf]; omega
    · have HE2 : Hid (vl val qs x (k + 1) = vl val qs x k) := by
        unfold Hid
        rw [HVL.out, ← HVv.out, v1, if_pos (empty_iff.1 hq), List.append_nil]
      go_wp2
      go_roundw
      case rel => exact ⟨k + 1, m, c', a', by omega, by go_num, rfl, by rw [HE2.out]; exact HO2.out, HX2.out⟩
      case measure => simp [intOf]; omega
end Go.Proofs.Ytnhikdlhjdjmdaa.Val
