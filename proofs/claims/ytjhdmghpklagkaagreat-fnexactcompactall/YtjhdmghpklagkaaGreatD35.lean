/- The numbers of series that fit matchers: lookUp, both LookUps. -/
import Derived.Test.YtjhdmghpklagkaaGreatD34
import Derived.Test.YtjhdmghpklagkaaGreatD20
namespace Go.Proofs.YtjhdmghpklagkaaGreat.Blk
open Go.RowKit
open Go.Proofs.YtjhdmghpklagkaaGreat.Lab (Lb HasL OfV GoodP goodL e0)
open Go.Proofs.YtjhdmghpklagkaaGreat.Srs (hid lt_at kept Q HasQ FitQ SmlQ GoodQ agQ q0 good_goodP)
open Go.Proofs.YtjhdmghpklagkaaGreat.Ino (Own Now own_form one_row info3 ch kAnd ch_nil)
open Go.Proofs.YtjhdmghpklagkaaGreat.Smp (ret_bool)
open Go.Proofs.YtjhdmghpklagkaaGreat.Pat (Mt HasM goodM okM fitM allM FitM m0 GoodMP)

def flt (p : Nat → Bool) (n : Nat) : List Int := ((List.range n).filter p).map fun i : Nat => (i : Int)
theorem flt_succ (p : Nat → Bool) (n : Nat) : flt p (n + 1) = flt p n ++ (if p n = true then [(n : Int)] else []) := by
  unfold flt
  rw [List.range_succ, List.filter_append, List.map_append]
  congr 1
  cases h : p n <;> simp [h]
theorem flt_len (p : Nat → Bool) (n : Nat) : (flt p n).length ≤ n := by
  unfold flt
  rw [List.length_map]
  exact Nat.le_trans (List.length_filter_le _ _) (by simp)
theorem flt_congr {p q : Nat → Bool} {n : Nat} (h : ∀ i, i < n → p i = q i) : flt p n = flt q n := by
  unfold flt
  rw [List.filter_congr (fun i hi => h i (List.mem_range.1 hi))]
theorem flt_mem {p : Nat → Bool} {n : Nat} {x : Int} : x ∈ flt p n ↔ ∃ i, i < n ∧ p i = true ∧ x = (i : Int) := by
  unfold flt
  rw [List.mem_map]
  constructor
  · rintro ⟨i, h1, rfl⟩
    obtain ⟨h2, h3⟩ := List.mem_filter.1 h1
    exact ⟨i, List.mem_range.1 h2, h3, rfl⟩
  · rintro ⟨i, h1, h2, rfl⟩
    exact ⟨i, List.mem_filter.2 ⟨List.mem_range.2 h1, h2⟩, rfl⟩
theorem flt_pair (p : Nat → Bool) (n : Nat) : (flt p n).Pairwise (· < ·) := by
  induction n with
  | zero => exact List.Pairwise.nil
  | succ n ih =>
    rw [flt_succ, List.pairwise_append]
    refine ⟨ih, by split <;> simp, fun x hx y hy => ?_⟩
    obtain ⟨i, h1, -, rfl⟩ := flt_mem.1 hx
    split at hy
    · simp at hy; omega
    · simp at hy
theorem flt_filter (p q : Nat → Bool) (n : Nat) : (flt p n).filter (fun x => decide (x ∈ flt q n)) = flt (fun i => p i && q i) n := by
  unfold flt
  rw [List.filter_map]
  congr 1
  rw [List.filter_filter]
  refine List.filter_congr fun i hi => ?_
  have hi' := List.mem_range.1 hi
  simp only [Function.comp]
  cases h1 : p i
  · simp
  · have : decide ((i : Int) ∈ flt q n) = q i := by
      cases h2 : q i
      · refine decide_eq_false fun h => ?_
        obtain ⟨j, _, h4, h5⟩ := flt_mem.1 h
        have : i = j := by omega
        subst this
        rw [h2] at h4; cases h4
      · exact decide_eq_true (flt_mem.2 ⟨i, hi', h2, rfl⟩)
    unfold flt at this
    simp [this]
theorem ch_and_n (n : Nat) : ∀ (s o : List Int), s.length + o.length ≤ n → s.Pairwise (· < ·) → o.Pairwise (· < ·) → ch kAnd s o = s.filter (fun x => decide (x ∈ o)) := by
  induction n with
  | zero =>
    intro s o h _ _
    obtain rfl := List.eq_nil_of_length_eq_zero (show s.length = 0 by omega)
    obtain rfl := List.eq_nil_of_length_eq_zero (show o.length = 0 by omega)
    rw [ch_nil]; rfl
  | succ n ih =>
    intro s o h hs ho
    rcases s with _ | ⟨x, s⟩
    · rcases o with _ | ⟨y, o⟩
      · rw [ch_nil]; rfl
      · rw [ch, ih [] o (by simp at h ⊢; omega) hs (List.pairwise_cons.1 ho).2]; rfl
    · obtain ⟨hx, hs'⟩ := List.pairwise_cons.1 hs
      rcases o with _ | ⟨y, o⟩
      · rw [ch, ih s [] (by simp at h ⊢; omega) hs' ho]
        simp [kAnd]
      · obtain ⟨hy, ho'⟩ := List.pairwise_cons.1 ho
        rw [ch]
        simp only [List.length_cons] at h
        by_cases h1 : x < y
        · rw [if_pos h1, ih s (y :: o) (by simp; omega) hs' ho]
          have : x ∉ y :: o := by
            intro hm
            rcases List.mem_cons.1 hm with rfl | hm
            · omega
            · have := hy x hm; omega
          rw [List.filter_cons_of_neg (by simpa using this)]
          simp [kAnd]
        · rw [if_neg h1]
          by_cases h2 : y < x
          · rw [if_pos h2, ih (x :: s) o (by simp; omega) hs ho']
            simp only [kAnd, Bool.false_and, Bool.false_eq_true, if_false, List.nil_append]
            refine List.filter_congr fun z hz => ?_
            have hzy : z ≠ y := by
              rcases List.mem_cons.1 hz with rfl | hz
              · omega
              · have := hx z hz; omega
            simp [hzy]
          · obtain rfl : x = y := by omega
            rw [if_neg h2, ih s o (by omega) hs' ho', List.filter_cons_of_pos (by simp)]
            simp only [kAnd, Bool.and_self, if_true, List.cons_append, List.nil_append, List.cons.injEq, true_and]
            refine List.filter_congr fun z hz => ?_
            have hzy : z ≠ x := by have := hx z hz; omega
            simp [hzy]
theorem ch_flt (p q : Nat → Bool) (n : Nat) : ch kAnd (flt p n) (flt q n) = flt (fun i => p i && q i) n := by
  rw [ch_and_n _ _ _ (Nat.le_refl _) (flt_pair p n) (flt_pair q n), flt_filter]
theorem pst_flt (R : ByteArray → Bool) (qs : List Q) (x : ByteArray) : ∀ k, pst R qs x k = flt (fun i => R (val (lb qs i) x)) k := by
  intro k
  induction k with
  | zero => rfl
  | succ k ih => rw [pst, flt_succ, ih]
noncomputable def hits (ms : List Mt) (qs : List Q) (j : Nat) (i : Nat) : Bool := allM (ms.take j) (val (lb qs i))
theorem hits_succ (ms : List Mt) (qs : List Q) (j : Nat) (hj : j < ms.length) (i : Nat) : hits ms qs (j + 1) i = (hits ms qs j i && fitM (ms.getD j m0) (val (lb qs i) (ms.getD j m0).1)) := by
  unfold hits allM
  rw [List.take_succ_eq_append_getElem hj, List.all_append]
  simp [hj]
theorem hits_zero (ms : List Mt) (qs : List Q) (n : Nat) : flt (hits ms qs 0) n = (List.range n).map fun i : Nat => (i : Int) := by
  unfold flt
  rw [List.filter_eq_self.2 (show ∀ i ∈ List.range n, hits ms qs 0 i = true from fun i _ => rfl)]
theorem three_cells {w : World} {b : Nat} {v0 v1 v2 : Value} {t : TypeId} (h : w.heap[b]? = some (.cells #[v0, v1, v2] t)) : w.cell? ⟨b, 0, none⟩ = some v0 ∧ w.cell? ⟨b, 1, none⟩ = some v1 ∧ w.cell? ⟨b, 2, none⟩ = some v2 := Stn.three h

theorem f156 (u : ByteArray) (m : Mt) (B : Nat) (w : World) (hok : okM m = true) (hu : u.size ≤ 100) (hb : w.heap[B]? = some (.cells #[.string m.1, .int .i64 m.2.1, .string m.2.2] 74)) :
    Calls Tryz.prog 156 #[.string u, .pointer (some ⟨B, 0, none⟩)] w fun e w' => e = .returned (.bool (fitM m u)) ∧ Below w.heap.size w w' := by
  obtain ⟨c0, c1, c2⟩ := three_cells hb
  have HC := hid (Pat.f157 m.1 m.2.2 u m.2.1 w hok hu)
  clear hb
  go_enter Tryz.func156, Tryz.ntmps156
  go_wp2_with fail
  refine HC.out.mono ?_
  rintro e w1 ⟨rfl, hb1⟩
  go_wp2
  go_ret
  exact ⟨rfl, hb1⟩

set_option maxHeartbeats 4000000 in
theorem postingsM (a : Option Addr) (c : Nat) (qs : List Q) (m : Mt) (B : Nat) (w : World) (hr : HasQ w a qs) (hg : GoodQ qs) (hok : okM m = true) (hb : w.heap[B]? = some (.cells #[.string m.1, .int .i64 m.2.1, .string m.2.2] 74)) :
    Calls Tryz.prog 155 #[.slice a qs.length c, .string m.1, .func (.func 156) #[] #[.pointer (some ⟨B, 0, none⟩)]] w (Gives w (pst (fitM m) qs m.1 qs.length)) := by
  obtain ⟨i0, hi, hz0, hz1, hz2⟩ := info_parts info3
  have HR := hid hr
  have HG := hid hg
  have HB := hid hb
  have HOK := hid hok
  have h200 : qs.length ≤ 200 := hg.1
  clear hr hg hb hok
  obtain ⟨n, hn⟩ : ∃ n, n = qs.length := ⟨_, rfl⟩
  have HN : Hid (qs.length = n) := hn.symm
  rw [← hn] at h200 ⊢
  clear hn
  have H0 : Hid (Now w none 0 [] w) := ⟨Ino.Own.nil _ _, Below.refl _ _⟩
  go_enter Tryz.func155, Tryz.ntmps155
  go_wp2
  go_loopw [7, 12] (fun v7 v12 wr => ∃ (k : Nat) (L : List Int) (a7 : Option Addr) (c7 : Nat), k ≤ n ∧ L.length ≤ k ∧ v12 = .int .i64 (k : Int) ∧ v7 = .slice a7 L.length c7 ∧ Hid (L = pst (fitM m) qs m.1 k) ∧ Hid (Now w a7 c7 L wr)) (fun _ v _ => n - (intOf v).toNat)
  case atStart => exact ⟨0, [], none, 0, Nat.zero_le _, Nat.zero_le _, rfl, rfl, rfl, H0⟩
  case round =>
    obtain ⟨k, L, a7, c7, hk, hL, rfl, rfl, HL, HW⟩ := hrel
    by_cases hlt : k < n
    rotate_left
    · obtain rfl : k = n := by omega
      go_wp2
      go_ret
      exact ⟨_, rfl, by rw [← HL.out]; exact HW.out.1, HW.out.2⟩
    have HP : Hid (pst (fitM m) qs m.1 (k + 1) = L ++ (if fitM m (val (qs.getD k q0).l m.1) = true then [(k : Int)] else [])) := by unfold Hid; rw [pst, ← HL.out]
    have HGq := hid (HG.out.2 k (by rw [HN.out]; exact hlt)).1.1.1
    obtain ⟨b, off, rfl, hbl, c0, c1, t1, t2⟩ := (HR.out.below HW.out.2).at2 k (by rw [HN.out]; exact hlt)
    obtain ⟨q, hq⟩ : ∃ q, q = qs.getD k q0 := ⟨_, rfl⟩
    simp only [Srs.pl] at HGq
    rw [← hq] at c0 c1 t1 HP HGq
    clear hq t2
    have HB0 := hid ((Below.refl wr.heap.size wr).alloc (Nat.le_refl _) (.cells #[.slice q.a q.l.length q.c, .slice q.b q.s.length q.d] 80))
    have HT1 := hid (t1.below HB0.out)
    have HWa := hid (HW.out.below HB0.out)
    have i1 : (k : Int) < (n : Int) := by omega
    clear t1 hbl
    go_wp2_with fail
    refine (Lab.f136 q.a q.l.length q.c q.l m.1 _ rfl (good_goodP HGq.out) HT1.out).mono ?_
    rintro e w3 ⟨u, hu, rfl, hb3⟩
    obtain rfl := hu.uniq (val_of q.l m.1)
    have HW3 := hid (HWa.out.below hb3)
    clear hb3 hu c0 c1 HWa HT1 HB0
    go_wp2_with fail
    refine (f156 (val q.l m.1) m B _ HOK.out (Pat.val_size (good_goodP HGq.out) (val_of q.l m.1)) (kept HB.out HW3.out.2)).mono ?_
    rintro e w4 ⟨rfl, hb4⟩
    have HW4 := hid (HW3.out.below hb4)
    clear hb4 HW3
    have HW3 := HW4
    clear HW4
    cases hR : fitM m (val q.l m.1)
    · have e2 : Hid (L = pst (fitM m) qs m.1 (k + 1)) := by unfold Hid; rw [HP.out, hR]; simp
      go_wp2
      go_roundw
      case rel => exact ⟨k + 1, L, a7, c7, by omega, by omega, by go_num, rfl, e2, HW3⟩
      case measure => simp [intOf]; omega
    · have e2 : Hid (L ++ [(k : Int)] = pst (fitM m) qs m.1 (k + 1)) := by unfold Hid; rw [HP.out, hR]; simp
      have HA := hid (HW3.out.below ((Below.refl _ w4).alloc (Nat.le_refl _) (.cells #[.int .i64 (k : Int)] 3)))
      clear hR
      go_wp2_with (at_builtin; refine wpList_append_own _ rfl (.tmp 23) (.tmp 25) 148 rfl w.heap.size 3 i0 (.int .i64 0) 1 8 Tryz.underlying148 hi hz0 hz1 hz2 rfl (by decide) _ _ _ rfl HA.out.1 ⟨w4.heap.size, 0, none⟩ 1 1 [.int .i64 (k : Int)] rfl rfl ?d1 ?d2 ?d3 ?d4 ?d5 ?_)
      case d1 => intro j u hj; exact one_row _ _ _ j u hj
      case d2 => intro u hu; simp at hu; subst hu; rfl
      case d3 => unfold maxLen; omega
      case d4 => omega
      case d5 => have h5 := HW3.out.2.size; first | omega | (simp; omega)
      intro v1 w6 hown1 hgr1 _
      obtain ⟨a8, c8, rfl⟩ := own_form (L := L ++ [(k : Int)]) (by simpa using hown1)
      have HN6 := hid (HA.out.app hgr1 hown1)
      clear hown1 hgr1 HA
      go_wp2
      go_roundw
      case rel => exact ⟨k + 1, L ++ [(k : Int)], a8, c8, by omega, by simp; omega, by go_num, by simp, e2, HN6⟩
      case measure => simp [intOf]; omega

theorem f154 (a a' : Option Addr) (c c' : Nat) (s o : List Int) (w : World) (hb : s.length ≤ 1048576) (hb' : o.length ≤ 1048576) (hc : s.length ≤ c) (hc' : o.length ≤ c') (hr : Ino.Has w a s) (hr' : Ino.Has w a' o) :
    Calls Tryz.prog 154 #[.slice a s.length c, .slice a' o.length c'] w (Gives w (ch kAnd s o)) := by
  have HC := hid (Ino.choose_and a a' c c' s o w hb hb' hc hc' hr hr')
  clear hr hr'
  generalize s.length = n at *
  generalize o.length = n' at *
  go_enter Tryz.func154, Tryz.ntmps154
  go_wp2_with fail
  refine HC.out.mono ?_
  rintro e w1 ⟨v, rfl, ho, hb1⟩
  go_wp2
  go_ret
  exact ⟨v, rfl, ho, hb1⟩
theorem own_cap {w : World} {base n c : Nat} {a : Option Addr} {L : List Int} (h : Ino.Own w base (.slice a n c) L) : n = L.length ∧ L.length ≤ c := by
  rcases h.2 with ⟨h1, h2⟩ | ⟨g, cap, cur, h1, _, _, h4, _⟩
  · simp only [Value.slice.injEq] at h1
    obtain ⟨-, rfl, rfl⟩ := h1
    omega
  · simp only [Value.slice.injEq] at h1
    obtain ⟨-, rfl, rfl⟩ := h1
    exact ⟨rfl, h4⟩
theorem own_slice {w : World} {base : Nat} {v : Value} {L : List Int} (h : Ino.Own w base v L) : ∃ a c, v = .slice a L.length c ∧ L.length ≤ c := by
  rcases h.form with ⟨rfl, rfl⟩ | ⟨g, c, rfl⟩
  · exact ⟨none, 0, rfl, Nat.le_refl _⟩
  · exact ⟨_, c, rfl, (own_cap h).2⟩
theorem idx_get (n k : Nat) (h : k < n) : ((List.range n).map fun i : Nat => (i : Int)).getD k 0 = (k : Int) := by simp [h]
set_option maxHeartbeats 4000000 in
theorem f129 (a : Option Addr) (c : Nat) (qs : List Q) (am : Option Addr) (cm : Nat) (ms : List Mt) (w : World) (hr : HasQ w a qs) (hg : GoodQ qs) (hm : HasM w am ms) (hgm : goodM ms = true) :
    Calls Tryz.prog 129 #[.slice a qs.length c, .slice am ms.length cm] w (Gives w (flt (hits ms qs ms.length) qs.length)) := by
  obtain ⟨i0, hi, hz0, hz1, hz2⟩ := info_parts info3
  have HR := hid hr
  have HG := hid hg
  have HM := hid hm
  have HGM : Hid (GoodMP ms) := by unfold Hid; exact of_decide_eq_true hgm
  have h200 : qs.length ≤ 200 := hg.1
  have h10 : ms.length ≤ 10 := HGM.out.1
  clear hr hg hm hgm
  obtain ⟨n, hn⟩ : ∃ n, n = qs.length := ⟨_, rfl⟩
  have HN : Hid (qs.length = n) := hn.symm
  rw [← hn] at h200 ⊢
  clear hn
  obtain ⟨n', hn'⟩ : ∃ n, n = ms.length := ⟨_, rfl⟩
  have HN' : Hid (ms.length = n') := hn'.symm
  rw [← hn'] at h10 ⊢
  clear hn'
  have HLn : Hid (((List.range n).map fun i : Nat => (i : Int)).length = n) := by unfold Hid; simp
  go_enter Tryz.func129, Tryz.ntmps129
  go_wp2_with (at_make; refine wpList_make_full _ rfl _ _ 148 rfl w.heap.size 3 i0 (.int .i64 0) 1 Tryz.underlying148 hi hz0 hz1 _ _ _ _ n rfl rfl rfl rfl ?b2 ?b3 (Nat.le_refl _) ?_)
  case b2 => rw [hz2]; omega
  case b3 => unfold maxLen; omega
  intro w0 hown0 hgrow0
  have HOw : Hid (w0.ownsRow w.heap.size 3 1 (.slice (some ⟨w.heap.size, 0, none⟩) n n) n (((((List.range n).map fun i : Nat => (i : Int)).take 0).map (Value.int .i64)) ++ List.replicate (n - 0) (Value.int .i64 0))) := by unfold Hid; simpa [toList_madeCells_one, Value.cells] using hown0
  have HBl := hid ((Below.refl w.heap.size w).grown hgrow0 (Nat.le_refl _) (fun k h => by cases h))
  clear hown0 hgrow0
  go_wp2
  go_loopw [14] (fun i wr => ∃ k : Nat, k ≤ n ∧ i = .int .i64 (k : Int) ∧ Hid (wr.ownsRow w.heap.size 3 1 (.slice (some ⟨w.heap.size, 0, none⟩) n n) n (((((List.range n).map fun i : Nat => (i : Int)).take k).map (Value.int .i64)) ++ List.replicate (n - k) (Value.int .i64 0))) ∧ Hid (Below w.heap.size w wr)) (fun i _ => n - (intOf i).toNat)
  case atStart => exact ⟨0, Nat.zero_le _, rfl, HOw, HBl⟩
  case round =>
    clear HOw HBl
    obtain ⟨k, hk, rfl, HO, HB⟩ := hrel
    by_cases hlt : k < n
    · have hfz := HO.out.frozenAt k
      have hce := (HO.out.cellAt k (by omega)).trans (Ino.set_old _ n k HLn.out hlt)
      have HS := hid (HO.out.stored k (.int .i64 (k : Int)))
      have HSt := hid (Ino.set_step _ n k HLn.out hlt)
      rw [idx_get n k hlt] at HSt
      have HS' : Hid ((wr.setCell ⟨w.heap.size, k, none⟩ (.int .i64 (k : Int))).ownsRow w.heap.size 3 1 (.slice (some ⟨w.heap.size, 0, none⟩) n n) n (((((List.range n).map fun i : Nat => (i : Int)).take (k + 1)).map (Value.int .i64)) ++ List.replicate (n - (k + 1)) (Value.int .i64 0))) := by
        unfold Hid; rw [← HSt.out]; exact HS.out.1
      clear HS HO HSt
      go_wp2
      go_roundw
      case rel => exact ⟨k + 1, by omega, by go_num, HS', HB.out.setCell (Nat.le_refl _) _⟩
      case measure => simp [intOf]; omega
    obtain rfl : k = n := by omega
    have H1 : Hid (Ino.Own wr w.heap.size (.slice (some ⟨w.heap.size, 0, none⟩) k k) (flt (hits ms qs 0) k)) := by
      unfold Hid Ino.Own
      rw [hits_zero, HLn.out]
      have := HO.out
      rw [Nat.sub_self, List.replicate_zero, List.append_nil, List.take_of_length_le (by rw [HLn.out]; exact Nat.le_refl _)] at this
      exact this
    have HL0 : Hid ((flt (hits ms qs 0) k).length = k) := by unfold Hid; rw [hits_zero]; exact HLn.out
    clear HO
    go_wp2
    go_loopw [5, 24] (fun v5 v24 wx => ∃ (j : Nat) (L : List Int) (a5 : Option Addr) (c5 : Nat), j ≤ n' ∧ L.length ≤ k ∧ L.length ≤ c5 ∧ v24 = .int .i64 (j : Int) ∧ v5 = .slice a5 L.length c5 ∧ Hid (L = flt (hits ms qs j) k) ∧ Hid (Now w a5 c5 L wx)) (fun _ v _ => n' - (intOf v).toNat)
    case atStart => exact ⟨0, flt (hits ms qs 0) k, _, k, Nat.zero_le _, flt_len _ _, flt_len _ _, rfl, by rw [HL0.out], rfl, ⟨by rw [HL0.out]; exact H1.out, HB.out⟩⟩
    case round =>
      clear H1 HL0 HB
      obtain ⟨j, L, a5, c5, hj, hL, hLc, rfl, rfl, HL, HW⟩ := hrel
      by_cases hlj : j < n'
      rotate_left
      · obtain rfl : j = n' := by omega
        go_wp2
        go_ret
        exact ⟨_, rfl, by rw [← HL.out]; exact HW.out.1, HW.out.2⟩
      have HOK := hid (HGM.out.2 j (by rw [HN'.out]; exact hlj))
      have HHs : Hid (flt (hits ms qs (j + 1)) k = ch kAnd L (flt (fun i => fitM (ms.getD j m0) (val (lb qs i) (ms.getD j m0).1)) k)) := by
        unfold Hid; rw [HL.out, ch_flt]; exact flt_congr (fun i _ => hits_succ ms qs j (by rw [HN'.out]; exact hlj) i)
      rcases (HM.out.below HW.out.2) with hmm | ⟨bm, om, rfl, hbm, hcm⟩
      · exact absurd HN'.out (by rw [hmm]; simp; omega)
      obtain ⟨d0, d1, d2⟩ := hcm j (by rw [HN'.out]; exact hlj)
      obtain ⟨m, hme⟩ : ∃ m, m = ms.getD j m0 := ⟨_, rfl⟩
      rw [← hme] at d0 d1 d2 HOK HHs
      clear hcm hme
      have hb0 := (Below.refl wr.heap.size wr).alloc (Nat.le_refl _) (.cells #[.string m.1, .int .i64 m.2.1, .string m.2.2] 74)
      have HWa := hid (HW.out.below hb0)
      have HBm := hid (heap_alloc_new wr (.cells #[.string m.1, .int .i64 m.2.1, .string m.2.2] 74))
      have i1 : (j : Int) < (n' : Int) := by omega
      clear hb0
      go_wp2_with fail
      have HP := hid (postingsM a c qs m wr.heap.size _ (HR.out.below HWa.out.2) HG.out HOK.out HBm.out)
      rw [HN.out] at HP
      refine HP.out.mono ?_
      clear HP
      rintro e w3 ⟨r, rfl, ho3, hb3⟩
      have HW3 := hid (HWa.out.below hb3)
      obtain ⟨ar, cr, rfl, hcr⟩ := own_slice ho3
      rw [pst_flt] at ho3 hcr ⊢
      have hlr := flt_len (fun i => fitM m (val (lb qs i) m.1)) k
      have HO3 := hid ho3
      clear ho3 hb3 d0 d1 d2 HWa HBm
      generalize flt (fun i => fitM m (val (lb qs i) m.1)) k = Lr at *
      go_wp2_with fail
      refine (f154 a5 ar c5 cr L Lr _ (by omega) (by omega) hLc hcr HW3.out.1.has.2 HO3.out.has.2).mono ?_
      rintro e w4 ⟨r4, rfl, ho4, hb4⟩
      have HW4 : Hid (Ino.Own w4 w.heap.size r4 (flt (hits ms qs (j + 1)) k) ∧ Below w.heap.size w w4) := by
        unfold Hid; rw [HHs.out]; exact ⟨ho4.mono HW3.out.2.size, HW3.out.2.trans (hb4.mono HW3.out.2.size)⟩
      clear ho4 hb4 HW3 HO3
      obtain ⟨a8, c8, rfl, hc8⟩ := own_slice HW4.out.1
      have hl8 := flt_len (hits ms qs (j + 1)) k
      generalize hL8 : flt (hits ms qs (j + 1)) k = L8 at *
      go_wp2
      go_roundw
      case rel => exact ⟨j + 1, L8, a8, c8, by omega, hl8, hc8, by go_num, rfl, hL8.symm, HW4⟩
      case measure => simp [intOf]; omega

end Go.Proofs.YtjhdmghpklagkaaGreat.Blk
