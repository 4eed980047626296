/- A block with a span deleted: plain; the program's deleteIn. -/
import Derived.Test.YtkbaaidnkkcpoaaGreatRKR
import Derived.Test.YtkbaaidnkkcpoaaGreatRKv
import Derived.Test.YtkbaaidnkkcpoaaGreatRJn
import Derived.Test.YtkbaaidnkkcpoaaGreatRGJ
import Derived.Lib.MinMax
namespace Go.Proofs.YtkbaaidnkkcpoaaGreat.Blk
open Go.RowKit
open Go.Proofs.YtkbaaidnkkcpoaaGreat.Lab (Lb HasL cmpList)
open Go.Proofs.YtkbaaidnkkcpoaaGreat.Smp (In64 own_form)
open Go.Proofs.YtkbaaidnkkcpoaaGreat.Srs (hid lt_at kept own_base own_below set_at set_else Q q0 HasQ SmlQ two)
open Go.Proofs.YtkbaaidnkkcpoaaGreat.Stn (T t0 HasT SmlT agT three three_frz infoT pl)
open Go.Proofs.YtkbaaidnkkcpoaaGreat.Pat (Mt m0 HasM goodM allM)

/-- The stones of one series behind a deletion. -/
noncomputable def delQ (ms : List Mt) (ts : List T) (f t : Int) (q : Q) : List T := if allM ms (val q.l) = true then cov (own1 ts q.l) ⟨q.l, q.a, q.c, f, t⟩ else own1 ts q.l
noncomputable def delK (ms : List Mt) (qs : List Q) (ts : List T) (f t : Int) (k : Nat) : List T := (qs.take k).flatMap (delQ ms ts f t)
theorem delK_succ {ms : List Mt} {qs : List Q} {ts : List T} {f t : Int} {k : Nat} (hk : k < qs.length) : delK ms qs ts f t (k + 1) = delK ms qs ts f t k ++ delQ ms ts f t (qs.getD k q0) := by
  unfold delK
  rw [List.take_succ_eq_append_getElem hk, List.flatMap_append]
  simp [hk]
/-- The stones of a block behind a deletion. -/
noncomputable def delB (ms : List Mt) (h : Bk) (x y : Int) : List T := if max x h.F > min y (h.T - 1) then h.ts else delK ms h.qs h.ts (max x h.F) (min y (h.T - 1)) h.qs.length
theorem own1_len (ts : List T) (l : List Lb) : (own1 ts l).length ≤ ts.length := List.length_filter_le _ _
theorem own1_mem {ts : List T} {l : List Lb} {p : T} (h : p ∈ own1 ts l) : p ∈ ts ∧ p.l = l := by
  obtain ⟨h1, h2⟩ := List.mem_filter.1 h
  exact ⟨h1, lst_zero (of_decide_eq_true h2)⟩
theorem stone_tm {h : Bk} (g : GoodB h) : ∀ p ∈ h.ts, Tm p.f ∧ Tm p.t := by
  intro p hp
  obtain ⟨i, hi, rfl⟩ := List.getElem_of_mem hp
  have h1 := g.2.2.2.2.1 i hi
  have h2 := g.1
  unfold StoAt at h1
  unfold Head at h2
  rw [List.getD_eq_getElem?_getD, List.getElem?_eq_getElem hi] at h1
  simp only [Option.getD_some] at h1
  unfold Tm
  omega
theorem delQ_len {ms : List Mt} {ts : List T} {f t : Int} {q : Q} (hf : Tm f) (ht : Tm t) (hs : ∀ p ∈ ts, Tm p.f ∧ Tm p.t) (h100 : ts.length ≤ 100) : (delQ ms ts f t q).length ≤ 101 := by
  have h1 := own1_len ts q.l
  unfold delQ
  split
  · have := cov_len (L := own1 ts q.l) (q := ⟨q.l, q.a, q.c, f, t⟩) hf ht (fun p hp => hs p (own1_mem hp).1)
    omega
  · omega
theorem delK_len {ms : List Mt} {qs : List Q} {ts : List T} {f t : Int} (hf : Tm f) (ht : Tm t) (hs : ∀ p ∈ ts, Tm p.f ∧ Tm p.t) (h100 : ts.length ≤ 100) : ∀ k, k ≤ qs.length → (delK ms qs ts f t k).length ≤ 101 * k := by
  intro k
  induction k with
  | zero => intro _; simp [delK]
  | succ k ih =>
    intro hk
    rw [delK_succ (by omega), List.length_append]
    have := ih (by omega)
    have := delQ_len (ms := ms) (q := qs.getD k q0) hf ht hs h100
    omega
theorem cov_mem {L : List T} {q p : T} (hf : Tm q.f) (ht : Tm q.t) (hL : ∀ p ∈ L, Tm p.f ∧ Tm p.t) (h : p ∈ cov L q) : p ∈ L ∨ (p.l = q.l ∧ p.a = q.a) := by
  have hok := cvK_ok hf ht hL L.length (Nat.le_refl _)
  rw [cov_parts] at h
  rcases List.mem_append.1 h with h | h
  · rcases List.mem_append.1 h with h | h
    · exact .inl (hok.ma p h)
    · rw [List.mem_singleton.1 h]; exact .inr ⟨rfl, rfl⟩
  · exact .inl (hok.mb p h)
theorem RowO.push {w : World} {X : Nat} {v v' : Value} {R L : List T} {x y : World} (h : RowO w X v R x) (hr : y.ownsRow X 87 3 v' (R.length + L.length) (Stn.flat R ++ Stn.flat L)) (hl : ∀ p ∈ L, HasL w p.a p.l) : RowO w X v' (R ++ L) y :=
  ⟨by rw [Stn.flat_append, List.length_append]; exact hr, fun p hp => by rcases List.mem_append.1 hp with g | g; exact h.lab p g; exact hl p g⟩
theorem hits_all {ms : List Mt} {qs : List Q} {k : Nat} : hits ms qs ms.length k = allM ms (val (lb qs k)) := by unfold hits; rw [List.take_length]
theorem in_flt {ms : List Mt} {qs : List Q} {k : Nat} (hk : k < qs.length) : decide ((k : Int) ∈ flt (hits ms qs ms.length) qs.length) = allM ms (val (lb qs k)) := by
  rw [← hits_all]
  cases e : hits ms qs ms.length k
  · refine decide_eq_false fun h => ?_
    obtain ⟨i, _, h2, h3⟩ := flt_mem.1 h
    obtain rfl : i = k := by omega
    rw [e] at h2; cases h2
  · exact decide_eq_true (flt_mem.2 ⟨k, hk, e, rfl⟩)
/-- A block's cells, written one behind the other. -/
def put5 (x : World) (B : Nat) (v0 v1 v2 v3 v4 : Value) : World := ((((x.setCell ⟨B, 0, none⟩ v0).setCell ⟨B, 1, none⟩ v1).setCell ⟨B, 2, none⟩ v2).setCell ⟨B, 3, none⟩ v3).setCell ⟨B, 4, none⟩ v4
theorem put5_at {x : World} {B : Nat} {v0 v1 v2 v3 v4 u0 u1 u2 u3 u4 : Value} {t : TypeId} (h : x.heap[B]? = some (.cells #[u0, u1, u2, u3, u4] t)) : (put5 x B v0 v1 v2 v3 v4).heap[B]? = some (.cells #[v0, v1, v2, v3, v4] t) :=
  set_at (i := 4) (set_at (i := 3) (set_at (i := 2) (set_at (i := 1) (set_at (i := 0) h))))
theorem put5_size (x : World) (B : Nat) (v0 v1 v2 v3 v4 : Value) : (put5 x B v0 v1 v2 v3 v4).heap.size = x.heap.size := by simp [put5]
theorem put5_below {N : Nat} {w x : World} {B : Nat} {v0 v1 v2 v3 v4 : Value} (hb : Below N w x) (hB : N ≤ B) : Below N w (put5 x B v0 v1 v2 v3 v4) :=
  Below.setCell (p := ⟨B, 4, none⟩) (Below.setCell (p := ⟨B, 3, none⟩) (Below.setCell (p := ⟨B, 2, none⟩) (Below.setCell (p := ⟨B, 1, none⟩) (Below.setCell (p := ⟨B, 0, none⟩) hb hB _) hB _) hB _) hB _) hB _
theorem put5_row {x : World} {X n B : Nat} {v : Value} {xs : List Value} {v0 v1 v2 v3 v4 : Value} (h : x.ownsRow X 87 3 v n xs) (hB : B < X) : (put5 x B v0 v1 v2 v3 v4).ownsRow X 87 3 v n xs :=
  own_setX (own_setX (own_setX (own_setX (own_setX h hB _) hB _) hB _) hB _) hB _
set_option maxRecDepth 10000 in
set_option maxHeartbeats 8000000 in
theorem f30 (h : Bk) (am : Option Addr) (cm : Nat) (ms : List Mt) (x y : Int) (w : World) (hr : HasB w h) (hz : SmlB h) (g : GoodB h) (hd : h.ts.length ≤ h.d) (hm : HasM w am ms) (hgm : goodM ms = true) :
    Calls Tryz.prog 30 #[agB h, .slice am ms.length cm, .int .i64 x, .int .i64 y] w fun e w' => ∃ (b' : Option Addr) (d' : Nat), e = .returned (agB ⟨h.F, h.T, h.L, h.qs, h.a, h.c, delB ms h x y, b', d'⟩) ∧ Hid (HasB w' ⟨h.F, h.T, h.L, h.qs, h.a, h.c, delB ms h x y, b', d'⟩) ∧ Below w.heap.size w w' := by
  obtain ⟨i0, hi, hz0, hz1, hz2⟩ := info_parts infoT
  obtain ⟨F, TT, LL, qs, a, c, ts, b, d⟩ := h
  have HG := hid g
  have HZ := hid hz
  have HR := hid hr
  have HM := hid hm
  have HTm := hid (stone_tm g)
  have hh := g.1
  unfold Head at hh
  obtain ⟨⟨q1, q2⟩, q3, q4, _, _⟩ := hh
  have h200 : qs.length ≤ 200 := g.2.1.1
  have h100 : ts.length ≤ 100 := g.2.2.2.1
  simp only at q1 q2 q3 q4 hd HTm
  clear hr hz g hm
  obtain ⟨W, hW⟩ : ∃ W, W = (w.alloc (.cells #[.int .i64 F, .int .i64 TT, .int .i64 LL, .slice a qs.length c, .slice b ts.length d] 44)).alloc Z5 := ⟨_, rfl⟩
  have HWb : Hid (Below w.heap.size w W ∧ W.heap[w.heap.size]? = some (.cells #[.int .i64 F, .int .i64 TT, .int .i64 LL, .slice a qs.length c, .slice b ts.length d] 44) ∧ W.heap[w.heap.size + 1]? = some Z5 ∧ W.heap.size = w.heap.size + 1 + 1) := by
    subst hW
    have h2 := heap_alloc_new (w.alloc (.cells #[.int .i64 F, .int .i64 TT, .int .i64 LL, .slice a qs.length c, .slice b ts.length d] 44)) Z5
    simp only [World.size_alloc] at h2
    exact ⟨((Below.refl w.heap.size w).alloc (Nat.le_refl _) _).alloc (by simp) _, (Below.heap_alloc _ _ w.heap.size (by simp)).trans (heap_alloc_new w _), h2, by simp⟩
  simp only [agB, clB]
  obtain ⟨f, hf⟩ : ∃ f, f = max x F := ⟨_, rfl⟩
  obtain ⟨t, ht⟩ : ∃ t, t = min y (TT - 1) := ⟨_, rfl⟩
  have HDB : Hid (delB ms ⟨F, TT, LL, qs, a, c, ts, b, d⟩ x y = if f > t then ts else delK ms qs ts f t qs.length) := by rw [hf, ht]; rfl
  have hw1 : IntKind.i64.wrap (TT - 1) = TT - 1 := by rw [IntKind.wrap_i64]; omega
  have hft : ¬ f > t → Tm f ∧ Tm t := fun h => by unfold Tm; omega
  have HFT := hid hft
  have HF := hid hf
  have HT := hid ht
  clear hft hf ht
  go_enter Tryz.func30, Tryz.ntmps30
  go_upto_region 1 with fail
  rw [← hW]
  clear hW
  have hdr : Below W.heap.size W W.drew := (Below.refl _ _).drew
  refine wp_region_held_drew (S := fun x => x.cell? ⟨w.heap.size, 0, none⟩ = some (.int .i64 F) ∧ x.cell? ⟨w.heap.size, 1, none⟩ = some (.int .i64 TT)) rfl ⟨(five (kept HWb.out.2.1 hdr)).1, (five (kept HWb.out.2.1 hdr)).2.1⟩ (fun hHeld => ?_)
  refine wpAnyH_take (i := 0) (oi := { dst := some 16, op := _, type := _, pos := _, after := _, guard := _ }) (v := .int .i64 x) rfl (by kernel_rfl) (by kernel_rfl) (by kernel_rfl) (fun _ _ _ h => h) (Or.inl ⟨by rfl, fun w hSw => by (try dsimp only at hSw); go_split_ands; go_simp⟩) (by assumption) ?_
  simp only [Act.put, List.setIfInBounds_toArray, List.set_cons_zero, List.set_cons_succ]
  refine wpAnyH_take (i := 1) (oi := { dst := some 17, op := _, type := _, pos := _, after := _, guard := _ }) (v := .pointer (some ⟨w.heap.size, 0, none⟩)) rfl (by kernel_rfl) (by kernel_rfl) (by kernel_rfl) (fun _ _ _ h => h) (Or.inl ⟨by rfl, fun w hSw => by (try dsimp only at hSw); go_split_ands; go_simp⟩) (by assumption) ?_
  simp only [Act.put, List.setIfInBounds_toArray, List.set_cons_zero, List.set_cons_succ]
  refine wpAnyH_take (i := 2) (oi := { dst := some 18, op := _, type := _, pos := _, after := _, guard := _ }) (v := .int .i64 F) rfl (by kernel_rfl) (by kernel_rfl) (by kernel_rfl) (fun _ _ _ h => h) (Or.inl ⟨by rfl, fun w hSw => by (try dsimp only at hSw); go_split_ands; go_simp⟩) (by assumption) ?_
  simp only [Act.put, List.setIfInBounds_toArray, List.set_cons_zero, List.set_cons_succ]
  refine wpAnyH_take (i := 3) (oi := { dst := some 19, op := _, type := _, pos := _, after := _, guard := _ }) (v := .int .i64 (max x F)) rfl (by kernel_rfl) (by kernel_rfl) (by kernel_rfl) (fun _ _ _ h => h) (Or.inl ⟨by rfl, fun w hSw => by (try dsimp only at hSw); go_split_ands; go_simp⟩) (by assumption) ?_
  simp only [Act.put, List.setIfInBounds_toArray, List.set_cons_zero, List.set_cons_succ]
  refine wpAnyH_take (i := 4) (oi := { dst := some 20, op := _, type := _, pos := _, after := _, guard := _ }) (v := .int .i64 y) rfl (by kernel_rfl) (by kernel_rfl) (by kernel_rfl) (fun _ _ _ h => h) (Or.inl ⟨by rfl, fun w hSw => by (try dsimp only at hSw); go_split_ands; go_simp⟩) (by assumption) ?_
  simp only [Act.put, List.setIfInBounds_toArray, List.set_cons_zero, List.set_cons_succ]
  refine wpAnyH_take (i := 5) (oi := { dst := some 21, op := _, type := _, pos := _, after := _, guard := _ }) (v := .pointer (some ⟨w.heap.size, 1, none⟩)) rfl (by kernel_rfl) (by kernel_rfl) (by kernel_rfl) (fun _ _ _ h => h) (Or.inl ⟨by rfl, fun w hSw => by (try dsimp only at hSw); go_split_ands; go_simp⟩) (by assumption) ?_
  simp only [Act.put, List.setIfInBounds_toArray, List.set_cons_zero, List.set_cons_succ]
  refine wpAnyH_take (i := 6) (oi := { dst := some 22, op := _, type := _, pos := _, after := _, guard := _ }) (v := .int .i64 TT) rfl (by kernel_rfl) (by kernel_rfl) (by kernel_rfl) (fun _ _ _ h => h) (Or.inl ⟨by rfl, fun w hSw => by (try dsimp only at hSw); go_split_ands; go_simp⟩) (by assumption) ?_
  simp only [Act.put, List.setIfInBounds_toArray, List.set_cons_zero, List.set_cons_succ]
  refine wpAnyH_take (i := 7) (oi := { dst := some 23, op := _, type := _, pos := _, after := _, guard := _ }) (v := .int .i64 (TT - 1)) rfl (by kernel_rfl) (by kernel_rfl) (by kernel_rfl) (fun _ _ _ h => h) (Or.inl ⟨by rfl, fun w hSw => by (try dsimp only at hSw); go_split_ands; go_simp⟩) (by assumption) ?_
  simp only [Act.put, List.setIfInBounds_toArray, List.set_cons_zero, List.set_cons_succ]
  refine wpAnyH_take (i := 8) (oi := { dst := some 24, op := _, type := _, pos := _, after := _, guard := _ }) (v := .int .i64 (min y (TT - 1))) rfl (by kernel_rfl) (by kernel_rfl) (by kernel_rfl) (fun _ _ _ h => h) (Or.inl ⟨by rfl, fun w hSw => by (try dsimp only at hSw); go_split_ands; go_simp⟩) (by assumption) ?_
  simp only [Act.put, List.setIfInBounds_toArray, List.set_cons_zero, List.set_cons_succ]
  refine wpAnyH_take (i := 9) (oi := { dst := some 2, op := _, type := _, pos := _, after := _, guard := _ }) (v := .int .i64 (max x F)) rfl (by kernel_rfl) (by kernel_rfl) (by kernel_rfl) (fun _ _ _ h => h) (Or.inl ⟨by rfl, fun w hSw => by (try dsimp only at hSw); go_split_ands; go_simp⟩) (by assumption) ?_
  simp only [Act.put, List.setIfInBounds_toArray, List.set_cons_zero, List.set_cons_succ]
  refine wpAnyH_take (i := 10) (oi := { dst := some 3, op := _, type := _, pos := _, after := _, guard := _ }) (v := .int .i64 (min y (TT - 1))) rfl (by kernel_rfl) (by kernel_rfl) (by kernel_rfl) (fun _ _ _ h => h) (Or.inl ⟨by rfl, fun w hSw => by (try dsimp only at hSw); go_split_ands; go_simp⟩) (by assumption) ?_
  simp only [Act.put, List.setIfInBounds_toArray, List.set_cons_zero, List.set_cons_succ]
  refine wpAnyH_done (by kernel_rfl) ?_ _
  rw [← HF.out, ← HT.out]
  clear hHeld HF HT
  have H1 : Hid (Below w.heap.size w W.drew ∧ W.drew.heap[w.heap.size]? = some (.cells #[.int .i64 F, .int .i64 TT, .int .i64 LL, .slice a qs.length c, .slice b ts.length d] 44) ∧ W.drew.heap[w.heap.size + 1]? = some Z5) := ⟨HWb.out.1.trans (hdr.mono HWb.out.1.size), kept HWb.out.2.1 hdr, kept HWb.out.2.2.1 hdr⟩
  clear HWb hdr
  generalize W.drew = W1 at *
  obtain ⟨b0, b1, b2, b3, b4⟩ := five H1.out.2.1
  by_cases hgt : f > t
  · have HE : Hid (delB ms ⟨F, TT, LL, qs, a, c, ts, b, d⟩ x y = ts) := by unfold Hid; rw [HDB.out, if_pos hgt]
    obtain ⟨e0, e1, e2, e3, e4⟩ := five H1.out.2.2
    have u0 := five_frz (o := 0) H1.out.2.2
    have u1 := five_frz (o := 1) H1.out.2.2
    have u2 := five_frz (o := 2) H1.out.2.2
    have u3 := five_frz (o := 3) H1.out.2.2
    have u4 := five_frz (o := 4) H1.out.2.2
    have HP : Hid ((put5 W1 (w.heap.size + 1) (.int .i64 F) (.int .i64 TT) (.int .i64 LL) (.slice a qs.length c) (.slice b ts.length d)).heap[w.heap.size + 1]? = some (.cells #[.int .i64 F, .int .i64 TT, .int .i64 LL, .slice a qs.length c, .slice b ts.length d] 44) ∧ Below w.heap.size w (put5 W1 (w.heap.size + 1) (.int .i64 F) (.int .i64 TT) (.int .i64 LL) (.slice a qs.length c) (.slice b ts.length d))) := ⟨put5_at H1.out.2.2, put5_below H1.out.1 (Nat.le_succ _)⟩
    rw [put5] at HP
    go_wp2
    rw [HE.out]
    generalize hwf : World.setCell _ _ _ = wf
    rw [hwf] at HP
    clear hwf
    refine bodyPost_ret (v := .agg #[.int .i64 F, .int .i64 TT, .int .i64 LL, .slice a qs.length c, .slice b ts.length d]) ?_ rfl ⟨b, d, rfl, HR.out.below HP.out.2, HP.out.2⟩
    obtain ⟨y0, y1, y2, y3, y4⟩ := five HP.out.1
    simp [results, Tryz.results30, go_sem, y0, y1, y2, y3, y4]
  have HE : Hid (delB ms ⟨F, TT, LL, qs, a, c, ts, b, d⟩ x y = delK ms qs ts f t qs.length) := by unfold Hid; rw [HDB.out, if_neg hgt]
  obtain ⟨tf, tt⟩ := HFT.out hgt
  have HTf := hid tf
  have HTt := hid tt
  clear tf tt HFT HDB
  go_wp2_with fail
  refine (f56 a c qs am cm ms _ (HR.out.below H1.out.1).1 HG.out.2.1 (HM.out.below H1.out.1) hgm).mono ?_
  rintro e w1 ⟨vf, rfl, hvf, hb1⟩
  have H2 : Hid (Below w.heap.size w w1 ∧ w1.heap[w.heap.size]? = some (.cells #[.int .i64 F, .int .i64 TT, .int .i64 LL, .slice a qs.length c, .slice b ts.length d] 44) ∧ w1.heap[w.heap.size + 1]? = some Z5) := ⟨H1.out.1.trans (hb1.mono H1.out.1.size), kept H1.out.2.1 hb1, kept H1.out.2.2 hb1⟩
  have HVf := hid hvf
  clear hvf hb1 H1 b0 b1 b2 b3 b4
  obtain ⟨b0, b1, b2, b3, b4⟩ := five H2.out.2.1
  go_wp2
  go_loopw [10, 36] (fun so si wr => ∃ (k : Nat) (v : Value), k ≤ qs.length ∧ si = .int .i64 k ∧ so = v ∧ Hid (RowO w w1.heap.size v (delK ms qs ts f t k) wr) ∧ Hid (Below w1.heap.size w1 wr)) (fun _ si _ => qs.length - (intOf si).toNat)
  case atStart => exact ⟨0, _, Nat.zero_le _, rfl, rfl, RowO.nil _ _ _, Below.refl _ _⟩
  case round =>
    clear b0 b1 b2 b3 b4
    obtain ⟨k, v, hk, rfl, rfl, HO, HX⟩ := hrel
    have HXw : Hid (Below w.heap.size w wr) := H2.out.1.trans (HX.out.mono H2.out.1.size)
    have HBx := hid (kept H2.out.2.1 HX.out)
    have HBz := hid (kept H2.out.2.2 HX.out)
    have hsz : w.heap.size + 1 < w1.heap.size := lt_at H2.out.2.2
    obtain ⟨ao, co, rfl⟩ := HO.out.form
    by_cases hlt : k < qs.length
    rotate_left
    · obtain rfl : k = qs.length := by omega
      have i1 : ¬ (qs.length : Int) < (qs.length : Int) := by omega
      generalize delK ms qs ts f t qs.length = R at *
      obtain ⟨b0, b1, b2, b3, b4⟩ := five HBx.out
      have fz := five_frz (o := 4) HBx.out
      obtain ⟨e0, e1, e2, e3, e4⟩ := five HBz.out
      have u0 := five_frz (o := 0) HBz.out
      have u1 := five_frz (o := 1) HBz.out
      have u2 := five_frz (o := 2) HBz.out
      have u3 := five_frz (o := 3) HBz.out
      have u4 := five_frz (o := 4) HBz.out
      have HP : Hid ((put5 (wr.setCell ⟨w.heap.size, 4, none⟩ (.slice ao R.length co)) (w.heap.size + 1) (.int .i64 F) (.int .i64 TT) (.int .i64 LL) (.slice a qs.length c) (.slice ao R.length co)).heap[w.heap.size + 1]? = some (.cells #[.int .i64 F, .int .i64 TT, .int .i64 LL, .slice a qs.length c, .slice ao R.length co] 44) ∧ Below w.heap.size w (put5 (wr.setCell ⟨w.heap.size, 4, none⟩ (.slice ao R.length co)) (w.heap.size + 1) (.int .i64 F) (.int .i64 TT) (.int .i64 LL) (.slice a qs.length c) (.slice ao R.length co)) ∧ RowO w w1.heap.size (.slice ao R.length co) R (put5 (wr.setCell ⟨w.heap.size, 4, none⟩ (.slice ao R.length co)) (w.heap.size + 1) (.int .i64 F) (.int .i64 TT) (.int .i64 LL) (.slice a qs.length c) (.slice ao R.length co))) := by
        have z := set_else (p := ⟨w.heap.size, 4, none⟩) (v := .slice ao R.length co) HBz.out (by simp)
        exact ⟨put5_at z, put5_below (HXw.out.setCell (p := ⟨w.heap.size, 4, none⟩) (Nat.le_refl _) _) (Nat.le_succ _), ⟨put5_row (own_setX HO.out.row (by simp only; omega) _) (by omega), HO.out.lab⟩⟩
      rw [put5] at HP
      clear HO HX HXw HBx HBz
      go_wp2
      rw [HE.out]
      generalize hwf : World.setCell _ _ _ = wf
      rw [hwf] at HP
      clear hwf
      refine bodyPost_ret (v := .agg #[.int .i64 F, .int .i64 TT, .int .i64 LL, .slice a qs.length c, .slice ao R.length co]) ?_ rfl ⟨ao, co, rfl, ⟨HR.out.1.below HP.out.2.1, HP.out.2.2.has HP.out.2.1⟩, HP.out.2.1⟩
      obtain ⟨y0, y1, y2, y3, y4⟩ := five HP.out.1
      simp [results, Tryz.results30, go_sem, y0, y1, y2, y3, y4]
    have HBh : Hid (HB w ⟨F, TT, LL, qs, a, c, ts, b, d⟩ wr) := ⟨HBx.out, HR.out.below HXw.out, HXw.out⟩
    obtain ⟨bb, off, hbb, hbl, c0, c1, t1, t2⟩ := HBh.out.has.1.at2 k hlt
    simp only at hbb c0 c1 t1 t2
    subst hbb
    have HQ := hid (HG.out.2.1.2 k hlt).1
    have HDk := hid (delK_succ (ms := ms) (ts := ts) (f := f) (t := t) hlt)
    have hle := delK_len (ms := ms) (qs := qs) HTf.out HTt.out HTm.out h100 k (by omega)
    have HIn := hid (in_flt (ms := ms) hlt)
    have HLq : Hid (HasL w (qs.getD k q0).a (qs.getD k q0).l) := by
      obtain ⟨_, _, _, _, _, _, g1, _⟩ := HR.out.1.at2 k hlt
      exact g1
    have i1 : (k : Int) < (qs.length : Int) := by omega
    simp only [lb] at HIn
    generalize qs.getD k q0 = q at *
    have HGp := hid (Srs.good_goodP HQ.out.1.1)
    simp only [Srs.pl] at HGp
    have hll : q.l.length ≤ 20 := HGp.out.1
    have HW0 := hid ((Below.refl wr.heap.size wr).alloc (Nat.le_refl _) (.cells #[.slice q.a q.l.length q.c, .slice q.b q.s.length q.d] 81))
    have HSx := hid (heap_alloc_new wr (.cells #[.slice q.a q.l.length q.c, .slice q.b q.s.length q.d] 81))
    have HB1 := hid (HBh.out.below HW0.out)
    have HT1 := hid (t1.below HW0.out)
    have HX1 : Hid (Below w1.heap.size w1 (wr.alloc (.cells #[.slice q.a q.l.length q.c, .slice q.b q.s.length q.d] 81))) := HX.out.trans (HW0.out.mono HX.out.size)
    have HO1 := hid (HO.out.below HW0.out)
    obtain ⟨b0, b1, b2, b3, b4⟩ := five HB1.out.box
    obtain ⟨s0, s1⟩ := two HSx.out
    clear t1 t2 hbl HW0 HQ HGp HBh HBx HBz HXw HX HO
    obtain ⟨W2, hW2⟩ : ∃ W, W = wr.alloc (.cells #[.slice q.a q.l.length q.c, .slice q.b q.s.length q.d] 81) := ⟨_, rfl⟩
    have HSt := hid (f57 ⟨F, TT, LL, qs, some ⟨bb, off, none⟩, c, ts, b, d⟩ q.a q.c q.l (wr.alloc (.cells #[.slice q.a q.l.length q.c, .slice q.b q.s.length q.d] 81)) HB1.out.has HZ.out HG.out.2.2.2.2.2 h100 hd HT1.out (by omega))
    simp only [agB, clB] at HSt
    go_wp2_with fail
    rw [← hW2] at HSt HB1 HSx HT1 HX1 HO1
    rw [← hW2]
    clear hW2 b0 b1 b2 b3 b4 s0 s1 c0 c1
    refine HSt.out.mono ?_
    rintro e w2 ⟨a2, L2, hL2, rfl, hT2, hb2⟩
    have HX2 : Hid (Below w1.heap.size w1 w2) := HX1.out.trans (hb2.mono HX1.out.size)
    have HO2 := hid (HO1.out.below hb2)
    have HS2 := hid (kept HSx.out hb2)
    have HTq2 := hid (HT1.out.below hb2)
    have HL2 := hid hL2.out
    have HT2 := hid hT2
    clear hT2 hb2 hL2 HSt HB1 HSx HT1 HX1 HO1
    have hL100 : L2.length ≤ 100 := by rw [HL2.out]; exact Nat.le_trans (own1_len _ _) h100
    have HMem : Hid (∀ p ∈ L2, p ∈ ts ∧ p.l = q.l) := fun p hp => by rw [HL2.out] at hp; exact own1_mem hp
    have HTsw : Hid (∀ p ∈ ts, HasL w p.a p.l) := fun p hp => hasT_mem HR.out.2 hp
    have HPl := hid (Ino.f58 vf (flt (hits ms qs ms.length) qs.length) (k : Int) W1.heap.size w2 (HVf.out.below HX2.out) (flt_pair _ _) (by have := flt_len (hits ms qs ms.length) qs.length; omega))
    rw [HIn.out] at HPl
    go_wp2_with fail
    refine HPl.out.mono ?_
    rintro e w3 ⟨lo, hh3⟩
    obtain ⟨rfl, hb3⟩ := hh3.out
    have HX3 : Hid (Below w1.heap.size w1 w3) := HX2.out.trans (hb3.mono HX2.out.size)
    have HO3 := hid (HO2.out.below hb3)
    have HS3 := hid (kept HS2.out hb3)
    have HTq3 := hid (HTq2.out.below hb3)
    have HT3 := hid (HT2.out.below hb3)
    clear hh3 hb3 HX2 HO2 HS2 HTq2 HT2 HPl
    obtain ⟨s0, s1⟩ := two HS3.out
    cases hal : allM ms (val q.l)
    · have HDq : Hid (delQ ms ts f t q = L2) := by unfold Hid delQ; rw [hal, HL2.out]; rfl
      have HSrc : Hid (Src w3 (.slice a2 L2.length L2.length) L2) := Src.of HT3.out fun e => by
        rcases HT3.out with h | ⟨_, _, h, _⟩
        · rw [h]; rfl
        · rw [e] at h; cases h
      have HLab : Hid (∀ p ∈ L2, HasL w p.a p.l) := fun p hp => HTsw.out p (HMem.out p hp).1
      clear HT3 HL2 HMem
      generalize hv : Value.slice a2 L2.length L2.length = v2 at *
      clear hv
      rcases HSrc.out with ⟨rfl, hL0⟩ | ⟨ad, cc, rfl, hcs⟩
      · have HK : Hid (delK ms qs ts f t (k + 1) = delK ms qs ts f t k) := by unfold Hid; rw [HDk.out, HDq.out, hL0, List.append_nil]
        go_wp2_with (at_builtin; refine wpList_append_own_none rfl (.tmp 59) (.tmp 60) 42 rfl w1.heap.size 87 i0 3 Tryz.underlying42 hi _ _ _ rfl HO3.out.row rfl ?_)
        go_roundw
        case rel => exact ⟨k + 1, _, by omega, by go_num, rfl, by rw [HK.out]; exact HO3, HX3⟩
        case measure => simp [intOf]; omega
      · have HCS := hid hcs
        have HOC := hid (flatT_oneCell L2)
        have HFL := hid (Stn.flat_len L2)
        clear hcs
        generalize hR : delK ms qs ts f t k = R at *
        go_wp2_with (at_builtin; refine wpList_append_own _ rfl (.tmp 59) (.tmp 60) 42 rfl w1.heap.size 87 i0 (.agg #[.slice none 0 0, .int .i64 0, .int .i64 0]) 3 40 Tryz.underlying42 hi hz0 hz1 hz2 rfl (by decide) _ _ _ rfl HO3.out.row ad (L2).length cc (Stn.flat (L2)) rfl HFL.out HCS.out HOC.out ?d3 ?d4 ?d5 ?_)
        case d3 => unfold maxLen; omega
        case d4 => omega
        case d5 => exact HX3.out.size
        intro v7 w7 hown7 hgr7 _
        have HO7 : Hid (RowO w w1.heap.size v7 (delK ms qs ts f t (k + 1)) w7) := by unfold Hid; rw [HDk.out, HDq.out]; exact HO3.out.push hown7 HLab.out
        have HX7 := hid (HX3.out.grown hgr7 HX3.out.size (fun j hj => (HO3.out.row.lt j hj).1))
        clear hown7 hgr7
        go_wp2
        go_roundw
        case rel => exact ⟨k + 1, _, by omega, by go_num, rfl, HO7, HX7⟩
        case measure => simp [intOf]; omega
    · have HDq : Hid (delQ ms ts f t q = cov L2 ⟨q.l, q.a, q.c, f, t⟩) := by unfold Hid delQ; rw [hal, HL2.out]; rfl
      have HTm2 : Hid (∀ p ∈ L2, p.l = q.l ∧ Tm p.f ∧ Tm p.t) := fun p hp => ⟨(HMem.out p hp).2, HTm.out p (HMem.out p hp).1⟩
      have HWs := hid (f59 a2 L2.length L2 ⟨q.l, q.a, q.c, f, t⟩ w3 hL100 HT3.out HTq3.out (by simp only; omega) HTm2.out HTf.out HTt.out)
      have HLab : Hid (∀ p ∈ cov L2 ⟨q.l, q.a, q.c, f, t⟩, HasL w p.a p.l) := fun p hp => by
        rcases cov_mem (q := ⟨q.l, q.a, q.c, f, t⟩) HTf.out HTt.out (fun p hp => (HTm2.out p hp).2) hp with h | ⟨h1, h2⟩
        · exact HTsw.out p (HMem.out p h).1
        · rw [h1, h2]; exact HLq.out
      have hcl : (cov L2 ⟨q.l, q.a, q.c, f, t⟩).length ≤ 101 := by have := cov_len (q := ⟨q.l, q.a, q.c, f, t⟩) HTf.out HTt.out (fun p hp => (HTm2.out p hp).2); omega
      clear HL2 HMem HTm2
      simp only [agT] at HWs
      go_wp2_with fail
      refine HWs.out.mono ?_
      rintro e w4 ⟨v4, rfl, hr4, hb4⟩
      have HX4 : Hid (Below w1.heap.size w1 w4) := HX3.out.trans (hb4.mono HX3.out.size)
      have HO4 := hid (HO3.out.below hb4)
      have HSrc := hid (Src.own hr4.out.row)
      clear hr4 hb4 HX3 HO3 HS3 HTq3 HT3 s0 s1 HWs
      generalize cov L2 ⟨q.l, q.a, q.c, f, t⟩ = C at *
      rcases HSrc.out with ⟨rfl, hL0⟩ | ⟨ad, cc, rfl, hcs⟩
      · have HK : Hid (delK ms qs ts f t (k + 1) = delK ms qs ts f t k) := by unfold Hid; rw [HDk.out, HDq.out, hL0, List.append_nil]
        go_wp2_with (at_builtin; refine wpList_append_own_none rfl (.tmp 59) (.tmp 60) 42 rfl w1.heap.size 87 i0 3 Tryz.underlying42 hi _ _ _ rfl HO4.out.row rfl ?_)
        go_roundw
        case rel => exact ⟨k + 1, _, by omega, by go_num, rfl, by rw [HK.out]; exact HO4, HX4⟩
        case measure => simp [intOf]; omega
      · have HCS := hid hcs
        have HOC := hid (flatT_oneCell C)
        have HFL := hid (Stn.flat_len C)
        clear hcs
        generalize hR : delK ms qs ts f t k = R at *
        go_wp2_with (at_builtin; refine wpList_append_own _ rfl (.tmp 59) (.tmp 60) 42 rfl w1.heap.size 87 i0 (.agg #[.slice none 0 0, .int .i64 0, .int .i64 0]) 3 40 Tryz.underlying42 hi hz0 hz1 hz2 rfl (by decide) _ _ _ rfl HO4.out.row ad (C).length cc (Stn.flat (C)) rfl HFL.out HCS.out HOC.out ?d3 ?d4 ?d5 ?_)
        case d3 => unfold maxLen; omega
        case d4 => omega
        case d5 => exact HX4.out.size
        intro v7 w7 hown7 hgr7 _
        have HO7 : Hid (RowO w w1.heap.size v7 (delK ms qs ts f t (k + 1)) w7) := by unfold Hid; rw [HDk.out, HDq.out]; exact HO4.out.push hown7 HLab.out
        have HX7 := hid (HX4.out.grown hgr7 HX4.out.size (fun j hj => (HO4.out.row.lt j hj).1))
        clear hown7 hgr7
        go_wp2
        go_roundw
        case rel => exact ⟨k + 1, _, by omega, by go_num, rfl, HO7, HX7⟩
        case measure => simp [intOf]; omega
end Go.Proofs.YtkbaaidnkkcpoaaGreat.Blk
