/- Targets: how they lie in memory; szTarget, eqTarget. -/
import Derived.Test.YtcknlidbjnmbjaaGreatDoorRQA
import Derived.Test.YtcknlidbjnmbjaaGreatDoorRCL
import Derived.Test.YtcknlidbjnmbjaaGreatDoorRCB
import Derived.Test.YtcknlidbjnmbjaaGreatDoorRRA
namespace Go.Proofs.YtcknlidbjnmbjaaGreatDoor.Tgt
open Go.RowKit Go.Proofs.YtcknlidbjnmbjaaGreatDoor.Fil Go.Proofs.YtcknlidbjnmbjaaGreatDoor.Rul
open Go.Proofs.YtcknlidbjnmbjaaGreatDoor.Lab (Lb HasL)

/-- A target as it lies in memory. -/
structure Tg where
  ls : List Lb
  la : Option Addr
  lc : Nat
  ev : Int
  lm : Int
  ho : Bool
  qs : List Q
  ra : Option Addr
  rc : Nat
abbrev clT (t : Tg) : Array Value := #[.slice t.la t.ls.length t.lc, .int .i64 t.ev, .int .i64 t.lm, .bool t.ho, .slice t.ra t.qs.length t.rc]
abbrev agT (t : Tg) : Value := .agg (clT t)
structure Has (w : World) (t : Tg) : Prop where
  lab : HasL w t.la t.ls
  rul : HasR w t.ra t.qs
theorem Has.below {w w' : World} {t : Tg} (h : Has w t) (hb : Below w.heap.size w w') : Has w' t := ⟨h.lab.below hb, h.rul.below hb⟩
structure FitG (t : Tg) : Prop where
  ln : t.ls.length ≤ maxLen
  lab : Lab.Fit t.ls
  qn : t.qs.length ≤ maxLen
  rul : FitQ t.qs
  e0 : -9223372036854775808 ≤ t.ev
  e1 : t.ev ≤ 9223372036854775807
  l0 : -9223372036854775808 ≤ t.lm
  l1 : t.lm ≤ 9223372036854775807
structure Sml (t : Tg) : Prop where
  ln : t.ls.length ≤ 1048576
  qn : t.qs.length ≤ 1048576
  rul : SmlQ t.qs
/-- The same target in other memory. -/
structure Same (t t' : Tg) : Prop where
  ls : t'.ls = t.ls
  ev : t'.ev = t.ev
  lm : t'.lm = t.lm
  ho : t'.ho = t.ho
  qn : t'.qs.length = t.qs.length
  rul : ∀ i, i < t.qs.length → (t'.qs.getD i q0).r = (t.qs.getD i q0).r
theorem cells5 {w : World} {b : Nat} {x0 x1 x2 x3 x4 : Value} {t : TypeId} (h : w.heap[b]? = some (.cells #[x0, x1, x2, x3, x4] t)) :
    w.cell? ⟨b, 0, none⟩ = some x0 ∧ w.cell? ⟨b, 1, none⟩ = some x1 ∧ w.cell? ⟨b, 2, none⟩ = some x2 ∧ w.cell? ⟨b, 3, none⟩ = some x3 ∧ w.cell? ⟨b, 4, none⟩ = some x4 := by
  simp [World.cell?, h]
theorem five_frz {w : World} {b o : Nat} {x0 x1 x2 x3 x4 : Value} {t : TypeId} (h : w.heap[b]? = some (.cells #[x0, x1, x2, x3, x4] t)) : w.frozen? ⟨b, o, none⟩ = false := by simp [World.frozen?, h]
theorem lt_at {w : World} {b : Nat} {x : Obj} (h : w.heap[b]? = some x) : b < w.heap.size := by
  rcases Nat.lt_or_ge b w.heap.size with h1 | h1
  · exact h1
  · rw [Array.getElem?_eq_none h1] at h; cases h
theorem kept {w w' : World} {b : Nat} {x : Obj} (h : w.heap[b]? = some x) (hb : Below w.heap.size w w') : w'.heap[b]? = some x := (hb.block b (lt_at h)).trans h
set_option maxHeartbeats 2000000 in
theorem f4 (t : Tg) (w : World) (hr : Has w t) (hf : FitG t) :
    Calls Tryz.prog 4 #[agT t, .int .i64 1048576] w fun e w' => ∃ y : Int, e = .returned (.int .i64 y) ∧ (0 ≤ y → Sml t) ∧ Below w.heap.size w w' := by
  obtain ⟨ls, la, lc, ev, lm, ho, qs, ra, rc⟩ := t
  have HB0 := hid ((Below.refl w.heap.size w).alloc (Nat.le_refl _) (.cells #[.slice la ls.length lc, .int .i64 ev, .int .i64 lm, .bool ho, .slice ra qs.length rc] 25))
  have HW0 := hid (heap_alloc_new w (.cells #[.slice la ls.length lc, .int .i64 ev, .int .i64 lm, .bool ho, .slice ra qs.length rc] 25))
  have HR := hid hr
  have HF := hid hf
  clear hr hf
  go_enter Tryz.func4, Tryz.ntmps4
  go_wp2_with fail
  refine (Lab.f5g la ls.length lc 1048576 ls _ (by omega) (by omega) rfl (HR.out.lab.below HB0.out) HF.out.lab HF.out.ln).mono ?_
  rintro e w1 ⟨y, rfl, hy, y0, y1, hb1⟩
  have HB1 := hid (HB0.out.trans (hb1.mono HB0.out.size))
  have HW1 := hid (kept HW0.out hb1)
  clear hb1 HW0
  by_cases g0 : y < 0
  · go_wp2
    go_ret
    exact ⟨-1, rfl, fun h => absurd h (by omega), HB1.out⟩
  have HY := hid (hy (by omega))
  clear hy
  obtain ⟨b0, b1, b2, b3, b4⟩ := cells5 HW1.out
  go_wp2_with fail
  refine (Rul.f15 ra qs.length rc y qs _ (by omega) y1 rfl (HR.out.rul.below HB1.out) HF.out.rul HF.out.qn).mono ?_
  rintro e w2 ⟨z, rfl, hz, z0, z1, hb2⟩
  have HB2 := hid (HB1.out.trans (hb2.mono HB1.out.size))
  clear hb2 b0 b1 b2 b3 b4
  by_cases g1 : z < 0
  · go_wp2
    go_ret
    exact ⟨-1, rfl, fun h => absurd h (by omega), HB2.out⟩
  have HZ := hid (hz (by omega))
  clear hz
  go_wp2
  go_ret
  exact ⟨z, rfl, fun _ => ⟨HY.out, HZ.out.1, HZ.out.2⟩, HB2.out⟩

/-- Two targets in their boxes. -/
structure Tw (w : World) (t t' : Tg) (x : World) : Prop where
  one : x.heap[w.heap.size]? = some (.cells (clT t) 33)
  two : x.heap[w.heap.size + 1]? = some (.cells (clT t') 33)
  has : Has x t
  has' : Has x t'
  bel : Below w.heap.size w x
theorem Tw.below {w : World} {t t' : Tg} {x y : World} (h : Tw w t t' x) (hb : Below x.heap.size x y) : Tw w t t' y := ⟨kept h.one hb, kept h.two hb, h.has.below hb, h.has'.below hb, h.bel.trans (hb.mono h.bel.size)⟩
set_option maxHeartbeats 2000000 in
theorem f11 (t t' : Tg) (w : World) (hr : Has w t) (hr' : Has w t') (hs : Same t t') (hz : Sml t) :
    Calls Tryz.prog 11 #[agT t, agT t'] w fun e w' => e = .returned (.bool true) ∧ Below w.heap.size w w' := by
  obtain ⟨ls, la, lc, ev, lm, ho, qs, ra, rc⟩ := t
  obtain ⟨ls', la', lc', ev', lm', ho', qs', ra', rc'⟩ := t'
  obtain ⟨s1, s2, s3, s4, s5, s6⟩ := hs
  simp only at s1 s2 s3 s4 s5
  subst s1 s2 s3 s4
  have H0 : Hid (Tw w ⟨ls', la, lc, ev', lm', ho', qs, ra, rc⟩ ⟨ls', la', lc', ev', lm', ho', qs', ra', rc'⟩ ((w.alloc (.cells (clT ⟨ls', la, lc, ev', lm', ho', qs, ra, rc⟩) 33)).alloc (.cells (clT ⟨ls', la', lc', ev', lm', ho', qs', ra', rc'⟩) 33))) := by
    have hb := ((Below.refl w.heap.size w).alloc (Nat.le_refl _) (.cells (clT ⟨ls', la, lc, ev', lm', ho', qs, ra, rc⟩) 33)).alloc (by simp) (.cells (clT ⟨ls', la', lc', ev', lm', ho', qs', ra', rc'⟩) 33)
    refine ⟨?_, ?_, hr.below hb, hr'.below hb, hb⟩
    · exact kept (heap_alloc_new w _) ((Below.refl _ _).alloc (Nat.le_refl _) _)
    · have := heap_alloc_new (w.alloc (.cells (clT ⟨ls', la, lc, ev', lm', ho', qs, ra, rc⟩) 33)) (.cells (clT ⟨ls', la', lc', ev', lm', ho', qs', ra', rc'⟩) 33)
      simp only [World.size_alloc] at this
      exact this
  have HZ := hid hz
  have HS6 := hid s6
  have HS5 := hid s5
  clear hr hr' hz s6
  go_enter Tryz.func11, Tryz.ntmps11
  go_wp2_with fail
  refine (Lab.f10 la la' ls'.length lc lc' ls' _ rfl HZ.out.ln H0.out.has.lab H0.out.has'.lab).mono ?_
  rintro e w2 ⟨rfl, hb2⟩
  have H2 := hid (H0.out.below hb2)
  clear hb2 H0
  obtain ⟨b0, b1, b2, b3, b4⟩ := cells5 H2.out.one
  obtain ⟨c0, c1, c2, c3, c4⟩ := cells5 H2.out.two
  rw [show (⟨ls', la', lc', ev', lm', ho', qs', ra', rc'⟩ : Tg).qs.length = qs.length from s5] at c4
  have hho : (ho' != ho') = false := by simp
  go_wp2_with fail
  refine (Rul.f26 ra ra' qs.length rc rc' qs qs' _ rfl HS5.out HZ.out.qn H2.out.has.rul H2.out.has'.rul HS6.out HZ.out.rul).mono ?_
  rintro e w3 ⟨rfl, hb3⟩
  have H3 := hid (H2.out.below hb3)
  clear hb3 H2 b0 b1 b2 b3 b4 c0 c1 c2 c3 c4
  go_wp2
  go_ret
  exact ⟨rfl, H3.out.bel⟩
end Go.Proofs.YtcknlidbjnmbjaaGreatDoor.Tgt
/- Lists of rules: toRelabelS. -/
namespace Go.Proofs.YtcknlidbjnmbjaaGreatDoor.Rul
open Go.RowKit Go.Proofs.YtcknlidbjnmbjaaGreatDoor.Fil Go.Proofs.YtcknlidbjnmbjaaGreatDoor.Rel

/-- Cells written one behind the other. -/
def putN (w : World) (b o : Nat) : List Value → World
  | [] => w
  | v :: vs => putN (w.setCell ⟨b, o, none⟩ v) b (o + 1) vs
theorem putN_own {base e size g n c : Nat} : ∀ (vs : List Value) (w : World) (o : Nat) (xs : List Value), w.ownsRow base e size (.slice (some ⟨g, 0, none⟩) n c) n xs → (putN w g o vs).ownsRow base e size (.slice (some ⟨g, 0, none⟩) n c) n (setN xs o vs) := by
  intro vs
  induction vs with
  | nil => intro w o xs h; exact h
  | cons v vs ih => intro w o xs h; exact ih _ _ _ (h.stored o v).1
theorem putN_below {B g : Nat} {w0 : World} (hg : B ≤ g) : ∀ (vs : List Value) (w : World) (o : Nat), Below B w0 w → Below B w0 (putN w g o vs) := by
  intro vs
  induction vs with
  | nil => intro w o h; exact h
  | cons v vs ih => intro w o h; exact ih _ _ (h.setCell hg v)
theorem putN_texts {g : Nat} {a : Option Addr} {ss : List ByteArray} (hp : ∀ x, a = some x → x.block ≠ g) : ∀ (vs : List Value) (w : World) (o : Nat), HasT w a ss → HasT (putN w g o vs) a ss := by
  intro vs
  induction vs with
  | nil => intro w o h; exact h
  | cons v vs ih => intro w o h; exact ih _ _ (HasT.set h hp)
theorem putN_block {g j : Nat} (hj : j ≠ g) : ∀ (vs : List Value) (w : World) (o : Nat), (putN w g o vs).heap[j]? = w.heap[j]? := by
  intro vs
  induction vs with
  | nil => intro w o; rfl
  | cons v vs ih => intro w o; exact (ih _ _).trans (Below.heap_setCell _ _ _ _ hj)
theorem putN_size {g : Nat} : ∀ (vs : List Value) (w : World) (o : Nat), (putN w g o vs).heap.size = w.heap.size := by
  intro vs
  induction vs with
  | nil => intro w o; rfl
  | cons v vs ih => intro w o; exact (ih _ _).trans (by simp)
theorem putN_cell {g : Nat} {p : Addr} (hj : p.block ≠ g) (vs : List Value) (w : World) (o : Nat) : (putN w g o vs).cell? p = w.cell? p := by
  simp only [World.cell?, putN_block hj]
theorem putN_rules {g : Nat} {a : Option Addr} {qs : List Q} (hp : ∀ x, a = some x → x.block ≠ g) (hq : ∀ i, i < qs.length → ∀ x, (qs.getD i q0).a = some x → x.block ≠ g) (vs : List Value) (w : World) (o : Nat) (h : HasR w a qs) : HasR (putN w g o vs) a qs := by
  rcases h with h | ⟨b, off, rfl, h2, h3⟩
  · exact .inl h
  · refine .inr ⟨b, off, rfl, by rw [putN_size]; exact h2, fun i hi => ⟨fun j hj => ?_, putN_texts (hq i hi) vs _ _ (h3 i hi).2⟩⟩
    rw [putN_cell (p := ⟨b, off + i * 7 + j, none⟩) (hp ⟨b, off, none⟩ rfl)]
    exact (h3 i hi).1 j hj
theorem made_seven (n : Nat) : (madeCells #[.int .i64 0, .slice none 0 0, .string ByteArray.empty, .string ByteArray.empty, .string ByteArray.empty, .string ByteArray.empty, .int .i64 0] (n * 7)).toList = flat (List.replicate n q0) := by
  apply List.ext_getElem?
  intro j
  rw [flat_at, List.length_replicate]
  by_cases hj : j < n * 7
  · rw [if_pos hj]
    have h2 : (List.replicate n q0).getD (j / 7) q0 = q0 := by
      rw [List.getD_eq_getElem?_getD, List.getElem?_replicate]; split <;> rfl
    rw [h2]
    have h7 : j % 7 = 0 ∨ j % 7 = 1 ∨ j % 7 = 2 ∨ j % 7 = 3 ∨ j % 7 = 4 ∨ j % 7 = 5 ∨ j % 7 = 6 := by omega
    unfold madeCells
    simp [hj]
    rcases h7 with h | h | h | h | h | h | h <;> rw [h] <;> rfl
  · rw [if_neg hj, List.getElem?_eq_none (by simp [size_madeCells]; omega)]
theorem info7 : (Tryz.prog.info? 63).map (fun i => (i.zero, i.size, i.bytes)) = some (some (.agg #[.int .i64 0, .slice none 0 0, .string ByteArray.empty, .string ByteArray.empty, .string ByteArray.empty, .string ByteArray.empty, .int .i64 0]), 7, 104) := by kernel_rfl
theorem step_set (d : List Q) (n k : Nat) (q : Q) (hd : d.length = k) (hk : k < n) : (d ++ List.replicate (n - k) q0).set k q = (d ++ [q]) ++ List.replicate (n - (k + 1)) q0 := by
  rw [List.set_append_right _ _ (by omega), hd, Nat.sub_self, show n - k = (n - (k + 1)) + 1 from by omega, List.replicate_succ, List.set_cons_zero, List.append_assoc]
  rfl
/-- The rules that are made by now: the same rules, their names in memory of their own. -/
structure Dn (qs : List Q) (B k : Nat) (d : List Q) (w : World) : Prop where
  len : d.length = k
  same : ∀ i, i < k → (d.getD i q0).r = (qs.getD i q0).r
  txt : ∀ i, i < k → HasT w (d.getD i q0).a (d.getD i q0).r.from'
  off : ∀ i, i < k → ∀ x, (d.getD i q0).a = some x → B < x.block
theorem Dn.below {qs d : List Q} {B k : Nat} {w w' : World} (h : Dn qs B k d w) (hb : Below w.heap.size w w') : Dn qs B k d w' := ⟨h.len, h.same, fun i hi => (h.txt i hi).below hb, h.off⟩
theorem Dn.put {qs d : List Q} {B k o : Nat} {w : World} (h : Dn qs B k d w) (vs : List Value) : Dn qs B k d (putN w B o vs) := ⟨h.len, h.same, fun i hi => putN_texts (fun x e => Nat.ne_of_gt (h.off i hi x e)) vs _ _ (h.txt i hi), h.off⟩
theorem getD_snoc (d : List Q) (q : Q) (i : Nat) : (d ++ [q]).getD i q0 = if i = d.length then q else d.getD i q0 := by
  rw [List.getD_eq_getElem?_getD, List.getD_eq_getElem?_getD]
  by_cases h : i < d.length
  · rw [List.getElem?_append_left h, if_neg (by omega)]
  · rw [List.getElem?_append_right (by omega)]
    by_cases e : i = d.length
    · rw [if_pos e, e, Nat.sub_self]; rfl
    · rw [if_neg e, List.getElem?_eq_none (by simp; omega), List.getElem?_eq_none (by omega)]
theorem Dn.snoc {qs d : List Q} {B k : Nat} {w : World} {q : Q} (h : Dn qs B k d w) (h1 : q.r = (qs.getD k q0).r) (h2 : HasT w q.a q.r.from') (h3 : ∀ x, q.a = some x → B < x.block) : Dn qs B (k + 1) (d ++ [q]) w := by
  have hl := h.len
  refine ⟨by simp [hl], fun i hi => ?_, fun i hi => ?_, fun i hi => ?_⟩
  all_goals
    rw [getD_snoc]
    by_cases e : i = d.length
    · rw [if_pos e]
      first | exact h2 | exact h3 | (rw [e, hl]; exact h1)
    · rw [if_neg e]
      first | exact h.same i (by omega) | exact h.txt i (by omega) | exact h.off i (by omega)

set_option maxHeartbeats 2000000 in
theorem f20 (a : Option Addr) (n c : Nat) (qs : List Q) (w : World) (hn : qs.length = n) (hb : n ≤ 1048576) (hr : HasR w a qs) (hz : SmlQ qs) :
    Calls Tryz.prog 20 #[.slice a n c] w fun e w' => ∃ qs' : List Q, e = .returned (.slice (some ⟨w.heap.size, 0, none⟩) n n) ∧ qs'.length = n ∧ (∀ i, i < n → (qs'.getD i q0).r = (qs.getD i q0).r) ∧ (∀ i, i < n → ∀ x, (qs'.getD i q0).a = some x → w.heap.size < x.block) ∧ HasR w' (some ⟨w.heap.size, 0, none⟩) qs' ∧ Below w.heap.size w w' := by
  obtain ⟨i0, hi, hz0, hz1, hz2⟩ := info_parts info7
  have HN := hid hn
  have HR := hid hr
  have HZ := hid hz
  clear hn hr hz
  go_enter Tryz.func20, Tryz.ntmps20
  go_wp2_with (at_make; refine wpList_make_full _ rfl _ _ 31 rfl w.heap.size 63 i0 (.agg #[.int .i64 0, .slice none 0 0, .string ByteArray.empty, .string ByteArray.empty, .string ByteArray.empty, .string ByteArray.empty, .int .i64 0]) 7 Tryz.underlying31 hi hz0 hz1 _ _ _ _ n rfl rfl rfl rfl ?b2 ?b3 (Nat.le_refl _) ?_)
  case b2 => rw [hz2]; omega
  case b3 => unfold maxLen; omega
  intro w0 hown0 hgrow0
  have hown1 : Hid (w0.ownsRow w.heap.size 63 7 (.slice (some ⟨w.heap.size, 0, none⟩) n n) n (flat (List.replicate n q0))) := by
    rw [← made_seven]; exact hown0
  have hb0 := hid ((Below.refl w.heap.size w).grown hgrow0 (Nat.le_refl _) (fun k h => by cases h))
  clear hown0 hgrow0
  go_wp2
  go_loopw [4] (fun i wr => ∃ (k : Nat) (d : List Q), k ≤ n ∧ i = .int .i64 k ∧ Hid (Dn qs w.heap.size k d wr) ∧ Hid (wr.ownsRow w.heap.size 63 7 (.slice (some ⟨w.heap.size, 0, none⟩) n n) n (flat (d ++ List.replicate (n - k) q0))) ∧ Hid (Below w.heap.size w wr))
    (fun i _ => n - (intOf i).toNat)
  case atStart => exact ⟨0, [], Nat.zero_le _, rfl, ⟨rfl, fun i hi => by omega, fun i hi => by omega, fun i hi => by omega⟩, by unfold Hid; simpa using hown1.out, hb0.out⟩
  case round =>
    obtain ⟨k, d, hk, rfl, HD, HO, HX⟩ := hrel
    by_cases hlt : k < n
    · obtain ⟨b, off, rfl, hbl, c0, c1, c2, c3, c4, c5, c6, hT⟩ := (HR.out).at7 k (by rw [HN.out]; exact hlt)
      have d0 := (HX.out.cell (p := ⟨b, off + k * 7, none⟩) hbl).trans c0
      have d1 := (HX.out.cell (p := ⟨b, off + k * 7 + 1, none⟩) hbl).trans c1
      have d2 := (HX.out.cell (p := ⟨b, off + k * 7 + 2, none⟩) hbl).trans c2
      have d3 := (HX.out.cell (p := ⟨b, off + k * 7 + 3, none⟩) hbl).trans c3
      have d4 := (HX.out.cell (p := ⟨b, off + k * 7 + 4, none⟩) hbl).trans c4
      have d5 := (HX.out.cell (p := ⟨b, off + k * 7 + 5, none⟩) hbl).trans c5
      have d6 := (HX.out.cell (p := ⟨b, off + k * 7 + 6, none⟩) hbl).trans c6
      have HT := hid (hT.below HX.out)
      have HS := hid ((HZ.out k (by rw [HN.out]; exact hlt)).n)
      obtain ⟨q, hq⟩ : ∃ q, q = qs.getD k q0 := ⟨_, rfl⟩
      have HQ := hid hq
      rw [← hq] at d0 d1 d2 d3 d4 d5 d6 HT HS
      clear c0 c1 c2 c3 c4 c5 c6 hT hbl hq
      obtain ⟨r, aq, cq⟩ := q
      go_wp2_with fail
      refine (f37 r aq r.from'.length cq _ rfl HT.out HS.out).mono ?_
      rintro e w2 ⟨g, rfl, hg, hT2, hb2⟩
      have HD2 := hid (HD.out.below hb2)
      have HO2 := hid (own_below HO.out hb2)
      have HX2 := hid (HX.out.trans (hb2.mono HX.out.size))
      have HT2 := hid hT2
      have HGB : Hid (w.heap.size < g) := by
        have h1 := (HO.out.lt w.heap.size rfl).2
        unfold Hid; omega
      have HL : Hid ((d ++ List.replicate (n - k) q0).length = n) := by unfold Hid; have := HD.out.len; simp; omega
      have HZQ : Hid ((d ++ List.replicate (n - k) q0).getD k q0 = q0) := by
        unfold Hid
        rw [List.getD_eq_getElem?_getD, List.getElem?_append_right (by have := HD.out.len; omega), List.getElem?_replicate]
        split <;> rfl
      have fz := fun j => HO2.out.frozenAt (k * 7 + j)
      have cz : ∀ j, j < 7 → w2.cell? ⟨w.heap.size, k * 7 + j, none⟩ = (cl q0)[j]? := fun j hj => by
        rw [HO2.out.cellAt (k * 7 + j) (by omega), flat_get _ k j (by rw [HL.out]; exact hlt) hj, HZQ.out]
      have z0 : w2.cell? ⟨w.heap.size, k * 7, none⟩ = some (.int .i64 0) := cz 0 (by omega)
      have z1 : w2.cell? ⟨w.heap.size, k * 7 + 1, none⟩ = some (.slice none 0 0) := cz 1 (by omega)
      have z2 : w2.cell? ⟨w.heap.size, k * 7 + 2, none⟩ = some (.string ⟨#[]⟩) := cz 2 (by omega)
      have z3 : w2.cell? ⟨w.heap.size, k * 7 + 3, none⟩ = some (.string ⟨#[]⟩) := cz 3 (by omega)
      have z4 : w2.cell? ⟨w.heap.size, k * 7 + 4, none⟩ = some (.string ⟨#[]⟩) := cz 4 (by omega)
      have z5 : w2.cell? ⟨w.heap.size, k * 7 + 5, none⟩ = some (.string ⟨#[]⟩) := cz 5 (by omega)
      have z6 : w2.cell? ⟨w.heap.size, k * 7 + 6, none⟩ = some (.int .i64 0) := cz 6 (by omega)
      have f0 : w2.frozen? ⟨w.heap.size, k * 7, none⟩ = false := fz 0
      have f1 := fz 1
      have f2 := fz 2
      have f3 := fz 3
      have f4 := fz 4
      have f5 := fz 5
      have f6 := fz 6
      have HE : Hid (∀ wz, wz = putN w2 w.heap.size (k * 7) (cl ⟨r, some ⟨g, 0, none⟩, r.from'.length⟩) → Dn qs w.heap.size (k + 1) (d ++ [⟨r, some ⟨g, 0, none⟩, r.from'.length⟩]) wz ∧ wz.ownsRow w.heap.size 63 7 (.slice (some ⟨w.heap.size, 0, none⟩) n n) n (flat ((d ++ [⟨r, some ⟨g, 0, none⟩, r.from'.length⟩]) ++ List.replicate (n - (k + 1)) q0)) ∧ Below w.heap.size w wz) := by
        rintro wz rfl
        have hnb : ∀ x, (some ⟨g, 0, none⟩ : Option Addr) = some x → w.heap.size < x.block := by rintro x e; cases e; exact HGB.out
        refine ⟨(HD2.out.put _).snoc (by show r = _; rw [← HQ.out]) (putN_texts (fun x e => Nat.ne_of_gt (hnb x e)) _ _ _ HT2.out) hnb, ?_, putN_below (Nat.le_refl _) _ _ _ HX2.out⟩
        rw [← step_set d n k _ HD2.out.len hlt, ← flat_set _ k _ (by rw [HL.out]; exact hlt)]
        exact putN_own _ _ _ _ HO2.out
      clear hT2 hb2 hg fz cz HO HD HT HO2 HD2 HX2 HT2 HX d0 d1 d2 d3 d4 d5 d6
      go_wp2
      go_roundw
      case rel =>
        obtain ⟨e1, e2, e3⟩ := HE.out _ rfl
        exact ⟨k + 1, _, by omega, by go_num, e1, e2, e3⟩
      case measure => simp [intOf]; omega
    · obtain rfl : k = n := by omega
      have HE : Hid (∃ qs' : List Q, qs'.length = k ∧ (∀ i, i < k → (qs'.getD i q0).r = (qs.getD i q0).r) ∧ (∀ i, i < k → ∀ x, (qs'.getD i q0).a = some x → w.heap.size < x.block) ∧ HasR wr (some ⟨w.heap.size, 0, none⟩) qs') := by
        have h := HO.out
        rw [Nat.sub_self, List.replicate_zero, List.append_nil] at h
        exact ⟨d, HD.out.len, HD.out.same, HD.out.off, own_rows h (fun i hi => HD.out.txt i (by rw [← HD.out.len]; exact hi))⟩
      go_wp2
      go_ret
      obtain ⟨qs', e1, e2, e4, e3⟩ := HE.out
      exact ⟨qs', rfl, e1, e2, e4, e3, HX.out⟩
end Go.Proofs.YtcknlidbjnmbjaaGreatDoor.Rul
/- Targets: toTarget. -/
namespace Go.Proofs.YtcknlidbjnmbjaaGreatDoor.Tgt
open Go.RowKit Go.Proofs.YtcknlidbjnmbjaaGreatDoor.Fil Go.Proofs.YtcknlidbjnmbjaaGreatDoor.Rul
open Go.Proofs.YtcknlidbjnmbjaaGreatDoor.Lab (Lb HasL)

theorem putN_labels {g : Nat} {a : Option Addr} {ls : List Lb} (hp : ∀ x, a = some x → x.block ≠ g) (vs : List Value) (w : World) (o : Nat) (h : HasL w a ls) : HasL (putN w g o vs) a ls := by
  rcases h with h | ⟨b, off, rfl, h2, h3⟩
  · exact .inl h
  · refine .inr ⟨b, off, rfl, by rw [putN_size]; exact h2, fun i hi => ?_⟩
    rw [putN_cell (p := ⟨b, off + i * 2, none⟩) (hp ⟨b, off, none⟩ rfl), putN_cell (p := ⟨b, off + i * 2 + 1, none⟩) (hp ⟨b, off, none⟩ rfl)]
    exact h3 i hi
theorem five_set {w : World} {b : Nat} {x0 x1 x2 x3 x4 : Value} {t : TypeId} (h : w.heap[b]? = some (.cells #[x0, x1, x2, x3, x4] t)) (i : Nat) (v : Value) : (w.setCell ⟨b, i, none⟩ v).heap[b]? = some (.cells (#[x0, x1, x2, x3, x4].setIfInBounds i v) t) := by
  have hlt := lt_at h
  have h' : w.heap[b] = .cells #[x0, x1, x2, x3, x4] t := by simpa [Array.getElem?_eq_getElem hlt] using h
  show (w.heap.modify b _)[b]? = _
  rw [Array.getElem?_eq_getElem (by simpa using hlt), Array.getElem_modify_self, h']
  rfl
theorem five4 {w : World} {b : Nat} {x0 x1 x2 x3 x4 : Value} {t : TypeId} (h : w.heap[b]? = some (.cells #[x0, x1, x2, x3, x4] t)) (y0 y1 y2 y3 : Value) : (putN w b 0 [y0, y1, y2, y3]).heap[b]? = some (.cells #[y0, y1, y2, y3, x4] t) :=
  five_set (x2 := y2) (five_set (x1 := y1) (five_set (x0 := y0) (five_set h 0 y0) 1 y1) 2 y2) 3 y3
theorem five5 {w : World} {b : Nat} {x0 x1 x2 x3 x4 : Value} {t : TypeId} (h : w.heap[b]? = some (.cells #[x0, x1, x2, x3, x4] t)) (y0 y1 y2 y3 y4 : Value) : (putN w b 0 [y0, y1, y2, y3, y4]).heap[b]? = some (.cells #[y0, y1, y2, y3, y4] t) :=
  five_set (x3 := y3) (five_set (x2 := y2) (five_set (x1 := y1) (five_set (x0 := y0) (five_set h 0 y0) 1 y1) 2 y2) 3 y3) 4 y4
abbrev Z5 : Obj := .cells #[.slice none 0 0, .int .i64 0, .int .i64 0, .bool false, .slice none 0 0] 33
set_option maxHeartbeats 4000000 in
theorem f7 (t : Tg) (w : World) (hr : Has w t) (hz : Sml t) :
    Calls Tryz.prog 7 #[agT t] w fun e w' => ∃ t' : Tg, e = .returned (agT t') ∧ Same t t' ∧ Has w' t' ∧ Below w.heap.size w w' := by
  obtain ⟨ls, la, lc, ev, lm, ho, qs, ra, rc⟩ := t
  have HR := hid hr
  have HZ := hid hz
  clear hr hz
  obtain ⟨W, hW⟩ : ∃ W, W = ((w.alloc (.cells (clT ⟨ls, la, lc, ev, lm, ho, qs, ra, rc⟩) 25)).alloc Z5).alloc Z5 := ⟨_, rfl⟩
  have HWb : Hid (Below w.heap.size w W ∧ W.heap[w.heap.size]? = some (.cells (clT ⟨ls, la, lc, ev, lm, ho, qs, ra, rc⟩) 25) ∧ W.heap[w.heap.size + 1]? = some Z5 ∧ W.heap[w.heap.size + 1 + 1]? = some Z5 ∧ W.heap.size = w.heap.size + 1 + 1 + 1) := by
    subst hW
    obtain ⟨k1, k2, k3⟩ := Rel.three_new w (.cells (clT ⟨ls, la, lc, ev, lm, ho, qs, ra, rc⟩) 25) Z5 Z5
    exact ⟨(((Below.refl w.heap.size w).alloc (Nat.le_refl _) _).alloc (by simp) _).alloc (by simp; omega) _, k1, k2, k3, by simp⟩
  go_enter Tryz.func7, Tryz.ntmps7
  go_wp2_with fail
  rw [← hW]
  refine (Lab.f8 la ls.length lc ls _ rfl HZ.out.ln (HR.out.lab.below HWb.out.1)).mono ?_
  rintro e w1 ⟨rfl, ho1, hb1⟩
  have HL1 := hid (Lab.HasL.own ho1)
  have HB1 := hid (HWb.out.1.trans (hb1.mono HWb.out.1.size))
  have HA1 := hid (kept HWb.out.2.1 hb1)
  have HC1 := hid (kept HWb.out.2.2.2.1 hb1)
  have HD1 := hid (kept HWb.out.2.2.1 hb1)
  have HSZ := hid HWb.out.2.2.2.2
  clear ho1 hb1 hW HWb
  generalize hWS : W.heap.size = S at *
  clear hWS
  obtain ⟨b0, b1, b2, b3, b4⟩ := cells5 HA1.out
  obtain ⟨c0, c1, c2, c3, c4⟩ := cells5 HC1.out
  have rf0 := five_frz (o := 0) HC1.out
  have rf1 := five_frz (o := 1) HC1.out
  have rf2 := five_frz (o := 2) HC1.out
  have rf3 := five_frz (o := 3) HC1.out
  go_wp2_with fail
  have hsz := HSZ.out
  obtain ⟨w2, hw2⟩ : ∃ w2, w2 = putN w1 (w.heap.size + 1 + 1) 0 [.slice (some ⟨S, 0, none⟩) ls.length ls.length, .int .i64 ev, .int .i64 lm, .bool ho] := ⟨_, rfl⟩
  have HB2 : Hid (Below w.heap.size w w2) := by rw [hw2]; exact putN_below (by omega) _ _ _ HB1.out
  have HC2 : Hid (w2.heap[w.heap.size + 1 + 1]? = some (.cells #[.slice (some ⟨S, 0, none⟩) ls.length ls.length, .int .i64 ev, .int .i64 lm, .bool ho, .slice none 0 0] 33)) := by rw [hw2]; exact five4 HC1.out _ _ _ _
  have HD2 : Hid (w2.heap[w.heap.size + 1]? = some Z5) := by rw [hw2]; exact (putN_block (by omega) _ _ _).trans HD1.out
  have HL2 : Hid (HasL w2 (some ⟨S, 0, none⟩) ls) := by rw [hw2]; exact putN_labels (by rintro x e; cases e; simp only; omega) _ _ _ HL1.out
  have hS2 : S ≤ w2.heap.size := by
    rcases HL1.out with h | ⟨b, off, h1, h2, _⟩
    · rw [hw2, putN_size]; exact Nat.le_trans (by omega) (lt_at HC1.out)
    · rw [hw2, putN_size]; cases h1; omega
  show Calls Tryz.prog 20 _ (putN w1 (w.heap.size + 1 + 1) 0 [.slice (some ⟨S, 0, none⟩) ls.length ls.length, .int .i64 ev, .int .i64 lm, .bool ho]) _
  rw [← hw2]
  refine (Rul.f20 ra qs.length rc qs w2 rfl HZ.out.qn (HR.out.rul.below HB2.out) HZ.out.rul).mono ?_
  rintro e w3 ⟨qs', rfl, hn3, hs3, ha3, hr3, hb3⟩
  have HB3 := hid (HB2.out.trans (hb3.mono HB2.out.size))
  have HC3 := hid (kept HC2.out hb3)
  have HD3 := hid (kept HD2.out hb3)
  have HL3 := hid (HL2.out.below hb3)
  have HR3 := hid hr3
  have HS3 := hid hs3
  have HA3 := hid ha3
  have HN3 := hid hn3
  have hlt2 : w.heap.size + 1 + 1 < w2.heap.size := lt_at HC2.out
  clear hb3 hr3 hs3 ha3 hn3 HC2 HD2 HL2 HL1 HB1 HA1 HC1 HD1 b0 b1 b2 b3 b4 c0 c1 c2 c3 c4 rf0 rf1 rf2 rf3 hw2 HB2 hsz
  generalize hWS : w2.heap.size = S2 at *
  clear hWS
  obtain ⟨c0, c1, c2, c3, c4⟩ := cells5 HC3.out
  obtain ⟨z0, z1, z2, z3, z4⟩ := cells5 HD3.out
  have rf4 := five_frz (o := 4) HC3.out
  have rg0 := five_frz (o := 0) HD3.out
  have rg1 := five_frz (o := 1) HD3.out
  have rg2 := five_frz (o := 2) HD3.out
  have rg3 := five_frz (o := 3) HD3.out
  have rg4 := five_frz (o := 4) HD3.out
  have HE : Hid (∀ wf, wf = putN (w3.setCell ⟨w.heap.size + 1 + 1, 4, none⟩ (.slice (some ⟨S2, 0, none⟩) qs.length qs.length)) (w.heap.size + 1) 0 [.slice (some ⟨S, 0, none⟩) ls.length ls.length, .int .i64 ev, .int .i64 lm, .bool ho, .slice (some ⟨S2, 0, none⟩) qs.length qs.length] →
      wf.heap[w.heap.size + 1]? = some (.cells #[.slice (some ⟨S, 0, none⟩) ls.length ls.length, .int .i64 ev, .int .i64 lm, .bool ho, .slice (some ⟨S2, 0, none⟩) qs.length qs.length] 33) ∧ Has wf ⟨ls, some ⟨S, 0, none⟩, ls.length, ev, lm, ho, qs', some ⟨S2, 0, none⟩, qs.length⟩ ∧ Below w.heap.size w wf) := by
    rintro wf rfl
    have hsz := HSZ.out
    have e4 : w3.setCell ⟨w.heap.size + 1 + 1, 4, none⟩ (.slice (some ⟨S2, 0, none⟩) qs.length qs.length) = putN w3 (w.heap.size + 1 + 1) 4 [.slice (some ⟨S2, 0, none⟩) qs.length qs.length] := rfl
    have hq1 : ∀ g, g ≤ w.heap.size + 1 + 1 → ∀ x, (some ⟨S2, 0, none⟩ : Option Addr) = some x → x.block ≠ g := by rintro g hg x e; cases e; simp only; omega
    have hq0 : ∀ g, g ≤ w.heap.size + 1 + 1 → ∀ x, (some ⟨S, 0, none⟩ : Option Addr) = some x → x.block ≠ g := by rintro g hg x e; cases e; simp only; omega
    have hq2 : ∀ g, g ≤ w.heap.size + 1 + 1 → ∀ i, i < qs'.length → ∀ x, (qs'.getD i q0).a = some x → x.block ≠ g := fun g hg i hi x e => by
      have := HA3.out i (by rw [← HN3.out]; exact hi) x e; omega
    refine ⟨?_, ⟨?_, ?_⟩, ?_⟩
    · refine five5 (x0 := .slice none 0 0) (x1 := .int .i64 0) (x2 := .int .i64 0) (x3 := .bool false) (x4 := .slice none 0 0) ?_ _ _ _ _ _
      rw [e4, putN_block (by omega)]; exact HD3.out
    · rw [e4]; exact putN_labels (hq0 _ (by omega)) _ _ _ (putN_labels (hq0 _ (by omega)) _ _ _ HL3.out)
    · rw [e4]; exact putN_rules (hq1 _ (by omega)) (hq2 _ (by omega)) _ _ _ (putN_rules (hq1 _ (by omega)) (hq2 _ (by omega)) _ _ _ HR3.out)
    · rw [e4]; exact putN_below (by omega) _ _ _ (putN_below (by omega) _ _ _ HB3.out)
  go_wp2
  clear c0 c1 c2 c3 c4 z0 z1 z2 z3 z4 rf4 rg0 rg1 rg2 rg3 rg4
  generalize hwf : World.setCell _ _ _ = wf
  obtain ⟨hy, hh, hbl⟩ := HE.out wf hwf.symm
  obtain ⟨y0, y1, y2, y3, y4⟩ := cells5 hy
  have hsame : Same ⟨ls, la, lc, ev, lm, ho, qs, ra, rc⟩ ⟨ls, some ⟨S, 0, none⟩, ls.length, ev, lm, ho, qs', some ⟨S2, 0, none⟩, qs.length⟩ := ⟨rfl, rfl, rfl, rfl, HN3.out, HS3.out⟩
  refine bodyPost_ret (v := .agg #[.slice (some ⟨S, 0, none⟩) ls.length ls.length, .int .i64 ev, .int .i64 lm, .bool ho, .slice (some ⟨S2, 0, none⟩) qs.length qs.length]) ?_ rfl ⟨_, by rw [← HN3.out], hsame, hh, hbl⟩
  simp [results, Tryz.results7, go_sem, y0, y1, y2, y3, y4]
end Go.Proofs.YtcknlidbjnmbjaaGreatDoor.Tgt
