/- Lists of rules: toRelabelS. -/
import Derived.Test.YtooackaijhpohaaGreatDoorQb
import Derived.Test.YtooackaijhpohaaGreatDoorRb
namespace Go.Proofs.YtooackaijhpohaaGreatDoor.Rul
open Go.RowKit Go.Proofs.YtooackaijhpohaaGreatDoor.Fil Go.Proofs.YtooackaijhpohaaGreatDoor.Rel

/-- Cells written one behind the other. -/
def putN (w : World) (b o : Nat) : List Value → World
  | [] => w
  | v :: vs => putN (w.setCell ⟨b, o, none⟩ v) b (o + 1) vs
theorem putN_own {base e size g n c : Nat} : ∀ (vs : List Value) (w : World) (o : Nat) (xs : List Value), w.ownsRow base e size (.slice (some ⟨g, 0, none⟩) n c) n xs → (putN w g o vs).ownsRow base e size (.slice (some ⟨g, 0, none⟩) n c) n (setN xs o vs) := by
  intro vs
  induction vs with
  | nil => intro w o xs h; exact h
  | cons v vs ih => intro w o xs h; exact ih _ _ _ (h.stored o v).1
theorem putN_below {B g : Nat} {w0 : World} (hg : B ≤ g) : ∀ (vs : List Value) (w : World) (o : Nat), Below B w0 w → Below B w0 (putN w g o vs) := by
  intro vs
  induction vs with
  | nil => intro w o h; exact h
  | cons v vs ih => intro w o h; exact ih _ _ (h.setCell hg v)
theorem putN_texts {g : Nat} {a : Option Addr} {ss : List ByteArray} (hp : ∀ x, a = some x → x.block ≠ g) : ∀ (vs : List Value) (w : World) (o : Nat), HasT w a ss → HasT (putN w g o vs) a ss := by
  intro vs
  induction vs with
  | nil => intro w o h; exact h
  | cons v vs ih => intro w o h; exact ih _ _ (HasT.set h hp)
theorem putN_block {g j : Nat} (hj : j ≠ g) : ∀ (vs : List Value) (w : World) (o : Nat), (putN w g o vs).heap[j]? = w.heap[j]? := by
  intro vs
  induction vs with
  | nil => intro w o; rfl
  | cons v vs ih => intro w o; exact (ih _ _).trans (Below.heap_setCell _ _ _ _ hj)
theorem putN_size {g : Nat} : ∀ (vs : List Value) (w : World) (o : Nat), (putN w g o vs).heap.size = w.heap.size := by
  intro vs
  induction vs with
  | nil => intro w o; rfl
  | cons v vs ih => intro w o; exact (ih _ _).trans (by simp)
theorem putN_cell {g : Nat} {p : Addr} (hj : p.block ≠ g) (vs : List Value) (w : World) (o : Nat) : (putN w g o vs).cell? p = w.cell? p := by
  simp only [World.cell?, putN_block hj]
theorem putN_rules {g : Nat} {a : Option Addr} {qs : List Q} (hp : ∀ x, a = some x → x.block ≠ g) (hq : ∀ i, i < qs.length → ∀ x, (qs.getD i q0).a = some x → x.block ≠ g) (vs : List Value) (w : World) (o : Nat) (h : HasR w a qs) : HasR (putN w g o vs) a qs := by
  rcases h with h | ⟨b, off, rfl, h2, h3⟩
  · exact .inl h
  · refine .inr ⟨b, off, rfl, by rw [putN_size]; exact h2, fun i hi => ⟨fun j hj => ?_, putN_texts (hq i hi) vs _ _ (h3 i hi).2⟩⟩
    rw [putN_cell (p := ⟨b, off + i * 7 + j, none⟩) (hp ⟨b, off, none⟩ rfl)]
    exact (h3 i hi).1 j hj
theorem made_seven (n : Nat) : (madeCells #[.int .i64 0, .slice none 0 0, .string ByteArray.empty, .string ByteArray.empty, .string ByteArray.empty, .string ByteArray.empty, .int .i64 0] (n * 7)).toList = flat (List.replicate n q0) := by
  apply List.ext_getElem?
  intro j
  rw [flat_at, List.length_replicate]
  by_cases hj : j < n * 7
  · rw [if_pos hj]
    have h2 : (List.replicate n q0).getD (j / 7) q0 = q0 := by
      rw [List.getD_eq_getElem?_getD, List.getElem?_replicate]; split <;> rfl
    rw [h2]
    have h7 : j % 7 = 0 ∨ j % 7 = 1 ∨ j % 7 = 2 ∨ j % 7 = 3 ∨ j % 7 = 4 ∨ j % 7 = 5 ∨ j % 7 = 6 := by omega
    unfold madeCells
    simp [hj]
    rcases h7 with h | h | h | h | h | h | h <;> rw [h] <;> rfl
  · rw [if_neg hj, List.getElem?_eq_none (by simp [size_madeCells]; omega)]
theorem info7 : (Tryz.prog.info? 65).map (fun i => (i.zero, i.size, i.bytes)) = some (some (.agg #[.int .i64 0, .slice none 0 0, .string ByteArray.empty, .string ByteArray.empty, .string ByteArray.empty, .string ByteArray.empty, .int .i64 0]), 7, 104) := by kernel_rfl
theorem step_set (d : List Q) (n k : Nat) (q : Q) (hd : d.length = k) (hk : k < n) : (d ++ List.replicate (n - k) q0).set k q = (d ++ [q]) ++ List.replicate (n - (k + 1)) q0 := by
  rw [List.set_append_right _ _ (by omega), hd, Nat.sub_self, show n - k = (n - (k + 1)) + 1 from by omega, List.replicate_succ, List.set_cons_zero, List.append_assoc]
  rfl
/-- The rules that are made by now: the same rules, their names in memory of their own. -/
structure Dn (qs : List Q) (B k : Nat) (d : List Q) (w : World) : Prop where
  len : d.length = k
  same : ∀ i, i < k → (d.getD i q0).r = (qs.getD i q0).r
  txt : ∀ i, i < k → HasT w (d.getD i q0).a (d.getD i q0).r.from'
  off : ∀ i, i < k → ∀ x, (d.getD i q0).a = some x → B < x.block
theorem Dn.below {qs d : List Q} {B k : Nat} {w w' : World} (h : Dn qs B k d w) (hb : Below w.heap.size w w') : Dn qs B k d w' := ⟨h.len, h.same, fun i hi => (h.txt i hi).below hb, h.off⟩
theorem Dn.put {qs d : List Q} {B k o : Nat} {w : World} (h : Dn qs B k d w) (vs : List Value) : Dn qs B k d (putN w B o vs) := ⟨h.len, h.same, fun i hi => putN_texts (fun x e => Nat.ne_of_gt (h.off i hi x e)) vs _ _ (h.txt i hi), h.off⟩
theorem getD_snoc (d : List Q) (q : Q) (i : Nat) : (d ++ [q]).getD i q0 = if i = d.length then q else d.getD i q0 := by
  rw [List.getD_eq_getElem?_getD, List.getD_eq_getElem?_getD]
  by_cases h : i < d.length
  · rw [List.getElem?_append_left h, if_neg (by omega)]
  · rw [List.getElem?_append_right (by omega)]
    by_cases e : i = d.length
    · rw [if_pos e, e, Nat.sub_self]; rfl
    · rw [if_neg e, List.getElem?_eq_none (by simp; omega), List.getElem?_eq_none (by omega)]
theorem Dn.snoc {qs d : List Q} {B k : Nat} {w : World} {q : Q} (h : Dn qs B k d w) (h1 : q.r = (qs.getD k q0).r) (h2 : HasT w q.a q.r.from') (h3 : ∀ x, q.a = some x → B < x.block) : Dn qs B (k + 1) (d ++ [q]) w := by
  have hl := h.len
  refine ⟨by simp [hl], fun i hi => ?_, fun i hi => ?_, fun i hi => ?_⟩
  all_goals
    rw [getD_snoc]
    by_cases e : i = d.length
    · rw [if_pos e]
      first | exact h2 | exact h3 | (rw [e, hl]; exact h1)
    · rw [if_neg e]
      first | exact h.same i (by omega) | exact h.txt i (by omega) | exact h.off i (by omega)

set_option maxHeartbeats 2000000 in
theorem f24 (a : Option Addr) (n c : Nat) (qs : List Q) (w : World) (hn : qs.length = n) (hb : n ≤ 1048576) (hr : HasR w a qs) (hz : SmlQ qs) :
    Calls Tryz.prog 24 #[.slice a n c] w fun e w' => ∃ qs' : List Q, e = .returned (.slice (some ⟨w.heap.size, 0, none⟩) n n) ∧ qs'.length = n ∧ (∀ i, i < n → (qs'.getD i q0).r = (qs.getD i q0).r) ∧ (∀ i, i < n → ∀ x, (qs'.getD i q0).a = some x → w.heap.size < x.block) ∧ HasR w' (some ⟨w.heap.size, 0, none⟩) qs' ∧ Below w.heap.size w w' := by
  obtain ⟨i0, hi, hz0, hz1, hz2⟩ := info_parts info7
  have HN := hid hn
  have HR := hid hr
  have HZ := hid hz
  clear hn hr hz
  go_enter Tryz.func24, Tryz.ntmps24
  go_wp2_with (at_make; refine wpList_make_full _ rfl _ _ 29 rfl w.heap.size 65 i0 (.agg #[.int .i64 0, .slice none 0 0, .string ByteArray.empty, .string ByteArray.empty, .string ByteArray.empty, .string ByteArray.empty, .int .i64 0]) 7 Tryz.underlying29 hi hz0 hz1 _ _ _ _ n rfl rfl rfl rfl ?b2 ?b3 (Nat.le_refl _) ?_)
  case b2 => rw [hz2]; omega
  case b3 => unfold maxLen; omega
  intro w0 hown0 hgrow0
  have hown1 : Hid (w0.ownsRow w.heap.size 65 7 (.slice (some ⟨w.heap.size, 0, none⟩) n n) n (flat (List.replicate n q0))) := by
    rw [← made_seven]; exact hown0
  have hb0 := hid ((Below.refl w.heap.size w).grown hgrow0 (Nat.le_refl _) (fun k h => by cases h))
  clear hown0 hgrow0
  go_wp2
  go_loopw [4] (fun i wr => ∃ (k : Nat) (d : List Q), k ≤ n ∧ i = .int .i64 k ∧ Hid (Dn qs w.heap.size k d wr) ∧ Hid (wr.ownsRow w.heap.size 65 7 (.slice (some ⟨w.heap.size, 0, none⟩) n n) n (flat (d ++ List.replicate (n - k) q0))) ∧ Hid (Below w.heap.size w wr))
    (fun i _ => n - (intOf i).toNat)
  case atStart => exact ⟨0, [], Nat.zero_le _, rfl, ⟨rfl, fun i hi => by omega, fun i hi => by omega, fun i hi => by omega⟩, by unfold Hid; simpa using hown1.out, hb0.out⟩
  case round =>
    obtain ⟨k, d, hk, rfl, HD, HO, HX⟩ := hrel
    by_cases hlt : k < n
    · obtain ⟨b, off, rfl, hbl, c0, c1, c2, c3, c4, c5, c6, hT⟩ := (HR.out).at7 k (by rw [HN.out]; exact hlt)
      have d0 := (HX.out.cell (p := ⟨b, off + k * 7, none⟩) hbl).trans c0
      have d1 := (HX.out.cell (p := ⟨b, off + k * 7 + 1, none⟩) hbl).trans c1
      have d2 := (HX.out.cell (p := ⟨b, off + k * 7 + 2, none⟩) hbl).trans c2
      have d3 := (HX.out.cell (p := ⟨b, off + k * 7 + 3, none⟩) hbl).trans c3
      have d4 := (HX.out.cell (p := ⟨b, off + k * 7 + 4, none⟩) hbl).trans c4
      have d5 := (HX.out.cell (p := ⟨b, off + k * 7 + 5, none⟩) hbl).trans c5
      have d6 := (HX.out.cell (p := ⟨b, off + k * 7 + 6, none⟩) hbl).trans c6
      have HT := hid (hT.below HX.out)
      have HS := hid ((HZ.out k (by rw [HN.out]; exact hlt)).n)
      obtain ⟨q, hq⟩ : ∃ q, q = qs.getD k q0 := ⟨_, rfl⟩
      have HQ := hid hq
      rw [← hq] at d0 d1 d2 d3 d4 d5 d6 HT HS
      clear c0 c1 c2 c3 c4 c5 c6 hT hbl hq
      obtain ⟨r, aq, cq⟩ := q
      go_wp2_with fail
      refine (f42 r aq r.from'.length cq _ rfl HT.out HS.out).mono ?_
      rintro e w2 ⟨g, rfl, hg, hT2, hb2⟩
      have HD2 := hid (HD.out.below hb2)
      have HO2 := hid (own_below HO.out hb2)
      have HX2 := hid (HX.out.trans (hb2.mono HX.out.size))
      have HT2 := hid hT2
      have HGB : Hid (w.heap.size < g) := by
        have h1 := (HO.out.lt w.heap.size rfl).2
        unfold Hid; omega
      have HL : Hid ((d ++ List.replicate (n - k) q0).length = n) := by unfold Hid; have := HD.out.len; simp; omega
      have HZQ : Hid ((d ++ List.replicate (n - k) q0).getD k q0 = q0) := by
        unfold Hid
        rw [List.getD_eq_getElem?_getD, List.getElem?_append_right (by have := HD.out.len; omega), List.getElem?_replicate]
        split <;> rfl
      have fz := fun j => HO2.out.frozenAt (k * 7 + j)
      have cz : ∀ j, j < 7 → w2.cell? ⟨w.heap.size, k * 7 + j, none⟩ = (cl q0)[j]? := fun j hj => by
        rw [HO2.out.cellAt (k * 7 + j) (by omega), flat_get _ k j (by rw [HL.out]; exact hlt) hj, HZQ.out]
      have z0 : w2.cell? ⟨w.heap.size, k * 7, none⟩ = some (.int .i64 0) := cz 0 (by omega)
      have z1 : w2.cell? ⟨w.heap.size, k * 7 + 1, none⟩ = some (.slice none 0 0) := cz 1 (by omega)
      have z2 : w2.cell? ⟨w.heap.size, k * 7 + 2, none⟩ = some (.string ⟨#[]⟩) := cz 2 (by omega)
      have z3 : w2.cell? ⟨w.heap.size, k * 7 + 3, none⟩ = some (.string ⟨#[]⟩) := cz 3 (by omega)
      have z4 : w2.cell? ⟨w.heap.size, k * 7 + 4, none⟩ = some (.string ⟨#[]⟩) := cz 4 (by omega)
      have z5 : w2.cell? ⟨w.heap.size, k * 7 + 5, none⟩ = some (.string ⟨#[]⟩) := cz 5 (by omega)
      have z6 : w2.cell? ⟨w.heap.size, k * 7 + 6, none⟩ = some (.int .i64 0) := cz 6 (by omega)
      have f0 : w2.frozen? ⟨w.heap.size, k * 7, none⟩ = false := fz 0
      have f1 := fz 1
      have f2 := fz 2
      have f3 := fz 3
      have f4 := fz 4
      have f5 := fz 5
      have f6 := fz 6
      have HE : Hid (∀ wz, wz = putN w2 w.heap.size (k * 7) (cl ⟨r, some ⟨g, 0, none⟩, r.from'.length⟩) → Dn qs w.heap.size (k + 1) (d ++ [⟨r, some ⟨g, 0, none⟩, r.from'.length⟩]) wz ∧ wz.ownsRow w.heap.size 65 7 (.slice (some ⟨w.heap.size, 0, none⟩) n n) n (flat ((d ++ [⟨r, some ⟨g, 0, none⟩, r.from'.length⟩]) ++ List.replicate (n - (k + 1)) q0)) ∧ Below w.heap.size w wz) := by
        rintro wz rfl
        have hnb : ∀ x, (some ⟨g, 0, none⟩ : Option Addr) = some x → w.heap.size < x.block := by rintro x e; cases e; exact HGB.out
        refine ⟨(HD2.out.put _).snoc (by show r = _; rw [← HQ.out]) (putN_texts (fun x e => Nat.ne_of_gt (hnb x e)) _ _ _ HT2.out) hnb, ?_, putN_below (Nat.le_refl _) _ _ _ HX2.out⟩
        rw [← step_set d n k _ HD2.out.len hlt, ← flat_set _ k _ (by rw [HL.out]; exact hlt)]
        exact putN_own _ _ _ _ HO2.out
      clear hT2 hb2 hg fz cz HO HD HT HO2 HD2 HX2 HT2 HX d0 d1 d2 d3 d4 d5 d6
      go_wp2
      go_roundw
      case rel =>
        obtain ⟨e1, e2, e3⟩ := HE.out _ rfl
        exact ⟨k + 1, _, by omega, by go_num, e1, e2, e3⟩
      case measure => simp [intOf]; omega
    · obtain rfl : k = n := by omega
      have HE : Hid (∃ qs' : List Q, qs'.length = k ∧ (∀ i, i < k → (qs'.getD i q0).r = (qs.getD i q0).r) ∧ (∀ i, i < k → ∀ x, (qs'.getD i q0).a = some x → w.heap.size < x.block) ∧ HasR wr (some ⟨w.heap.size, 0, none⟩) qs') := by
        have h := HO.out
        rw [Nat.sub_self, List.replicate_zero, List.append_nil] at h
        exact ⟨d, HD.out.len, HD.out.same, HD.out.off, own_rows h (fun i hi => HD.out.txt i (by rw [← HD.out.len]; exact hi))⟩
      go_wp2
      go_ret
      obtain ⟨qs', e1, e2, e4, e3⟩ := HE.out
      exact ⟨qs', rfl, e1, e2, e4, e3, HX.out⟩
end Go.Proofs.YtooackaijhpohaaGreatDoor.Rul
