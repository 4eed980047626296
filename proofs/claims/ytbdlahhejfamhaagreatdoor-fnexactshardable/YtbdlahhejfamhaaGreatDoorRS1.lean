/- Which questions shards can be asked, in plain words; the program's and the model's are one where there is a kind. -/
import Derived.Test.YtbdlahhejfamhaaGreatDoorRK0
import Derived.Test.YtbdlahhejfamhaaGreatDoorRL2
namespace Go.Proofs.YtbdlahhejfamhaaGreatDoor.Qry
open Go.RowKit

/-- A constant. -/
def cnst : Tr → Bool
  | .nd r ks => decide (r.kd = 1) || (decide (r.kd = 6) && (match ks with | [.nd s _] => decide (s.kd = 1 ∧ 0 < s.nu) | _ => false))
/-- A selection with a name. -/
def nmdS : Tr → Bool
  | .nd r _ => decide (r.kd = 3) && !r.tx.toList.isEmpty
def tr0 : Tr := .nd (pl r0) []
/-- Whether a call of one kid goes by series: the program's and the model's. -/
def clP (s : ByteArray) (k : Tr) (b : Bool) : Bool :=
  match k with
  | .nd r ks => if r.kd = 4 then (match ks with | [.nd p _] => !p.tx.toList.isEmpty | _ => false) else if r.kd = 3 then !r.tx.toList.isEmpty && (decide (s = nAbs) || decide (s = nStamp)) else decide (s = nAbs) && b
def clM (s : ByteArray) (k : Tr) (b : Bool) : Bool :=
  if s = nAbs then b else if s = nStamp then nmdS k else (match k with | .nd r ks => decide (r.kd = 4) && (match ks with | [p] => nmdS p | _ => false))
def byq (cl : ByteArray → Tr → Bool → Bool) (r : Pl) (ks : List Tr) (bs : List Bool) : Bool :=
  if r.kd = 3 then !r.tx.toList.isEmpty
  else if r.kd = 6 then bs.getD 0 false
  else if r.kd = 7 then decide (r.op ≤ 11 ∧ r.byy = 0) && (cnst (ks.getD 0 tr0) && bs.getD 1 false || cnst (ks.getD 1 tr0) && bs.getD 0 false)
  else if r.kd = 9 then (match ks, bs with | [k], [b] => cl r.tx k b | _, _ => false)
  else false
mutual
/-- Whether a tree goes by series. -/
def byT (cl : ByteArray → Tr → Bool → Bool) : Tr → Bool
  | .nd r ks => byq cl r ks (byL cl ks)
def byL (cl : ByteArray → Tr → Bool → Bool) : List Tr → List Bool
  | [] => []
  | t :: ts => byT cl t :: byL cl ts
end
theorem byL_map (cl : ByteArray → Tr → Bool → Bool) : ∀ ts : List Tr, byL cl ts = ts.map (byT cl)
  | [] => rfl
  | t :: ts => by rw [byL, byL_map cl ts]; rfl
/-- Which kind takes one of what. -/
theorem call_takes {s : ByteArray} {k : K} (h : callK s [k] ≠ .e) : padL (takesK s) (moreK s) 1 .t = [k] := by
  unfold callK at h
  by_cases g : padL (takesK s) (moreK s) [k].length .t = [k]
  · simpa using g
  · rw [if_neg g] at h; exact absurd rfl h
theorem takes_abs : padL (takesK nAbs) (moreK nAbs) 1 .t = [.v] := by decide
theorem takes_stamp : padL (takesK nStamp) (moreK nStamp) 1 .t = [.v] := by decide
theorem kd_range {r : Pl} {ks : List Tr} (h : r.kd = 4) : kdT (.nd r ks) = .r := by
  rw [kdT]; unfold kdq; simp [h]
theorem cl_same {d : Nat} {s : ByteArray} {k : Tr} {b : Bool} (hg : Gt NM d k) (hk : callK s [kdT k] ≠ .e) (hb : b = byT clM k) : clP s k b = clM s k b := by
  have ht := call_takes hk
  obtain ⟨r, ks⟩ := k
  obtain ⟨h1, h2, h3, h4, h5⟩ := nm_parts hg
  unfold clP clM
  simp only
  by_cases e4 : r.kd = 4
  · rw [if_pos e4]
    rw [kd_range e4] at ht
    by_cases ea : s = nAbs
    · rw [ea, takes_abs] at ht; cases ht
    rw [if_neg ea]
    by_cases es : s = nStamp
    · rw [es, takes_stamp] at ht; cases ht
    rw [if_neg es]
    unfold shape at h4
    rcases h4 with ⟨h4, _⟩ | ⟨_, p, rfl, hp⟩ | ⟨h4, _⟩ | ⟨h4, _⟩ | h4 | h4
    · omega
    · obtain ⟨pr, pk⟩ := p
      have hp' : pr.kd = 3 := hp
      simp [e4, nmdS, hp']
    all_goals omega
  rw [if_neg e4]
  by_cases e3 : r.kd = 3
  · rw [if_pos e3]
    have hb' : b = !r.tx.toList.isEmpty := by rw [hb, byT]; unfold byq; rw [if_pos e3]
    by_cases ea : s = nAbs
    · rw [if_pos ea, hb']; simp [ea]
    rw [if_neg ea]
    by_cases es : s = nStamp
    · rw [if_pos es]; simp [es, nmdS, e3]
    rw [if_neg es]
    simp [ea, es, e3]
  rw [if_neg e3]
  by_cases ea : s = nAbs
  · rw [if_pos ea]; simp [ea]
  rw [if_neg ea]
  by_cases es : s = nStamp
  · rw [if_pos es]; simp [ea, nmdS, e3]
  rw [if_neg es]
  simp [ea, e4]
theorem kids_kind {d : Nat} {r : Pl} {ks : List Tr} (h : Gt NM d (.nd r ks)) (hk : kdT (.nd r ks) ≠ .e) : ∀ t ∈ ks, kdT t ≠ .e := by
  intro t ht e
  apply hk
  rw [kdT]
  exact kdq_none h (by rw [kdL_map]; exact List.mem_map.2 ⟨t, ht, e⟩)
theorem by_same : ∀ (n d : Nat) (t : Tr), n + d = 13 → Gt NM d t → kdT t ≠ .e → byT clP t = byT clM t := by
  intro n
  induction n with
  | zero =>
    intro d t hd hg
    obtain ⟨r, ks⟩ := t
    exact absurd (nm_parts hg).2.1 (by omega)
  | succ n ih =>
    intro d t hd hg hk
    obtain ⟨r, ks⟩ := t
    have hkk := kids_kind hg hk
    obtain ⟨h1, h2, h3, h4, h5⟩ := nm_parts hg
    have hbl : byL clP ks = byL clM ks := by
      rw [byL_map, byL_map]
      exact List.map_congr_left fun t ht => ih (d + 1) t (by omega) (GtL_mem.1 h5 t ht) (hkk t ht)
    rw [byT, byT, hbl]
    unfold byq
    by_cases e3 : r.kd = 3
    · rw [if_pos e3, if_pos e3]
    rw [if_neg e3, if_neg e3]
    by_cases e6 : r.kd = 6
    · rw [if_pos e6, if_pos e6]
    rw [if_neg e6, if_neg e6]
    by_cases e7 : r.kd = 7
    · rw [if_pos e7, if_pos e7]
    rw [if_neg e7, if_neg e7]
    by_cases e9 : r.kd = 9
    · rw [if_pos e9, if_pos e9]
      match ks, hk, h5 with
      | [], _, _ => rfl
      | [k], hk, h5 =>
        simp only [byL]
        refine cl_same (GtL_mem.1 h5 k (by simp)) ?_ rfl
        rw [kdT] at hk
        unfold kdq at hk
        simpa [e9, kdL] using hk
      | _ :: _ :: _, _, _ => rfl
    · rw [if_neg e9, if_neg e9]
/-- What shards can be asked. -/
def shT : Tr → Bool
  | .nd r ks => decide (r.kd = 8 ∧ (r.op = 1 ∨ r.op = 2 ∨ r.op = 3 ∨ r.op = 5)) && byT clM (ks.getD 0 tr0) && decide (kdT (.nd r ks) ≠ .e)
theorem agg_kids {d : Nat} {r : Pl} {ks : List Tr} (h : Gt NM d (.nd r ks)) (h8 : r.kd = 8) : ks.length = if 6 ≤ r.op then 2 else 1 := by
  obtain ⟨h1, h2, h3, h4, h5⟩ := nm_parts h
  rw [right_8 h8] at h3
  unfold rAgg at h3
  simp only [Bool.and_eq_true, decide_eq_true_eq] at h3
  have h7 := h3.2
  by_cases e6 : 6 ≤ r.op
  · rw [if_pos e6] at h7 ⊢; omega
  · rw [if_neg e6] at h7 ⊢; omega
/-- The program asks the last kid. -/
theorem sh_prog {r : Pl} {ks : List Tr} {k : Tr} (h : Gt NM 1 (.nd r ks)) (h8 : r.kd = 8) (hl : ks[ks.length - 1]? = some k) (hk : kdT (.nd r ks) ≠ .e) (hb : byT clP k = true) : shT (.nd r ks) = decide (r.op = 1 ∨ r.op = 2 ∨ r.op = 3 ∨ r.op = 5) := by
  unfold shT
  by_cases ho : r.op = 1 ∨ r.op = 2 ∨ r.op = 3 ∨ r.op = 5
  · have h6 := agg_kids h h8
    rw [if_neg (by omega)] at h6
    match ks, h6, hl, h, hk with
    | [t], _, hl, h, hk =>
      obtain rfl : t = k := by simpa using hl
      have g := nm_parts h
      have := by_same 11 2 t rfl (GtL_mem.1 g.2.2.2.2 t (by simp)) (kids_kind h hk t (by simp))
      simp [h8, ho, ← this, hb, hk]
  · simp [ho]
theorem sh_none {r : Pl} {ks : List Tr} (hk : kdT (.nd r ks) = .e) : shT (.nd r ks) = false := by
  unfold shT; simp [hk]
theorem sh_other {r : Pl} {ks : List Tr} (hk : r.kd ≠ 8) : shT (.nd r ks) = false := by
  unfold shT; simp [hk]
theorem sh_by {r : Pl} {ks : List Tr} {k : Tr} (h : Gt NM 1 (.nd r ks)) (h8 : r.kd = 8) (hl : ks[ks.length - 1]? = some k) (hb : byT clP k = false) : shT (.nd r ks) = false := by
  by_cases hk : kdT (.nd r ks) = .e
  · exact sh_none hk
  unfold shT
  by_cases ho : r.op = 1 ∨ r.op = 2 ∨ r.op = 3 ∨ r.op = 5
  · have h6 := agg_kids h h8
    rw [if_neg (by omega)] at h6
    match ks, h6, hl, h, hk with
    | [t], _, hl, h, hk =>
      obtain rfl : t = k := by simpa using hl
      have g := nm_parts h
      have := by_same 11 2 t rfl (GtL_mem.1 g.2.2.2.2 t (by simp)) (kids_kind h hk t (by simp))
      simp [← this, hb]
  · simp [ho]
end Go.Proofs.YtbdlahhejfamhaaGreatDoor.Qry
/- The program: constants, and what goes by series. -/
namespace Go.Proofs.YtbdlahhejfamhaaGreatDoor.Qry
open Go.RowKit

theorem ret_bl {a b : Bool} (h : a = b) : Ending.returned (.bool a) = .returned (.bool b) := by rw [h]
set_option maxHeartbeats 4000000 in
set_option maxRecDepth 100000 in
theorem co_num (q : R) (w : World) : Calls Tryz.prog 112 #[vnumNode q] w fun e w' => (∃ z, e = .returned (.tuple #[.int .i64 z, .bool true])) ∧ Below w.heap.size w w' := by
  have ty0 := ty_num_num
  have ty1 := ty_num_neg
  go_enter Tryz.func112, Tryz.ntmps112
  go_wp2
  go_ret2
  exact ⟨⟨_, rfl⟩, (by first | exact Below.refl _ _ | exact (Below.refl _ _).alloc (Nat.le_refl _) _ | exact ((Below.refl _ _).alloc (Nat.le_refl _) _).alloc (by simp) _ | exact (((Below.refl _ _).alloc (Nat.le_refl _) _).alloc (by simp) _).alloc (by simp; omega) _)⟩
set_option maxHeartbeats 4000000 in
set_option maxRecDepth 100000 in
theorem co_text (q : R) (w : World) : Calls Tryz.prog 112 #[vtextNode q] w fun e w' => (∃ z, e = .returned (.tuple #[.int .i64 z, .bool false])) ∧ Below w.heap.size w w' := by
  have ty0 := ty_text_num
  have ty1 := ty_text_neg
  go_enter Tryz.func112, Tryz.ntmps112
  go_wp2
  go_ret2
  exact ⟨⟨_, rfl⟩, (by first | exact Below.refl _ _ | exact (Below.refl _ _).alloc (Nat.le_refl _) _ | exact ((Below.refl _ _).alloc (Nat.le_refl _) _).alloc (by simp) _ | exact (((Below.refl _ _).alloc (Nat.le_refl _) _).alloc (by simp) _).alloc (by simp; omega) _)⟩
set_option maxHeartbeats 4000000 in
set_option maxRecDepth 100000 in
theorem co_sel (q : R) (w : World) : Calls Tryz.prog 112 #[vselectNode q] w fun e w' => (∃ z, e = .returned (.tuple #[.int .i64 z, .bool false])) ∧ Below w.heap.size w w' := by
  have ty0 := ty_sel_num
  have ty1 := ty_sel_neg
  go_enter Tryz.func112, Tryz.ntmps112
  go_wp2
  go_ret2
  exact ⟨⟨_, rfl⟩, (by first | exact Below.refl _ _ | exact (Below.refl _ _).alloc (Nat.le_refl _) _ | exact ((Below.refl _ _).alloc (Nat.le_refl _) _).alloc (by simp) _ | exact (((Below.refl _ _).alloc (Nat.le_refl _) _).alloc (by simp) _).alloc (by simp; omega) _)⟩
set_option maxHeartbeats 4000000 in
set_option maxRecDepth 100000 in
theorem co_range (q : R) (qs : R) (w : World) : Calls Tryz.prog 112 #[vrangeNode q qs] w fun e w' => (∃ z, e = .returned (.tuple #[.int .i64 z, .bool false])) ∧ Below w.heap.size w w' := by
  have ty0 := ty_range_num
  have ty1 := ty_range_neg
  go_enter Tryz.func112, Tryz.ntmps112
  go_wp2
  go_ret2
  exact ⟨⟨_, rfl⟩, (by first | exact Below.refl _ _ | exact (Below.refl _ _).alloc (Nat.le_refl _) _ | exact ((Below.refl _ _).alloc (Nat.le_refl _) _).alloc (by simp) _ | exact (((Below.refl _ _).alloc (Nat.le_refl _) _).alloc (by simp) _).alloc (by simp; omega) _)⟩
set_option maxHeartbeats 4000000 in
set_option maxRecDepth 100000 in
theorem co_sub (q : R) (qt : TypeId) (qx : Value) (w : World) : Calls Tryz.prog 112 #[vsubNode q (.iface qt qx)] w fun e w' => (∃ z, e = .returned (.tuple #[.int .i64 z, .bool false])) ∧ Below w.heap.size w w' := by
  have ty0 := ty_sub_num
  have ty1 := ty_sub_neg
  go_enter Tryz.func112, Tryz.ntmps112
  go_wp2
  go_ret2
  exact ⟨⟨_, rfl⟩, (by first | exact Below.refl _ _ | exact (Below.refl _ _).alloc (Nat.le_refl _) _ | exact ((Below.refl _ _).alloc (Nat.le_refl _) _).alloc (by simp) _ | exact (((Below.refl _ _).alloc (Nat.le_refl _) _).alloc (by simp) _).alloc (by simp; omega) _)⟩
set_option maxHeartbeats 4000000 in
set_option maxRecDepth 100000 in
theorem co_op (q : R) (qt : TypeId) (qx : Value) (qu : TypeId) (qy : Value) (w : World) : Calls Tryz.prog 112 #[vopNode q (.iface qt qx) (.iface qu qy)] w fun e w' => (∃ z, e = .returned (.tuple #[.int .i64 z, .bool false])) ∧ Below w.heap.size w w' := by
  have ty0 := ty_op_num
  have ty1 := ty_op_neg
  go_enter Tryz.func112, Tryz.ntmps112
  go_wp2
  go_ret2
  exact ⟨⟨_, rfl⟩, (by first | exact Below.refl _ _ | exact (Below.refl _ _).alloc (Nat.le_refl _) _ | exact ((Below.refl _ _).alloc (Nat.le_refl _) _).alloc (by simp) _ | exact (((Below.refl _ _).alloc (Nat.le_refl _) _).alloc (by simp) _).alloc (by simp; omega) _)⟩
set_option maxHeartbeats 4000000 in
set_option maxRecDepth 100000 in
theorem co_agg (q : R) (qa : Option Addr) (qn qc : Nat) (w : World) : Calls Tryz.prog 112 #[vaggNode q qa qn qc] w fun e w' => (∃ z, e = .returned (.tuple #[.int .i64 z, .bool false])) ∧ Below w.heap.size w w' := by
  have ty0 := ty_agg_num
  have ty1 := ty_agg_neg
  go_enter Tryz.func112, Tryz.ntmps112
  go_wp2
  go_ret2
  exact ⟨⟨_, rfl⟩, (by first | exact Below.refl _ _ | exact (Below.refl _ _).alloc (Nat.le_refl _) _ | exact ((Below.refl _ _).alloc (Nat.le_refl _) _).alloc (by simp) _ | exact (((Below.refl _ _).alloc (Nat.le_refl _) _).alloc (by simp) _).alloc (by simp; omega) _)⟩
set_option maxHeartbeats 4000000 in
set_option maxRecDepth 100000 in
theorem co_call (q : R) (qa : Option Addr) (qn qc : Nat) (w : World) : Calls Tryz.prog 112 #[vcallNode q qa qn qc] w fun e w' => (∃ z, e = .returned (.tuple #[.int .i64 z, .bool false])) ∧ Below w.heap.size w w' := by
  have ty0 := ty_call_num
  have ty1 := ty_call_neg
  go_enter Tryz.func112, Tryz.ntmps112
  go_wp2
  go_ret2
  exact ⟨⟨_, rfl⟩, (by first | exact Below.refl _ _ | exact (Below.refl _ _).alloc (Nat.le_refl _) _ | exact ((Below.refl _ _).alloc (Nat.le_refl _) _).alloc (by simp) _ | exact (((Below.refl _ _).alloc (Nat.le_refl _) _).alloc (by simp) _).alloc (by simp; omega) _)⟩
set_option maxHeartbeats 4000000 in
set_option maxRecDepth 100000 in
theorem cn_num (q p : R) (w : World) : Calls Tryz.prog 112 #[vnegNode q (vnumNode p)] w fun e w' => (∃ z, e = .returned (.tuple #[.int .i64 z, .bool (decide (0 < p.nu))])) ∧ Below w.heap.size w w' := by
  have ty0 := ty_neg_num
  have ty1 := ty_neg_neg
  have ty2 := ty_num_num
  by_cases h : 0 < p.nu
  · rw [decide_eq_true h]
    go_enter Tryz.func112, Tryz.ntmps112
    go_wp2
    go_ret2
    exact ⟨⟨_, rfl⟩, (by first | exact Below.refl _ _ | exact (Below.refl _ _).alloc (Nat.le_refl _) _ | exact ((Below.refl _ _).alloc (Nat.le_refl _) _).alloc (by simp) _ | exact (((Below.refl _ _).alloc (Nat.le_refl _) _).alloc (by simp) _).alloc (by simp; omega) _)⟩
  · rw [decide_eq_false h]
    go_enter Tryz.func112, Tryz.ntmps112
    go_wp2
    go_ret2
    exact ⟨⟨_, rfl⟩, (by first | exact Below.refl _ _ | exact (Below.refl _ _).alloc (Nat.le_refl _) _ | exact ((Below.refl _ _).alloc (Nat.le_refl _) _).alloc (by simp) _ | exact (((Below.refl _ _).alloc (Nat.le_refl _) _).alloc (by simp) _).alloc (by simp; omega) _)⟩
set_option maxHeartbeats 4000000 in
set_option maxRecDepth 100000 in
theorem cn_text (q p : R) (w : World) : Calls Tryz.prog 112 #[vnegNode q (vtextNode p)] w fun e w' => (∃ z, e = .returned (.tuple #[.int .i64 z, .bool false])) ∧ Below w.heap.size w w' := by
  have ty0 := ty_neg_num
  have ty1 := ty_neg_neg
  have ty2 := ty_text_num
  go_enter Tryz.func112, Tryz.ntmps112
  go_wp2
  go_ret2
  exact ⟨⟨_, rfl⟩, (by first | exact Below.refl _ _ | exact (Below.refl _ _).alloc (Nat.le_refl _) _ | exact ((Below.refl _ _).alloc (Nat.le_refl _) _).alloc (by simp) _ | exact (((Below.refl _ _).alloc (Nat.le_refl _) _).alloc (by simp) _).alloc (by simp; omega) _)⟩
set_option maxHeartbeats 4000000 in
set_option maxRecDepth 100000 in
theorem cn_sel (q p : R) (w : World) : Calls Tryz.prog 112 #[vnegNode q (vselectNode p)] w fun e w' => (∃ z, e = .returned (.tuple #[.int .i64 z, .bool false])) ∧ Below w.heap.size w w' := by
  have ty0 := ty_neg_num
  have ty1 := ty_neg_neg
  have ty2 := ty_sel_num
  go_enter Tryz.func112, Tryz.ntmps112
  go_wp2
  go_ret2
  exact ⟨⟨_, rfl⟩, (by first | exact Below.refl _ _ | exact (Below.refl _ _).alloc (Nat.le_refl _) _ | exact ((Below.refl _ _).alloc (Nat.le_refl _) _).alloc (by simp) _ | exact (((Below.refl _ _).alloc (Nat.le_refl _) _).alloc (by simp) _).alloc (by simp; omega) _)⟩
set_option maxHeartbeats 4000000 in
set_option maxRecDepth 100000 in
theorem cn_range (q p : R) (ps : R) (w : World) : Calls Tryz.prog 112 #[vnegNode q (vrangeNode p ps)] w fun e w' => (∃ z, e = .returned (.tuple #[.int .i64 z, .bool false])) ∧ Below w.heap.size w w' := by
  have ty0 := ty_neg_num
  have ty1 := ty_neg_neg
  have ty2 := ty_range_num
  go_enter Tryz.func112, Tryz.ntmps112
  go_wp2
  go_ret2
  exact ⟨⟨_, rfl⟩, (by first | exact Below.refl _ _ | exact (Below.refl _ _).alloc (Nat.le_refl _) _ | exact ((Below.refl _ _).alloc (Nat.le_refl _) _).alloc (by simp) _ | exact (((Below.refl _ _).alloc (Nat.le_refl _) _).alloc (by simp) _).alloc (by simp; omega) _)⟩
set_option maxHeartbeats 4000000 in
set_option maxRecDepth 100000 in
theorem cn_sub (q p : R) (pt : TypeId) (px : Value) (w : World) : Calls Tryz.prog 112 #[vnegNode q (vsubNode p (.iface pt px))] w fun e w' => (∃ z, e = .returned (.tuple #[.int .i64 z, .bool false])) ∧ Below w.heap.size w w' := by
  have ty0 := ty_neg_num
  have ty1 := ty_neg_neg
  have ty2 := ty_sub_num
  go_enter Tryz.func112, Tryz.ntmps112
  go_wp2
  go_ret2
  exact ⟨⟨_, rfl⟩, (by first | exact Below.refl _ _ | exact (Below.refl _ _).alloc (Nat.le_refl _) _ | exact ((Below.refl _ _).alloc (Nat.le_refl _) _).alloc (by simp) _ | exact (((Below.refl _ _).alloc (Nat.le_refl _) _).alloc (by simp) _).alloc (by simp; omega) _)⟩
set_option maxHeartbeats 4000000 in
set_option maxRecDepth 100000 in
theorem cn_neg (q p : R) (pt : TypeId) (px : Value) (w : World) : Calls Tryz.prog 112 #[vnegNode q (vnegNode p (.iface pt px))] w fun e w' => (∃ z, e = .returned (.tuple #[.int .i64 z, .bool false])) ∧ Below w.heap.size w w' := by
  have ty0 := ty_neg_num
  have ty1 := ty_neg_neg
  have ty2 := ty_neg_num
  go_enter Tryz.func112, Tryz.ntmps112
  go_wp2
  go_ret2
  exact ⟨⟨_, rfl⟩, (by first | exact Below.refl _ _ | exact (Below.refl _ _).alloc (Nat.le_refl _) _ | exact ((Below.refl _ _).alloc (Nat.le_refl _) _).alloc (by simp) _ | exact (((Below.refl _ _).alloc (Nat.le_refl _) _).alloc (by simp) _).alloc (by simp; omega) _)⟩
set_option maxHeartbeats 4000000 in
set_option maxRecDepth 100000 in
theorem cn_op (q p : R) (pt : TypeId) (px : Value) (pu : TypeId) (py : Value) (w : World) : Calls Tryz.prog 112 #[vnegNode q (vopNode p (.iface pt px) (.iface pu py))] w fun e w' => (∃ z, e = .returned (.tuple #[.int .i64 z, .bool false])) ∧ Below w.heap.size w w' := by
  have ty0 := ty_neg_num
  have ty1 := ty_neg_neg
  have ty2 := ty_op_num
  go_enter Tryz.func112, Tryz.ntmps112
  go_wp2
  go_ret2
  exact ⟨⟨_, rfl⟩, (by first | exact Below.refl _ _ | exact (Below.refl _ _).alloc (Nat.le_refl _) _ | exact ((Below.refl _ _).alloc (Nat.le_refl _) _).alloc (by simp) _ | exact (((Below.refl _ _).alloc (Nat.le_refl _) _).alloc (by simp) _).alloc (by simp; omega) _)⟩
set_option maxHeartbeats 4000000 in
set_option maxRecDepth 100000 in
theorem cn_agg (q p : R) (pa : Option Addr) (pn pc : Nat) (w : World) : Calls Tryz.prog 112 #[vnegNode q (vaggNode p pa pn pc)] w fun e w' => (∃ z, e = .returned (.tuple #[.int .i64 z, .bool false])) ∧ Below w.heap.size w w' := by
  have ty0 := ty_neg_num
  have ty1 := ty_neg_neg
  have ty2 := ty_agg_num
  go_enter Tryz.func112, Tryz.ntmps112
  go_wp2
  go_ret2
  exact ⟨⟨_, rfl⟩, (by first | exact Below.refl _ _ | exact (Below.refl _ _).alloc (Nat.le_refl _) _ | exact ((Below.refl _ _).alloc (Nat.le_refl _) _).alloc (by simp) _ | exact (((Below.refl _ _).alloc (Nat.le_refl _) _).alloc (by simp) _).alloc (by simp; omega) _)⟩
set_option maxHeartbeats 4000000 in
set_option maxRecDepth 100000 in
theorem cn_call (q p : R) (pa : Option Addr) (pn pc : Nat) (w : World) : Calls Tryz.prog 112 #[vnegNode q (vcallNode p pa pn pc)] w fun e w' => (∃ z, e = .returned (.tuple #[.int .i64 z, .bool false])) ∧ Below w.heap.size w w' := by
  have ty0 := ty_neg_num
  have ty1 := ty_neg_neg
  have ty2 := ty_call_num
  go_enter Tryz.func112, Tryz.ntmps112
  go_wp2
  go_ret2
  exact ⟨⟨_, rfl⟩, (by first | exact Below.refl _ _ | exact (Below.refl _ _).alloc (Nat.le_refl _) _ | exact ((Below.refl _ _).alloc (Nat.le_refl _) _).alloc (by simp) _ | exact (((Below.refl _ _).alloc (Nat.le_refl _) _).alloc (by simp) _).alloc (by simp; omega) _)⟩
theorem one_kid {w0 : World} {S : Nat → Prop} {w : World} {ks : List Tr} {v : Value} (h : NvL w0 S w ks [v]) : ∃ t, ks = [t] ∧ Nv w0 S w t v := by
  match ks, h with
  | [], h => simp [NvL] at h
  | [t], h =>
    simp only [NvL] at h
    obtain ⟨v', vs', e, h1, h2⟩ := h
    simp only [List.cons.injEq] at e
    rw [e.1]
    exact ⟨t, rfl, h1⟩
  | t :: u :: r, h =>
    have := NvL.len _ _ h
    simp at this
theorem two_kids {w0 : World} {S : Nat → Prop} {w : World} {ks : List Tr} {v u : Value} (h : NvL w0 S w ks [v, u]) : ∃ t s, ks = [t, s] ∧ Nv w0 S w t v ∧ Nv w0 S w s u := by
  match ks, h with
  | [], h => simp [NvL] at h
  | t :: r, h =>
    simp only [NvL] at h
    obtain ⟨v', vs', e, h1, h2⟩ := h
    simp only [List.cons.injEq] at e
    obtain ⟨rfl, rfl⟩ := e
    obtain ⟨s, rfl, h3⟩ := one_kid h2
    exact ⟨t, s, rfl, h1, h3⟩
theorem cnst_no {q : R} {ks : List Tr} (h1 : q.kd ≠ 1) (h6 : q.kd ≠ 6) : cnst (.nd (pl q) ks) = false := by unfold cnst; simp [pl, h1, h6]
theorem cnst_neg {q p : R} {kk : List Tr} (h : q.kd = 6) : cnst (.nd (pl q) [.nd (pl p) kk]) = decide (p.kd = 1 ∧ 0 < p.nu) := by
  have e1 : ¬ (pl q).kd = 1 := by show ¬ q.kd = 1; omega
  have e6 : (pl q).kd = 6 := h
  show (decide ((pl q).kd = 1) || (decide ((pl q).kd = 6) && decide ((pl p).kd = 1 ∧ 0 < (pl p).nu))) = _
  rw [decide_eq_false e1, decide_eq_true e6, Bool.false_or, Bool.true_and]
  rfl
theorem f112 (t : Tr) (v : Value) (w0 : World) (S : Nat → Prop) (w : World) (hv : Nv w0 S w t v) :
    Calls Tryz.prog 112 #[v] w fun e w' => (∃ z, e = .returned (.tuple #[.int .i64 z, .bool (cnst t)])) ∧ Below w.heap.size w w' := by
  obtain ⟨r, ks⟩ := t
  simp only [Nv] at hv
  obtain ⟨q, vs, rfl, _, hnl, hsh⟩ := hv
  cases hsh with
  | num h => rw [show cnst (.nd (pl q) ks) = true from by unfold cnst; simp [pl, h]]; exact co_num q w
  | text h => rw [cnst_no (by omega) (by omega)]; exact co_text q w
  | sel h => rw [cnst_no (by omega) (by omega)]; exact co_sel q w
  | range h p => rw [cnst_no (by omega) (by omega)]; exact co_range q p w
  | sub h tt x => rw [cnst_no (by omega) (by omega)]; exact co_sub q tt x w
  | op h tt x uu y => rw [cnst_no (by omega) (by omega)]; exact co_op q tt x uu y w
  | agg h vs a c hv => rw [cnst_no (by omega) (by omega)]; exact co_agg q a _ c w
  | call h vs a c hv => rw [cnst_no (by omega) (by omega)]; exact co_call q a _ c w
  | neg h tt x =>
    obtain ⟨t, rfl, ht⟩ := one_kid hnl
    obtain ⟨rk, kk⟩ := t
    simp only [Nv] at ht
    obtain ⟨p, us, rfl, _, _, hs2⟩ := ht
    rw [cnst_neg h]
    generalize hg : Value.iface tt x = vk at hs2 ⊢
    cases hs2 with
    | num g => rw [show decide (p.kd = 1 ∧ 0 < p.nu) = decide (0 < p.nu) from by simp [g]]; exact cn_num q p w
    | text g => rw [decide_eq_false (by omega)]; exact cn_text q p w
    | sel g => rw [decide_eq_false (by omega)]; exact cn_sel q p w
    | range g s => rw [decide_eq_false (by omega)]; exact cn_range q p s w
    | sub g tt2 x2 => rw [decide_eq_false (by omega)]; exact cn_sub q p tt2 x2 w
    | neg g tt2 x2 => rw [decide_eq_false (by omega)]; exact cn_neg q p tt2 x2 w
    | op g tt2 x2 uu2 y2 => rw [decide_eq_false (by omega)]; exact cn_op q p tt2 x2 uu2 y2 w
    | agg g us a c hv => rw [decide_eq_false (by omega)]; exact cn_agg q p a _ c w
    | call g us a c hv => rw [decide_eq_false (by omega)]; exact cn_call q p a _ c w
end Go.Proofs.YtbdlahhejfamhaaGreatDoor.Qry
/- The program: calls that go by series; what goes by series, but operations and calls. -/
namespace Go.Proofs.YtbdlahhejfamhaaGreatDoor.Qry
open Go.RowKit

/-- The text of a node. -/
def txOf : Value → Option Value
  | .iface _ (.agg cs) => cs[3]?
  | _ => none
theorem sel_tx {S : Nat → Prop} {w : World} {q p : R} {vs : List Value} (h : Sh S w q vs (vselectNode p)) : p.tx = q.tx := by
  generalize hg : vselectNode p = v at h
  have e := congrArg txOf hg
  cases h <;> (simp only [txOf] at e; simpa using e)
theorem lit_no {s t : ByteArray} (h : s ≠ t) : decide (s = t) = false := decide_eq_false h
set_option maxHeartbeats 4000000 in
set_option maxRecDepth 100000 in
theorem cs_range (s : ByteArray) (q p : R) (w : World) : Calls Tryz.prog 116 #[.string s, vrangeNode q p] w fun e w' => e = .returned (.bool (!p.tx.toList.isEmpty)) ∧ Below w.heap.size w w' := by
  have ty0 := ty_range_range
  have ty1 := ty_range_sel
  cases hp : p.tx.toList.isEmpty
  · go_enter Tryz.func116, Tryz.ntmps116
    go_upto_region 3 with fail
    refine wp_region_lit ?_
    refine wpList_plain rfl (fun K hK => ?_)
    unfold Oper.wp
    rw [exec_allocR w _ _ rfl]
    refine hK _ _ ?_
    clear hK K
    refine wpList_plain rfl (fun K hK => ?_)
    unfold Oper.wp
    rw [exec_storeR w _ (by rfl) (by simp [Value.oneCell']) _ _ _ _ rfl rfl rfl]
    refine hK _ _ ?_
    clear hK K
    go_wp2
    go_ret
    exact ⟨ret_bl (by simp_all), (by first | exact Below.refl _ _ | exact (Below.refl _ _).alloc (Nat.le_refl _) _ | exact ((Below.refl _ _).alloc (Nat.le_refl _) _).alloc (by simp) _ | exact (((Below.refl _ _).alloc (Nat.le_refl _) _).alloc (by simp) _).alloc (by simp; omega) _)⟩
  · go_enter Tryz.func116, Tryz.ntmps116
    go_upto_region 3 with fail
    refine wp_region_lit ?_
    refine wpList_plain rfl (fun K hK => ?_)
    unfold Oper.wp
    rw [exec_allocR w _ _ rfl]
    refine hK _ _ ?_
    clear hK K
    refine wpList_plain rfl (fun K hK => ?_)
    unfold Oper.wp
    rw [exec_storeR w _ (by rfl) (by simp [Value.oneCell']) _ _ _ _ rfl rfl rfl]
    refine hK _ _ ?_
    clear hK K
    go_wp2
    go_ret
    exact ⟨ret_bl (by simp_all), (by first | exact Below.refl _ _ | exact (Below.refl _ _).alloc (Nat.le_refl _) _ | exact ((Below.refl _ _).alloc (Nat.le_refl _) _).alloc (by simp) _ | exact (((Below.refl _ _).alloc (Nat.le_refl _) _).alloc (by simp) _).alloc (by simp; omega) _)⟩
set_option maxHeartbeats 4000000 in
set_option maxRecDepth 100000 in
theorem cs_sel (s : ByteArray) (q : R) (w : World) : Calls Tryz.prog 116 #[.string s, vselectNode q] w fun e w' => e = .returned (.bool (!q.tx.toList.isEmpty && (decide (s = nAbs) || decide (s = nStamp)))) ∧ Below w.heap.size w w' := by
  have ty0 := ty_sel_range
  have ty1 := ty_sel_sel
  cases hp : q.tx.toList.isEmpty
  · by_cases ea : s = nAbs
    · have e1 : (s.toList == [97, 98, 115]) = true := lit_eq ea
      have HR : Hid ((!false && (decide (s = nAbs) || decide (s = nStamp))) = true) := by unfold Hid; simp [ea]
      clear ea
      go_enter Tryz.func116, Tryz.ntmps116
      go_wp2
      go_ret
      exact ⟨ret_bl HR.out.symm, (by first | exact Below.refl _ _ | exact (Below.refl _ _).alloc (Nat.le_refl _) _ | exact ((Below.refl _ _).alloc (Nat.le_refl _) _).alloc (by simp) _ | exact (((Below.refl _ _).alloc (Nat.le_refl _) _).alloc (by simp) _).alloc (by simp; omega) _)⟩
    · have e1 : (s.toList == [97, 98, 115]) = false := lit_ne ea
      by_cases es : s = nStamp
      · have e2 : (s.toList == [116, 105, 109, 101, 115, 116, 97, 109, 112]) = true := lit_eq es
        have HR : Hid ((!false && (decide (s = nAbs) || decide (s = nStamp))) = true) := by unfold Hid; simp [es]
        clear ea es
        go_enter Tryz.func116, Tryz.ntmps116
        go_wp2
        go_ret
        exact ⟨ret_bl HR.out.symm, (by first | exact Below.refl _ _ | exact (Below.refl _ _).alloc (Nat.le_refl _) _ | exact ((Below.refl _ _).alloc (Nat.le_refl _) _).alloc (by simp) _ | exact (((Below.refl _ _).alloc (Nat.le_refl _) _).alloc (by simp) _).alloc (by simp; omega) _)⟩
      · have e2 : (s.toList == [116, 105, 109, 101, 115, 116, 97, 109, 112]) = false := lit_ne es
        have HR : Hid ((!false && (decide (s = nAbs) || decide (s = nStamp))) = false) := by unfold Hid; simp [ea, es]
        clear ea es
        go_enter Tryz.func116, Tryz.ntmps116
        go_wp2
        go_ret
        exact ⟨ret_bl HR.out.symm, (by first | exact Below.refl _ _ | exact (Below.refl _ _).alloc (Nat.le_refl _) _ | exact ((Below.refl _ _).alloc (Nat.le_refl _) _).alloc (by simp) _ | exact (((Below.refl _ _).alloc (Nat.le_refl _) _).alloc (by simp) _).alloc (by simp; omega) _)⟩
  · go_enter Tryz.func116, Tryz.ntmps116
    go_wp2
    go_ret
    exact ⟨rfl, (by first | exact Below.refl _ _ | exact (Below.refl _ _).alloc (Nat.le_refl _) _ | exact ((Below.refl _ _).alloc (Nat.le_refl _) _).alloc (by simp) _ | exact (((Below.refl _ _).alloc (Nat.le_refl _) _).alloc (by simp) _).alloc (by simp; omega) _)⟩
set_option maxHeartbeats 4000000 in
set_option maxRecDepth 100000 in
theorem cs_num (s : ByteArray) (q : R) (b : Bool) (w : World) (hc : ∀ wy, Below w.heap.size w wy → Calls Tryz.prog 88 #[vnumNode q] wy fun e w' => e = .returned (.bool b) ∧ Below wy.heap.size wy w') : Calls Tryz.prog 116 #[.string s, vnumNode q] w fun e w' => e = .returned (.bool (decide (s = nAbs) && b)) ∧ Below w.heap.size w w' := by
  have ty0 := ty_num_range
  have ty1 := ty_num_sel
  have HC := hid hc
  clear hc
  by_cases ea : s = nAbs
  · have e1 : (s.toList == [97, 98, 115]) = true := lit_eq ea
    have HR : Hid ((decide (s = nAbs) && b) = b) := by unfold Hid; simp [ea]
    clear ea
    go_enter Tryz.func116, Tryz.ntmps116
    go_wp2_with (go_at_call 88; refine (HC.out _ (by first | exact Below.refl _ _ | exact (Below.refl _ _).alloc (Nat.le_refl _) _ | exact ((Below.refl _ _).alloc (Nat.le_refl _) _).alloc (by simp) _ | exact (((Below.refl _ _).alloc (Nat.le_refl _) _).alloc (by simp) _).alloc (by simp; omega) _)).mono ?_; rintro e w1 ⟨rfl, hb1⟩; have HB1 := hid hb1; clear hb1)
    go_ret
    exact ⟨ret_bl HR.out.symm, by first | exact HB1.out | exact ((Below.refl _ _).alloc (Nat.le_refl _) _).trans (HB1.out.mono (by simp))⟩
  · have e1 : (s.toList == [97, 98, 115]) = false := lit_ne ea
    have HR : Hid ((decide (s = nAbs) && b) = false) := by unfold Hid; simp [ea]
    clear ea
    go_enter Tryz.func116, Tryz.ntmps116
    go_wp2
    go_ret
    exact ⟨ret_bl HR.out.symm, (by first | exact Below.refl _ _ | exact (Below.refl _ _).alloc (Nat.le_refl _) _ | exact ((Below.refl _ _).alloc (Nat.le_refl _) _).alloc (by simp) _ | exact (((Below.refl _ _).alloc (Nat.le_refl _) _).alloc (by simp) _).alloc (by simp; omega) _)⟩
set_option maxHeartbeats 4000000 in
set_option maxRecDepth 100000 in
theorem cs_text (s : ByteArray) (q : R) (b : Bool) (w : World) (hc : ∀ wy, Below w.heap.size w wy → Calls Tryz.prog 88 #[vtextNode q] wy fun e w' => e = .returned (.bool b) ∧ Below wy.heap.size wy w') : Calls Tryz.prog 116 #[.string s, vtextNode q] w fun e w' => e = .returned (.bool (decide (s = nAbs) && b)) ∧ Below w.heap.size w w' := by
  have ty0 := ty_text_range
  have ty1 := ty_text_sel
  have HC := hid hc
  clear hc
  by_cases ea : s = nAbs
  · have e1 : (s.toList == [97, 98, 115]) = true := lit_eq ea
    have HR : Hid ((decide (s = nAbs) && b) = b) := by unfold Hid; simp [ea]
    clear ea
    go_enter Tryz.func116, Tryz.ntmps116
    go_wp2_with (go_at_call 88; refine (HC.out _ (by first | exact Below.refl _ _ | exact (Below.refl _ _).alloc (Nat.le_refl _) _ | exact ((Below.refl _ _).alloc (Nat.le_refl _) _).alloc (by simp) _ | exact (((Below.refl _ _).alloc (Nat.le_refl _) _).alloc (by simp) _).alloc (by simp; omega) _)).mono ?_; rintro e w1 ⟨rfl, hb1⟩; have HB1 := hid hb1; clear hb1)
    go_ret
    exact ⟨ret_bl HR.out.symm, by first | exact HB1.out | exact ((Below.refl _ _).alloc (Nat.le_refl _) _).trans (HB1.out.mono (by simp))⟩
  · have e1 : (s.toList == [97, 98, 115]) = false := lit_ne ea
    have HR : Hid ((decide (s = nAbs) && b) = false) := by unfold Hid; simp [ea]
    clear ea
    go_enter Tryz.func116, Tryz.ntmps116
    go_wp2
    go_ret
    exact ⟨ret_bl HR.out.symm, (by first | exact Below.refl _ _ | exact (Below.refl _ _).alloc (Nat.le_refl _) _ | exact ((Below.refl _ _).alloc (Nat.le_refl _) _).alloc (by simp) _ | exact (((Below.refl _ _).alloc (Nat.le_refl _) _).alloc (by simp) _).alloc (by simp; omega) _)⟩
set_option maxHeartbeats 4000000 in
set_option maxRecDepth 100000 in
theorem cs_sub (s : ByteArray) (q : R) (qt : TypeId) (qx : Value) (b : Bool) (w : World) (hc : ∀ wy, Below w.heap.size w wy → Calls Tryz.prog 88 #[vsubNode q (.iface qt qx)] wy fun e w' => e = .returned (.bool b) ∧ Below wy.heap.size wy w') : Calls Tryz.prog 116 #[.string s, vsubNode q (.iface qt qx)] w fun e w' => e = .returned (.bool (decide (s = nAbs) && b)) ∧ Below w.heap.size w w' := by
  have ty0 := ty_sub_range
  have ty1 := ty_sub_sel
  have HC := hid hc
  clear hc
  by_cases ea : s = nAbs
  · have e1 : (s.toList == [97, 98, 115]) = true := lit_eq ea
    have HR : Hid ((decide (s = nAbs) && b) = b) := by unfold Hid; simp [ea]
    clear ea
    go_enter Tryz.func116, Tryz.ntmps116
    go_wp2_with (go_at_call 88; refine (HC.out _ (by first | exact Below.refl _ _ | exact (Below.refl _ _).alloc (Nat.le_refl _) _ | exact ((Below.refl _ _).alloc (Nat.le_refl _) _).alloc (by simp) _ | exact (((Below.refl _ _).alloc (Nat.le_refl _) _).alloc (by simp) _).alloc (by simp; omega) _)).mono ?_; rintro e w1 ⟨rfl, hb1⟩; have HB1 := hid hb1; clear hb1)
    go_ret
    exact ⟨ret_bl HR.out.symm, by first | exact HB1.out | exact ((Below.refl _ _).alloc (Nat.le_refl _) _).trans (HB1.out.mono (by simp))⟩
  · have e1 : (s.toList == [97, 98, 115]) = false := lit_ne ea
    have HR : Hid ((decide (s = nAbs) && b) = false) := by unfold Hid; simp [ea]
    clear ea
    go_enter Tryz.func116, Tryz.ntmps116
    go_wp2
    go_ret
    exact ⟨ret_bl HR.out.symm, (by first | exact Below.refl _ _ | exact (Below.refl _ _).alloc (Nat.le_refl _) _ | exact ((Below.refl _ _).alloc (Nat.le_refl _) _).alloc (by simp) _ | exact (((Below.refl _ _).alloc (Nat.le_refl _) _).alloc (by simp) _).alloc (by simp; omega) _)⟩
set_option maxHeartbeats 4000000 in
set_option maxRecDepth 100000 in
theorem cs_neg (s : ByteArray) (q : R) (qt : TypeId) (qx : Value) (b : Bool) (w : World) (hc : ∀ wy, Below w.heap.size w wy → Calls Tryz.prog 88 #[vnegNode q (.iface qt qx)] wy fun e w' => e = .returned (.bool b) ∧ Below wy.heap.size wy w') : Calls Tryz.prog 116 #[.string s, vnegNode q (.iface qt qx)] w fun e w' => e = .returned (.bool (decide (s = nAbs) && b)) ∧ Below w.heap.size w w' := by
  have ty0 := ty_neg_range
  have ty1 := ty_neg_sel
  have HC := hid hc
  clear hc
  by_cases ea : s = nAbs
  · have e1 : (s.toList == [97, 98, 115]) = true := lit_eq ea
    have HR : Hid ((decide (s = nAbs) && b) = b) := by unfold Hid; simp [ea]
    clear ea
    go_enter Tryz.func116, Tryz.ntmps116
    go_wp2_with (go_at_call 88; refine (HC.out _ (by first | exact Below.refl _ _ | exact (Below.refl _ _).alloc (Nat.le_refl _) _ | exact ((Below.refl _ _).alloc (Nat.le_refl _) _).alloc (by simp) _ | exact (((Below.refl _ _).alloc (Nat.le_refl _) _).alloc (by simp) _).alloc (by simp; omega) _)).mono ?_; rintro e w1 ⟨rfl, hb1⟩; have HB1 := hid hb1; clear hb1)
    go_ret
    exact ⟨ret_bl HR.out.symm, by first | exact HB1.out | exact ((Below.refl _ _).alloc (Nat.le_refl _) _).trans (HB1.out.mono (by simp))⟩
  · have e1 : (s.toList == [97, 98, 115]) = false := lit_ne ea
    have HR : Hid ((decide (s = nAbs) && b) = false) := by unfold Hid; simp [ea]
    clear ea
    go_enter Tryz.func116, Tryz.ntmps116
    go_wp2
    go_ret
    exact ⟨ret_bl HR.out.symm, (by first | exact Below.refl _ _ | exact (Below.refl _ _).alloc (Nat.le_refl _) _ | exact ((Below.refl _ _).alloc (Nat.le_refl _) _).alloc (by simp) _ | exact (((Below.refl _ _).alloc (Nat.le_refl _) _).alloc (by simp) _).alloc (by simp; omega) _)⟩
set_option maxHeartbeats 4000000 in
set_option maxRecDepth 100000 in
theorem cs_op (s : ByteArray) (q : R) (qt : TypeId) (qx : Value) (qu : TypeId) (qy : Value) (b : Bool) (w : World) (hc : ∀ wy, Below w.heap.size w wy → Calls Tryz.prog 88 #[vopNode q (.iface qt qx) (.iface qu qy)] wy fun e w' => e = .returned (.bool b) ∧ Below wy.heap.size wy w') : Calls Tryz.prog 116 #[.string s, vopNode q (.iface qt qx) (.iface qu qy)] w fun e w' => e = .returned (.bool (decide (s = nAbs) && b)) ∧ Below w.heap.size w w' := by
  have ty0 := ty_op_range
  have ty1 := ty_op_sel
  have HC := hid hc
  clear hc
  by_cases ea : s = nAbs
  · have e1 : (s.toList == [97, 98, 115]) = true := lit_eq ea
    have HR : Hid ((decide (s = nAbs) && b) = b) := by unfold Hid; simp [ea]
    clear ea
    go_enter Tryz.func116, Tryz.ntmps116
    go_wp2_with (go_at_call 88; refine (HC.out _ (by first | exact Below.refl _ _ | exact (Below.refl _ _).alloc (Nat.le_refl _) _ | exact ((Below.refl _ _).alloc (Nat.le_refl _) _).alloc (by simp) _ | exact (((Below.refl _ _).alloc (Nat.le_refl _) _).alloc (by simp) _).alloc (by simp; omega) _)).mono ?_; rintro e w1 ⟨rfl, hb1⟩; have HB1 := hid hb1; clear hb1)
    go_ret
    exact ⟨ret_bl HR.out.symm, by first | exact HB1.out | exact ((Below.refl _ _).alloc (Nat.le_refl _) _).trans (HB1.out.mono (by simp))⟩
  · have e1 : (s.toList == [97, 98, 115]) = false := lit_ne ea
    have HR : Hid ((decide (s = nAbs) && b) = false) := by unfold Hid; simp [ea]
    clear ea
    go_enter Tryz.func116, Tryz.ntmps116
    go_wp2
    go_ret
    exact ⟨ret_bl HR.out.symm, (by first | exact Below.refl _ _ | exact (Below.refl _ _).alloc (Nat.le_refl _) _ | exact ((Below.refl _ _).alloc (Nat.le_refl _) _).alloc (by simp) _ | exact (((Below.refl _ _).alloc (Nat.le_refl _) _).alloc (by simp) _).alloc (by simp; omega) _)⟩
set_option maxHeartbeats 4000000 in
set_option maxRecDepth 100000 in
theorem cs_agg (s : ByteArray) (q : R) (qa : Option Addr) (qn qc : Nat) (b : Bool) (w : World) (hc : ∀ wy, Below w.heap.size w wy → Calls Tryz.prog 88 #[vaggNode q qa qn qc] wy fun e w' => e = .returned (.bool b) ∧ Below wy.heap.size wy w') : Calls Tryz.prog 116 #[.string s, vaggNode q qa qn qc] w fun e w' => e = .returned (.bool (decide (s = nAbs) && b)) ∧ Below w.heap.size w w' := by
  have ty0 := ty_agg_range
  have ty1 := ty_agg_sel
  have HC := hid hc
  clear hc
  by_cases ea : s = nAbs
  · have e1 : (s.toList == [97, 98, 115]) = true := lit_eq ea
    have HR : Hid ((decide (s = nAbs) && b) = b) := by unfold Hid; simp [ea]
    clear ea
    go_enter Tryz.func116, Tryz.ntmps116
    go_wp2_with (go_at_call 88; refine (HC.out _ (by first | exact Below.refl _ _ | exact (Below.refl _ _).alloc (Nat.le_refl _) _ | exact ((Below.refl _ _).alloc (Nat.le_refl _) _).alloc (by simp) _ | exact (((Below.refl _ _).alloc (Nat.le_refl _) _).alloc (by simp) _).alloc (by simp; omega) _)).mono ?_; rintro e w1 ⟨rfl, hb1⟩; have HB1 := hid hb1; clear hb1)
    go_ret
    exact ⟨ret_bl HR.out.symm, by first | exact HB1.out | exact ((Below.refl _ _).alloc (Nat.le_refl _) _).trans (HB1.out.mono (by simp))⟩
  · have e1 : (s.toList == [97, 98, 115]) = false := lit_ne ea
    have HR : Hid ((decide (s = nAbs) && b) = false) := by unfold Hid; simp [ea]
    clear ea
    go_enter Tryz.func116, Tryz.ntmps116
    go_wp2
    go_ret
    exact ⟨ret_bl HR.out.symm, (by first | exact Below.refl _ _ | exact (Below.refl _ _).alloc (Nat.le_refl _) _ | exact ((Below.refl _ _).alloc (Nat.le_refl _) _).alloc (by simp) _ | exact (((Below.refl _ _).alloc (Nat.le_refl _) _).alloc (by simp) _).alloc (by simp; omega) _)⟩
set_option maxHeartbeats 4000000 in
set_option maxRecDepth 100000 in
theorem cs_call (s : ByteArray) (q : R) (qa : Option Addr) (qn qc : Nat) (b : Bool) (w : World) (hc : ∀ wy, Below w.heap.size w wy → Calls Tryz.prog 88 #[vcallNode q qa qn qc] wy fun e w' => e = .returned (.bool b) ∧ Below wy.heap.size wy w') : Calls Tryz.prog 116 #[.string s, vcallNode q qa qn qc] w fun e w' => e = .returned (.bool (decide (s = nAbs) && b)) ∧ Below w.heap.size w w' := by
  have ty0 := ty_call_range
  have ty1 := ty_call_sel
  have HC := hid hc
  clear hc
  by_cases ea : s = nAbs
  · have e1 : (s.toList == [97, 98, 115]) = true := lit_eq ea
    have HR : Hid ((decide (s = nAbs) && b) = b) := by unfold Hid; simp [ea]
    clear ea
    go_enter Tryz.func116, Tryz.ntmps116
    go_wp2_with (go_at_call 88; refine (HC.out _ (by first | exact Below.refl _ _ | exact (Below.refl _ _).alloc (Nat.le_refl _) _ | exact ((Below.refl _ _).alloc (Nat.le_refl _) _).alloc (by simp) _ | exact (((Below.refl _ _).alloc (Nat.le_refl _) _).alloc (by simp) _).alloc (by simp; omega) _)).mono ?_; rintro e w1 ⟨rfl, hb1⟩; have HB1 := hid hb1; clear hb1)
    go_ret
    exact ⟨ret_bl HR.out.symm, by first | exact HB1.out | exact ((Below.refl _ _).alloc (Nat.le_refl _) _).trans (HB1.out.mono (by simp))⟩
  · have e1 : (s.toList == [97, 98, 115]) = false := lit_ne ea
    have HR : Hid ((decide (s = nAbs) && b) = false) := by unfold Hid; simp [ea]
    clear ea
    go_enter Tryz.func116, Tryz.ntmps116
    go_wp2
    go_ret
    exact ⟨ret_bl HR.out.symm, (by first | exact Below.refl _ _ | exact (Below.refl _ _).alloc (Nat.le_refl _) _ | exact ((Below.refl _ _).alloc (Nat.le_refl _) _).alloc (by simp) _ | exact (((Below.refl _ _).alloc (Nat.le_refl _) _).alloc (by simp) _).alloc (by simp; omega) _)⟩
/-- What is said of a call of isBySeries. -/
def BsOk (n : Nat) : Prop := ∀ (t : Tr) (v : Value) (w0 : World) (S : Nat → Prop) (w : World) (d : Nat), n + d = 12 → Gt N1 d t → Gt N2 d t → Nv w0 S w t v → Below w0.heap.size w0 w → Tabs w → Calls Tryz.prog 88 #[v] w fun e w' => e = .returned (.bool (byT clP t)) ∧ Below w.heap.size w w'
theorem f116 (n : Nat) (ih : BsOk n) (s : ByteArray) (t : Tr) (v : Value) (w0 : World) (S : Nat → Prop) (w : World) (d : Nat) (hd : n + d = 12) (hg1 : Gt N1 d t) (hg2 : Gt N2 d t) (hv : Nv w0 S w t v) (hb : Below w0.heap.size w0 w) (ht : Tabs w) :
    Calls Tryz.prog 116 #[.string s, v] w fun e w' => e = .returned (.bool (clP s t (byT clP t))) ∧ Below w.heap.size w w' := by
  have hc : ∀ y, Below w.heap.size w y → Calls Tryz.prog 88 #[v] y fun e w' => e = .returned (.bool (byT clP t)) ∧ Below y.heap.size y w' := fun y hy => ih t v w0 S y d hd hg1 hg2 (Nv.agr (Agr.below hy) t v hv) (hb.trans (hy.mono hb.size)) (ht.below hy)
  generalize hbt : byT clP t = b at hc ⊢
  obtain ⟨r, ks⟩ := t
  simp only [Nv] at hv
  obtain ⟨q, vs, rfl, _, hnl, hsh⟩ := hv
  cases hsh with
  | num h => rw [show clP s (.nd (pl q) ks) b = (decide (s = nAbs) && b) from by unfold clP; simp [pl, h]]; exact cs_num s q b w hc
  | text h => rw [show clP s (.nd (pl q) ks) b = (decide (s = nAbs) && b) from by unfold clP; simp [pl, h]]; exact cs_text s q b w hc
  | sel h => rw [show clP s (.nd (pl q) ks) b = (!q.tx.toList.isEmpty && (decide (s = nAbs) || decide (s = nStamp))) from by unfold clP; simp [pl, h]]; exact cs_sel s q w
  | range h p =>
    obtain ⟨t, rfl, ht2⟩ := one_kid hnl
    obtain ⟨rk, kk⟩ := t
    simp only [Nv] at ht2
    obtain ⟨p2, us, rfl, _, _, hs2⟩ := ht2
    rw [show clP s (.nd (pl q) [.nd (pl p2) kk]) b = !p2.tx.toList.isEmpty from by unfold clP; simp [pl, h]]
    rw [← sel_tx hs2]
    exact cs_range s q p w
  | sub h tt x => rw [show clP s (.nd (pl q) ks) b = (decide (s = nAbs) && b) from by unfold clP; simp [pl, h]]; exact cs_sub s q tt x b w hc
  | neg h tt x => rw [show clP s (.nd (pl q) ks) b = (decide (s = nAbs) && b) from by unfold clP; simp [pl, h]]; exact cs_neg s q tt x b w hc
  | op h tt x uu y => rw [show clP s (.nd (pl q) ks) b = (decide (s = nAbs) && b) from by unfold clP; simp [pl, h]]; exact cs_op s q tt x uu y b w hc
  | agg h vs a c hv => rw [show clP s (.nd (pl q) ks) b = (decide (s = nAbs) && b) from by unfold clP; simp [pl, h]]; exact cs_agg s q a _ c b w hc
  | call h vs a c hv => rw [show clP s (.nd (pl q) ks) b = (decide (s = nAbs) && b) from by unfold clP; simp [pl, h]]; exact cs_call s q a _ c b w hc
set_option maxHeartbeats 4000000 in
set_option maxRecDepth 100000 in
theorem bs_num (q : R) (w : World) : Calls Tryz.prog 88 #[vnumNode q] w fun e w' => e = .returned (.bool false) ∧ Below w.heap.size w w' := by
  have ty0 := ty_num_sel
  have ty1 := ty_num_neg
  have ty2 := ty_num_op
  have ty3 := ty_num_call
  go_enter Tryz.func88, Tryz.ntmps88
  go_wp2
  go_ret
  exact ⟨rfl, (by first | exact Below.refl _ _ | exact (Below.refl _ _).alloc (Nat.le_refl _) _ | exact ((Below.refl _ _).alloc (Nat.le_refl _) _).alloc (by simp) _ | exact (((Below.refl _ _).alloc (Nat.le_refl _) _).alloc (by simp) _).alloc (by simp; omega) _)⟩
set_option maxHeartbeats 4000000 in
set_option maxRecDepth 100000 in
theorem bs_text (q : R) (w : World) : Calls Tryz.prog 88 #[vtextNode q] w fun e w' => e = .returned (.bool false) ∧ Below w.heap.size w w' := by
  have ty0 := ty_text_sel
  have ty1 := ty_text_neg
  have ty2 := ty_text_op
  have ty3 := ty_text_call
  go_enter Tryz.func88, Tryz.ntmps88
  go_wp2
  go_ret
  exact ⟨rfl, (by first | exact Below.refl _ _ | exact (Below.refl _ _).alloc (Nat.le_refl _) _ | exact ((Below.refl _ _).alloc (Nat.le_refl _) _).alloc (by simp) _ | exact (((Below.refl _ _).alloc (Nat.le_refl _) _).alloc (by simp) _).alloc (by simp; omega) _)⟩
set_option maxHeartbeats 4000000 in
set_option maxRecDepth 100000 in
theorem bs_range (q : R) (qs : R) (w : World) : Calls Tryz.prog 88 #[vrangeNode q qs] w fun e w' => e = .returned (.bool false) ∧ Below w.heap.size w w' := by
  have ty0 := ty_range_sel
  have ty1 := ty_range_neg
  have ty2 := ty_range_op
  have ty3 := ty_range_call
  go_enter Tryz.func88, Tryz.ntmps88
  go_wp2
  go_ret
  exact ⟨rfl, (by first | exact Below.refl _ _ | exact (Below.refl _ _).alloc (Nat.le_refl _) _ | exact ((Below.refl _ _).alloc (Nat.le_refl _) _).alloc (by simp) _ | exact (((Below.refl _ _).alloc (Nat.le_refl _) _).alloc (by simp) _).alloc (by simp; omega) _)⟩
set_option maxHeartbeats 4000000 in
set_option maxRecDepth 100000 in
theorem bs_sub (q : R) (qt : TypeId) (qx : Value) (w : World) : Calls Tryz.prog 88 #[vsubNode q (.iface qt qx)] w fun e w' => e = .returned (.bool false) ∧ Below w.heap.size w w' := by
  have ty0 := ty_sub_sel
  have ty1 := ty_sub_neg
  have ty2 := ty_sub_op
  have ty3 := ty_sub_call
  go_enter Tryz.func88, Tryz.ntmps88
  go_wp2
  go_ret
  exact ⟨rfl, (by first | exact Below.refl _ _ | exact (Below.refl _ _).alloc (Nat.le_refl _) _ | exact ((Below.refl _ _).alloc (Nat.le_refl _) _).alloc (by simp) _ | exact (((Below.refl _ _).alloc (Nat.le_refl _) _).alloc (by simp) _).alloc (by simp; omega) _)⟩
set_option maxHeartbeats 4000000 in
set_option maxRecDepth 100000 in
theorem bs_agg (q : R) (qa : Option Addr) (qn qc : Nat) (w : World) : Calls Tryz.prog 88 #[vaggNode q qa qn qc] w fun e w' => e = .returned (.bool false) ∧ Below w.heap.size w w' := by
  have ty0 := ty_agg_sel
  have ty1 := ty_agg_neg
  have ty2 := ty_agg_op
  have ty3 := ty_agg_call
  go_enter Tryz.func88, Tryz.ntmps88
  go_wp2
  go_ret
  exact ⟨rfl, (by first | exact Below.refl _ _ | exact (Below.refl _ _).alloc (Nat.le_refl _) _ | exact ((Below.refl _ _).alloc (Nat.le_refl _) _).alloc (by simp) _ | exact (((Below.refl _ _).alloc (Nat.le_refl _) _).alloc (by simp) _).alloc (by simp; omega) _)⟩
set_option maxHeartbeats 4000000 in
set_option maxRecDepth 100000 in
theorem bs_sel (q : R) (w : World) : Calls Tryz.prog 88 #[vselectNode q] w fun e w' => e = .returned (.bool (!q.tx.toList.isEmpty)) ∧ Below w.heap.size w w' := by
  have ty0 := ty_sel_sel
  cases hp : q.tx.toList.isEmpty
  · go_enter Tryz.func88, Tryz.ntmps88
    go_wp2
    go_ret
    exact ⟨ret_bl (by simp_all), (by first | exact Below.refl _ _ | exact (Below.refl _ _).alloc (Nat.le_refl _) _ | exact ((Below.refl _ _).alloc (Nat.le_refl _) _).alloc (by simp) _ | exact (((Below.refl _ _).alloc (Nat.le_refl _) _).alloc (by simp) _).alloc (by simp; omega) _)⟩
  · go_enter Tryz.func88, Tryz.ntmps88
    go_wp2
    go_ret
    exact ⟨ret_bl (by simp_all), (by first | exact Below.refl _ _ | exact (Below.refl _ _).alloc (Nat.le_refl _) _ | exact ((Below.refl _ _).alloc (Nat.le_refl _) _).alloc (by simp) _ | exact (((Below.refl _ _).alloc (Nat.le_refl _) _).alloc (by simp) _).alloc (by simp; omega) _)⟩
set_option maxHeartbeats 4000000 in
set_option maxRecDepth 100000 in
theorem bs_neg (q : R) (tt : TypeId) (x : Value) (b : Bool) (w : World) (hc : ∀ wy, Below w.heap.size w wy → Calls Tryz.prog 88 #[.iface tt x] wy fun e w' => e = .returned (.bool b) ∧ Below wy.heap.size wy w') : Calls Tryz.prog 88 #[vnegNode q (.iface tt x)] w fun e w' => e = .returned (.bool b) ∧ Below w.heap.size w w' := by
  have ty0 := ty_neg_sel
  have ty1 := ty_neg_neg
  have HC := hid hc
  clear hc
  go_enter Tryz.func88, Tryz.ntmps88
  go_wp2_with (go_at_call 88; refine (HC.out _ (by first | exact Below.refl _ _ | exact (Below.refl _ _).alloc (Nat.le_refl _) _ | exact ((Below.refl _ _).alloc (Nat.le_refl _) _).alloc (by simp) _ | exact (((Below.refl _ _).alloc (Nat.le_refl _) _).alloc (by simp) _).alloc (by simp; omega) _)).mono ?_; rintro e w1 ⟨rfl, hb1⟩; have HB1 := hid hb1; clear hb1)
  go_ret
  exact ⟨rfl, by first | exact HB1.out | exact ((Below.refl _ _).alloc (Nat.le_refl _) _).trans (HB1.out.mono (by simp))⟩
end Go.Proofs.YtbdlahhejfamhaaGreatDoor.Qry
