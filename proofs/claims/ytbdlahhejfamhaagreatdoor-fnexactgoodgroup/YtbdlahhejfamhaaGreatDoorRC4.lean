/- The program grows a tree out of rows. -/
import Derived.Test.YtbdlahhejfamhaaGreatDoorRB2
import Derived.Test.YtbdlahhejfamhaaGreatDoorRQpk
import Derived.Test.YtbdlahhejfamhaaGreatDoorRB3
import Derived.Test.YtbdlahhejfamhaaGreatDoorRB4
import Derived.Test.YtbdlahhejfamhaaGreatDoorRB5
import Derived.Maps.AppendAt
import Derived.OwnWalk
import Derived.Deep.RegionHeld3
import Derived.Deep.CutRange
namespace Go.Proofs.YtbdlahhejfamhaaGreatDoor.Qry
open Go.RowKit
open Go.Proofs.YtbdlahhejfamhaaGreatDoor.Pat (ret_bool)

mutual
theorem gt1_any : ∀ (t : Tr) (d d' : Nat), Gt N1 d t → Gt N1 d' t
  | .nd r ks, d, d', h => by
    simp only [Gt] at h ⊢
    exact ⟨h.1, h.2.1, gtL1_any ks _ _ h.2.2⟩
theorem gtL1_any : ∀ (ts : List Tr) (d d' : Nat), GtL N1 d ts → GtL N1 d' ts
  | [], _, _, _ => by simp [GtL]
  | t :: ts, d, d', h => by
    simp only [GtL] at h ⊢
    exact ⟨gt1_any t d d' h.1, gtL1_any ts d d' h.2⟩
end
/-- There is no tree of this row where its kids are these and such a node is none. -/
theorem no_node {d : Nat} {r : Pl} {ks : List Tr} {rest : List Pl} (hks : GtL N1 (d + 1) ks) (hj : (ks.length : Int) ≤ r.kc ∨ ks.length = 0) (hend : ¬ (ks.length : Int) < r.kc) (h : (ks.length : Int) = r.kc → ¬ N1 d r ks) : ∀ t x, r :: (rowsL ks ++ rest) = rows t ++ x → ¬ Gt N1 d t := by
  rintro ⟨r', ks'⟩ x e ⟨h1, h2, h3⟩
  simp only [rows, List.cons_append, List.cons.injEq] at e
  obtain ⟨rfl, e⟩ := e
  by_cases hl : (ks.length : Int) = r.kc
  · obtain ⟨rfl, _⟩ := rowsL_one N1 N1 ks ks' _ _ _ _ (by omega) hks h3 e
    exact h hl h2
  · omega
/-- What a node's kind has of its row. -/
theorem f104 {S : Nat → Prop} {w1 : World} {q : R} {vs : List Value} {v : Value} (h : Sh S w1 q vs v) (w : World) : Calls Tryz.prog 104 #[v] w fun e w' => ∃ t, e = .returned (agR t) ∧ (Eqm q t ↔ told (pl q)) ∧ Below w.heap.size w w' := by
  cases h with
  | num h => exact (told_num q w).mono fun e w' ⟨h1, h2⟩ => ⟨_, h1, eqm_1 h, h2⟩
  | text h => exact (told_text q w).mono fun e w' ⟨h1, h2⟩ => ⟨_, h1, eqm_2 h, h2⟩
  | sel h => exact (told_sel q w).mono fun e w' ⟨h1, h2⟩ => ⟨_, h1, eqm_3 h, h2⟩
  | range h p => exact (told_range q p w).mono fun e w' ⟨h1, h2⟩ => ⟨_, h1, eqm_4 h, h2⟩
  | sub h tt x => exact (told_sub q tt x w).mono fun e w' ⟨h1, h2⟩ => ⟨_, h1, eqm_5 h, h2⟩
  | neg h tt x => exact (told_neg q tt x w).mono fun e w' ⟨h1, h2⟩ => ⟨_, h1, eqm_6 h, h2⟩
  | op h tt x uu y => exact (told_op q tt x uu y w).mono fun e w' ⟨h1, h2⟩ => ⟨_, h1, eqm_7 h, h2⟩
  | agg h _ a c hv => exact (told_agg q a _ c w).mono fun e w' ⟨h1, h2⟩ => ⟨_, h1, eqm_8 h, h2⟩
  | call h _ a c hv => exact (told_call q a _ c w).mono fun e w' ⟨h1, h2⟩ => ⟨_, h1, eqm_9 h, h2⟩
/-- Where the rest of rows lies. -/
def Lies (a0 : Option Addr) (rs rest : List R) (a : Option Addr) : Prop := rest = [] ∨ ∃ b off, a0 = some ⟨b, off, none⟩ ∧ a = some ⟨b, off + 15 * (rs.length - rest.length), none⟩
theorem Lies.trans {a0 a1 a2 : Option Addr} {rs tl rest : List R} (h1 : Lies a0 rs tl a1) (h2 : Lies a1 tl rest a2) (l1 : tl.length ≤ rs.length) (l2 : rest.length ≤ tl.length) : Lies a0 rs rest a2 := by
  rcases h2 with h2 | ⟨b, off, e1, e2⟩
  · exact .inl h2
  rcases h1 with h1 | ⟨b', off', e3, e4⟩
  · subst h1; exact .inl (List.length_eq_zero_iff.1 (by simpa using l2))
  · rw [e4] at e1
    obtain ⟨rfl, rfl⟩ : b' = b ∧ off' + 15 * (rs.length - tl.length) = off := by simpa using e1
    exact .inr ⟨b', off', e3, by rw [e2]; congr 2; omega⟩
theorem HasR.lies {w : World} {a0 a : Option Addr} {rs rest : List R} (h : HasR w a0 rs) (hs : rest <:+ rs) (hl : Lies a0 rs rest a) : HasR w a rest := by
  obtain ⟨pre, rfl⟩ := hs
  rcases hl with hl | ⟨b, off, rfl, rfl⟩
  · exact .inl hl
  rcases h with h | ⟨b', off', h1, h2, h3⟩
  · exact .inl (by simp at h; exact h.2)
  · obtain ⟨rfl, rfl⟩ : b = b' ∧ off = off' := by simpa using h1
    refine .inr ⟨b, _, rfl, h2, fun i hi => ?_⟩
    have := h3 (pre.length + i) (by simp; omega)
    rw [show (pre ++ rest).getD (pre.length + i) r0 = rest.getD i r0 from by simp [List.getElem?_append_right]] at this
    rw [show off + 15 * ((pre ++ rest).length - rest.length) + i * 15 = off + (pre.length + i) * 15 from by rw [List.length_append, Nat.add_sub_cancel]; omega]
    exact this
/-- What the call of grow leaves. -/
def GrR (w0 : World) (a0 : Option Addr) (rs : List R) (w : World) (e : Ending) (w' : World) : Prop :=
  Below w.heap.size w w' ∧ ((e = .returned (.tuple #[.nilIface, .slice none 0 0, .bool false]) ∧ ∀ d t x, rs.map pl = rows t ++ x → ¬ Gt N1 d t) ∨
    ∃ t v rest a c, e = .returned (.tuple #[v, .slice a rest.length c, .bool true]) ∧ rest <:+ rs ∧ rest.length < rs.length ∧ rs.map pl = rows t ++ rest.map pl ∧ Gt N1 0 t ∧ Nv w0 (fun b => w.heap.size ≤ b ∧ b < w'.heap.size) w' t v ∧ Lies a0 rs rest a ∧ rest.length ≤ c ∧ c ≤ maxLen)
/-- The kids that have grown, in the world wr. -/
structure Gs (w0 W1 : World) (B : Nat) (ks : List Tr) (vs : List Value) (ak : Option Addr) (ck : Nat) (wr : World) : Prop where
  bel : Below (B + 1) W1 wr
  row : wr.ownsRow (B + 1) 64 1 (.slice ak vs.length ck) vs.length vs
  nv : NvL w0 (fun b => B < b ∧ b < wr.heap.size ∧ (Value.slice ak vs.length ck).ownBlock ≠ some b) wr ks vs
theorem Gs.all {w0 W1 wr : World} {B ck : Nat} {ks : List Tr} {vs : List Value} {ak : Option Addr} (h : Gs w0 W1 B ks vs ak ck wr) : NvL w0 (fun b => B ≤ b ∧ b < wr.heap.size) wr ks vs ∧ HasV (fun b => B ≤ b ∧ b < wr.heap.size) wr ak vs := by
  refine ⟨NvL.agr (S := fun b => B < b ∧ b < wr.heap.size ∧ (Value.slice ak vs.length ck).ownBlock ≠ some b) ⟨Nat.le_refl _, fun _ _ _ => rfl, fun b hb => ⟨by omega, hb.2.1⟩⟩ ks vs h.nv, ?_⟩
  rcases h.row.2 with ⟨_, h2⟩ | ⟨g, cap, cur, h1, h2, h3, h4, h5, h6, h7⟩
  · exact .inl (List.length_eq_zero_iff.1 h2)
  · simp only [Value.slice.injEq] at h1
    refine .inr ⟨g, 0, h1.1, ⟨by omega, (Array.getElem?_eq_some_iff.1 h3).1⟩, (Array.getElem?_eq_some_iff.1 h3).1, fun i hi => ?_⟩
    rw [Nat.zero_add]
    simp only [World.cell?, h3]
    have e : vs[i]? = cur.toList[i]? := by
      have := congrArg (fun l => l[i]?) h7
      simp only [List.getElem?_take] at this
      rw [if_pos (by omega)] at this
      exact this.symm
    rw [e]
    simp
theorem Gs.next {w0 W1 wr w2 w3 w4 : World} {B ck c3 : Nat} {ks : List Tr} {vs : List Value} {ak a3 : Option Addr} {t : Tr} {v : Value} (h : Gs w0 W1 B ks vs ak ck wr) (hs : B + 1 ≤ wr.heap.size)
    (hb : Below wr.heap.size wr w2) (hn : Nv w0 (fun b => wr.heap.size ≤ b ∧ b < w2.heap.size) w2 t v) (h3 : w3 = w2.alloc (.cells #[v] 64))
    (hg : w3.grownBy w4 (Value.slice ak vs.length ck).ownBlock) (ho : w4.ownsRow (B + 1) 64 1 (.slice a3 (vs.length + 1) c3) (vs.length + 1) (vs ++ [v])) (hd : (Value.slice a3 (vs.length + 1) c3).ownBlock = (Value.slice ak vs.length ck).ownBlock ∨ (Value.slice a3 (vs.length + 1) c3).ownBlock = some w3.heap.size) : Gs w0 W1 B (ks ++ [t]) (vs ++ [v]) a3 c3 w4 := by
  subst h3
  have hb3 : Below wr.heap.size wr (w2.alloc (.cells #[v] 64)) := hb.alloc hb.size _
  have hsz : (w2.alloc (.cells #[v] 64)).heap.size = w2.heap.size + 1 := by simp
  have hlt : ∀ g, (Value.slice ak vs.length ck).ownBlock = some g → B + 1 ≤ g ∧ g < wr.heap.size := fun g e => h.row.lt g e
  have hs2 := hb.size
  have hs4 := hg.size
  have hlen : (vs ++ [v]).length = vs.length + 1 := by simp
  refine ⟨?_, ?_, ?_⟩
  · exact (h.bel.trans (hb3.mono hs)).grown hg (by omega) (fun g e => (hlt g e).1)
  · rw [hlen]; exact ho
  · rw [hlen]
    refine NvL.snoc ?_ ks vs ?_
    · refine Nv.agr (S := fun b => wr.heap.size ≤ b ∧ b < w2.heap.size) ⟨by omega, fun b hb1 hb2 => ?_, fun b hb1 => ⟨by omega, by omega, ?_⟩⟩ t v hn
      · refine (hg.block b (by omega) (fun e => ?_)).trans (Below.heap_alloc _ _ _ hb2)
        have := hlt b e.symm; omega
      · intro e
        rcases hd with hd | hd
        · rw [hd] at e; have := hlt b e; omega
        · rw [hd] at e; simp at e; omega
    · refine NvL.agr (S := fun b => B < b ∧ b < wr.heap.size ∧ (Value.slice ak vs.length ck).ownBlock ≠ some b) ⟨by omega, fun b hb1 hb2 => ?_, fun b hb1 => ⟨hb1.1, by omega, ?_⟩⟩ ks vs h.nv
      · exact (hg.block b (by omega) (fun e => hb1.2.2 e.symm)).trans (hb3.block b hb2)
      · intro e
        rcases hd with hd | hd
        · rw [hd] at e; exact hb1.2.2 e
        · rw [hd] at e; simp at e; omega
end Go.Proofs.YtbdlahhejfamhaaGreatDoor.Qry
/- The program grows a tree out of rows: the walk. -/
namespace Go.Proofs.YtbdlahhejfamhaaGreatDoor.Qry
open Go.RowKit
open Go.Proofs.YtbdlahhejfamhaaGreatDoor.Pat (ret_bool)

/-- The first region: the row is copied into a box, the rest is cut. -/
def GrowOk (m : Nat) : Prop := ∀ (rs : List R) (a : Option Addr) (c : Nat) (w0 w : World), rs.length ≤ m → rs.length ≤ 60 → rs.length ≤ c → c ≤ maxLen → HasR w a rs → (∀ q ∈ rs, Rw w0 q) → Below w0.heap.size w0 w → Calls Tryz.prog 66 #[.slice a rs.length c] w (GrR w0 a rs w)
theorem own_belowQ {w w' : World} {base e size n : Nat} {v : Value} {xs : List Value} (h : w.ownsRow base e size v n xs) (hb : Below w.heap.size w w') : w'.ownsRow base e size v n xs := by
  refine ⟨h.1, ?_⟩
  rcases h.2 with h | ⟨g, cap, cur, e1, e2, e3, e4⟩
  · exact .inl h
  · exact .inr ⟨g, cap, cur, e1, e2, (hb.block g (Array.getElem?_eq_some_iff.1 e3).1).trans e3, e4⟩
abbrev GB (w : World) (B : Nat) (q : R) (w' : World) : Prop := w'.cell? ⟨B, 0, none⟩ = some (.int .i64 q.kd) ∧ w'.cell? ⟨B, 1, none⟩ = some (.int .i64 q.nu) ∧ w'.cell? ⟨B, 2, none⟩ = some (.int .i64 q.st) ∧ w'.cell? ⟨B, 3, none⟩ = some (.string q.tx) ∧ w'.cell? ⟨B, 4, none⟩ = some (.int .i64 q.op) ∧ w'.cell? ⟨B, 5, none⟩ = some (.slice q.ma q.ms.length q.mc) ∧ w'.cell? ⟨B, 6, none⟩ = some (.int .i64 q.off) ∧ w'.cell? ⟨B, 7, none⟩ = some (.bool q.fx) ∧ w'.cell? ⟨B, 8, none⟩ = some (.int .i64 q.att) ∧ w'.cell? ⟨B, 9, none⟩ = some (.bool q.bo) ∧ w'.cell? ⟨B, 10, none⟩ = some (.int .i64 q.byy) ∧ w'.cell? ⟨B, 11, none⟩ = some (.slice q.na q.ns.length q.nc) ∧ w'.cell? ⟨B, 12, none⟩ = some (.int .i64 q.sd) ∧ w'.cell? ⟨B, 13, none⟩ = some (.slice q.ea q.es.length q.ec) ∧ w'.cell? ⟨B, 14, none⟩ = some (.int .i64 q.kc) ∧ w'.heap[B]? = some (.cells #[.int .i64 q.kd, .int .i64 q.nu, .int .i64 q.st, .string q.tx, .int .i64 q.op, .slice q.ma q.ms.length q.mc, .int .i64 q.off, .bool q.fx, .int .i64 q.att, .bool q.bo, .int .i64 q.byy, .slice q.na q.ns.length q.nc, .int .i64 q.sd, .slice q.ea q.es.length q.ec, .int .i64 q.kc] 55) ∧ Below w.heap.size w w'
theorem GB.of {w w' : World} {B : Nat} {q : R} (h : w'.heap[B]? = some (.cells #[.int .i64 q.kd, .int .i64 q.nu, .int .i64 q.st, .string q.tx, .int .i64 q.op, .slice q.ma q.ms.length q.mc, .int .i64 q.off, .bool q.fx, .int .i64 q.att, .bool q.bo, .int .i64 q.byy, .slice q.na q.ns.length q.nc, .int .i64 q.sd, .slice q.ea q.es.length q.ec, .int .i64 q.kc] 55)) (hb : Below w.heap.size w w') : GB w B q w' := by
  obtain ⟨c0, c1, c2, c3, c4, c5, c6, c7, c8, c9, c10, c11, c12, c13, c14⟩ := fifteen h
  exact ⟨c0, c1, c2, c3, c4, c5, c6, c7, c8, c9, c10, c11, c12, c13, c14, h, hb⟩
theorem GB.hb {w w' : World} {B : Nat} {q : R} (h : GB w B q w') : w'.heap[B]? = some (.cells #[.int .i64 q.kd, .int .i64 q.nu, .int .i64 q.st, .string q.tx, .int .i64 q.op, .slice q.ma q.ms.length q.mc, .int .i64 q.off, .bool q.fx, .int .i64 q.att, .bool q.bo, .int .i64 q.byy, .slice q.na q.ns.length q.nc, .int .i64 q.sd, .slice q.ea q.es.length q.ec, .int .i64 q.kc] 55) ∧ Below w.heap.size w w' := by
  obtain ⟨_, _, _, _, _, _, _, _, _, _, _, _, _, _, _, h, hb⟩ := h
  exact ⟨h, hb⟩
theorem GB.drew {w w' : World} {B : Nat} {q : R} (h : GB w B q w') : GB w B q w'.drew := GB.of h.hb.1 h.hb.2.drew
theorem GB.next {w w' w2 : World} {B : Nat} {q : R} (h : GB w B q w') (hb : Below w'.heap.size w' w2) : GB w B q w2 := GB.of (kept h.hb.1 hb) (h.hb.2.trans (hb.mono h.hb.2.size))
theorem infoN : (Tryz.prog.info? 64).map (fun i => (i.zero, i.size, i.bytes)) = some (some .nilIface, 1, 16) := by kernel_rfl
set_option maxHeartbeats 8000000 in
set_option maxRecDepth 100000 in
theorem grow_step (m : Nat) (IH : GrowOk m) (q : R) (tl : List R) (a : Option Addr) (c : Nat) (w0 w : World) (hm : tl.length ≤ m) (h60 : tl.length + 1 ≤ 60) (hc : tl.length + 1 ≤ c) (hcm : c ≤ maxLen) (hr : HasR w a (q :: tl)) (hrw : ∀ p ∈ q :: tl, Rw w0 p) (hb0 : Below w0.heap.size w0 w) : Calls Tryz.prog 66 #[.slice a (tl.length + 1) c] w (GrR w0 a (q :: tl) w) := by
  obtain ⟨b, off, rfl, hbl, hcl, hlst⟩ := hr.at2 0 (by simp)
  have hcl' : Cells w b off q := by simpa using hcl
  obtain ⟨c0, c1, c2, c3, c4, c5, c6, c7, c8, c9, c10, c11, c12, c13, c14⟩ := hcl'.all
  have HR := hid hr
  have HRW := hid hrw
  have HB0 := hid hb0
  have HIH := hid IH
  have HC := hid hc
  unfold maxLen at hcm
  clear hr hrw hb0 IH hcl hlst hcl'
  have HS : ((fun w' => w'.cell? ⟨b, off, none⟩ = some (.int .i64 q.kd) ∧ w'.cell? ⟨b, off + 1, none⟩ = some (.int .i64 q.nu) ∧ w'.cell? ⟨b, off + 2, none⟩ = some (.int .i64 q.st) ∧ w'.cell? ⟨b, off + 3, none⟩ = some (.string q.tx) ∧ w'.cell? ⟨b, off + 4, none⟩ = some (.int .i64 q.op) ∧ w'.cell? ⟨b, off + 5, none⟩ = some (.slice q.ma q.ms.length q.mc) ∧ w'.cell? ⟨b, off + 6, none⟩ = some (.int .i64 q.off) ∧ w'.cell? ⟨b, off + 7, none⟩ = some (.bool q.fx) ∧ w'.cell? ⟨b, off + 8, none⟩ = some (.int .i64 q.att) ∧ w'.cell? ⟨b, off + 9, none⟩ = some (.bool q.bo) ∧ w'.cell? ⟨b, off + 10, none⟩ = some (.int .i64 q.byy) ∧ w'.cell? ⟨b, off + 11, none⟩ = some (.slice q.na q.ns.length q.nc) ∧ w'.cell? ⟨b, off + 12, none⟩ = some (.int .i64 q.sd) ∧ w'.cell? ⟨b, off + 13, none⟩ = some (.slice q.ea q.es.length q.ec) ∧ w'.cell? ⟨b, off + 14, none⟩ = some (.int .i64 q.kc))) w.drew := ⟨c0, c1, c2, c3, c4, c5, c6, c7, c8, c9, c10, c11, c12, c13, c14⟩
  obtain ⟨c1, rfl⟩ : ∃ c1, c = c1 + 1 := ⟨c - 1, by omega⟩
  have n0 : (((tl.length + 1 : Nat) : Int) == 0) = false := by simp; omega
  have i0 : (0 : Int) < ((tl.length + 1 : Nat) : Int) := by omega
  go_enter Tryz.func66, Tryz.ntmps66
  go_upto_region 3 with fail
  go_cut [5, 6] from 16 to 20 (fun s5 s6 wx => s5 = .pointer (some ⟨w.heap.size, 0, none⟩) ∧ Hid (∃ a1, s6 = .slice a1 tl.length c1 ∧ Lies (some ⟨b, off, none⟩) (q :: tl) tl a1) ∧ Hid (wx.heap[w.heap.size]? = some (.cells #[.int .i64 q.kd, .int .i64 q.nu, .int .i64 q.st, .string q.tx, .int .i64 q.op, .slice q.ma q.ms.length q.mc, .int .i64 q.off, .bool q.fx, .int .i64 q.att, .bool q.bo, .int .i64 q.byy, .slice q.na q.ns.length q.nc, .int .i64 q.sd, .slice q.ea q.es.length q.ec, .int .i64 q.kc] 55)) ∧ Hid (Below w.heap.size w wx) ∧ Hid (wx.heap.size = w.heap.size + 1))
  case first =>
    rename_i J1 K1 hJ1 hK1
    have FIN : ∀ a1 c1, Lies (some ⟨b, off, none⟩) (q :: tl) tl a1 → Hid (∃ a2, Value.slice a1 tl.length c1 = .slice a2 tl.length c1 ∧ Lies (some ⟨b, off, none⟩) (q :: tl) tl a2) := fun a1 _ h => ⟨a1, rfl, h⟩
    have FW : Hid ((w.alloc (.cells #[.int .i64 q.kd, .int .i64 q.nu, .int .i64 q.st, .string q.tx, .int .i64 q.op, .slice q.ma q.ms.length q.mc, .int .i64 q.off, .bool q.fx, .int .i64 q.att, .bool q.bo, .int .i64 q.byy, .slice q.na q.ns.length q.nc, .int .i64 q.sd, .slice q.ea q.es.length q.ec, .int .i64 q.kc] 55)).drew.heap[w.heap.size]? = some (.cells #[.int .i64 q.kd, .int .i64 q.nu, .int .i64 q.st, .string q.tx, .int .i64 q.op, .slice q.ma q.ms.length q.mc, .int .i64 q.off, .bool q.fx, .int .i64 q.att, .bool q.bo, .int .i64 q.byy, .slice q.na q.ns.length q.nc, .int .i64 q.sd, .slice q.ea q.es.length q.ec, .int .i64 q.kc] 55)) := heap_alloc_new w _
    have FB : Hid (Below w.heap.size w (w.alloc (.cells #[.int .i64 q.kd, .int .i64 q.nu, .int .i64 q.st, .string q.tx, .int .i64 q.op, .slice q.ma q.ms.length q.mc, .int .i64 q.off, .bool q.fx, .int .i64 q.att, .bool q.bo, .int .i64 q.byy, .slice q.na q.ns.length q.nc, .int .i64 q.sd, .slice q.ea q.es.length q.ec, .int .i64 q.kc] 55)).drew) := ((Below.refl w.heap.size w).alloc (Nat.le_refl _) _).drew
    have FZ : Hid ((w.alloc (.cells #[.int .i64 q.kd, .int .i64 q.nu, .int .i64 q.st, .string q.tx, .int .i64 q.op, .slice q.ma q.ms.length q.mc, .int .i64 q.off, .bool q.fx, .int .i64 q.att, .bool q.bo, .int .i64 q.byy, .slice q.na q.ns.length q.nc, .int .i64 q.sd, .slice q.ea q.es.length q.ec, .int .i64 q.kc] 55)).drew.heap.size = w.heap.size + 1) := by unfold Hid; simp
    have ne0 : w.heap.size ≠ b := by omega
    by_cases hc1 : c1 = 0
    · subst hc1
      have ht0 : tl = [] := List.length_eq_zero_iff.1 (by have := HC.out; omega)
      subst ht0
      go_region_held3 (fun w' => w'.cell? ⟨b, off, none⟩ = some (.int .i64 q.kd) ∧ w'.cell? ⟨b, off + 1, none⟩ = some (.int .i64 q.nu) ∧ w'.cell? ⟨b, off + 2, none⟩ = some (.int .i64 q.st) ∧ w'.cell? ⟨b, off + 3, none⟩ = some (.string q.tx) ∧ w'.cell? ⟨b, off + 4, none⟩ = some (.int .i64 q.op) ∧ w'.cell? ⟨b, off + 5, none⟩ = some (.slice q.ma q.ms.length q.mc) ∧ w'.cell? ⟨b, off + 6, none⟩ = some (.int .i64 q.off) ∧ w'.cell? ⟨b, off + 7, none⟩ = some (.bool q.fx) ∧ w'.cell? ⟨b, off + 8, none⟩ = some (.int .i64 q.att) ∧ w'.cell? ⟨b, off + 9, none⟩ = some (.bool q.bo) ∧ w'.cell? ⟨b, off + 10, none⟩ = some (.int .i64 q.byy) ∧ w'.cell? ⟨b, off + 11, none⟩ = some (.slice q.na q.ns.length q.nc) ∧ w'.cell? ⟨b, off + 12, none⟩ = some (.int .i64 q.sd) ∧ w'.cell? ⟨b, off + 13, none⟩ = some (.slice q.ea q.es.length q.ec) ∧ w'.cell? ⟨b, off + 14, none⟩ = some (.int .i64 q.kc)) (first | exact HS | go_keep) (first | fail)
      refine hK1 _ _ (Met.intro (hJ1 _ _ ?_))
      (repeat apply Exists.intro)
      refine ⟨?_, rfl⟩
      exact ⟨rfl, FIN _ 0 (.inl rfl), FW, FB, FZ⟩
    · obtain ⟨c2, rfl⟩ : ∃ c2, c1 = c2 + 1 := ⟨c1 - 1, by omega⟩
      have hle : tl.length ≤ c2 + 1 := by have := HC.out; omega
      have j1 : (1 : Int) ≤ ((tl.length + 1 : Nat) : Int) := by omega
      have j2 : ((tl.length + 1 : Nat) : Int) ≤ ((c2 + 1 + 1 : Nat) : Int) := by omega
      have j3 : (1 : Int) ≤ (tl.length : Int) + 1 := by omega
      have j4 : (tl.length : Int) + 1 ≤ (c2 : Int) + 1 + 1 := by omega
      have j5 : (tl.length : Int) ≤ (c2 : Int) + 1 := by omega
      clear hc1
      go_region_held3 (fun w' => w'.cell? ⟨b, off, none⟩ = some (.int .i64 q.kd) ∧ w'.cell? ⟨b, off + 1, none⟩ = some (.int .i64 q.nu) ∧ w'.cell? ⟨b, off + 2, none⟩ = some (.int .i64 q.st) ∧ w'.cell? ⟨b, off + 3, none⟩ = some (.string q.tx) ∧ w'.cell? ⟨b, off + 4, none⟩ = some (.int .i64 q.op) ∧ w'.cell? ⟨b, off + 5, none⟩ = some (.slice q.ma q.ms.length q.mc) ∧ w'.cell? ⟨b, off + 6, none⟩ = some (.int .i64 q.off) ∧ w'.cell? ⟨b, off + 7, none⟩ = some (.bool q.fx) ∧ w'.cell? ⟨b, off + 8, none⟩ = some (.int .i64 q.att) ∧ w'.cell? ⟨b, off + 9, none⟩ = some (.bool q.bo) ∧ w'.cell? ⟨b, off + 10, none⟩ = some (.int .i64 q.byy) ∧ w'.cell? ⟨b, off + 11, none⟩ = some (.slice q.na q.ns.length q.nc) ∧ w'.cell? ⟨b, off + 12, none⟩ = some (.int .i64 q.sd) ∧ w'.cell? ⟨b, off + 13, none⟩ = some (.slice q.ea q.es.length q.ec) ∧ w'.cell? ⟨b, off + 14, none⟩ = some (.int .i64 q.kc)) (first | exact HS | go_keep) (first | fail)
      refine hK1 _ _ (Met.intro (hJ1 _ _ ?_))
      (repeat apply Exists.intro)
      refine ⟨?_, rfl⟩
      exact ⟨rfl, FIN _ (c2 + 1) (.inr ⟨b, off, rfl, by simp⟩), FW, FB, FZ⟩
  case rest =>
  obtain ⟨rfl, HL1, HW1, HB1, HZ1⟩ := hcut
  obtain ⟨W1, hW1⟩ : ∃ W1, W1 = wc := ⟨_, rfl⟩
  obtain ⟨B, hB⟩ : ∃ B, B = w.heap.size := ⟨_, rfl⟩
  obtain ⟨a1, rfl, hl1⟩ := HL1.out
  have HLI := hid hl1
  clear hl1 HL1
  have x14 : wc.cell? ⟨w.heap.size, 14, none⟩ = some (.int .i64 q.kc) := (fifteen HW1.out).2.2.2.2.2.2.2.2.2.2.2.2.2.2
  obtain ⟨i0', hi, hz0, hz1, hz2⟩ := info_parts infoN
  have HG0 : Hid (Gs w0 wc w.heap.size [] [] none 0 wc) := ⟨Below.refl _ _, World.ownsRow_nil _ _ _ _, by simp [NvL]⟩
  have HT0 : Hid ((q :: tl).map pl = pl q :: (rowsL [] ++ tl.map pl)) := by unfold Hid; simp [rowsL]
  clear hW1 hB
  go_wp2
  go_loopw [6, 7, 23] (fun s6 s7 s23 wr => ∃ (ks : List Tr) (vs : List Value) (rest : List R) (ar : Option Addr) (cr : Nat) (ak : Option Addr) (ck : Nat), s6 = .slice ar rest.length cr ∧ s7 = .slice ak vs.length ck ∧ s23 = .int .i64 ks.length ∧ Hid ((q :: tl).map pl = pl q :: (rowsL ks ++ rest.map pl)) ∧ Hid (GtL N1 1 ks) ∧ Hid (Lies (some ⟨b, off, none⟩) (q :: tl) rest ar) ∧ Hid (rest <:+ tl) ∧ rest.length + ks.length ≤ tl.length ∧ rest.length ≤ cr ∧ cr ≤ 9223372036854775807 ∧ Hid ((ks.length : Int) ≤ q.kc ∨ ks.length = 0) ∧ Hid (Gs w0 wc w.heap.size ks vs ak ck wr)) (fun _ _ s23 _ => (q.kc - intOf s23).toNat)
  case atStart => exact ⟨[], [], tl, a1, c1, none, 0, rfl, rfl, rfl, HT0, by unfold Hid; simp [GtL], HLI, List.suffix_refl _, by simp, by have := HC.out; omega, by omega, .inr rfl, HG0⟩
  case round =>
    obtain ⟨ks, vs, rest, ar, cr, ak, ck, rfl, rfl, rfl, HT, HG, HL, HSF, hlen, hcr, hcc, HJ, HS1⟩ := hrel
    have HVL := hid (NvL.len _ _ HS1.out.nv)
    have hv60 : vs.length ≤ 60 := by have := HVL.out; omega
    have HBW : Hid (Below w.heap.size w wr) := HB1.out.trans (HS1.out.bel.mono (Nat.le_succ _))
    have HRS : Hid (HasR wr ar rest) := (HR.out.lies (HSF.out.trans (List.suffix_cons _ _)) HL.out).below HBW.out
    have hz1' := HZ1.out
    have hws : w.heap.size + 1 ≤ wr.heap.size := by have := HS1.out.bel.size; omega
    have HBX : Hid (wr.heap[w.heap.size]? = some (.cells #[.int .i64 q.kd, .int .i64 q.nu, .int .i64 q.st, .string q.tx, .int .i64 q.op, .slice q.ma q.ms.length q.mc, .int .i64 q.off, .bool q.fx, .int .i64 q.att, .bool q.bo, .int .i64 q.byy, .slice q.na q.ns.length q.nc, .int .i64 q.sd, .slice q.ea q.es.length q.ec, .int .i64 q.kc] 55)) := (HS1.out.bel.block w.heap.size (Nat.lt_succ_self _)).trans HW1.out
    have HBZ : Hid (Below w0.heap.size w0 wr) := HB0.out.trans (HBW.out.mono HB0.out.size)
    by_cases hlt : (ks.length : Int) < q.kc
    · go_wp2_with fail
      refine (HIH.out rest ar cr w0 wr (by omega) (by omega) hcr (by unfold maxLen; omega) HRS.out (fun p hp => HRW.out p (List.mem_cons_of_mem _ (HSF.out.mem hp))) HBZ.out).mono ?_
      rintro e w2 ⟨hb2, hk⟩
      rcases hk with ⟨rfl, hno⟩ | ⟨t, v, rest', a', c', rfl, hsf, hll, hmap, hgt, hnv, hlie, hcl, hcx⟩
      · have HNO := hid hno
        have HB2 := hid (HBW.out.trans (hb2.mono HBW.out.size))
        clear hno hb2
        go_wp2
        refine bodyPost_ret (results_tmp3 rfl _ _ _) rfl ?_
        refine ⟨HB2.out, .inl ⟨rfl, fun d t x e => ?_⟩⟩
        rw [HT.out] at e
        exact no_more (gtL1_any _ _ _ HG.out) hlt (fun t' x' e' hg' _ _ _ => HNO.out (d + 1) t' x' e' hg') t x e
      · obtain ⟨tt, xx, rfl⟩ := hnv.iface
        have HNV := hid hnv
        have HB2 := hid hb2
        have HMP := hid hmap
        have HGT := hid hgt
        have HLE := hid (HL.out.trans hlie (by have := HSF.out.length_le; simp; omega) (by omega))
        have HSF2 := hid (hsf.trans HSF.out)
        have HOW : Hid ((w2.alloc (.cells #[.iface tt xx] 64)).ownsRow (w.heap.size + 1) 64 1 (.slice ak vs.length ck) vs.length vs) := (own_belowQ HS1.out.row hb2).alloc _
        clear hnv hb2 hmap hgt hlie hsf
        go_wp2_with (at_builtin; refine wpList_append_own_at _ rfl (.tmp 33) (.tmp 35) 107 rfl (w.heap.size + 1) 64 i0' .nilIface 1 16 Tryz.underlying107 hi hz0 hz1 hz2 rfl (by decide) _ _ _ rfl HOW.out ⟨w2.heap.size, 0, none⟩ 1 1 [.iface tt xx] rfl rfl ?d1 ?d2 ?d3 ?d4 ?d5 ?_)
        case d1 => exact Pat.one_row _ _ _
        case d2 => intro u hu; simp at hu; subst hu; rfl
        case d3 => unfold maxLen; omega
        case d4 => omega
        case d5 => have := HB2.out.size; simp; omega
        intro v3 w4 hown3 hgr3 _ hdd
        obtain ⟨a3, c3, rfl⟩ := Pat.own_form hown3
        have HS4 := hid (HS1.out.next (by omega) HB2.out HNV.out rfl hgr3 hown3 (by simpa using hdd))
        have HT4 : Hid ((q :: tl).map pl = pl q :: (rowsL (ks ++ [t]) ++ rest'.map pl)) := by
          unfold Hid; rw [HT.out, HMP.out, rowsL_append]; simp [rowsL]
        have HG4 : Hid (GtL N1 1 (ks ++ [t])) := by unfold Hid; rw [GtL_append]; exact ⟨HG.out, by simp only [GtL]; exact ⟨gt1_any _ _ _ HGT.out, trivial⟩⟩
        clear hown3 hgr3 hdd
        go_wp2
        go_roundw
        case rel => exact ⟨ks ++ [t], vs ++ [.iface tt xx], rest', a', c', a3, c3, rfl, by simp, by simp, HT4, HG4, HLE, HSF2, by simp; omega, hcl, by unfold maxLen at hcx; omega, .inl (by simp; omega), HS4⟩
        case measure => simp [intOf]; omega
    · have HNL := hid HS1.out.all
      obtain ⟨x0, x1, x2, x3, x4, x5, x6, x7, x8, x9, x10, x11, x12, x13, x14⟩ := fifteen HBX.out
      go_wp2_with fail
      refine (f80 w0 (fun b => w.heap.size ≤ b ∧ b < wr.heap.size) q ks vs ak ck wr HNL.out.2 HNL.out.1).mono ?_
      rintro e w5 ⟨hb5, hk⟩
      rcases hk with ⟨v, rfl, hsh, hshp⟩ | ⟨v, rfl, hshp⟩
      · have HB5 := hid hb5
        have HSH := hid hsh
        have HSP := hid hshp
        have HGB := hid (GB.of (w := wr) (kept HBX.out hb5) hb5)
        obtain ⟨g0, g1, g2, g3, g4, g5, g6, g7, g8, g9, g10, g11, g12, g13, g14, _, _⟩ := HGB.out
        clear hb5 hsh hshp x0 x1 x2 x3 x4 x5 x6 x7 x8 x9 x10 x11 x12 x13 x14
        by_cases hkc : q.kc = (vs.length : Int)
        · have hkc' : (q.kc != (vs.length : Int)) = false := by simp [hkc]
          have HKC := hid hkc
          clear hkc
          go_upto_region 13 with fail
          go_region_held3 (fun w' => GB wr w.heap.size q w') (first | exact HGB.out.drew | exact HG6.out | exact HG7.out | exact GB.drew (by assumption) | assumption) (first | (go_at_call 104; refine (f104 HSH.out _).mono ?_; rintro e w6 ⟨tq, rfl, heq, hb6⟩; have HG6 := hid (HGB.out.drew.next hb6); have HEQ := hid heq; clear hb6 heq) | (go_at_call 103; refine (f103 q tq _).mono ?_; rintro e w7 ⟨⟨bb, rfl, hbb⟩, hb7⟩; have HG7 := hid (HG6.out.next hb7); have HBB := hid hbb; clear hb7 hbb))
          have HB7 := hid (HBW.out.trans (HG7.out.hb.2.mono HBW.out.size))
          cases bb
          · have HTD := hid (HEQ.out.1 (HBB.out.1 rfl))
            go_wp2
            refine bodyPost_ret (results_tmp3 rfl _ _ _) rfl ?_
            have hag : Agr (fun b => w.heap.size ≤ b ∧ b < wr.heap.size) (fun b => w.heap.size ≤ b ∧ b < w7.heap.size) wr w7 := ⟨HG7.out.hb.2.size, fun b _ hb => HG7.out.hb.2.block b hb, fun b hb => ⟨hb.1, Nat.lt_of_lt_of_le hb.2 HG7.out.hb.2.size⟩⟩
            refine ⟨HB7.out, .inr ⟨.nd (pl q) ks, v, rest, ar, cr, rfl, HSF.out.trans (List.suffix_cons _ _), ?_, ?_, ?_, ?_, HL.out, hcr, by unfold maxLen; omega⟩⟩
            · have := HSF.out.length_le; simp; omega
            · rw [HT.out]; simp [rows]
            · simp only [Gt]
              exact ⟨by have := HKC.out; have := HVL.out; show q.kc = _; omega, ⟨HSP.out, HTD.out⟩, gtL1_any _ _ _ HG.out⟩
            · simp only [Nv]
              exact ⟨q, vs, rfl, HRW.out q (by simp), NvL.agr hag ks vs HNL.out.1, HSH.out.agr hag⟩
          · go_wp2
            refine bodyPost_ret (results_tmp3 rfl _ _ _) rfl ?_
            refine ⟨HB7.out, .inl ⟨rfl, fun d t x e => ?_⟩⟩
            rw [HT.out] at e
            exact no_node (r := pl q) (gtL1_any _ _ _ HG.out) HJ.out (Int.not_lt.2 hlt) (fun _ hN => by have := HBB.out.2 (HEQ.out.2 hN.2); cases this) t x e
        · have hkc' : (q.kc != (vs.length : Int)) = true := by simp [hkc]
          have HKC := hid hkc
          clear hkc
          go_upto_region 13 with fail
          go_quiet (fail)
          go_wp2
          refine bodyPost_ret (results_tmp3 rfl _ _ _) rfl ?_
          have hB := HBW.out.trans (HB5.out.mono HBW.out.size)
          refine ⟨⟨hB.os, hB.tape, hB.output, hB.size, hB.block⟩, .inl ⟨rfl, fun d t x e => ?_⟩⟩
          rw [HT.out] at e
          exact no_node (r := pl q) (gtL1_any _ _ _ HG.out) HJ.out (Int.not_lt.2 hlt) (fun hl => absurd (hl.symm.trans (by rw [← HVL.out])) HKC.out) t x e
      · have HB5 := hid hb5
        have HSP := hid hshp
        clear hb5 hshp
        go_upto_region 13 with fail
        go_quiet (fail)
        go_wp2
        refine bodyPost_ret (results_tmp3 rfl _ _ _) rfl ?_
        have hB := HBW.out.trans (HB5.out.mono HBW.out.size)
        refine ⟨⟨hB.os, hB.tape, hB.output, hB.size, hB.block⟩, .inl ⟨rfl, fun d t x e => ?_⟩⟩
        rw [HT.out] at e
        exact no_node (r := pl q) (gtL1_any _ _ _ HG.out) HJ.out (Int.not_lt.2 hlt) (fun _ hN => HSP.out hN.1) t x e
end Go.Proofs.YtbdlahhejfamhaaGreatDoor.Qry
