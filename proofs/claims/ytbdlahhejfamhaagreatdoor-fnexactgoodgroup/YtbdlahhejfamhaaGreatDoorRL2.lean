/- The program's GoodQuery: whether all rows are one tree, and all of its nodes right. -/
import Derived.Test.YtbdlahhejfamhaaGreatDoorRC4
import Derived.Test.YtbdlahhejfamhaaGreatDoorRQpi
import Derived.Test.YtbdlahhejfamhaaGreatDoorRK1
import Derived.Test.YtbdlahhejfamhaaGreatDoorRQkb
namespace Go.Proofs.YtbdlahhejfamhaaGreatDoor.Qry
open Go.RowKit
open Go.Proofs.YtbdlahhejfamhaaGreatDoor.Pat (ret_bool)

theorem growOk : ∀ m, GrowOk m := by
  intro m
  induction m with
  | zero =>
    intro rs a c w0 w hm h60 hc hcm hr hrw hb0
    have e := List.length_eq_zero_iff.1 (Nat.le_zero.1 hm)
    subst e
    go_enter Tryz.func66, Tryz.ntmps66
    go_wp2
    refine bodyPost_ret (results_tmp3 rfl _ _ _) rfl ?_
    exact ⟨Below.refl _ _, .inl ⟨rfl, fun d t x e => no_rows t x e⟩⟩
  | succ m ih =>
    intro rs a c w0 w hm h60 hc hcm hr hrw hb0
    cases rs with
    | nil =>
      go_enter Tryz.func66, Tryz.ntmps66
      go_wp2
      refine bodyPost_ret (results_tmp3 rfl _ _ _) rfl ?_
      exact ⟨Below.refl _ _, .inl ⟨rfl, fun d t x e => no_rows t x e⟩⟩
    | cons q tl => exact grow_step m ih q tl a c w0 w (by simpa using hm) (by simpa using h60) (by simpa using hc) hcm hr hrw hb0
/-- What the call of goodTree leaves. -/
def GtR (w0 : World) (ps : List Pl) (w : World) (e : Ending) (w' : World) : Prop :=
  Below w.heap.size w w' ∧ ((∃ v, e = .returned (.tuple #[v, .bool false]) ∧ ¬ GoodQ ps) ∨ ∃ t v, e = .returned (.tuple #[v, .bool true]) ∧ ps = rows t ∧ ps.length ≤ 60 ∧ Gt NM 1 t ∧ Nv w0 (fun b => w.heap.size ≤ b ∧ b < w'.heap.size) w' t v)
theorem no_good {ps : List Pl} (h : ∀ d t x, ps = rows t ++ x → ¬ Gt N1 d t) : ¬ GoodQ ps := by
  rintro ⟨_, t, e, hg⟩
  exact h 0 t [] (by simpa using e) ((gt_iff t 0).1 hg).1
theorem no_rest {ps x : List Pl} {t : Tr} (hx : x ≠ []) (e : ps = rows t ++ x) (hg : Gt N1 0 t) : ¬ GoodQ ps := by
  rintro ⟨_, t', e', hg'⟩
  have := rows_one N1 N1 t t' 0 0 x [] hg ((gt_iff t' 0).1 hg').1 (by rw [← e, e']; simp)
  exact hx this.2
theorem no_right {ps : List Pl} {t : Tr} (e : ps = rows t) (hg : Gt N1 0 t) (hn : ¬ Gt N2 0 t) : ¬ GoodQ ps := by
  rintro ⟨_, t', e', hg'⟩
  obtain ⟨rfl, _⟩ := rows_one N1 N1 t t' 0 0 [] [] hg ((gt_iff t' 0).1 hg').1 (by rw [← e, e'])
  exact hn ((gt_iff t 0).1 hg').2
set_option maxHeartbeats 4000000 in
theorem f33 (rs : List R) (a : Option Addr) (c : Nat) (w0 w : World) (hl : rs.length ≤ maxLen) (hc : rs.length ≤ c) (hcm : c ≤ maxLen) (hr : HasR w a rs) (hrw : ∀ q ∈ rs, Rw w0 q) (hb0 : Below w0.heap.size w0 w) (ht : Tabs w) : Calls Tryz.prog 33 #[.slice a rs.length c] w (GtR w0 (rs.map pl) w) := by
  have hl' := hl
  unfold maxLen at hl'
  by_cases h60 : 60 < rs.length
  · go_enter Tryz.func33, Tryz.ntmps33
    go_wp2
    go_ret2
    exact ⟨Below.refl _ _, .inl ⟨_, rfl, fun h => by have := h.1; simp at this; omega⟩⟩
  have HT := hid ht
  have HB0 := hid hb0
  have HGR := hid (growOk 60 rs a c w0 w (by omega) (by omega) hc hcm hr hrw hb0)
  clear ht hb0 hr hrw
  go_enter Tryz.func33, Tryz.ntmps33
  go_wp2_with fail
  refine HGR.out.mono ?_
  rintro e w1 ⟨hb1, hk⟩
  rcases hk with ⟨rfl, hno⟩ | ⟨t, v, rest, a', c', rfl, hsf, hll, hmap, hgt, hnv, hlie, hcl, hcx⟩
  · have HN := hid (no_good hno)
    have HB1 := hid hb1
    clear hno hb1
    go_wp2
    go_ret2
    exact ⟨HB1.out, .inl ⟨_, rfl, HN.out⟩⟩
  · have HB1 := hid hb1
    have HM := hid hmap
    have HG := hid hgt
    have HV := hid hnv
    clear hmap hgt hnv hsf hlie hb1
    by_cases hr0 : rest.length = 0
    · have hrr : rest = [] := List.length_eq_zero_iff.1 hr0
      subst hrr
      have HM' : Hid (rs.map pl = rows t) := by unfold Hid; rw [HM.out]; simp
      have HX : Hid (∀ wx, Below w1.heap.size w1 wx → Calls Tryz.prog 67 #[v, .int .i64 12] wx fun e w' => (∃ b, e = .returned (.bool b) ∧ (b = true ↔ Gt N2 0 t)) ∧ Below wx.heap.size wx w') := fun wx hx => f67 12 12 t v w0 _ wx 0 rfl rfl HG.out (Nv.agr (Agr.below hx) t v HV.out) (HB0.out.trans ((HB1.out.trans (hx.mono HB1.out.size)).mono HB0.out.size)) ((HT.out.below HB1.out).below hx)
      go_wp2_with (go_at_call 67; refine (HX.out _ (Below.refl _ _)).mono ?_; rintro e w2 ⟨⟨bb, rfl, hbb⟩, hb2⟩; have HB2 := hid hb2; have HBB := hid hbb; clear hb2 hbb)
      all_goals
        go_ret2
        refine ⟨HB1.out.trans (HB2.out.mono HB1.out.size), ?_⟩
        cases bb
        · exact .inl ⟨_, rfl, no_right HM'.out HG.out (fun h => by have := HBB.out.2 h; cases this)⟩
        · refine .inr ⟨t, v, rfl, HM'.out, by simp; omega, (gt_iff t 0).2 ⟨HG.out, HBB.out.1 rfl⟩, Nv.agr (S := fun b => w.heap.size ≤ b ∧ b < w1.heap.size) ⟨HB2.out.size, fun b _ hb => HB2.out.block b hb, fun b hb => ⟨hb.1, Nat.lt_of_lt_of_le hb.2 HB2.out.size⟩⟩ t v HV.out⟩
    · have HN : Hid (¬ GoodQ (rs.map pl)) := no_rest (x := rest.map pl) (by intro e; exact hr0 (by simpa using congrArg List.length e)) HM.out HG.out
      have hq : ((rest.length : Int) == 0) = false := by simp; intro e; exact hr0 (by simp [e])
      go_wp2
      go_ret2
      exact ⟨HB1.out, .inl ⟨_, rfl, HN.out⟩⟩
end Go.Proofs.YtbdlahhejfamhaaGreatDoor.Qry
/- The program's kindOfNode: numbers, texts, selections. -/
namespace Go.Proofs.YtbdlahhejfamhaaGreatDoor.Qry
open Go.RowKit
open Go.Proofs.YtbdlahhejfamhaaGreatDoor.Fil (HasT FitT)

/-- What is said of a call of kindOfNode. -/
abbrev KnQ (k : K) (w : World) (e : Ending) (w' : World) : Prop := e = .returned (.string k.s) ∧ Below w.heap.size w w'
def KnOk (n : Nat) : Prop := ∀ (t : Tr) (v : Value) (w0 : World) (S : Nat → Prop) (w : World) (d : Nat), n + d = 12 → Gt N1 d t → Gt N2 d t → Nv w0 S w t v → Below w0.heap.size w0 w → Tabs w → Calls Tryz.prog 34 #[v] w (KnQ (kdT t) w)
theorem kdL_at {ks : List Tr} {i : Nat} {t : Tr} (h : ks[i]? = some t) : (kdL ks).take (i + 1) = (kdL ks).take i ++ [kdT t] := by
  have hi : i < (kdL ks).length := by
    rw [kdL_len]
    rcases Nat.lt_or_ge i ks.length with h1 | h1
    · exact h1
    · rw [List.getElem?_eq_none h1] at h; cases h
  rw [List.take_add_one, List.getElem?_eq_getElem hi]
  congr 1
  have : (kdL ks)[i]? = some (kdT t) := by rw [kdL_map, List.getElem?_map, h]; rfl
  rw [List.getElem?_eq_getElem hi] at this
  rw [Option.some.inj this]
  rfl
/-- The kinds of the first k kids, in a row of the call's own. -/
def KidK (B : Nat) (ks : List Tr) (w : World) (a : Option Addr) (c k : Nat) : Prop := w.ownsRow B 9 1 (.slice a k c) k (((kdL ks).take k).map fun x => Value.string x.s)
theorem KidK.own {B : Nat} {ks : List Tr} {w : World} {a : Option Addr} {c k : Nat} (h : KidK B ks w a c k) (hk : ks.length = k) : OwnK B w a c (kdL ks) := by
  unfold KidK at h
  unfold OwnK
  have e : (kdL ks).length = k := by rw [kdL_len, hk]
  rw [e]
  rw [List.take_of_length_le (by omega)] at h
  exact h
theorem gt2_right {d : Nat} {r : Pl} {ks : List Tr} (h : Gt N2 d (.nd r ks)) : right r = true := by
  simp only [Gt] at h
  exact h.2.1.2
theorem gt2_kids {d : Nat} {r : Pl} {ks : List Tr} {i : Nat} {t : Tr} (hi : ks[i]? = some t) (h : Gt N2 d (.nd r ks)) : Gt N2 (d + 1) t := by
  simp only [Gt] at h
  exact GtL_mem.1 h.2.2 t (List.mem_of_getElem? hi)
theorem gt_len {N : Nd} {d : Nat} {r : Pl} {ks : List Tr} (h : Gt N d (.nd r ks)) : r.kc = ks.length := by
  simp only [Gt] at h
  exact h.1
theorem own_belowK {w w' : World} {base e size n : Nat} {v : Value} {xs : List Value} (h : w.ownsRow base e size v n xs) (hb : Below w.heap.size w w') : w'.ownsRow base e size v n xs :=
  h.kept (row := none) ⟨hb.os, hb.tape, hb.output, hb.size, fun k hk _ => hb.block k hk⟩ (by cases hv : v.ownBlock <;> simp)
theorem ret_kn {k : K} (x : K) (s : ByteArray) (h : k = x) (hs : s = x.s) : Ending.returned (.string s) = .returned (.string k.s) := by rw [h, hs]
set_option maxHeartbeats 8000000 in
set_option maxRecDepth 100000 in
theorem kn_num (n : Nat) (_ : Hid (KnOk n)) (q : R) (ks : List Tr) (w0 : World) (S : Nat → Prop) (w : World) (d : Nat) (h : q.kd = 1) (hd : n + 1 + d = 12) (hg1 : Gt N1 d (.nd (pl q) ks)) (hg2 : Gt N2 d (.nd (pl q) ks)) (hrw : Rw w0 q) (hnl : NvL w0 S w ks []) (hb : Below w0.heap.size w0 w) (ht : Tabs w) :
    Calls Tryz.prog 34 #[vnumNode q] w (KnQ (kdq (pl q) (kdL ks)) w) := by
  have HG1 := hid hg1
  have HG2 := hid hg2
  have HRW := hid hrw
  have HN := hid hnl
  have HB := hid hb
  have HT := hid ht
  have HD := hid hd
  have HR : Hid (kdq (pl q) (kdL ks) = .n) := by unfold Hid kdq; simp [pl, h]
  clear h hg1 hg2 hrw hnl hb ht hd
  have hmk := mk_num
  have tnum := ty_num_num
  go_enter Tryz.func34, Tryz.ntmps34
  go_wp2_with (go_at_call 214; refine (f214 q _).mono ?_; rintro e w2 ⟨rfl, hb2⟩; have HB2 := hid hb2; clear hb2)
  go_loopw [20] (fun si wr => si = .int .i64 0 ∧ wr = w2) (fun _ _ => 0)
  case atStart => exact ⟨rfl, rfl⟩
  case round =>
    obtain ⟨rfl, rfl⟩ := hrel
    have HB3 := hid (HB2.out.trans ((Below.refl wr.heap.size wr).alloc (Nat.le_refl _) (.cells #[] 9) |>.mono HB2.out.size))
    go_wp2
    go_ret
    exact ⟨ret_kn .n _ HR.out rfl, HB2.out.alloc HB2.out.size _⟩
set_option maxHeartbeats 8000000 in
set_option maxRecDepth 100000 in
theorem kn_text (n : Nat) (_ : Hid (KnOk n)) (q : R) (ks : List Tr) (w0 : World) (S : Nat → Prop) (w : World) (d : Nat) (h : q.kd = 2) (hd : n + 1 + d = 12) (hg1 : Gt N1 d (.nd (pl q) ks)) (hg2 : Gt N2 d (.nd (pl q) ks)) (hrw : Rw w0 q) (hnl : NvL w0 S w ks []) (hb : Below w0.heap.size w0 w) (ht : Tabs w) :
    Calls Tryz.prog 34 #[vtextNode q] w (KnQ (kdq (pl q) (kdL ks)) w) := by
  have HG1 := hid hg1
  have HG2 := hid hg2
  have HRW := hid hrw
  have HN := hid hnl
  have HB := hid hb
  have HT := hid ht
  have HD := hid hd
  have HR : Hid (kdq (pl q) (kdL ks) = .t) := by unfold Hid kdq; simp [pl, h]
  clear h hg1 hg2 hrw hnl hb ht hd
  have hmk := mk_text
  have tnum := ty_text_num
  have ttext := ty_text_text
  go_enter Tryz.func34, Tryz.ntmps34
  go_wp2_with (go_at_call 215; refine (f215 q _).mono ?_; rintro e w2 ⟨rfl, hb2⟩; have HB2 := hid hb2; clear hb2)
  go_loopw [20] (fun si wr => si = .int .i64 0 ∧ wr = w2) (fun _ _ => 0)
  case atStart => exact ⟨rfl, rfl⟩
  case round =>
    obtain ⟨rfl, rfl⟩ := hrel
    have HB3 := hid (HB2.out.trans ((Below.refl wr.heap.size wr).alloc (Nat.le_refl _) (.cells #[] 9) |>.mono HB2.out.size))
    go_wp2
    go_ret
    exact ⟨ret_kn .t _ HR.out rfl, HB2.out.alloc HB2.out.size _⟩
set_option maxHeartbeats 8000000 in
set_option maxRecDepth 100000 in
theorem kn_sel (n : Nat) (_ : Hid (KnOk n)) (q : R) (ks : List Tr) (w0 : World) (S : Nat → Prop) (w : World) (d : Nat) (h : q.kd = 3) (hd : n + 1 + d = 12) (hg1 : Gt N1 d (.nd (pl q) ks)) (hg2 : Gt N2 d (.nd (pl q) ks)) (hrw : Rw w0 q) (hnl : NvL w0 S w ks []) (hb : Below w0.heap.size w0 w) (ht : Tabs w) :
    Calls Tryz.prog 34 #[vselectNode q] w (KnQ (kdq (pl q) (kdL ks)) w) := by
  have HG1 := hid hg1
  have HG2 := hid hg2
  have HRW := hid hrw
  have HN := hid hnl
  have HB := hid hb
  have HT := hid ht
  have HD := hid hd
  have HR : Hid (kdq (pl q) (kdL ks) = .v) := by unfold Hid kdq; simp [pl, h]
  clear h hg1 hg2 hrw hnl hb ht hd
  have hmk := mk_sel
  have tnum := ty_sel_num
  have ttext := ty_sel_text
  have tsel := ty_sel_sel
  go_enter Tryz.func34, Tryz.ntmps34
  go_wp2_with (go_at_call 216; refine (f216 q _).mono ?_; rintro e w2 ⟨rfl, hb2⟩; have HB2 := hid hb2; clear hb2)
  go_loopw [20] (fun si wr => si = .int .i64 0 ∧ wr = w2) (fun _ _ => 0)
  case atStart => exact ⟨rfl, rfl⟩
  case round =>
    obtain ⟨rfl, rfl⟩ := hrel
    have HB3 := hid (HB2.out.trans ((Below.refl wr.heap.size wr).alloc (Nat.le_refl _) (.cells #[] 9) |>.mono HB2.out.size))
    go_wp2
    go_ret
    exact ⟨ret_kn .v _ HR.out rfl, HB2.out.alloc HB2.out.size _⟩
end Go.Proofs.YtbdlahhejfamhaaGreatDoor.Qry
/- The program's kindOfNode: operations. -/
namespace Go.Proofs.YtbdlahhejfamhaaGreatDoor.Qry
open Go.RowKit
open Go.Proofs.YtbdlahhejfamhaaGreatDoor.Fil (HasT FitT)

theorem box_at {w : World} {b : Nat} {cs : Array Value} {t : TypeId} (h : w.heap[b]? = some (.cells cs t)) (i : Nat) (v : Value) (hv : cs[i]? = some v) : w.cell? ⟨b, i, none⟩ = some v := by
  simp only [World.cell?, h]
  exact hv
theorem cell_lt {w : World} {b off : Nat} {v : Value} (h : w.cell? ⟨b, off, none⟩ = some v) : b < w.heap.size := by
  unfold World.cell? at h
  rcases Nat.lt_or_ge b w.heap.size with h1 | h1
  · exact h1
  · rw [Array.getElem?_eq_none h1] at h; cases h
/-- What an operation's region reads. -/
abbrev OpS (w1 : World) (q : R) (k0 k1 : K) (g : Nat) (w : World) : Prop :=
  w.cell? ⟨w1.heap.size, 0, none⟩ = some (.int .i64 q.kd) ∧ w.cell? ⟨w1.heap.size, 1, none⟩ = some (.int .i64 q.nu) ∧ w.cell? ⟨w1.heap.size, 2, none⟩ = some (.int .i64 q.st) ∧ w.cell? ⟨w1.heap.size, 3, none⟩ = some (.string q.tx) ∧ w.cell? ⟨w1.heap.size, 4, none⟩ = some (.int .i64 q.op) ∧ w.cell? ⟨w1.heap.size, 5, none⟩ = some (.slice q.ma q.ms.length q.mc) ∧ w.cell? ⟨w1.heap.size, 6, none⟩ = some (.int .i64 q.off) ∧ w.cell? ⟨w1.heap.size, 7, none⟩ = some (.bool q.fx) ∧ w.cell? ⟨w1.heap.size, 8, none⟩ = some (.int .i64 q.att) ∧ w.cell? ⟨w1.heap.size, 9, none⟩ = some (.bool q.bo) ∧ w.cell? ⟨w1.heap.size, 10, none⟩ = some (.int .i64 q.byy) ∧ w.cell? ⟨w1.heap.size, 11, none⟩ = some (.slice q.na q.ns.length q.nc) ∧ w.cell? ⟨w1.heap.size, 12, none⟩ = some (.int .i64 q.sd) ∧ w.cell? ⟨w1.heap.size, 13, none⟩ = some (.slice q.ea q.es.length q.ec) ∧ w.cell? ⟨w1.heap.size, 14, none⟩ = some (.int .i64 q.kc) ∧ w.cell? ⟨g, 0, none⟩ = some (.string k0.s) ∧ w.cell? ⟨g, 1, none⟩ = some (.string k1.s) ∧ TabOp w ∧ Below w1.heap.size w1 w
theorem OpS.below {w1 : World} {q : R} {k0 k1 : K} {g : Nat} {w w' : World} (h : OpS w1 q k0 k1 g w) (hb : Below w.heap.size w w') : OpS w1 q k0 k1 g w' := by
  obtain ⟨b0, b1, b2, b3, b4, b5, b6, b7, b8, b9, b10, b11, b12, b13, b14, c0, c1, op, bel⟩ := h
  exact ⟨(hb.cell (p := ⟨w1.heap.size, 0, none⟩) (cell_lt b0)).trans b0, (hb.cell (p := ⟨w1.heap.size, 1, none⟩) (cell_lt b1)).trans b1, (hb.cell (p := ⟨w1.heap.size, 2, none⟩) (cell_lt b2)).trans b2, (hb.cell (p := ⟨w1.heap.size, 3, none⟩) (cell_lt b3)).trans b3, (hb.cell (p := ⟨w1.heap.size, 4, none⟩) (cell_lt b4)).trans b4, (hb.cell (p := ⟨w1.heap.size, 5, none⟩) (cell_lt b5)).trans b5, (hb.cell (p := ⟨w1.heap.size, 6, none⟩) (cell_lt b6)).trans b6, (hb.cell (p := ⟨w1.heap.size, 7, none⟩) (cell_lt b7)).trans b7, (hb.cell (p := ⟨w1.heap.size, 8, none⟩) (cell_lt b8)).trans b8, (hb.cell (p := ⟨w1.heap.size, 9, none⟩) (cell_lt b9)).trans b9, (hb.cell (p := ⟨w1.heap.size, 10, none⟩) (cell_lt b10)).trans b10, (hb.cell (p := ⟨w1.heap.size, 11, none⟩) (cell_lt b11)).trans b11, (hb.cell (p := ⟨w1.heap.size, 12, none⟩) (cell_lt b12)).trans b12, (hb.cell (p := ⟨w1.heap.size, 13, none⟩) (cell_lt b13)).trans b13, (hb.cell (p := ⟨w1.heap.size, 14, none⟩) (cell_lt b14)).trans b14, (hb.cell (p := ⟨g, 0, none⟩) (cell_lt c0)).trans c0, (hb.cell (p := ⟨g, 1, none⟩) (cell_lt c1)).trans c1, op.below hb, bel.trans (hb.mono bel.size)⟩
theorem OpS.drew {w1 : World} {q : R} {k0 k1 : K} {g : Nat} {w : World} (h : OpS w1 q k0 k1 g w) : OpS w1 q k0 k1 g w.drew := h.below (Below.refl _ w).drew
theorem OpS.op {w1 : World} {q : R} {k0 k1 : K} {g : Nat} {w : World} (h : OpS w1 q k0 k1 g w) : TabOp w := h.2.2.2.2.2.2.2.2.2.2.2.2.2.2.2.2.2.1
theorem OpS.bel {w1 : World} {q : R} {k0 k1 : K} {g : Nat} {w : World} (h : OpS w1 q k0 k1 g w) : Below w1.heap.size w1 w := h.2.2.2.2.2.2.2.2.2.2.2.2.2.2.2.2.2.2
set_option maxHeartbeats 8000000 in
set_option maxRecDepth 100000 in
theorem kn_op (n : Nat) (IH : Hid (KnOk n)) (q : R) (ks : List Tr) (tt : TypeId) (x : Value) (uu : TypeId) (y : Value) (w0 : World) (S : Nat → Prop) (w : World) (d : Nat) (h : q.kd = 7) (hd : n + 1 + d = 12) (hg1 : Gt N1 d (.nd (pl q) ks)) (hg2 : Gt N2 d (.nd (pl q) ks)) (hrw : Rw w0 q) (hnl : NvL w0 S w ks [.iface tt x, .iface uu y]) (hb : Below w0.heap.size w0 w) (ht : Tabs w) :
    Calls Tryz.prog 34 #[vopNode q (.iface tt x) (.iface uu y)] w (KnQ (kdq (pl q) (kdL ks)) w) := by
  have HG1 := hid hg1
  have HG2 := hid hg2
  have HRW := hid hrw
  have HN := hid hnl
  have HB := hid hb
  have HT := hid ht
  have HD := hid hd
  have HLn : Hid (([.iface tt x, .iface uu y] : List Value).length = ks.length) := NvL.len _ _ hnl
  have HM : Hid (([.iface tt x, .iface uu y] : List Value).length ≤ 10) := by
    have h1 := gt_len hg2
    have h2 := gt2_right hg2
    have h3 := HLn.out
    unfold Hid
    simp only [List.length_cons, List.length_nil]
    omega
  have HH := hid h
  clear h hg1 hg2 hrw hnl hb ht hd
  have hmk := mk_op
  have tnum := ty_op_num
  have ttext := ty_op_text
  have tsel := ty_op_sel
  have trange := ty_op_range
  have tsub := ty_op_sub
  have tneg := ty_op_neg
  have top := ty_op_op
  obtain ⟨i0, hi, hz0, hz1, hz2⟩ := info_parts infoS
  go_enter Tryz.func34, Tryz.ntmps34
  go_wp2_with (go_at_call 220; refine (f220 q tt x uu y _).mono ?_; rintro e w2 ⟨⟨gg, rfl, hv2⟩, hb2⟩; have HB2 := hid hb2; have HV2 := hid hv2; clear hb2 hv2)
  go_loopw [3, 20] (fun so si wr => ∃ (k c' : Nat) (a' : Option Addr), k ≤ 2 ∧ si = .int .i64 k ∧ so = .slice a' k c' ∧ Hid (KidK w2.heap.size ks wr a' c' k) ∧ Hid (Below w2.heap.size w2 wr)) (fun _ si _ => 2 - (intOf si).toNat)
  case atStart => exact ⟨0, 0, none, Nat.zero_le _, rfl, rfl, ⟨by simp, .inl ⟨rfl, rfl⟩⟩, Below.refl _ _⟩
  case round =>
    obtain ⟨k, c', a', hk, rfl, rfl, HO, HBW⟩ := hrel
    have hbd : 2 ≤ 10 := HM.out
    by_cases hlt : k < 2
    · have hlk : k < ks.length := by
        have h1 := HLn.out
        simp only [List.length_cons, List.length_nil] at h1
        omega
      obtain ⟨tk, vk, e1, e2, e3⟩ := NvL.at_ _ _ HN.out k hlk
      have HE1 := hid e1
      rcases HV2.out with hr0 | ⟨b, off, hab, _, hbl, hc⟩
      · exact absurd hlt (by first | (rw [hr0]; simp) | (simp at hr0))
      have c0 := (HBW.out.cell (p := ⟨b, off + k, none⟩) hbl).trans ((hc k (by first | exact hlt | (simp only [List.length_cons, List.length_nil]; omega))).trans e2)
      have i1 : (k : Int) < (2 : Int) := by omega
      have HX2 := hid (HB2.out.trans (HBW.out.mono HB2.out.size))
      have HNk : Hid (Nv w0 S wr tk vk) := Nv.agr (Agr.below HX2.out) tk vk e3
      clear hc e1 e2 e3
      injection hab with hab; injection hab with hab1 hab2 _; subst hab1; subst hab2; rw [Nat.zero_add] at c0
      have HC := hid (IH.out tk vk w0 S wr (d + 1) (by have := HD.out; omega) (gt1_kid HE1.out HG1.out) (gt2_kids HE1.out HG2.out) HNk.out (HB.out.trans (HX2.out.mono HB.out.size)) (HT.out.below HX2.out))
      have HTK := hid (kdL_at HE1.out)
      generalize kdT tk = kk at HC HTK
      go_wp2_with (first | (go_at_call 34; refine HC.out.mono ?_; rintro e w3 ⟨rfl, hb3⟩; have HB3 := hid hb3; have HO3 : Hid (KidK w2.heap.size ks w3 a' c' k) := own_belowK HO.out hb3; clear hb3) | (at_builtin; refine wpList_append_own _ rfl (.tmp 24) (.tmp 27) 50 rfl w2.heap.size 9 i0 (.string ByteArray.empty) 1 16 Tryz.underlying50 hi hz0 hz1 hz2 rfl (by decide) _ _ _ rfl (World.ownsRow.alloc HO3.out _) ⟨w3.heap.size, 0, none⟩ 1 1 [.string kk.s] rfl rfl ?d1 ?d2 ?d3 ?d4 ?d5 ?_))
      case d1 => exact one_cellsK w3 (.string kk.s) 9
      case d2 => intro u hu; simp at hu; rcases hu with rfl; rfl
      case d3 => unfold maxLen; omega
      case d4 => omega
      case d5 => simp; have := HBW.out.size; have := HB3.out.size; omega
      intro v1 w4 hown1 hgr1 _
      have HBX : Hid (Below w2.heap.size w2 w3) := HBW.out.trans (HB3.out.mono HBW.out.size)
      have HB4 := hid ((HBX.out.alloc HBX.out.size (.cells #[.string kk.s] 9)).grown hgr1 (by have := HBX.out.size; simp; omega) (fun j hj => (World.ownsRow.lt HO3.out j hj).1))
      obtain ⟨a4, c4, rfl⟩ := own_formK hown1
      have HO4 : Hid (KidK w2.heap.size ks w4 a4 c4 (k + 1)) := by
        unfold Hid KidK
        rw [HTK.out, List.map_append]
        simpa using hown1
      clear hown1 hgr1
      go_wp2
      go_roundw
      case rel => exact ⟨k + 1, c4, a4, by omega, by go_num, rfl, HO4.out, HB4.out⟩
      case measure => simp [intOf]; omega
    · have HE : Hid (ks.length = k) := by
        have h1 := HLn.out
        simp only [List.length_cons, List.length_nil] at h1
        unfold Hid; omega
      have HOK := hid (KidK.own HO.out HE.out)
      have HX2 := hid (HB2.out.trans (HBW.out.mono HB2.out.size))
      have hke : k = 2 := by
        have h1 := HLn.out
        have h2 := HE.out
        simp only [List.length_cons, List.length_nil] at h1
        omega
      clear HO
      subst hke
      obtain ⟨k0, k1, hk0⟩ : ∃ k0 k1, kdL ks = [k0, k1] := len2.1 (by rw [kdL_len]; exact HE.out)
      obtain ⟨g0, hg0, _, hg2, hg3, c0⟩ := OwnK.at_ HOK.out 0 k0 (by rw [hk0]; rfl)
      obtain ⟨g1, hg1, _, _, hg4, c1⟩ := OwnK.at_ HOK.out 1 k1 (by rw [hk0]; rfl)
      subst hg0
      obtain rfl : g1 = g0 := by injection hg1 with e; injection e with e _ _; exact e.symm
      clear hg1
      have HR : Hid (kdq (pl q) (kdL ks) = opK (pl q) k0 k1) := by unfold Hid; rw [hk0]; unfold kdq; simp [pl, HH.out]
      have HOP : Hid (1 ≤ q.op ∧ q.op ≤ 14) := by
        have h := gt2_right HG2.out
        rw [right_7 (r := pl q) HH.out] at h
        unfold rOp at h
        simp only [Bool.and_eq_true, decide_eq_true_eq] at h
        exact h.1.1.1.1
      have HTX := hid (HT.out.below HX2.out)
      clear hk0 HOK
      obtain ⟨X, hX⟩ : ∃ X, X = wr.alloc (.cells #[.int .i64 q.kd, .int .i64 q.nu, .int .i64 q.st, .string q.tx, .int .i64 q.op, .slice q.ma q.ms.length q.mc, .int .i64 q.off, .bool q.fx, .int .i64 q.att, .bool q.bo, .int .i64 q.byy, .slice q.na q.ns.length q.nc, .int .i64 q.sd, .slice q.ea q.es.length q.ec, .int .i64 q.kc, .iface tt x, .iface uu y] 120) := ⟨_, rfl⟩
      have hXB : Below wr.heap.size wr X := by rw [hX]; exact (Below.refl _ _).alloc (Nat.le_refl _) _
      have hXN : X.heap[wr.heap.size]? = some (.cells #[.int .i64 q.kd, .int .i64 q.nu, .int .i64 q.st, .string q.tx, .int .i64 q.op, .slice q.ma q.ms.length q.mc, .int .i64 q.off, .bool q.fx, .int .i64 q.att, .bool q.bo, .int .i64 q.byy, .slice q.na q.ns.length q.nc, .int .i64 q.sd, .slice q.ea q.es.length q.ec, .int .i64 q.kc, .iface tt x, .iface uu y] 120) := by rw [hX]; exact heap_alloc_new _ _
      have hS : OpS wr q k0 k1 g1 X := ⟨box_at hXN 0 _ rfl, box_at hXN 1 _ rfl, box_at hXN 2 _ rfl, box_at hXN 3 _ rfl, box_at hXN 4 _ rfl, box_at hXN 5 _ rfl, box_at hXN 6 _ rfl, box_at hXN 7 _ rfl, box_at hXN 8 _ rfl, box_at hXN 9 _ rfl, box_at hXN 10 _ rfl, box_at hXN 11 _ rfl, box_at hXN 12 _ rfl, box_at hXN 13 _ rfl, box_at hXN 14 _ rfl, (hXB.cell (p := ⟨g1, 0, none⟩) hg2).trans c0, (hXB.cell (p := ⟨g1, 1, none⟩) hg2).trans c1, (HTX.out.below hXB).op, hXB⟩
      have HS := hid hS
      clear hS
      have HXX := hid hX
      clear hX hXB hXN c0 c1
      go_upto_region 30 with fail
      rw [← HXX.out]
      go_region_held3 (fun x' => OpS wr q k0 k1 g1 x') (first | exact HS.out.drew | assumption) (first | (go_at_call 69; refine (f69 q k0 k1 HOP.out.1 HOP.out.2 _ (OpS.op (by assumption))).mono ?_; rintro e w3 ⟨rfl, hb3⟩; have hs3 := OpS.below (by assumption) hb3; clear hb3))
      have HX3 := hid hs3.bel
      clear hs3
      go_wp2
      go_ret
      exact ⟨ret_kn _ _ HR.out rfl, HX2.out.trans (HX3.out.mono HX2.out.size)⟩
end Go.Proofs.YtbdlahhejfamhaaGreatDoor.Qry
/- The program's kindOfNode: calls. -/
namespace Go.Proofs.YtbdlahhejfamhaaGreatDoor.Qry
open Go.RowKit
open Go.Proofs.YtbdlahhejfamhaaGreatDoor.Fil (HasT FitT)

theorem takesK_len (s : ByteArray) : (takesK s).length ≤ 10 := by
  unfold takesK
  by_cases h1 : s = nTime
  · rw [if_pos h1]; decide
  rw [if_neg h1]
  by_cases h2 : s = nScalar ∨ s = nAbs ∨ s = nAbsent ∨ s = nStamp
  · rw [if_pos h2]; decide
  rw [if_neg h2]
  by_cases h3 : s = nClamp
  · rw [if_pos h3]; decide
  rw [if_neg h3]
  by_cases h4 : s = nHist
  · rw [if_pos h4]; decide
  rw [if_neg h4]
  by_cases h5 : s = nJoin
  · rw [if_pos h5]; decide
  rw [if_neg h5]
  by_cases h6 : s = nSet
  · rw [if_pos h6]; decide
  rw [if_neg h6]
  by_cases h7 : s = nPredict
  · rw [if_pos h7]; decide
  rw [if_neg h7]
  by_cases h8 : s = nQuant
  · rw [if_pos h8]; decide
  rw [if_neg h8]
  by_cases h9 : s = nVector
  · rw [if_pos h9]; decide
  rw [if_neg h9]; decide
theorem call_kind (r : Cs) (s : ByteArray) (ks : List K) (a : Option Addr) (c : Nat) (w : World) (hr : r ∈ rowFn) (hn : nmC r = s) (ht : TabSp w) (hk : ks.length ≤ 10) (hh : HasT w a (ks.map K.s)) :
    Calls Tryz.prog 70 #[.agg #[.string ⟨r.1.toArray⟩, .string ⟨r.2.1.toArray⟩, .string ⟨r.2.2.1.toArray⟩, .bool r.2.2.2], .slice a ks.length c] w fun e w' => e = .returned (.string (callK s ks).s) ∧ Below w.heap.size w w' := by
  have h := fnK_all r hr
  rw [← hn]
  have h1 := f70 ⟨r.1.toArray⟩ ⟨r.2.1.toArray⟩ ⟨r.2.2.1.toArray⟩ r.2.2.2 (takesK (nmC r)) ks (givesK (nmC r)) a c w ht h.asc h.tk h.gv (fun hm => by
    rw [h.mr] at hm
    unfold moreK at hm
    rw [decide_eq_true_eq] at hm
    rw [hm]
    decide) (takesK_len _) hk hh
  rw [h.mr] at h1 ⊢
  exact h1
set_option maxHeartbeats 8000000 in
set_option maxRecDepth 100000 in
theorem kn_call (n : Nat) (IH : Hid (KnOk n)) (q : R) (ks : List Tr) (vs : List Value) (a : Option Addr) (c : Nat) (w0 : World) (S : Nat → Prop) (w : World) (d : Nat) (h : q.kd = 9) (hd : n + 1 + d = 12) (hg1 : Gt N1 d (.nd (pl q) ks)) (hg2 : Gt N2 d (.nd (pl q) ks)) (hrw : Rw w0 q) (hnl : NvL w0 S w ks vs) (hv : HasV S w a vs) (hb : Below w0.heap.size w0 w) (ht : Tabs w) :
    Calls Tryz.prog 34 #[vcallNode q a vs.length c] w (KnQ (kdq (pl q) (kdL ks)) w) := by
  have HG1 := hid hg1
  have HG2 := hid hg2
  have HRW := hid hrw
  have HN := hid hnl
  have HB := hid hb
  have HT := hid ht
  have HD := hid hd
  have HLn : Hid ((vs : List Value).length = ks.length) := NvL.len _ _ hnl
  have HM : Hid ((vs : List Value).length ≤ 10) := by
    have h1 := gt_len hg2
    have h2 := gt2_right hg2
    have h3 := HLn.out
    unfold Hid
    rw [right_9 (r := pl q) h] at h2
    simp only [Bool.and_eq_true, decide_eq_true_eq] at h2
    have h4 : (vs.length : Int) ≤ 10 := by rw [h3, ← h1]; exact h2.2
    omega
  have HOP : Hid (q.tx ∈ fnN) := by
    have h2 := gt2_right hg2
    rw [right_9 (r := pl q) h] at h2
    simp only [Bool.and_eq_true, decide_eq_true_eq] at h2
    exact h2.1
  have HVS := hid hv
  clear hv
  have HH := hid h
  clear h hg1 hg2 hrw hnl hb ht hd
  have hmk := mk_call
  have tnum := ty_call_num
  have ttext := ty_call_text
  have tsel := ty_call_sel
  have trange := ty_call_range
  have tsub := ty_call_sub
  have tneg := ty_call_neg
  have top := ty_call_op
  have tagg := ty_call_agg
  have tcall := ty_call_call
  obtain ⟨i0, hi, hz0, hz1, hz2⟩ := info_parts infoS
  go_enter Tryz.func34, Tryz.ntmps34
  go_wp2_with (go_at_call 222; refine (f222 q a _ c _).mono ?_; rintro e w2 ⟨rfl, hb2⟩; have HB2 := hid hb2; have HV2 : Hid (HasV AllB w2 a vs) := HVS.out.agr ⟨HB2.out.size, fun b _ h => HB2.out.block b h, fun _ _ => trivial⟩; clear hb2)
  go_loopw [3, 20] (fun so si wr => ∃ (k c' : Nat) (a' : Option Addr), k ≤ vs.length ∧ si = .int .i64 k ∧ so = .slice a' k c' ∧ Hid (KidK w2.heap.size ks wr a' c' k) ∧ Hid (Below w2.heap.size w2 wr)) (fun _ si _ => vs.length - (intOf si).toNat)
  case atStart => exact ⟨0, 0, none, Nat.zero_le _, rfl, rfl, ⟨by simp, .inl ⟨rfl, rfl⟩⟩, Below.refl _ _⟩
  case round =>
    obtain ⟨k, c', a', hk, rfl, rfl, HO, HBW⟩ := hrel
    have hbd : vs.length ≤ 10 := HM.out
    by_cases hlt : k < vs.length
    · have hlk : k < ks.length := by
        have h1 := HLn.out
        skip
        omega
      obtain ⟨tk, vk, e1, e2, e3⟩ := NvL.at_ _ _ HN.out k hlk
      have HE1 := hid e1
      rcases HV2.out with hr0 | ⟨b, off, hab, _, hbl, hc⟩
      · exact absurd hlt (by first | (rw [hr0]; simp) | (simp at hr0))
      have c0 := (HBW.out.cell (p := ⟨b, off + k, none⟩) hbl).trans ((hc k (by first | exact hlt | (simp only [List.length_cons, List.length_nil]; omega))).trans e2)
      have i1 : (k : Int) < (vs.length : Int) := by omega
      have HX2 := hid (HB2.out.trans (HBW.out.mono HB2.out.size))
      have HNk : Hid (Nv w0 S wr tk vk) := Nv.agr (Agr.below HX2.out) tk vk e3
      clear hc e1 e2 e3
      obtain rfl := hab
      have HC := hid (IH.out tk vk w0 S wr (d + 1) (by have := HD.out; omega) (gt1_kid HE1.out HG1.out) (gt2_kids HE1.out HG2.out) HNk.out (HB.out.trans (HX2.out.mono HB.out.size)) (HT.out.below HX2.out))
      have HTK := hid (kdL_at HE1.out)
      generalize kdT tk = kk at HC HTK
      go_wp2_with (first | (go_at_call 34; refine HC.out.mono ?_; rintro e w3 ⟨rfl, hb3⟩; have HB3 := hid hb3; have HO3 : Hid (KidK w2.heap.size ks w3 a' c' k) := own_belowK HO.out hb3; clear hb3) | (at_builtin; refine wpList_append_own _ rfl (.tmp 24) (.tmp 27) 50 rfl w2.heap.size 9 i0 (.string ByteArray.empty) 1 16 Tryz.underlying50 hi hz0 hz1 hz2 rfl (by decide) _ _ _ rfl (World.ownsRow.alloc HO3.out _) ⟨w3.heap.size, 0, none⟩ 1 1 [.string kk.s] rfl rfl ?d1 ?d2 ?d3 ?d4 ?d5 ?_))
      case d1 => exact one_cellsK w3 (.string kk.s) 9
      case d2 => intro u hu; simp at hu; rcases hu with rfl; rfl
      case d3 => unfold maxLen; omega
      case d4 => omega
      case d5 => simp; have := HBW.out.size; have := HB3.out.size; omega
      intro v1 w4 hown1 hgr1 _
      have HBX : Hid (Below w2.heap.size w2 w3) := HBW.out.trans (HB3.out.mono HBW.out.size)
      have HB4 := hid ((HBX.out.alloc HBX.out.size (.cells #[.string kk.s] 9)).grown hgr1 (by have := HBX.out.size; simp; omega) (fun j hj => (World.ownsRow.lt HO3.out j hj).1))
      obtain ⟨a4, c4, rfl⟩ := own_formK hown1
      have HO4 : Hid (KidK w2.heap.size ks w4 a4 c4 (k + 1)) := by
        unfold Hid KidK
        rw [HTK.out, List.map_append]
        simpa using hown1
      clear hown1 hgr1
      go_wp2
      go_roundw
      case rel => exact ⟨k + 1, c4, a4, by omega, by go_num, rfl, HO4.out, HB4.out⟩
      case measure => simp [intOf]; omega
    · have HE : Hid (ks.length = k) := by
        have h1 := HLn.out
        skip
        unfold Hid; omega
      have HOK := hid (KidK.own HO.out HE.out)
      have HX2 := hid (HB2.out.trans (HBW.out.mono HB2.out.size))
      have hke : k = vs.length := by
        have h1 := HLn.out
        have h2 := HE.out
        skip
        omega
      clear HO
      have hkk : vs.length ≤ 10 := by omega
      clear hke
      have HR : Hid (kdq (pl q) (kdL ks) = callK q.tx (kdL ks)) := by unfold Hid kdq; simp [pl, HH.out]
      have HTX := hid (HT.out.below HX2.out)
      obtain ⟨X, hX⟩ : ∃ X, X = wr.alloc (.cells #[.int .i64 q.kd, .int .i64 q.nu, .int .i64 q.st, .string q.tx, .int .i64 q.op, .slice q.ma q.ms.length q.mc, .int .i64 q.off, .bool q.fx, .int .i64 q.att, .bool q.bo, .int .i64 q.byy, .slice q.na q.ns.length q.nc, .int .i64 q.sd, .slice q.ea q.es.length q.ec, .int .i64 q.kc, .slice a vs.length c] 128) := ⟨_, rfl⟩
      have hXB : Below wr.heap.size wr X := by rw [hX]; exact (Below.refl _ _).alloc (Nat.le_refl _) _
      have hXN := congrArg (fun (x : World) => x.heap[wr.heap.size]?) hX
      rw [heap_alloc_new] at hXN
      have x3 := box_at hXN 3 _ rfl
      have HBA := hid hXB
      have HXX := hid hX
      clear hX hXB hXN
      have HTA := hid (HTX.out.below HBA.out)
      have hks : (kdL ks).length = k := by rw [kdL_len, HE.out]
      have hk10 : k ≤ 10 := by omega
      have HFS := hid (f71 q.tx X HTA.out.fn)
      have HC := hid (fun (r : Cs) (hr : q.tx ∈ fnN → r ∈ rowFn ∧ nmC r = q.tx) (x' : World) (hx : Below X.heap.size X x') => call_kind r q.tx (kdL ks) a' c' x' (hr HOP.out).1 (hr HOP.out).2 (HTA.out.below hx).sp (by omega) (HOK.out.has.below (HBA.out.trans (hx.mono HBA.out.size))))
      generalize callK q.tx (kdL ks) = res at HC HR
      rw [hks] at HC
      clear hks hk10 hkk HOK
      go_upto_region 36 with fail
      rw [← HXX.out]
      clear HXX
      generalize q.tx = tx at *
      go_wp2_with (first | (go_at_call 71; refine HFS.out.mono ?_; rintro e w3 ⟨⟨⟨r1, r2, r3, r4⟩, rfl, hr⟩, hb3⟩; have HB3 := hid hb3; have HCR := hid (HC.out _ hr); clear hr hb3) | (go_at_call 70; refine (HCR.out _ (HB3.out.alloc HB3.out.size _)).mono ?_; rintro e w4 ⟨rfl, hb4⟩; have HB4 := hid hb4; clear hb4))
      go_ret
      have hA := HB3.out.alloc HB3.out.size (.cells #[.string ⟨r1.toArray⟩, .string ⟨r2.toArray⟩, .string ⟨r3.toArray⟩, .bool r4] 125)
      exact ⟨ret_kn _ _ HR.out rfl, HX2.out.trans ((HBA.out.trans ((hA.trans (HB4.out.mono hA.size)).mono HBA.out.size)).mono HX2.out.size)⟩
end Go.Proofs.YtbdlahhejfamhaaGreatDoor.Qry
/- The program's kindOfNode: sub-questions, negations. -/
namespace Go.Proofs.YtbdlahhejfamhaaGreatDoor.Qry
open Go.RowKit
open Go.Proofs.YtbdlahhejfamhaaGreatDoor.Fil (HasT FitT)

set_option maxHeartbeats 8000000 in
set_option maxRecDepth 100000 in
theorem kn_sub (n : Nat) (IH : Hid (KnOk n)) (q : R) (ks : List Tr) (tt : TypeId) (x : Value) (w0 : World) (S : Nat → Prop) (w : World) (d : Nat) (h : q.kd = 5) (hd : n + 1 + d = 12) (hg1 : Gt N1 d (.nd (pl q) ks)) (hg2 : Gt N2 d (.nd (pl q) ks)) (hrw : Rw w0 q) (hnl : NvL w0 S w ks [.iface tt x]) (hb : Below w0.heap.size w0 w) (ht : Tabs w) :
    Calls Tryz.prog 34 #[vsubNode q (.iface tt x)] w (KnQ (kdq (pl q) (kdL ks)) w) := by
  have HG1 := hid hg1
  have HG2 := hid hg2
  have HRW := hid hrw
  have HN := hid hnl
  have HB := hid hb
  have HT := hid ht
  have HD := hid hd
  have HLn : Hid (([.iface tt x] : List Value).length = ks.length) := NvL.len _ _ hnl
  have HM : Hid (([.iface tt x] : List Value).length ≤ 10) := by
    have h1 := gt_len hg2
    have h2 := gt2_right hg2
    have h3 := HLn.out
    unfold Hid
    simp only [List.length_cons, List.length_nil]
    omega
  have HH := hid h
  clear h hg1 hg2 hrw hnl hb ht hd
  have hmk := mk_sub
  have tnum := ty_sub_num
  have ttext := ty_sub_text
  have tsel := ty_sub_sel
  have trange := ty_sub_range
  have tsub := ty_sub_sub
  obtain ⟨i0, hi, hz0, hz1, hz2⟩ := info_parts infoS
  go_enter Tryz.func34, Tryz.ntmps34
  go_wp2_with (go_at_call 218; refine (f218 q tt x _).mono ?_; rintro e w2 ⟨⟨gg, rfl, hv2⟩, hb2⟩; have HB2 := hid hb2; have HV2 := hid hv2; clear hb2 hv2)
  go_loopw [3, 20] (fun so si wr => ∃ (k c' : Nat) (a' : Option Addr), k ≤ 1 ∧ si = .int .i64 k ∧ so = .slice a' k c' ∧ Hid (KidK w2.heap.size ks wr a' c' k) ∧ Hid (Below w2.heap.size w2 wr)) (fun _ si _ => 1 - (intOf si).toNat)
  case atStart => exact ⟨0, 0, none, Nat.zero_le _, rfl, rfl, ⟨by simp, .inl ⟨rfl, rfl⟩⟩, Below.refl _ _⟩
  case round =>
    obtain ⟨k, c', a', hk, rfl, rfl, HO, HBW⟩ := hrel
    have hbd : 1 ≤ 10 := HM.out
    by_cases hlt : k < 1
    · have hlk : k < ks.length := by
        have h1 := HLn.out
        simp only [List.length_cons, List.length_nil] at h1
        omega
      obtain ⟨tk, vk, e1, e2, e3⟩ := NvL.at_ _ _ HN.out k hlk
      have HE1 := hid e1
      rcases HV2.out with hr0 | ⟨b, off, hab, _, hbl, hc⟩
      · exact absurd hlt (by first | (rw [hr0]; simp) | (simp at hr0))
      have c0 := (HBW.out.cell (p := ⟨b, off + k, none⟩) hbl).trans ((hc k (by first | exact hlt | (simp only [List.length_cons, List.length_nil]; omega))).trans e2)
      have i1 : (k : Int) < (1 : Int) := by omega
      have HX2 := hid (HB2.out.trans (HBW.out.mono HB2.out.size))
      have HNk : Hid (Nv w0 S wr tk vk) := Nv.agr (Agr.below HX2.out) tk vk e3
      clear hc e1 e2 e3
      injection hab with hab; injection hab with hab1 hab2 _; subst hab1; subst hab2; rw [Nat.zero_add] at c0
      have HC := hid (IH.out tk vk w0 S wr (d + 1) (by have := HD.out; omega) (gt1_kid HE1.out HG1.out) (gt2_kids HE1.out HG2.out) HNk.out (HB.out.trans (HX2.out.mono HB.out.size)) (HT.out.below HX2.out))
      have HTK := hid (kdL_at HE1.out)
      generalize kdT tk = kk at HC HTK
      go_wp2_with (first | (go_at_call 34; refine HC.out.mono ?_; rintro e w3 ⟨rfl, hb3⟩; have HB3 := hid hb3; have HO3 : Hid (KidK w2.heap.size ks w3 a' c' k) := own_belowK HO.out hb3; clear hb3) | (at_builtin; refine wpList_append_own _ rfl (.tmp 24) (.tmp 27) 50 rfl w2.heap.size 9 i0 (.string ByteArray.empty) 1 16 Tryz.underlying50 hi hz0 hz1 hz2 rfl (by decide) _ _ _ rfl (World.ownsRow.alloc HO3.out _) ⟨w3.heap.size, 0, none⟩ 1 1 [.string kk.s] rfl rfl ?d1 ?d2 ?d3 ?d4 ?d5 ?_))
      case d1 => exact one_cellsK w3 (.string kk.s) 9
      case d2 => intro u hu; simp at hu; rcases hu with rfl; rfl
      case d3 => unfold maxLen; omega
      case d4 => omega
      case d5 => simp; have := HBW.out.size; have := HB3.out.size; omega
      intro v1 w4 hown1 hgr1 _
      have HBX : Hid (Below w2.heap.size w2 w3) := HBW.out.trans (HB3.out.mono HBW.out.size)
      have HB4 := hid ((HBX.out.alloc HBX.out.size (.cells #[.string kk.s] 9)).grown hgr1 (by have := HBX.out.size; simp; omega) (fun j hj => (World.ownsRow.lt HO3.out j hj).1))
      obtain ⟨a4, c4, rfl⟩ := own_formK hown1
      have HO4 : Hid (KidK w2.heap.size ks w4 a4 c4 (k + 1)) := by
        unfold Hid KidK
        rw [HTK.out, List.map_append]
        simpa using hown1
      clear hown1 hgr1
      go_wp2
      go_roundw
      case rel => exact ⟨k + 1, c4, a4, by omega, by go_num, rfl, HO4.out, HB4.out⟩
      case measure => simp [intOf]; omega
    · have HE : Hid (ks.length = k) := by
        have h1 := HLn.out
        simp only [List.length_cons, List.length_nil] at h1
        unfold Hid; omega
      have HOK := hid (KidK.own HO.out HE.out)
      have HX2 := hid (HB2.out.trans (HBW.out.mono HB2.out.size))
      have hke : k = 1 := by
        have h1 := HLn.out
        have h2 := HE.out
        simp only [List.length_cons, List.length_nil] at h1
        omega
      clear HO
      subst hke
      obtain ⟨k0, hk0⟩ : ∃ k0, kdL ks = [k0] := List.length_eq_one_iff.1 (by rw [kdL_len]; exact HE.out)
      obtain ⟨g0, hg0, _, hg2, hg3, c0⟩ := OwnK.at_ HOK.out 0 k0 (by rw [hk0]; rfl)
      subst hg0
      rcases two k0.val with hv | hv
      · have HR : Hid (kdq (pl q) (kdL ks) = .r) := by unfold Hid; rw [hk0]; unfold kdq; simp [pl, HH.out, hv]
        have HV := hid (fun w => f68 k0 w)
        rw [hv] at HV
        clear hv hk0 HOK
        go_wp2_with (go_at_call 68; refine (HV.out _).mono ?_; rintro e w3 ⟨rfl, hw3⟩; have hw3' := hw3.symm; clear hw3; subst hw3')
        go_ret
        exact ⟨ret_kn .r _ HR.out rfl, HX2.out.alloc HX2.out.size _⟩
      · have HR : Hid (kdq (pl q) (kdL ks) = .e) := by unfold Hid; rw [hk0]; unfold kdq; simp [pl, HH.out, hv]
        have HV := hid (fun w => f68 k0 w)
        rw [hv] at HV
        clear hv hk0 HOK
        go_wp2_with (go_at_call 68; refine (HV.out _).mono ?_; rintro e w3 ⟨rfl, hw3⟩; have hw3' := hw3.symm; clear hw3; subst hw3')
        go_ret
        exact ⟨ret_kn .e _ HR.out rfl, HX2.out.alloc HX2.out.size _⟩
set_option maxHeartbeats 8000000 in
set_option maxRecDepth 100000 in
theorem kn_neg (n : Nat) (IH : Hid (KnOk n)) (q : R) (ks : List Tr) (tt : TypeId) (x : Value) (w0 : World) (S : Nat → Prop) (w : World) (d : Nat) (h : q.kd = 6) (hd : n + 1 + d = 12) (hg1 : Gt N1 d (.nd (pl q) ks)) (hg2 : Gt N2 d (.nd (pl q) ks)) (hrw : Rw w0 q) (hnl : NvL w0 S w ks [.iface tt x]) (hb : Below w0.heap.size w0 w) (ht : Tabs w) :
    Calls Tryz.prog 34 #[vnegNode q (.iface tt x)] w (KnQ (kdq (pl q) (kdL ks)) w) := by
  have HG1 := hid hg1
  have HG2 := hid hg2
  have HRW := hid hrw
  have HN := hid hnl
  have HB := hid hb
  have HT := hid ht
  have HD := hid hd
  have HLn : Hid (([.iface tt x] : List Value).length = ks.length) := NvL.len _ _ hnl
  have HM : Hid (([.iface tt x] : List Value).length ≤ 10) := by
    have h1 := gt_len hg2
    have h2 := gt2_right hg2
    have h3 := HLn.out
    unfold Hid
    simp only [List.length_cons, List.length_nil]
    omega
  have HH := hid h
  clear h hg1 hg2 hrw hnl hb ht hd
  have hmk := mk_neg
  have tnum := ty_neg_num
  have ttext := ty_neg_text
  have tsel := ty_neg_sel
  have trange := ty_neg_range
  have tsub := ty_neg_sub
  have tneg := ty_neg_neg
  obtain ⟨i0, hi, hz0, hz1, hz2⟩ := info_parts infoS
  go_enter Tryz.func34, Tryz.ntmps34
  go_wp2_with (go_at_call 219; refine (f219 q tt x _).mono ?_; rintro e w2 ⟨⟨gg, rfl, hv2⟩, hb2⟩; have HB2 := hid hb2; have HV2 := hid hv2; clear hb2 hv2)
  go_loopw [3, 20] (fun so si wr => ∃ (k c' : Nat) (a' : Option Addr), k ≤ 1 ∧ si = .int .i64 k ∧ so = .slice a' k c' ∧ Hid (KidK w2.heap.size ks wr a' c' k) ∧ Hid (Below w2.heap.size w2 wr)) (fun _ si _ => 1 - (intOf si).toNat)
  case atStart => exact ⟨0, 0, none, Nat.zero_le _, rfl, rfl, ⟨by simp, .inl ⟨rfl, rfl⟩⟩, Below.refl _ _⟩
  case round =>
    obtain ⟨k, c', a', hk, rfl, rfl, HO, HBW⟩ := hrel
    have hbd : 1 ≤ 10 := HM.out
    by_cases hlt : k < 1
    · have hlk : k < ks.length := by
        have h1 := HLn.out
        simp only [List.length_cons, List.length_nil] at h1
        omega
      obtain ⟨tk, vk, e1, e2, e3⟩ := NvL.at_ _ _ HN.out k hlk
      have HE1 := hid e1
      rcases HV2.out with hr0 | ⟨b, off, hab, _, hbl, hc⟩
      · exact absurd hlt (by first | (rw [hr0]; simp) | (simp at hr0))
      have c0 := (HBW.out.cell (p := ⟨b, off + k, none⟩) hbl).trans ((hc k (by first | exact hlt | (simp only [List.length_cons, List.length_nil]; omega))).trans e2)
      have i1 : (k : Int) < (1 : Int) := by omega
      have HX2 := hid (HB2.out.trans (HBW.out.mono HB2.out.size))
      have HNk : Hid (Nv w0 S wr tk vk) := Nv.agr (Agr.below HX2.out) tk vk e3
      clear hc e1 e2 e3
      injection hab with hab; injection hab with hab1 hab2 _; subst hab1; subst hab2; rw [Nat.zero_add] at c0
      have HC := hid (IH.out tk vk w0 S wr (d + 1) (by have := HD.out; omega) (gt1_kid HE1.out HG1.out) (gt2_kids HE1.out HG2.out) HNk.out (HB.out.trans (HX2.out.mono HB.out.size)) (HT.out.below HX2.out))
      have HTK := hid (kdL_at HE1.out)
      generalize kdT tk = kk at HC HTK
      go_wp2_with (first | (go_at_call 34; refine HC.out.mono ?_; rintro e w3 ⟨rfl, hb3⟩; have HB3 := hid hb3; have HO3 : Hid (KidK w2.heap.size ks w3 a' c' k) := own_belowK HO.out hb3; clear hb3) | (at_builtin; refine wpList_append_own _ rfl (.tmp 24) (.tmp 27) 50 rfl w2.heap.size 9 i0 (.string ByteArray.empty) 1 16 Tryz.underlying50 hi hz0 hz1 hz2 rfl (by decide) _ _ _ rfl (World.ownsRow.alloc HO3.out _) ⟨w3.heap.size, 0, none⟩ 1 1 [.string kk.s] rfl rfl ?d1 ?d2 ?d3 ?d4 ?d5 ?_))
      case d1 => exact one_cellsK w3 (.string kk.s) 9
      case d2 => intro u hu; simp at hu; rcases hu with rfl; rfl
      case d3 => unfold maxLen; omega
      case d4 => omega
      case d5 => simp; have := HBW.out.size; have := HB3.out.size; omega
      intro v1 w4 hown1 hgr1 _
      have HBX : Hid (Below w2.heap.size w2 w3) := HBW.out.trans (HB3.out.mono HBW.out.size)
      have HB4 := hid ((HBX.out.alloc HBX.out.size (.cells #[.string kk.s] 9)).grown hgr1 (by have := HBX.out.size; simp; omega) (fun j hj => (World.ownsRow.lt HO3.out j hj).1))
      obtain ⟨a4, c4, rfl⟩ := own_formK hown1
      have HO4 : Hid (KidK w2.heap.size ks w4 a4 c4 (k + 1)) := by
        unfold Hid KidK
        rw [HTK.out, List.map_append]
        simpa using hown1
      clear hown1 hgr1
      go_wp2
      go_roundw
      case rel => exact ⟨k + 1, c4, a4, by omega, by go_num, rfl, HO4.out, HB4.out⟩
      case measure => simp [intOf]; omega
    · have HE : Hid (ks.length = k) := by
        have h1 := HLn.out
        simp only [List.length_cons, List.length_nil] at h1
        unfold Hid; omega
      have HOK := hid (KidK.own HO.out HE.out)
      have HX2 := hid (HB2.out.trans (HBW.out.mono HB2.out.size))
      have hke : k = 1 := by
        have h1 := HLn.out
        have h2 := HE.out
        simp only [List.length_cons, List.length_nil] at h1
        omega
      clear HO
      subst hke
      obtain ⟨k0, hk0⟩ : ∃ k0, kdL ks = [k0] := List.length_eq_one_iff.1 (by rw [kdL_len]; exact HE.out)
      obtain ⟨g0, hg0, _, hg2, hg3, c0⟩ := OwnK.at_ HOK.out 0 k0 (by rw [hk0]; rfl)
      subst hg0
      rcases two k0.val with hv | hv
      · have HR : Hid (kdq (pl q) (kdL ks) = k0) := by unfold Hid; rw [hk0]; unfold kdq; simp [pl, HH.out, hv]
        have HV := hid (fun w => f68 k0 w)
        rw [hv] at HV
        clear hv hk0 HOK
        go_wp2_with (go_at_call 68; refine (HV.out _).mono ?_; rintro e w3 ⟨rfl, hw3⟩; have hw3' := hw3.symm; clear hw3; subst hw3')
        go_ret
        exact ⟨ret_kn k0 _ HR.out rfl, HX2.out.alloc HX2.out.size _⟩
      · have HR : Hid (kdq (pl q) (kdL ks) = .e) := by unfold Hid; rw [hk0]; unfold kdq; simp [pl, HH.out, hv]
        have HV := hid (fun w => f68 k0 w)
        rw [hv] at HV
        clear hv hk0 HOK
        go_wp2_with (go_at_call 68; refine (HV.out _).mono ?_; rintro e w3 ⟨rfl, hw3⟩; have hw3' := hw3.symm; clear hw3; subst hw3')
        go_ret
        exact ⟨ret_kn .e _ HR.out rfl, HX2.out.alloc HX2.out.size _⟩
end Go.Proofs.YtbdlahhejfamhaaGreatDoor.Qry
/- The program's kindOfNode: ranges. -/
namespace Go.Proofs.YtbdlahhejfamhaaGreatDoor.Qry
open Go.RowKit
open Go.Proofs.YtbdlahhejfamhaaGreatDoor.Fil (HasT FitT)

set_option maxHeartbeats 8000000 in
set_option maxRecDepth 100000 in
theorem kn_range (n : Nat) (IH : Hid (KnOk n)) (q : R) (ks : List Tr) (p : R) (w0 : World) (S : Nat → Prop) (w : World) (d : Nat) (h : q.kd = 4) (hd : n + 1 + d = 12) (hg1 : Gt N1 d (.nd (pl q) ks)) (hg2 : Gt N2 d (.nd (pl q) ks)) (hrw : Rw w0 q) (hnl : NvL w0 S w ks [vselectNode p]) (hb : Below w0.heap.size w0 w) (ht : Tabs w) :
    Calls Tryz.prog 34 #[vrangeNode q p] w (KnQ (kdq (pl q) (kdL ks)) w) := by
  have HG1 := hid hg1
  have HG2 := hid hg2
  have HRW := hid hrw
  have HN := hid hnl
  have HB := hid hb
  have HT := hid ht
  have HD := hid hd
  have HLn : Hid (([vselectNode p] : List Value).length = ks.length) := NvL.len _ _ hnl
  have HM : Hid (([vselectNode p] : List Value).length ≤ 10) := by
    have h1 := gt_len hg2
    have h2 := gt2_right hg2
    have h3 := HLn.out
    unfold Hid
    simp only [List.length_cons, List.length_nil]
    omega
  have HH := hid h
  clear h hg1 hg2 hrw hnl hb ht hd
  have hmk := mk_range
  have tnum := ty_range_num
  have ttext := ty_range_text
  have tsel := ty_range_sel
  have trange := ty_range_range
  obtain ⟨i0, hi, hz0, hz1, hz2⟩ := info_parts infoS
  go_enter Tryz.func34, Tryz.ntmps34
  go_wp2_with (go_at_call 217; refine (f217 q p _).mono ?_; rintro e w2 ⟨⟨gg, rfl, hv2⟩, hb2⟩; have HB2 := hid hb2; have HV2 := hid hv2; clear hb2 hv2)
  go_loopw [3, 20] (fun so si wr => ∃ (k c' : Nat) (a' : Option Addr), k ≤ 1 ∧ si = .int .i64 k ∧ so = .slice a' k c' ∧ Hid (KidK w2.heap.size ks wr a' c' k) ∧ Hid (Below w2.heap.size w2 wr)) (fun _ si _ => 1 - (intOf si).toNat)
  case atStart => exact ⟨0, 0, none, Nat.zero_le _, rfl, rfl, ⟨by simp, .inl ⟨rfl, rfl⟩⟩, Below.refl _ _⟩
  case round =>
    obtain ⟨k, c', a', hk, rfl, rfl, HO, HBW⟩ := hrel
    have hbd : 1 ≤ 10 := HM.out
    by_cases hlt : k < 1
    · have hlk : k < ks.length := by
        have h1 := HLn.out
        simp only [List.length_cons, List.length_nil] at h1
        omega
      obtain ⟨tk, vk, e1, e2, e3⟩ := NvL.at_ _ _ HN.out k hlk
      have HE1 := hid e1
      rcases HV2.out with hr0 | ⟨b, off, hab, _, hbl, hc⟩
      · exact absurd hlt (by first | (rw [hr0]; simp) | (simp at hr0))
      have c0 := (HBW.out.cell (p := ⟨b, off + k, none⟩) hbl).trans ((hc k (by first | exact hlt | (simp only [List.length_cons, List.length_nil]; omega))).trans e2)
      have i1 : (k : Int) < (1 : Int) := by omega
      have HX2 := hid (HB2.out.trans (HBW.out.mono HB2.out.size))
      have HNk : Hid (Nv w0 S wr tk vk) := Nv.agr (Agr.below HX2.out) tk vk e3
      clear hc e1 e2 e3
      injection hab with hab; injection hab with hab1 hab2 _; subst hab1; subst hab2; rw [Nat.zero_add] at c0
      have HC := hid (IH.out tk vk w0 S wr (d + 1) (by have := HD.out; omega) (gt1_kid HE1.out HG1.out) (gt2_kids HE1.out HG2.out) HNk.out (HB.out.trans (HX2.out.mono HB.out.size)) (HT.out.below HX2.out))
      have HTK := hid (kdL_at HE1.out)
      generalize kdT tk = kk at HC HTK
      go_wp2_with (first | (go_at_call 34; refine HC.out.mono ?_; rintro e w3 ⟨rfl, hb3⟩; have HB3 := hid hb3; have HO3 : Hid (KidK w2.heap.size ks w3 a' c' k) := own_belowK HO.out hb3; clear hb3) | (at_builtin; refine wpList_append_own _ rfl (.tmp 24) (.tmp 27) 50 rfl w2.heap.size 9 i0 (.string ByteArray.empty) 1 16 Tryz.underlying50 hi hz0 hz1 hz2 rfl (by decide) _ _ _ rfl (World.ownsRow.alloc HO3.out _) ⟨w3.heap.size, 0, none⟩ 1 1 [.string kk.s] rfl rfl ?d1 ?d2 ?d3 ?d4 ?d5 ?_))
      case d1 => exact one_cellsK w3 (.string kk.s) 9
      case d2 => intro u hu; simp at hu; rcases hu with rfl; rfl
      case d3 => unfold maxLen; omega
      case d4 => omega
      case d5 => simp; have := HBW.out.size; have := HB3.out.size; omega
      intro v1 w4 hown1 hgr1 _
      have HBX : Hid (Below w2.heap.size w2 w3) := HBW.out.trans (HB3.out.mono HBW.out.size)
      have HB4 := hid ((HBX.out.alloc HBX.out.size (.cells #[.string kk.s] 9)).grown hgr1 (by have := HBX.out.size; simp; omega) (fun j hj => (World.ownsRow.lt HO3.out j hj).1))
      obtain ⟨a4, c4, rfl⟩ := own_formK hown1
      have HO4 : Hid (KidK w2.heap.size ks w4 a4 c4 (k + 1)) := by
        unfold Hid KidK
        rw [HTK.out, List.map_append]
        simpa using hown1
      clear hown1 hgr1
      go_wp2
      go_roundw
      case rel => exact ⟨k + 1, c4, a4, by omega, by go_num, rfl, HO4.out, HB4.out⟩
      case measure => simp [intOf]; omega
    · have HE : Hid (ks.length = k) := by
        have h1 := HLn.out
        simp only [List.length_cons, List.length_nil] at h1
        unfold Hid; omega
      have HOK := hid (KidK.own HO.out HE.out)
      have HX2 := hid (HB2.out.trans (HBW.out.mono HB2.out.size))
      have hke : k = 1 := by
        have h1 := HLn.out
        have h2 := HE.out
        simp only [List.length_cons, List.length_nil] at h1
        omega
      clear HO
      subst hke
      have HR : Hid (kdq (pl q) (kdL ks) = .r) := by unfold Hid kdq; simp [pl, HH.out]
      clear HOK
      go_upto_region 18 with fail
      refine wp_region_lit ?_
      refine wpList_plain rfl (fun K hK => ?_)
      unfold Oper.wp
      rw [exec_allocR wr _ _ rfl]
      refine hK _ _ ?_
      clear hK K
      refine wpList_plain rfl (fun K hK => ?_)
      unfold Oper.wp
      rw [exec_storeR wr _ (by rfl) (by simp [Value.oneCell']) _ _ _ _ rfl rfl rfl]
      refine hK _ _ ?_
      clear hK K
      go_wp2
      go_ret
      exact ⟨ret_kn .r _ HR.out rfl, HX2.out.alloc HX2.out.size _⟩
end Go.Proofs.YtbdlahhejfamhaaGreatDoor.Qry
/- The program's kindOfNode: aggregates. -/
namespace Go.Proofs.YtbdlahhejfamhaaGreatDoor.Qry
open Go.RowKit
open Go.Proofs.YtbdlahhejfamhaaGreatDoor.Fil (HasT FitT)

set_option maxHeartbeats 8000000 in
set_option maxRecDepth 100000 in
theorem kn_agg (n : Nat) (IH : Hid (KnOk n)) (q : R) (ks : List Tr) (vs : List Value) (a : Option Addr) (c : Nat) (w0 : World) (S : Nat → Prop) (w : World) (d : Nat) (h : q.kd = 8) (hd : n + 1 + d = 12) (hg1 : Gt N1 d (.nd (pl q) ks)) (hg2 : Gt N2 d (.nd (pl q) ks)) (hrw : Rw w0 q) (hnl : NvL w0 S w ks vs) (hv : HasV S w a vs) (hb : Below w0.heap.size w0 w) (ht : Tabs w) :
    Calls Tryz.prog 34 #[vaggNode q a vs.length c] w (KnQ (kdq (pl q) (kdL ks)) w) := by
  have HG1 := hid hg1
  have HG2 := hid hg2
  have HRW := hid hrw
  have HN := hid hnl
  have HB := hid hb
  have HT := hid ht
  have HD := hid hd
  have HLn : Hid ((vs : List Value).length = ks.length) := NvL.len _ _ hnl
  have HM : Hid ((vs : List Value).length ≤ 10) := by
    have h1 := gt_len hg2
    have h2 := gt2_right hg2
    have h3 := HLn.out
    unfold Hid
    rw [right_8 (r := pl q) h] at h2
    unfold rAgg at h2
    simp only [Bool.and_eq_true, decide_eq_true_eq] at h2
    have h4 : (vs.length : Int) = if 6 ≤ q.op then 2 else 1 := by rw [h3, ← h1]; exact h2.2
    by_cases h6 : 6 ≤ q.op
    · rw [if_pos h6] at h4; omega
    · rw [if_neg h6] at h4; omega
  have HOP : Hid (1 ≤ q.op ∧ q.op ≤ 8) := by
    have h2 := gt2_right hg2
    rw [right_8 (r := pl q) h] at h2
    unfold rAgg at h2
    simp only [Bool.and_eq_true, decide_eq_true_eq] at h2
    exact h2.1.1
  have HVS := hid hv
  clear hv
  have HH := hid h
  clear h hg1 hg2 hrw hnl hb ht hd
  have hmk := mk_agg
  have tnum := ty_agg_num
  have ttext := ty_agg_text
  have tsel := ty_agg_sel
  have trange := ty_agg_range
  have tsub := ty_agg_sub
  have tneg := ty_agg_neg
  have top := ty_agg_op
  have tagg := ty_agg_agg
  obtain ⟨i0, hi, hz0, hz1, hz2⟩ := info_parts infoS
  go_enter Tryz.func34, Tryz.ntmps34
  go_wp2_with (go_at_call 221; refine (f221 q a _ c _).mono ?_; rintro e w2 ⟨rfl, hb2⟩; have HB2 := hid hb2; have HV2 : Hid (HasV AllB w2 a vs) := HVS.out.agr ⟨HB2.out.size, fun b _ h => HB2.out.block b h, fun _ _ => trivial⟩; clear hb2)
  go_loopw [3, 20] (fun so si wr => ∃ (k c' : Nat) (a' : Option Addr), k ≤ vs.length ∧ si = .int .i64 k ∧ so = .slice a' k c' ∧ Hid (KidK w2.heap.size ks wr a' c' k) ∧ Hid (Below w2.heap.size w2 wr)) (fun _ si _ => vs.length - (intOf si).toNat)
  case atStart => exact ⟨0, 0, none, Nat.zero_le _, rfl, rfl, ⟨by simp, .inl ⟨rfl, rfl⟩⟩, Below.refl _ _⟩
  case round =>
    obtain ⟨k, c', a', hk, rfl, rfl, HO, HBW⟩ := hrel
    have hbd : vs.length ≤ 10 := HM.out
    by_cases hlt : k < vs.length
    · have hlk : k < ks.length := by
        have h1 := HLn.out
        skip
        omega
      obtain ⟨tk, vk, e1, e2, e3⟩ := NvL.at_ _ _ HN.out k hlk
      have HE1 := hid e1
      rcases HV2.out with hr0 | ⟨b, off, hab, _, hbl, hc⟩
      · exact absurd hlt (by first | (rw [hr0]; simp) | (simp at hr0))
      have c0 := (HBW.out.cell (p := ⟨b, off + k, none⟩) hbl).trans ((hc k (by first | exact hlt | (simp only [List.length_cons, List.length_nil]; omega))).trans e2)
      have i1 : (k : Int) < (vs.length : Int) := by omega
      have HX2 := hid (HB2.out.trans (HBW.out.mono HB2.out.size))
      have HNk : Hid (Nv w0 S wr tk vk) := Nv.agr (Agr.below HX2.out) tk vk e3
      clear hc e1 e2 e3
      obtain rfl := hab
      have HC := hid (IH.out tk vk w0 S wr (d + 1) (by have := HD.out; omega) (gt1_kid HE1.out HG1.out) (gt2_kids HE1.out HG2.out) HNk.out (HB.out.trans (HX2.out.mono HB.out.size)) (HT.out.below HX2.out))
      have HTK := hid (kdL_at HE1.out)
      generalize kdT tk = kk at HC HTK
      go_wp2_with (first | (go_at_call 34; refine HC.out.mono ?_; rintro e w3 ⟨rfl, hb3⟩; have HB3 := hid hb3; have HO3 : Hid (KidK w2.heap.size ks w3 a' c' k) := own_belowK HO.out hb3; clear hb3) | (at_builtin; refine wpList_append_own _ rfl (.tmp 24) (.tmp 27) 50 rfl w2.heap.size 9 i0 (.string ByteArray.empty) 1 16 Tryz.underlying50 hi hz0 hz1 hz2 rfl (by decide) _ _ _ rfl (World.ownsRow.alloc HO3.out _) ⟨w3.heap.size, 0, none⟩ 1 1 [.string kk.s] rfl rfl ?d1 ?d2 ?d3 ?d4 ?d5 ?_))
      case d1 => exact one_cellsK w3 (.string kk.s) 9
      case d2 => intro u hu; simp at hu; rcases hu with rfl; rfl
      case d3 => unfold maxLen; omega
      case d4 => omega
      case d5 => simp; have := HBW.out.size; have := HB3.out.size; omega
      intro v1 w4 hown1 hgr1 _
      have HBX : Hid (Below w2.heap.size w2 w3) := HBW.out.trans (HB3.out.mono HBW.out.size)
      have HB4 := hid ((HBX.out.alloc HBX.out.size (.cells #[.string kk.s] 9)).grown hgr1 (by have := HBX.out.size; simp; omega) (fun j hj => (World.ownsRow.lt HO3.out j hj).1))
      obtain ⟨a4, c4, rfl⟩ := own_formK hown1
      have HO4 : Hid (KidK w2.heap.size ks w4 a4 c4 (k + 1)) := by
        unfold Hid KidK
        rw [HTK.out, List.map_append]
        simpa using hown1
      clear hown1 hgr1
      go_wp2
      go_roundw
      case rel => exact ⟨k + 1, c4, a4, by omega, by go_num, rfl, HO4.out, HB4.out⟩
      case measure => simp [intOf]; omega
    · have HE : Hid (ks.length = k) := by
        have h1 := HLn.out
        skip
        unfold Hid; omega
      have HOK := hid (KidK.own HO.out HE.out)
      have HX2 := hid (HB2.out.trans (HBW.out.mono HB2.out.size))
      have hke : k = vs.length := by
        have h1 := HLn.out
        have h2 := HE.out
        skip
        omega
      clear HO
      have hkk : vs.length ≤ 10 := by omega
      clear hke
      have HR : Hid (kdq (pl q) (kdL ks) = aggK (pl q) (kdL ks)) := by unfold Hid kdq; simp [pl, HH.out]
      obtain ⟨op, hop⟩ : ∃ op : Nat, q.op = op := ⟨q.op.toNat, by have := HOP.out; omega⟩
      obtain ⟨kd, nu, st, tx, opp, ms, ma, mc, off, fx, att, bo, byy, ns, na, nc, sd, es, ea, ec, kc⟩ := q
      simp only at hop
      subst hop
      have hop8 : op < 9 := by have := HOP.out; simp only at this; omega
      have HA := hid (agK_all op (by have := HOP.out; simp only at this; omega) (by omega))
      have HTX := hid (HT.out.below HX2.out)
      obtain ⟨X, hX⟩ : ∃ X, X = wr.alloc (.cells #[.int .i64 kd, .int .i64 nu, .int .i64 st, .string tx, .int .i64 op, .slice ma ms.length mc, .int .i64 off, .bool fx, .int .i64 att, .bool bo, .int .i64 byy, .slice na ns.length nc, .int .i64 sd, .slice ea es.length ec, .int .i64 kc, .slice a vs.length c] 123) := ⟨_, rfl⟩
      have hXB : Below wr.heap.size wr X := by rw [hX]; exact (Below.refl _ _).alloc (Nat.le_refl _) _
      have hXN := congrArg (fun (x : World) => x.heap[wr.heap.size]?) hX
      rw [heap_alloc_new] at hXN
      have x4 := box_at hXN 4 _ rfl
      have HBA := hid hXB
      have HXX := hid hX
      clear hX hXB hXN
      have HTA := hid (HTX.out.below HBA.out)
      obtain ⟨a0, a1, a2, a3⟩ := tabAg_at HTA.out.ag op hop8
      have hopp : (op : Int) < 9 := by omega
      generalize rowAg.getD op cs0 = rr at *
      obtain ⟨r1, r2, r3, r4⟩ := rr
      simp only at a0 a1 a2 a3
      have hks : (kdL ks).length = k := by rw [kdL_len, HE.out]
      have hk10 : k ≤ 10 := by omega
      have HC := hid (fun (x' : World) (hx : Below wr.heap.size wr x') (htx : TabSp x') => f70 ⟨r1.toArray⟩ ⟨r2.toArray⟩ ⟨r3.toArray⟩ r4 (if 6 ≤ op then [K.n, .v] else [K.v]) (kdL ks) .v a' c' x' htx HA.out.asc HA.out.tk HA.out.gv (fun h => by rw [show r4 = false from HA.out.mr] at h; cases h) (by by_cases h6 : 6 ≤ op <;> simp [h6]) (by omega) (HOK.out.has.below hx))
      have HRR : Hid (aggK (pl ⟨kd, nu, st, tx, op, ms, ma, mc, off, fx, att, bo, byy, ns, na, nc, sd, es, ea, ec, kc⟩) (kdL ks) = if padL (if 6 ≤ op then [K.n, .v] else [K.v]) r4 (kdL ks).length .t = kdL ks then K.v else K.e) := by
        unfold Hid aggK
        rw [show r4 = false from HA.out.mr, show (pl ⟨kd, nu, st, tx, op, ms, ma, mc, off, fx, att, bo, byy, ns, na, nc, sd, es, ea, ec, kc⟩).op = (op : Int) from rfl]
        have e6 : (6 ≤ (op : Int)) ↔ 6 ≤ op := by omega
        simp only [e6]
        by_cases he : kdL ks = (if 6 ≤ op then [K.n, .v] else [K.v])
        · exact (if_pos he).trans (if_pos (show (if 6 ≤ op then [K.n, .v] else [K.v]) = kdL ks from he.symm)).symm
        · exact (if_neg he).trans (if_neg (show ¬ (if 6 ≤ op then [K.n, .v] else [K.v]) = kdL ks from fun h => he h.symm)).symm
      generalize (if padL (if 6 ≤ op then [K.n, .v] else [K.v]) r4 (kdL ks).length .t = kdL ks then K.v else K.e) = res at HC HRR
      rw [hks] at HC
      generalize (⟨r1.toArray⟩ : ByteArray) = s1 at *
      generalize (⟨r2.toArray⟩ : ByteArray) = s2 at *
      generalize (⟨r3.toArray⟩ : ByteArray) = s3 at *
      have HTS := hid HTA.out.sp
      clear hks HOK hk10 hkk
      go_upto_region 33 with fail
      rw [← HXX.out]
      clear HXX
      go_wp2_with (go_at_call 70; refine (HC.out _ HBA.out HTS.out).mono ?_; rintro e w3 ⟨rfl, hb3⟩; have HB3 := hid hb3; clear hb3)
      go_ret
      exact ⟨ret_kn _ _ (HR.out.trans HRR.out) rfl, HX2.out.trans ((HBA.out.trans (HB3.out.mono HBA.out.size)).mono HX2.out.size)⟩
end Go.Proofs.YtbdlahhejfamhaaGreatDoor.Qry
/- The program's kindOfNode: all kinds; the program's KindOfQuery. -/
namespace Go.Proofs.YtbdlahhejfamhaaGreatDoor.Qry
open Go.RowKit
open Go.Proofs.YtbdlahhejfamhaaGreatDoor.Fil (HasT FitT)

theorem knOk : ∀ n, KnOk n := by
  intro n
  induction n with
  | zero =>
    intro t v w0 S w d hd hg1 hg2
    obtain rfl : d = 12 := by omega
    exact absurd hg2 gt2_deep
  | succ n ih =>
    intro t v w0 S w d hd hg1 hg2 hv hb ht
    have IH := hid ih
    obtain ⟨r, ks⟩ := t
    simp only [Nv] at hv
    obtain ⟨q, vs, rfl, hrw, hnl, hsh⟩ := hv
    rw [kdT]
    cases hsh with
    | num h => exact kn_num n IH q ks w0 S w d h hd hg1 hg2 hrw hnl hb ht
    | text h => exact kn_text n IH q ks w0 S w d h hd hg1 hg2 hrw hnl hb ht
    | sel h => exact kn_sel n IH q ks w0 S w d h hd hg1 hg2 hrw hnl hb ht
    | range h p => exact kn_range n IH q ks p w0 S w d h hd hg1 hg2 hrw hnl hb ht
    | sub h tt x => exact kn_sub n IH q ks tt x w0 S w d h hd hg1 hg2 hrw hnl hb ht
    | neg h tt x => exact kn_neg n IH q ks tt x w0 S w d h hd hg1 hg2 hrw hnl hb ht
    | op h tt x uu y => exact kn_op n IH q ks tt x uu y w0 S w d h hd hg1 hg2 hrw hnl hb ht
    | agg h vs a c hv => exact kn_agg n IH q ks vs a c w0 S w d h hd hg1 hg2 hrw hnl hv hb ht
    | call h vs a c hv => exact kn_call n IH q ks vs a c w0 S w d h hd hg1 hg2 hrw hnl hv hb ht
/-- The kind of a question. -/
def KindR (ps : List Pl) (w : World) (e : Ending) (w' : World) : Prop :=
  Below w.heap.size w w' ∧ ((e = .returned (.string ⟨#[]⟩) ∧ ¬ GoodQ ps) ∨ ∃ t, e = .returned (.string (kdT t).s) ∧ ps = rows t ∧ ps.length ≤ 60 ∧ Gt NM 1 t)
set_option maxHeartbeats 4000000 in
theorem f11 (rs : List R) (a : Option Addr) (c : Nat) (w0 w : World) (hl : rs.length ≤ maxLen) (hc : rs.length ≤ c) (hcm : c ≤ maxLen) (hr : HasR w a rs) (hrw : ∀ q ∈ rs, Rw w0 q) (hb0 : Below w0.heap.size w0 w) (ht : Tabs w) : Calls Tryz.prog 11 #[.slice a rs.length c] w (KindR (rs.map pl) w) := by
  have HG := hid (f33 rs a c w0 w hl hc hcm hr hrw hb0 ht)
  have HT := hid ht
  have HB0 := hid hb0
  clear hr hrw hb0 ht
  go_enter Tryz.func11, Tryz.ntmps11
  go_wp2_with fail
  refine HG.out.mono ?_
  rintro e w1 ⟨hb1, hk⟩
  rcases hk with ⟨v, rfl, hno⟩ | ⟨t, v, rfl, he, h60, hgt, hnv⟩
  · have HN := hid hno
    have HB1 := hid hb1
    clear hno hb1
    go_wp2
    go_ret
    exact ⟨HB1.out, .inl ⟨rfl, HN.out⟩⟩
  · have HB1 := hid hb1
    have HE := hid he
    have H6 := hid h60
    have HGT := hid hgt
    have g := (gt_iff t 0).1 hgt
    have HC := hid (knOk 12 t v w0 _ w1 0 rfl g.1 g.2 hnv (HB0.out.trans (hb1.mono HB0.out.size)) (HT.out.below hb1))
    clear hb1 he h60 hgt hnv g
    go_wp2_with (go_at_call 34; refine HC.out.mono ?_; rintro e w2 ⟨rfl, hb2⟩; have HB2 := hid hb2; clear hb2)
    go_ret
    exact ⟨HB1.out.trans (HB2.out.mono HB1.out.size), .inr ⟨t, rfl, HE.out, H6.out, HGT.out⟩⟩
end Go.Proofs.YtbdlahhejfamhaaGreatDoor.Qry
