/- The kids of nodes; all nodes of a tree are right, and not too many stand within each other. -/
import Derived.Test.YtbdlahhejfamhaaGreatDoorRC1
namespace Go.Proofs.YtbdlahhejfamhaaGreatDoor.Qry
open Go.RowKit
open Go.Proofs.YtbdlahhejfamhaaGreatDoor.Pat (ret_bool)

def AllB : Nat → Prop := fun _ => True
theorem mk_num (v : Value) (w : World) : (method 375 110 v "loop.example/g00039/impl.kids").run Tryz.prog w = .ok (214, v) w := by kernel_rfl
theorem mk_text (v : Value) (w : World) : (method 375 111 v "loop.example/g00039/impl.kids").run Tryz.prog w = .ok (215, v) w := by kernel_rfl
theorem mk_sel (v : Value) (w : World) : (method 375 112 v "loop.example/g00039/impl.kids").run Tryz.prog w = .ok (216, v) w := by kernel_rfl
theorem mk_range (v : Value) (w : World) : (method 375 114 v "loop.example/g00039/impl.kids").run Tryz.prog w = .ok (217, v) w := by kernel_rfl
theorem mk_sub (v : Value) (w : World) : (method 375 116 v "loop.example/g00039/impl.kids").run Tryz.prog w = .ok (218, v) w := by kernel_rfl
theorem mk_neg (v : Value) (w : World) : (method 375 118 v "loop.example/g00039/impl.kids").run Tryz.prog w = .ok (219, v) w := by kernel_rfl
theorem mk_op (v : Value) (w : World) : (method 375 120 v "loop.example/g00039/impl.kids").run Tryz.prog w = .ok (220, v) w := by kernel_rfl
theorem mk_agg (v : Value) (w : World) : (method 375 123 v "loop.example/g00039/impl.kids").run Tryz.prog w = .ok (221, v) w := by kernel_rfl
theorem mk_call (v : Value) (w : World) : (method 375 128 v "loop.example/g00039/impl.kids").run Tryz.prog w = .ok (222, v) w := by kernel_rfl
theorem hasV_row {w : World} {g : Nat} {xs : List Value} {t : TypeId} (h : w.heap[g]? = some (.cells xs.toArray t)) : HasV AllB w (some ⟨g, 0, none⟩) xs := by
  refine .inr ⟨g, 0, rfl, trivial, lt_at h, fun i hi => ?_⟩
  simp [World.cell?, h, hi]
theorem f214 (q : R) (w : World) : Calls Tryz.prog 214 #[.agg #[.int .i64 q.kd, .int .i64 q.nu, .int .i64 q.st, .string q.tx, .int .i64 q.op, .slice q.ma q.ms.length q.mc, .int .i64 q.off, .bool q.fx, .int .i64 q.att, .bool q.bo, .int .i64 q.byy, .slice q.na q.ns.length q.nc, .int .i64 q.sd, .slice q.ea q.es.length q.ec, .int .i64 q.kc]] w fun e w' => e = .returned (.slice none 0 0) ∧ Below w.heap.size w w' := by
  go_enter Tryz.func214, Tryz.ntmps214
  go_wp2
  go_ret
  exact ⟨rfl, ((Below.refl _ _).alloc (Nat.le_refl _) _)⟩
theorem f215 (q : R) (w : World) : Calls Tryz.prog 215 #[.agg #[.int .i64 q.kd, .int .i64 q.nu, .int .i64 q.st, .string q.tx, .int .i64 q.op, .slice q.ma q.ms.length q.mc, .int .i64 q.off, .bool q.fx, .int .i64 q.att, .bool q.bo, .int .i64 q.byy, .slice q.na q.ns.length q.nc, .int .i64 q.sd, .slice q.ea q.es.length q.ec, .int .i64 q.kc]] w fun e w' => e = .returned (.slice none 0 0) ∧ Below w.heap.size w w' := by
  go_enter Tryz.func215, Tryz.ntmps215
  go_wp2
  go_ret
  exact ⟨rfl, ((Below.refl _ _).alloc (Nat.le_refl _) _)⟩
theorem f216 (q : R) (w : World) : Calls Tryz.prog 216 #[.agg #[.int .i64 q.kd, .int .i64 q.nu, .int .i64 q.st, .string q.tx, .int .i64 q.op, .slice q.ma q.ms.length q.mc, .int .i64 q.off, .bool q.fx, .int .i64 q.att, .bool q.bo, .int .i64 q.byy, .slice q.na q.ns.length q.nc, .int .i64 q.sd, .slice q.ea q.es.length q.ec, .int .i64 q.kc]] w fun e w' => e = .returned (.slice none 0 0) ∧ Below w.heap.size w w' := by
  go_enter Tryz.func216, Tryz.ntmps216
  go_wp2
  go_ret
  exact ⟨rfl, ((Below.refl _ _).alloc (Nat.le_refl _) _)⟩
theorem f217 (q p : R) (w : World) : Calls Tryz.prog 217 #[.agg #[.int .i64 q.kd, .int .i64 q.nu, .int .i64 q.st, .string q.tx, .int .i64 q.op, .slice q.ma q.ms.length q.mc, .int .i64 q.off, .bool q.fx, .int .i64 q.att, .bool q.bo, .int .i64 q.byy, .slice q.na q.ns.length q.nc, .int .i64 q.sd, .slice q.ea q.es.length q.ec, .int .i64 q.kc, .int .i64 p.kd, .int .i64 p.nu, .int .i64 p.st, .string p.tx, .int .i64 p.op, .slice p.ma p.ms.length p.mc, .int .i64 p.off, .bool p.fx, .int .i64 p.att, .bool p.bo, .int .i64 p.byy, .slice p.na p.ns.length p.nc, .int .i64 p.sd, .slice p.ea p.es.length p.ec, .int .i64 p.kc]] w fun e w' => (∃ g, e = .returned (.slice (some ⟨g, 0, none⟩) 1 1) ∧ HasV AllB w' (some ⟨g, 0, none⟩) [vselectNode p]) ∧ Below w.heap.size w w' := by
  have HV := hid (hasV_row (heap_alloc_new (w.alloc (.cells #[.int .i64 q.kd, .int .i64 q.nu, .int .i64 q.st, .string q.tx, .int .i64 q.op, .slice q.ma q.ms.length q.mc, .int .i64 q.off, .bool q.fx, .int .i64 q.att, .bool q.bo, .int .i64 q.byy, .slice q.na q.ns.length q.nc, .int .i64 q.sd, .slice q.ea q.es.length q.ec, .int .i64 q.kc, .int .i64 p.kd, .int .i64 p.nu, .int .i64 p.st, .string p.tx, .int .i64 p.op, .slice p.ma p.ms.length p.mc, .int .i64 p.off, .bool p.fx, .int .i64 p.att, .bool p.bo, .int .i64 p.byy, .slice p.na p.ns.length p.nc, .int .i64 p.sd, .slice p.ea p.es.length p.ec, .int .i64 p.kc] 114)) (.cells ([vselectNode p] : List Value).toArray 64)))
  have HB := hid (((Below.refl w.heap.size w).alloc (Nat.le_refl _) (.cells #[.int .i64 q.kd, .int .i64 q.nu, .int .i64 q.st, .string q.tx, .int .i64 q.op, .slice q.ma q.ms.length q.mc, .int .i64 q.off, .bool q.fx, .int .i64 q.att, .bool q.bo, .int .i64 q.byy, .slice q.na q.ns.length q.nc, .int .i64 q.sd, .slice q.ea q.es.length q.ec, .int .i64 q.kc, .int .i64 p.kd, .int .i64 p.nu, .int .i64 p.st, .string p.tx, .int .i64 p.op, .slice p.ma p.ms.length p.mc, .int .i64 p.off, .bool p.fx, .int .i64 p.att, .bool p.bo, .int .i64 p.byy, .slice p.na p.ns.length p.nc, .int .i64 p.sd, .slice p.ea p.es.length p.ec, .int .i64 p.kc] 114)).alloc (by simp) (.cells ([vselectNode p] : List Value).toArray 64))
  go_enter Tryz.func217, Tryz.ntmps217
  go_wp2
  go_ret
  exact ⟨⟨w.heap.size + 1, rfl, by simpa using HV.out⟩, HB.out⟩
theorem f218 (q : R) (tt : TypeId) (x : Value) (w : World) : Calls Tryz.prog 218 #[.agg #[.int .i64 q.kd, .int .i64 q.nu, .int .i64 q.st, .string q.tx, .int .i64 q.op, .slice q.ma q.ms.length q.mc, .int .i64 q.off, .bool q.fx, .int .i64 q.att, .bool q.bo, .int .i64 q.byy, .slice q.na q.ns.length q.nc, .int .i64 q.sd, .slice q.ea q.es.length q.ec, .int .i64 q.kc, .iface tt x]] w fun e w' => (∃ g, e = .returned (.slice (some ⟨g, 0, none⟩) 1 1) ∧ HasV AllB w' (some ⟨g, 0, none⟩) [.iface tt x]) ∧ Below w.heap.size w w' := by
  have HV := hid (hasV_row (heap_alloc_new (w.alloc (.cells #[.int .i64 q.kd, .int .i64 q.nu, .int .i64 q.st, .string q.tx, .int .i64 q.op, .slice q.ma q.ms.length q.mc, .int .i64 q.off, .bool q.fx, .int .i64 q.att, .bool q.bo, .int .i64 q.byy, .slice q.na q.ns.length q.nc, .int .i64 q.sd, .slice q.ea q.es.length q.ec, .int .i64 q.kc, .iface tt x] 116)) (.cells ([.iface tt x] : List Value).toArray 64)))
  have HB := hid (((Below.refl w.heap.size w).alloc (Nat.le_refl _) (.cells #[.int .i64 q.kd, .int .i64 q.nu, .int .i64 q.st, .string q.tx, .int .i64 q.op, .slice q.ma q.ms.length q.mc, .int .i64 q.off, .bool q.fx, .int .i64 q.att, .bool q.bo, .int .i64 q.byy, .slice q.na q.ns.length q.nc, .int .i64 q.sd, .slice q.ea q.es.length q.ec, .int .i64 q.kc, .iface tt x] 116)).alloc (by simp) (.cells ([.iface tt x] : List Value).toArray 64))
  go_enter Tryz.func218, Tryz.ntmps218
  go_wp2
  go_ret
  exact ⟨⟨w.heap.size + 1, rfl, by simpa using HV.out⟩, HB.out⟩
theorem f219 (q : R) (tt : TypeId) (x : Value) (w : World) : Calls Tryz.prog 219 #[.agg #[.int .i64 q.kd, .int .i64 q.nu, .int .i64 q.st, .string q.tx, .int .i64 q.op, .slice q.ma q.ms.length q.mc, .int .i64 q.off, .bool q.fx, .int .i64 q.att, .bool q.bo, .int .i64 q.byy, .slice q.na q.ns.length q.nc, .int .i64 q.sd, .slice q.ea q.es.length q.ec, .int .i64 q.kc, .iface tt x]] w fun e w' => (∃ g, e = .returned (.slice (some ⟨g, 0, none⟩) 1 1) ∧ HasV AllB w' (some ⟨g, 0, none⟩) [.iface tt x]) ∧ Below w.heap.size w w' := by
  have HV := hid (hasV_row (heap_alloc_new (w.alloc (.cells #[.int .i64 q.kd, .int .i64 q.nu, .int .i64 q.st, .string q.tx, .int .i64 q.op, .slice q.ma q.ms.length q.mc, .int .i64 q.off, .bool q.fx, .int .i64 q.att, .bool q.bo, .int .i64 q.byy, .slice q.na q.ns.length q.nc, .int .i64 q.sd, .slice q.ea q.es.length q.ec, .int .i64 q.kc, .iface tt x] 118)) (.cells ([.iface tt x] : List Value).toArray 64)))
  have HB := hid (((Below.refl w.heap.size w).alloc (Nat.le_refl _) (.cells #[.int .i64 q.kd, .int .i64 q.nu, .int .i64 q.st, .string q.tx, .int .i64 q.op, .slice q.ma q.ms.length q.mc, .int .i64 q.off, .bool q.fx, .int .i64 q.att, .bool q.bo, .int .i64 q.byy, .slice q.na q.ns.length q.nc, .int .i64 q.sd, .slice q.ea q.es.length q.ec, .int .i64 q.kc, .iface tt x] 118)).alloc (by simp) (.cells ([.iface tt x] : List Value).toArray 64))
  go_enter Tryz.func219, Tryz.ntmps219
  go_wp2
  go_ret
  exact ⟨⟨w.heap.size + 1, rfl, by simpa using HV.out⟩, HB.out⟩
theorem f220 (q : R) (tt : TypeId) (x : Value) (uu : TypeId) (y : Value) (w : World) : Calls Tryz.prog 220 #[.agg #[.int .i64 q.kd, .int .i64 q.nu, .int .i64 q.st, .string q.tx, .int .i64 q.op, .slice q.ma q.ms.length q.mc, .int .i64 q.off, .bool q.fx, .int .i64 q.att, .bool q.bo, .int .i64 q.byy, .slice q.na q.ns.length q.nc, .int .i64 q.sd, .slice q.ea q.es.length q.ec, .int .i64 q.kc, .iface tt x, .iface uu y]] w fun e w' => (∃ g, e = .returned (.slice (some ⟨g, 0, none⟩) 2 2) ∧ HasV AllB w' (some ⟨g, 0, none⟩) [.iface tt x, .iface uu y]) ∧ Below w.heap.size w w' := by
  have HV := hid (hasV_row (heap_alloc_new (w.alloc (.cells #[.int .i64 q.kd, .int .i64 q.nu, .int .i64 q.st, .string q.tx, .int .i64 q.op, .slice q.ma q.ms.length q.mc, .int .i64 q.off, .bool q.fx, .int .i64 q.att, .bool q.bo, .int .i64 q.byy, .slice q.na q.ns.length q.nc, .int .i64 q.sd, .slice q.ea q.es.length q.ec, .int .i64 q.kc, .iface tt x, .iface uu y] 120)) (.cells ([.iface tt x, .iface uu y] : List Value).toArray 64)))
  have HB := hid (((Below.refl w.heap.size w).alloc (Nat.le_refl _) (.cells #[.int .i64 q.kd, .int .i64 q.nu, .int .i64 q.st, .string q.tx, .int .i64 q.op, .slice q.ma q.ms.length q.mc, .int .i64 q.off, .bool q.fx, .int .i64 q.att, .bool q.bo, .int .i64 q.byy, .slice q.na q.ns.length q.nc, .int .i64 q.sd, .slice q.ea q.es.length q.ec, .int .i64 q.kc, .iface tt x, .iface uu y] 120)).alloc (by simp) (.cells ([.iface tt x, .iface uu y] : List Value).toArray 64))
  go_enter Tryz.func220, Tryz.ntmps220
  go_wp2
  go_ret
  exact ⟨⟨w.heap.size + 1, rfl, by simpa using HV.out⟩, HB.out⟩
theorem f221 (q : R) (a : Option Addr) (n c : Nat) (w : World) : Calls Tryz.prog 221 #[.agg #[.int .i64 q.kd, .int .i64 q.nu, .int .i64 q.st, .string q.tx, .int .i64 q.op, .slice q.ma q.ms.length q.mc, .int .i64 q.off, .bool q.fx, .int .i64 q.att, .bool q.bo, .int .i64 q.byy, .slice q.na q.ns.length q.nc, .int .i64 q.sd, .slice q.ea q.es.length q.ec, .int .i64 q.kc, .slice a n c]] w fun e w' => e = .returned (.slice a n c) ∧ Below w.heap.size w w' := by
  go_enter Tryz.func221, Tryz.ntmps221
  go_wp2
  go_ret
  exact ⟨rfl, ((Below.refl _ _).alloc (Nat.le_refl _) _)⟩
theorem f222 (q : R) (a : Option Addr) (n c : Nat) (w : World) : Calls Tryz.prog 222 #[.agg #[.int .i64 q.kd, .int .i64 q.nu, .int .i64 q.st, .string q.tx, .int .i64 q.op, .slice q.ma q.ms.length q.mc, .int .i64 q.off, .bool q.fx, .int .i64 q.att, .bool q.bo, .int .i64 q.byy, .slice q.na q.ns.length q.nc, .int .i64 q.sd, .slice q.ea q.es.length q.ec, .int .i64 q.kc, .slice a n c]] w fun e w' => e = .returned (.slice a n c) ∧ Below w.heap.size w w' := by
  go_enter Tryz.func222, Tryz.ntmps222
  go_wp2
  go_ret
  exact ⟨rfl, ((Below.refl _ _).alloc (Nat.le_refl _) _)⟩
theorem gt2_no {d : Nat} {r : Pl} {ks : List Tr} (h : right r = false) : ¬ Gt N2 d (.nd r ks) := by
  simp only [Gt]
  rintro ⟨_, ⟨_, h2⟩, _⟩
  rw [h] at h2
  cases h2
theorem gt2_deep {t : Tr} : ¬ Gt N2 12 t := by
  obtain ⟨r, ks⟩ := t
  simp only [Gt]
  rintro ⟨_, ⟨h, _⟩, _⟩
  omega
theorem gt2_yes {d : Nat} {r : Pl} {ks : List Tr} (h1 : Gt N1 d (.nd r ks)) (hd : d < 12) (hr : right r = true) (hk : ∀ (i : Nat) (t : Tr), ks[i]? = some t → Gt N2 (d + 1) t) : Gt N2 d (.nd r ks) := by
  simp only [Gt] at h1 ⊢
  refine ⟨h1.1, ⟨hd, hr⟩, GtL_mem.2 fun t ht => ?_⟩
  obtain ⟨i, hi⟩ := List.mem_iff_getElem?.1 ht
  exact hk i t hi
theorem gt2_kid {d : Nat} {r : Pl} {ks : List Tr} {i : Nat} {t : Tr} (hi : ks[i]? = some t) (h : ¬ Gt N2 (d + 1) t) : ¬ Gt N2 d (.nd r ks) := by
  simp only [Gt]
  rintro ⟨_, _, h3⟩
  exact h (GtL_mem.1 h3 t (List.mem_of_getElem? hi))
theorem gt1_kid {d : Nat} {r : Pl} {ks : List Tr} {i : Nat} {t : Tr} (hi : ks[i]? = some t) (h : Gt N1 d (.nd r ks)) : Gt N1 (d + 1) t := by
  simp only [Gt] at h
  exact GtL_mem.1 h.2.2 t (List.mem_of_getElem? hi)

set_option maxHeartbeats 16000000 in
set_option maxRecDepth 100000 in
theorem f67 : ∀ (n : Nat) (m : Int) (t : Tr) (v : Value) (w0 : World) (S : Nat → Prop) (w : World) (d : Nat), m = n → n + d = 12 → Gt N1 d t → Nv w0 S w t v → Below w0.heap.size w0 w → Tabs w →
    Calls Tryz.prog 67 #[v, .int .i64 m] w fun e w' => (∃ b, e = .returned (.bool b) ∧ (b = true ↔ Gt N2 d t)) ∧ Below w.heap.size w w' := by
  intro n
  induction n with
  | zero =>
    intro m t v w0 S w d hm hd hg hv hb ht
    subst hm
    obtain rfl : d = 12 := by omega
    clear hd
    go_enter Tryz.func67, Tryz.ntmps67
    go_wp2_with fail
    go_ret
    exact ⟨⟨false, rfl, fun h => (by cases h), fun h => absurd h gt2_deep⟩, Below.refl _ _⟩
  | succ n ih =>
    intro m t v w0 S w d hm hd hg hv hb ht
    have hm' : m = (n : Int) + 1 := by omega
    subst hm'
    clear hm
    have hn : n ≤ 11 := by omega
    have hn1 : ¬ (n : Int) + 1 = 0 := by omega
    have HG := hid hg
    have HT := hid ht
    have HB := hid hb
    have HD := hid hd
    have IH := hid ih
    obtain ⟨r, ks⟩ := t
    simp only [Nv] at hv
    obtain ⟨q, vs, hq, hrw, hnl, hsh⟩ := hv
    subst hq
    have HW := hid hrw
    have HN := hid hnl
    have HSh := hid hsh
    have HA : Hid (∀ wx, Below w.heap.size w wx → Calls Tryz.prog 105 #[v] wx fun e w' => e = .returned (.bool (right (pl q))) ∧ Below wx.heap.size wx w') := fun wx hx => f105 (HSh.out.agr (Agr.below hx)) (HT.out.below hx) ((HW.out.at_ HB.out).below hx) HW.out.ft HW.out.sm
    clear hg ht hb hd ih hrw hnl
    rcases two (right (pl q)) with hr | hr
    · cases hsh with
      | num h =>
        have hmk := mk_num
        clear h
        have HY : Hid (Gt N2 d (.nd (pl q) ks)) := gt2_yes HG.out (by have := HD.out; omega) hr (fun i t hi => by
          have h0 : ks.length = 0 := (NvL.len _ _ HN.out).symm
          rw [List.eq_nil_of_length_eq_zero h0] at hi
          simp at hi)
        go_enter Tryz.func67, Tryz.ntmps67
        go_wp2_with (first | (go_at_call 105; refine (HA.out _ (Below.refl _ _)).mono ?_; rintro e w1 ⟨rfl, hb1⟩; have HB1 := hid hb1; clear hb1) | (go_at_call 214; refine (f214 q _).mono ?_; rintro e w2 ⟨rfl, hb2⟩; have HB2 := hid (HB1.out.trans (hb2.mono HB1.out.size)); clear hb2))
        go_loopw [17] (fun si wr => si = .int .i64 0 ∧ wr = w2) (fun _ _ => 0)
        case atStart => exact ⟨rfl, rfl⟩
        case round =>
          obtain ⟨rfl, rfl⟩ := hrel
          go_wp2
          go_ret
          exact ⟨⟨true, rfl, fun _ => HY.out, fun _ => rfl⟩, HB2.out⟩
      | text h =>
        have hmk := mk_text
        clear h
        have HY : Hid (Gt N2 d (.nd (pl q) ks)) := gt2_yes HG.out (by have := HD.out; omega) hr (fun i t hi => by
          have h0 : ks.length = 0 := (NvL.len _ _ HN.out).symm
          rw [List.eq_nil_of_length_eq_zero h0] at hi
          simp at hi)
        go_enter Tryz.func67, Tryz.ntmps67
        go_wp2_with (first | (go_at_call 105; refine (HA.out _ (Below.refl _ _)).mono ?_; rintro e w1 ⟨rfl, hb1⟩; have HB1 := hid hb1; clear hb1) | (go_at_call 215; refine (f215 q _).mono ?_; rintro e w2 ⟨rfl, hb2⟩; have HB2 := hid (HB1.out.trans (hb2.mono HB1.out.size)); clear hb2))
        go_loopw [17] (fun si wr => si = .int .i64 0 ∧ wr = w2) (fun _ _ => 0)
        case atStart => exact ⟨rfl, rfl⟩
        case round =>
          obtain ⟨rfl, rfl⟩ := hrel
          go_wp2
          go_ret
          exact ⟨⟨true, rfl, fun _ => HY.out, fun _ => rfl⟩, HB2.out⟩
      | sel h =>
        have hmk := mk_sel
        clear h
        have HY : Hid (Gt N2 d (.nd (pl q) ks)) := gt2_yes HG.out (by have := HD.out; omega) hr (fun i t hi => by
          have h0 : ks.length = 0 := (NvL.len _ _ HN.out).symm
          rw [List.eq_nil_of_length_eq_zero h0] at hi
          simp at hi)
        go_enter Tryz.func67, Tryz.ntmps67
        go_wp2_with (first | (go_at_call 105; refine (HA.out _ (Below.refl _ _)).mono ?_; rintro e w1 ⟨rfl, hb1⟩; have HB1 := hid hb1; clear hb1) | (go_at_call 216; refine (f216 q _).mono ?_; rintro e w2 ⟨rfl, hb2⟩; have HB2 := hid (HB1.out.trans (hb2.mono HB1.out.size)); clear hb2))
        go_loopw [17] (fun si wr => si = .int .i64 0 ∧ wr = w2) (fun _ _ => 0)
        case atStart => exact ⟨rfl, rfl⟩
        case round =>
          obtain ⟨rfl, rfl⟩ := hrel
          go_wp2
          go_ret
          exact ⟨⟨true, rfl, fun _ => HY.out, fun _ => rfl⟩, HB2.out⟩
      | range h p =>
        have hmk := mk_range
        clear h
        have HLn : Hid (([vselectNode p] : List Value).length = ks.length) := NvL.len _ _ HN.out
        go_enter Tryz.func67, Tryz.ntmps67
        go_wp2_with (first | (go_at_call 105; refine (HA.out _ (Below.refl _ _)).mono ?_; rintro e w1 ⟨rfl, hb1⟩; have HB1 := hid hb1; clear hb1) | (go_at_call 217; refine (f217 q p _).mono ?_; rintro e w2 ⟨⟨gg, rfl, hv2⟩, hb2⟩; have HB2 := hid (HB1.out.trans (hb2.mono HB1.out.size)); have HV2 := hid hv2; clear hb2 hv2))
        clear hmk HSh
        go_loopw [17] (fun si wr => ∃ k : Nat, k ≤ 1 ∧ si = .int .i64 k ∧ Hid (∀ i t, i < k → ks[i]? = some t → Gt N2 (d + 1) t) ∧ Hid (Below w2.heap.size w2 wr)) (fun si _ => 1 - (intOf si).toNat)
        case atStart => exact ⟨0, Nat.zero_le _, rfl, fun i t hi => by omega, Below.refl _ _⟩
        case round =>
          obtain ⟨k, hk, rfl, HU, HX⟩ := hrel
          have hmx : Hid (k ≤ ks.length) := by have := HLn.out; simp at this; unfold Hid; omega
          have hbd : 1 ≤ 9223372036854775807 := by
            omega
          by_cases hlt : k < 1
          · have hlk : k < ks.length := by have := HLn.out; simp at this; omega
            obtain ⟨tk, vk, e1, e2, e3⟩ := NvL.at_ _ _ HN.out k hlk
            have HE1 := hid e1
            have HNk : Hid (Nv w0 S wr tk vk) := Nv.agr (Agr.below (HB2.out.trans (HX.out.mono HB2.out.size))) tk vk e3
            rcases HV2.out with hr0 | ⟨b, off, hab, _, hbl, hc⟩
            · exact absurd hr0 (by simp)
            have c0 := (HX.out.cell (p := ⟨b, off + k, none⟩) hbl).trans ((hc k (by first | exact hlt | (simp only [List.length_cons, List.length_nil]; omega))).trans e2)
            have i1 : (k : Int) < (1 : Int) := by omega
            clear hc e1 e2 e3
            injection hab with hab; injection hab with hab1 hab2 _; subst hab1; subst hab2; rw [Nat.zero_add] at c0
            have HX2 := hid (HB2.out.trans (HX.out.mono HB2.out.size))
            go_wp2_with fail
            refine (IH.out (n : Int) tk vk w0 S _ (d + 1) rfl (by have := HD.out; omega) (gt1_kid HE1.out HG.out) HNk.out (HB.out.trans (HX2.out.mono HB.out.size)) (HT.out.below HX2.out)).mono ?_
            rintro e w3 ⟨⟨bb, rfl, hbb⟩, hb3⟩
            have HB3 := hid hb3
            have HBB := hid hbb
            clear hb3 hbb
            cases bb with
            | true =>
              go_wp2
              go_roundw
              case rel =>
                refine ⟨k + 1, by omega, by go_num, fun i t hi hit => ?_, HX.out.trans (HB3.out.mono HX.out.size)⟩
                by_cases e : i = k
                · subst e
                  obtain rfl := Option.some.inj (hit.symm.trans HE1.out)
                  exact HBB.out.1 (by simp)
                · exact HU.out i t (by omega) hit
              case measure => simp [intOf]; omega
            | false =>
              go_wp2
              go_ret
              exact ⟨⟨false, rfl, fun h => (by cases h), fun h => absurd h (gt2_kid HE1.out (fun h2 => absurd (HBB.out.2 h2) (by simp)))⟩, HX2.out.trans (HB3.out.mono HX2.out.size)⟩
          · have HY : Hid (Gt N2 d (.nd (pl q) ks)) := gt2_yes HG.out (by have := HD.out; omega) hr (fun i t hi => HU.out i t (by
              have h1 : i < ks.length := by
                rcases Nat.lt_or_ge i ks.length with h | h
                · exact h
                · rw [List.getElem?_eq_none h] at hi; cases hi
              have := HLn.out
              simp at this
              omega) hi)
            have HX2 := hid (HB2.out.trans (HX.out.mono HB2.out.size))
            go_wp2
            go_ret
            exact ⟨⟨true, rfl, fun _ => HY.out, fun _ => rfl⟩, HX2.out⟩
      | sub h tt x =>
        have hmk := mk_sub
        clear h
        have HLn : Hid (([.iface tt x] : List Value).length = ks.length) := NvL.len _ _ HN.out
        go_enter Tryz.func67, Tryz.ntmps67
        go_wp2_with (first | (go_at_call 105; refine (HA.out _ (Below.refl _ _)).mono ?_; rintro e w1 ⟨rfl, hb1⟩; have HB1 := hid hb1; clear hb1) | (go_at_call 218; refine (f218 q tt x _).mono ?_; rintro e w2 ⟨⟨gg, rfl, hv2⟩, hb2⟩; have HB2 := hid (HB1.out.trans (hb2.mono HB1.out.size)); have HV2 := hid hv2; clear hb2 hv2))
        clear hmk HSh
        go_loopw [17] (fun si wr => ∃ k : Nat, k ≤ 1 ∧ si = .int .i64 k ∧ Hid (∀ i t, i < k → ks[i]? = some t → Gt N2 (d + 1) t) ∧ Hid (Below w2.heap.size w2 wr)) (fun si _ => 1 - (intOf si).toNat)
        case atStart => exact ⟨0, Nat.zero_le _, rfl, fun i t hi => by omega, Below.refl _ _⟩
        case round =>
          obtain ⟨k, hk, rfl, HU, HX⟩ := hrel
          have hmx : Hid (k ≤ ks.length) := by have := HLn.out; simp at this; unfold Hid; omega
          have hbd : 1 ≤ 9223372036854775807 := by
            omega
          by_cases hlt : k < 1
          · have hlk : k < ks.length := by have := HLn.out; simp at this; omega
            obtain ⟨tk, vk, e1, e2, e3⟩ := NvL.at_ _ _ HN.out k hlk
            have HE1 := hid e1
            have HNk : Hid (Nv w0 S wr tk vk) := Nv.agr (Agr.below (HB2.out.trans (HX.out.mono HB2.out.size))) tk vk e3
            rcases HV2.out with hr0 | ⟨b, off, hab, _, hbl, hc⟩
            · exact absurd hr0 (by simp)
            have c0 := (HX.out.cell (p := ⟨b, off + k, none⟩) hbl).trans ((hc k (by first | exact hlt | (simp only [List.length_cons, List.length_nil]; omega))).trans e2)
            have i1 : (k : Int) < (1 : Int) := by omega
            clear hc e1 e2 e3
            injection hab with hab; injection hab with hab1 hab2 _; subst hab1; subst hab2; rw [Nat.zero_add] at c0
            have HX2 := hid (HB2.out.trans (HX.out.mono HB2.out.size))
            go_wp2_with fail
            refine (IH.out (n : Int) tk vk w0 S _ (d + 1) rfl (by have := HD.out; omega) (gt1_kid HE1.out HG.out) HNk.out (HB.out.trans (HX2.out.mono HB.out.size)) (HT.out.below HX2.out)).mono ?_
            rintro e w3 ⟨⟨bb, rfl, hbb⟩, hb3⟩
            have HB3 := hid hb3
            have HBB := hid hbb
            clear hb3 hbb
            cases bb with
            | true =>
              go_wp2
              go_roundw
              case rel =>
                refine ⟨k + 1, by omega, by go_num, fun i t hi hit => ?_, HX.out.trans (HB3.out.mono HX.out.size)⟩
                by_cases e : i = k
                · subst e
                  obtain rfl := Option.some.inj (hit.symm.trans HE1.out)
                  exact HBB.out.1 (by simp)
                · exact HU.out i t (by omega) hit
              case measure => simp [intOf]; omega
            | false =>
              go_wp2
              go_ret
              exact ⟨⟨false, rfl, fun h => (by cases h), fun h => absurd h (gt2_kid HE1.out (fun h2 => absurd (HBB.out.2 h2) (by simp)))⟩, HX2.out.trans (HB3.out.mono HX2.out.size)⟩
          · have HY : Hid (Gt N2 d (.nd (pl q) ks)) := gt2_yes HG.out (by have := HD.out; omega) hr (fun i t hi => HU.out i t (by
              have h1 : i < ks.length := by
                rcases Nat.lt_or_ge i ks.length with h | h
                · exact h
                · rw [List.getElem?_eq_none h] at hi; cases hi
              have := HLn.out
              simp at this
              omega) hi)
            have HX2 := hid (HB2.out.trans (HX.out.mono HB2.out.size))
            go_wp2
            go_ret
            exact ⟨⟨true, rfl, fun _ => HY.out, fun _ => rfl⟩, HX2.out⟩
      | neg h tt x =>
        have hmk := mk_neg
        clear h
        have HLn : Hid (([.iface tt x] : List Value).length = ks.length) := NvL.len _ _ HN.out
        go_enter Tryz.func67, Tryz.ntmps67
        go_wp2_with (first | (go_at_call 105; refine (HA.out _ (Below.refl _ _)).mono ?_; rintro e w1 ⟨rfl, hb1⟩; have HB1 := hid hb1; clear hb1) | (go_at_call 219; refine (f219 q tt x _).mono ?_; rintro e w2 ⟨⟨gg, rfl, hv2⟩, hb2⟩; have HB2 := hid (HB1.out.trans (hb2.mono HB1.out.size)); have HV2 := hid hv2; clear hb2 hv2))
        clear hmk HSh
        go_loopw [17] (fun si wr => ∃ k : Nat, k ≤ 1 ∧ si = .int .i64 k ∧ Hid (∀ i t, i < k → ks[i]? = some t → Gt N2 (d + 1) t) ∧ Hid (Below w2.heap.size w2 wr)) (fun si _ => 1 - (intOf si).toNat)
        case atStart => exact ⟨0, Nat.zero_le _, rfl, fun i t hi => by omega, Below.refl _ _⟩
        case round =>
          obtain ⟨k, hk, rfl, HU, HX⟩ := hrel
          have hmx : Hid (k ≤ ks.length) := by have := HLn.out; simp at this; unfold Hid; omega
          have hbd : 1 ≤ 9223372036854775807 := by
            omega
          by_cases hlt : k < 1
          · have hlk : k < ks.length := by have := HLn.out; simp at this; omega
            obtain ⟨tk, vk, e1, e2, e3⟩ := NvL.at_ _ _ HN.out k hlk
            have HE1 := hid e1
            have HNk : Hid (Nv w0 S wr tk vk) := Nv.agr (Agr.below (HB2.out.trans (HX.out.mono HB2.out.size))) tk vk e3
            rcases HV2.out with hr0 | ⟨b, off, hab, _, hbl, hc⟩
            · exact absurd hr0 (by simp)
            have c0 := (HX.out.cell (p := ⟨b, off + k, none⟩) hbl).trans ((hc k (by first | exact hlt | (simp only [List.length_cons, List.length_nil]; omega))).trans e2)
            have i1 : (k : Int) < (1 : Int) := by omega
            clear hc e1 e2 e3
            injection hab with hab; injection hab with hab1 hab2 _; subst hab1; subst hab2; rw [Nat.zero_add] at c0
            have HX2 := hid (HB2.out.trans (HX.out.mono HB2.out.size))
            go_wp2_with fail
            refine (IH.out (n : Int) tk vk w0 S _ (d + 1) rfl (by have := HD.out; omega) (gt1_kid HE1.out HG.out) HNk.out (HB.out.trans (HX2.out.mono HB.out.size)) (HT.out.below HX2.out)).mono ?_
            rintro e w3 ⟨⟨bb, rfl, hbb⟩, hb3⟩
            have HB3 := hid hb3
            have HBB := hid hbb
            clear hb3 hbb
            cases bb with
            | true =>
              go_wp2
              go_roundw
              case rel =>
                refine ⟨k + 1, by omega, by go_num, fun i t hi hit => ?_, HX.out.trans (HB3.out.mono HX.out.size)⟩
                by_cases e : i = k
                · subst e
                  obtain rfl := Option.some.inj (hit.symm.trans HE1.out)
                  exact HBB.out.1 (by simp)
                · exact HU.out i t (by omega) hit
              case measure => simp [intOf]; omega
            | false =>
              go_wp2
              go_ret
              exact ⟨⟨false, rfl, fun h => (by cases h), fun h => absurd h (gt2_kid HE1.out (fun h2 => absurd (HBB.out.2 h2) (by simp)))⟩, HX2.out.trans (HB3.out.mono HX2.out.size)⟩
          · have HY : Hid (Gt N2 d (.nd (pl q) ks)) := gt2_yes HG.out (by have := HD.out; omega) hr (fun i t hi => HU.out i t (by
              have h1 : i < ks.length := by
                rcases Nat.lt_or_ge i ks.length with h | h
                · exact h
                · rw [List.getElem?_eq_none h] at hi; cases hi
              have := HLn.out
              simp at this
              omega) hi)
            have HX2 := hid (HB2.out.trans (HX.out.mono HB2.out.size))
            go_wp2
            go_ret
            exact ⟨⟨true, rfl, fun _ => HY.out, fun _ => rfl⟩, HX2.out⟩
      | op h tt x uu y =>
        have hmk := mk_op
        clear h
        have HLn : Hid (([.iface tt x, .iface uu y] : List Value).length = ks.length) := NvL.len _ _ HN.out
        go_enter Tryz.func67, Tryz.ntmps67
        go_wp2_with (first | (go_at_call 105; refine (HA.out _ (Below.refl _ _)).mono ?_; rintro e w1 ⟨rfl, hb1⟩; have HB1 := hid hb1; clear hb1) | (go_at_call 220; refine (f220 q tt x uu y _).mono ?_; rintro e w2 ⟨⟨gg, rfl, hv2⟩, hb2⟩; have HB2 := hid (HB1.out.trans (hb2.mono HB1.out.size)); have HV2 := hid hv2; clear hb2 hv2))
        clear hmk HSh
        go_loopw [17] (fun si wr => ∃ k : Nat, k ≤ 2 ∧ si = .int .i64 k ∧ Hid (∀ i t, i < k → ks[i]? = some t → Gt N2 (d + 1) t) ∧ Hid (Below w2.heap.size w2 wr)) (fun si _ => 2 - (intOf si).toNat)
        case atStart => exact ⟨0, Nat.zero_le _, rfl, fun i t hi => by omega, Below.refl _ _⟩
        case round =>
          obtain ⟨k, hk, rfl, HU, HX⟩ := hrel
          have hmx : Hid (k ≤ ks.length) := by have := HLn.out; simp at this; unfold Hid; omega
          have hbd : 2 ≤ 9223372036854775807 := by
            omega
          by_cases hlt : k < 2
          · have hlk : k < ks.length := by have := HLn.out; simp at this; omega
            obtain ⟨tk, vk, e1, e2, e3⟩ := NvL.at_ _ _ HN.out k hlk
            have HE1 := hid e1
            have HNk : Hid (Nv w0 S wr tk vk) := Nv.agr (Agr.below (HB2.out.trans (HX.out.mono HB2.out.size))) tk vk e3
            rcases HV2.out with hr0 | ⟨b, off, hab, _, hbl, hc⟩
            · exact absurd hr0 (by simp)
            have c0 := (HX.out.cell (p := ⟨b, off + k, none⟩) hbl).trans ((hc k (by first | exact hlt | (simp only [List.length_cons, List.length_nil]; omega))).trans e2)
            have i1 : (k : Int) < (2 : Int) := by omega
            clear hc e1 e2 e3
            injection hab with hab; injection hab with hab1 hab2 _; subst hab1; subst hab2; rw [Nat.zero_add] at c0
            have HX2 := hid (HB2.out.trans (HX.out.mono HB2.out.size))
            go_wp2_with fail
            refine (IH.out (n : Int) tk vk w0 S _ (d + 1) rfl (by have := HD.out; omega) (gt1_kid HE1.out HG.out) HNk.out (HB.out.trans (HX2.out.mono HB.out.size)) (HT.out.below HX2.out)).mono ?_
            rintro e w3 ⟨⟨bb, rfl, hbb⟩, hb3⟩
            have HB3 := hid hb3
            have HBB := hid hbb
            clear hb3 hbb
            cases bb with
            | true =>
              go_wp2
              go_roundw
              case rel =>
                refine ⟨k + 1, by omega, by go_num, fun i t hi hit => ?_, HX.out.trans (HB3.out.mono HX.out.size)⟩
                by_cases e : i = k
                · subst e
                  obtain rfl := Option.some.inj (hit.symm.trans HE1.out)
                  exact HBB.out.1 (by simp)
                · exact HU.out i t (by omega) hit
              case measure => simp [intOf]; omega
            | false =>
              go_wp2
              go_ret
              exact ⟨⟨false, rfl, fun h => (by cases h), fun h => absurd h (gt2_kid HE1.out (fun h2 => absurd (HBB.out.2 h2) (by simp)))⟩, HX2.out.trans (HB3.out.mono HX2.out.size)⟩
          · have HY : Hid (Gt N2 d (.nd (pl q) ks)) := gt2_yes HG.out (by have := HD.out; omega) hr (fun i t hi => HU.out i t (by
              have h1 : i < ks.length := by
                rcases Nat.lt_or_ge i ks.length with h | h
                · exact h
                · rw [List.getElem?_eq_none h] at hi; cases hi
              have := HLn.out
              simp at this
              omega) hi)
            have HX2 := hid (HB2.out.trans (HX.out.mono HB2.out.size))
            go_wp2
            go_ret
            exact ⟨⟨true, rfl, fun _ => HY.out, fun _ => rfl⟩, HX2.out⟩
      | agg h _ a c hv =>
        have hmk := mk_agg
        clear h
        have HLn : Hid ((vs : List Value).length = ks.length) := NvL.len _ _ HN.out
        go_enter Tryz.func67, Tryz.ntmps67
        go_wp2_with (first | (go_at_call 105; refine (HA.out _ (Below.refl _ _)).mono ?_; rintro e w1 ⟨rfl, hb1⟩; have HB1 := hid hb1; clear hb1) | (go_at_call 221; refine (f221 q a _ c _).mono ?_; rintro e w2 ⟨rfl, hb2⟩; have HB2 := hid (HB1.out.trans (hb2.mono HB1.out.size)); have HV2 : Hid (HasV AllB w2 a vs) := hv.agr ⟨HB2.out.size, fun b _ h => HB2.out.block b h, fun _ _ => trivial⟩; clear hb2 hv))
        clear hmk HSh
        go_loopw [17] (fun si wr => ∃ k : Nat, k ≤ vs.length ∧ si = .int .i64 k ∧ Hid (∀ i t, i < k → ks[i]? = some t → Gt N2 (d + 1) t) ∧ Hid (Below w2.heap.size w2 wr)) (fun si _ => vs.length - (intOf si).toNat)
        case atStart => exact ⟨0, Nat.zero_le _, rfl, fun i t hi => by omega, Below.refl _ _⟩
        case round =>
          obtain ⟨k, hk, rfl, HU, HX⟩ := hrel
          have hmx : Hid (k ≤ ks.length) := by have := HLn.out; unfold Hid; omega
          have hbd : vs.length ≤ 9223372036854775807 := by
            have h1 := HG.out
            simp only [Gt] at h1
            have h2 := HW.out.ft.kc
            unfold In64 at h2
            have h3 := HLn.out
            have h4 : q.kc = ks.length := h1.1
            omega
          by_cases hlt : k < vs.length
          · have hlk : k < ks.length := by have := HLn.out; omega
            obtain ⟨tk, vk, e1, e2, e3⟩ := NvL.at_ _ _ HN.out k hlk
            have HE1 := hid e1
            have HNk : Hid (Nv w0 S wr tk vk) := Nv.agr (Agr.below (HB2.out.trans (HX.out.mono HB2.out.size))) tk vk e3
            rcases HV2.out with hr0 | ⟨b, off, hab, _, hbl, hc⟩
            · exact absurd hlt (by rw [hr0]; simp)
            have c0 := (HX.out.cell (p := ⟨b, off + k, none⟩) hbl).trans ((hc k (by first | exact hlt | (simp only [List.length_cons, List.length_nil]; omega))).trans e2)
            have i1 : (k : Int) < (vs.length : Int) := by omega
            clear hc e1 e2 e3
            obtain rfl := hab
            have HX2 := hid (HB2.out.trans (HX.out.mono HB2.out.size))
            go_wp2_with fail
            refine (IH.out (n : Int) tk vk w0 S _ (d + 1) rfl (by have := HD.out; omega) (gt1_kid HE1.out HG.out) HNk.out (HB.out.trans (HX2.out.mono HB.out.size)) (HT.out.below HX2.out)).mono ?_
            rintro e w3 ⟨⟨bb, rfl, hbb⟩, hb3⟩
            have HB3 := hid hb3
            have HBB := hid hbb
            clear hb3 hbb
            cases bb with
            | true =>
              go_wp2
              go_roundw
              case rel =>
                refine ⟨k + 1, by omega, by go_num, fun i t hi hit => ?_, HX.out.trans (HB3.out.mono HX.out.size)⟩
                by_cases e : i = k
                · subst e
                  obtain rfl := Option.some.inj (hit.symm.trans HE1.out)
                  exact HBB.out.1 (by simp)
                · exact HU.out i t (by omega) hit
              case measure => simp [intOf]; omega
            | false =>
              go_wp2
              go_ret
              exact ⟨⟨false, rfl, fun h => (by cases h), fun h => absurd h (gt2_kid HE1.out (fun h2 => absurd (HBB.out.2 h2) (by simp)))⟩, HX2.out.trans (HB3.out.mono HX2.out.size)⟩
          · have HY : Hid (Gt N2 d (.nd (pl q) ks)) := gt2_yes HG.out (by have := HD.out; omega) hr (fun i t hi => HU.out i t (by
              have h1 : i < ks.length := by
                rcases Nat.lt_or_ge i ks.length with h | h
                · exact h
                · rw [List.getElem?_eq_none h] at hi; cases hi
              have := HLn.out
              skip
              omega) hi)
            have HX2 := hid (HB2.out.trans (HX.out.mono HB2.out.size))
            go_wp2
            go_ret
            exact ⟨⟨true, rfl, fun _ => HY.out, fun _ => rfl⟩, HX2.out⟩
      | call h _ a c hv =>
        have hmk := mk_call
        clear h
        have HLn : Hid ((vs : List Value).length = ks.length) := NvL.len _ _ HN.out
        go_enter Tryz.func67, Tryz.ntmps67
        go_wp2_with (first | (go_at_call 105; refine (HA.out _ (Below.refl _ _)).mono ?_; rintro e w1 ⟨rfl, hb1⟩; have HB1 := hid hb1; clear hb1) | (go_at_call 222; refine (f222 q a _ c _).mono ?_; rintro e w2 ⟨rfl, hb2⟩; have HB2 := hid (HB1.out.trans (hb2.mono HB1.out.size)); have HV2 : Hid (HasV AllB w2 a vs) := hv.agr ⟨HB2.out.size, fun b _ h => HB2.out.block b h, fun _ _ => trivial⟩; clear hb2 hv))
        clear hmk HSh
        go_loopw [17] (fun si wr => ∃ k : Nat, k ≤ vs.length ∧ si = .int .i64 k ∧ Hid (∀ i t, i < k → ks[i]? = some t → Gt N2 (d + 1) t) ∧ Hid (Below w2.heap.size w2 wr)) (fun si _ => vs.length - (intOf si).toNat)
        case atStart => exact ⟨0, Nat.zero_le _, rfl, fun i t hi => by omega, Below.refl _ _⟩
        case round =>
          obtain ⟨k, hk, rfl, HU, HX⟩ := hrel
          have hmx : Hid (k ≤ ks.length) := by have := HLn.out; unfold Hid; omega
          have hbd : vs.length ≤ 9223372036854775807 := by
            have h1 := HG.out
            simp only [Gt] at h1
            have h2 := HW.out.ft.kc
            unfold In64 at h2
            have h3 := HLn.out
            have h4 : q.kc = ks.length := h1.1
            omega
          by_cases hlt : k < vs.length
          · have hlk : k < ks.length := by have := HLn.out; omega
            obtain ⟨tk, vk, e1, e2, e3⟩ := NvL.at_ _ _ HN.out k hlk
            have HE1 := hid e1
            have HNk : Hid (Nv w0 S wr tk vk) := Nv.agr (Agr.below (HB2.out.trans (HX.out.mono HB2.out.size))) tk vk e3
            rcases HV2.out with hr0 | ⟨b, off, hab, _, hbl, hc⟩
            · exact absurd hlt (by rw [hr0]; simp)
            have c0 := (HX.out.cell (p := ⟨b, off + k, none⟩) hbl).trans ((hc k (by first | exact hlt | (simp only [List.length_cons, List.length_nil]; omega))).trans e2)
            have i1 : (k : Int) < (vs.length : Int) := by omega
            clear hc e1 e2 e3
            obtain rfl := hab
            have HX2 := hid (HB2.out.trans (HX.out.mono HB2.out.size))
            go_wp2_with fail
            refine (IH.out (n : Int) tk vk w0 S _ (d + 1) rfl (by have := HD.out; omega) (gt1_kid HE1.out HG.out) HNk.out (HB.out.trans (HX2.out.mono HB.out.size)) (HT.out.below HX2.out)).mono ?_
            rintro e w3 ⟨⟨bb, rfl, hbb⟩, hb3⟩
            have HB3 := hid hb3
            have HBB := hid hbb
            clear hb3 hbb
            cases bb with
            | true =>
              go_wp2
              go_roundw
              case rel =>
                refine ⟨k + 1, by omega, by go_num, fun i t hi hit => ?_, HX.out.trans (HB3.out.mono HX.out.size)⟩
                by_cases e : i = k
                · subst e
                  obtain rfl := Option.some.inj (hit.symm.trans HE1.out)
                  exact HBB.out.1 (by simp)
                · exact HU.out i t (by omega) hit
              case measure => simp [intOf]; omega
            | false =>
              go_wp2
              go_ret
              exact ⟨⟨false, rfl, fun h => (by cases h), fun h => absurd h (gt2_kid HE1.out (fun h2 => absurd (HBB.out.2 h2) (by simp)))⟩, HX2.out.trans (HB3.out.mono HX2.out.size)⟩
          · have HY : Hid (Gt N2 d (.nd (pl q) ks)) := gt2_yes HG.out (by have := HD.out; omega) hr (fun i t hi => HU.out i t (by
              have h1 : i < ks.length := by
                rcases Nat.lt_or_ge i ks.length with h | h
                · exact h
                · rw [List.getElem?_eq_none h] at hi; cases hi
              have := HLn.out
              skip
              omega) hi)
            have HX2 := hid (HB2.out.trans (HX.out.mono HB2.out.size))
            go_wp2
            go_ret
            exact ⟨⟨true, rfl, fun _ => HY.out, fun _ => rfl⟩, HX2.out⟩
    · go_enter Tryz.func67, Tryz.ntmps67
      go_wp2_with (go_at_call 105; refine (HA.out _ (Below.refl _ _)).mono ?_; rintro e w1 ⟨rfl, hb1⟩; have HB1 := hid hb1; clear hb1)
      go_ret
      exact ⟨⟨false, rfl, fun h => (by cases h), fun h => absurd h (gt2_no hr)⟩, HB1.out⟩
end Go.Proofs.YtbdlahhejfamhaaGreatDoor.Qry
