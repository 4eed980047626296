/- The walk of FnExactGoodQuery. -/
import Derived.Test.YtbdlahhejfamhaaGreatDoorRA3
import Derived.Test.YtbdlahhejfamhaaGreatDoorRD0
import Derived.Test.YtbdlahhejfamhaaGreatDoorRL2
import Derived.Test.YtbdlahhejfamhaaGreatDoorRL4
import Derived.Test.YtbdlahhejfamhaaGreatDoorRQsf
import Derived.Test.YtbdlahhejfamhaaGreatDoorRS2
import Derived.Test.YtbdlahhejfamhaaGreatDoorRQsd
namespace Go.Proofs.YtbdlahhejfamhaaGreatDoor.Qry
open Go.RowKit

theorem SameTo.same {n : Nat} {rs d : List R} (h : SameTo n rs d) : Same n rs d := fun i hi => (h i hi).1
theorem map_same {n : Nat} {rs d : List R} (h : Same n rs d) (hn : rs.length = n) (hd : d.length = n) : d.map pl = rs.map pl := by
  apply List.ext_getElem
  · simp [hn, hd]
  · intro i h1 h2
    have hi : i < n := by simpa [hd] using h1
    have := h i hi
    simpa [List.getD_eq_getElem?_getD, hn, hd, hi] using this
theorem rows_rw {w : World} {a : Option Addr} {d : List R} (hr : HasR w a d) (hf : FitR d) (hz : SmlR d) : ∀ q ∈ d, Rw w q := by
  intro q hq
  obtain ⟨i, hi, rfl⟩ := List.mem_iff_getElem.1 hq
  have e : d.getD i r0 = d[i] := by simp [List.getD_eq_getElem?_getD, hi]
  obtain ⟨_, _, _, _, _, hl⟩ := hr.at2 i hi
  have h2 := hf i
  have h3 := hz i hi
  rw [e] at hl h2 h3
  exact ⟨hl, h2, h3⟩

end Go.Proofs.YtbdlahhejfamhaaGreatDoor.Qry
/- The model's KindOfQuery. -/
namespace Go.Proofs.YtbdlahhejfamhaaGreatDoor.Qry
open Go.RowKit

theorem kmOk : ∀ n, KmOk n := by
  intro n
  induction n with
  | zero =>
    intro t x w0 S w d hd hg
    obtain rfl : d = 13 := by omega
    obtain ⟨r, ks⟩ := t
    exact absurd (nm_parts hg).2.1 (by omega)
  | succ n ih =>
    intro t x w0 S w d hd hg hv hb
    obtain ⟨r, ks⟩ := t
    obtain ⟨q, a, m, c⟩ := x
    simp only [Ev] at hv
    obtain ⟨rfl, _, xs, hn, hh, hl⟩ := hv
    subst hn
    rw [kdT]
    exact kmStep n ih q a xs c ks w0 S w d hd hg hh hl hb
/-- The kind of a question. -/
def KindM (ps : List Pl) (w : World) (e : Ending) (w' : World) : Prop :=
  Below w.heap.size w w' ∧ ((e = .returned (.string ⟨#[]⟩) ∧ ¬ GoodQ ps) ∨ ∃ t, e = .returned (.string (kdT t).s) ∧ ps = rows t ∧ GoodQ ps ∧ Gt NM 1 t)
set_option maxHeartbeats 8000000 in
set_option maxRecDepth 100000 in
theorem f9 (rs : List R) (a : Option Addr) (c : Nat) (w0 w : World) (hm : rs.length ≤ maxLen) (hr : HasR w0 a rs) (hrs : ∀ q ∈ rs, Rw w0 q) (hb0 : Below w0.heap.size w0 w) :
    Calls Tryz.prog 9 #[.slice a rs.length c] w (KindM (rs.map pl) w) := by
  have HT := hid (f30 rs a c w0 w hm hr hrs hb0)
  have HB0 := hid hb0
  clear hr hrs hb0
  go_enter Tryz.func9, Tryz.ntmps9
  go_wp2_with fail
  refine HT.out.mono ?_
  rintro e w1 ⟨hb1, z, b, rfl, hb, hz⟩
  cases b with
  | false =>
    have HN : Hid (¬ GoodQ (rs.map pl)) := fun h => by have := hb.2 h; cases this
    have HB1 := hid (hb1.alloc hb1.size (EO z.q z.a z.n z.c))
    clear hb hb1 hz HT
    go_wp2
    go_ret
    exact ⟨HB1.out, .inl ⟨rfl, HN.out⟩⟩
  | true =>
    obtain ⟨t, ht, hg, hv⟩ := hz rfl
    have HE := hid ht
    have HQ := hid (hb.1 rfl)
    have HG := hid hg
    obtain ⟨Y, hY⟩ : ∃ Y, Y = w1.alloc (EO z.q z.a z.n z.c) := ⟨_, rfl⟩
    have hYB : Below w1.heap.size w1 Y := by rw [hY]; exact (Below.refl _ _).alloc (Nat.le_refl _) _
    have hYN := congrArg (fun (x : World) => x.heap[w1.heap.size]?) hY
    rw [heap_alloc_new] at hYN
    obtain ⟨d0, d1, d2, d3, d4, d5, d6, d7, d8, d9, d10, d11, d12, d13, d14, d15⟩ := sixteen hYN
    have HYX := hid (hb1.trans (hYB.mono hb1.size))
    have HC := hid (kmOk 12 t z w0 _ Y 1 rfl hg (Ev.agr (Agr.below hYB) t z hv) (HB0.out.trans (HYX.out.mono HB0.out.size)))
    have HYY := hid hY
    clear hY hYB hYN hb hb1 hz hg hv ht HT HB0
    go_upto_region 4 with fail
    rw [← HYY.out]
    clear HYY
    go_wp2_with (go_at_call 31; refine HC.out.mono ?_; rintro e w2 ⟨rfl, hb2⟩; have HB2 := hid hb2; clear hb2)
    go_ret
    exact ⟨HYX.out.trans (HB2.out.mono HYX.out.size), .inr ⟨t, rfl, HE.out, HQ.out, HG.out⟩⟩
end Go.Proofs.YtbdlahhejfamhaaGreatDoor.Qry
/- The model: what goes by series, whole; what shards can be asked. -/
namespace Go.Proofs.YtbdlahhejfamhaaGreatDoor.Qry
open Go.RowKit

theorem named_ev {w0 : World} {S : Nat → Prop} {w : World} {t : Tr} {x : E} (hv : Ev w0 S w t x) (y : World) : Calls Tryz.prog 115 #[agX x] y fun e w' => e = .returned (.bool (nmdS t)) ∧ Below y.heap.size y w' := by
  obtain ⟨r, ks⟩ := t
  obtain ⟨q, a, n, c⟩ := x
  simp only [Ev] at hv
  obtain ⟨rfl, _⟩ := hv
  exact f115 q a n c y
theorem msOk : ∀ n, MsOk n := by
  intro n
  induction n with
  | zero =>
    intro t x w0 S w d hd hg
    obtain ⟨r, ks⟩ := t
    exact absurd (nm_parts hg).2.1 (by omega)
  | succ n ih =>
    intro t x w0 S w d hd hg hv hb
    obtain ⟨r, ks⟩ := t
    obtain ⟨q, a, m, c⟩ := x
    simp only [Ev] at hv
    obtain ⟨rfl, _, xs, rfl, hh, hl⟩ := hv
    have h5 := (nm_parts hg).2.2.2.2
    have hkid : ∀ (t : Tr) (x : E), t ∈ ks → Ev w0 S w t x → ∀ y, Below w.heap.size w y → Calls Tryz.prog 87 #[agX x] y fun e w' => e = .returned (.bool (byT clM t)) ∧ Below y.heap.size y w' := fun t x hi hn y hy =>
      ih t x w0 S y (d + 1) (by omega) (GtL_mem.1 h5 t hi) (Ev.agr (Agr.below hy) t x hn) (hb.trans (hy.mono hb.size))
    have hcon : ∀ (t : Tr) (x : E), t ∈ ks → Ev w0 S w t x → ∀ y, Below w.heap.size w y → Calls Tryz.prog 74 #[agX x] y fun e w' => (∃ z, e = .returned (.tuple #[.int .i64 z, .bool (cnst t)])) ∧ Below y.heap.size y w' := fun t x hi hn y hy =>
      f74 t x w0 S y (d + 1) (GtL_mem.1 h5 t hi) (Ev.agr (Agr.below hy) t x hn)
    rw [byT]
    by_cases e3 : q.kd = 3
    · rw [show byq clM (pl q) ks (byL clM ks) = !q.tx.toList.isEmpty from by unfold byq; simp [pl, e3]]
      exact lb_sel q a _ c w e3
    by_cases e6 : q.kd = 6
    · obtain ⟨k, rfl⟩ := shape_one hg (.inr e6)
      obtain ⟨y, rfl, hy⟩ := oneE hl
      obtain ⟨b, o, rfl, hbl, hc⟩ := kidE hh 0 y rfl
      rw [show byq clM (pl q) [k] (byL clM [k]) = byT clM k from by unfold byq; simp [pl, e6, byL]]
      exact lb_neg q b o c y _ w e6 hbl (by simpa using hc) (hkid k y (by simp) hy)
    by_cases e7 : q.kd = 7
    · obtain ⟨k, l, rfl⟩ := shape_two hg e7
      obtain ⟨y, z, rfl, hy, hz⟩ := twoE hl
      obtain ⟨b, o, rfl, hbl, hc⟩ := kidE hh 0 y rfl
      obtain ⟨b', o', hab, _, hc'⟩ := kidE hh 1 z rfl
      injection hab with hab
      injection hab with hab1 hab2 _
      subst hab1
      subst hab2
      rw [show byq clM (pl q) [k, l] (byL clM [k, l]) = (decide (q.op ≤ 11 ∧ q.byy = 0) && (cnst k && byT clM l || cnst l && byT clM k)) from by unfold byq; simp [pl, e7, byL]]
      exact lb_op q b o c y z _ _ _ _ _ w e7 hbl (by simpa using hc) (by simpa using hc') rfl (hcon k y (by simp) hy) (hcon l z (by simp) hz) (hkid k y (by simp) hy) (hkid l z (by simp) hz)
    by_cases e9 : q.kd = 9
    · by_cases h1 : xs.length = 1
      · obtain ⟨y, rfl⟩ := List.length_eq_one_iff.1 h1
        have hln := EvL.len _ _ hl
        obtain ⟨k, rfl⟩ := List.length_eq_one_iff.1 (hln.symm.trans h1)
        obtain ⟨y', e, hy⟩ := oneE hl
        obtain rfl : y = y' := by simpa using e
        obtain ⟨b, o, rfl, hbl, hc⟩ := kidE hh 0 y rfl
        have hc0 : KC w b o y := by simpa using hc
        rw [show byq clM (pl q) [k] (byL clM [k]) = clM q.tx k (byT clM k) from by unfold byq; simp [pl, e9, byL]]
        unfold clM
        by_cases ea : q.tx = nAbs
        · rw [if_pos ea]
          exact lb_abs q b o c y _ w e9 ea hbl hc0 (hkid k y (by simp) hy)
        rw [if_neg ea]
        by_cases es : q.tx = nStamp
        · rw [if_pos es]
          have key := lb_stamp q b o c y (nmdS k) w e9 ea es hbl hc0 (fun z hz => named_ev hy z)
          obtain ⟨kr, kk⟩ := k
          simp only [Ev] at hy
          obtain ⟨rfl, _⟩ := hy
          rw [show nmdS (.nd (pl y.q) kk) = (decide (y.q.kd = 3) && nmdS (.nd (pl y.q) kk)) from by by_cases hk : y.q.kd = 3 <;> simp [nmdS, pl, hk]]
          exact key
        rw [if_neg es]
        have hgk := GtL_mem.1 h5 k (by simp)
        obtain ⟨kr, kk⟩ := k
        obtain ⟨p, ay, ny, cy⟩ := y
        simp only [Ev] at hy
        obtain ⟨rfl, _, ys, rfl, hyh, hyl⟩ := hy
        by_cases e4 : p.kd = 4
        · obtain ⟨k2, rfl, hk3⟩ := shape_range hgk e4
          obtain ⟨z, rfl, hz⟩ := oneE hyl
          obtain ⟨b2, o2, rfl, hb2, hz2⟩ := kidE hyh 0 z rfl
          have key := lb_else q p b o c b2 o2 cy z (nmdS k2) w e9 ea es e4 hbl hb2 hc0 (by simpa using hz2) (fun z' hz' => named_ev hz z')
          simpa [pl, e4] using key
        · have key := lb_else_no q b o c ⟨p, ay, ys.length, cy⟩ w e9 ea es e4 hbl hc0 trivial
          simpa [pl, e4] using key
      · have hln := EvL.len _ _ hl
        rw [show byq clM (pl q) ks (byL clM ks) = false from by
          unfold byq
          match ks, hln with
          | [], _ => simp [pl, e9]
          | [t], hl => exact absurd hl h1
          | t :: u :: r, _ => simp [pl, e9]]
        exact lb_call_no q a _ c w e9 h1
    · rw [show byq clM (pl q) ks (byL clM ks) = false from by unfold byq; simp [pl, e3, e6, e7, e9]]
      exact lb_no q a _ c w e3 e6 e7 e9
set_option maxHeartbeats 8000000 in
set_option maxRecDepth 100000 in
theorem ls_no (q : R) (a : Option Addr) (n c : Nat) (w : World) (h : q.kd ≠ 8) : Calls Tryz.prog 52 #[agX ⟨q, a, n, c⟩] w fun e w' => e = .returned (.bool false) ∧ Below w.heap.size w w' := by
  obtain ⟨kd, nu, st, tx, op, ms, ma, mc, of, fx, att, bo, byy, ns, na, nc, sd, es, ea, ec, kc⟩ := q
  simp only at h
  have e8 := rule_off h
  clear h
  obtain ⟨X, hX⟩ : ∃ X, X = w.alloc (.cells #[.int .i64 kd, .int .i64 nu, .int .i64 st, .string tx, .int .i64 op, .slice ma ms.length mc, .int .i64 of, .bool fx, .int .i64 att, .bool bo, .int .i64 byy, .slice na ns.length nc, .int .i64 sd, .slice ea es.length ec, .int .i64 kc, .slice a n c] 58) := ⟨_, rfl⟩
  have hXB : Below w.heap.size w X := by rw [hX]; exact (Below.refl _ _).alloc (Nat.le_refl _) _
  have hXN : X.heap[w.heap.size]? = some (.cells #[.int .i64 kd, .int .i64 nu, .int .i64 st, .string tx, .int .i64 op, .slice ma ms.length mc, .int .i64 of, .bool fx, .int .i64 att, .bool bo, .int .i64 byy, .slice na ns.length nc, .int .i64 sd, .slice ea es.length ec, .int .i64 kc, .slice a n c] 58) := by rw [hX]; exact heap_alloc_new _ _
  have HXN := hid hXN
  have HXB := hid hXB
  have HXX := hid hX
  obtain ⟨d0, d1, d2, d3, d4, d5, d6, d7, d8, d9, d10, d11, d12, d13, d14, d15⟩ := sixteen hXN
  clear hX hXB hXN
  go_enter Tryz.func52, Tryz.ntmps52
  go_upto_region 1 with fail
  rw [← HXX.out]
  clear HXX
  go_wp2
  go_ret
  exact ⟨rfl, HXB.out⟩
set_option maxHeartbeats 8000000 in
set_option maxRecDepth 100000 in
theorem ls_op (q : R) (a : Option Addr) (n c : Nat) (w : World) (h : q.kd = 8) (h1 : q.op ≠ 1) (h2 : q.op ≠ 2) (h3 : q.op ≠ 3) (h5 : q.op ≠ 5) : Calls Tryz.prog 52 #[agX ⟨q, a, n, c⟩] w fun e w' => e = .returned (.bool false) ∧ Below w.heap.size w w' := by
  obtain ⟨kd, nu, st, tx, op, ms, ma, mc, of, fx, att, bo, byy, ns, na, nc, sd, es, ea, ec, kc⟩ := q
  simp only at h h1 h2 h3 h5
  subst h
  have e1 := rule_off h1
  have e2 := rule_off h2
  have e3 := rule_off h3
  have e5 := rule_off h5
  clear h1 h2 h3 h5
  obtain ⟨X, hX⟩ : ∃ X, X = w.alloc (.cells #[.int .i64 8, .int .i64 nu, .int .i64 st, .string tx, .int .i64 op, .slice ma ms.length mc, .int .i64 of, .bool fx, .int .i64 att, .bool bo, .int .i64 byy, .slice na ns.length nc, .int .i64 sd, .slice ea es.length ec, .int .i64 kc, .slice a n c] 58) := ⟨_, rfl⟩
  have hXB : Below w.heap.size w X := by rw [hX]; exact (Below.refl _ _).alloc (Nat.le_refl _) _
  have hXN : X.heap[w.heap.size]? = some (.cells #[.int .i64 8, .int .i64 nu, .int .i64 st, .string tx, .int .i64 op, .slice ma ms.length mc, .int .i64 of, .bool fx, .int .i64 att, .bool bo, .int .i64 byy, .slice na ns.length nc, .int .i64 sd, .slice ea es.length ec, .int .i64 kc, .slice a n c] 58) := by rw [hX]; exact heap_alloc_new _ _
  have HXN := hid hXN
  have HXB := hid hXB
  have HXX := hid hX
  obtain ⟨d0, d1, d2, d3, d4, d5, d6, d7, d8, d9, d10, d11, d12, d13, d14, d15⟩ := sixteen hXN
  clear hX hXB hXN
  go_enter Tryz.func52, Tryz.ntmps52
  go_upto_region 1 with fail
  rw [← HXX.out]
  clear HXX
  go_wp2
  go_ret
  exact ⟨rfl, HXB.out⟩
set_option maxHeartbeats 8000000 in
set_option maxRecDepth 100000 in
theorem lsa1 (q : R) (b o n c : Nat) (y : E) (k : K) (RR : Bool) (w : World) (h : q.kd = 8) (hz : q.op = 1) (hn : 0 < n) (hb : b < w.heap.size) (hy : KC w b o y) (hRR : (false && decide (k ≠ .e)) = RR) (hc : ∀ y', Below w.heap.size w y' → Calls Tryz.prog 87 #[agX y] y' fun e w' => e = .returned (.bool false) ∧ Below y'.heap.size y' w') (hk : ∀ y', Below w.heap.size w y' → Calls Tryz.prog 31 #[agX ⟨q, some ⟨b, o, none⟩, n, c⟩] y' fun e w' => e = .returned (.string k.s) ∧ Below y'.heap.size y' w') : Calls Tryz.prog 52 #[agX ⟨q, some ⟨b, o, none⟩, n, c⟩] w fun e w' => e = .returned (.bool RR) ∧ Below w.heap.size w w' := by
  have i0 : (0 : Int) < (n : Int) := by omega
  have HC := hid hc
  have HK := hid hk
  obtain ⟨kd, nu, st, tx, op, ms, ma, mc, of, fx, att, bo, byy, ns, na, nc, sd, es, ea, ec, kc⟩ := q
  simp only at h hz hk HK
  subst h
  subst hz
  obtain rfl : RR = false := by rw [← hRR]; rfl
  obtain ⟨X, hX⟩ : ∃ X, X = w.alloc (.cells #[.int .i64 8, .int .i64 nu, .int .i64 st, .string tx, .int .i64 1, .slice ma ms.length mc, .int .i64 of, .bool fx, .int .i64 att, .bool bo, .int .i64 byy, .slice na ns.length nc, .int .i64 sd, .slice ea es.length ec, .int .i64 kc, .slice (some ⟨b, o, none⟩) n c] 58) := ⟨_, rfl⟩
  have hXB : Below w.heap.size w X := by rw [hX]; exact (Below.refl _ _).alloc (Nat.le_refl _) _
  have hXN : X.heap[w.heap.size]? = some (.cells #[.int .i64 8, .int .i64 nu, .int .i64 st, .string tx, .int .i64 1, .slice ma ms.length mc, .int .i64 of, .bool fx, .int .i64 att, .bool bo, .int .i64 byy, .slice na ns.length nc, .int .i64 sd, .slice ea es.length ec, .int .i64 kc, .slice (some ⟨b, o, none⟩) n c] 58) := by rw [hX]; exact heap_alloc_new _ _
  have HXN := hid hXN
  have HXB := hid hXB
  have HXX := hid hX
  obtain ⟨d0, d1, d2, d3, d4, d5, d6, d7, d8, d9, d10, d11, d12, d13, d14, d15⟩ := sixteen hXN
  clear hX hXB hXN
  obtain ⟨c0, c1, c2, c3, c4, c5, c6, c7, c8, c9, c10, c11, c12, c13, c14, c15⟩ := (hy.below HXB.out hb).all
  clear hy hc hk hRR
  go_enter Tryz.func52, Tryz.ntmps52
  go_upto_region 1 with fail
  rw [← HXX.out]
  clear HXX
  go_wp2_with ((go_at_call 87; refine (HC.out _ HXB.out).mono ?_; rintro e w1 ⟨rfl, hb1⟩; have HB1 := hid (HXB.out.trans (hb1.mono HXB.out.size)); obtain ⟨p0, p1, p2, p3, p4, p5, p6, p7, p8, p9, p10, p11, p12, p13, p14, p15⟩ := sixteen (kept HXN.out hb1); clear hb1))
  go_ret
  exact ⟨rfl, HB1.out⟩
set_option maxHeartbeats 8000000 in
set_option maxRecDepth 100000 in
theorem lsb1 (q : R) (b o n c : Nat) (y : E) (RR : Bool) (w : World) (h : q.kd = 8) (hz : q.op = 1) (hn : 0 < n) (hb : b < w.heap.size) (hy : KC w b o y) (hRR : (true && decide (K.e ≠ .e)) = RR) (hc : ∀ y', Below w.heap.size w y' → Calls Tryz.prog 87 #[agX y] y' fun e w' => e = .returned (.bool true) ∧ Below y'.heap.size y' w') (hk : ∀ y', Below w.heap.size w y' → Calls Tryz.prog 31 #[agX ⟨q, some ⟨b, o, none⟩, n, c⟩] y' fun e w' => e = .returned (.string ⟨#[]⟩) ∧ Below y'.heap.size y' w') : Calls Tryz.prog 52 #[agX ⟨q, some ⟨b, o, none⟩, n, c⟩] w fun e w' => e = .returned (.bool RR) ∧ Below w.heap.size w w' := by
  have i0 : (0 : Int) < (n : Int) := by omega
  have HC := hid hc
  have HK := hid hk
  obtain ⟨kd, nu, st, tx, op, ms, ma, mc, of, fx, att, bo, byy, ns, na, nc, sd, es, ea, ec, kc⟩ := q
  simp only at h hz hk HK
  subst h
  subst hz
  obtain rfl : RR = false := by rw [← hRR]; rfl
  obtain ⟨X, hX⟩ : ∃ X, X = w.alloc (.cells #[.int .i64 8, .int .i64 nu, .int .i64 st, .string tx, .int .i64 1, .slice ma ms.length mc, .int .i64 of, .bool fx, .int .i64 att, .bool bo, .int .i64 byy, .slice na ns.length nc, .int .i64 sd, .slice ea es.length ec, .int .i64 kc, .slice (some ⟨b, o, none⟩) n c] 58) := ⟨_, rfl⟩
  have hXB : Below w.heap.size w X := by rw [hX]; exact (Below.refl _ _).alloc (Nat.le_refl _) _
  have hXN : X.heap[w.heap.size]? = some (.cells #[.int .i64 8, .int .i64 nu, .int .i64 st, .string tx, .int .i64 1, .slice ma ms.length mc, .int .i64 of, .bool fx, .int .i64 att, .bool bo, .int .i64 byy, .slice na ns.length nc, .int .i64 sd, .slice ea es.length ec, .int .i64 kc, .slice (some ⟨b, o, none⟩) n c] 58) := by rw [hX]; exact heap_alloc_new _ _
  have HXN := hid hXN
  have HXB := hid hXB
  have HXX := hid hX
  obtain ⟨d0, d1, d2, d3, d4, d5, d6, d7, d8, d9, d10, d11, d12, d13, d14, d15⟩ := sixteen hXN
  clear hX hXB hXN
  obtain ⟨c0, c1, c2, c3, c4, c5, c6, c7, c8, c9, c10, c11, c12, c13, c14, c15⟩ := (hy.below HXB.out hb).all
  clear hy hc hk hRR
  go_enter Tryz.func52, Tryz.ntmps52
  go_upto_region 1 with fail
  rw [← HXX.out]
  clear HXX
  go_wp2_with (first | (go_at_call 87; refine (HC.out _ HXB.out).mono ?_; rintro e w1 ⟨rfl, hb1⟩; have HB1 := hid (HXB.out.trans (hb1.mono HXB.out.size)); obtain ⟨p0, p1, p2, p3, p4, p5, p6, p7, p8, p9, p10, p11, p12, p13, p14, p15⟩ := sixteen (kept HXN.out hb1); clear hb1) | (go_at_call 31; refine (HK.out _ HB1.out).mono ?_; rintro e w2 ⟨rfl, hb2⟩; have HB2 := hid (HB1.out.trans (hb2.mono HB1.out.size)); clear hb2))
  go_ret
  exact ⟨rfl, HB2.out⟩
set_option maxHeartbeats 8000000 in
set_option maxRecDepth 100000 in
theorem lsc1 (q : R) (b o n c : Nat) (y : E) (k : K) (RR : Bool) (w : World) (h : q.kd = 8) (hz : q.op = 1) (he : k ≠ .e) (hn : 0 < n) (hb : b < w.heap.size) (hy : KC w b o y) (hRR : (true && decide (k ≠ .e)) = RR) (hc : ∀ y', Below w.heap.size w y' → Calls Tryz.prog 87 #[agX y] y' fun e w' => e = .returned (.bool true) ∧ Below y'.heap.size y' w') (hk : ∀ y', Below w.heap.size w y' → Calls Tryz.prog 31 #[agX ⟨q, some ⟨b, o, none⟩, n, c⟩] y' fun e w' => e = .returned (.string k.s) ∧ Below y'.heap.size y' w') : Calls Tryz.prog 52 #[agX ⟨q, some ⟨b, o, none⟩, n, c⟩] w fun e w' => e = .returned (.bool RR) ∧ Below w.heap.size w w' := by
  have i0 : (0 : Int) < (n : Int) := by omega
  have HC := hid hc
  have HK := hid hk
  obtain ⟨kd, nu, st, tx, op, ms, ma, mc, of, fx, att, bo, byy, ns, na, nc, sd, es, ea, ec, kc⟩ := q
  simp only at h hz hk HK
  subst h
  subst hz
  have e1 : (k.s).toList.isEmpty = false := some_st (fun e => he (K.inj (b := .e) e))
  obtain rfl : RR = true := by rw [← hRR, decide_eq_true he]; rfl
  clear he
  obtain ⟨X, hX⟩ : ∃ X, X = w.alloc (.cells #[.int .i64 8, .int .i64 nu, .int .i64 st, .string tx, .int .i64 1, .slice ma ms.length mc, .int .i64 of, .bool fx, .int .i64 att, .bool bo, .int .i64 byy, .slice na ns.length nc, .int .i64 sd, .slice ea es.length ec, .int .i64 kc, .slice (some ⟨b, o, none⟩) n c] 58) := ⟨_, rfl⟩
  have hXB : Below w.heap.size w X := by rw [hX]; exact (Below.refl _ _).alloc (Nat.le_refl _) _
  have hXN : X.heap[w.heap.size]? = some (.cells #[.int .i64 8, .int .i64 nu, .int .i64 st, .string tx, .int .i64 1, .slice ma ms.length mc, .int .i64 of, .bool fx, .int .i64 att, .bool bo, .int .i64 byy, .slice na ns.length nc, .int .i64 sd, .slice ea es.length ec, .int .i64 kc, .slice (some ⟨b, o, none⟩) n c] 58) := by rw [hX]; exact heap_alloc_new _ _
  have HXN := hid hXN
  have HXB := hid hXB
  have HXX := hid hX
  obtain ⟨d0, d1, d2, d3, d4, d5, d6, d7, d8, d9, d10, d11, d12, d13, d14, d15⟩ := sixteen hXN
  clear hX hXB hXN
  obtain ⟨c0, c1, c2, c3, c4, c5, c6, c7, c8, c9, c10, c11, c12, c13, c14, c15⟩ := (hy.below HXB.out hb).all
  clear hy hc hk hRR
  go_enter Tryz.func52, Tryz.ntmps52
  go_upto_region 1 with fail
  rw [← HXX.out]
  clear HXX
  go_wp2_with (first | (go_at_call 87; refine (HC.out _ HXB.out).mono ?_; rintro e w1 ⟨rfl, hb1⟩; have HB1 := hid (HXB.out.trans (hb1.mono HXB.out.size)); obtain ⟨p0, p1, p2, p3, p4, p5, p6, p7, p8, p9, p10, p11, p12, p13, p14, p15⟩ := sixteen (kept HXN.out hb1); clear hb1) | (go_at_call 31; refine (HK.out _ HB1.out).mono ?_; rintro e w2 ⟨rfl, hb2⟩; have HB2 := hid (HB1.out.trans (hb2.mono HB1.out.size)); clear hb2))
  go_ret
  exact ⟨rfl, HB2.out⟩
set_option maxHeartbeats 8000000 in
set_option maxRecDepth 100000 in
theorem lsa2 (q : R) (b o n c : Nat) (y : E) (k : K) (RR : Bool) (w : World) (h : q.kd = 8) (hz : q.op = 2) (hn : 0 < n) (hb : b < w.heap.size) (hy : KC w b o y) (hRR : (false && decide (k ≠ .e)) = RR) (hc : ∀ y', Below w.heap.size w y' → Calls Tryz.prog 87 #[agX y] y' fun e w' => e = .returned (.bool false) ∧ Below y'.heap.size y' w') (hk : ∀ y', Below w.heap.size w y' → Calls Tryz.prog 31 #[agX ⟨q, some ⟨b, o, none⟩, n, c⟩] y' fun e w' => e = .returned (.string k.s) ∧ Below y'.heap.size y' w') : Calls Tryz.prog 52 #[agX ⟨q, some ⟨b, o, none⟩, n, c⟩] w fun e w' => e = .returned (.bool RR) ∧ Below w.heap.size w w' := by
  have i0 : (0 : Int) < (n : Int) := by omega
  have HC := hid hc
  have HK := hid hk
  obtain ⟨kd, nu, st, tx, op, ms, ma, mc, of, fx, att, bo, byy, ns, na, nc, sd, es, ea, ec, kc⟩ := q
  simp only at h hz hk HK
  subst h
  subst hz
  obtain rfl : RR = false := by rw [← hRR]; rfl
  obtain ⟨X, hX⟩ : ∃ X, X = w.alloc (.cells #[.int .i64 8, .int .i64 nu, .int .i64 st, .string tx, .int .i64 2, .slice ma ms.length mc, .int .i64 of, .bool fx, .int .i64 att, .bool bo, .int .i64 byy, .slice na ns.length nc, .int .i64 sd, .slice ea es.length ec, .int .i64 kc, .slice (some ⟨b, o, none⟩) n c] 58) := ⟨_, rfl⟩
  have hXB : Below w.heap.size w X := by rw [hX]; exact (Below.refl _ _).alloc (Nat.le_refl _) _
  have hXN : X.heap[w.heap.size]? = some (.cells #[.int .i64 8, .int .i64 nu, .int .i64 st, .string tx, .int .i64 2, .slice ma ms.length mc, .int .i64 of, .bool fx, .int .i64 att, .bool bo, .int .i64 byy, .slice na ns.length nc, .int .i64 sd, .slice ea es.length ec, .int .i64 kc, .slice (some ⟨b, o, none⟩) n c] 58) := by rw [hX]; exact heap_alloc_new _ _
  have HXN := hid hXN
  have HXB := hid hXB
  have HXX := hid hX
  obtain ⟨d0, d1, d2, d3, d4, d5, d6, d7, d8, d9, d10, d11, d12, d13, d14, d15⟩ := sixteen hXN
  clear hX hXB hXN
  obtain ⟨c0, c1, c2, c3, c4, c5, c6, c7, c8, c9, c10, c11, c12, c13, c14, c15⟩ := (hy.below HXB.out hb).all
  clear hy hc hk hRR
  go_enter Tryz.func52, Tryz.ntmps52
  go_upto_region 1 with fail
  rw [← HXX.out]
  clear HXX
  go_wp2_with ((go_at_call 87; refine (HC.out _ HXB.out).mono ?_; rintro e w1 ⟨rfl, hb1⟩; have HB1 := hid (HXB.out.trans (hb1.mono HXB.out.size)); obtain ⟨p0, p1, p2, p3, p4, p5, p6, p7, p8, p9, p10, p11, p12, p13, p14, p15⟩ := sixteen (kept HXN.out hb1); clear hb1))
  go_ret
  exact ⟨rfl, HB1.out⟩
set_option maxHeartbeats 8000000 in
set_option maxRecDepth 100000 in
theorem lsb2 (q : R) (b o n c : Nat) (y : E) (RR : Bool) (w : World) (h : q.kd = 8) (hz : q.op = 2) (hn : 0 < n) (hb : b < w.heap.size) (hy : KC w b o y) (hRR : (true && decide (K.e ≠ .e)) = RR) (hc : ∀ y', Below w.heap.size w y' → Calls Tryz.prog 87 #[agX y] y' fun e w' => e = .returned (.bool true) ∧ Below y'.heap.size y' w') (hk : ∀ y', Below w.heap.size w y' → Calls Tryz.prog 31 #[agX ⟨q, some ⟨b, o, none⟩, n, c⟩] y' fun e w' => e = .returned (.string ⟨#[]⟩) ∧ Below y'.heap.size y' w') : Calls Tryz.prog 52 #[agX ⟨q, some ⟨b, o, none⟩, n, c⟩] w fun e w' => e = .returned (.bool RR) ∧ Below w.heap.size w w' := by
  have i0 : (0 : Int) < (n : Int) := by omega
  have HC := hid hc
  have HK := hid hk
  obtain ⟨kd, nu, st, tx, op, ms, ma, mc, of, fx, att, bo, byy, ns, na, nc, sd, es, ea, ec, kc⟩ := q
  simp only at h hz hk HK
  subst h
  subst hz
  obtain rfl : RR = false := by rw [← hRR]; rfl
  obtain ⟨X, hX⟩ : ∃ X, X = w.alloc (.cells #[.int .i64 8, .int .i64 nu, .int .i64 st, .string tx, .int .i64 2, .slice ma ms.length mc, .int .i64 of, .bool fx, .int .i64 att, .bool bo, .int .i64 byy, .slice na ns.length nc, .int .i64 sd, .slice ea es.length ec, .int .i64 kc, .slice (some ⟨b, o, none⟩) n c] 58) := ⟨_, rfl⟩
  have hXB : Below w.heap.size w X := by rw [hX]; exact (Below.refl _ _).alloc (Nat.le_refl _) _
  have hXN : X.heap[w.heap.size]? = some (.cells #[.int .i64 8, .int .i64 nu, .int .i64 st, .string tx, .int .i64 2, .slice ma ms.length mc, .int .i64 of, .bool fx, .int .i64 att, .bool bo, .int .i64 byy, .slice na ns.length nc, .int .i64 sd, .slice ea es.length ec, .int .i64 kc, .slice (some ⟨b, o, none⟩) n c] 58) := by rw [hX]; exact heap_alloc_new _ _
  have HXN := hid hXN
  have HXB := hid hXB
  have HXX := hid hX
  obtain ⟨d0, d1, d2, d3, d4, d5, d6, d7, d8, d9, d10, d11, d12, d13, d14, d15⟩ := sixteen hXN
  clear hX hXB hXN
  obtain ⟨c0, c1, c2, c3, c4, c5, c6, c7, c8, c9, c10, c11, c12, c13, c14, c15⟩ := (hy.below HXB.out hb).all
  clear hy hc hk hRR
  go_enter Tryz.func52, Tryz.ntmps52
  go_upto_region 1 with fail
  rw [← HXX.out]
  clear HXX
  go_wp2_with (first | (go_at_call 87; refine (HC.out _ HXB.out).mono ?_; rintro e w1 ⟨rfl, hb1⟩; have HB1 := hid (HXB.out.trans (hb1.mono HXB.out.size)); obtain ⟨p0, p1, p2, p3, p4, p5, p6, p7, p8, p9, p10, p11, p12, p13, p14, p15⟩ := sixteen (kept HXN.out hb1); clear hb1) | (go_at_call 31; refine (HK.out _ HB1.out).mono ?_; rintro e w2 ⟨rfl, hb2⟩; have HB2 := hid (HB1.out.trans (hb2.mono HB1.out.size)); clear hb2))
  go_ret
  exact ⟨rfl, HB2.out⟩
set_option maxHeartbeats 8000000 in
set_option maxRecDepth 100000 in
theorem lsc2 (q : R) (b o n c : Nat) (y : E) (k : K) (RR : Bool) (w : World) (h : q.kd = 8) (hz : q.op = 2) (he : k ≠ .e) (hn : 0 < n) (hb : b < w.heap.size) (hy : KC w b o y) (hRR : (true && decide (k ≠ .e)) = RR) (hc : ∀ y', Below w.heap.size w y' → Calls Tryz.prog 87 #[agX y] y' fun e w' => e = .returned (.bool true) ∧ Below y'.heap.size y' w') (hk : ∀ y', Below w.heap.size w y' → Calls Tryz.prog 31 #[agX ⟨q, some ⟨b, o, none⟩, n, c⟩] y' fun e w' => e = .returned (.string k.s) ∧ Below y'.heap.size y' w') : Calls Tryz.prog 52 #[agX ⟨q, some ⟨b, o, none⟩, n, c⟩] w fun e w' => e = .returned (.bool RR) ∧ Below w.heap.size w w' := by
  have i0 : (0 : Int) < (n : Int) := by omega
  have HC := hid hc
  have HK := hid hk
  obtain ⟨kd, nu, st, tx, op, ms, ma, mc, of, fx, att, bo, byy, ns, na, nc, sd, es, ea, ec, kc⟩ := q
  simp only at h hz hk HK
  subst h
  subst hz
  have e1 : (k.s).toList.isEmpty = false := some_st (fun e => he (K.inj (b := .e) e))
  obtain rfl : RR = true := by rw [← hRR, decide_eq_true he]; rfl
  clear he
  obtain ⟨X, hX⟩ : ∃ X, X = w.alloc (.cells #[.int .i64 8, .int .i64 nu, .int .i64 st, .string tx, .int .i64 2, .slice ma ms.length mc, .int .i64 of, .bool fx, .int .i64 att, .bool bo, .int .i64 byy, .slice na ns.length nc, .int .i64 sd, .slice ea es.length ec, .int .i64 kc, .slice (some ⟨b, o, none⟩) n c] 58) := ⟨_, rfl⟩
  have hXB : Below w.heap.size w X := by rw [hX]; exact (Below.refl _ _).alloc (Nat.le_refl _) _
  have hXN : X.heap[w.heap.size]? = some (.cells #[.int .i64 8, .int .i64 nu, .int .i64 st, .string tx, .int .i64 2, .slice ma ms.length mc, .int .i64 of, .bool fx, .int .i64 att, .bool bo, .int .i64 byy, .slice na ns.length nc, .int .i64 sd, .slice ea es.length ec, .int .i64 kc, .slice (some ⟨b, o, none⟩) n c] 58) := by rw [hX]; exact heap_alloc_new _ _
  have HXN := hid hXN
  have HXB := hid hXB
  have HXX := hid hX
  obtain ⟨d0, d1, d2, d3, d4, d5, d6, d7, d8, d9, d10, d11, d12, d13, d14, d15⟩ := sixteen hXN
  clear hX hXB hXN
  obtain ⟨c0, c1, c2, c3, c4, c5, c6, c7, c8, c9, c10, c11, c12, c13, c14, c15⟩ := (hy.below HXB.out hb).all
  clear hy hc hk hRR
  go_enter Tryz.func52, Tryz.ntmps52
  go_upto_region 1 with fail
  rw [← HXX.out]
  clear HXX
  go_wp2_with (first | (go_at_call 87; refine (HC.out _ HXB.out).mono ?_; rintro e w1 ⟨rfl, hb1⟩; have HB1 := hid (HXB.out.trans (hb1.mono HXB.out.size)); obtain ⟨p0, p1, p2, p3, p4, p5, p6, p7, p8, p9, p10, p11, p12, p13, p14, p15⟩ := sixteen (kept HXN.out hb1); clear hb1) | (go_at_call 31; refine (HK.out _ HB1.out).mono ?_; rintro e w2 ⟨rfl, hb2⟩; have HB2 := hid (HB1.out.trans (hb2.mono HB1.out.size)); clear hb2))
  go_ret
  exact ⟨rfl, HB2.out⟩
set_option maxHeartbeats 8000000 in
set_option maxRecDepth 100000 in
theorem lsa3 (q : R) (b o n c : Nat) (y : E) (k : K) (RR : Bool) (w : World) (h : q.kd = 8) (hz : q.op = 3) (hn : 0 < n) (hb : b < w.heap.size) (hy : KC w b o y) (hRR : (false && decide (k ≠ .e)) = RR) (hc : ∀ y', Below w.heap.size w y' → Calls Tryz.prog 87 #[agX y] y' fun e w' => e = .returned (.bool false) ∧ Below y'.heap.size y' w') (hk : ∀ y', Below w.heap.size w y' → Calls Tryz.prog 31 #[agX ⟨q, some ⟨b, o, none⟩, n, c⟩] y' fun e w' => e = .returned (.string k.s) ∧ Below y'.heap.size y' w') : Calls Tryz.prog 52 #[agX ⟨q, some ⟨b, o, none⟩, n, c⟩] w fun e w' => e = .returned (.bool RR) ∧ Below w.heap.size w w' := by
  have i0 : (0 : Int) < (n : Int) := by omega
  have HC := hid hc
  have HK := hid hk
  obtain ⟨kd, nu, st, tx, op, ms, ma, mc, of, fx, att, bo, byy, ns, na, nc, sd, es, ea, ec, kc⟩ := q
  simp only at h hz hk HK
  subst h
  subst hz
  obtain rfl : RR = false := by rw [← hRR]; rfl
  obtain ⟨X, hX⟩ : ∃ X, X = w.alloc (.cells #[.int .i64 8, .int .i64 nu, .int .i64 st, .string tx, .int .i64 3, .slice ma ms.length mc, .int .i64 of, .bool fx, .int .i64 att, .bool bo, .int .i64 byy, .slice na ns.length nc, .int .i64 sd, .slice ea es.length ec, .int .i64 kc, .slice (some ⟨b, o, none⟩) n c] 58) := ⟨_, rfl⟩
  have hXB : Below w.heap.size w X := by rw [hX]; exact (Below.refl _ _).alloc (Nat.le_refl _) _
  have hXN : X.heap[w.heap.size]? = some (.cells #[.int .i64 8, .int .i64 nu, .int .i64 st, .string tx, .int .i64 3, .slice ma ms.length mc, .int .i64 of, .bool fx, .int .i64 att, .bool bo, .int .i64 byy, .slice na ns.length nc, .int .i64 sd, .slice ea es.length ec, .int .i64 kc, .slice (some ⟨b, o, none⟩) n c] 58) := by rw [hX]; exact heap_alloc_new _ _
  have HXN := hid hXN
  have HXB := hid hXB
  have HXX := hid hX
  obtain ⟨d0, d1, d2, d3, d4, d5, d6, d7, d8, d9, d10, d11, d12, d13, d14, d15⟩ := sixteen hXN
  clear hX hXB hXN
  obtain ⟨c0, c1, c2, c3, c4, c5, c6, c7, c8, c9, c10, c11, c12, c13, c14, c15⟩ := (hy.below HXB.out hb).all
  clear hy hc hk hRR
  go_enter Tryz.func52, Tryz.ntmps52
  go_upto_region 1 with fail
  rw [← HXX.out]
  clear HXX
  go_wp2_with ((go_at_call 87; refine (HC.out _ HXB.out).mono ?_; rintro e w1 ⟨rfl, hb1⟩; have HB1 := hid (HXB.out.trans (hb1.mono HXB.out.size)); obtain ⟨p0, p1, p2, p3, p4, p5, p6, p7, p8, p9, p10, p11, p12, p13, p14, p15⟩ := sixteen (kept HXN.out hb1); clear hb1))
  go_ret
  exact ⟨rfl, HB1.out⟩
set_option maxHeartbeats 8000000 in
set_option maxRecDepth 100000 in
theorem lsb3 (q : R) (b o n c : Nat) (y : E) (RR : Bool) (w : World) (h : q.kd = 8) (hz : q.op = 3) (hn : 0 < n) (hb : b < w.heap.size) (hy : KC w b o y) (hRR : (true && decide (K.e ≠ .e)) = RR) (hc : ∀ y', Below w.heap.size w y' → Calls Tryz.prog 87 #[agX y] y' fun e w' => e = .returned (.bool true) ∧ Below y'.heap.size y' w') (hk : ∀ y', Below w.heap.size w y' → Calls Tryz.prog 31 #[agX ⟨q, some ⟨b, o, none⟩, n, c⟩] y' fun e w' => e = .returned (.string ⟨#[]⟩) ∧ Below y'.heap.size y' w') : Calls Tryz.prog 52 #[agX ⟨q, some ⟨b, o, none⟩, n, c⟩] w fun e w' => e = .returned (.bool RR) ∧ Below w.heap.size w w' := by
  have i0 : (0 : Int) < (n : Int) := by omega
  have HC := hid hc
  have HK := hid hk
  obtain ⟨kd, nu, st, tx, op, ms, ma, mc, of, fx, att, bo, byy, ns, na, nc, sd, es, ea, ec, kc⟩ := q
  simp only at h hz hk HK
  subst h
  subst hz
  obtain rfl : RR = false := by rw [← hRR]; rfl
  obtain ⟨X, hX⟩ : ∃ X, X = w.alloc (.cells #[.int .i64 8, .int .i64 nu, .int .i64 st, .string tx, .int .i64 3, .slice ma ms.length mc, .int .i64 of, .bool fx, .int .i64 att, .bool bo, .int .i64 byy, .slice na ns.length nc, .int .i64 sd, .slice ea es.length ec, .int .i64 kc, .slice (some ⟨b, o, none⟩) n c] 58) := ⟨_, rfl⟩
  have hXB : Below w.heap.size w X := by rw [hX]; exact (Below.refl _ _).alloc (Nat.le_refl _) _
  have hXN : X.heap[w.heap.size]? = some (.cells #[.int .i64 8, .int .i64 nu, .int .i64 st, .string tx, .int .i64 3, .slice ma ms.length mc, .int .i64 of, .bool fx, .int .i64 att, .bool bo, .int .i64 byy, .slice na ns.length nc, .int .i64 sd, .slice ea es.length ec, .int .i64 kc, .slice (some ⟨b, o, none⟩) n c] 58) := by rw [hX]; exact heap_alloc_new _ _
  have HXN := hid hXN
  have HXB := hid hXB
  have HXX := hid hX
  obtain ⟨d0, d1, d2, d3, d4, d5, d6, d7, d8, d9, d10, d11, d12, d13, d14, d15⟩ := sixteen hXN
  clear hX hXB hXN
  obtain ⟨c0, c1, c2, c3, c4, c5, c6, c7, c8, c9, c10, c11, c12, c13, c14, c15⟩ := (hy.below HXB.out hb).all
  clear hy hc hk hRR
  go_enter Tryz.func52, Tryz.ntmps52
  go_upto_region 1 with fail
  rw [← HXX.out]
  clear HXX
  go_wp2_with (first | (go_at_call 87; refine (HC.out _ HXB.out).mono ?_; rintro e w1 ⟨rfl, hb1⟩; have HB1 := hid (HXB.out.trans (hb1.mono HXB.out.size)); obtain ⟨p0, p1, p2, p3, p4, p5, p6, p7, p8, p9, p10, p11, p12, p13, p14, p15⟩ := sixteen (kept HXN.out hb1); clear hb1) | (go_at_call 31; refine (HK.out _ HB1.out).mono ?_; rintro e w2 ⟨rfl, hb2⟩; have HB2 := hid (HB1.out.trans (hb2.mono HB1.out.size)); clear hb2))
  go_ret
  exact ⟨rfl, HB2.out⟩
set_option maxHeartbeats 8000000 in
set_option maxRecDepth 100000 in
theorem lsc3 (q : R) (b o n c : Nat) (y : E) (k : K) (RR : Bool) (w : World) (h : q.kd = 8) (hz : q.op = 3) (he : k ≠ .e) (hn : 0 < n) (hb : b < w.heap.size) (hy : KC w b o y) (hRR : (true && decide (k ≠ .e)) = RR) (hc : ∀ y', Below w.heap.size w y' → Calls Tryz.prog 87 #[agX y] y' fun e w' => e = .returned (.bool true) ∧ Below y'.heap.size y' w') (hk : ∀ y', Below w.heap.size w y' → Calls Tryz.prog 31 #[agX ⟨q, some ⟨b, o, none⟩, n, c⟩] y' fun e w' => e = .returned (.string k.s) ∧ Below y'.heap.size y' w') : Calls Tryz.prog 52 #[agX ⟨q, some ⟨b, o, none⟩, n, c⟩] w fun e w' => e = .returned (.bool RR) ∧ Below w.heap.size w w' := by
  have i0 : (0 : Int) < (n : Int) := by omega
  have HC := hid hc
  have HK := hid hk
  obtain ⟨kd, nu, st, tx, op, ms, ma, mc, of, fx, att, bo, byy, ns, na, nc, sd, es, ea, ec, kc⟩ := q
  simp only at h hz hk HK
  subst h
  subst hz
  have e1 : (k.s).toList.isEmpty = false := some_st (fun e => he (K.inj (b := .e) e))
  obtain rfl : RR = true := by rw [← hRR, decide_eq_true he]; rfl
  clear he
  obtain ⟨X, hX⟩ : ∃ X, X = w.alloc (.cells #[.int .i64 8, .int .i64 nu, .int .i64 st, .string tx, .int .i64 3, .slice ma ms.length mc, .int .i64 of, .bool fx, .int .i64 att, .bool bo, .int .i64 byy, .slice na ns.length nc, .int .i64 sd, .slice ea es.length ec, .int .i64 kc, .slice (some ⟨b, o, none⟩) n c] 58) := ⟨_, rfl⟩
  have hXB : Below w.heap.size w X := by rw [hX]; exact (Below.refl _ _).alloc (Nat.le_refl _) _
  have hXN : X.heap[w.heap.size]? = some (.cells #[.int .i64 8, .int .i64 nu, .int .i64 st, .string tx, .int .i64 3, .slice ma ms.length mc, .int .i64 of, .bool fx, .int .i64 att, .bool bo, .int .i64 byy, .slice na ns.length nc, .int .i64 sd, .slice ea es.length ec, .int .i64 kc, .slice (some ⟨b, o, none⟩) n c] 58) := by rw [hX]; exact heap_alloc_new _ _
  have HXN := hid hXN
  have HXB := hid hXB
  have HXX := hid hX
  obtain ⟨d0, d1, d2, d3, d4, d5, d6, d7, d8, d9, d10, d11, d12, d13, d14, d15⟩ := sixteen hXN
  clear hX hXB hXN
  obtain ⟨c0, c1, c2, c3, c4, c5, c6, c7, c8, c9, c10, c11, c12, c13, c14, c15⟩ := (hy.below HXB.out hb).all
  clear hy hc hk hRR
  go_enter Tryz.func52, Tryz.ntmps52
  go_upto_region 1 with fail
  rw [← HXX.out]
  clear HXX
  go_wp2_with (first | (go_at_call 87; refine (HC.out _ HXB.out).mono ?_; rintro e w1 ⟨rfl, hb1⟩; have HB1 := hid (HXB.out.trans (hb1.mono HXB.out.size)); obtain ⟨p0, p1, p2, p3, p4, p5, p6, p7, p8, p9, p10, p11, p12, p13, p14, p15⟩ := sixteen (kept HXN.out hb1); clear hb1) | (go_at_call 31; refine (HK.out _ HB1.out).mono ?_; rintro e w2 ⟨rfl, hb2⟩; have HB2 := hid (HB1.out.trans (hb2.mono HB1.out.size)); clear hb2))
  go_ret
  exact ⟨rfl, HB2.out⟩
set_option maxHeartbeats 8000000 in
set_option maxRecDepth 100000 in
theorem lsa5 (q : R) (b o n c : Nat) (y : E) (k : K) (RR : Bool) (w : World) (h : q.kd = 8) (hz : q.op = 5) (hn : 0 < n) (hb : b < w.heap.size) (hy : KC w b o y) (hRR : (false && decide (k ≠ .e)) = RR) (hc : ∀ y', Below w.heap.size w y' → Calls Tryz.prog 87 #[agX y] y' fun e w' => e = .returned (.bool false) ∧ Below y'.heap.size y' w') (hk : ∀ y', Below w.heap.size w y' → Calls Tryz.prog 31 #[agX ⟨q, some ⟨b, o, none⟩, n, c⟩] y' fun e w' => e = .returned (.string k.s) ∧ Below y'.heap.size y' w') : Calls Tryz.prog 52 #[agX ⟨q, some ⟨b, o, none⟩, n, c⟩] w fun e w' => e = .returned (.bool RR) ∧ Below w.heap.size w w' := by
  have i0 : (0 : Int) < (n : Int) := by omega
  have HC := hid hc
  have HK := hid hk
  obtain ⟨kd, nu, st, tx, op, ms, ma, mc, of, fx, att, bo, byy, ns, na, nc, sd, es, ea, ec, kc⟩ := q
  simp only at h hz hk HK
  subst h
  subst hz
  obtain rfl : RR = false := by rw [← hRR]; rfl
  obtain ⟨X, hX⟩ : ∃ X, X = w.alloc (.cells #[.int .i64 8, .int .i64 nu, .int .i64 st, .string tx, .int .i64 5, .slice ma ms.length mc, .int .i64 of, .bool fx, .int .i64 att, .bool bo, .int .i64 byy, .slice na ns.length nc, .int .i64 sd, .slice ea es.length ec, .int .i64 kc, .slice (some ⟨b, o, none⟩) n c] 58) := ⟨_, rfl⟩
  have hXB : Below w.heap.size w X := by rw [hX]; exact (Below.refl _ _).alloc (Nat.le_refl _) _
  have hXN : X.heap[w.heap.size]? = some (.cells #[.int .i64 8, .int .i64 nu, .int .i64 st, .string tx, .int .i64 5, .slice ma ms.length mc, .int .i64 of, .bool fx, .int .i64 att, .bool bo, .int .i64 byy, .slice na ns.length nc, .int .i64 sd, .slice ea es.length ec, .int .i64 kc, .slice (some ⟨b, o, none⟩) n c] 58) := by rw [hX]; exact heap_alloc_new _ _
  have HXN := hid hXN
  have HXB := hid hXB
  have HXX := hid hX
  obtain ⟨d0, d1, d2, d3, d4, d5, d6, d7, d8, d9, d10, d11, d12, d13, d14, d15⟩ := sixteen hXN
  clear hX hXB hXN
  obtain ⟨c0, c1, c2, c3, c4, c5, c6, c7, c8, c9, c10, c11, c12, c13, c14, c15⟩ := (hy.below HXB.out hb).all
  clear hy hc hk hRR
  go_enter Tryz.func52, Tryz.ntmps52
  go_upto_region 1 with fail
  rw [← HXX.out]
  clear HXX
  go_wp2_with ((go_at_call 87; refine (HC.out _ HXB.out).mono ?_; rintro e w1 ⟨rfl, hb1⟩; have HB1 := hid (HXB.out.trans (hb1.mono HXB.out.size)); obtain ⟨p0, p1, p2, p3, p4, p5, p6, p7, p8, p9, p10, p11, p12, p13, p14, p15⟩ := sixteen (kept HXN.out hb1); clear hb1))
  go_ret
  exact ⟨rfl, HB1.out⟩
set_option maxHeartbeats 8000000 in
set_option maxRecDepth 100000 in
theorem lsb5 (q : R) (b o n c : Nat) (y : E) (RR : Bool) (w : World) (h : q.kd = 8) (hz : q.op = 5) (hn : 0 < n) (hb : b < w.heap.size) (hy : KC w b o y) (hRR : (true && decide (K.e ≠ .e)) = RR) (hc : ∀ y', Below w.heap.size w y' → Calls Tryz.prog 87 #[agX y] y' fun e w' => e = .returned (.bool true) ∧ Below y'.heap.size y' w') (hk : ∀ y', Below w.heap.size w y' → Calls Tryz.prog 31 #[agX ⟨q, some ⟨b, o, none⟩, n, c⟩] y' fun e w' => e = .returned (.string ⟨#[]⟩) ∧ Below y'.heap.size y' w') : Calls Tryz.prog 52 #[agX ⟨q, some ⟨b, o, none⟩, n, c⟩] w fun e w' => e = .returned (.bool RR) ∧ Below w.heap.size w w' := by
  have i0 : (0 : Int) < (n : Int) := by omega
  have HC := hid hc
  have HK := hid hk
  obtain ⟨kd, nu, st, tx, op, ms, ma, mc, of, fx, att, bo, byy, ns, na, nc, sd, es, ea, ec, kc⟩ := q
  simp only at h hz hk HK
  subst h
  subst hz
  obtain rfl : RR = false := by rw [← hRR]; rfl
  obtain ⟨X, hX⟩ : ∃ X, X = w.alloc (.cells #[.int .i64 8, .int .i64 nu, .int .i64 st, .string tx, .int .i64 5, .slice ma ms.length mc, .int .i64 of, .bool fx, .int .i64 att, .bool bo, .int .i64 byy, .slice na ns.length nc, .int .i64 sd, .slice ea es.length ec, .int .i64 kc, .slice (some ⟨b, o, none⟩) n c] 58) := ⟨_, rfl⟩
  have hXB : Below w.heap.size w X := by rw [hX]; exact (Below.refl _ _).alloc (Nat.le_refl _) _
  have hXN : X.heap[w.heap.size]? = some (.cells #[.int .i64 8, .int .i64 nu, .int .i64 st, .string tx, .int .i64 5, .slice ma ms.length mc, .int .i64 of, .bool fx, .int .i64 att, .bool bo, .int .i64 byy, .slice na ns.length nc, .int .i64 sd, .slice ea es.length ec, .int .i64 kc, .slice (some ⟨b, o, none⟩) n c] 58) := by rw [hX]; exact heap_alloc_new _ _
  have HXN := hid hXN
  have HXB := hid hXB
  have HXX := hid hX
  obtain ⟨d0, d1, d2, d3, d4, d5, d6, d7, d8, d9, d10, d11, d12, d13, d14, d15⟩ := sixteen hXN
  clear hX hXB hXN
  obtain ⟨c0, c1, c2, c3, c4, c5, c6, c7, c8, c9, c10, c11, c12, c13, c14, c15⟩ := (hy.below HXB.out hb).all
  clear hy hc hk hRR
  go_enter Tryz.func52, Tryz.ntmps52
  go_upto_region 1 with fail
  rw [← HXX.out]
  clear HXX
  go_wp2_with (first | (go_at_call 87; refine (HC.out _ HXB.out).mono ?_; rintro e w1 ⟨rfl, hb1⟩; have HB1 := hid (HXB.out.trans (hb1.mono HXB.out.size)); obtain ⟨p0, p1, p2, p3, p4, p5, p6, p7, p8, p9, p10, p11, p12, p13, p14, p15⟩ := sixteen (kept HXN.out hb1); clear hb1) | (go_at_call 31; refine (HK.out _ HB1.out).mono ?_; rintro e w2 ⟨rfl, hb2⟩; have HB2 := hid (HB1.out.trans (hb2.mono HB1.out.size)); clear hb2))
  go_ret
  exact ⟨rfl, HB2.out⟩
set_option maxHeartbeats 8000000 in
set_option maxRecDepth 100000 in
theorem lsc5 (q : R) (b o n c : Nat) (y : E) (k : K) (RR : Bool) (w : World) (h : q.kd = 8) (hz : q.op = 5) (he : k ≠ .e) (hn : 0 < n) (hb : b < w.heap.size) (hy : KC w b o y) (hRR : (true && decide (k ≠ .e)) = RR) (hc : ∀ y', Below w.heap.size w y' → Calls Tryz.prog 87 #[agX y] y' fun e w' => e = .returned (.bool true) ∧ Below y'.heap.size y' w') (hk : ∀ y', Below w.heap.size w y' → Calls Tryz.prog 31 #[agX ⟨q, some ⟨b, o, none⟩, n, c⟩] y' fun e w' => e = .returned (.string k.s) ∧ Below y'.heap.size y' w') : Calls Tryz.prog 52 #[agX ⟨q, some ⟨b, o, none⟩, n, c⟩] w fun e w' => e = .returned (.bool RR) ∧ Below w.heap.size w w' := by
  have i0 : (0 : Int) < (n : Int) := by omega
  have HC := hid hc
  have HK := hid hk
  obtain ⟨kd, nu, st, tx, op, ms, ma, mc, of, fx, att, bo, byy, ns, na, nc, sd, es, ea, ec, kc⟩ := q
  simp only at h hz hk HK
  subst h
  subst hz
  have e1 : (k.s).toList.isEmpty = false := some_st (fun e => he (K.inj (b := .e) e))
  obtain rfl : RR = true := by rw [← hRR, decide_eq_true he]; rfl
  clear he
  obtain ⟨X, hX⟩ : ∃ X, X = w.alloc (.cells #[.int .i64 8, .int .i64 nu, .int .i64 st, .string tx, .int .i64 5, .slice ma ms.length mc, .int .i64 of, .bool fx, .int .i64 att, .bool bo, .int .i64 byy, .slice na ns.length nc, .int .i64 sd, .slice ea es.length ec, .int .i64 kc, .slice (some ⟨b, o, none⟩) n c] 58) := ⟨_, rfl⟩
  have hXB : Below w.heap.size w X := by rw [hX]; exact (Below.refl _ _).alloc (Nat.le_refl _) _
  have hXN : X.heap[w.heap.size]? = some (.cells #[.int .i64 8, .int .i64 nu, .int .i64 st, .string tx, .int .i64 5, .slice ma ms.length mc, .int .i64 of, .bool fx, .int .i64 att, .bool bo, .int .i64 byy, .slice na ns.length nc, .int .i64 sd, .slice ea es.length ec, .int .i64 kc, .slice (some ⟨b, o, none⟩) n c] 58) := by rw [hX]; exact heap_alloc_new _ _
  have HXN := hid hXN
  have HXB := hid hXB
  have HXX := hid hX
  obtain ⟨d0, d1, d2, d3, d4, d5, d6, d7, d8, d9, d10, d11, d12, d13, d14, d15⟩ := sixteen hXN
  clear hX hXB hXN
  obtain ⟨c0, c1, c2, c3, c4, c5, c6, c7, c8, c9, c10, c11, c12, c13, c14, c15⟩ := (hy.below HXB.out hb).all
  clear hy hc hk hRR
  go_enter Tryz.func52, Tryz.ntmps52
  go_upto_region 1 with fail
  rw [← HXX.out]
  clear HXX
  go_wp2_with (first | (go_at_call 87; refine (HC.out _ HXB.out).mono ?_; rintro e w1 ⟨rfl, hb1⟩; have HB1 := hid (HXB.out.trans (hb1.mono HXB.out.size)); obtain ⟨p0, p1, p2, p3, p4, p5, p6, p7, p8, p9, p10, p11, p12, p13, p14, p15⟩ := sixteen (kept HXN.out hb1); clear hb1) | (go_at_call 31; refine (HK.out _ HB1.out).mono ?_; rintro e w2 ⟨rfl, hb2⟩; have HB2 := hid (HB1.out.trans (hb2.mono HB1.out.size)); clear hb2))
  go_ret
  exact ⟨rfl, HB2.out⟩
set_option maxHeartbeats 8000000 in
set_option maxRecDepth 100000 in
theorem ls_yes (q : R) (b o n c : Nat) (y : E) (r : Bool) (k : K) (RR : Bool) (w : World) (h : q.kd = 8) (ho : q.op = 1 ∨ q.op = 2 ∨ q.op = 3 ∨ q.op = 5) (hn : 0 < n) (hb : b < w.heap.size) (hy : KC w b o y) (hRR : (r && decide (k ≠ .e)) = RR) (hc : ∀ y', Below w.heap.size w y' → Calls Tryz.prog 87 #[agX y] y' fun e w' => e = .returned (.bool r) ∧ Below y'.heap.size y' w') (hk : ∀ y', Below w.heap.size w y' → Calls Tryz.prog 31 #[agX ⟨q, some ⟨b, o, none⟩, n, c⟩] y' fun e w' => e = .returned (.string k.s) ∧ Below y'.heap.size y' w') : Calls Tryz.prog 52 #[agX ⟨q, some ⟨b, o, none⟩, n, c⟩] w fun e w' => e = .returned (.bool RR) ∧ Below w.heap.size w w' := by
  rcases ho with hz | hz | hz | hz
  · cases r with
    | false => exact lsa1 q b o n c y k RR w h hz hn hb hy hRR hc hk
    | true =>
      by_cases he : k = .e
      · subst he; exact lsb1 q b o n c y RR w h hz hn hb hy hRR hc hk
      · exact lsc1 q b o n c y k RR w h hz he hn hb hy hRR hc hk
  · cases r with
    | false => exact lsa2 q b o n c y k RR w h hz hn hb hy hRR hc hk
    | true =>
      by_cases he : k = .e
      · subst he; exact lsb2 q b o n c y RR w h hz hn hb hy hRR hc hk
      · exact lsc2 q b o n c y k RR w h hz he hn hb hy hRR hc hk
  · cases r with
    | false => exact lsa3 q b o n c y k RR w h hz hn hb hy hRR hc hk
    | true =>
      by_cases he : k = .e
      · subst he; exact lsb3 q b o n c y RR w h hz hn hb hy hRR hc hk
      · exact lsc3 q b o n c y k RR w h hz he hn hb hy hRR hc hk
  · cases r with
    | false => exact lsa5 q b o n c y k RR w h hz hn hb hy hRR hc hk
    | true =>
      by_cases he : k = .e
      · subst he; exact lsb5 q b o n c y RR w h hz hn hb hy hRR hc hk
      · exact lsc5 q b o n c y k RR w h hz he hn hb hy hRR hc hk
theorem f52 (t : Tr) (x : E) (w0 : World) (S : Nat → Prop) (w : World) (hg : Gt NM 1 t) (hv : Ev w0 S w t x) (hb : Below w0.heap.size w0 w) :
    Calls Tryz.prog 52 #[agX x] w fun e w' => e = .returned (.bool (shT t)) ∧ Below w.heap.size w w' := by
  have hv0 := hv
  obtain ⟨r, ks⟩ := t
  obtain ⟨q, a, n, c⟩ := x
  simp only [Ev] at hv
  obtain ⟨rfl, _, xs, rfl, hh, hl⟩ := hv
  by_cases h8 : q.kd = 8
  case neg =>
    rw [sh_other (by simpa [pl] using h8)]
    exact ls_no q a _ c w h8
  by_cases ho : q.op = 1 ∨ q.op = 2 ∨ q.op = 3 ∨ q.op = 5
  case neg =>
    rw [show shT (.nd (pl q) ks) = false from by unfold shT; simp [pl, ho]]
    exact ls_op q a _ c w h8 (fun h => ho (by simp [h])) (fun h => ho (by simp [h])) (fun h => ho (by simp [h])) (fun h => ho (by simp [h]))
  have h6 := agg_kids hg h8
  have hln := EvL.len _ _ hl
  have hl1 : ks.length = 1 := by
    rw [h6, if_neg]
    show ¬ 6 ≤ q.op
    omega
  obtain ⟨k, rfl⟩ := List.length_eq_one_iff.1 hl1
  obtain ⟨y, rfl, hy⟩ := oneE hl
  obtain ⟨b, o, rfl, hbl, hc⟩ := kidE hh 0 y rfl
  have hgk := GtL_mem.1 (nm_parts hg).2.2.2.2 k (by simp)
  have key := ls_yes q b o 1 c y (byT clM k) (kdT (.nd (pl q) [k])) _ w h8 ho (by omega) hbl (by simpa using hc) rfl (fun z hz => msOk 11 k y w0 S z 2 rfl hgk (Ev.agr (Agr.below hz) k y hy) (hb.trans (hz.mono hb.size)))
    (fun z hz => kmOk 12 _ _ w0 S z 1 rfl hg (Ev.agr (Agr.below hz) _ _ hv0) (hb.trans (hz.mono hb.size)))
  rw [show shT (.nd (pl q) [k]) = (byT clM k && decide (kdT (.nd (pl q) [k]) ≠ .e)) from by unfold shT; simp [pl, h8, ho]]
  exact key
/-- Whether shards can be asked a question, as the model says. -/
def ShM (ps : List Pl) (w : World) (e : Ending) (w' : World) : Prop :=
  Below w.heap.size w w' ∧ ((e = .returned (.bool false) ∧ ¬ GoodQ ps) ∨ ∃ t, e = .returned (.bool (shT t)) ∧ ps = rows t ∧ GoodQ ps ∧ Gt NM 1 t)
set_option maxHeartbeats 8000000 in
set_option maxRecDepth 100000 in
theorem f22 (rs : List R) (a : Option Addr) (c : Nat) (w0 w : World) (hm : rs.length ≤ maxLen) (hr : HasR w0 a rs) (hrs : ∀ q ∈ rs, Rw w0 q) (hb0 : Below w0.heap.size w0 w) :
    Calls Tryz.prog 22 #[.slice a rs.length c] w (ShM (rs.map pl) w) := by
  have HT := hid (f30 rs a c w0 w hm hr hrs hb0)
  have HB0 := hid hb0
  clear hr hrs hb0
  go_enter Tryz.func22, Tryz.ntmps22
  go_wp2_with fail
  refine HT.out.mono ?_
  rintro e w1 ⟨hb1, z, b, rfl, hb, hz⟩
  cases b with
  | false =>
    have HN : Hid (¬ GoodQ (rs.map pl)) := fun h => by have := hb.2 h; cases this
    have HB1 := hid (hb1.alloc hb1.size (EO z.q z.a z.n z.c))
    clear hb hb1 hz HT
    go_wp2
    go_ret
    exact ⟨HB1.out, .inl ⟨rfl, HN.out⟩⟩
  | true =>
    obtain ⟨t, ht, hg, hv⟩ := hz rfl
    have HE := hid ht
    have HQ := hid (hb.1 rfl)
    have HG := hid hg
    obtain ⟨Y, hY⟩ : ∃ Y, Y = w1.alloc (EO z.q z.a z.n z.c) := ⟨_, rfl⟩
    have hYB : Below w1.heap.size w1 Y := by rw [hY]; exact (Below.refl _ _).alloc (Nat.le_refl _) _
    have hYN := congrArg (fun (x : World) => x.heap[w1.heap.size]?) hY
    rw [heap_alloc_new] at hYN
    obtain ⟨d0, d1, d2, d3, d4, d5, d6, d7, d8, d9, d10, d11, d12, d13, d14, d15⟩ := sixteen hYN
    have HYX := hid (hb1.trans (hYB.mono hb1.size))
    have HC := hid (f52 t z w0 _ Y hg (Ev.agr (Agr.below hYB) t z hv) (HB0.out.trans (HYX.out.mono HB0.out.size)))
    have HYY := hid hY
    clear hY hYB hYN hb hb1 hz hg hv ht HT HB0
    go_upto_region 2 with fail
    rw [← HYY.out]
    clear HYY
    go_wp2_with (go_at_call 52; refine HC.out.mono ?_; rintro e w2 ⟨rfl, hb2⟩; have HB2 := hid hb2; clear hb2)
    go_ret
    exact ⟨HYX.out.trans (HB2.out.mono HYX.out.size), .inr ⟨t, rfl, HE.out, HQ.out, HG.out⟩⟩
end Go.Proofs.YtbdlahhejfamhaaGreatDoor.Qry
/- The walk of FnExactShardable. -/
namespace Go.Proofs.YtbdlahhejfamhaaGreatDoor.Qry
open Go.RowKit

/-- Whether shards can be asked a question. -/
def ShIs (ps : List Pl) (s : Bool) : Prop := (s = false ∧ ¬ GoodQ ps) ∨ ∃ t, s = shT t ∧ ps = rows t ∧ Gt NM 1 t ∧ ps.length ≤ 60
theorem sh_one {ps : List Pl} {a b : Bool} (ha : ShIs ps a) (hb : ShIs ps b) : a = b := by
  rcases ha with ⟨h1, h2⟩ | ⟨t, h1, h2, h3, h4⟩
  · rcases hb with ⟨g1, _⟩ | ⟨u, _, g2, g3, g4⟩
    · rw [h1, g1]
    · exact absurd ⟨g4, u, g2, g3⟩ h2
  · rcases hb with ⟨_, g2⟩ | ⟨u, g1, g2, g3, g4⟩
    · exact absurd ⟨h4, t, h2, h3⟩ g2
    · have e := (rows_one NM NM t u 1 1 [] [] h3 g3 (by rw [← h2, g2])).1
      rw [h1, g1, e]
theorem shQ {ps : List Pl} {e : Ending} (h : (e = .returned (.bool false) ∧ ¬ GoodQ ps) ∨ ∃ t, e = .returned (.bool (shT t)) ∧ ps = rows t ∧ GoodQ ps ∧ Gt NM 1 t) : ∃ s, e = .returned (.bool s) ∧ ShIs ps s := by
  rcases h with ⟨h1, h2⟩ | ⟨t, h1, h2, h3, h4⟩
  · exact ⟨_, h1, .inl ⟨rfl, h2⟩⟩
  · exact ⟨_, h1, .inr ⟨t, rfl, h2, h4, h3.1⟩⟩
theorem shP {ps : List Pl} {e : Ending} (h : (e = .returned (.bool false) ∧ ¬ GoodQ ps) ∨ ∃ t, e = .returned (.bool (shT t)) ∧ ps = rows t ∧ ps.length ≤ 60 ∧ Gt NM 1 t) : ∃ s, e = .returned (.bool s) ∧ ShIs ps s := by
  rcases h with ⟨h1, h2⟩ | ⟨t, h1, h2, h3, h4⟩
  · exact ⟨_, h1, .inl ⟨rfl, h2⟩⟩
  · exact ⟨_, h1, .inr ⟨t, rfl, h2, h4, h3⟩⟩
set_option maxHeartbeats 4000000 in
theorem walkShard (a : Option Addr) (n c : Nat) (rs : List R) (w : World) (hn : rs.length = n) (hmax : n ≤ maxLen) (hr : HasR w a rs) (hf : FitR rs) (ht : Tabs w) :
    Calls Tryz.prog 6 #[.slice a n c] w fun e w' => e = .returned (.bool true) ∧ Below w.heap.size w w' := by
  have HN := hid hn
  have HR := hid hr
  have HF := hid hf
  have HM := hid hmax
  have HT := hid ht
  clear hn hr hf hmax ht
  go_enter Tryz.func6, Tryz.ntmps6
  go_wp2_with fail
  refine (f8 a n c 1048576 rs _ (by omega) (by omega) HN.out HR.out HF.out HM.out).mono ?_
  rintro e w1 ⟨y, rfl, y0, y1, hy, hb⟩
  have HB1 := hid hb
  have HR1 := hid (HR.out.below hb)
  clear hb HR
  by_cases g0 : y < 0
  · go_wp2
    go_ret
    exact ⟨rfl, HB1.out⟩
  have h1 := hy (by omega)
  have hle : n ≤ 1048576 := by omega
  have HZ : Hid (SmlR rs) := sml_tot (by rw [HN.out]; omega)
  clear h1 hy
  have HMx : Hid (n ≤ maxLen) := HM.out
  go_wp2_with fail
  refine (f10 a n c rs _ HN.out hle HR1.out HZ.out).mono ?_
  rintro e w2 ⟨d2, rfl, hs2, ho2, hb⟩
  have HB2 := hid (HB1.out.trans (hb.mono HB1.out.size))
  have HR2 := hid (HR1.out.below hb)
  have HL2 : Hid (d2.length = n) := ho2.kin.len
  have HS2 := hid hs2.same
  have HH2 := hid ho2.has
  clear hb ho2 hs2 HB1 HR1
  have HG2 := hid (map_same HS2.out HN.out HL2.out)
  have HP := hid (f22 d2 (some ⟨w1.heap.size, 0, none⟩) n w2 w2 (by rw [HL2.out]; exact HMx.out) HH2.out (rows_rw HH2.out (HS2.out.fit HL2.out HF.out) (HS2.out.sml HN.out HL2.out HZ.out)) (Below.refl _ _))
  rw [HL2.out] at HP
  generalize w1.heap.size = X1 at *
  go_wp2_with fail
  refine HP.out.mono ?_
  rintro e w3 ⟨hb, hR⟩
  rw [HG2.out] at hR
  obtain ⟨R1, rfl, hR1⟩ := shQ hR
  have HB3 := hid (HB2.out.trans (hb.mono HB2.out.size))
  have HR3 := hid (HR2.out.below hb)
  have HRa := hid hR1
  clear hb hR1 HB2 HR2 HL2 HS2 HH2 HG2 HP
  go_wp2_with fail
  refine (f10 a n c rs _ HN.out hle HR3.out HZ.out).mono ?_
  rintro e w4 ⟨d4, rfl, hs4, ho4, hb⟩
  have HB4 := hid (HB3.out.trans (hb.mono HB3.out.size))
  have HR4 := hid (HR3.out.below hb)
  have HL4 : Hid (d4.length = n) := ho4.kin.len
  have HS4 := hid hs4.same
  have HH4 := hid ho4.has
  clear hb ho4 hs4 HB3 HR3
  have HG4 := hid (map_same HS4.out HN.out HL4.out)
  have HP := hid (f23 d4 (some ⟨w3.heap.size, 0, none⟩) n w4 w4 (by rw [HL4.out]; exact HMx.out) (by rw [HL4.out]; exact Nat.le_refl _) HMx.out HH4.out (rows_rw HH4.out (HS4.out.fit HL4.out HF.out) (HS4.out.sml HN.out HL4.out HZ.out)) (Below.refl _ _) (HT.out.below HB4.out))
  rw [HL4.out] at HP
  generalize w3.heap.size = X3 at *
  go_wp2_with fail
  refine HP.out.mono ?_
  rintro e w5 ⟨hb, hR⟩
  rw [HG4.out] at hR
  obtain ⟨R2, rfl, hR2⟩ := shP hR
  obtain rfl : R2 = R1 := sh_one hR2 HRa.out
  have HB5 := hid (HB4.out.trans (hb.mono HB4.out.size))
  have HR5 := hid (HR4.out.below hb)
  have HH5 := hid (HH4.out.below hb)
  clear hb hR2 HB4 HR4 HH4 HRa HG4 HP
  have gR : (R2 != R2) = false := by simp
  go_wp2_with fail
  refine (f10 a n c rs _ HN.out hle HR5.out HZ.out).mono ?_
  rintro e w6 ⟨d6, rfl, hs6, ho6, hb⟩
  have HB6 := hid (HB5.out.trans (hb.mono HB5.out.size))
  have HH6 := hid (HH5.out.below hb)
  have HL6 : Hid (d6.length = n) := ho6.kin.len
  have HS6 := hid hs6.same
  have HO6 := hid ho6.has
  clear hb ho6 hs6 HB5 HH5
  generalize w5.heap.size = X5 at *
  go_wp2_with fail
  refine (f12 _ _ n n n d4 d6 _ HL4.out HL6.out hle HH6.out HO6.out (HS4.out.trans' HS6.out) (HS4.out.sml HN.out HL4.out HZ.out)).mono ?_
  rintro e w7 ⟨rfl, hb⟩
  have HB7 := hid (HB6.out.trans (hb.mono HB6.out.size))
  clear hb
  go_wp2
  go_ret
  exact ⟨rfl, HB7.out⟩
end Go.Proofs.YtbdlahhejfamhaaGreatDoor.Qry
