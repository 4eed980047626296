/- The model: which questions shards can be asked. -/
import Derived.Test.YtbdlahhejfamhaaGreatDoorRS1
import Derived.Test.YtbdlahhejfamhaaGreatDoorRD0
import Derived.Test.YtbdlahhejfamhaaGreatDoorRC3
namespace Go.Proofs.YtbdlahhejfamhaaGreatDoor.Qry
open Go.RowKit

theorem ret_bm {a b : Bool} (h : a = b) : Ending.returned (.bool a) = .returned (.bool b) := by rw [h]
/-- A node's cells. -/
def KC (w : World) (b o : Nat) (y : E) : Prop := ∀ j, j < 16 → w.cell? ⟨b, o + j, none⟩ = (clE y)[j]?
theorem KC.below {w w' : World} {b o : Nat} {y : E} (h : KC w b o y) (hb : Below w.heap.size w w') (hl : b < w.heap.size) : KC w' b o y := fun j hj => (hb.cell (p := ⟨b, o + j, none⟩) hl).trans (h j hj)
theorem KC.all {w : World} {b o : Nat} {y : E} (h : KC w b o y) : w.cell? ⟨b, o, none⟩ = some (.int .i64 y.q.kd) ∧ w.cell? ⟨b, o + 1, none⟩ = some (.int .i64 y.q.nu) ∧ w.cell? ⟨b, o + 2, none⟩ = some (.int .i64 y.q.st) ∧ w.cell? ⟨b, o + 3, none⟩ = some (.string y.q.tx) ∧ w.cell? ⟨b, o + 4, none⟩ = some (.int .i64 y.q.op) ∧ w.cell? ⟨b, o + 5, none⟩ = some (.slice y.q.ma y.q.ms.length y.q.mc) ∧ w.cell? ⟨b, o + 6, none⟩ = some (.int .i64 y.q.off) ∧ w.cell? ⟨b, o + 7, none⟩ = some (.bool y.q.fx) ∧ w.cell? ⟨b, o + 8, none⟩ = some (.int .i64 y.q.att) ∧ w.cell? ⟨b, o + 9, none⟩ = some (.bool y.q.bo) ∧ w.cell? ⟨b, o + 10, none⟩ = some (.int .i64 y.q.byy) ∧ w.cell? ⟨b, o + 11, none⟩ = some (.slice y.q.na y.q.ns.length y.q.nc) ∧ w.cell? ⟨b, o + 12, none⟩ = some (.int .i64 y.q.sd) ∧ w.cell? ⟨b, o + 13, none⟩ = some (.slice y.q.ea y.q.es.length y.q.ec) ∧ w.cell? ⟨b, o + 14, none⟩ = some (.int .i64 y.q.kc) ∧ w.cell? ⟨b, o + 15, none⟩ = some (.slice y.a y.n y.c) :=
  ⟨h 0 (by omega), h 1 (by omega), h 2 (by omega), h 3 (by omega), h 4 (by omega), h 5 (by omega), h 6 (by omega), h 7 (by omega), h 8 (by omega), h 9 (by omega), h 10 (by omega), h 11 (by omega), h 12 (by omega), h 13 (by omega), h 14 (by omega), h 15 (by omega)⟩
theorem kidE {S : Nat → Prop} {w : World} {a : Option Addr} {xs : List E} (h : HasE S w a xs) (i : Nat) (y : E) (hy : xs[i]? = some y) : ∃ b off, a = some ⟨b, off, none⟩ ∧ b < w.heap.size ∧ KC w b (off + i * 16) y := by
  have hi : i < xs.length := by
    rcases Nat.lt_or_ge i xs.length with h1 | h1
    · exact h1
    · rw [List.getElem?_eq_none h1] at hy; cases hy
  have hx : xs[i] = y := by rw [List.getElem?_eq_getElem hi] at hy; exact Option.some.inj hy
  rcases h with h | ⟨b, off, h1, _, h3, h4⟩
  · rw [h] at hi; simp at hi
  · exact ⟨b, off, h1, h3, fun j hj => by rw [← hx]; exact h4 i hi j hj⟩
theorem oneE {w0 : World} {S : Nat → Prop} {w : World} {k : Tr} {xs : List E} (h : EvL w0 S w [k] xs) : ∃ y, xs = [y] ∧ Ev w0 S w k y := by
  simp only [EvL] at h
  obtain ⟨y, xs', rfl, h1, rfl⟩ := h
  exact ⟨y, rfl, h1⟩
theorem twoE {w0 : World} {S : Nat → Prop} {w : World} {k l : Tr} {xs : List E} (h : EvL w0 S w [k, l] xs) : ∃ y z, xs = [y, z] ∧ Ev w0 S w k y ∧ Ev w0 S w l z := by
  simp only [EvL] at h
  obtain ⟨y, xs', rfl, h1, z, ys, rfl, h2, rfl⟩ := h
  exact ⟨y, z, rfl, h1, h2⟩
theorem shape_one {d : Nat} {r : Pl} {ks : List Tr} (hg : Gt NM d (.nd r ks)) (h : r.kd = 5 ∨ r.kd = 6) : ∃ k, ks = [k] := by
  have h4 := (nm_parts hg).2.2.2.1
  unfold shape at h4
  rcases h4 with h4 | h4 | ⟨_, h4⟩ | h4 | h4 | h4
  · omega
  · omega
  · exact h4
  all_goals omega
theorem shape_two {d : Nat} {r : Pl} {ks : List Tr} (hg : Gt NM d (.nd r ks)) (h : r.kd = 7) : ∃ k l, ks = [k, l] := by
  have h4 := (nm_parts hg).2.2.2.1
  unfold shape at h4
  rcases h4 with h4 | h4 | h4 | ⟨_, h4⟩ | h4 | h4
  · omega
  · omega
  · omega
  · exact h4
  all_goals omega
theorem shape_range {d : Nat} {r : Pl} {ks : List Tr} (hg : Gt NM d (.nd r ks)) (h : r.kd = 4) : ∃ k, ks = [k] ∧ k.r.kd = 3 := by
  have h4 := (nm_parts hg).2.2.2.1
  unfold shape at h4
  rcases h4 with h4 | ⟨_, h4⟩ | h4 | h4 | h4 | h4
  · omega
  · exact h4
  all_goals omega
theorem cnst_neg2 {q p : R} {kk : List Tr} (h : q.kd = 6) : cnst (.nd (pl q) [.nd (pl p) kk]) = decide (p.kd = 1 ∧ 0 < p.nu) := by
  have e1 : ¬ (pl q).kd = 1 := by show ¬ q.kd = 1; omega
  have e6 : (pl q).kd = 6 := h
  show (decide ((pl q).kd = 1) || (decide ((pl q).kd = 6) && decide ((pl p).kd = 1 ∧ 0 < (pl p).nu))) = _
  rw [decide_eq_false e1, decide_eq_true e6, Bool.false_or, Bool.true_and]
  rfl
theorem celS {w : World} {b : Nat} {cs : Array Value} {t : TypeId} (h : w.heap[b]? = some (.cells cs t)) (i : Nat) (v : Value) (hv : cs[i]? = some v) : w.cell? ⟨b, i, none⟩ = some v := by
  simp only [World.cell?, h]
  exact hv
theorem some_st {s : ByteArray} (h : s ≠ ⟨#[]⟩) : s.toList.isEmpty = false := some_str h
theorem rule_off {a : Int} {n : Int} (h : a ≠ n) : (a == n) = false := by simpa using h
set_option maxHeartbeats 8000000 in
set_option maxRecDepth 100000 in
theorem f115 (q : R) (a : Option Addr) (n c : Nat) (w : World) : Calls Tryz.prog 115 #[agX ⟨q, a, n, c⟩] w fun e w' => e = .returned (.bool (decide (q.kd = 3) && !q.tx.toList.isEmpty)) ∧ Below w.heap.size w w' := by
  obtain ⟨kd, nu, st, tx, op, ms, ma, mc, of, fx, att, bo, byy, ns, na, nc, sd, es, ea, ec, kc⟩ := q
  by_cases h : kd = 3
  · subst h
    cases hp : tx.toList.isEmpty
    · obtain ⟨X, hX⟩ : ∃ X, X = w.alloc (.cells #[.int .i64 3, .int .i64 nu, .int .i64 st, .string tx, .int .i64 op, .slice ma ms.length mc, .int .i64 of, .bool fx, .int .i64 att, .bool bo, .int .i64 byy, .slice na ns.length nc, .int .i64 sd, .slice ea es.length ec, .int .i64 kc, .slice a n c] 58) := ⟨_, rfl⟩
      have hXB : Below w.heap.size w X := by rw [hX]; exact (Below.refl _ _).alloc (Nat.le_refl _) _
      have hXN : X.heap[w.heap.size]? = some (.cells #[.int .i64 3, .int .i64 nu, .int .i64 st, .string tx, .int .i64 op, .slice ma ms.length mc, .int .i64 of, .bool fx, .int .i64 att, .bool bo, .int .i64 byy, .slice na ns.length nc, .int .i64 sd, .slice ea es.length ec, .int .i64 kc, .slice a n c] 58) := by rw [hX]; exact heap_alloc_new _ _
      have HXN := hid hXN
      have HXB := hid hXB
      have HXX := hid hX
      obtain ⟨d0, d1, d2, d3, d4, d5, d6, d7, d8, d9, d10, d11, d12, d13, d14, d15⟩ := sixteen hXN
      clear hX hXB hXN
      go_enter Tryz.func115, Tryz.ntmps115
      go_upto_region 1 with fail
      rw [← HXX.out]
      clear HXX
      go_wp2
      go_ret
      exact ⟨ret_bm (by simp_all), HXB.out⟩
    · obtain ⟨X, hX⟩ : ∃ X, X = w.alloc (.cells #[.int .i64 3, .int .i64 nu, .int .i64 st, .string tx, .int .i64 op, .slice ma ms.length mc, .int .i64 of, .bool fx, .int .i64 att, .bool bo, .int .i64 byy, .slice na ns.length nc, .int .i64 sd, .slice ea es.length ec, .int .i64 kc, .slice a n c] 58) := ⟨_, rfl⟩
      have hXB : Below w.heap.size w X := by rw [hX]; exact (Below.refl _ _).alloc (Nat.le_refl _) _
      have hXN : X.heap[w.heap.size]? = some (.cells #[.int .i64 3, .int .i64 nu, .int .i64 st, .string tx, .int .i64 op, .slice ma ms.length mc, .int .i64 of, .bool fx, .int .i64 att, .bool bo, .int .i64 byy, .slice na ns.length nc, .int .i64 sd, .slice ea es.length ec, .int .i64 kc, .slice a n c] 58) := by rw [hX]; exact heap_alloc_new _ _
      have HXN := hid hXN
      have HXB := hid hXB
      have HXX := hid hX
      obtain ⟨d0, d1, d2, d3, d4, d5, d6, d7, d8, d9, d10, d11, d12, d13, d14, d15⟩ := sixteen hXN
      clear hX hXB hXN
      go_enter Tryz.func115, Tryz.ntmps115
      go_upto_region 1 with fail
      rw [← HXX.out]
      clear HXX
      go_wp2
      go_ret
      exact ⟨ret_bm (by simp_all), HXB.out⟩
  · have HR : Hid ((decide (kd = 3) && !tx.toList.isEmpty) = false) := by unfold Hid; simp [h]
    have e3 := rule_off h
    clear h
    obtain ⟨X, hX⟩ : ∃ X, X = w.alloc (.cells #[.int .i64 kd, .int .i64 nu, .int .i64 st, .string tx, .int .i64 op, .slice ma ms.length mc, .int .i64 of, .bool fx, .int .i64 att, .bool bo, .int .i64 byy, .slice na ns.length nc, .int .i64 sd, .slice ea es.length ec, .int .i64 kc, .slice a n c] 58) := ⟨_, rfl⟩
    have hXB : Below w.heap.size w X := by rw [hX]; exact (Below.refl _ _).alloc (Nat.le_refl _) _
    have hXN : X.heap[w.heap.size]? = some (.cells #[.int .i64 kd, .int .i64 nu, .int .i64 st, .string tx, .int .i64 op, .slice ma ms.length mc, .int .i64 of, .bool fx, .int .i64 att, .bool bo, .int .i64 byy, .slice na ns.length nc, .int .i64 sd, .slice ea es.length ec, .int .i64 kc, .slice a n c] 58) := by rw [hX]; exact heap_alloc_new _ _
    have HXN := hid hXN
    have HXB := hid hXB
    have HXX := hid hX
    obtain ⟨d0, d1, d2, d3, d4, d5, d6, d7, d8, d9, d10, d11, d12, d13, d14, d15⟩ := sixteen hXN
    clear hX hXB hXN
    go_enter Tryz.func115, Tryz.ntmps115
    go_upto_region 1 with fail
    rw [← HXX.out]
    clear HXX
    go_wp2
    go_ret
    exact ⟨ret_bm HR.out.symm, HXB.out⟩
set_option maxHeartbeats 8000000 in
set_option maxRecDepth 100000 in
theorem lc_num (q : R) (a : Option Addr) (n c : Nat) (w : World) (h : q.kd = 1) : Calls Tryz.prog 74 #[agX ⟨q, a, n, c⟩] w fun e w' => (∃ z, e = .returned (.tuple #[.int .i64 z, .bool true])) ∧ Below w.heap.size w w' := by
  obtain ⟨kd, nu, st, tx, op, ms, ma, mc, of, fx, att, bo, byy, ns, na, nc, sd, es, ea, ec, kc⟩ := q
  simp only at h
  subst h
  obtain ⟨X, hX⟩ : ∃ X, X = w.alloc (.cells #[.int .i64 1, .int .i64 nu, .int .i64 st, .string tx, .int .i64 op, .slice ma ms.length mc, .int .i64 of, .bool fx, .int .i64 att, .bool bo, .int .i64 byy, .slice na ns.length nc, .int .i64 sd, .slice ea es.length ec, .int .i64 kc, .slice a n c] 58) := ⟨_, rfl⟩
  have hXB : Below w.heap.size w X := by rw [hX]; exact (Below.refl _ _).alloc (Nat.le_refl _) _
  have hXN : X.heap[w.heap.size]? = some (.cells #[.int .i64 1, .int .i64 nu, .int .i64 st, .string tx, .int .i64 op, .slice ma ms.length mc, .int .i64 of, .bool fx, .int .i64 att, .bool bo, .int .i64 byy, .slice na ns.length nc, .int .i64 sd, .slice ea es.length ec, .int .i64 kc, .slice a n c] 58) := by rw [hX]; exact heap_alloc_new _ _
  have HXN := hid hXN
  have HXB := hid hXB
  have HXX := hid hX
  obtain ⟨d0, d1, d2, d3, d4, d5, d6, d7, d8, d9, d10, d11, d12, d13, d14, d15⟩ := sixteen hXN
  clear hX hXB hXN
  go_enter Tryz.func74, Tryz.ntmps74
  go_upto_region 1 with fail
  rw [← HXX.out]
  clear HXX
  go_wp2
  go_ret2
  exact ⟨⟨_, rfl⟩, HXB.out⟩
set_option maxHeartbeats 8000000 in
set_option maxRecDepth 100000 in
theorem lc_no (q : R) (a : Option Addr) (n c : Nat) (w : World) (h1 : q.kd ≠ 1) (h6 : q.kd ≠ 6) : Calls Tryz.prog 74 #[agX ⟨q, a, n, c⟩] w fun e w' => (∃ z, e = .returned (.tuple #[.int .i64 z, .bool false])) ∧ Below w.heap.size w w' := by
  obtain ⟨kd, nu, st, tx, op, ms, ma, mc, of, fx, att, bo, byy, ns, na, nc, sd, es, ea, ec, kc⟩ := q
  simp only at h1 h6
  have e1 := rule_off h1
  have e6 := rule_off h6
  clear h1 h6
  obtain ⟨X, hX⟩ : ∃ X, X = w.alloc (.cells #[.int .i64 kd, .int .i64 nu, .int .i64 st, .string tx, .int .i64 op, .slice ma ms.length mc, .int .i64 of, .bool fx, .int .i64 att, .bool bo, .int .i64 byy, .slice na ns.length nc, .int .i64 sd, .slice ea es.length ec, .int .i64 kc, .slice a n c] 58) := ⟨_, rfl⟩
  have hXB : Below w.heap.size w X := by rw [hX]; exact (Below.refl _ _).alloc (Nat.le_refl _) _
  have hXN : X.heap[w.heap.size]? = some (.cells #[.int .i64 kd, .int .i64 nu, .int .i64 st, .string tx, .int .i64 op, .slice ma ms.length mc, .int .i64 of, .bool fx, .int .i64 att, .bool bo, .int .i64 byy, .slice na ns.length nc, .int .i64 sd, .slice ea es.length ec, .int .i64 kc, .slice a n c] 58) := by rw [hX]; exact heap_alloc_new _ _
  have HXN := hid hXN
  have HXB := hid hXB
  have HXX := hid hX
  obtain ⟨d0, d1, d2, d3, d4, d5, d6, d7, d8, d9, d10, d11, d12, d13, d14, d15⟩ := sixteen hXN
  clear hX hXB hXN
  go_enter Tryz.func74, Tryz.ntmps74
  go_upto_region 1 with fail
  rw [← HXX.out]
  clear HXX
  go_wp2
  go_ret2
  exact ⟨⟨_, rfl⟩, HXB.out⟩
set_option maxHeartbeats 8000000 in
set_option maxRecDepth 100000 in
theorem lc_neg (q : R) (b o : Nat) (c : Nat) (y : E) (w : World) (h : q.kd = 6) (hb : b < w.heap.size) (hy : KC w b o y) : Calls Tryz.prog 74 #[agX ⟨q, some ⟨b, o, none⟩, 1, c⟩] w fun e w' => (∃ z, e = .returned (.tuple #[.int .i64 z, .bool (decide (y.q.kd = 1 ∧ 0 < y.q.nu))])) ∧ Below w.heap.size w w' := by
  obtain ⟨kd, nu, st, tx, op, ms, ma, mc, of, fx, att, bo, byy, ns, na, nc, sd, es, ea, ec, kc⟩ := q
  simp only at h
  subst h
  obtain ⟨X, hX⟩ : ∃ X, X = w.alloc (.cells #[.int .i64 6, .int .i64 nu, .int .i64 st, .string tx, .int .i64 op, .slice ma ms.length mc, .int .i64 of, .bool fx, .int .i64 att, .bool bo, .int .i64 byy, .slice na ns.length nc, .int .i64 sd, .slice ea es.length ec, .int .i64 kc, .slice (some ⟨b, o, none⟩) 1 c] 58) := ⟨_, rfl⟩
  have hXB : Below w.heap.size w X := by rw [hX]; exact (Below.refl _ _).alloc (Nat.le_refl _) _
  have hXN : X.heap[w.heap.size]? = some (.cells #[.int .i64 6, .int .i64 nu, .int .i64 st, .string tx, .int .i64 op, .slice ma ms.length mc, .int .i64 of, .bool fx, .int .i64 att, .bool bo, .int .i64 byy, .slice na ns.length nc, .int .i64 sd, .slice ea es.length ec, .int .i64 kc, .slice (some ⟨b, o, none⟩) 1 c] 58) := by rw [hX]; exact heap_alloc_new _ _
  have HXN := hid hXN
  have HXB := hid hXB
  have HXX := hid hX
  obtain ⟨d0, d1, d2, d3, d4, d5, d6, d7, d8, d9, d10, d11, d12, d13, d14, d15⟩ := sixteen hXN
  clear hX hXB hXN
  obtain ⟨c0, c1, _⟩ := (hy.below HXB.out hb).all
  generalize y.q.kd = ykd at *
  generalize y.q.nu = ynu at *
  clear hy
  by_cases h1 : ykd = 1
  · subst h1
    by_cases h2 : 0 < ynu
    · rw [decide_eq_true (p := (1 : Int) = 1 ∧ 0 < ynu) ⟨rfl, h2⟩]
      go_enter Tryz.func74, Tryz.ntmps74
      go_upto_region 1 with fail
      rw [← HXX.out]
      clear HXX
      go_wp2
      go_ret2
      exact ⟨⟨_, rfl⟩, HXB.out⟩
    · rw [decide_eq_false (p := (1 : Int) = 1 ∧ 0 < ynu) (fun h => h2 h.2)]
      go_enter Tryz.func74, Tryz.ntmps74
      go_upto_region 1 with fail
      rw [← HXX.out]
      clear HXX
      go_wp2
      go_ret2
      exact ⟨⟨_, rfl⟩, HXB.out⟩
  · rw [decide_eq_false (p := ykd = 1 ∧ 0 < ynu) (fun h => h1 h.1)]
    have e1 := rule_off h1
    clear h1
    go_enter Tryz.func74, Tryz.ntmps74
    go_upto_region 1 with fail
    rw [← HXX.out]
    clear HXX
    go_wp2
    go_ret2
    exact ⟨⟨_, rfl⟩, HXB.out⟩
theorem f74 (t : Tr) (x : E) (w0 : World) (S : Nat → Prop) (w : World) (d : Nat) (hg : Gt NM d t) (hv : Ev w0 S w t x) :
    Calls Tryz.prog 74 #[agX x] w fun e w' => (∃ z, e = .returned (.tuple #[.int .i64 z, .bool (cnst t)])) ∧ Below w.heap.size w w' := by
  obtain ⟨r, ks⟩ := t
  obtain ⟨q, a, n, c⟩ := x
  simp only [Ev] at hv
  obtain ⟨rfl, _, xs, rfl, hh, hl⟩ := hv
  by_cases h1 : q.kd = 1
  · rw [show cnst (.nd (pl q) ks) = true from by unfold cnst; simp [pl, h1]]
    exact lc_num q a _ c w h1
  by_cases h6 : q.kd = 6
  · obtain ⟨k, rfl⟩ := shape_one hg (.inr h6)
    obtain ⟨y, rfl, hy⟩ := oneE hl
    obtain ⟨b, o, rfl, hb, hc⟩ := kidE hh 0 y rfl
    obtain ⟨kr, kk⟩ := k
    simp only [Ev] at hy
    obtain ⟨rfl, _⟩ := hy
    rw [cnst_neg2 h6]
    exact lc_neg q b o c y w h6 hb (by simpa using hc)
  · rw [show cnst (.nd (pl q) ks) = false from by unfold cnst; simp [pl, h1, h6]]
    exact lc_no q a _ c w h1 h6
/-- What is said of a call of l17BySeries. -/
def MsOk (n : Nat) : Prop := ∀ (t : Tr) (x : E) (w0 : World) (S : Nat → Prop) (w : World) (d : Nat), n + d = 13 → Gt NM d t → Ev w0 S w t x → Below w0.heap.size w0 w → Calls Tryz.prog 87 #[agX x] w fun e w' => e = .returned (.bool (byT clM t)) ∧ Below w.heap.size w w'
set_option maxHeartbeats 8000000 in
set_option maxRecDepth 100000 in
theorem lb_sel (q : R) (a : Option Addr) (n c : Nat) (w : World) (h : q.kd = 3) : Calls Tryz.prog 87 #[agX ⟨q, a, n, c⟩] w fun e w' => e = .returned (.bool (!q.tx.toList.isEmpty)) ∧ Below w.heap.size w w' := by
  have HC := hid (fun y => f115 q a n c y)
  obtain ⟨kd, nu, st, tx, op, ms, ma, mc, of, fx, att, bo, byy, ns, na, nc, sd, es, ea, ec, kc⟩ := q
  simp only at h
  subst h
  simp only [decide_true, Bool.true_and] at HC
  generalize hres : (!tx.toList.isEmpty) = res at HC ⊢
  clear hres
  obtain ⟨X, hX⟩ : ∃ X, X = w.alloc (.cells #[.int .i64 3, .int .i64 nu, .int .i64 st, .string tx, .int .i64 op, .slice ma ms.length mc, .int .i64 of, .bool fx, .int .i64 att, .bool bo, .int .i64 byy, .slice na ns.length nc, .int .i64 sd, .slice ea es.length ec, .int .i64 kc, .slice a n c] 58) := ⟨_, rfl⟩
  have hXB : Below w.heap.size w X := by rw [hX]; exact (Below.refl _ _).alloc (Nat.le_refl _) _
  have hXN : X.heap[w.heap.size]? = some (.cells #[.int .i64 3, .int .i64 nu, .int .i64 st, .string tx, .int .i64 op, .slice ma ms.length mc, .int .i64 of, .bool fx, .int .i64 att, .bool bo, .int .i64 byy, .slice na ns.length nc, .int .i64 sd, .slice ea es.length ec, .int .i64 kc, .slice a n c] 58) := by rw [hX]; exact heap_alloc_new _ _
  have HXN := hid hXN
  have HXB := hid hXB
  have HXX := hid hX
  obtain ⟨d0, d1, d2, d3, d4, d5, d6, d7, d8, d9, d10, d11, d12, d13, d14, d15⟩ := sixteen hXN
  clear hX hXB hXN
  go_enter Tryz.func87, Tryz.ntmps87
  go_upto_region 1 with fail
  rw [← HXX.out]
  clear HXX
  go_wp2_with (go_at_call 115; refine (HC.out _).mono ?_; rintro e w1 ⟨rfl, hb1⟩; have HB1 := hid (HXB.out.trans (hb1.mono HXB.out.size)); clear hb1)
  go_ret
  exact ⟨rfl, HB1.out⟩
set_option maxHeartbeats 8000000 in
set_option maxRecDepth 100000 in
theorem lb_no (q : R) (a : Option Addr) (n c : Nat) (w : World) (h3 : q.kd ≠ 3) (h6 : q.kd ≠ 6) (h7 : q.kd ≠ 7) (h9 : q.kd ≠ 9) : Calls Tryz.prog 87 #[agX ⟨q, a, n, c⟩] w fun e w' => e = .returned (.bool false) ∧ Below w.heap.size w w' := by
  obtain ⟨kd, nu, st, tx, op, ms, ma, mc, of, fx, att, bo, byy, ns, na, nc, sd, es, ea, ec, kc⟩ := q
  simp only at h3 h6 h7 h9
  have e3 := rule_off h3
  have e6 := rule_off h6
  have e7 := rule_off h7
  have e9 := rule_off h9
  clear h3 h6 h7 h9
  obtain ⟨X, hX⟩ : ∃ X, X = w.alloc (.cells #[.int .i64 kd, .int .i64 nu, .int .i64 st, .string tx, .int .i64 op, .slice ma ms.length mc, .int .i64 of, .bool fx, .int .i64 att, .bool bo, .int .i64 byy, .slice na ns.length nc, .int .i64 sd, .slice ea es.length ec, .int .i64 kc, .slice a n c] 58) := ⟨_, rfl⟩
  have hXB : Below w.heap.size w X := by rw [hX]; exact (Below.refl _ _).alloc (Nat.le_refl _) _
  have hXN : X.heap[w.heap.size]? = some (.cells #[.int .i64 kd, .int .i64 nu, .int .i64 st, .string tx, .int .i64 op, .slice ma ms.length mc, .int .i64 of, .bool fx, .int .i64 att, .bool bo, .int .i64 byy, .slice na ns.length nc, .int .i64 sd, .slice ea es.length ec, .int .i64 kc, .slice a n c] 58) := by rw [hX]; exact heap_alloc_new _ _
  have HXN := hid hXN
  have HXB := hid hXB
  have HXX := hid hX
  obtain ⟨d0, d1, d2, d3, d4, d5, d6, d7, d8, d9, d10, d11, d12, d13, d14, d15⟩ := sixteen hXN
  clear hX hXB hXN
  go_enter Tryz.func87, Tryz.ntmps87
  go_upto_region 1 with fail
  rw [← HXX.out]
  clear HXX
  go_wp2
  go_ret
  exact ⟨rfl, HXB.out⟩
set_option maxHeartbeats 8000000 in
set_option maxRecDepth 100000 in
theorem lb_neg (q : R) (b o c : Nat) (y : E) (r : Bool) (w : World) (h : q.kd = 6) (hb : b < w.heap.size) (hy : KC w b o y) (hc : ∀ y', Below w.heap.size w y' → Calls Tryz.prog 87 #[agX y] y' fun e w' => e = .returned (.bool r) ∧ Below y'.heap.size y' w') : Calls Tryz.prog 87 #[agX ⟨q, some ⟨b, o, none⟩, 1, c⟩] w fun e w' => e = .returned (.bool r) ∧ Below w.heap.size w w' := by
  have HC := hid hc
  obtain ⟨kd, nu, st, tx, op, ms, ma, mc, of, fx, att, bo, byy, ns, na, nc, sd, es, ea, ec, kc⟩ := q
  simp only at h
  subst h
  obtain ⟨X, hX⟩ : ∃ X, X = w.alloc (.cells #[.int .i64 6, .int .i64 nu, .int .i64 st, .string tx, .int .i64 op, .slice ma ms.length mc, .int .i64 of, .bool fx, .int .i64 att, .bool bo, .int .i64 byy, .slice na ns.length nc, .int .i64 sd, .slice ea es.length ec, .int .i64 kc, .slice (some ⟨b, o, none⟩) 1 c] 58) := ⟨_, rfl⟩
  have hXB : Below w.heap.size w X := by rw [hX]; exact (Below.refl _ _).alloc (Nat.le_refl _) _
  have hXN : X.heap[w.heap.size]? = some (.cells #[.int .i64 6, .int .i64 nu, .int .i64 st, .string tx, .int .i64 op, .slice ma ms.length mc, .int .i64 of, .bool fx, .int .i64 att, .bool bo, .int .i64 byy, .slice na ns.length nc, .int .i64 sd, .slice ea es.length ec, .int .i64 kc, .slice (some ⟨b, o, none⟩) 1 c] 58) := by rw [hX]; exact heap_alloc_new _ _
  have HXN := hid hXN
  have HXB := hid hXB
  have HXX := hid hX
  obtain ⟨d0, d1, d2, d3, d4, d5, d6, d7, d8, d9, d10, d11, d12, d13, d14, d15⟩ := sixteen hXN
  clear hX hXB hXN
  obtain ⟨c0, c1, c2, c3, c4, c5, c6, c7, c8, c9, c10, c11, c12, c13, c14, c15⟩ := (hy.below HXB.out hb).all
  clear hy hc
  go_enter Tryz.func87, Tryz.ntmps87
  go_upto_region 1 with fail
  rw [← HXX.out]
  clear HXX
  go_wp2_with (go_at_call 87; refine (HC.out _ HXB.out).mono ?_; rintro e w1 ⟨rfl, hb1⟩; have HB1 := hid (HXB.out.trans (hb1.mono HXB.out.size)); clear hb1)
  go_ret
  exact ⟨rfl, HB1.out⟩
end Go.Proofs.YtbdlahhejfamhaaGreatDoor.Qry
/- The model: calls that go by series. -/
namespace Go.Proofs.YtbdlahhejfamhaaGreatDoor.Qry
open Go.RowKit

set_option maxHeartbeats 8000000 in
set_option maxRecDepth 100000 in
theorem lb_call_no (q : R) (a : Option Addr) (n c : Nat) (w : World) (h : q.kd = 9) (hn : n ≠ 1) : Calls Tryz.prog 87 #[agX ⟨q, a, n, c⟩] w fun e w' => e = .returned (.bool false) ∧ Below w.heap.size w w' := by
  obtain ⟨kd, nu, st, tx, op, ms, ma, mc, of, fx, att, bo, byy, ns, na, nc, sd, es, ea, ec, kc⟩ := q
  simp only at h
  subst h
  have e1 : ((n : Int) != 1) = true := by rw [bne_iff_ne]; omega
  have e2 : ((n : Int) == 1) = false := by rw [beq_eq_false_iff_ne]; omega
  clear hn
  obtain ⟨X, hX⟩ : ∃ X, X = w.alloc (.cells #[.int .i64 9, .int .i64 nu, .int .i64 st, .string tx, .int .i64 op, .slice ma ms.length mc, .int .i64 of, .bool fx, .int .i64 att, .bool bo, .int .i64 byy, .slice na ns.length nc, .int .i64 sd, .slice ea es.length ec, .int .i64 kc, .slice a n c] 58) := ⟨_, rfl⟩
  have hXB : Below w.heap.size w X := by rw [hX]; exact (Below.refl _ _).alloc (Nat.le_refl _) _
  have hXN : X.heap[w.heap.size]? = some (.cells #[.int .i64 9, .int .i64 nu, .int .i64 st, .string tx, .int .i64 op, .slice ma ms.length mc, .int .i64 of, .bool fx, .int .i64 att, .bool bo, .int .i64 byy, .slice na ns.length nc, .int .i64 sd, .slice ea es.length ec, .int .i64 kc, .slice a n c] 58) := by rw [hX]; exact heap_alloc_new _ _
  have HXN := hid hXN
  have HXB := hid hXB
  have HXX := hid hX
  obtain ⟨d0, d1, d2, d3, d4, d5, d6, d7, d8, d9, d10, d11, d12, d13, d14, d15⟩ := sixteen hXN
  clear hX hXB hXN
  go_enter Tryz.func87, Tryz.ntmps87
  go_upto_region 1 with fail
  rw [← HXX.out]
  clear HXX
  go_wp2
  go_ret
  exact ⟨rfl, HXB.out⟩
set_option maxHeartbeats 8000000 in
set_option maxRecDepth 100000 in
theorem lb_abs (q : R) (b o c : Nat) (y : E) (r : Bool) (w : World) (h : q.kd = 9) (ha : q.tx = nAbs) (hb : b < w.heap.size) (hy : KC w b o y) (hc : ∀ y', Below w.heap.size w y' → Calls Tryz.prog 87 #[agX y] y' fun e w' => e = .returned (.bool r) ∧ Below y'.heap.size y' w') : Calls Tryz.prog 87 #[agX ⟨q, some ⟨b, o, none⟩, 1, c⟩] w fun e w' => e = .returned (.bool r) ∧ Below w.heap.size w w' := by
  have e1 : (q.tx.toList == [97, 98, 115]) = true := lit_eq ha
  clear ha
  have HC := hid hc
  obtain ⟨kd, nu, st, tx, op, ms, ma, mc, of, fx, att, bo, byy, ns, na, nc, sd, es, ea, ec, kc⟩ := q
  simp only at h
  subst h
  obtain ⟨X, hX⟩ : ∃ X, X = w.alloc (.cells #[.int .i64 9, .int .i64 nu, .int .i64 st, .string tx, .int .i64 op, .slice ma ms.length mc, .int .i64 of, .bool fx, .int .i64 att, .bool bo, .int .i64 byy, .slice na ns.length nc, .int .i64 sd, .slice ea es.length ec, .int .i64 kc, .slice (some ⟨b, o, none⟩) 1 c] 58) := ⟨_, rfl⟩
  have hXB : Below w.heap.size w X := by rw [hX]; exact (Below.refl _ _).alloc (Nat.le_refl _) _
  have hXN : X.heap[w.heap.size]? = some (.cells #[.int .i64 9, .int .i64 nu, .int .i64 st, .string tx, .int .i64 op, .slice ma ms.length mc, .int .i64 of, .bool fx, .int .i64 att, .bool bo, .int .i64 byy, .slice na ns.length nc, .int .i64 sd, .slice ea es.length ec, .int .i64 kc, .slice (some ⟨b, o, none⟩) 1 c] 58) := by rw [hX]; exact heap_alloc_new _ _
  have HXN := hid hXN
  have HXB := hid hXB
  have HXX := hid hX
  obtain ⟨d0, d1, d2, d3, d4, d5, d6, d7, d8, d9, d10, d11, d12, d13, d14, d15⟩ := sixteen hXN
  clear hX hXB hXN
  obtain ⟨c0, c1, c2, c3, c4, c5, c6, c7, c8, c9, c10, c11, c12, c13, c14, c15⟩ := (hy.below HXB.out hb).all
  clear hy hc
  obtain ⟨Y, hY⟩ : ∃ Y, Y = X.alloc (EO y.q y.a y.n y.c) := ⟨_, rfl⟩
  have hYB : Below X.heap.size X Y := by rw [hY]; exact (Below.refl _ _).alloc (Nat.le_refl _) _
  have hYN := congrArg (fun (x : World) => x.heap[X.heap.size]?) hY
  rw [heap_alloc_new] at hYN
  have HYB := hid (HXB.out.trans (hYB.mono HXB.out.size))
  have HYN := hid hYN
  have HYY := hid hY
  obtain ⟨g0, g1, g2, g3, g4, g5, g6, g7, g8, g9, g10, g11, g12, g13, g14, g15⟩ := sixteen hYN
  obtain ⟨k0, k1, k2, k3, k4, k5, k6, k7, k8, k9, k10, k11, k12, k13, k14, k15⟩ := sixteen (kept HXN.out hYB)
  clear hY hYB hYN
  simp only at e1
  go_enter Tryz.func87, Tryz.ntmps87
  go_upto_region 1 with fail
  rw [← HXX.out]
  clear HXX
  go_upto_region 16 with fail
  rw [← HYY.out]
  clear HYY
  go_wp2_with (go_at_call 87; refine (HC.out _ HYB.out).mono ?_; rintro e w1 ⟨rfl, hb1⟩; have HB1 := hid (HYB.out.trans (hb1.mono HYB.out.size)); clear hb1)
  go_ret
  exact ⟨rfl, HB1.out⟩
set_option maxHeartbeats 8000000 in
set_option maxRecDepth 100000 in
theorem lb_stamp (q : R) (b o c : Nat) (y : E) (r : Bool) (w : World) (h : q.kd = 9) (ha : q.tx ≠ nAbs) (hs : q.tx = nStamp) (hb : b < w.heap.size) (hy : KC w b o y) (hc : ∀ y', Below w.heap.size w y' → Calls Tryz.prog 115 #[agX y] y' fun e w' => e = .returned (.bool r) ∧ Below y'.heap.size y' w') : Calls Tryz.prog 87 #[agX ⟨q, some ⟨b, o, none⟩, 1, c⟩] w fun e w' => e = .returned (.bool (decide (y.q.kd = 3) && r)) ∧ Below w.heap.size w w' := by
  have e1 : (q.tx.toList == [97, 98, 115]) = false := lit_ne ha
  have e2 : (q.tx.toList == [116, 105, 109, 101, 115, 116, 97, 109, 112]) = true := lit_eq hs
  clear ha hs
  have HC := hid hc
  obtain ⟨kd, nu, st, tx, op, ms, ma, mc, of, fx, att, bo, byy, ns, na, nc, sd, es, ea, ec, kc⟩ := q
  simp only at h
  subst h
  obtain ⟨X, hX⟩ : ∃ X, X = w.alloc (.cells #[.int .i64 9, .int .i64 nu, .int .i64 st, .string tx, .int .i64 op, .slice ma ms.length mc, .int .i64 of, .bool fx, .int .i64 att, .bool bo, .int .i64 byy, .slice na ns.length nc, .int .i64 sd, .slice ea es.length ec, .int .i64 kc, .slice (some ⟨b, o, none⟩) 1 c] 58) := ⟨_, rfl⟩
  have hXB : Below w.heap.size w X := by rw [hX]; exact (Below.refl _ _).alloc (Nat.le_refl _) _
  have hXN : X.heap[w.heap.size]? = some (.cells #[.int .i64 9, .int .i64 nu, .int .i64 st, .string tx, .int .i64 op, .slice ma ms.length mc, .int .i64 of, .bool fx, .int .i64 att, .bool bo, .int .i64 byy, .slice na ns.length nc, .int .i64 sd, .slice ea es.length ec, .int .i64 kc, .slice (some ⟨b, o, none⟩) 1 c] 58) := by rw [hX]; exact heap_alloc_new _ _
  have HXN := hid hXN
  have HXB := hid hXB
  have HXX := hid hX
  obtain ⟨d0, d1, d2, d3, d4, d5, d6, d7, d8, d9, d10, d11, d12, d13, d14, d15⟩ := sixteen hXN
  clear hX hXB hXN
  obtain ⟨c0, c1, c2, c3, c4, c5, c6, c7, c8, c9, c10, c11, c12, c13, c14, c15⟩ := (hy.below HXB.out hb).all
  clear hy hc
  obtain ⟨Y, hY⟩ : ∃ Y, Y = X.alloc (EO y.q y.a y.n y.c) := ⟨_, rfl⟩
  have hYB : Below X.heap.size X Y := by rw [hY]; exact (Below.refl _ _).alloc (Nat.le_refl _) _
  have hYN := congrArg (fun (x : World) => x.heap[X.heap.size]?) hY
  rw [heap_alloc_new] at hYN
  have HYB := hid (HXB.out.trans (hYB.mono HXB.out.size))
  have HYN := hid hYN
  have HYY := hid hY
  obtain ⟨g0, g1, g2, g3, g4, g5, g6, g7, g8, g9, g10, g11, g12, g13, g14, g15⟩ := sixteen hYN
  obtain ⟨k0, k1, k2, k3, k4, k5, k6, k7, k8, k9, k10, k11, k12, k13, k14, k15⟩ := sixteen (kept HXN.out hYB)
  clear hY hYB hYN
  simp only at e1 e2
  by_cases h3 : y.q.kd = 3
  · have HQ : Hid ((decide (y.q.kd = 3) && r) = r) := by unfold Hid; simp [h3]
    have e3 : (y.q.kd == 3) = true := by simpa using h3
    clear h3
    go_enter Tryz.func87, Tryz.ntmps87
    go_upto_region 1 with fail
    rw [← HXX.out]
    clear HXX
    go_upto_region 16 with fail
    rw [← HYY.out]
    clear HYY
    go_wp2_with (go_at_call 115; refine (HC.out _ HYB.out).mono ?_; rintro e w1 ⟨rfl, hb1⟩; have HB1 := hid (HYB.out.trans (hb1.mono HYB.out.size)); clear hb1)
    go_ret
    exact ⟨ret_bm HQ.out.symm, HB1.out⟩
  · have HQ : Hid ((decide (y.q.kd = 3) && r) = false) := by unfold Hid; simp [h3]
    have e3 := rule_off h3
    clear h3
    go_enter Tryz.func87, Tryz.ntmps87
    go_upto_region 1 with fail
    rw [← HXX.out]
    clear HXX
    go_upto_region 16 with fail
    rw [← HYY.out]
    clear HYY
    go_wp2
    go_ret
    exact ⟨ret_bm HQ.out.symm, HYB.out⟩
set_option maxHeartbeats 8000000 in
set_option maxRecDepth 100000 in
theorem lb_else_no (q : R) (b o c : Nat) (y : E) (w : World) (h : q.kd = 9) (ha : q.tx ≠ nAbs) (hs : q.tx ≠ nStamp) (h4 : y.q.kd ≠ 4) (hb : b < w.heap.size) (hy : KC w b o y) (hc : True) : Calls Tryz.prog 87 #[agX ⟨q, some ⟨b, o, none⟩, 1, c⟩] w fun e w' => e = .returned (.bool false) ∧ Below w.heap.size w w' := by
  have e1 : (q.tx.toList == [97, 98, 115]) = false := lit_ne ha
  have e2 : (q.tx.toList == [116, 105, 109, 101, 115, 116, 97, 109, 112]) = false := lit_ne hs
  have e4 := rule_off h4
  clear ha hs h4
  have HC := hid hc
  obtain ⟨kd, nu, st, tx, op, ms, ma, mc, of, fx, att, bo, byy, ns, na, nc, sd, es, ea, ec, kc⟩ := q
  simp only at h
  subst h
  obtain ⟨X, hX⟩ : ∃ X, X = w.alloc (.cells #[.int .i64 9, .int .i64 nu, .int .i64 st, .string tx, .int .i64 op, .slice ma ms.length mc, .int .i64 of, .bool fx, .int .i64 att, .bool bo, .int .i64 byy, .slice na ns.length nc, .int .i64 sd, .slice ea es.length ec, .int .i64 kc, .slice (some ⟨b, o, none⟩) 1 c] 58) := ⟨_, rfl⟩
  have hXB : Below w.heap.size w X := by rw [hX]; exact (Below.refl _ _).alloc (Nat.le_refl _) _
  have hXN : X.heap[w.heap.size]? = some (.cells #[.int .i64 9, .int .i64 nu, .int .i64 st, .string tx, .int .i64 op, .slice ma ms.length mc, .int .i64 of, .bool fx, .int .i64 att, .bool bo, .int .i64 byy, .slice na ns.length nc, .int .i64 sd, .slice ea es.length ec, .int .i64 kc, .slice (some ⟨b, o, none⟩) 1 c] 58) := by rw [hX]; exact heap_alloc_new _ _
  have HXN := hid hXN
  have HXB := hid hXB
  have HXX := hid hX
  obtain ⟨d0, d1, d2, d3, d4, d5, d6, d7, d8, d9, d10, d11, d12, d13, d14, d15⟩ := sixteen hXN
  clear hX hXB hXN
  obtain ⟨c0, c1, c2, c3, c4, c5, c6, c7, c8, c9, c10, c11, c12, c13, c14, c15⟩ := (hy.below HXB.out hb).all
  clear hy hc
  obtain ⟨Y, hY⟩ : ∃ Y, Y = X.alloc (EO y.q y.a y.n y.c) := ⟨_, rfl⟩
  have hYB : Below X.heap.size X Y := by rw [hY]; exact (Below.refl _ _).alloc (Nat.le_refl _) _
  have hYN := congrArg (fun (x : World) => x.heap[X.heap.size]?) hY
  rw [heap_alloc_new] at hYN
  have HYB := hid (HXB.out.trans (hYB.mono HXB.out.size))
  have HYN := hid hYN
  have HYY := hid hY
  obtain ⟨g0, g1, g2, g3, g4, g5, g6, g7, g8, g9, g10, g11, g12, g13, g14, g15⟩ := sixteen hYN
  obtain ⟨k0, k1, k2, k3, k4, k5, k6, k7, k8, k9, k10, k11, k12, k13, k14, k15⟩ := sixteen (kept HXN.out hYB)
  clear hY hYB hYN
  simp only at e1 e2
  go_enter Tryz.func87, Tryz.ntmps87
  go_upto_region 1 with fail
  rw [← HXX.out]
  clear HXX
  go_upto_region 16 with fail
  rw [← HYY.out]
  clear HYY
  go_wp2
  go_ret
  exact ⟨rfl, HYB.out⟩
set_option maxHeartbeats 8000000 in
set_option maxRecDepth 100000 in
theorem lb_else (q p : R) (b o c b2 o2 cy : Nat) (z : E) (r : Bool) (w : World) (h : q.kd = 9) (ha : q.tx ≠ nAbs) (hs : q.tx ≠ nStamp) (h4 : p.kd = 4) (hb : b < w.heap.size) (hb2 : b2 < w.heap.size) (hy : KC w b o ⟨p, some ⟨b2, o2, none⟩, 1, cy⟩) (hz : KC w b2 o2 z) (hc : ∀ y', Below w.heap.size w y' → Calls Tryz.prog 115 #[agX z] y' fun e w' => e = .returned (.bool r) ∧ Below y'.heap.size y' w') : Calls Tryz.prog 87 #[agX ⟨q, some ⟨b, o, none⟩, 1, c⟩] w fun e w' => e = .returned (.bool r) ∧ Below w.heap.size w w' := by
  have e1 : (q.tx.toList == [97, 98, 115]) = false := lit_ne ha
  have e2 : (q.tx.toList == [116, 105, 109, 101, 115, 116, 97, 109, 112]) = false := lit_ne hs
  clear ha hs
  have HC := hid hc
  obtain ⟨kd, nu, st, tx, op, ms, ma, mc, of, fx, att, bo, byy, ns, na, nc, sd, es, ea, ec, kc⟩ := q
  simp only at h
  subst h
  obtain ⟨X, hX⟩ : ∃ X, X = w.alloc (.cells #[.int .i64 9, .int .i64 nu, .int .i64 st, .string tx, .int .i64 op, .slice ma ms.length mc, .int .i64 of, .bool fx, .int .i64 att, .bool bo, .int .i64 byy, .slice na ns.length nc, .int .i64 sd, .slice ea es.length ec, .int .i64 kc, .slice (some ⟨b, o, none⟩) 1 c] 58) := ⟨_, rfl⟩
  have hXB : Below w.heap.size w X := by rw [hX]; exact (Below.refl _ _).alloc (Nat.le_refl _) _
  have hXN : X.heap[w.heap.size]? = some (.cells #[.int .i64 9, .int .i64 nu, .int .i64 st, .string tx, .int .i64 op, .slice ma ms.length mc, .int .i64 of, .bool fx, .int .i64 att, .bool bo, .int .i64 byy, .slice na ns.length nc, .int .i64 sd, .slice ea es.length ec, .int .i64 kc, .slice (some ⟨b, o, none⟩) 1 c] 58) := by rw [hX]; exact heap_alloc_new _ _
  have HXN := hid hXN
  have HXB := hid hXB
  have HXX := hid hX
  obtain ⟨d0, d1, d2, d3, d4, d5, d6, d7, d8, d9, d10, d11, d12, d13, d14, d15⟩ := sixteen hXN
  clear hX hXB hXN
  obtain ⟨c0, c1, c2, c3, c4, c5, c6, c7, c8, c9, c10, c11, c12, c13, c14, c15⟩ := (hy.below HXB.out hb).all
  clear hy hc
  obtain ⟨Y, hY⟩ : ∃ Y, Y = X.alloc (EO p (some ⟨b2, o2, none⟩) 1 cy) := ⟨_, rfl⟩
  have hYB : Below X.heap.size X Y := by rw [hY]; exact (Below.refl _ _).alloc (Nat.le_refl _) _
  have hYN := congrArg (fun (x : World) => x.heap[X.heap.size]?) hY
  rw [heap_alloc_new] at hYN
  have HYB := hid (HXB.out.trans (hYB.mono HXB.out.size))
  have HYN := hid hYN
  have HYY := hid hY
  obtain ⟨g0, g1, g2, g3, g4, g5, g6, g7, g8, g9, g10, g11, g12, g13, g14, g15⟩ := sixteen hYN
  obtain ⟨k0, k1, k2, k3, k4, k5, k6, k7, k8, k9, k10, k11, k12, k13, k14, k15⟩ := sixteen (kept HXN.out hYB)
  clear hY hYB hYN
  simp only at e1 e2
  rw [h4] at g0
  clear h4
  obtain ⟨z0, z1, z2, z3, z4, z5, z6, z7, z8, z9, z10, z11, z12, z13, z14, z15⟩ := (hz.below HYB.out hb2).all
  clear hz
  go_enter Tryz.func87, Tryz.ntmps87
  go_upto_region 1 with fail
  rw [← HXX.out]
  clear HXX
  go_upto_region 16 with fail
  rw [← HYY.out]
  clear HYY
  go_wp2_with (go_at_call 115; refine (HC.out _ HYB.out).mono ?_; rintro e w1 ⟨rfl, hb1⟩; have HB1 := hid (HYB.out.trans (hb1.mono HYB.out.size)); clear hb1)
  go_ret
  exact ⟨rfl, HB1.out⟩
end Go.Proofs.YtbdlahhejfamhaaGreatDoor.Qry
