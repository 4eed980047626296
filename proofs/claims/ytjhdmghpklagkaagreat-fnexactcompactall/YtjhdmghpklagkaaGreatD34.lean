import Derived.Test.YtjhdmghpklagkaaGreatRows
import Derived.WalkKit
import Derived.ProofKit
import Derived.Handy
import Derived.BigQuiet
import Derived.Deep.QuietTactic
import Derived.OpenShut
import Derived.Deep.Onto
import Derived.ChangeOld
import Derived.Below
import Derived.WalkSmall
import Derived.Deep.RegionHeld3
import Derived.Deep.CutRange
import Derived.Test.YtjhdmghpklagkaaGreatD11
namespace Go.Proofs.YtjhdmghpklagkaaGreat.Ino
open Go.ChangeShapes Go.WideShapes Go.ChangeAt Go.RowKit

theorem info3 : (Tryz.prog.info? 3).map (fun i => (i.zero, i.size, i.bytes)) = some (some (.int .i64 0), 1, 8) := by kernel_rfl

def Has (w : World) (a : Option Addr) (zs : List Int) : Prop :=
  zs = [] ∨ ∃ b off, a = some ⟨b, off, none⟩ ∧ b < w.heap.size ∧ ∀ i, i < zs.length → w.cell? ⟨b, off + i, none⟩ = some (.int .i64 (zs.getD i 0))

theorem Has.below {w w' : World} {a : Option Addr} {zs : List Int} (h : Has w a zs) (hb : Below w.heap.size w w') : Has w' a zs := by
  rcases h with h | ⟨b, off, h1, h2, h3⟩
  · exact .inl h
  · exact .inr ⟨b, off, h1, Nat.lt_of_lt_of_le h2 hb.size, fun i hi => (hb.cell (by exact h2)).trans (h3 i hi)⟩

theorem Has.own {w : World} {base g n c : Nat} {zs : List Int} (h : w.ownsRow base 3 1 (.slice (some ⟨g, 0, none⟩) n c) n (zs.map (Value.int .i64))) : Has w (some ⟨g, 0, none⟩) zs := by
  have hl := h.lt g rfl
  have hlen : zs.length = n := by have := h.1; simpa using this
  refine .inr ⟨g, 0, rfl, hl.2, fun i hi => ?_⟩
  have := h.cellAt i (by omega)
  rw [Nat.zero_add, this, List.getElem?_map, List.getElem?_eq_getElem hi]
  simp [hi]

theorem set_step (zs : List Int) (n k : Nat) (hn : zs.length = n) (hk : k < n) :
    ((zs.take k).map (Value.int .i64) ++ List.replicate (n - k) (Value.int .i64 0)).set k (Value.int .i64 (zs.getD k 0)) = (zs.take (k + 1)).map (Value.int .i64) ++ List.replicate (n - (k + 1)) (Value.int .i64 0) := by
  have hkz : k < zs.length := by omega
  have e1 : n - k = (n - (k + 1)) + 1 := by omega
  rw [List.set_append_right _ _ (by simp; omega), List.take_succ_eq_append_getElem hkz, e1, List.replicate_succ, List.map_append, List.append_assoc]
  simp [hkz, List.length_take, Nat.min_eq_left (Nat.le_of_lt hkz)]

theorem set_old (zs : List Int) (n k : Nat) (hn : zs.length = n) (hk : k < n) :
    ((zs.take k).map (Value.int .i64) ++ List.replicate (n - k) (Value.int .i64 0))[k]? = some (Value.int .i64 0) := by
  have hkz : k < zs.length := by omega
  rw [List.getElem?_append_right (by simp; omega), List.getElem?_replicate, if_pos (by simp; omega)]

def mark (k : Int) (i : Nat) : Int := k + (i : Int)
def marks (k : Int) (n : Nat) : List Int := (List.range n).map (mark k)
theorem grownBy_trans {a b c : World} {r : Option Nat} (h : a.grownBy b r) (k : b.grownBy c r) : a.grownBy c r :=
  ⟨k.os.trans h.os, k.tape.trans h.tape, k.output.trans h.output, Nat.le_trans h.size k.size, fun i hi hne => (k.block i (Nat.lt_of_lt_of_le hi h.size) hne).trans (h.block i hi hne)⟩

theorem hid {p : Prop} (h : p) : Hid p := h
theorem below_drewN {B : Nat} {a w : World} (h : Below B a w) (q : Nat) : Below B a (w.drewN q) := ⟨h.os, h.tape, h.output, h.size, h.block⟩
def Own (w : World) (base : Nat) (v : Value) (L : List Int) : Prop := w.ownsRow base 3 1 v L.length (L.map (Value.int .i64))
theorem Own.nil (w : World) (base : Nat) : Own w base (.slice none 0 0) [] := World.ownsRow_nil w base 3 1
theorem Own.form {w : World} {base : Nat} {v : Value} {L : List Int} (h : Own w base v L) : (L = [] ∧ v = .slice none 0 0) ∨ ∃ g c, v = .slice (some ⟨g, 0, none⟩) L.length c := by
  rcases h.2 with ⟨h1, h2⟩ | ⟨g, cap, cur, h1, _⟩
  · exact .inl ⟨List.eq_nil_of_length_eq_zero h2, h1⟩
  · exact .inr ⟨g, cap, h1⟩
theorem Own.has {w : World} {base : Nat} {a : Option Addr} {n c : Nat} {L : List Int} (h : Own w base (.slice a n c) L) : n = L.length ∧ Has w a L := by
  rcases h.form with ⟨rfl, h1⟩ | ⟨g, c', h1⟩
  · simp only [Value.slice.injEq] at h1
    exact ⟨h1.2.1, .inl rfl⟩
  · simp only [Value.slice.injEq] at h1
    obtain ⟨rfl, rfl, rfl⟩ := h1
    exact ⟨rfl, Has.own h⟩
theorem Own.below {w w' : World} {base : Nat} {v : Value} {L : List Int} (h : Own w base v L) (hb : Below w.heap.size w w') : Own w' base v L :=
  World.ownsRow.kept (row := none) h ⟨hb.os, hb.tape, hb.output, hb.size, fun i hi _ => hb.block i hi⟩ (by cases hv : v.ownBlock <;> simp)
theorem Own.lt {w : World} {base : Nat} {v : Value} {L : List Int} (h : Own w base v L) : ∀ k, v.ownBlock = some k → base ≤ k ∧ k < w.heap.size := World.ownsRow.lt h
theorem Own.mono {w : World} {base base' : Nat} {v : Value} {L : List Int} (h : Own w base v L) (hb : base' ≤ base) : Own w base' v L := World.ownsRow.mono h hb
end Go.Proofs.YtjhdmghpklagkaaGreat.Ino
namespace Go.Proofs.YtjhdmghpklagkaaGreat.Ino
open Go.RowKit

def cmpI (x y : Int) : Int := if x < y then -1 else if y < x then 1 else 0

end Go.Proofs.YtjhdmghpklagkaaGreat.Ino
namespace Go.Proofs.YtjhdmghpklagkaaGreat.Ino
open Go.RowKit

def ch (K : Bool → Bool → Bool) : List Int → List Int → List Int
  | [], [] => []
  | x :: s, [] => (if K true false then [x] else []) ++ ch K s []
  | [], y :: o => (if K false true then [y] else []) ++ ch K [] o
  | x :: s, y :: o =>
    if x < y then (if K true false then [x] else []) ++ ch K s (y :: o)
    else if y < x then (if K false true then [y] else []) ++ ch K (x :: s) o
    else (if K true true then [x] else []) ++ ch K s o
  termination_by s o => s.length + o.length
def mine (s o : List Int) : Bool := o.isEmpty || (!s.isEmpty && decide (s.headD 0 ≤ o.headD 0))
def others (s o : List Int) : Bool := s.isEmpty || (!o.isEmpty && decide (o.headD 0 ≤ s.headD 0))

theorem ch_step (K : Bool → Bool → Bool) (s o : List Int) (h : 0 < s.length + o.length) :
    (∃ x s' o', mine s o = true ∧ others s o = true ∧ s = x :: s' ∧ o = x :: o' ∧ ch K s o = (if K true true then [x] else []) ++ ch K s' o') ∨
    (∃ x s', mine s o = true ∧ others s o = false ∧ s = x :: s' ∧ ch K s o = (if K true false then [x] else []) ++ ch K s' o) ∨
    (∃ x o', mine s o = false ∧ others s o = true ∧ o = x :: o' ∧ ch K s o = (if K false true then [x] else []) ++ ch K s o') := by
  rcases s with _ | ⟨x, s⟩
  · rcases o with _ | ⟨y, o⟩
    · simp at h
    · exact .inr (.inr ⟨y, o, by simp [mine], by simp [others], rfl, by rw [ch]⟩)
  · rcases o with _ | ⟨y, o⟩
    · exact .inr (.inl ⟨x, s, by simp [mine], by simp [others], rfl, by rw [ch]⟩)
    · rcases Int.lt_trichotomy x y with h1 | h1 | h1
      · exact .inr (.inl ⟨x, s, by simp [mine]; omega, by simp [others]; omega, rfl, by rw [ch, if_pos h1]⟩)
      · subst h1
        exact .inl ⟨x, s, o, by simp [mine], by simp [others], rfl, rfl, by rw [ch, if_neg (by omega), if_neg (by omega)]⟩
      · exact .inr (.inr ⟨y, o, by simp [mine]; omega, by simp [others]; omega, rfl, by rw [ch, if_neg (by omega), if_pos h1]⟩)
theorem ch_nil (K : Bool → Bool → Bool) : ch K [] [] = [] := by rw [ch]

theorem Has.head {w : World} {a : Option Addr} {x : Int} {s : List Int} (h : Has w a (x :: s)) :
    ∃ b off, a = some ⟨b, off, none⟩ ∧ b < w.heap.size ∧ w.cell? ⟨b, off, none⟩ = some (.int .i64 x) ∧ Has w (some ⟨b, off + 1, none⟩) s := by
  rcases h with h | ⟨b, off, h1, h2, h3⟩
  · cases h
  · refine ⟨b, off, h1, h2, by simpa using h3 0 (by simp), .inr ⟨b, off + 1, rfl, h2, fun i hi => ?_⟩⟩
    have := h3 (i + 1) (by simp; omega)
    rw [Nat.add_assoc, Nat.add_comm 1 i, this]
    simp
theorem Has.nil {w : World} {a : Option Addr} : Has w a [] := .inl rfl
theorem own_form {w : World} {base n : Nat} {v : Value} {L : List Int} (h : w.ownsRow base 3 1 v n (L.map (Value.int .i64))) : ∃ a c, v = .slice a n c := by
  rcases h.2 with ⟨h1, h2⟩ | ⟨g, cap, cur, h1, _⟩
  · exact ⟨none, 0, by rw [h1, h2]⟩
  · exact ⟨_, _, h1⟩

def lenV : Value → Nat | .slice _ n _ => n | _ => 0
theorem one_row (w : World) (x : Value) (t : TypeId) : ∀ j u, [x][j]? = some u → (w.alloc (.cells #[x] t)).cell? ((⟨w.heap.size, 0, none⟩ : Addr).add j) = some u := by
  intro j u hj
  have h := heap_alloc_new w (.cells #[x] t)
  match j, hj with
  | 0, hj =>
    simp at hj; subst hj
    have : (⟨w.heap.size, 0, none⟩ : Addr).add 0 = ⟨w.heap.size, 0, none⟩ := by simp [Addr.add]
    rw [this]
    unfold World.cell?
    simp only [h]
    rfl
  | j + 1, hj => simp at hj
def Now (w : World) (a : Option Addr) (c : Nat) (L : List Int) (x : World) : Prop := Own x w.heap.size (.slice a L.length c) L ∧ Below w.heap.size w x
theorem Now.below {w x y : World} {a : Option Addr} {c : Nat} {L : List Int} (h : Now w a c L x) (hb : Below x.heap.size x y) : Now w a c L y :=
  ⟨h.1.below hb, h.2.trans (hb.mono h.2.size)⟩
theorem Now.app {w x y : World} {a a' : Option Addr} {c c' : Nat} {L : List Int} {z : Int} (h : Now w a c L x) (hg : x.grownBy y (Value.slice a L.length c).ownBlock) (ho : y.ownsRow w.heap.size 3 1 (.slice a' (L.length + 1) c') (L.length + 1) ((L.map (Value.int .i64)) ++ [.int .i64 z])) :
    Now w a' c' (L ++ [z]) y := by
  refine ⟨?_, h.2.grown hg h.2.size (fun k hk => (h.1.lt k hk).1)⟩
  unfold Own
  rw [List.length_append, List.map_append]
  exact ho

def kAnd : Bool → Bool → Bool := fun m q => m && q
theorem f182 (m q : Bool) (w : World) : Calls Tryz.prog 182 #[.bool m, .bool q] w fun e w' => e = .returned (.bool (kAnd m q)) ∧ w' = w := by
  cases m <;> cases q
  all_goals
    go_enter Tryz.func182, Tryz.ntmps182
    go_wp2
    go_ret
    exact ⟨rfl, rfl⟩
set_option maxRecDepth 100000 in
set_option maxHeartbeats 4000000 in
theorem choose_and (a a' : Option Addr) (c c' : Nat) (s0 o0 : List Int) (w : World) (hb : s0.length ≤ 1048576) (hb' : o0.length ≤ 1048576) (hc : s0.length ≤ c) (hc' : o0.length ≤ c') (hr : Has w a s0) (hr' : Has w a' o0) :
    Calls Tryz.prog 181 #[.slice a s0.length c, .slice a' o0.length c', .func (.func 182) #[] #[]] w fun e w' => ∃ v, e = .returned v ∧ Own w' w.heap.size v (ch kAnd s0 o0) ∧ Below w.heap.size w w' := by
  obtain ⟨i0, hi, hz0, hz1, hz2⟩ := info_parts info3
  have HK := hid f182
  have HR := hid hr
  have HR' := hid hr'
  have HC := hid hc
  have HC' := hid hc'
  generalize hS : s0.length = n at *
  generalize hO : o0.length = n' at *
  have HS := hid hS
  have HO := hid hO
  clear hr hr' hS hO hc hc'
  go_enter Tryz.func181, Tryz.ntmps181
  go_wp2_with (at_make; refine wpList_make_own _ rfl _ _ 148 rfl w.heap.size 3 i0 (.int .i64 0) 1 Tryz.underlying148 hi hz0 hz1 _ _ _ (n + n') rfl rfl (by omega) ?b2 ?b3 (Nat.le_refl _) ?_)
  case b2 => rw [hz2]; omega
  case b3 => unfold maxLen; omega
  intro w0 hown0 hgrow0
  have H0 : Hid (Now w (some ⟨w.heap.size, 0, none⟩) (n + n') [] w0) := ⟨by simpa [Own] using hown0, (Below.refl _ _).grown hgrow0 (Nat.le_refl _) (fun k h => by cases h)⟩
  clear hown0 hgrow0
  go_wp2
  go_loopw [0, 1, 7] (fun v0 v1 v7 wr => ∃ (s o L : List Int) (m m' d d' c7 : Nat) (b b' a7 : Option Addr), v0 = .slice b m d ∧ v1 = .slice b' m' d' ∧ v7 = .slice a7 L.length c7 ∧ Hid (s.length = m) ∧ Hid (o.length = m') ∧ m ≤ d ∧ m' ≤ d' ∧ L.length + m + m' ≤ n + n' ∧ Hid (Has w b s) ∧ Hid (Has w b' o) ∧ Hid (L ++ ch kAnd s o = ch kAnd s0 o0) ∧ Hid (Now w a7 c7 L wr))
    (fun v0 v1 _ _ => lenV v0 + lenV v1)
  case atStart => exact ⟨s0, o0, [], n, n', c, c', _, a, a', _, rfl, rfl, rfl, HS, HO, HC.out, HC'.out, by simp, HR, HR', by unfold Hid; simp, H0⟩
  case round =>
    obtain ⟨s, o, L, m, m', d, d', c7, b, b', a7, rfl, rfl, rfl, HM, HM', hd, hd', hN, HB, HB', HE, HW⟩ := hrel
    by_cases hz : m + m' = 0
    · obtain rfl : m = 0 := by omega
      obtain rfl : m' = 0 := by omega
      have es := hid (List.eq_nil_of_length_eq_zero HM.out)
      have eo := hid (List.eq_nil_of_length_eq_zero HM'.out)
      go_wp2
      go_ret
      refine ⟨_, rfl, ?_, HW.out.2⟩
      have := HE.out
      rw [es.out, eo.out, ch_nil, List.append_nil] at this
      rw [← this]
      exact HW.out.1
    · have hz' : (m : Int) + (m' : Int) > 0 := by omega
      obtain ⟨mi, hmi⟩ : ∃ x, mine s o = x := ⟨_, rfl⟩
      have HMI := hid hmi
      clear hmi
      obtain ⟨ot, hot⟩ : ∃ x, others s o = x := ⟨_, rfl⟩
      have HOT := hid hot
      clear hot
      go_upto_region 3 with fail
      go_cut [8] from 23 to 39 (fun v8 wx => v8 = .bool mi ∧ Hid (Now w a7 c7 L wx))
      case first =>
        rename_i J1 K1 hJ1 hK1
        rcases s with _ | ⟨x, s'⟩
        · rcases o with _ | ⟨y, o'⟩
          · exact absurd HM.out (by have := HM'.out; simp at this ⊢; omega)
          · obtain rfl : m = 0 := by have := HM.out; simpa using this.symm
            have e1 := hid (HMI.out.symm.trans (show mine [] (y :: o') = false by simp [mine]))
            have hm1 : 0 < m' := by omega
            have hm2 : ((m' : Int) == 0) = false := by rw [beq_eq_false_iff_ne]; omega
            go_wp2
            go_quiet (fail)
            refine hK1 _ _ (Met.intro (hJ1 _ _ ?_))
            (repeat apply Exists.intro)
            refine ⟨?_, rfl⟩
            exact ⟨by rw [e1.out], HW.out.below (below_drewN (Below.refl _ _) _)⟩
        · have hm1 : 0 < m := by have := HM.out; simp at this; omega
          have hm2 : ((m : Int) == 0) = false := by rw [beq_eq_false_iff_ne]; omega
          rcases o with _ | ⟨y, o'⟩
          · obtain rfl : m' = 0 := by have := HM'.out; simpa using this.symm
            have e1 := hid (HMI.out.symm.trans (show mine (x :: s') [] = true by simp [mine]))
            go_wp2
            go_quiet (fail)
            refine hK1 _ _ (Met.intro (hJ1 _ _ ?_))
            (repeat apply Exists.intro)
            refine ⟨?_, rfl⟩
            exact ⟨by rw [e1.out], HW.out.below (below_drewN (Below.refl _ _) _)⟩
          · have hm3 : 0 < m' := by have := HM'.out; simp at this; omega
            have hm4 : ((m' : Int) == 0) = false := by rw [beq_eq_false_iff_ne]; omega
            obtain ⟨bb, off, rfl, hbl, hcl, _⟩ := HB.out.head
            obtain ⟨bb', off', rfl, hbl', hcl', _⟩ := HB'.out.head
            have k1 := (HW.out.2.cell (p := ⟨bb, off, none⟩) hbl).trans hcl
            have k2 := (HW.out.2.cell (p := ⟨bb', off', none⟩) hbl').trans hcl'
            clear hcl hcl'
            have e1 := hid (HMI.out.symm.trans (show mine (x :: s') (y :: o') = decide (x ≤ y) by simp [mine]))
            go_wp2
            go_quiet (fail)
            refine hK1 _ _ (Met.intro (hJ1 _ _ ?_))
            (repeat apply Exists.intro)
            refine ⟨?_, rfl⟩
            exact ⟨by rw [e1.out], HW.out.below (below_drewN (Below.refl _ _) _)⟩
      case rest =>
      obtain ⟨rfl, HW3⟩ := hcut
      clear HW
      go_upto_region 4 with fail
      go_cut [9] from 40 to 56 (fun v9 wx => v9 = .bool ot ∧ Hid (Now w a7 c7 L wx))
      case first =>
        rename_i J1 K1 hJ1 hK1
        rcases s with _ | ⟨x, s'⟩
        · rcases o with _ | ⟨y, o'⟩
          · exact absurd HM.out (by have := HM'.out; simp at this ⊢; omega)
          · obtain rfl : m = 0 := by have := HM.out; simpa using this.symm
            have e1 := hid (HOT.out.symm.trans (show others [] (y :: o') = true by simp [others]))
            have hm1 : 0 < m' := by omega
            have hm2 : ((m' : Int) == 0) = false := by rw [beq_eq_false_iff_ne]; omega
            go_wp2
            go_quiet (fail)
            refine hK1 _ _ (Met.intro (hJ1 _ _ ?_))
            (repeat apply Exists.intro)
            refine ⟨?_, rfl⟩
            exact ⟨by rw [e1.out], HW3.out.below (below_drewN (Below.refl _ _) _)⟩
        · have hm1 : 0 < m := by have := HM.out; simp at this; omega
          have hm2 : ((m : Int) == 0) = false := by rw [beq_eq_false_iff_ne]; omega
          rcases o with _ | ⟨y, o'⟩
          · obtain rfl : m' = 0 := by have := HM'.out; simpa using this.symm
            have e1 := hid (HOT.out.symm.trans (show others (x :: s') [] = false by simp [others]))
            go_wp2
            go_quiet (fail)
            refine hK1 _ _ (Met.intro (hJ1 _ _ ?_))
            (repeat apply Exists.intro)
            refine ⟨?_, rfl⟩
            exact ⟨by rw [e1.out], HW3.out.below (below_drewN (Below.refl _ _) _)⟩
          · have hm3 : 0 < m' := by have := HM'.out; simp at this; omega
            have hm4 : ((m' : Int) == 0) = false := by rw [beq_eq_false_iff_ne]; omega
            obtain ⟨bb, off, rfl, hbl, hcl, _⟩ := HB.out.head
            obtain ⟨bb', off', rfl, hbl', hcl', _⟩ := HB'.out.head
            have k1 := (HW3.out.2.cell (p := ⟨bb, off, none⟩) hbl).trans hcl
            have k2 := (HW3.out.2.cell (p := ⟨bb', off', none⟩) hbl').trans hcl'
            clear hcl hcl'
            have e1 := hid (HOT.out.symm.trans (show others (x :: s') (y :: o') = decide (y ≤ x) by simp [others]))
            go_wp2
            go_quiet (fail)
            refine hK1 _ _ (Met.intro (hJ1 _ _ ?_))
            (repeat apply Exists.intro)
            refine ⟨?_, rfl⟩
            exact ⟨by rw [e1.out], HW3.out.below (below_drewN (Below.refl _ _) _)⟩
      case rest =>
      obtain ⟨rfl, HW4⟩ := hcut
      clear HW3
      rcases ch_step kAnd s o (by rw [HM.out, HM'.out]; omega) with ⟨x, s', o', e1, e2, rfl, rfl, e3⟩ | ⟨x, s', e1, e2, rfl, e3⟩ | ⟨x, o', e1, e2, rfl, e3⟩
      · obtain rfl := HMI.out.symm.trans e1
        obtain rfl := HOT.out.symm.trans e2
        have E3 := hid e3
        clear e1 e2 e3
        obtain ⟨bb, off, rfl, hbl, hcl, ht⟩ := HB.out.head
        have HT := hid ht
        have hm1 : 0 < m := by have := HM.out; simp at this; omega
        have HM1 : Hid (s'.length = m - 1) := by have := HM.out; unfold Hid; simp at this; omega
        obtain ⟨bb', off', rfl, hbl', hcl', ht'⟩ := HB'.out.head
        have HT' := hid ht'
        have hm1' : 0 < m' := by have := HM'.out; simp at this; omega
        have HM1' : Hid (o'.length = m' - 1) := by have := HM'.out; unfold Hid; simp at this; omega
        obtain ⟨L2, hL2⟩ : ∃ L2, L2 = L ++ (if kAnd true true then [x] else []) := ⟨_, rfl⟩
        have HL2 := hid hL2
        have hl2 : L2.length ≤ L.length + 1 := by rw [hL2]; split <;> simp
        clear hL2 ht ht'
        go_upto_if 64 with (refine (HK.out true true _).mono ?_; rintro e w5 ⟨rfl, rfl⟩)
        go_cut [7] from 57 to 70 (fun v7 wx => ∃ a8 c8, v7 = .slice a8 L2.length c8 ∧ Hid (Now w a8 c8 L2 wx))
        case first =>
          cases hKK : kAnd true true
          · have e5 : Hid (L2 = L) := by unfold Hid; rw [HL2.out, hKK]; simp
            go_wp2
            go_meet
            exact ⟨a7, c7, by rw [e5.out], by rw [e5.out]; exact HW4⟩
          · have e5 : Hid (L2 = L ++ [x]) := by unfold Hid; rw [HL2.out, hKK]; simp
            have e6 : Hid (L2.length = L.length + 1) := by unfold Hid; rw [e5.out]; simp
            clear hKK
            have k1 := (HW4.out.2.cell (p := ⟨bb, off, none⟩) hbl).trans hcl
            have HA := hid (HW4.out.below ((Below.refl _ w5).alloc (Nat.le_refl _) (.cells #[.int .i64 x] 3)))
            go_wp2_with (at_builtin; refine wpList_append_own _ rfl (.tmp 65) (.tmp 69) 148 rfl w.heap.size 3 i0 (.int .i64 0) 1 8 Tryz.underlying148 hi hz0 hz1 hz2 rfl (by decide) _ _ _ rfl HA.out.1 ⟨w5.heap.size, 0, none⟩ 1 1 [.int .i64 x] rfl rfl ?d1 ?d2 ?d3 ?d4 ?d5 ?_)
            case d1 => intro j u hj; exact one_row _ _ _ j u hj
            case d2 => intro u hu; simp at hu; subst hu; rfl
            case d3 => unfold maxLen; omega
            case d4 => omega
            case d5 => have h5 := HW4.out.2.size; first | omega | (simp; omega)
            intro v1 w6 hown1 hgr1 _
            obtain ⟨a8, c8, rfl⟩ := own_form (L := L ++ [x]) (by simpa using hown1)
            have HN6 := hid (HA.out.app hgr1 hown1)
            clear hown1 hgr1 HA
            go_wp2
            go_meet
            exact ⟨a8, c8, by rw [e6.out], by rw [e5.out]; exact HN6⟩
        case rest =>
        obtain ⟨a8, c8, rfl, HW5⟩ := hcut
        clear HW4
        have HE2 : Hid (L2 ++ ch kAnd s' o' = ch kAnd s0 o0) := by have := HE.out; rw [E3.out, ← List.append_assoc, ← HL2.out] at this; exact this
        by_cases hcd : 1 < d
        · have hcd' : (1 : Int) < (d : Int) := by omega
          by_cases hcd2 : 1 < d'
          · have hcd2' : (1 : Int) < (d' : Int) := by omega
            go_wp2
            go_roundw
            case rel => exact ⟨s', o', L2, m - 1, m' - 1, (d - 1), (d' - 1), c8, (some ⟨bb, off + 1, none⟩), (some ⟨bb', off' + 1, none⟩), a8, by go_num, by go_num, rfl, HM1, HM1', by omega, by omega, by omega, HT, HT', HE2, HW5⟩
            case measure => simp [lenV] <;> omega
          · obtain rfl : d' = 1 := by omega
            obtain rfl : m' = 1 := by omega
            have HT3 : Hid (Has w (some ⟨bb', off', none⟩) o') := by have := HM1'.out; rw [List.eq_nil_of_length_eq_zero this]; exact Has.nil
            have HT' := HT3
            go_wp2
            go_roundw
            case rel => exact ⟨s', o', L2, m - 1, 0, (d - 1), 0, c8, (some ⟨bb, off + 1, none⟩), (some ⟨bb', off', none⟩), a8, by go_num, by go_num, rfl, HM1, HM1', by omega, by omega, by omega, HT, HT', HE2, HW5⟩
            case measure => simp [lenV] <;> omega
        · obtain rfl : d = 1 := by omega
          obtain rfl : m = 1 := by omega
          have HT2 : Hid (Has w (some ⟨bb, off, none⟩) s') := by have := HM1.out; rw [List.eq_nil_of_length_eq_zero this]; exact Has.nil
          have HT := HT2
          by_cases hcd2 : 1 < d'
          · have hcd2' : (1 : Int) < (d' : Int) := by omega
            go_wp2
            go_roundw
            case rel => exact ⟨s', o', L2, 0, m' - 1, 0, (d' - 1), c8, (some ⟨bb, off, none⟩), (some ⟨bb', off' + 1, none⟩), a8, by go_num, by go_num, rfl, HM1, HM1', by omega, by omega, by omega, HT, HT', HE2, HW5⟩
            case measure => simp [lenV] <;> omega
          · obtain rfl : d' = 1 := by omega
            obtain rfl : m' = 1 := by omega
            have HT3 : Hid (Has w (some ⟨bb', off', none⟩) o') := by have := HM1'.out; rw [List.eq_nil_of_length_eq_zero this]; exact Has.nil
            have HT' := HT3
            go_wp2
            go_roundw
            case rel => exact ⟨s', o', L2, 0, 0, 0, 0, c8, (some ⟨bb, off, none⟩), (some ⟨bb', off', none⟩), a8, by go_num, by go_num, rfl, HM1, HM1', by omega, by omega, by omega, HT, HT', HE2, HW5⟩
            case measure => simp [lenV] <;> omega
      · obtain rfl := HMI.out.symm.trans e1
        obtain rfl := HOT.out.symm.trans e2
        have E3 := hid e3
        clear e1 e2 e3
        obtain ⟨bb, off, rfl, hbl, hcl, ht⟩ := HB.out.head
        have HT := hid ht
        have hm1 : 0 < m := by have := HM.out; simp at this; omega
        have HM1 : Hid (s'.length = m - 1) := by have := HM.out; unfold Hid; simp at this; omega
        obtain ⟨L2, hL2⟩ : ∃ L2, L2 = L ++ (if kAnd true false then [x] else []) := ⟨_, rfl⟩
        have HL2 := hid hL2
        have hl2 : L2.length ≤ L.length + 1 := by rw [hL2]; split <;> simp
        clear hL2 ht
        go_upto_if 64 with (refine (HK.out true false _).mono ?_; rintro e w5 ⟨rfl, rfl⟩)
        go_cut [7] from 57 to 70 (fun v7 wx => ∃ a8 c8, v7 = .slice a8 L2.length c8 ∧ Hid (Now w a8 c8 L2 wx))
        case first =>
          cases hKK : kAnd true false
          · have e5 : Hid (L2 = L) := by unfold Hid; rw [HL2.out, hKK]; simp
            go_wp2
            go_meet
            exact ⟨a7, c7, by rw [e5.out], by rw [e5.out]; exact HW4⟩
          · have e5 : Hid (L2 = L ++ [x]) := by unfold Hid; rw [HL2.out, hKK]; simp
            have e6 : Hid (L2.length = L.length + 1) := by unfold Hid; rw [e5.out]; simp
            clear hKK
            have k1 := (HW4.out.2.cell (p := ⟨bb, off, none⟩) hbl).trans hcl
            have HA := hid (HW4.out.below ((Below.refl _ w5).alloc (Nat.le_refl _) (.cells #[.int .i64 x] 3)))
            go_wp2_with (at_builtin; refine wpList_append_own _ rfl (.tmp 65) (.tmp 69) 148 rfl w.heap.size 3 i0 (.int .i64 0) 1 8 Tryz.underlying148 hi hz0 hz1 hz2 rfl (by decide) _ _ _ rfl HA.out.1 ⟨w5.heap.size, 0, none⟩ 1 1 [.int .i64 x] rfl rfl ?d1 ?d2 ?d3 ?d4 ?d5 ?_)
            case d1 => intro j u hj; exact one_row _ _ _ j u hj
            case d2 => intro u hu; simp at hu; subst hu; rfl
            case d3 => unfold maxLen; omega
            case d4 => omega
            case d5 => have h5 := HW4.out.2.size; first | omega | (simp; omega)
            intro v1 w6 hown1 hgr1 _
            obtain ⟨a8, c8, rfl⟩ := own_form (L := L ++ [x]) (by simpa using hown1)
            have HN6 := hid (HA.out.app hgr1 hown1)
            clear hown1 hgr1 HA
            go_wp2
            go_meet
            exact ⟨a8, c8, by rw [e6.out], by rw [e5.out]; exact HN6⟩
        case rest =>
        obtain ⟨a8, c8, rfl, HW5⟩ := hcut
        clear HW4
        have HE2 : Hid (L2 ++ ch kAnd s' o = ch kAnd s0 o0) := by have := HE.out; rw [E3.out, ← List.append_assoc, ← HL2.out] at this; exact this
        by_cases hcd : 1 < d
        · have hcd' : (1 : Int) < (d : Int) := by omega
          go_wp2
          go_roundw
          case rel => exact ⟨s', o, L2, m - 1, m', (d - 1), d', c8, (some ⟨bb, off + 1, none⟩), b', a8, by go_num, by go_num, rfl, HM1, HM', by omega, by omega, by omega, HT, HB', HE2, HW5⟩
          case measure => simp [lenV] <;> omega
        · obtain rfl : d = 1 := by omega
          obtain rfl : m = 1 := by omega
          have HT2 : Hid (Has w (some ⟨bb, off, none⟩) s') := by have := HM1.out; rw [List.eq_nil_of_length_eq_zero this]; exact Has.nil
          have HT := HT2
          go_wp2
          go_roundw
          case rel => exact ⟨s', o, L2, 0, m', 0, d', c8, (some ⟨bb, off, none⟩), b', a8, by go_num, by go_num, rfl, HM1, HM', by omega, by omega, by omega, HT, HB', HE2, HW5⟩
          case measure => simp [lenV] <;> omega
      · obtain rfl := HMI.out.symm.trans e1
        obtain rfl := HOT.out.symm.trans e2
        have E3 := hid e3
        clear e1 e2 e3
        obtain ⟨bb', off', rfl, hbl', hcl', ht'⟩ := HB'.out.head
        have HT' := hid ht'
        have hm1' : 0 < m' := by have := HM'.out; simp at this; omega
        have HM1' : Hid (o'.length = m' - 1) := by have := HM'.out; unfold Hid; simp at this; omega
        obtain ⟨L2, hL2⟩ : ∃ L2, L2 = L ++ (if kAnd false true then [x] else []) := ⟨_, rfl⟩
        have HL2 := hid hL2
        have hl2 : L2.length ≤ L.length + 1 := by rw [hL2]; split <;> simp
        clear hL2 ht'
        go_upto_if 64 with (refine (HK.out false true _).mono ?_; rintro e w5 ⟨rfl, rfl⟩)
        go_cut [7] from 57 to 70 (fun v7 wx => ∃ a8 c8, v7 = .slice a8 L2.length c8 ∧ Hid (Now w a8 c8 L2 wx))
        case first =>
          cases hKK : kAnd false true
          · have e5 : Hid (L2 = L) := by unfold Hid; rw [HL2.out, hKK]; simp
            go_wp2
            go_meet
            exact ⟨a7, c7, by rw [e5.out], by rw [e5.out]; exact HW4⟩
          · have e5 : Hid (L2 = L ++ [x]) := by unfold Hid; rw [HL2.out, hKK]; simp
            have e6 : Hid (L2.length = L.length + 1) := by unfold Hid; rw [e5.out]; simp
            clear hKK
            have k1 := (HW4.out.2.cell (p := ⟨bb', off', none⟩) hbl').trans hcl'
            have HA := hid (HW4.out.below ((Below.refl _ w5).alloc (Nat.le_refl _) (.cells #[.int .i64 x] 3)))
            go_wp2_with (at_builtin; refine wpList_append_own _ rfl (.tmp 65) (.tmp 69) 148 rfl w.heap.size 3 i0 (.int .i64 0) 1 8 Tryz.underlying148 hi hz0 hz1 hz2 rfl (by decide) _ _ _ rfl HA.out.1 ⟨w5.heap.size, 0, none⟩ 1 1 [.int .i64 x] rfl rfl ?d1 ?d2 ?d3 ?d4 ?d5 ?_)
            case d1 => intro j u hj; exact one_row _ _ _ j u hj
            case d2 => intro u hu; simp at hu; subst hu; rfl
            case d3 => unfold maxLen; omega
            case d4 => omega
            case d5 => have h5 := HW4.out.2.size; first | omega | (simp; omega)
            intro v1 w6 hown1 hgr1 _
            obtain ⟨a8, c8, rfl⟩ := own_form (L := L ++ [x]) (by simpa using hown1)
            have HN6 := hid (HA.out.app hgr1 hown1)
            clear hown1 hgr1 HA
            go_wp2
            go_meet
            exact ⟨a8, c8, by rw [e6.out], by rw [e5.out]; exact HN6⟩
        case rest =>
        obtain ⟨a8, c8, rfl, HW5⟩ := hcut
        clear HW4
        have HE2 : Hid (L2 ++ ch kAnd s o' = ch kAnd s0 o0) := by have := HE.out; rw [E3.out, ← List.append_assoc, ← HL2.out] at this; exact this
        by_cases hcd2 : 1 < d'
        · have hcd2' : (1 : Int) < (d' : Int) := by omega
          go_wp2
          go_roundw
          case rel => exact ⟨s, o', L2, m, m' - 1, d, (d' - 1), c8, b, (some ⟨bb', off' + 1, none⟩), a8, by go_num, by go_num, rfl, HM, HM1', by omega, by omega, by omega, HB, HT', HE2, HW5⟩
          case measure => simp [lenV] <;> omega
        · obtain rfl : d' = 1 := by omega
          obtain rfl : m' = 1 := by omega
          have HT3 : Hid (Has w (some ⟨bb', off', none⟩) o') := by have := HM1'.out; rw [List.eq_nil_of_length_eq_zero this]; exact Has.nil
          have HT' := HT3
          go_wp2
          go_roundw
          case rel => exact ⟨s, o', L2, m, 0, d, 0, c8, b, (some ⟨bb', off', none⟩), a8, by go_num, by go_num, rfl, HM, HM1', by omega, by omega, by omega, HB, HT', HE2, HW5⟩
          case measure => simp [lenV] <;> omega
end Go.Proofs.YtjhdmghpklagkaaGreat.Ino
namespace Go.Proofs.YtjhdmghpklagkaaGreat.Blk
open Go.RowKit
open Go.Proofs.YtjhdmghpklagkaaGreat.Lab (Lb HasL OfV GoodP goodL e0 str_eq str_ne)
open Go.Proofs.YtjhdmghpklagkaaGreat.Srs (hid lt_at kept Q HasQ FitQ SmlQ GoodQ agQ q0 two good_goodP)
open Go.Proofs.YtjhdmghpklagkaaGreat.Ino (Own Now own_form one_row info3)
open Go.Proofs.YtjhdmghpklagkaaGreat.Smp (ret_bool)

theorem has_of (ls : List Lb) (x : ByteArray) : ∃ v, OfV ls x v := by
  by_cases h : ∃ k, k < ls.length ∧ (ls.getD k e0).1 = x
  · obtain ⟨k, hk, hx⟩ := h
    have key : ∀ n, (∃ k, k < n ∧ k < ls.length ∧ (ls.getD k e0).1 = x) → ∃ v, OfV ls x v := by
      intro n
      induction n with
      | zero => rintro ⟨k, h, _⟩; omega
      | succ n ih =>
        rintro ⟨k, h1, h2, h3⟩
        by_cases h4 : ∃ k, k < n ∧ k < ls.length ∧ (ls.getD k e0).1 = x
        · exact ih h4
        · exact ⟨(ls.getD k e0).2, .inl ⟨k, h2, h3, rfl, fun i hi he => h4 ⟨i, by omega, by omega, he⟩⟩⟩
    exact key (k + 1) ⟨k, by omega, hk, hx⟩
  · exact ⟨ByteArray.empty, .inr ⟨fun k hk he => h ⟨k, hk, he⟩, rfl⟩⟩
noncomputable def val (ls : List Lb) (x : ByteArray) : ByteArray := Classical.choose (has_of ls x)
theorem val_of (ls : List Lb) (x : ByteArray) : OfV ls x (val ls x) := Classical.choose_spec (has_of ls x)
noncomputable def pst (R : ByteArray → Bool) (qs : List Q) (x : ByteArray) : Nat → List Int
  | 0 => []
  | k + 1 => pst R qs x k ++ (if R (val (lb qs k) x) = true then [(k : Int)] else [])
noncomputable def isV (v u : ByteArray) : Bool := decide (u = v)
noncomputable def pos (h : Bk) (x v : ByteArray) : List Int := if gdB h = true then pst (isV v) h.qs x h.qs.length else []
def Gives (w : World) (L : List Int) (e : Ending) (w' : World) : Prop := ∃ v, e = .returned v ∧ Ino.Own w' w.heap.size v L ∧ Below w.heap.size w w'
end Go.Proofs.YtjhdmghpklagkaaGreat.Blk
