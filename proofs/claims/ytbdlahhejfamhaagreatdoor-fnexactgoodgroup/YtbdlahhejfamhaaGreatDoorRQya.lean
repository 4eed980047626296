/- Questions: rows as they lie in memory; szQueryS. -/
import Derived.Test.YtbdlahhejfamhaaGreatDoorRC5
import Derived.Test.YtbdlahhejfamhaaGreatDoorRA2
import Derived.BigQuiet
import Derived.Deep.QuietTactic
import Derived.Deep.RegionHeld3
namespace Go.Proofs.YtbdlahhejfamhaaGreatDoor.Qry
open Go.RowKit
open Go.Proofs.YtbdlahhejfamhaaGreatDoor.Pat (Mt HasM)
open Go.Proofs.YtbdlahhejfamhaaGreatDoor.Fil (HasT)

theorem hid {p : Prop} (h : p) : Hid p := h
theorem lt_at {x : World} {b : Nat} {o : Obj} (h : x.heap[b]? = some o) : b < x.heap.size := (Array.getElem?_eq_some_iff.1 h).1
theorem kept {x y : World} {b : Nat} {o : Obj} (h : x.heap[b]? = some o) (hb : Below x.heap.size x y) : y.heap[b]? = some o := (hb.block b (lt_at h)).trans h
/-- A number of the machine. -/
def In64 (x : Int) : Prop := -9223372036854775808 ≤ x ∧ x ≤ 9223372036854775807
theorem own_base {w : World} {base base' e size n : Nat} {v : Value} {xs : List Value} (h : w.ownsRow base e size v n xs) (hb : base' ≤ base) : w.ownsRow base' e size v n xs := by
  refine ⟨h.1, ?_⟩
  rcases h.2 with h2 | ⟨g, cap, cur, h1, h2, h3⟩
  · exact .inl h2
  · exact .inr ⟨g, cap, cur, h1, by omega, h3⟩
theorem own_set {w : World} {base e size n c g : Nat} {xs : List Value} {p : Addr} (h : w.ownsRow base e size (.slice (some ⟨g, 0, none⟩) n c) n xs) (hp : g ≠ p.block) (u : Value) : (w.setCell p u).ownsRow base e size (.slice (some ⟨g, 0, none⟩) n c) n xs := by
  refine h.kept (row := some p.block) ⟨rfl, rfl, rfl, by simp, fun j hj hne => Below.heap_setCell w p u j (fun e => hne (by rw [e]))⟩ (.inr ?_)
  intro e
  exact hp (Option.some.inj e)
theorem own_below {w w' : World} {base e size n : Nat} {v : Value} {xs : List Value} (h : w.ownsRow base e size v n xs) (hb : Below w.heap.size w w') : w'.ownsRow base e size v n xs :=
  h.kept (row := none) ⟨hb.os, hb.tape, hb.output, hb.size, fun k hk _ => hb.block k hk⟩ (by cases hv : v.ownBlock <;> simp)
theorem set_at {x : World} {b i : Nat} {cs : Array Value} {t : TypeId} {v : Value} (h : x.heap[b]? = some (.cells cs t)) : (x.setCell ⟨b, i, none⟩ v).heap[b]? = some (.cells (cs.setIfInBounds i v) t) := by
  have hlt := lt_at h
  have h' : x.heap[b] = .cells cs t := by simpa [Array.getElem?_eq_getElem hlt] using h
  show (x.heap.modify b _)[b]? = _
  rw [Array.getElem?_eq_getElem (by simpa using hlt), Array.getElem_modify_self, h']
  rfl
theorem set_else {x : World} {b : Nat} {p : Addr} {o : Obj} {v : Value} (h : x.heap[b]? = some o) (hp : b ≠ p.block) : (x.setCell p v).heap[b]? = some o := (Below.heap_setCell x p v b hp).trans h
def blk (a : Option Addr) : Nat := match a with
  | some x => x.block
  | none => 0
theorem own_grown {w x : World} {base e size n c g r : Nat} {xs : List Value} (h : w.ownsRow base e size (.slice (some ⟨g, 0, none⟩) n c) n xs) (hg : w.grownBy x (some r)) (hne : g ≠ r) : x.ownsRow base e size (.slice (some ⟨g, 0, none⟩) n c) n xs :=
  h.kept hg (.inr (fun e => hne (Option.some.inj e)))
set_option maxHeartbeats 1000000 in
theorem f100u (s t : ByteArray) (o x : Int) (w : World) (hs : s.size ≤ maxLen) (ht : t.size ≤ maxLen) (hx0 : 0 ≤ x) (hx1 : x ≤ 1048576) :
    Calls Tryz.prog 100 #[.agg #[.string s, .int .i64 o, .string t], .int .i64 x] w fun e w' => ∃ y : Int, e = .returned (.int .i64 y) ∧ -1 ≤ y ∧ y ≤ x ∧ Below w.heap.size w w' := by
  unfold maxLen at hs ht
  have HB := hid ((Below.refl w.heap.size w).alloc (Nat.le_refl _) (.cells #[.string s, .int .i64 o, .string t] 161))
  by_cases h1 : x < s.size
  · go_enter Tryz.func100, Tryz.ntmps100
    go_wp2
    go_ret
    exact ⟨-1, rfl, by omega, by omega, HB.out⟩
  · by_cases h2 : x < s.size + t.size
    · go_enter Tryz.func100, Tryz.ntmps100
      go_wp2
      go_ret
      exact ⟨-1, rfl, by omega, by omega, HB.out⟩
    · go_enter Tryz.func100, Tryz.ntmps100
      go_wp2
      go_ret
      exact ⟨_, rfl, by omega, by omega, HB.out⟩

set_option maxHeartbeats 1000000 in
theorem f59u (a : Option Addr) (n c : Nat) (L : Int) (ms : List Mt) (w : World) (hL0 : 0 ≤ L) (hL1 : L ≤ 1048576) (hn : ms.length = n) (hr : HasM w a ms) (hf : Pat.FitM ms) (hmax : n ≤ maxLen) :
    Calls Tryz.prog 59 #[.slice a n c, .int .i64 L] w fun e w' => ∃ y : Int, e = .returned (.int .i64 y) ∧ -1 ≤ y ∧ y ≤ L ∧ (0 ≤ y → n + y ≤ L) ∧ Below w.heap.size w w' := by
  unfold maxLen at hmax
  by_cases hbig : (n : Int) ≤ L
  · have HN := hid hn
    clear hn
    go_enter Tryz.func59, Tryz.ntmps59
    go_wp2
    go_loopw [1, 5] (fun sx i wr => ∃ (k : Nat) (x : Int), k ≤ n ∧ i = .int .i64 k ∧ sx = .int .i64 x ∧ 0 ≤ x ∧ n + x ≤ L ∧ Below w.heap.size w wr) (fun _ i _ => n - (intOf i).toNat)
    case atStart => exact ⟨0, _, Nat.zero_le _, rfl, rfl, by omega, by omega, Below.refl _ _⟩
    case round =>
      obtain ⟨k, x, hk, rfl, rfl, hx0, hx1, hb⟩ := hrel
      have HB := hid hb
      by_cases hlt : k < n
      · rcases hr with h | ⟨b, off, rfl, h2, h3⟩
        · exfalso; rw [h] at HN; have := HN.out; simp at this; omega
        obtain ⟨c0, c1, c2⟩ := h3 k (by rw [HN.out]; exact hlt)
        obtain ⟨g0, g1, _⟩ := hf k
        have d0 := (hb.cell (p := ⟨b, off + k * 3, none⟩) h2).trans c0
        have d1 := (hb.cell (p := ⟨b, off + k * 3 + 1, none⟩) h2).trans c1
        have d2 := (hb.cell (p := ⟨b, off + k * 3 + 2, none⟩) h2).trans c2
        clear h3 c0 c1 c2 hb
        generalize (ms.getD k Pat.m0).1 = s at *
        generalize (ms.getD k Pat.m0).2.1 = o at *
        generalize (ms.getD k Pat.m0).2.2 = t at *
        go_wp2_with fail
        refine (f100u s t o x _ g0 g1 hx0 (by omega)).mono ?_
        rintro e w2 ⟨y, rfl, y0, y1, hb2⟩
        have HB2 := hid (HB.out.trans (hb2.mono HB.out.size))
        clear hb2 d0 d1 d2
        by_cases hy : y < 0
        · go_wp2
          go_ret
          exact ⟨-1, rfl, by omega, by omega, fun h => absurd h (by omega), HB2.out⟩
        · go_wp2
          go_roundw
          case rel => exact ⟨k + 1, y, by omega, by go_num, rfl, by omega, by omega, HB2.out⟩
          case measure => simp [intOf]; omega
      · go_wp2
        go_ret
        exact ⟨x, rfl, by omega, by omega, fun _ => by omega, HB.out⟩
  · go_enter Tryz.func59, Tryz.ntmps59
    go_wp2
    go_ret
    exact ⟨-1, rfl, by omega, by omega, by omega, Below.refl _ _⟩

set_option maxHeartbeats 1000000 in
theorem f60u (a : Option Addr) (n c : Nat) (L : Int) (ss : List ByteArray) (w : World) (hL0 : 0 ≤ L) (hL1 : L ≤ 1048576) (hn : ss.length = n) (hr : HasT w a ss) (hf : Fil.FitT ss) (hmax : n ≤ maxLen) :
    Calls Tryz.prog 60 #[.slice a n c, .int .i64 L] w fun e w' => ∃ y : Int, e = .returned (.int .i64 y) ∧ -1 ≤ y ∧ y ≤ L ∧ (0 ≤ y → n + y ≤ L) ∧ Below w.heap.size w w' := by
  unfold maxLen at hmax
  by_cases hbig : (n : Int) ≤ L
  · have HN := hid hn
    clear hn
    go_enter Tryz.func60, Tryz.ntmps60
    go_wp2
    go_loopw [1, 5] (fun sx i wr => ∃ (k : Nat) (x : Int), k ≤ n ∧ i = .int .i64 k ∧ sx = .int .i64 x ∧ 0 ≤ x ∧ n + x ≤ L ∧ Below w.heap.size w wr) (fun _ i _ => n - (intOf i).toNat)
    case atStart => exact ⟨0, _, Nat.zero_le _, rfl, rfl, by omega, by omega, Below.refl _ _⟩
    case round =>
      obtain ⟨k, x, hk, rfl, rfl, hx0, hx1, hb⟩ := hrel
      have HB := hid hb
      by_cases hlt : k < n
      · rcases hr with h | ⟨b, off, rfl, h2, h3⟩
        · exfalso; rw [h] at HN; have := HN.out; simp at this; omega
        have c0 := h3 k (by rw [HN.out]; exact hlt)
        have g0 := hf k
        have d0 := (hb.cell (p := ⟨b, off + k, none⟩) h2).trans c0
        clear h3 c0 hb
        generalize ss.getD k ByteArray.empty = s at *
        unfold maxLen at g0
        by_cases hy : x < s.size
        · go_wp2
          go_ret
          exact ⟨-1, rfl, by omega, by omega, fun h => absurd h (by omega), HB.out⟩
        · go_wp2
          go_roundw
          case rel => exact ⟨k + 1, x - s.size, by omega, by go_num, rfl, by omega, by omega, HB.out⟩
          case measure => simp [intOf]; omega
      · go_wp2
        go_ret
        exact ⟨x, rfl, by omega, by omega, fun _ => by omega, HB.out⟩
  · go_enter Tryz.func60, Tryz.ntmps60
    go_wp2
    go_ret
    exact ⟨-1, rfl, by omega, by omega, by omega, Below.refl _ _⟩

/-- A row of a question as it lies in memory. -/
structure R where
  kd : Int
  nu : Int
  st : Int
  tx : ByteArray
  op : Int
  ms : List Mt
  ma : Option Addr
  mc : Nat
  off : Int
  fx : Bool
  att : Int
  bo : Bool
  byy : Int
  ns : List ByteArray
  na : Option Addr
  nc : Nat
  sd : Int
  es : List ByteArray
  ea : Option Addr
  ec : Nat
  kc : Int
/-- What a row is, wherever it lies. -/
structure Pl where
  kd : Int
  nu : Int
  st : Int
  tx : ByteArray
  op : Int
  ms : List Mt
  off : Int
  fx : Bool
  att : Int
  bo : Bool
  byy : Int
  ns : List ByteArray
  sd : Int
  es : List ByteArray
  kc : Int
def pl (q : R) : Pl := ⟨q.kd, q.nu, q.st, q.tx, q.op, q.ms, q.off, q.fx, q.att, q.bo, q.byy, q.ns, q.sd, q.es, q.kc⟩
def r0 : R := ⟨0, 0, 0, ByteArray.empty, 0, [], none, 0, 0, false, 0, false, 0, [], none, 0, 0, [], none, 0, 0⟩
instance : Inhabited R := ⟨r0⟩
def cl (q : R) : List Value := [.int .i64 q.kd, .int .i64 q.nu, .int .i64 q.st, .string q.tx, .int .i64 q.op, .slice q.ma q.ms.length q.mc, .int .i64 q.off, .bool q.fx, .int .i64 q.att, .bool q.bo, .int .i64 q.byy, .slice q.na q.ns.length q.nc, .int .i64 q.sd, .slice q.ea q.es.length q.ec, .int .i64 q.kc]
abbrev agR (q : R) : Value := .agg #[.int .i64 q.kd, .int .i64 q.nu, .int .i64 q.st, .string q.tx, .int .i64 q.op, .slice q.ma q.ms.length q.mc, .int .i64 q.off, .bool q.fx, .int .i64 q.att, .bool q.bo, .int .i64 q.byy, .slice q.na q.ns.length q.nc, .int .i64 q.sd, .slice q.ea q.es.length q.ec, .int .i64 q.kc]
abbrev arR (q : R) : Array Value := #[.int .i64 q.kd, .int .i64 q.nu, .int .i64 q.st, .string q.tx, .int .i64 q.op, .slice q.ma q.ms.length q.mc, .int .i64 q.off, .bool q.fx, .int .i64 q.att, .bool q.bo, .int .i64 q.byy, .slice q.na q.ns.length q.nc, .int .i64 q.sd, .slice q.ea q.es.length q.ec, .int .i64 q.kc]
def flat (L : List R) : List Value := L.flatMap cl
theorem cl_len (q : R) : (cl q).length = 15 := rfl
theorem flat_cons (q : R) (L : List R) : flat (q :: L) = cl q ++ flat L := rfl
theorem flat_append (L K : List R) : flat (L ++ K) = flat L ++ flat K := by simp [flat]
theorem flat_len (L : List R) : (flat L).length = L.length * 15 := by
  induction L with
  | nil => rfl
  | cons q L ih => rw [flat_cons, List.length_append, ih, cl_len, List.length_cons]; omega
theorem flat_get : ∀ (L : List R) (i j : Nat), i < L.length → j < 15 → (flat L)[i * 15 + j]? = (cl (L.getD i r0))[j]? := by
  intro L
  induction L with
  | nil => intro i j h; simp at h
  | cons p L ih =>
    intro i j h hj
    cases i with
    | zero => rw [flat_cons, Nat.zero_mul, Nat.zero_add, List.getElem?_append_left (by rw [cl_len]; exact hj)]; rfl
    | succ i =>
      have := ih i j (by simpa using h) hj
      rw [flat_cons, show (i + 1) * 15 + j = i * 15 + j + 15 by omega, List.getElem?_append_right (by rw [cl_len]; omega), cl_len, Nat.add_sub_cancel, this]
      rfl
theorem flat_set : ∀ (L : List R) (i : Nat) (q : R), i < L.length → (((((((((((((((flat L).set (i * 15) (.int .i64 q.kd)).set (i * 15 + 1) (.int .i64 q.nu)).set (i * 15 + 2) (.int .i64 q.st)).set (i * 15 + 3) (.string q.tx)).set (i * 15 + 4) (.int .i64 q.op)).set (i * 15 + 5) (.slice q.ma q.ms.length q.mc)).set (i * 15 + 6) (.int .i64 q.off)).set (i * 15 + 7) (.bool q.fx)).set (i * 15 + 8) (.int .i64 q.att)).set (i * 15 + 9) (.bool q.bo)).set (i * 15 + 10) (.int .i64 q.byy)).set (i * 15 + 11) (.slice q.na q.ns.length q.nc)).set (i * 15 + 12) (.int .i64 q.sd)).set (i * 15 + 13) (.slice q.ea q.es.length q.ec)).set (i * 15 + 14) (.int .i64 q.kc) = flat (L.set i q) := by
  intro L
  induction L with
  | nil => intro i q h; simp at h
  | cons p L ih =>
    intro i q h
    cases i with
    | zero => rfl
    | succ i =>
      have := ih i q (by simpa using h)
      rw [flat_cons, List.set_cons_succ, flat_cons, ← this]
      rw [show (i + 1) * 15 = i * 15 + 15 by omega]
      simp only [cl, List.cons_append, List.nil_append, List.set_cons_succ, show i * 15 + 15 + 1 = i * 15 + 1 + 15 from by omega, show i * 15 + 15 + 2 = i * 15 + 2 + 15 from by omega, show i * 15 + 15 + 3 = i * 15 + 3 + 15 from by omega, show i * 15 + 15 + 4 = i * 15 + 4 + 15 from by omega, show i * 15 + 15 + 5 = i * 15 + 5 + 15 from by omega, show i * 15 + 15 + 6 = i * 15 + 6 + 15 from by omega, show i * 15 + 15 + 7 = i * 15 + 7 + 15 from by omega, show i * 15 + 15 + 8 = i * 15 + 8 + 15 from by omega, show i * 15 + 15 + 9 = i * 15 + 9 + 15 from by omega, show i * 15 + 15 + 10 = i * 15 + 10 + 15 from by omega, show i * 15 + 15 + 11 = i * 15 + 11 + 15 from by omega, show i * 15 + 15 + 12 = i * 15 + 12 + 15 from by omega, show i * 15 + 15 + 13 = i * 15 + 13 + 15 from by omega, show i * 15 + 15 + 14 = i * 15 + 14 + 15 from by omega]
/-- The cells of a row. -/
def Cells (w : World) (b o : Nat) (q : R) : Prop := ∀ j, j < 15 → w.cell? ⟨b, o + j, none⟩ = (cl q)[j]?
theorem Cells.below {w w' : World} {b o : Nat} {q : R} (h : Cells w b o q) (hb : Below w.heap.size w w') (hl : b < w.heap.size) : Cells w' b o q := fun j hj => (hb.cell (by exact hl)).trans (h j hj)
theorem Cells.all {w : World} {b o : Nat} {q : R} (h : Cells w b o q) : w.cell? ⟨b, o, none⟩ = some (.int .i64 q.kd) ∧ w.cell? ⟨b, o + 1, none⟩ = some (.int .i64 q.nu) ∧ w.cell? ⟨b, o + 2, none⟩ = some (.int .i64 q.st) ∧ w.cell? ⟨b, o + 3, none⟩ = some (.string q.tx) ∧ w.cell? ⟨b, o + 4, none⟩ = some (.int .i64 q.op) ∧ w.cell? ⟨b, o + 5, none⟩ = some (.slice q.ma q.ms.length q.mc) ∧ w.cell? ⟨b, o + 6, none⟩ = some (.int .i64 q.off) ∧ w.cell? ⟨b, o + 7, none⟩ = some (.bool q.fx) ∧ w.cell? ⟨b, o + 8, none⟩ = some (.int .i64 q.att) ∧ w.cell? ⟨b, o + 9, none⟩ = some (.bool q.bo) ∧ w.cell? ⟨b, o + 10, none⟩ = some (.int .i64 q.byy) ∧ w.cell? ⟨b, o + 11, none⟩ = some (.slice q.na q.ns.length q.nc) ∧ w.cell? ⟨b, o + 12, none⟩ = some (.int .i64 q.sd) ∧ w.cell? ⟨b, o + 13, none⟩ = some (.slice q.ea q.es.length q.ec) ∧ w.cell? ⟨b, o + 14, none⟩ = some (.int .i64 q.kc) :=
  ⟨h 0 (by omega), h 1 (by omega), h 2 (by omega), h 3 (by omega), h 4 (by omega), h 5 (by omega), h 6 (by omega), h 7 (by omega), h 8 (by omega), h 9 (by omega), h 10 (by omega), h 11 (by omega), h 12 (by omega), h 13 (by omega), h 14 (by omega)⟩
theorem fifteen {x : World} {b : Nat} {v0 v1 v2 v3 v4 v5 v6 v7 v8 v9 v10 v11 v12 v13 v14 : Value} {t : TypeId} (h : x.heap[b]? = some (.cells #[v0, v1, v2, v3, v4, v5, v6, v7, v8, v9, v10, v11, v12, v13, v14] t)) : x.cell? ⟨b, 0, none⟩ = some v0 ∧ x.cell? ⟨b, 1, none⟩ = some v1 ∧ x.cell? ⟨b, 2, none⟩ = some v2 ∧ x.cell? ⟨b, 3, none⟩ = some v3 ∧ x.cell? ⟨b, 4, none⟩ = some v4 ∧ x.cell? ⟨b, 5, none⟩ = some v5 ∧ x.cell? ⟨b, 6, none⟩ = some v6 ∧ x.cell? ⟨b, 7, none⟩ = some v7 ∧ x.cell? ⟨b, 8, none⟩ = some v8 ∧ x.cell? ⟨b, 9, none⟩ = some v9 ∧ x.cell? ⟨b, 10, none⟩ = some v10 ∧ x.cell? ⟨b, 11, none⟩ = some v11 ∧ x.cell? ⟨b, 12, none⟩ = some v12 ∧ x.cell? ⟨b, 13, none⟩ = some v13 ∧ x.cell? ⟨b, 14, none⟩ = some v14 := by
  refine ⟨?_, ?_, ?_, ?_, ?_, ?_, ?_, ?_, ?_, ?_, ?_, ?_, ?_, ?_, ?_⟩ <;> simp [World.cell?, h]
theorem fifteen_frz {x : World} {b o : Nat} {cs : Array Value} {t : TypeId} (h : x.heap[b]? = some (.cells cs t)) : x.frozen? ⟨b, o, none⟩ = false := by
  simp [World.frozen?, h]
/-- What a row's lists hold. -/
structure Lst (w : World) (q : R) : Prop where
  m : HasM w q.ma q.ms
  n : HasT w q.na q.ns
  e : HasT w q.ea q.es
theorem Lst.below {w w' : World} {q : R} (h : Lst w q) (hb : Below w.heap.size w w') : Lst w' q := ⟨h.m.below hb, h.n.below hb, h.e.below hb⟩
/-- The slice that begins at 'a' holds the rows 'rs' in the world 'w'. -/
def HasR (w : World) (a : Option Addr) (rs : List R) : Prop :=
  rs = [] ∨ ∃ b off, a = some ⟨b, off, none⟩ ∧ b < w.heap.size ∧ ∀ i, i < rs.length → Cells w b (off + i * 15) (rs.getD i r0) ∧ Lst w (rs.getD i r0)
theorem HasR.below {w w' : World} {a : Option Addr} {rs : List R} (h : HasR w a rs) (hb : Below w.heap.size w w') : HasR w' a rs := by
  rcases h with h | ⟨b, off, h1, h2, h3⟩
  · exact .inl h
  · exact .inr ⟨b, off, h1, Nat.lt_of_lt_of_le h2 hb.size, fun i hi => ⟨(h3 i hi).1.below hb h2, (h3 i hi).2.below hb⟩⟩
theorem HasR.nil {w : World} {a : Option Addr} : HasR w a [] := .inl rfl
theorem HasR.at2 {w : World} {a : Option Addr} {rs : List R} (h : HasR w a rs) (i : Nat) (hi : i < rs.length) : ∃ b off, a = some ⟨b, off, none⟩ ∧ b < w.heap.size ∧ Cells w b (off + i * 15) (rs.getD i r0) ∧ Lst w (rs.getD i r0) := by
  rcases h with h | ⟨b, off, h1, h2, h3⟩
  · rw [h] at hi; simp at hi
  · exact ⟨b, off, h1, h2, h3 i hi⟩
/-- All texts and numbers are such as a machine can hold. -/
structure Ft (q : R) : Prop where
  kd : In64 q.kd
  nu : In64 q.nu
  st : In64 q.st
  tx : q.tx.size ≤ maxLen
  op : In64 q.op
  ms : Pat.FitM q.ms ∧ q.ms.length ≤ maxLen
  off : In64 q.off
  att : In64 q.att
  byy : In64 q.byy
  ns : Fil.FitT q.ns ∧ q.ns.length ≤ maxLen
  sd : In64 q.sd
  es : Fil.FitT q.es ∧ q.es.length ≤ maxLen
  kc : In64 q.kc
def FitR (rs : List R) : Prop := ∀ i, Ft (rs.getD i r0)
/-- How many items the lists of a row have. -/
def wt (q : R) : Nat := q.ms.length + q.ns.length + q.es.length
def tot (rs : List R) : Nat → Nat
  | 0 => 0
  | k + 1 => tot rs k + wt (rs.getD k r0)
def SmlR (rs : List R) : Prop := ∀ i, i < rs.length → wt (rs.getD i r0) ≤ 1048576
theorem tot_mono (rs : List R) : ∀ (k j : Nat), j ≤ k → tot rs j ≤ tot rs k := by
  intro k
  induction k with
  | zero => intro j h; rw [show j = 0 by omega]; exact Nat.le_refl _
  | succ k ih =>
    intro j h
    by_cases e : j = k + 1
    · rw [e]; exact Nat.le_refl _
    · have := ih j (by omega)
      simp only [tot]; omega
theorem sml_tot {rs : List R} (h : tot rs rs.length ≤ 1048576) : SmlR rs := by
  intro i hi
  have := tot_mono rs rs.length (i + 1) hi
  simp only [tot] at this
  omega
theorem own_has {w : World} {base g n c E : Nat} {rs : List R} (h : w.ownsRow base E 15 (.slice (some ⟨g, 0, none⟩) n c) n (flat rs)) (hT : ∀ i, i < rs.length → Lst w (rs.getD i r0)) : HasR w (some ⟨g, 0, none⟩) rs := by
  have hl := h.1
  rw [flat_len] at hl
  refine .inr ⟨g, 0, rfl, (h.lt g rfl).2, fun i hi => ⟨fun j hj => ?_, hT i hi⟩⟩
  rw [Nat.zero_add]
  exact (h.cellAt (i * 15 + j) (by omega)).trans (flat_get rs i j hi hj)
/-- Two lists of rows say the same. -/
def Same (n : Nat) (rs rs' : List R) : Prop := ∀ i, i < n → pl (rs'.getD i r0) = pl (rs.getD i r0)

set_option maxHeartbeats 4000000 in
set_option maxRecDepth 10000 in
theorem f29 (q : R) (L : Int) (w : World) (hL0 : 0 ≤ L) (hL1 : L ≤ 1048576) (hr : Lst w q) (hf : Ft q) :
    Calls Tryz.prog 29 #[agR q, .int .i64 L] w fun e w' => ∃ y : Int, e = .returned (.int .i64 y) ∧ -1 ≤ y ∧ y ≤ L ∧ (0 ≤ y → wt q + y ≤ L) ∧ Below w.heap.size w w' := by
  have HB0 := hid ((Below.refl w.heap.size w).alloc (Nat.le_refl _) (.cells (arR q) 52))
  have HX0 := hid (heap_alloc_new w (.cells (arR q) 52))
  have HL0 := hid (hr.below HB0.out)
  have HF := hid hf
  have ht : q.tx.size ≤ maxLen := hf.tx
  unfold maxLen at ht
  clear hr hf
  simp only [agR]
  simp only [arR] at HB0 HX0 HL0
  by_cases h1 : L < q.tx.size
  · go_enter Tryz.func29, Tryz.ntmps29
    go_wp2
    go_ret
    exact ⟨-1, rfl, by omega, by omega, fun h => absurd h (by omega), HB0.out⟩
  go_enter Tryz.func29, Tryz.ntmps29
  go_wp2_with fail
  refine (f59u q.ma q.ms.length q.mc (L - q.tx.size) q.ms _ (by omega) (by omega) rfl HL0.out.m HF.out.ms.1 HF.out.ms.2).mono ?_
  rintro e w1 ⟨y, rfl, y0, y1, hy, hb1⟩
  have HB1 := hid (HB0.out.trans (hb1.mono HB0.out.size))
  have HX1 := hid (kept HX0.out hb1)
  have HL1 := hid (HL0.out.below hb1)
  clear hb1 HX0 HL0 HB0
  by_cases g0 : y < 0
  · go_wp2
    go_ret
    exact ⟨-1, rfl, by omega, by omega, fun h => absurd h (by omega), HB1.out⟩
  have HY := hid (hy (by omega))
  clear hy
  obtain ⟨c0, c1, c2, c3, c4, c5, c6, c7, c8, c9, c10, c11, c12, c13, c14⟩ := fifteen HX1.out
  clear c0 c1 c2 c3 c4 c5 c6 c7 c8 c9 c10 c12 c13 c14
  go_wp2_with fail
  refine (f60u q.na q.ns.length q.nc y q.ns _ (by omega) (by omega) rfl HL1.out.n HF.out.ns.1 HF.out.ns.2).mono ?_
  rintro e w2 ⟨z, rfl, z0, z1, hz, hb2⟩
  have HB2 := hid (HB1.out.trans (hb2.mono HB1.out.size))
  have HX2 := hid (kept HX1.out hb2)
  have HL2 := hid (HL1.out.below hb2)
  clear hb2 HX1 HL1 HB1 c11
  by_cases g1 : z < 0
  · go_wp2
    go_ret
    exact ⟨-1, rfl, by omega, by omega, fun h => absurd h (by omega), HB2.out⟩
  have HZ := hid (hz (by omega))
  clear hz
  obtain ⟨c0, c1, c2, c3, c4, c5, c6, c7, c8, c9, c10, c11, c12, c13, c14⟩ := fifteen HX2.out
  clear c0 c1 c2 c3 c4 c5 c6 c7 c8 c9 c10 c11 c12 c14
  go_wp2_with fail
  refine (f60u q.ea q.es.length q.ec z q.es _ (by omega) (by omega) rfl HL2.out.e HF.out.es.1 HF.out.es.2).mono ?_
  rintro e w3 ⟨u, rfl, u0, u1, hu, hb3⟩
  have HB3 := hid (HB2.out.trans (hb3.mono HB2.out.size))
  clear hb3 HX2 HL2 HB2 c13
  have HU := hid hu
  clear hu
  by_cases g2 : u < 0
  · go_wp2
    go_ret
    exact ⟨-1, rfl, by omega, by omega, fun h => absurd h (by omega), HB3.out⟩
  go_wp2
  go_ret
  exact ⟨u, rfl, by omega, by omega, fun h => by have := HU.out h; have := HZ.out; have := HY.out; unfold wt; omega, HB3.out⟩

set_option maxHeartbeats 2000000 in
set_option maxRecDepth 10000 in
theorem f8 (a : Option Addr) (n c : Nat) (L : Int) (rs : List R) (w : World) (hL0 : 0 ≤ L) (hL1 : L ≤ 1048576) (hn : rs.length = n) (hr : HasR w a rs) (hf : FitR rs) (hmax : n ≤ maxLen) :
    Calls Tryz.prog 8 #[.slice a n c, .int .i64 L] w fun e w' => ∃ y : Int, e = .returned (.int .i64 y) ∧ -1 ≤ y ∧ y ≤ L ∧ (0 ≤ y → n + tot rs n + y ≤ L) ∧ Below w.heap.size w w' := by
  unfold maxLen at hmax
  by_cases hbig : n ≤ L
  · have HN := hid hn
    have HR := hid hr
    have HF := hid hf
    clear hn hr hf
    go_enter Tryz.func8, Tryz.ntmps8
    go_wp2
    go_loopw [1, 5] (fun sx i wr => ∃ (k : Nat) (x : Int), k ≤ n ∧ i = .int .i64 k ∧ sx = .int .i64 x ∧ 0 ≤ x ∧ n + tot rs k + x ≤ L ∧ Hid (Below w.heap.size w wr)) (fun _ i _ => n - (intOf i).toNat)
    case atStart => exact ⟨0, _, Nat.zero_le _, rfl, rfl, by omega, by simp only [tot]; omega, Below.refl _ _⟩
    case round =>
      obtain ⟨k, x, hk, rfl, rfl, hx0, hx1, HB⟩ := hrel
      by_cases hlt : k < n
      · obtain ⟨b, off, rfl, hbl, hc, hl⟩ := (HR.out).at2 k (by rw [HN.out]; exact hlt)
        obtain ⟨d0, d1, d2, d3, d4, d5, d6, d7, d8, d9, d10, d11, d12, d13, d14⟩ := (hc.below HB.out hbl).all
        have HL := hid (hl.below HB.out)
        have G := hid (HF.out k)
        have HT : Hid (tot rs (k + 1) = tot rs k + wt (rs.getD k r0)) := rfl
        clear hc hl hbl
        generalize rs.getD k r0 = q at *
        go_wp2_with fail
        refine (f29 q x _ hx0 (by omega) HL.out G.out).mono ?_
        rintro e w2 ⟨y, rfl, y0, y1, hy, hb2⟩
        have HB2 := hid (HB.out.trans (hb2.mono HB.out.size))
        clear hb2 d0 d1 d2 d3 d4 d5 d6 d7 d8 d9 d10 d11 d12 d13 d14 HB
        by_cases hy0 : y < 0
        · go_wp2
          go_ret
          exact ⟨-1, rfl, by omega, by omega, fun h => absurd h (by omega), HB2.out⟩
        · have hy' := hid (hy (by omega))
          clear hy
          go_wp2
          go_roundw
          case rel => exact ⟨k + 1, y, by omega, by go_num, rfl, by omega, by rw [HT.out]; have := hy'.out; omega, HB2.out⟩
          case measure => simp [intOf]; omega
      · obtain rfl : k = n := by omega
        go_wp2
        go_ret
        exact ⟨x, rfl, by omega, by omega, fun _ => by omega, HB.out⟩
  · go_enter Tryz.func8, Tryz.ntmps8
    go_wp2
    go_ret
    exact ⟨-1, rfl, by omega, by omega, by omega, Below.refl _ _⟩
end Go.Proofs.YtbdlahhejfamhaaGreatDoor.Qry
