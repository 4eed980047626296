/- What lists of structs with lists in them share. -/
import Derived.Test.YtbdlahhejfamhaaGreatDoorRC5
import Derived.Test.YtbdlahhejfamhaaGreatDoorRA2
import Derived.BigQuiet
import Derived.Deep.QuietTactic
import Derived.Deep.RegionHeld3
import Derived.Deep.CutRange
import Derived.Test.YtbdlahhejfamhaaGreatDoorRG1
import Derived.Test.YtbdlahhejfamhaaGreatDoorRQyc
namespace Go.Proofs.YtbdlahhejfamhaaGreatDoor.Rwc
open Go.RowKit
open Go.Proofs.YtbdlahhejfamhaaGreatDoor.Pat (Mt HasM)
open Go.Proofs.YtbdlahhejfamhaaGreatDoor.Fil (HasT)

theorem hid {p : Prop} (h : p) : Hid p := h
theorem lt_at {x : World} {b : Nat} {o : Obj} (h : x.heap[b]? = some o) : b < x.heap.size := (Array.getElem?_eq_some_iff.1 h).1
theorem kept {x y : World} {b : Nat} {o : Obj} (h : x.heap[b]? = some o) (hb : Below x.heap.size x y) : y.heap[b]? = some o := (hb.block b (lt_at h)).trans h
def In64 (x : Int) : Prop := -9223372036854775808 ≤ x ∧ x ≤ 9223372036854775807
theorem own_base {w : World} {base base' e size n : Nat} {v : Value} {xs : List Value} (h : w.ownsRow base e size v n xs) (hb : base' ≤ base) : w.ownsRow base' e size v n xs := by
  refine ⟨h.1, ?_⟩
  rcases h.2 with h2 | ⟨g, cap, cur, h1, h2, h3⟩
  · exact .inl h2
  · exact .inr ⟨g, cap, cur, h1, by omega, h3⟩
theorem own_set {w : World} {base e size n c g : Nat} {xs : List Value} {p : Addr} (h : w.ownsRow base e size (.slice (some ⟨g, 0, none⟩) n c) n xs) (hp : g ≠ p.block) (u : Value) : (w.setCell p u).ownsRow base e size (.slice (some ⟨g, 0, none⟩) n c) n xs := by
  refine h.kept (row := some p.block) ⟨rfl, rfl, rfl, by simp, fun j hj hne => Below.heap_setCell w p u j (fun e => hne (by rw [e]))⟩ (.inr ?_)
  intro e
  exact hp (Option.some.inj e)
theorem own_below {w w' : World} {base e size n : Nat} {v : Value} {xs : List Value} (h : w.ownsRow base e size v n xs) (hb : Below w.heap.size w w') : w'.ownsRow base e size v n xs :=
  h.kept (row := none) ⟨hb.os, hb.tape, hb.output, hb.size, fun k hk _ => hb.block k hk⟩ (by cases hv : v.ownBlock <;> simp)
theorem set_at {x : World} {b i : Nat} {cs : Array Value} {t : TypeId} {v : Value} (h : x.heap[b]? = some (.cells cs t)) : (x.setCell ⟨b, i, none⟩ v).heap[b]? = some (.cells (cs.setIfInBounds i v) t) := by
  have hlt := lt_at h
  have h' : x.heap[b] = .cells cs t := by simpa [Array.getElem?_eq_getElem hlt] using h
  show (x.heap.modify b _)[b]? = _
  rw [Array.getElem?_eq_getElem (by simpa using hlt), Array.getElem_modify_self, h']
  rfl
theorem set_else {x : World} {b : Nat} {p : Addr} {o : Obj} {v : Value} (h : x.heap[b]? = some o) (hp : b ≠ p.block) : (x.setCell p v).heap[b]? = some o := (Below.heap_setCell x p v b hp).trans h
theorem cell_at {w : World} {b : Nat} {t : TypeId} {cs : Array Value} {q : Nat × Nat} (h : w.heap[b]? = some (.cells cs t q)) (o : Nat) : w.cell? ⟨b, o, none⟩ = cs[o]? := by
  unfold World.cell?; simp only [h]; rfl
theorem froz_at {w : World} {b : Nat} {t : TypeId} {cs : Array Value} (h : w.heap[b]? = some (.cells cs t (0, 0))) (o : Nat) : w.frozen? ⟨b, o, none⟩ = false := by simp [World.frozen?, h]
theorem below_drew (w : World) : Below w.heap.size w w.drew := (Below.refl _ _).drew
end Go.Proofs.YtbdlahhejfamhaaGreatDoor.Rwc
/- Lists of labels in structs: measured, copied, compared. -/
namespace Go.Proofs.YtbdlahhejfamhaaGreatDoor.Lbw
open Go.RowKit
open Go.Proofs.YtbdlahhejfamhaaGreatDoor.Lab (Lb HasL)
open Go.Proofs.YtbdlahhejfamhaaGreatDoor.Rwc

set_option maxHeartbeats 1000000 in
theorem f150u (s t : ByteArray) (x : Int) (w : World) (hs : s.size ≤ maxLen) (ht : t.size ≤ maxLen) (hx0 : 0 ≤ x) (hx1 : x ≤ 1048576) :
    Calls Tryz.prog 150 #[.agg #[.string s, .string t], .int .i64 x] w fun e w' => ∃ y : Int, e = .returned (.int .i64 y) ∧ -1 ≤ y ∧ y ≤ x ∧ Below w.heap.size w w' := by
  unfold maxLen at hs ht
  have HB := hid ((Below.refl w.heap.size w).alloc (Nat.le_refl _) (.cells #[.string s, .string t] 201))
  by_cases h1 : x < s.size
  · go_enter Tryz.func150, Tryz.ntmps150
    go_wp2
    go_ret
    exact ⟨-1, rfl, by omega, by omega, HB.out⟩
  · by_cases h2 : x < s.size + t.size
    · go_enter Tryz.func150, Tryz.ntmps150
      go_wp2
      go_ret
      exact ⟨-1, rfl, by omega, by omega, HB.out⟩
    · go_enter Tryz.func150, Tryz.ntmps150
      go_wp2
      go_ret
      exact ⟨_, rfl, by omega, by omega, HB.out⟩

set_option maxHeartbeats 1000000 in
theorem f117u (a : Option Addr) (n c : Nat) (L : Int) (ls : List Lb) (w : World) (hL0 : 0 ≤ L) (hL1 : L ≤ 1048576) (hn : ls.length = n) (hr : HasL w a ls) (hf : Lab.Fit ls) (hmax : n ≤ maxLen) :
    Calls Tryz.prog 117 #[.slice a n c, .int .i64 L] w fun e w' => ∃ y : Int, e = .returned (.int .i64 y) ∧ -1 ≤ y ∧ y ≤ L ∧ (0 ≤ y → n + y ≤ L) ∧ Below w.heap.size w w' := by
  unfold maxLen at hmax
  by_cases hbig : n ≤ L
  · have HN := hid hn
    clear hn
    go_enter Tryz.func117, Tryz.ntmps117
    go_wp2
    go_loopw [1, 5] (fun sx i wr => ∃ (k : Nat) (x : Int), k ≤ n ∧ i = .int .i64 k ∧ sx = .int .i64 x ∧ 0 ≤ x ∧ n + x ≤ L ∧ Below w.heap.size w wr) (fun _ i _ => n - (intOf i).toNat)
    case atStart => exact ⟨0, _, Nat.zero_le _, rfl, rfl, by omega, by omega, Below.refl _ _⟩
    case round =>
      obtain ⟨k, x, hk, rfl, rfl, hx0, hx1, hb⟩ := hrel
      have HB := hid hb
      by_cases hlt : k < n
      · rcases hr with h | ⟨b, off, rfl, h2, h3⟩
        · exfalso; rw [h] at HN; have := HN.out; simp at this; omega
        obtain ⟨c0, c1⟩ := h3 k (by rw [HN.out]; exact hlt)
        obtain ⟨g0, g1⟩ := hf k
        have d0 := (hb.cell (p := ⟨b, off + k * 2, none⟩) h2).trans c0
        have d1 := (hb.cell (p := ⟨b, off + k * 2 + 1, none⟩) h2).trans c1
        clear h3 c0 c1 hb
        generalize (ls.getD k Lab.e0).1 = s at *
        generalize (ls.getD k Lab.e0).2 = t at *
        go_wp2_with fail
        refine (f150u s t x _ g0 g1 hx0 (by omega)).mono ?_
        rintro e w2 ⟨y, rfl, y0, y1, hb2⟩
        have HB2 := hid (HB.out.trans (hb2.mono HB.out.size))
        clear hb2 d0 d1
        by_cases hy : y < 0
        · go_wp2
          go_ret
          exact ⟨-1, rfl, by omega, by omega, fun h => absurd h (by omega), HB2.out⟩
        · go_wp2
          go_roundw
          case rel => exact ⟨k + 1, y, by omega, by go_num, rfl, by omega, by omega, HB2.out⟩
          case measure => simp [intOf]; omega
      · go_wp2
        go_ret
        exact ⟨x, rfl, by omega, by omega, fun _ => by omega, HB.out⟩
  · go_enter Tryz.func117, Tryz.ntmps117
    go_wp2
    go_ret
    exact ⟨-1, rfl, by omega, by omega, by omega, Below.refl _ _⟩

theorem f123 (a : Option Addr) (n c : Nat) (ls : List Lb) (w : World) (hn : ls.length = n) (hb : n ≤ 1048576) (hr : HasL w a ls) :
    Calls Tryz.prog 123 #[.slice a n c] w fun e w' => e = .returned (.slice (some ⟨w.heap.size, 0, none⟩) n n) ∧
      w'.ownsRow w.heap.size 180 2 (.slice (some ⟨w.heap.size, 0, none⟩) n n) n (Lab.flat ls) ∧ Below w.heap.size w w' := Lab.f123 a n c ls w hn hb hr
theorem f131 (a a' : Option Addr) (n c c' : Nat) (ls : List Lb) (w : World) (hn : ls.length = n) (hb : n ≤ 1048576) (hr : HasL w a ls) (hr' : HasL w a' ls) :
    Calls Tryz.prog 131 #[.slice a n c, .slice a' n c'] w fun e w' => e = .returned (.bool true) ∧ Below w.heap.size w w' := Lab.f131 a a' n c c' ls w hn hb hr hr'
end Go.Proofs.YtbdlahhejfamhaaGreatDoor.Lbw
/- Lists of rules: how they lie in memory; measured, copied, compared. -/
namespace Go.Proofs.YtbdlahhejfamhaaGreatDoor.Rul
open Go.RowKit
open Go.Proofs.YtbdlahhejfamhaaGreatDoor.Pat (Mt HasM)
open Go.Proofs.YtbdlahhejfamhaaGreatDoor.Fil (HasT)
open Go.Proofs.YtbdlahhejfamhaaGreatDoor.Lab (Lb HasL)
open Go.Proofs.YtbdlahhejfamhaaGreatDoor.Qry (R)
open Go.Proofs.YtbdlahhejfamhaaGreatDoor.Rwc

structure T where
  n : ByteArray
  al : Bool
  es : List R
  ea : Option Addr
  ec : Nat
  fo : Int
  ke : Int
  ls : List Lb
  la : Option Addr
  lc : Nat
  tx : ByteArray
structure Pl where
  n : ByteArray
  al : Bool
  es : List Qry.Pl
  fo : Int
  ke : Int
  ls : List Lb
  tx : ByteArray
def pl (q : T) : Pl := ⟨q.n, q.al, q.es.map Qry.pl, q.fo, q.ke, q.ls, q.tx⟩
def t0 : T := ⟨ByteArray.empty, false, [], none, 0, 0, 0, [], none, 0, ByteArray.empty⟩
instance : Inhabited T := ⟨t0⟩
def cl (q : T) : List Value := [.string q.n, .bool q.al, .slice q.ea q.es.length q.ec, .int .i64 q.fo, .int .i64 q.ke, .slice q.la q.ls.length q.lc, .string q.tx]
abbrev arT (q : T) : Array Value := #[.string q.n, .bool q.al, .slice q.ea q.es.length q.ec, .int .i64 q.fo, .int .i64 q.ke, .slice q.la q.ls.length q.lc, .string q.tx]
abbrev agT (q : T) : Value := .agg #[.string q.n, .bool q.al, .slice q.ea q.es.length q.ec, .int .i64 q.fo, .int .i64 q.ke, .slice q.la q.ls.length q.lc, .string q.tx]
def flat (L : List T) : List Value := L.flatMap cl
theorem cl_len (q : T) : (cl q).length = 7 := rfl
theorem flat_cons (q : T) (L : List T) : flat (q :: L) = cl q ++ flat L := rfl
theorem flat_len (L : List T) : (flat L).length = L.length * 7 := by
  induction L with
  | nil => rfl
  | cons q L ih => rw [flat_cons, List.length_append, ih, cl_len, List.length_cons]; omega
theorem flat_get : ∀ (L : List T) (i j : Nat), i < L.length → j < 7 → (flat L)[i * 7 + j]? = (cl (L.getD i t0))[j]? := by
  intro L
  induction L with
  | nil => intro i j h; simp at h
  | cons p L ih =>
    intro i j h hj
    cases i with
    | zero => rw [flat_cons, Nat.zero_mul, Nat.zero_add, List.getElem?_append_left (by rw [cl_len]; exact hj)]; rfl
    | succ i =>
      have := ih i j (by simpa using h) hj
      rw [flat_cons, show (i + 1) * 7 + j = i * 7 + j + 7 by omega, List.getElem?_append_right (by rw [cl_len]; omega), cl_len, Nat.add_sub_cancel, this]
      rfl
theorem flat_set : ∀ (L : List T) (i : Nat) (q : T), i < L.length → (((((((flat L).set (i * 7) (.string q.n)).set (i * 7 + 1) (.bool q.al)).set (i * 7 + 2) (.slice q.ea q.es.length q.ec)).set (i * 7 + 3) (.int .i64 q.fo)).set (i * 7 + 4) (.int .i64 q.ke)).set (i * 7 + 5) (.slice q.la q.ls.length q.lc)).set (i * 7 + 6) (.string q.tx) = flat (L.set i q) := by
  intro L
  induction L with
  | nil => intro i q h; simp at h
  | cons p L ih =>
    intro i q h
    cases i with
    | zero => rfl
    | succ i =>
      have := ih i q (by simpa using h)
      rw [flat_cons, List.set_cons_succ, flat_cons, ← this]
      rw [show (i + 1) * 7 = i * 7 + 7 by omega]
      simp only [cl, List.cons_append, List.nil_append, List.set_cons_succ, show i * 7 + 7 + 1 = i * 7 + 1 + 7 from by omega, show i * 7 + 7 + 2 = i * 7 + 2 + 7 from by omega, show i * 7 + 7 + 3 = i * 7 + 3 + 7 from by omega, show i * 7 + 7 + 4 = i * 7 + 4 + 7 from by omega, show i * 7 + 7 + 5 = i * 7 + 5 + 7 from by omega, show i * 7 + 7 + 6 = i * 7 + 6 + 7 from by omega]
theorem made (n : Nat) : (madeCells #[.string ⟨#[]⟩, .bool false, .slice none 0 0, .int .i64 0, .int .i64 0, .slice none 0 0, .string ⟨#[]⟩] (n * 7)).toList = flat (List.replicate n t0) := by
  apply List.ext_getElem?
  intro j
  by_cases hj : j < n * 7
  · have hl : j / 7 < (List.replicate n t0).length := by simp; omega
    have h2 : (List.replicate n t0).getD (j / 7) t0 = t0 := by
      rw [List.getD_eq_getElem?_getD, List.getElem?_replicate]; split <;> rfl
    have g := flat_get _ (j / 7) (j % 7) hl (by omega)
    rw [h2, show j / 7 * 7 + j % 7 = j by omega] at g
    rw [g]
    unfold madeCells
    have hm : j % 7 < 7 := by omega
    simp [hj]
    generalize j % 7 = r at *
    rcases (show r = 0 ∨ r = 1 ∨ r = 2 ∨ r = 3 ∨ r = 4 ∨ r = 5 ∨ r = 6 by omega) with rfl | rfl | rfl | rfl | rfl | rfl | rfl <;> rfl
  · rw [List.getElem?_eq_none (by simp [size_madeCells]; omega), List.getElem?_eq_none (by rw [flat_len]; simp; omega)]
def Cells (w : World) (b o : Nat) (q : T) : Prop := ∀ j, j < 7 → w.cell? ⟨b, o + j, none⟩ = (cl q)[j]?
theorem Cells.below {w w' : World} {b o : Nat} {q : T} (h : Cells w b o q) (hb : Below w.heap.size w w') (hl : b < w.heap.size) : Cells w' b o q := fun j hj => (hb.cell (by exact hl)).trans (h j hj)
theorem Cells.all {w : World} {b o : Nat} {q : T} (h : Cells w b o q) : w.cell? ⟨b, o, none⟩ = some (.string q.n) ∧ w.cell? ⟨b, o + 1, none⟩ = some (.bool q.al) ∧ w.cell? ⟨b, o + 2, none⟩ = some (.slice q.ea q.es.length q.ec) ∧ w.cell? ⟨b, o + 3, none⟩ = some (.int .i64 q.fo) ∧ w.cell? ⟨b, o + 4, none⟩ = some (.int .i64 q.ke) ∧ w.cell? ⟨b, o + 5, none⟩ = some (.slice q.la q.ls.length q.lc) ∧ w.cell? ⟨b, o + 6, none⟩ = some (.string q.tx) :=
  ⟨h 0 (by omega), h 1 (by omega), h 2 (by omega), h 3 (by omega), h 4 (by omega), h 5 (by omega), h 6 (by omega)⟩
theorem cellsN {x : World} {b : Nat} {v0 v1 v2 v3 v4 v5 v6 : Value} {t : TypeId} (h : x.heap[b]? = some (.cells #[v0, v1, v2, v3, v4, v5, v6] t)) : x.cell? ⟨b, 0, none⟩ = some v0 ∧ x.cell? ⟨b, 1, none⟩ = some v1 ∧ x.cell? ⟨b, 2, none⟩ = some v2 ∧ x.cell? ⟨b, 3, none⟩ = some v3 ∧ x.cell? ⟨b, 4, none⟩ = some v4 ∧ x.cell? ⟨b, 5, none⟩ = some v5 ∧ x.cell? ⟨b, 6, none⟩ = some v6 :=
  ⟨cell_at h 0, cell_at h 1, cell_at h 2, cell_at h 3, cell_at h 4, cell_at h 5, cell_at h 6⟩
theorem frozN {x : World} {b : Nat} {v0 v1 v2 v3 v4 v5 v6 : Value} {t : TypeId} (h : x.heap[b]? = some (.cells #[v0, v1, v2, v3, v4, v5, v6] t)) : x.frozen? ⟨b, 0, none⟩ = false ∧ x.frozen? ⟨b, 1, none⟩ = false ∧ x.frozen? ⟨b, 2, none⟩ = false ∧ x.frozen? ⟨b, 3, none⟩ = false ∧ x.frozen? ⟨b, 4, none⟩ = false ∧ x.frozen? ⟨b, 5, none⟩ = false ∧ x.frozen? ⟨b, 6, none⟩ = false :=
  ⟨froz_at h 0, froz_at h 1, froz_at h 2, froz_at h 3, froz_at h 4, froz_at h 5, froz_at h 6⟩
structure Lst (w : World) (q : T) : Prop where
  e : Qry.HasR w q.ea q.es
  l : HasL w q.la q.ls
theorem Lst.below {w w' : World} {q : T} (h : Lst w q) (hb : Below w.heap.size w w') : Lst w' q := ⟨h.e.below hb, h.l.below hb⟩
def Has (w : World) (a : Option Addr) (ts : List T) : Prop :=
  ts = [] ∨ ∃ b off, a = some ⟨b, off, none⟩ ∧ b < w.heap.size ∧ ∀ i, i < ts.length → Cells w b (off + i * 7) (ts.getD i t0) ∧ Lst w (ts.getD i t0)
theorem Has.below {w w' : World} {a : Option Addr} {ts : List T} (h : Has w a ts) (hb : Below w.heap.size w w') : Has w' a ts := by
  rcases h with h | ⟨b, off, h1, h2, h3⟩
  · exact .inl h
  · exact .inr ⟨b, off, h1, Nat.lt_of_lt_of_le h2 hb.size, fun i hi => ⟨(h3 i hi).1.below hb h2, (h3 i hi).2.below hb⟩⟩
theorem Has.at2 {w : World} {a : Option Addr} {ts : List T} (h : Has w a ts) (i : Nat) (hi : i < ts.length) : ∃ b off, a = some ⟨b, off, none⟩ ∧ b < w.heap.size ∧ Cells w b (off + i * 7) (ts.getD i t0) ∧ Lst w (ts.getD i t0) := by
  rcases h with h | ⟨b, off, h1, h2, h3⟩
  · rw [h] at hi; simp at hi
  · exact ⟨b, off, h1, h2, h3 i hi⟩
structure Ft (q : T) : Prop where
  n : q.n.size ≤ maxLen
  e : Qry.FitR q.es ∧ q.es.length ≤ maxLen
  fo : In64 q.fo
  ke : In64 q.ke
  l : Lab.Fit q.ls ∧ q.ls.length ≤ maxLen
  tx : q.tx.size ≤ maxLen
def Fit (ts : List T) : Prop := ∀ i, Ft (ts.getD i t0)
def wt (q : T) : Nat := q.es.length + Qry.tot q.es q.es.length + q.ls.length
def tot (ts : List T) : Nat → Nat
  | 0 => 0
  | k + 1 => tot ts k + wt (ts.getD k t0)
def Sml (ts : List T) : Prop := ∀ i, i < ts.length → wt (ts.getD i t0) ≤ 1048576
theorem tot_mono (ts : List T) : ∀ (k j : Nat), j ≤ k → tot ts j ≤ tot ts k := by
  intro k
  induction k with
  | zero => intro j h; rw [show j = 0 by omega]; exact Nat.le_refl _
  | succ k ih =>
    intro j h
    by_cases e : j = k + 1
    · rw [e]; exact Nat.le_refl _
    · have := ih j (by omega)
      simp only [tot]; omega
theorem sml_tot {ts : List T} (h : tot ts ts.length ≤ 1048576) : Sml ts := by
  intro i hi
  have := tot_mono ts ts.length (i + 1) hi
  simp only [tot] at this
  omega
def Same (n : Nat) (ts ts' : List T) : Prop := ∀ i, i < n → pl (ts'.getD i t0) = pl (ts.getD i t0)

set_option maxHeartbeats 4000000 in
theorem f89 (q : T) (L : Int) (w : World) (hL0 : 0 ≤ L) (hL1 : L ≤ 1048576) (hr : Lst w q) (hf : Ft q) :
    Calls Tryz.prog 89 #[agT q, .int .i64 L] w fun e w' => ∃ y : Int, e = .returned (.int .i64 y) ∧ -1 ≤ y ∧ y ≤ L ∧ (0 ≤ y → wt q + y ≤ L) ∧ Below w.heap.size w w' := by
  have HB0 := hid ((Below.refl w.heap.size w).alloc (Nat.le_refl _) (.cells (arT q) 155))
  have HX0 := hid (heap_alloc_new w (.cells (arT q) 155))
  have HR := hid hr
  have HF := hid hf
  have htn : q.n.size ≤ maxLen := hf.n
  unfold maxLen at htn
  have httx : q.tx.size ≤ maxLen := hf.tx
  unfold maxLen at httx
  clear hr hf
  obtain ⟨W0, hW⟩ : ∃ W, W = w.alloc (.cells (arT q) 155) := ⟨_, rfl⟩
  rw [← hW] at HB0 HX0
  have HW := hid hW
  clear hW
  simp only [agT]
  go_enter Tryz.func89, Tryz.ntmps89
  go_upto_region 1 with fail
  rw [← HW.out]
  clear HW
  obtain ⟨y, hy⟩ : ∃ y : Int, y = L := ⟨_, rfl⟩
  have HY0 : Hid (0 + y ≤ L) := by unfold Hid; omega
  have hy0 : 0 ≤ y := by omega
  have hyL : y ≤ L := by omega
  rw [← hy]
  have HLY := hid hyL
  clear hy
  obtain ⟨c0, c1, c2, c3, c4, c5, c6⟩ := cellsN HX0.out
  by_cases gn : y < q.n.size
  · go_wp2
    go_ret
    exact ⟨-1, rfl, by omega, by omega, fun h => absurd h (by omega), HB0.out⟩
  clear c0 c1 c2 c3 c4 c5 c6
  obtain ⟨c0, c1, c2, c3, c4, c5, c6⟩ := cellsN HX0.out
  go_wp2_with fail
  refine (Qry.f8 q.ea q.es.length q.ec (y - q.n.size) q.es _ (by omega) (by omega) rfl (HR.out.e.below HB0.out) HF.out.e.1 HF.out.e.2).mono ?_
  rintro e w1 ⟨u2, rfl, u2l, u2h, hu, hb⟩
  have HB1 := hid (HB0.out.trans (hb.mono HB0.out.size))
  have HX1 := hid (kept HX0.out hb)
  have HU2 := hid hu
  clear hb hu c0 c1 c2 c3 c4 c5 c6
  by_cases g2 : u2 < 0
  · go_wp2
    go_ret
    exact ⟨-1, rfl, by omega, by omega, fun h => absurd h (by omega), HB1.out⟩
  have HV2 := hid (HU2.out (by omega))
  obtain ⟨c0, c1, c2, c3, c4, c5, c6⟩ := cellsN HX1.out
  go_wp2_with fail
  refine (Lbw.f117u q.la q.ls.length q.lc u2 q.ls _ (by omega) (by omega) rfl (HR.out.l.below HB1.out) HF.out.l.1 HF.out.l.2).mono ?_
  rintro e w2 ⟨u5, rfl, u5l, u5h, hu, hb⟩
  have HB2 := hid (HB1.out.trans (hb.mono HB1.out.size))
  have HX2 := hid (kept HX1.out hb)
  have HU5 := hid hu
  clear hb hu c0 c1 c2 c3 c4 c5 c6
  by_cases g5 : u5 < 0
  · go_wp2
    go_ret
    exact ⟨-1, rfl, by omega, by omega, fun h => absurd h (by omega), HB2.out⟩
  have HV5 := hid (HU5.out (by omega))
  obtain ⟨c0, c1, c2, c3, c4, c5, c6⟩ := cellsN HX2.out
  by_cases gtx : u5 < q.tx.size
  · go_wp2
    go_ret
    exact ⟨-1, rfl, by omega, by omega, fun h => absurd h (by omega), HB2.out⟩
  go_wp2
  go_ret
  exact ⟨(u5 - q.tx.size), rfl, by omega, by omega, fun _ => by have := HV2.out; have := HV5.out; unfold wt; omega, HB2.out⟩

set_option maxHeartbeats 2000000 in
theorem f54 (a : Option Addr) (n c : Nat) (L : Int) (ts : List T) (w : World) (hL0 : 0 ≤ L) (hL1 : L ≤ 1048576) (hn : ts.length = n) (hr : Has w a ts) (hf : Fit ts) (hmax : n ≤ maxLen) :
    Calls Tryz.prog 54 #[.slice a n c, .int .i64 L] w fun e w' => ∃ y : Int, e = .returned (.int .i64 y) ∧ -1 ≤ y ∧ y ≤ L ∧ (0 ≤ y → n + tot ts n + y ≤ L) ∧ Below w.heap.size w w' := by
  unfold maxLen at hmax
  by_cases hbig : n ≤ L
  · have HN := hid hn
    have HR := hid hr
    have HF := hid hf
    clear hn hr hf
    go_enter Tryz.func54, Tryz.ntmps54
    go_wp2
    go_loopw [1, 5] (fun sx i wr => ∃ (k : Nat) (x : Int), k ≤ n ∧ i = .int .i64 k ∧ sx = .int .i64 x ∧ 0 ≤ x ∧ n + tot ts k + x ≤ L ∧ Hid (Below w.heap.size w wr)) (fun _ i _ => n - (intOf i).toNat)
    case atStart => exact ⟨0, _, Nat.zero_le _, rfl, rfl, by omega, by simp only [tot]; omega, Below.refl _ _⟩
    case round =>
      obtain ⟨k, x, hk, rfl, rfl, hx0, hx1, HB⟩ := hrel
      by_cases hlt : k < n
      · obtain ⟨b, off, rfl, hbl, hc, hl⟩ := (HR.out).at2 k (by rw [HN.out]; exact hlt)
        obtain ⟨d0, d1, d2, d3, d4, d5, d6⟩ := (hc.below HB.out hbl).all
        have HL := hid (hl.below HB.out)
        have G := hid (HF.out k)
        have HT : Hid (tot ts (k + 1) = tot ts k + wt (ts.getD k t0)) := rfl
        clear hc hl hbl
        generalize ts.getD k t0 = q at *
        go_wp2_with fail
        refine (f89 q x _ hx0 (by omega) HL.out G.out).mono ?_
        rintro e w2 ⟨y, rfl, y0, y1, hy, hb2⟩
        have HB2 := hid (HB.out.trans (hb2.mono HB.out.size))
        clear hb2 d0 d1 d2 d3 d4 d5 d6 HB
        by_cases hy0 : y < 0
        · go_wp2
          go_ret
          exact ⟨-1, rfl, by omega, by omega, fun h => absurd h (by omega), HB2.out⟩
        · have hy' := hid (hy (by omega))
          clear hy
          go_wp2
          go_roundw
          case rel => exact ⟨k + 1, y, by omega, by go_num, rfl, by omega, by rw [HT.out]; have := hy'.out; omega, HB2.out⟩
          case measure => simp [intOf]; omega
      · obtain rfl : k = n := by omega
        go_wp2
        go_ret
        exact ⟨x, rfl, by omega, by omega, fun _ => by omega, HB.out⟩
  · go_enter Tryz.func54, Tryz.ntmps54
    go_wp2
    go_ret
    exact ⟨-1, rfl, by omega, by omega, by omega, Below.refl _ _⟩

theorem sameQ {n : Nat} {rs d : List R} (h : Qry.SameTo n rs d) : Qry.Same n rs d := fun i hi => (h i hi).1
theorem map_sameQ {n : Nat} {rs d : List R} (h : Qry.Same n rs d) (hn : rs.length = n) (hd : d.length = n) : d.map Qry.pl = rs.map Qry.pl := by
  apply List.ext_getElem
  · simp [hn, hd]
  · intro i h1 h2
    have hi : i < n := by simpa [hd] using h1
    have := h i hi
    simpa [List.getD_eq_getElem?_getD, hn, hd, hi] using this
theorem cellQ {w w' : World} {p : Addr} (h : w'.heap[p.block]? = w.heap[p.block]?) : w'.cell? p = w.cell? p := by
  unfold World.cell?
  rw [h]
def InR (B U : Nat) (w : World) (a : Option Addr) (rs : List R) : Prop := ∀ w', w.heap.size ≤ w'.heap.size → (∀ b, B ≤ b → b < U → b < w.heap.size → w'.heap[b]? = w.heap[b]?) → Qry.HasR w' a rs
theorem InR.has {B U : Nat} {w : World} {a : Option Addr} {rs : List R} (h : InR B U w a rs) : Qry.HasR w a rs := h w (Nat.le_refl _) (fun _ _ _ _ => rfl)
theorem InR.below {B U : Nat} {w w' : World} {a : Option Addr} {rs : List R} (h : InR B U w a rs) (hb : Below w.heap.size w w') : InR B U w' a rs := fun x hs hx =>
  h x (Nat.le_trans hb.size hs) fun b h1 h2 h3 => (hx b h1 h2 (Nat.lt_of_lt_of_le h3 hb.size)).trans (hb.block b h3)
theorem InR.set {B U : Nat} {w : World} {a : Option Addr} {rs : List R} (h : InR B U w a rs) {p : Addr} (hp : p.block < B ∨ U ≤ p.block) (v : Value) : InR B U (w.setCell p v) a rs := fun x hs hx =>
  h x (by simpa using hs) fun b h1 h2 h3 => (hx b h1 h2 (by simpa using h3)).trans (Below.heap_setCell w p v b (by omega))
theorem InR.wide {B U C V : Nat} {w : World} {a : Option Addr} {rs : List R} (h : InR B U w a rs) (hB : C ≤ B) (hU : U ≤ V) : InR C V w a rs := fun x hs hx =>
  h x hs fun b h1 h2 h3 => hx b (by omega) (by omega) h3
theorem row_agree {w w' : World} {g off : Nat} {rs : List R} (hg : w'.heap[g]? = w.heap[g]?) (hs : g < w'.heap.size) (hc : ∀ i, i < rs.length → Qry.Cells w g (off + i * 15) (rs.getD i Qry.r0)) (hl : ∀ i, i < rs.length → Qry.Lst w' (rs.getD i Qry.r0)) : Qry.HasR w' (some ⟨g, off, none⟩) rs :=
  .inr ⟨g, off, rfl, hs, fun i hi => ⟨fun j hj => (cellQ (p := ⟨g, off + i * 15 + j, none⟩) hg).trans (hc i hi j hj), hl i hi⟩⟩
theorem hasM_agree {w w' : World} {g base n c : Nat} {a : Option Addr} {ms : List Mt} (ha : a = some ⟨g, 0, none⟩) (ho : w.ownsRow base 138 3 (.slice (some ⟨g, 0, none⟩) n c) n (Pat.flatM ms)) (hg : w'.heap[g]? = w.heap[g]?) : HasM w' a ms := by
  rw [ha]
  have hlt : g < w'.heap.size := by
    have h1 := (ho.lt g rfl).2
    rcases Nat.lt_or_ge g w'.heap.size with h | h
    · exact h
    · rw [Array.getElem?_eq_none h, Array.getElem?_eq_getElem h1] at hg; cases hg
  rcases Pat.HasM.own ho with h | ⟨b, off, h1, h2, h3⟩
  · exact .inl h
  · obtain ⟨rfl, rfl, _⟩ : g = b ∧ 0 = off ∧ True := by injection h1 with h; injection h with h4 h5 _; exact ⟨h4, h5, trivial⟩
    refine .inr ⟨g, 0, rfl, hlt, fun i hi => ?_⟩
    obtain ⟨k0, k1, k2⟩ := h3 i hi
    exact ⟨(cellQ (p := ⟨g, 0 + i * 3, none⟩) hg).trans k0, (cellQ (p := ⟨g, 0 + i * 3 + 1, none⟩) hg).trans k1, (cellQ (p := ⟨g, 0 + i * 3 + 2, none⟩) hg).trans k2⟩
theorem hasT_agree {w w' : World} {g base n c : Nat} {a : Option Addr} {ss : List ByteArray} (ha : a = some ⟨g, 0, none⟩) (ho : w.ownsRow base 9 1 (.slice (some ⟨g, 0, none⟩) n c) n (ss.map Value.string)) (hg : w'.heap[g]? = w.heap[g]?) : HasT w' a ss := by
  rw [ha]
  have hlt : g < w'.heap.size := by
    have h1 := (ho.lt g rfl).2
    rcases Nat.lt_or_ge g w'.heap.size with h | h
    · exact h
    · rw [Array.getElem?_eq_none h, Array.getElem?_eq_getElem h1] at hg; cases hg
  rcases Fil.HasT.own ho with h | ⟨b, off, h1, h2, h3⟩
  · exact .inl h
  · obtain ⟨rfl, rfl, _⟩ : g = b ∧ 0 = off ∧ True := by injection h1 with h; injection h with h4 h5 _; exact ⟨h4, h5, trivial⟩
    exact .inr ⟨g, 0, rfl, hlt, fun i hi => (cellQ (p := ⟨g, 0 + i, none⟩) hg).trans (h3 i hi)⟩
theorem InR.of {X g n : Nat} {rs : List R} {w : World} (h : Qry.OwnR X g n rs w) : InR X w.heap.size w (some ⟨g, 0, none⟩) rs := by
  intro x hs hx
  have hg := h.row.lt g rfl
  have hn : rs.length = n := h.kin.len
  have hrow := h.row.1
  refine row_agree (w := w) (hx g hg.1 hg.2 hg.2) (Nat.lt_of_lt_of_le hg.2 hs) (fun i hi j hj => ?_) (fun i hi => ?_)
  · rw [Nat.zero_add]
    rw [Qry.flat_len] at hrow
    exact (h.row.cellAt (i * 15 + j) (by omega)).trans (Qry.flat_get rs i j hi hj)
  · have o := h.kin.own i (by omega)
    have m1 := o.m.lt _ rfl
    have m2 := o.n.lt _ rfl
    have m3 := o.e.lt _ rfl
    exact ⟨hasM_agree o.h1 o.m (hx _ m1.1 m1.2 m1.2), hasT_agree o.h2 o.n (hx _ m2.1 m2.2 m2.2), hasT_agree o.h3 o.e (hx _ m3.1 m3.2 m3.2)⟩
def InU (B U : Nat) (w : World) (a : Option Addr) (rs : List R) : Prop := InR B U w a rs ∧ U ≤ w.heap.size
theorem InU.below {B U : Nat} {w w' : World} {a : Option Addr} {rs : List R} (h : InU B U w a rs) (hb : Below w.heap.size w w') : InU B U w' a rs := ⟨h.1.below hb, Nat.le_trans h.2 hb.size⟩
theorem InU.set {B U : Nat} {w : World} {a : Option Addr} {rs : List R} (h : InU B U w a rs) {p : Addr} (hp : p.block < B) (v : Value) : InU B U (w.setCell p v) a rs := ⟨h.1.set (.inl hp) v, by simpa using h.2⟩
theorem same_of_map {rs rs' : List R} (h : rs'.map Qry.pl = rs.map Qry.pl) : Qry.Same rs.length rs rs' := by
  intro i hi
  have hl : rs'.length = rs.length := by simpa using congrArg List.length h
  have e := congrArg (fun l => l[i]?) h
  simp only [List.getElem?_map] at e
  rw [List.getElem?_eq_getElem hi, List.getElem?_eq_getElem (by omega)] at e
  rw [List.getD_eq_getElem?_getD, List.getD_eq_getElem?_getD, List.getElem?_eq_getElem hi, List.getElem?_eq_getElem (by omega)]
  simpa using e
theorem same_len {rs rs' : List R} (h : rs'.map Qry.pl = rs.map Qry.pl) : rs'.length = rs.length := by simpa using congrArg List.length h
structure Own1 (X B U : Nat) (q : T) (w : World) : Prop where
  e : InR B U w q.ea q.es ∧ q.ec = q.es.length
  l : ∃ g, q.la = some ⟨g, 0, none⟩ ∧ B ≤ g ∧ g < U ∧ w.ownsRow X 180 2 (.slice (some ⟨g, 0, none⟩) q.ls.length q.lc) q.ls.length (Lab.flat q.ls)
theorem Own1.below {X B U : Nat} {q : T} {w w' : World} (h : Own1 X B U q w) (hb : Below w.heap.size w w') : Own1 X B U q w' := by
  obtain ⟨gl, xl, yl, zl, ol⟩ := h.l
  exact ⟨⟨h.e.1.below hb, h.e.2⟩, ⟨gl, xl, yl, zl, own_below ol hb⟩⟩
theorem Own1.set {X B U c o : Nat} {q : T} {w : World} (h : Own1 X B U q w) (hc : c < B ∨ U ≤ c) (v : Value) : Own1 X B U q (w.setCell ⟨c, o, none⟩ v) := by
  obtain ⟨gl, xl, yl, zl, ol⟩ := h.l
  exact ⟨⟨h.e.1.set hc v, h.e.2⟩, ⟨gl, xl, yl, zl, own_set ol (by simp only; omega) v⟩⟩
theorem Own1.wide {X Y B C U V : Nat} {q : T} {w : World} (h : Own1 X B U q w) (hX : Y ≤ X) (hB : C ≤ B) (hU : U ≤ V) : Own1 Y C V q w := by
  obtain ⟨gl, xl, yl, zl, ol⟩ := h.l
  exact ⟨⟨h.e.1.wide hB hU, h.e.2⟩, ⟨gl, xl, by omega, by omega, own_base ol hX⟩⟩
theorem Own1.lst {X B U : Nat} {q : T} {w : World} (h : Own1 X B U q w) : Lst w q := by
  obtain ⟨gl, xl, yl, zl, ol⟩ := h.l
  exact ⟨h.e.1.has, by rw [xl]; exact Lab.HasL.own ol⟩
structure Ti (w : World) (q : T) (m0 m1 m2 m3 m4 m5 m6 : Value) (W : World) : Prop where
  arg : W.heap[w.heap.size]? = some (.cells (arT q) 155)
  res : W.heap[w.heap.size + 1]? = some (.cells #[.string ⟨#[]⟩, .bool false, .slice none 0 0, .int .i64 0, .int .i64 0, .slice none 0 0, .string ⟨#[]⟩] 94)
  out : W.heap[w.heap.size + 2]? = some (.cells #[m0, m1, m2, m3, m4, m5, m6] 94)
  bel : Below w.heap.size w W
theorem Ti.mv {w W W' : World} {q : T} {m0 m1 m2 m3 m4 m5 m6 : Value} (h : Ti w q m0 m1 m2 m3 m4 m5 m6 W) (hb : Below W.heap.size W W') : Ti w q m0 m1 m2 m3 m4 m5 m6 W' :=
  ⟨kept h.arg hb, kept h.res hb, kept h.out hb, h.bel.trans (hb.mono h.bel.size)⟩
theorem Ti.s0 {w W : World} {q : T} {m0 m1 m2 m3 m4 m5 m6 : Value} (h : Ti w q m0 m1 m2 m3 m4 m5 m6 W) (x : Value) : Ti w q x m1 m2 m3 m4 m5 m6 (W.setCell ⟨w.heap.size + 2, 0, none⟩ x) := ⟨set_else h.arg (by simp only; omega), set_else h.res (by simp only; omega), set_at h.out, h.bel.setCell (by simp) _⟩
theorem Ti.s1 {w W : World} {q : T} {m0 m1 m2 m3 m4 m5 m6 : Value} (h : Ti w q m0 m1 m2 m3 m4 m5 m6 W) (x : Value) : Ti w q m0 x m2 m3 m4 m5 m6 (W.setCell ⟨w.heap.size + 2, 1, none⟩ x) := ⟨set_else h.arg (by simp only; omega), set_else h.res (by simp only; omega), set_at h.out, h.bel.setCell (by simp) _⟩
theorem Ti.s2 {w W : World} {q : T} {m0 m1 m2 m3 m4 m5 m6 : Value} (h : Ti w q m0 m1 m2 m3 m4 m5 m6 W) (x : Value) : Ti w q m0 m1 x m3 m4 m5 m6 (W.setCell ⟨w.heap.size + 2, 2, none⟩ x) := ⟨set_else h.arg (by simp only; omega), set_else h.res (by simp only; omega), set_at h.out, h.bel.setCell (by simp) _⟩
theorem Ti.s3 {w W : World} {q : T} {m0 m1 m2 m3 m4 m5 m6 : Value} (h : Ti w q m0 m1 m2 m3 m4 m5 m6 W) (x : Value) : Ti w q m0 m1 m2 x m4 m5 m6 (W.setCell ⟨w.heap.size + 2, 3, none⟩ x) := ⟨set_else h.arg (by simp only; omega), set_else h.res (by simp only; omega), set_at h.out, h.bel.setCell (by simp) _⟩
theorem Ti.s4 {w W : World} {q : T} {m0 m1 m2 m3 m4 m5 m6 : Value} (h : Ti w q m0 m1 m2 m3 m4 m5 m6 W) (x : Value) : Ti w q m0 m1 m2 m3 x m5 m6 (W.setCell ⟨w.heap.size + 2, 4, none⟩ x) := ⟨set_else h.arg (by simp only; omega), set_else h.res (by simp only; omega), set_at h.out, h.bel.setCell (by simp) _⟩
theorem Ti.s5 {w W : World} {q : T} {m0 m1 m2 m3 m4 m5 m6 : Value} (h : Ti w q m0 m1 m2 m3 m4 m5 m6 W) (x : Value) : Ti w q m0 m1 m2 m3 m4 x m6 (W.setCell ⟨w.heap.size + 2, 5, none⟩ x) := ⟨set_else h.arg (by simp only; omega), set_else h.res (by simp only; omega), set_at h.out, h.bel.setCell (by simp) _⟩
theorem Ti.s6 {w W : World} {q : T} {m0 m1 m2 m3 m4 m5 m6 : Value} (h : Ti w q m0 m1 m2 m3 m4 m5 m6 W) (x : Value) : Ti w q m0 m1 m2 m3 m4 m5 x (W.setCell ⟨w.heap.size + 2, 6, none⟩ x) := ⟨set_else h.arg (by simp only; omega), set_else h.res (by simp only; omega), set_at h.out, h.bel.setCell (by simp) _⟩
theorem Ti.first (w : World) (q : T) : Ti w q (.string ⟨#[]⟩) (.bool false) (.slice none 0 0) (.int .i64 0) (.int .i64 0) (.slice none 0 0) (.string ⟨#[]⟩) (((w.alloc (.cells (arT q) 155)).alloc (.cells #[.string ⟨#[]⟩, .bool false, .slice none 0 0, .int .i64 0, .int .i64 0, .slice none 0 0, .string ⟨#[]⟩] 94)).alloc (.cells #[.string ⟨#[]⟩, .bool false, .slice none 0 0, .int .i64 0, .int .i64 0, .slice none 0 0, .string ⟨#[]⟩] 94)) := by
  have b1 := fun (W : World) o => (Below.refl W.heap.size W).alloc (Nat.le_refl _) o
  refine ⟨kept (kept (heap_alloc_new w _) (b1 _ _)) (b1 _ _), ?_, ?_, ((b1 w _).alloc (by simp) _).alloc (by simp; omega) _⟩
  · have := kept (heap_alloc_new (w.alloc (.cells (arT q) 155)) (.cells #[.string ⟨#[]⟩, .bool false, .slice none 0 0, .int .i64 0, .int .i64 0, .slice none 0 0, .string ⟨#[]⟩] 94)) (b1 _ (.cells #[.string ⟨#[]⟩, .bool false, .slice none 0 0, .int .i64 0, .int .i64 0, .slice none 0 0, .string ⟨#[]⟩] 94))
    simpa using this
  · have := heap_alloc_new ((w.alloc (.cells (arT q) 155)).alloc (.cells #[.string ⟨#[]⟩, .bool false, .slice none 0 0, .int .i64 0, .int .i64 0, .slice none 0 0, .string ⟨#[]⟩] 94)) (.cells #[.string ⟨#[]⟩, .bool false, .slice none 0 0, .int .i64 0, .int .i64 0, .slice none 0 0, .string ⟨#[]⟩] 94)
    simpa using this

set_option maxRecDepth 100000 in
set_option maxHeartbeats 8000000 in
theorem f94 (q : T) (w : World) (hr : Lst w q) (hs : wt q ≤ 1048576) :
    Calls Tryz.prog 94 #[agT q] w fun e w' => ∃ q' : T, e = .returned (agT q') ∧ pl q' = pl q ∧ Own1 w.heap.size (w.heap.size + 3) w'.heap.size q' w' ∧ Below w.heap.size w w' := by
  have HR := hid hr
  clear hr
  unfold wt at hs
  have HT := hid (Ti.first w q)
  obtain ⟨W0, hW0⟩ : ∃ W, W = ((w.alloc (.cells (arT q) 155)).alloc (.cells #[.string ⟨#[]⟩, .bool false, .slice none 0 0, .int .i64 0, .int .i64 0, .slice none 0 0, .string ⟨#[]⟩] 94)).alloc (.cells #[.string ⟨#[]⟩, .bool false, .slice none 0 0, .int .i64 0, .int .i64 0, .slice none 0 0, .string ⟨#[]⟩] 94) := ⟨_, rfl⟩
  rw [← hW0] at HT
  have HW := hid hW0
  clear hW0
  simp only [agT]
  go_enter Tryz.func94, Tryz.ntmps94
  go_upto_region 2 with fail
  rw [← HW.out]
  clear HW
  obtain ⟨y0, y1, y2, y3, y4, y5, y6⟩ := cellsN HT.out.arg
  have HU := HT
  clear HT
  obtain ⟨x0, x1, x2, x3, x4, x5, x6⟩ := cellsN HU.out.out
  obtain ⟨f0, f1, f2, f3, f4, f5, f6⟩ := frozN HU.out.out
  have HT := hid (HU.out.s0 (.string q.n))
  obtain ⟨W1, hW⟩ : ∃ W, W = W0.setCell ⟨w.heap.size + 2, 0, none⟩ (.string q.n) := ⟨_, rfl⟩
  rw [← hW] at HT 
  have HW := hid hW
  clear hW HU
  go_upto_region 3 with fail
  rw [← HW.out]
  clear HW x0 x1 x2 x3 x4 x5 x6 f0 f1 f2 f3 f4 f5 f6 y0 y1 y2 y3 y4 y5 y6
  obtain ⟨y0, y1, y2, y3, y4, y5, y6⟩ := cellsN HT.out.arg
  have HU := HT
  clear HT
  obtain ⟨x0, x1, x2, x3, x4, x5, x6⟩ := cellsN HU.out.out
  obtain ⟨f0, f1, f2, f3, f4, f5, f6⟩ := frozN HU.out.out
  have HT := hid (HU.out.s1 (.bool q.al))
  obtain ⟨W2, hW⟩ : ∃ W, W = W1.setCell ⟨w.heap.size + 2, 1, none⟩ (.bool q.al) := ⟨_, rfl⟩
  rw [← hW] at HT 
  have HW := hid hW
  clear hW HU
  go_upto_region 4 with fail
  rw [← HW.out]
  clear HW x0 x1 x2 x3 x4 x5 x6 f0 f1 f2 f3 f4 f5 f6 y0 y1 y2 y3 y4 y5 y6
  obtain ⟨x0, x1, x2, x3, x4, x5, x6⟩ := cellsN HT.out.arg
  go_wp2_with fail
  refine (Qry.f10 q.ea q.es.length q.ec q.es _ rfl (by omega) (HR.out.e.below HT.out.bel) (Qry.sml_tot (by omega))).mono ?_
  rintro e v2 ⟨dq, rfl, hsq, hoq, hb⟩
  have hlq : dq.length = q.es.length := hoq.kin.len
  have HMQ := hid (map_sameQ (sameQ hsq) rfl hlq)
  have HLQ := hid hlq
  have ho := InR.of hoq
  clear hsq hlq
  have hlt : w.heap.size + 2 < W2.heap.size := lt_at HT.out.out
  have HQe : Hid (InU W2.heap.size v2.heap.size v2 (some ⟨W2.heap.size, 0, none⟩) dq) := ⟨ho, Nat.le_refl _⟩
  clear hoq
  have HGe := hid hlt
  have HU := hid (HT.out.mv hb)
  clear HT x0 x1 x2 x3 x4 x5 x6 ho hb hlt
  obtain ⟨Se, hS⟩ : ∃ S, S = W2.heap.size := ⟨_, rfl⟩
  rw [← hS] at HQe HGe ⊢
  clear hS
  obtain ⟨x0, x1, x2, x3, x4, x5, x6⟩ := cellsN HU.out.out
  obtain ⟨f0, f1, f2, f3, f4, f5, f6⟩ := frozN HU.out.out
  have HT := hid (HU.out.s2 (.slice (some ⟨Se, 0, none⟩) q.es.length q.es.length))
  have HQe' := hid (HQe.out.set (p := ⟨w.heap.size + 2, 2, none⟩) (by have := HGe.out; simp only; omega) (.slice (some ⟨Se, 0, none⟩) q.es.length q.es.length))
  clear HQe
  obtain ⟨W3, hW⟩ : ∃ W, W = v2.setCell ⟨w.heap.size + 2, 2, none⟩ (.slice (some ⟨Se, 0, none⟩) q.es.length q.es.length) := ⟨_, rfl⟩
  rw [← hW] at HT HQe'
  have HQe := HQe'
  clear HQe'
  have HW := hid hW
  clear hW HU
  go_upto_region 5 with fail
  rw [← HW.out]
  clear HW x0 x1 x2 x3 x4 x5 x6 f0 f1 f2 f3 f4 f5 f6
  obtain ⟨y0, y1, y2, y3, y4, y5, y6⟩ := cellsN HT.out.arg
  have HU := HT
  clear HT
  obtain ⟨x0, x1, x2, x3, x4, x5, x6⟩ := cellsN HU.out.out
  obtain ⟨f0, f1, f2, f3, f4, f5, f6⟩ := frozN HU.out.out
  have HT := hid (HU.out.s3 (.int .i64 q.fo))
  have HQe' := hid (HQe.out.set (p := ⟨w.heap.size + 2, 3, none⟩) (by have := HGe.out; simp only; omega) (.int .i64 q.fo))
  clear HQe
  obtain ⟨W4, hW⟩ : ∃ W, W = W3.setCell ⟨w.heap.size + 2, 3, none⟩ (.int .i64 q.fo) := ⟨_, rfl⟩
  rw [← hW] at HT HQe'
  have HQe := HQe'
  clear HQe'
  have HW := hid hW
  clear hW HU
  go_upto_region 6 with fail
  rw [← HW.out]
  clear HW x0 x1 x2 x3 x4 x5 x6 f0 f1 f2 f3 f4 f5 f6 y0 y1 y2 y3 y4 y5 y6
  obtain ⟨y0, y1, y2, y3, y4, y5, y6⟩ := cellsN HT.out.arg
  have HU := HT
  clear HT
  obtain ⟨x0, x1, x2, x3, x4, x5, x6⟩ := cellsN HU.out.out
  obtain ⟨f0, f1, f2, f3, f4, f5, f6⟩ := frozN HU.out.out
  have HT := hid (HU.out.s4 (.int .i64 q.ke))
  have HQe' := hid (HQe.out.set (p := ⟨w.heap.size + 2, 4, none⟩) (by have := HGe.out; simp only; omega) (.int .i64 q.ke))
  clear HQe
  obtain ⟨W5, hW⟩ : ∃ W, W = W4.setCell ⟨w.heap.size + 2, 4, none⟩ (.int .i64 q.ke) := ⟨_, rfl⟩
  rw [← hW] at HT HQe'
  have HQe := HQe'
  clear HQe'
  have HW := hid hW
  clear hW HU
  go_upto_region 7 with fail
  rw [← HW.out]
  clear HW x0 x1 x2 x3 x4 x5 x6 f0 f1 f2 f3 f4 f5 f6 y0 y1 y2 y3 y4 y5 y6
  obtain ⟨x0, x1, x2, x3, x4, x5, x6⟩ := cellsN HT.out.arg
  go_wp2_with fail
  refine (Lbw.f123 q.la q.ls.length q.lc q.ls _ rfl (by omega) (HR.out.l.below HT.out.bel)).mono ?_
  rintro e v5 ⟨rfl, ho, hb⟩
  have hlt : w.heap.size + 2 < W5.heap.size := lt_at HT.out.out
  have HQl : Hid (v5.ownsRow w.heap.size 180 2 (.slice (some ⟨W5.heap.size, 0, none⟩) q.ls.length q.ls.length) q.ls.length (Lab.flat q.ls)) := own_base ho HT.out.bel.size
  have HGl := hid hlt
  have HPe := hid (HQe.out.below hb)
  clear HQe
  have HU := hid (HT.out.mv hb)
  clear HT x0 x1 x2 x3 x4 x5 x6 ho hb hlt
  obtain ⟨Sl, hS⟩ : ∃ S, S = W5.heap.size := ⟨_, rfl⟩
  rw [← hS] at HQl HGl ⊢
  clear hS
  have HQe := HPe
  clear HPe
  obtain ⟨x0, x1, x2, x3, x4, x5, x6⟩ := cellsN HU.out.out
  obtain ⟨f0, f1, f2, f3, f4, f5, f6⟩ := frozN HU.out.out
  have HT := hid (HU.out.s5 (.slice (some ⟨Sl, 0, none⟩) q.ls.length q.ls.length))
  have HQe' := hid (HQe.out.set (p := ⟨w.heap.size + 2, 5, none⟩) (by have := HGe.out; simp only; omega) (.slice (some ⟨Sl, 0, none⟩) q.ls.length q.ls.length))
  clear HQe
  have HQl' := hid (own_set HQl.out (p := ⟨w.heap.size + 2, 5, none⟩) (by have := HGl.out; simp only; omega) (.slice (some ⟨Sl, 0, none⟩) q.ls.length q.ls.length))
  clear HQl
  obtain ⟨W6, hW⟩ : ∃ W, W = v5.setCell ⟨w.heap.size + 2, 5, none⟩ (.slice (some ⟨Sl, 0, none⟩) q.ls.length q.ls.length) := ⟨_, rfl⟩
  rw [← hW] at HT HQe' HQl'
  have HQe := HQe'
  clear HQe'
  have HQl := HQl'
  clear HQl'
  have HW := hid hW
  clear hW HU
  go_upto_region 8 with fail
  rw [← HW.out]
  clear HW x0 x1 x2 x3 x4 x5 x6 f0 f1 f2 f3 f4 f5 f6
  obtain ⟨y0, y1, y2, y3, y4, y5, y6⟩ := cellsN HT.out.arg
  have HU := HT
  clear HT
  obtain ⟨x0, x1, x2, x3, x4, x5, x6⟩ := cellsN HU.out.out
  obtain ⟨f0, f1, f2, f3, f4, f5, f6⟩ := frozN HU.out.out
  have HT := hid (HU.out.s6 (.string q.tx))
  have HQe' := hid (HQe.out.set (p := ⟨w.heap.size + 2, 6, none⟩) (by have := HGe.out; simp only; omega) (.string q.tx))
  clear HQe
  have HQl' := hid (own_set HQl.out (p := ⟨w.heap.size + 2, 6, none⟩) (by have := HGl.out; simp only; omega) (.string q.tx))
  clear HQl
  obtain ⟨W7, hW⟩ : ∃ W, W = W6.setCell ⟨w.heap.size + 2, 6, none⟩ (.string q.tx) := ⟨_, rfl⟩
  rw [← hW] at HT HQe' HQl'
  have HQe := HQe'
  clear HQe'
  have HQl := HQl'
  clear HQl'
  have HW := hid hW
  clear hW HU
  go_upto_region 9 with fail
  rw [← HW.out]
  clear HW x0 x1 x2 x3 x4 x5 x6 f0 f1 f2 f3 f4 f5 f6 y0 y1 y2 y3 y4 y5 y6
  obtain ⟨x0, x1, x2, x3, x4, x5, x6⟩ := cellsN HT.out.out
  obtain ⟨y0, y1, y2, y3, y4, y5, y6⟩ := cellsN HT.out.res
  obtain ⟨f0, f1, f2, f3, f4, f5, f6⟩ := frozN HT.out.res
  have HE : Hid (∀ x, x = ((((((W7.setCell ⟨w.heap.size + 1, 0, none⟩ (.string q.n)).setCell ⟨w.heap.size + 1, 1, none⟩ (.bool q.al)).setCell ⟨w.heap.size + 1, 2, none⟩ (.slice (some ⟨Se, 0, none⟩) q.es.length q.es.length)).setCell ⟨w.heap.size + 1, 3, none⟩ (.int .i64 q.fo)).setCell ⟨w.heap.size + 1, 4, none⟩ (.int .i64 q.ke)).setCell ⟨w.heap.size + 1, 5, none⟩ (.slice (some ⟨Sl, 0, none⟩) q.ls.length q.ls.length)).setCell ⟨w.heap.size + 1, 6, none⟩ (.string q.tx) → x.heap[w.heap.size + 1]? = some (.cells #[.string q.n, .bool q.al, .slice (some ⟨Se, 0, none⟩) q.es.length q.es.length, .int .i64 q.fo, .int .i64 q.ke, .slice (some ⟨Sl, 0, none⟩) q.ls.length q.ls.length, .string q.tx] 94) ∧ Below w.heap.size w x ∧ InU Se v2.heap.size x (some ⟨Se, 0, none⟩) dq ∧ x.ownsRow w.heap.size 180 2 (.slice (some ⟨Sl, 0, none⟩) q.ls.length q.ls.length) q.ls.length (Lab.flat q.ls)) := by
    rintro x rfl
    refine ⟨?_, Below.setCell (Below.setCell (Below.setCell (Below.setCell (Below.setCell (Below.setCell (Below.setCell (HT.out.bel) (by simp) _) (by simp) _) (by simp) _) (by simp) _) (by simp) _) (by simp) _) (by simp) _, InU.set (InU.set (InU.set (InU.set (InU.set (InU.set (InU.set (HQe.out) (by have := HGe.out; simp only; omega) _) (by have := HGe.out; simp only; omega) _) (by have := HGe.out; simp only; omega) _) (by have := HGe.out; simp only; omega) _) (by have := HGe.out; simp only; omega) _) (by have := HGe.out; simp only; omega) _) (by have := HGe.out; simp only; omega) _, own_set (own_set (own_set (own_set (own_set (own_set (own_set (HQl.out) (by have := HGl.out; simp only; omega) _) (by have := HGl.out; simp only; omega) _) (by have := HGl.out; simp only; omega) _) (by have := HGl.out; simp only; omega) _) (by have := HGl.out; simp only; omega) _) (by have := HGl.out; simp only; omega) _) (by have := HGl.out; simp only; omega) _⟩
    have h0 : (W7.setCell ⟨w.heap.size + 1, 0, none⟩ (.string q.n)).heap[w.heap.size + 1]? = some (.cells #[.string q.n, .bool false, .slice none 0 0, .int .i64 0, .int .i64 0, .slice none 0 0, .string ⟨#[]⟩] 94) := set_at HT.out.res
    have h1 : ((W7.setCell ⟨w.heap.size + 1, 0, none⟩ (.string q.n)).setCell ⟨w.heap.size + 1, 1, none⟩ (.bool q.al)).heap[w.heap.size + 1]? = some (.cells #[.string q.n, .bool q.al, .slice none 0 0, .int .i64 0, .int .i64 0, .slice none 0 0, .string ⟨#[]⟩] 94) := set_at h0
    have h2 : (((W7.setCell ⟨w.heap.size + 1, 0, none⟩ (.string q.n)).setCell ⟨w.heap.size + 1, 1, none⟩ (.bool q.al)).setCell ⟨w.heap.size + 1, 2, none⟩ (.slice (some ⟨Se, 0, none⟩) q.es.length q.es.length)).heap[w.heap.size + 1]? = some (.cells #[.string q.n, .bool q.al, .slice (some ⟨Se, 0, none⟩) q.es.length q.es.length, .int .i64 0, .int .i64 0, .slice none 0 0, .string ⟨#[]⟩] 94) := set_at h1
    have h3 : ((((W7.setCell ⟨w.heap.size + 1, 0, none⟩ (.string q.n)).setCell ⟨w.heap.size + 1, 1, none⟩ (.bool q.al)).setCell ⟨w.heap.size + 1, 2, none⟩ (.slice (some ⟨Se, 0, none⟩) q.es.length q.es.length)).setCell ⟨w.heap.size + 1, 3, none⟩ (.int .i64 q.fo)).heap[w.heap.size + 1]? = some (.cells #[.string q.n, .bool q.al, .slice (some ⟨Se, 0, none⟩) q.es.length q.es.length, .int .i64 q.fo, .int .i64 0, .slice none 0 0, .string ⟨#[]⟩] 94) := set_at h2
    have h4 : (((((W7.setCell ⟨w.heap.size + 1, 0, none⟩ (.string q.n)).setCell ⟨w.heap.size + 1, 1, none⟩ (.bool q.al)).setCell ⟨w.heap.size + 1, 2, none⟩ (.slice (some ⟨Se, 0, none⟩) q.es.length q.es.length)).setCell ⟨w.heap.size + 1, 3, none⟩ (.int .i64 q.fo)).setCell ⟨w.heap.size + 1, 4, none⟩ (.int .i64 q.ke)).heap[w.heap.size + 1]? = some (.cells #[.string q.n, .bool q.al, .slice (some ⟨Se, 0, none⟩) q.es.length q.es.length, .int .i64 q.fo, .int .i64 q.ke, .slice none 0 0, .string ⟨#[]⟩] 94) := set_at h3
    have h5 : ((((((W7.setCell ⟨w.heap.size + 1, 0, none⟩ (.string q.n)).setCell ⟨w.heap.size + 1, 1, none⟩ (.bool q.al)).setCell ⟨w.heap.size + 1, 2, none⟩ (.slice (some ⟨Se, 0, none⟩) q.es.length q.es.length)).setCell ⟨w.heap.size + 1, 3, none⟩ (.int .i64 q.fo)).setCell ⟨w.heap.size + 1, 4, none⟩ (.int .i64 q.ke)).setCell ⟨w.heap.size + 1, 5, none⟩ (.slice (some ⟨Sl, 0, none⟩) q.ls.length q.ls.length)).heap[w.heap.size + 1]? = some (.cells #[.string q.n, .bool q.al, .slice (some ⟨Se, 0, none⟩) q.es.length q.es.length, .int .i64 q.fo, .int .i64 q.ke, .slice (some ⟨Sl, 0, none⟩) q.ls.length q.ls.length, .string ⟨#[]⟩] 94) := set_at h4
    have h6 : (((((((W7.setCell ⟨w.heap.size + 1, 0, none⟩ (.string q.n)).setCell ⟨w.heap.size + 1, 1, none⟩ (.bool q.al)).setCell ⟨w.heap.size + 1, 2, none⟩ (.slice (some ⟨Se, 0, none⟩) q.es.length q.es.length)).setCell ⟨w.heap.size + 1, 3, none⟩ (.int .i64 q.fo)).setCell ⟨w.heap.size + 1, 4, none⟩ (.int .i64 q.ke)).setCell ⟨w.heap.size + 1, 5, none⟩ (.slice (some ⟨Sl, 0, none⟩) q.ls.length q.ls.length)).setCell ⟨w.heap.size + 1, 6, none⟩ (.string q.tx)).heap[w.heap.size + 1]? = some (.cells #[.string q.n, .bool q.al, .slice (some ⟨Se, 0, none⟩) q.es.length q.es.length, .int .i64 q.fo, .int .i64 q.ke, .slice (some ⟨Sl, 0, none⟩) q.ls.length q.ls.length, .string q.tx] 94) := set_at h5
    exact h6
  go_wp2
  revert HE
  generalize hwf : World.setCell _ _ _ = wf
  intro HE
  obtain ⟨k1, k2, ke, kl⟩ := HE.out wf (by rw [← hwf])
  obtain ⟨r0, r1, r2, r3, r4, r5, r6⟩ := cellsN k1
  refine bodyPost_ret (v := .agg #[.string q.n, .bool q.al, .slice (some ⟨Se, 0, none⟩) q.es.length q.es.length, .int .i64 q.fo, .int .i64 q.ke, .slice (some ⟨Sl, 0, none⟩) q.ls.length q.ls.length, .string q.tx]) (by simp [results, Tryz.results94, go_sem, r0, r1, r2, r3, r4, r5, r6]) rfl ⟨⟨q.n, q.al, dq, some ⟨Se, 0, none⟩, q.es.length, q.fo, q.ke, q.ls, some ⟨Sl, 0, none⟩, q.ls.length, q.tx⟩, by rw [HLQ.out], by simp only [pl]; rw [HMQ.out], ⟨⟨ke.1.wide (by have := HGe.out; omega) ke.2, HLQ.out.symm⟩, ⟨Sl, rfl, by have := HGl.out; omega, (kl.lt Sl rfl).2, kl⟩⟩, k2⟩

theorem infoT : (Tryz.prog.info? 94).map (fun i => (i.zero, i.size, i.bytes)) = some (some (.agg #[.string ⟨#[]⟩, .bool false, .slice none 0 0, .int .i64 0, .int .i64 0, .slice none 0 0, .string ⟨#[]⟩]), 7, 104) := by kernel_rfl
theorem step_set (d : List T) (n k : Nat) (q : T) (hd : d.length = k) (hk : k < n) : (d ++ List.replicate (n - k) t0).set k q = (d ++ [q]) ++ List.replicate (n - (k + 1)) t0 := by
  rw [List.set_append_right _ _ (by omega), hd, Nat.sub_self, show n - k = (n - (k + 1)) + 1 from by omega, List.replicate_succ, List.set_cons_zero, List.append_assoc]
  rfl
theorem getD_snoc (d : List T) (q : T) (i : Nat) : (d ++ [q]).getD i t0 = if i = d.length then q else d.getD i t0 := by
  rw [List.getD_eq_getElem?_getD, List.getD_eq_getElem?_getD]
  by_cases h : i < d.length
  · rw [List.getElem?_append_left h, if_neg (by omega)]
  · rw [List.getElem?_append_right (by omega)]
    by_cases e : i = d.length
    · rw [if_pos e, e, Nat.sub_self]; rfl
    · rw [if_neg e, List.getElem?_eq_none (by simp; omega), List.getElem?_eq_none (by omega)]
structure Owns (X B k : Nat) (Z : Nat → Nat) (d : List T) (w : World) : Prop where
  len : d.length = k
  low : B < Z 0
  up : ∀ i, i < k → Z i ≤ Z (i + 1)
  own : ∀ i, i < k → Own1 X (Z i) (Z (i + 1)) (d.getD i t0) w
  top : Z k ≤ w.heap.size
theorem Owns.zle {X B k : Nat} {Z : Nat → Nat} {d : List T} {w : World} (h : Owns X B k Z d w) : ∀ j i, i ≤ j → j ≤ k → Z i ≤ Z j := by
  intro j
  induction j with
  | zero => intro i hi _; rw [show i = 0 by omega]; exact Nat.le_refl _
  | succ j ih =>
    intro i hi hj
    by_cases e : i = j + 1
    · rw [e]; exact Nat.le_refl _
    · exact Nat.le_trans (ih i (by omega) (by omega)) (h.up j (by omega))
theorem Owns.below {X B k : Nat} {Z : Nat → Nat} {d : List T} {w w' : World} (h : Owns X B k Z d w) (hb : Below w.heap.size w w') : Owns X B k Z d w' := ⟨h.len, h.low, h.up, fun i hi => (h.own i hi).below hb, Nat.le_trans h.top hb.size⟩
theorem Owns.set {X B k : Nat} {Z : Nat → Nat} {d : List T} {w : World} (h : Owns X B k Z d w) (o : Nat) (v : Value) : Owns X B k Z d (w.setCell ⟨B, o, none⟩ v) :=
  ⟨h.len, h.low, h.up, fun i hi => (h.own i hi).set (.inl (Nat.lt_of_lt_of_le h.low (h.zle i 0 (Nat.zero_le _) (by omega)))) v, by simpa using h.top⟩
theorem Owns.snoc {X B k U : Nat} {Z : Nat → Nat} {d : List T} {w : World} {q : T} (h : Owns X B k Z d w) (h1 : Own1 X (Z k) U q w) (hU : Z k ≤ U) (hW : U ≤ w.heap.size) : Owns X B (k + 1) (fun i => if i ≤ k then Z i else U) (d ++ [q]) w := by
  have hl := h.len
  refine ⟨by simp [hl], by simpa using h.low, fun i hi => ?_, fun i hi => ?_, ?_⟩
  · show (if i ≤ k then Z i else U) ≤ (if i + 1 ≤ k then Z (i + 1) else U)
    rw [if_pos (show i ≤ k by omega)]
    by_cases e : i = k
    · subst e; rw [if_neg (show ¬ i + 1 ≤ i by omega)]; exact hU
    · rw [if_pos (show i + 1 ≤ k by omega)]; exact h.up i (by omega)
  · show Own1 X (if i ≤ k then Z i else U) (if i + 1 ≤ k then Z (i + 1) else U) ((d ++ [q]).getD i t0) w
    rw [if_pos (show i ≤ k by omega), getD_snoc]
    by_cases e : i = k
    · subst e
      rw [if_neg (show ¬ i + 1 ≤ i by omega), if_pos hl.symm]
      exact h1
    · rw [if_pos (show i + 1 ≤ k by omega), if_neg (show ¬ i = d.length by omega)]
      exact h.own i (by omega)
  · show (if k + 1 ≤ k then Z (k + 1) else U) ≤ w.heap.size
    rw [if_neg (show ¬ k + 1 ≤ k by omega)]
    exact hW
structure OwnT (X g n : Nat) (ts : List T) (w : World) : Prop where
  row : w.ownsRow X 94 7 (.slice (some ⟨g, 0, none⟩) n n) n (flat ts)
  kin : ∃ Z, Owns X g n Z ts w
theorem OwnT.len {X g n : Nat} {ts : List T} {w : World} (h : OwnT X g n ts w) : ts.length = n := by obtain ⟨Z, hZ⟩ := h.kin; exact hZ.len
theorem OwnT.has {X g n : Nat} {ts : List T} {w : World} (h : OwnT X g n ts w) : Has w (some ⟨g, 0, none⟩) ts := by
  obtain ⟨Z, hZ⟩ := h.kin
  have hl := h.row.1
  rw [flat_len] at hl
  refine .inr ⟨g, 0, rfl, (h.row.lt g rfl).2, fun i hi => ⟨fun j hj => ?_, (hZ.own i (by rw [← hZ.len]; exact hi)).lst⟩⟩
  rw [Nat.zero_add]
  exact (h.row.cellAt (i * 7 + j) (by omega)).trans (flat_get ts i j hi hj)
def Tight (ts : List T) : Prop := ∀ i, i < ts.length → (ts.getD i t0).ec = (ts.getD i t0).es.length
theorem OwnT.tight {X g n : Nat} {ts : List T} {w : World} (h : OwnT X g n ts w) : Tight ts := by
  obtain ⟨Z, hZ⟩ := h.kin
  exact fun i hi => (hZ.own i (by rw [← hZ.len]; exact hi)).e.2
theorem Same.snoc {k : Nat} {ts d : List T} {q : T} (h : Same k ts d) (hd : d.length = k) (h1 : pl q = pl (ts.getD k t0)) : Same (k + 1) ts (d ++ [q]) := by
  intro i hi
  rw [getD_snoc]
  by_cases e : i = d.length
  · rw [if_pos e, e, hd]; exact h1
  · rw [if_neg e]; exact h i (by omega)

set_option maxHeartbeats 4000000 in
theorem f56 (a : Option Addr) (n c : Nat) (ts : List T) (w : World) (hn : ts.length = n) (hb : n ≤ 1048576) (hr : Has w a ts) (hz : Sml ts) :
    Calls Tryz.prog 56 #[.slice a n c] w fun e w' => ∃ ts' : List T, e = .returned (.slice (some ⟨w.heap.size, 0, none⟩) n n) ∧ Same n ts ts' ∧ OwnT w.heap.size w.heap.size n ts' w' ∧ Below w.heap.size w w' := by
  obtain ⟨i0, hi, hz0, hz1, hz2⟩ := info_parts infoT
  have HN := hid hn
  have HR := hid hr
  have HZ := hid hz
  clear hn hr hz
  go_enter Tryz.func56, Tryz.ntmps56
  go_wp2_with (at_make; refine wpList_make_full _ rfl _ _ 42 rfl w.heap.size 94 i0 (.agg #[.string ⟨#[]⟩, .bool false, .slice none 0 0, .int .i64 0, .int .i64 0, .slice none 0 0, .string ⟨#[]⟩]) 7 Tryz.underlying42 hi hz0 hz1 _ _ _ _ n rfl rfl rfl rfl ?b2 ?b3 (Nat.le_refl _) ?_)
  case b2 => rw [hz2]; omega
  case b3 => unfold maxLen; omega
  intro w0 hown0 hgrow0
  have hown1 : Hid (w0.ownsRow w.heap.size 94 7 (.slice (some ⟨w.heap.size, 0, none⟩) n n) n (flat (List.replicate n t0))) := by
    rw [← made]; exact hown0
  have hb0 := hid ((Below.refl w.heap.size w).grown hgrow0 (Nat.le_refl _) (fun k h => by cases h))
  have HO0 : Hid (Owns w.heap.size w.heap.size 0 (fun _ => w0.heap.size) [] w0) := ⟨rfl, (hown1.out.lt w.heap.size rfl).2, fun i hi => by omega, fun i hi => by omega, Nat.le_refl _⟩
  clear hown0 hgrow0
  go_wp2
  go_loopw [4] (fun i wr => ∃ (k : Nat) (d : List T), k ≤ n ∧ i = .int .i64 k ∧ Hid (Same k ts d) ∧ Hid (∃ Z, Owns w.heap.size w.heap.size k Z d wr) ∧ Hid (wr.ownsRow w.heap.size 94 7 (.slice (some ⟨w.heap.size, 0, none⟩) n n) n (flat (d ++ List.replicate (n - k) t0))) ∧ Hid (Below w.heap.size w wr))
    (fun i _ => n - (intOf i).toNat)
  case atStart => exact ⟨0, [], Nat.zero_le _, rfl, fun i hi => by omega, ⟨_, HO0.out⟩, by unfold Hid; simpa using hown1.out, hb0.out⟩
  case round =>
    obtain ⟨k, d, hk, rfl, HSm, HZ1, HO, HX⟩ := hrel
    have HLN : Hid (d.length = k) := by obtain ⟨Z, hZ⟩ := HZ1.out; exact hZ.len
    by_cases hlt : k < n
    · obtain ⟨b, off, rfl, hbl, hc, hT1⟩ := (HR.out).at2 k (by rw [HN.out]; exact hlt)
      obtain ⟨d0, d1, d2, d3, d4, d5, d6⟩ := (hc.below HX.out hbl).all
      have HT1 := hid (hT1.below HX.out)
      have HS := hid (HZ.out k (by rw [HN.out]; exact hlt))
      obtain ⟨q, hq⟩ : ∃ q, q = ts.getD k t0 := ⟨_, rfl⟩
      have HQ := hid hq
      rw [← hq] at d0 d1 d2 d3 d4 d5 d6 HT1 HS
      clear hc hT1 hbl hq
      go_wp2_with fail
      refine (f94 q _ HT1.out HS.out).mono ?_
      rintro e w2 ⟨q', rfl, hp, ho2, hb2⟩
      have HO2 := hid (own_below HO.out hb2)
      have HX2 := hid (HX.out.trans (hb2.mono HX.out.size))
      have HZ2 : Hid (∃ Z, Owns w.heap.size w.heap.size (k + 1) Z (d ++ [q']) w2) := by
        obtain ⟨Z, hZ⟩ := HZ1.out
        have h1 := hZ.top
        have h2 := hb2.size
        exact ⟨_, (hZ.below hb2).snoc (ho2.wide HX.out.size (by omega) (Nat.le_refl _)) (by omega) (Nat.le_refl _)⟩
      have HL : Hid ((d ++ List.replicate (n - k) t0).length = n) := by unfold Hid; have := HLN.out; simp; omega
      have HSn := hid (HSm.out.snoc HLN.out (hp.trans (by rw [← HQ.out])))
      have gg := fun j hj => flat_get (d ++ List.replicate (n - k) t0) k j (by rw [HL.out]; exact hlt) hj
      have z0 := (HO2.out.cellAt (k * 7) (by omega)).trans (gg 0 (by omega))
      have f0 := HO2.out.frozenAt (k * 7)
      have z1 := (HO2.out.cellAt (k * 7 + 1) (by omega)).trans (gg 1 (by omega))
      have f1 := HO2.out.frozenAt (k * 7 + 1)
      have z2 := (HO2.out.cellAt (k * 7 + 2) (by omega)).trans (gg 2 (by omega))
      have f2 := HO2.out.frozenAt (k * 7 + 2)
      have z3 := (HO2.out.cellAt (k * 7 + 3) (by omega)).trans (gg 3 (by omega))
      have f3 := HO2.out.frozenAt (k * 7 + 3)
      have z4 := (HO2.out.cellAt (k * 7 + 4) (by omega)).trans (gg 4 (by omega))
      have f4 := HO2.out.frozenAt (k * 7 + 4)
      have z5 := (HO2.out.cellAt (k * 7 + 5) (by omega)).trans (gg 5 (by omega))
      have f5 := HO2.out.frozenAt (k * 7 + 5)
      have z6 := (HO2.out.cellAt (k * 7 + 6) (by omega)).trans (gg 6 (by omega))
      have f6 := HO2.out.frozenAt (k * 7 + 6)
      simp only [cl, List.getElem?_cons_zero, List.getElem?_cons_succ] at z0 z1 z2 z3 z4 z5 z6
      have HE : Hid (∀ wz, wz = ((((((w2.setCell ⟨w.heap.size, k * 7, none⟩ (.string q'.n)).setCell ⟨w.heap.size, k * 7 + 1, none⟩ (.bool q'.al)).setCell ⟨w.heap.size, k * 7 + 2, none⟩ (.slice q'.ea q'.es.length q'.ec)).setCell ⟨w.heap.size, k * 7 + 3, none⟩ (.int .i64 q'.fo)).setCell ⟨w.heap.size, k * 7 + 4, none⟩ (.int .i64 q'.ke)).setCell ⟨w.heap.size, k * 7 + 5, none⟩ (.slice q'.la q'.ls.length q'.lc)).setCell ⟨w.heap.size, k * 7 + 6, none⟩ (.string q'.tx) → (∃ Z, Owns w.heap.size w.heap.size (k + 1) Z (d ++ [q']) wz) ∧ wz.ownsRow w.heap.size 94 7 (.slice (some ⟨w.heap.size, 0, none⟩) n n) n (flat ((d ++ [q']) ++ List.replicate (n - (k + 1)) t0)) ∧ Below w.heap.size w wz) := by
        rintro wz rfl
        obtain ⟨Z, hZ⟩ := HZ2.out
        refine ⟨⟨Z, (((((((hZ.set _ _).set _ _).set _ _).set _ _).set _ _).set _ _).set _ _)⟩, ?_, (((((((HX2.out.setCell (Nat.le_refl _) _).setCell (Nat.le_refl _) _).setCell (Nat.le_refl _) _).setCell (Nat.le_refl _) _).setCell (Nat.le_refl _) _).setCell (Nat.le_refl _) _).setCell (Nat.le_refl _) _)⟩
        rw [← step_set d n k _ HLN.out hlt, ← flat_set _ k _ (by rw [HL.out]; exact hlt)]
        exact (((((((HO2.out.stored (k * 7) _).1.stored (k * 7 + 1) _).1.stored (k * 7 + 2) _).1.stored (k * 7 + 3) _).1.stored (k * 7 + 4) _).1.stored (k * 7 + 5) _).1.stored (k * 7 + 6) _).1
      clear hb2 ho2 hp HO HT1 HO2 HX2 HZ2 HX HZ1 HSm d0 d1 d2 d3 d4 d5 d6 gg
      go_wp2
      go_roundw
      case rel =>
        obtain ⟨e1, e2, e3⟩ := HE.out _ rfl
        exact ⟨k + 1, _, by omega, by go_num, HSn.out, e1, e2, e3⟩
      case measure => simp [intOf]; omega
    · obtain rfl : k = n := by omega
      have HE : Hid (OwnT w.heap.size w.heap.size k d wr) := by
        have h := HO.out
        rw [Nat.sub_self, List.replicate_zero, List.append_nil] at h
        exact ⟨h, HZ1.out⟩
      go_wp2
      go_ret
      exact ⟨d, rfl, HSm.out, HE.out, HX.out⟩

set_option maxHeartbeats 4000000 in
theorem f99 (q q' : T) (w : World) (hp : pl q' = pl q) (hs : wt q ≤ 1048576) (hl : Lst w q) (hl' : Lst w q') :
    Calls Tryz.prog 99 #[agT q, agT q'] w fun e w' => e = .returned (.bool true) ∧ Below w.heap.size w w' := by
  obtain ⟨n, al, es, ea, ec, fo, ke, ls, la, lc, tx⟩ := q
  obtain ⟨n', al', es', ea', ec', fo', ke', ls', la', lc', tx'⟩ := q'
  simp only [pl, Pl.mk.injEq] at hp
  obtain ⟨rfl, rfl, hq, rfl, rfl, rfl, rfl⟩ := hp
  have hql := same_len hq
  unfold wt at hs
  simp only at hs
  have HB := hid (((Below.refl w.heap.size w).alloc (Nat.le_refl _) (.cells #[.string n', .bool al', .slice ea es.length ec, .int .i64 fo', .int .i64 ke', .slice la ls'.length lc, .string tx'] 94)).alloc (by simp) (.cells #[.string n', .bool al', .slice ea' es.length ec', .int .i64 fo', .int .i64 ke', .slice la' ls'.length lc', .string tx'] 94))
  have HA : Hid (((w.alloc (.cells #[.string n', .bool al', .slice ea es.length ec, .int .i64 fo', .int .i64 ke', .slice la ls'.length lc, .string tx'] 94)).alloc (.cells #[.string n', .bool al', .slice ea' es.length ec', .int .i64 fo', .int .i64 ke', .slice la' ls'.length lc', .string tx'] 94)).heap[w.heap.size]? = some (.cells #[.string n', .bool al', .slice ea es.length ec, .int .i64 fo', .int .i64 ke', .slice la ls'.length lc, .string tx'] 94)) := kept (heap_alloc_new w _) ((Below.refl _ _).alloc (Nat.le_refl _) _)
  have HC : Hid (((w.alloc (.cells #[.string n', .bool al', .slice ea es.length ec, .int .i64 fo', .int .i64 ke', .slice la ls'.length lc, .string tx'] 94)).alloc (.cells #[.string n', .bool al', .slice ea' es.length ec', .int .i64 fo', .int .i64 ke', .slice la' ls'.length lc', .string tx'] 94)).heap[w.heap.size + 1]? = some (.cells #[.string n', .bool al', .slice ea' es.length ec', .int .i64 fo', .int .i64 ke', .slice la' ls'.length lc', .string tx'] 94)) := by
    have := heap_alloc_new (w.alloc (.cells #[.string n', .bool al', .slice ea es.length ec, .int .i64 fo', .int .i64 ke', .slice la ls'.length lc, .string tx'] 94)) (.cells #[.string n', .bool al', .slice ea' es.length ec', .int .i64 fo', .int .i64 ke', .slice la' ls'.length lc', .string tx'] 94)
    unfold Hid
    simpa using this
  have HR := hid hl
  have HR' := hid hl'
  clear hl hl'
  have nn : (n'.toList == n'.toList) = true := by simp
  have nal : (al' != al') = false := by simp
  have nfo : (fo' != fo') = false := by simp
  have nke : (ke' != ke') = false := by simp
  have ntx : (tx'.toList == tx'.toList) = true := by simp
  obtain ⟨W0, hW⟩ : ∃ W, W = ((w.alloc (.cells #[.string n', .bool al', .slice ea es.length ec, .int .i64 fo', .int .i64 ke', .slice la ls'.length lc, .string tx'] 94)).alloc (.cells #[.string n', .bool al', .slice ea' es.length ec', .int .i64 fo', .int .i64 ke', .slice la' ls'.length lc', .string tx'] 94)) := ⟨_, rfl⟩
  rw [← hW] at HA HC HB
  have HW := hid hW
  clear hW
  simp only [agT]
  rw [hql]
  go_enter Tryz.func99, Tryz.ntmps99
  go_upto_region 1 with fail
  rw [← HW.out]
  clear HW
  obtain ⟨x0, x1, x2, x3, x4, x5, x6⟩ := cellsN HA.out
  obtain ⟨y0, y1, y2, y3, y4, y5, y6⟩ := cellsN HC.out
  go_wp2_with fail
  refine (Qry.f12 ea ea' es.length ec ec' es es' _ rfl hql (by omega) (HR.out.e.below HB.out) (HR'.out.e.below HB.out) (same_of_map hq) (Qry.sml_tot (by omega))).mono ?_
  rintro e We ⟨rfl, hb⟩
  have HA' := hid (kept HA.out hb)
  have HC' := hid (kept HC.out hb)
  have HB' := hid (HB.out.trans (hb.mono HB.out.size))
  clear HA HC HB hb x0 x1 x2 x3 x4 x5 x6 y0 y1 y2 y3 y4 y5 y6
  have HA := HA'
  have HC := HC'
  have HB := HB'
  clear HA' HC' HB'
  obtain ⟨x0, x1, x2, x3, x4, x5, x6⟩ := cellsN HA.out
  obtain ⟨y0, y1, y2, y3, y4, y5, y6⟩ := cellsN HC.out
  go_wp2_with fail
  refine (Lbw.f131 la la' ls'.length lc lc' ls' _ rfl (by omega) (HR.out.l.below HB.out) (HR'.out.l.below HB.out)).mono ?_
  rintro e Wl ⟨rfl, hb⟩
  have HA' := hid (kept HA.out hb)
  have HC' := hid (kept HC.out hb)
  have HB' := hid (HB.out.trans (hb.mono HB.out.size))
  clear HA HC HB hb x0 x1 x2 x3 x4 x5 x6 y0 y1 y2 y3 y4 y5 y6
  have HA := HA'
  have HC := HC'
  have HB := HB'
  clear HA' HC' HB'
  obtain ⟨x0, x1, x2, x3, x4, x5, x6⟩ := cellsN HA.out
  obtain ⟨y0, y1, y2, y3, y4, y5, y6⟩ := cellsN HC.out
  go_wp2
  go_ret
  exact ⟨rfl, HB.out⟩
abbrev EE (w : World) (q q' : T) (b o b' o' : Nat) (x : World) : Prop :=
  x.cell? ⟨b, o, none⟩ = some (.string q.n) ∧ x.cell? ⟨b, o + 1, none⟩ = some (.bool q.al) ∧ x.cell? ⟨b, o + 2, none⟩ = some (.slice q.ea q.es.length q.ec) ∧ x.cell? ⟨b, o + 3, none⟩ = some (.int .i64 q.fo) ∧ x.cell? ⟨b, o + 4, none⟩ = some (.int .i64 q.ke) ∧ x.cell? ⟨b, o + 5, none⟩ = some (.slice q.la q.ls.length q.lc) ∧ x.cell? ⟨b, o + 6, none⟩ = some (.string q.tx) ∧ x.cell? ⟨b', o', none⟩ = some (.string q'.n) ∧ x.cell? ⟨b', o' + 1, none⟩ = some (.bool q'.al) ∧ x.cell? ⟨b', o' + 2, none⟩ = some (.slice q'.ea q'.es.length q'.ec) ∧ x.cell? ⟨b', o' + 3, none⟩ = some (.int .i64 q'.fo) ∧ x.cell? ⟨b', o' + 4, none⟩ = some (.int .i64 q'.ke) ∧ x.cell? ⟨b', o' + 5, none⟩ = some (.slice q'.la q'.ls.length q'.lc) ∧ x.cell? ⟨b', o' + 6, none⟩ = some (.string q'.tx) ∧ Lst x q ∧ Lst x q' ∧ b < x.heap.size ∧ b' < x.heap.size ∧ Below w.heap.size w x
theorem EE.below {w : World} {q q' : T} {b o b' o' : Nat} {x y : World} (h : EE w q q' b o b' o' x) (hb : Below x.heap.size x y) : EE w q q' b o b' o' y := by
  obtain ⟨h0, h1, h2, h3, h4, h5, h6, k0, k1, k2, k3, k4, k5, k6, t1, t3, l1, l2, hw⟩ := h
  have e1 : ∀ j, y.cell? ⟨b, j, none⟩ = x.cell? ⟨b, j, none⟩ := fun j => hb.cell (by exact l1)
  have e2 : ∀ j, y.cell? ⟨b', j, none⟩ = x.cell? ⟨b', j, none⟩ := fun j => hb.cell (by exact l2)
  exact ⟨(e1 _).trans h0, (e1 _).trans h1, (e1 _).trans h2, (e1 _).trans h3, (e1 _).trans h4, (e1 _).trans h5, (e1 _).trans h6, (e2 _).trans k0, (e2 _).trans k1, (e2 _).trans k2, (e2 _).trans k3, (e2 _).trans k4, (e2 _).trans k5, (e2 _).trans k6, t1.below hb, t3.below hb, Nat.lt_of_lt_of_le l1 hb.size, Nat.lt_of_lt_of_le l2 hb.size, hw.trans (hb.mono hw.size)⟩
theorem EE.drew {w : World} {q q' : T} {b o b' o' : Nat} {x : World} (h : EE w q q' b o b' o' x) : EE w q q' b o b' o' x.drew := h.below (Below.refl _ x).drew
theorem EE.t1 {w : World} {q q' : T} {b o b' o' : Nat} {x : World} (h : EE w q q' b o b' o' x) : Lst x q := h.2.2.2.2.2.2.2.2.2.2.2.2.2.2.1
theorem EE.t3 {w : World} {q q' : T} {b o b' o' : Nat} {x : World} (h : EE w q q' b o b' o' x) : Lst x q' := h.2.2.2.2.2.2.2.2.2.2.2.2.2.2.2.1
theorem EE.bel {w : World} {q q' : T} {b o b' o' : Nat} {x : World} (h : EE w q q' b o b' o' x) : Below w.heap.size w x := h.2.2.2.2.2.2.2.2.2.2.2.2.2.2.2.2.2.2
set_option maxHeartbeats 4000000 in
theorem f58 (a a' : Option Addr) (n c c' : Nat) (ts ts' : List T) (w : World) (hn : ts.length = n) (hn' : ts'.length = n) (hb : n ≤ 1048576) (hr : Has w a ts) (hr' : Has w a' ts') (hs : Same n ts ts') (hz : Sml ts) :
    Calls Tryz.prog 58 #[.slice a n c, .slice a' n c'] w fun e w' => e = .returned (.bool true) ∧ Below w.heap.size w w' := by
  have HN := hid hn
  have HN' := hid hn'
  have HR := hid hr
  have HR' := hid hr'
  have HS := hid hs
  have HZ := hid hz
  clear hn hn' hr hr' hs hz
  go_enter Tryz.func58, Tryz.ntmps58
  go_wp2
  go_loopw [5] (fun i wr => ∃ k : Nat, k ≤ n ∧ i = .int .i64 k ∧ Hid (Below w.heap.size w wr)) (fun i _ => n - (intOf i).toNat)
  case atStart => exact ⟨0, Nat.zero_le _, rfl, Below.refl _ _⟩
  case round =>
    obtain ⟨k, hk, rfl, HX⟩ := hrel
    by_cases hlt : k < n
    · obtain ⟨b, off, rfl, hbl, hc, t1⟩ := (HR.out.below HX.out).at2 k (by rw [HN.out]; exact hlt)
      obtain ⟨b', off', rfl, hbl', hc', t1'⟩ := (HR'.out.below HX.out).at2 k (by rw [HN'.out]; exact hlt)
      have HP := hid (HS.out k hlt)
      have HL := hid (HZ.out k (by rw [HN.out]; exact hlt))
      generalize ts.getD k t0 = q at *
      generalize ts'.getD k t0 = q' at *
      obtain ⟨h0, h1, h2, h3, h4, h5, h6⟩ := hc.all
      obtain ⟨k0, k1, k2, k3, k4, k5, k6⟩ := hc'.all
      have HE : Hid (EE w q q' b (off + k * 7) b' (off' + k * 7) wr) := ⟨h0, h1, h2, h3, h4, h5, h6, k0, k1, k2, k3, k4, k5, k6, t1, t1', hbl, hbl', HX.out⟩
      clear hc hc' t1 t1' hbl hbl' h0 h1 h2 h3 h4 h5 h6 k0 k1 k2 k3 k4 k5 k6
      have i1 : (k : Int) < (n : Int) := by omega
      go_wp2_with fail
      go_region_held3 (fun x => EE w q q' b (off + k * 7) b' (off' + k * 7) x) (first | exact HE.out.drew | assumption) (first | (go_at_call 99; refine (f99 q q' _ HP.out HL.out (EE.t1 (by assumption)) (EE.t3 (by assumption))).mono ?_; rintro e w2 ⟨rfl, hb2⟩; have hs2 := EE.below (by assumption) hb2; clear hb2))
      have HX2 := hid hs2.bel
      clear hs2
      go_wp2
      go_roundw
      case rel => exact ⟨k + 1, by omega, by go_num, HX2.out⟩
      case measure => simp [intOf]; omega
    · go_wp2
      go_ret
      exact ⟨rfl, HX.out⟩
end Go.Proofs.YtbdlahhejfamhaaGreatDoor.Rul
