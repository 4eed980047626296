/- Rules: szRelabel, toRelabel, eqRelabel. -/
import Derived.Test.YtcknlidbjnmbjaaGreatDoorRST
import Derived.Deep.RegionHeld3
import Derived.Deep.CutRange
namespace Go.Proofs.YtcknlidbjnmbjaaGreatDoor.Rel
open Go.RowKit Go.Proofs.YtcknlidbjnmbjaaGreatDoor.Fil

structure Rule where
  act : Int
  from' : List ByteArray
  sep : ByteArray
  pat : ByteArray
  tgt : ByteArray
  val : ByteArray
  md : Int
abbrev agR (r : Rule) (a : Option Addr) (n c : Nat) : Value := .agg #[.int .i64 r.act, .slice a n c, .string r.sep, .string r.pat, .string r.tgt, .string r.val, .int .i64 r.md]
/-- The rule's numbers and texts are Go's own. -/
structure FitR (r : Rule) : Prop where
  a0 : -9223372036854775808 ≤ r.act
  a1 : r.act ≤ 9223372036854775807
  m0 : -9223372036854775808 ≤ r.md
  m1 : r.md ≤ 9223372036854775807
  sep : r.sep.size ≤ maxLen
  pat : r.pat.size ≤ maxLen
  tgt : r.tgt.size ≤ maxLen
  val : r.val.size ≤ maxLen
structure SmlR (r : Rule) : Prop where
  n : r.from'.length ≤ 1048576
  each : ∀ i, i < r.from'.length → (r.from'.getD i ByteArray.empty).size ≤ 1048576
  sep : r.sep.size ≤ 1048576
  pat : r.pat.size ≤ 1048576
  tgt : r.tgt.size ≤ 1048576
  val : r.val.size ≤ 1048576

theorem cells7 {w : World} {b : Nat} {x0 x1 x2 x3 x4 x5 x6 : Value} {t : TypeId} (h : w.heap[b]? = some (.cells #[x0, x1, x2, x3, x4, x5, x6] t)) :
    w.cell? ⟨b, 0, none⟩ = some x0 ∧ w.cell? ⟨b, 1, none⟩ = some x1 ∧ w.cell? ⟨b, 2, none⟩ = some x2 ∧ w.cell? ⟨b, 3, none⟩ = some x3 ∧ w.cell? ⟨b, 4, none⟩ = some x4 ∧ w.cell? ⟨b, 5, none⟩ = some x5 ∧ w.cell? ⟨b, 6, none⟩ = some x6 := by
  simp [World.cell?, h]
theorem froz7 {w : World} {b : Nat} {arr : Array Value} {t : TypeId} (h : w.heap[b]? = some (.cells arr t)) : ∀ o, w.frozen? ⟨b, o, none⟩ = false := by
  intro o; simp [World.frozen?, h]
theorem three_new (w : World) (x y z : Obj) : (((w.alloc x).alloc y).alloc z).heap[w.heap.size]? = some x ∧ (((w.alloc x).alloc y).alloc z).heap[w.heap.size + 1]? = some y ∧ (((w.alloc x).alloc y).alloc z).heap[w.heap.size + 1 + 1]? = some z := by
  show (((w.heap.push x).push y).push z)[w.heap.size]? = some x ∧ (((w.heap.push x).push y).push z)[w.heap.size + 1]? = some y ∧ (((w.heap.push x).push y).push z)[w.heap.size + 1 + 1]? = some z
  refine ⟨?_, ?_, ?_⟩
  · rw [Array.getElem?_push, if_neg (by simp; omega), Array.getElem?_push, if_neg (by simp), Array.getElem?_push, if_pos rfl]
  · rw [Array.getElem?_push, if_neg (by simp), Array.getElem?_push, if_pos (by simp)]
  · rw [Array.getElem?_push, if_pos (by simp)]
theorem new_at (w : World) (bl : Obj) : (w.alloc bl).heap[w.heap.size]? = some bl := by show (w.heap.push bl)[w.heap.size]? = some bl; simp
theorem kept_at {w w' : World} {b : Nat} {bl : Obj} (h : w.heap[b]? = some bl) (hb : Below w.heap.size w w') : w'.heap[b]? = some bl := by
  have hl : b < w.heap.size := by
    rcases Nat.lt_or_ge b w.heap.size with h1 | h1
    · exact h1
    · rw [Array.getElem?_eq_none h1] at h; cases h
  rw [hb.block b hl]; exact h

set_option maxHeartbeats 2000000 in
theorem f29 (r : Rule) (a : Option Addr) (n c : Nat) (w : World) (hn : r.from'.length = n) (hr : HasT w a r.from') (hf : FitT r.from') (hmax : n ≤ maxLen) (hz : FitR r) :
    Calls Tryz.prog 29 #[agR r a n c, .int .i64 1048576] w fun e w' => ∃ y : Int, e = .returned (.int .i64 y) ∧ (0 ≤ y → SmlR r) ∧ Below w.heap.size w w' := by
  obtain ⟨A, ss, sep, pat, tgt, val, md⟩ := r
  obtain ⟨h1, h2, h3, h4, h5, h6, h7, h8⟩ := hz
  simp only at h1 h2 h3 h4 h5 h6 h7 h8 hn hr hf
  unfold maxLen at h5 h6 h7 h8
  have HN := hid hn
  have HR := hid hr
  have HB0 := hid ((Below.refl w.heap.size w).alloc (Nat.le_refl _) (.cells #[.int .i64 A, .slice a n c, .string sep, .string pat, .string tgt, .string val, .int .i64 md] 57))
  have HW := hid (new_at w (.cells #[.int .i64 A, .slice a n c, .string sep, .string pat, .string tgt, .string val, .int .i64 md] 57))
  clear hn hr
  simp only [agR]
  go_enter Tryz.func29, Tryz.ntmps29
  go_wp2_with fail
  refine (f48 a n c 1048576 ss _ (by omega) (by omega) HN.out (HR.out.below HB0.out) hf hmax).mono ?_
  rintro e w1 ⟨y, rfl, hy, y0, y1, hw1⟩
  have hw2 := hw1.symm
  clear hw1
  subst hw2
  by_cases g0 : y < 0
  · go_wp2
    go_ret
    exact ⟨-1, rfl, fun h => absurd h (by omega), HB0.out⟩
  have HY := hid (hy (by omega))
  clear hy
  by_cases g1 : y - sep.size < 0
  · go_wp2
    go_ret
    exact ⟨-1, rfl, fun h => absurd h (by omega), HB0.out⟩
  by_cases g2 : y - sep.size - pat.size < 0
  · go_wp2
    go_ret
    exact ⟨-1, rfl, fun h => absurd h (by omega), HB0.out⟩
  by_cases g3 : y - sep.size - pat.size - tgt.size < 0
  · go_wp2
    go_ret
    exact ⟨-1, rfl, fun h => absurd h (by omega), HB0.out⟩
  by_cases g4 : y - sep.size - pat.size - tgt.size - val.size < 0
  · go_wp2
    go_ret
    exact ⟨-1, rfl, fun h => absurd h (by omega), HB0.out⟩
  · go_wp2
    go_ret
    refine ⟨_, rfl, fun _ => ⟨?_, ?_, ?_, ?_, ?_, ?_⟩, HB0.out⟩
    · simp only; rw [HN.out]; exact HY.out.1
    · simp only; rw [HN.out]; exact HY.out.2
    all_goals (simp only; omega)

end Go.Proofs.YtcknlidbjnmbjaaGreatDoor.Rel
/- Rules: toRelabel. -/
namespace Go.Proofs.YtcknlidbjnmbjaaGreatDoor.Rel
open Go.RowKit Go.Proofs.YtcknlidbjnmbjaaGreatDoor.Fil

theorem f54x (a : Option Addr) (n c : Nat) (ss : List ByteArray) (w : World) (hn : ss.length = n) (hb : n ≤ 1048576) (hr : HasT w a ss) :
    Calls Tryz.prog 54 #[.slice a n c] w fun e w' => ∃ g, e = .returned (.slice (some ⟨g, 0, none⟩) n n) ∧ w.heap.size ≤ g ∧ HasT w' (some ⟨g, 0, none⟩) ss ∧ Below w.heap.size w w' :=
  (f54 a n c ss w hn hb hr).mono fun _ _ h => ⟨w.heap.size, h.1, Nat.le_refl _, HasT.own h.2.1, h.2.2⟩
theorem lt_of_at {w : World} {b : Nat} {x : Obj} (h : w.heap[b]? = some x) : b < w.heap.size := by
  rcases Nat.lt_or_ge b w.heap.size with h1 | h1
  · exact h1
  · rw [Array.getElem?_eq_none h1] at h; cases h
theorem set_at {w : World} {b i : Nat} {arr : Array Value} {t : TypeId} {v : Value} (h : w.heap[b]? = some (.cells arr t)) : (w.setCell ⟨b, i, none⟩ v).heap[b]? = some (.cells (arr.setIfInBounds i v) t) := by
  have hlt := lt_of_at h
  have h' : w.heap[b] = .cells arr t := by simpa [Array.getElem?_eq_getElem hlt] using h
  show (w.heap.modify b _)[b]? = _
  rw [Array.getElem?_eq_getElem (by simpa using hlt), Array.getElem_modify_self, h']
  rfl
theorem HasT.set {w : World} {a : Option Addr} {ss : List ByteArray} {p : Addr} {u : Value} (h : HasT w a ss) (hp : ∀ x, a = some x → x.block ≠ p.block) : HasT (w.setCell p u) a ss := by
  rcases h with h | ⟨b, off, rfl, h2, h3⟩
  · exact .inl h
  · refine .inr ⟨b, off, rfl, by simpa using h2, fun i hi => ?_⟩
    rw [← h3 i hi]
    have := Below.heap_setCell w p u b (hp _ rfl)
    simp only [World.cell?, this]

/-- The box, the rule that is being made, its place in the answer. -/
structure Bx (w : World) (ss : List ByteArray) (B1 B2 B3 g : Nat) (b o : Array Value) (x : World) : Prop where
  one : x.heap[B1]? = some (.cells b 57)
  two : ∃ z0 z1 z2 z3 z4 z5 z6, x.heap[B2]? = some (.cells #[z0, z1, z2, z3, z4, z5, z6] 63)
  three : x.heap[B3]? = some (.cells o 63)
  txt : HasT x (some ⟨g, 0, none⟩) ss
  bel : Below w.heap.size w x
theorem Bx.set {w : World} {ss : List ByteArray} {B1 B2 B3 g i : Nat} {b o o' : Array Value} {v : Value} {x : World} (h : Bx w ss B1 B2 B3 g b o x) (n1 : B1 ≠ B3) (n2 : B2 ≠ B3) (n3 : g ≠ B3) (hB : w.heap.size ≤ B3) (ho : o.setIfInBounds i v = o') : Bx w ss B1 B2 B3 g b o' (x.setCell ⟨B3, i, none⟩ v) := by
  obtain ⟨h1, ⟨z0, z1, z2, z3, z4, z5, z6, h2⟩, h3, h4, h5⟩ := h
  refine ⟨?_, ⟨z0, z1, z2, z3, z4, z5, z6, ?_⟩, ?_, HasT.set h4 ?_, h5.setCell hB v⟩
  · rw [Below.heap_setCell _ _ _ _ n1]; exact h1
  · rw [Below.heap_setCell _ _ _ _ n2]; exact h2
  · rw [set_at h3, ho]
  · rintro x' e; cases e; exact n3

set_option maxHeartbeats 4000000 in
theorem f37 (r : Rule) (a : Option Addr) (n c : Nat) (w : World) (hn : r.from'.length = n) (hr : HasT w a r.from') (hb : n ≤ 1048576) :
    Calls Tryz.prog 37 #[agR r a n c] w fun e w' => ∃ g, e = .returned (agR r (some ⟨g, 0, none⟩) n n) ∧ w.heap.size ≤ g ∧ HasT w' (some ⟨g, 0, none⟩) r.from' ∧ Below w.heap.size w w' := by
  obtain ⟨A, ss, sep, pat, tgt, val, md⟩ := r
  simp only at hn hr
  have HN := hid hn
  have HR := hid hr
  have HB0 := hid ((((Below.refl w.heap.size w).alloc (Nat.le_refl _) (.cells #[.int .i64 A, .slice a n c, .string sep, .string pat, .string tgt, .string val, .int .i64 md] 57)).alloc (by simp) (.cells #[.int .i64 0, .slice none 0 0, .string ⟨#[]⟩, .string ⟨#[]⟩, .string ⟨#[]⟩, .string ⟨#[]⟩, .int .i64 0] 63)).alloc (by simp; omega) (.cells #[.int .i64 A, .slice none 0 0, .string ⟨#[]⟩, .string ⟨#[]⟩, .string ⟨#[]⟩, .string ⟨#[]⟩, .int .i64 0] 63))
  have HT0 := hid (three_new w (.cells #[.int .i64 A, .slice a n c, .string sep, .string pat, .string tgt, .string val, .int .i64 md] 57) (.cells #[.int .i64 0, .slice none 0 0, .string ⟨#[]⟩, .string ⟨#[]⟩, .string ⟨#[]⟩, .string ⟨#[]⟩, .int .i64 0] 63) (.cells #[.int .i64 A, .slice none 0 0, .string ⟨#[]⟩, .string ⟨#[]⟩, .string ⟨#[]⟩, .string ⟨#[]⟩, .int .i64 0] 63))
  clear hn hr
  obtain ⟨B1, e1⟩ : ∃ B, B = w.heap.size := ⟨_, rfl⟩
  obtain ⟨B2, e2⟩ : ∃ B, B = w.heap.size + 1 := ⟨_, rfl⟩
  obtain ⟨B3, e3⟩ : ∃ B, B = w.heap.size + 1 + 1 := ⟨_, rfl⟩
  have E1 := hid e1
  have E2 := hid e2
  have E3 := hid e3
  clear e1 e2 e3
  simp only [agR]
  go_enter Tryz.func37, Tryz.ntmps37
  go_upto_region 3 with fail
  go_cut [1, 2, 3] from 7 to 10 (fun s1 s2 s3 wx => s1 = .pointer (some ⟨B1, 0, none⟩) ∧ s2 = .pointer (some ⟨B2, 0, none⟩) ∧ s3 = .pointer (some ⟨B3, 0, none⟩) ∧ ∃ g, Hid (Bx w ss B1 B2 B3 g #[.int .i64 A, .slice a n c, .string sep, .string pat, .string tgt, .string val, .int .i64 md] #[.int .i64 A, .slice (some ⟨g, 0, none⟩) n n, .string ⟨#[]⟩, .string ⟨#[]⟩, .string ⟨#[]⟩, .string ⟨#[]⟩, .int .i64 0] wx ∧ w.heap.size + 1 + 1 + 1 ≤ g))
  case first =>
    go_wp2_with fail
    refine (f54x a n c ss _ HN.out hb (HR.out.below HB0.out)).mono ?_
    rintro e w4 ⟨g, rfl, hg, ho4, hb4⟩
    have HX : Hid (Bx w ss w.heap.size (w.heap.size + 1) (w.heap.size + 1 + 1) g #[.int .i64 A, .slice a n c, .string sep, .string pat, .string tgt, .string val, .int .i64 md] #[.int .i64 A, .slice none 0 0, .string ⟨#[]⟩, .string ⟨#[]⟩, .string ⟨#[]⟩, .string ⟨#[]⟩, .int .i64 0] w4) := by
      obtain ⟨k1, k2, k3⟩ := HT0.out
      exact ⟨kept_at k1 hb4, ⟨_, _, _, _, _, _, _, kept_at k2 hb4⟩, kept_at k3 hb4, ho4, HB0.out.trans (hb4.mono HB0.out.size)⟩
    have hg' : w.heap.size + 1 + 1 + 1 ≤ g := by simpa using hg
    obtain ⟨d0, d1, d2, d3, d4, d5, d6⟩ := cells7 HX.out.three
    have z3 := froz7 HX.out.three
    have HY := hid (HX.out.set (i := 1) (v := .slice (some ⟨g, 0, none⟩) n n) (o' := #[.int .i64 A, .slice (some ⟨g, 0, none⟩) n n, .string ⟨#[]⟩, .string ⟨#[]⟩, .string ⟨#[]⟩, .string ⟨#[]⟩, .int .i64 0]) (by omega) (by omega) (by omega) (by omega) rfl)
    clear d0 d2 d3 d4 d5 d6 ho4 hb4 hg
    go_wp2
    go_meet
    refine ⟨by rw [E1.out], by rw [E2.out], by rw [E3.out], g, ?_⟩
    rw [E1.out, E2.out, E3.out]
    exact ⟨HY.out, hg'⟩
  case rest =>
  obtain ⟨rfl, rfl, rfl, g, HX0⟩ := hcut
  have n1 : B1 ≠ B3 := by have := E1.out; have := E3.out; omega
  have n2 : B2 ≠ B3 := by have := E2.out; have := E3.out; omega
  have n3 : g ≠ B3 := by have := HX0.out.2; have := E3.out; omega
  have n4 : g ≠ B2 := by have := HX0.out.2; have := E2.out; omega
  have l3 : w.heap.size ≤ B3 := by have := E3.out; omega
  have l2 : w.heap.size ≤ B2 := by have := E2.out; omega
  have HGG : Hid (w.heap.size ≤ g) := by have := HX0.out.2; unfold Hid; omega
  have HX2 := hid HX0.out.1
  clear HB0 HT0 HX0
  go_upto_region 4 with fail
  go_cut [] from 11 to 13 (fun wx => Hid (Bx w ss B1 B2 B3 g #[.int .i64 A, .slice a n c, .string sep, .string pat, .string tgt, .string val, .int .i64 md] #[.int .i64 A, .slice (some ⟨g, 0, none⟩) n n, .string sep, .string ⟨#[]⟩, .string ⟨#[]⟩, .string ⟨#[]⟩, .int .i64 0] wx))
  case first =>
    obtain ⟨b0, b1, b2, b3, b4, b5, b6⟩ := cells7 HX2.out.one
    obtain ⟨d0, d1, d2, d3, d4, d5, d6⟩ := cells7 HX2.out.three
    have z3 := froz7 HX2.out.three 2
    have HY := hid (HX2.out.set (i := 2) (v := .string sep) (o' := #[.int .i64 A, .slice (some ⟨g, 0, none⟩) n n, .string sep, .string ⟨#[]⟩, .string ⟨#[]⟩, .string ⟨#[]⟩, .int .i64 0]) n1 n2 n3 l3 rfl)
    clear b0 b1 b3 b4 b5 b6 d0 d1 d3 d4 d5 d6
    go_wp2
    go_meet
    exact HY
  case rest =>
  have HX3 := hid hcut.out
  clear hcut HX2
  go_upto_region 5 with fail
  go_cut [] from 14 to 16 (fun wx => Hid (Bx w ss B1 B2 B3 g #[.int .i64 A, .slice a n c, .string sep, .string pat, .string tgt, .string val, .int .i64 md] #[.int .i64 A, .slice (some ⟨g, 0, none⟩) n n, .string sep, .string pat, .string ⟨#[]⟩, .string ⟨#[]⟩, .int .i64 0] wx))
  case first =>
    obtain ⟨b0, b1, b2, b3, b4, b5, b6⟩ := cells7 HX3.out.one
    obtain ⟨d0, d1, d2, d3, d4, d5, d6⟩ := cells7 HX3.out.three
    have z3 := froz7 HX3.out.three 3
    have HY := hid (HX3.out.set (i := 3) (v := .string pat) (o' := #[.int .i64 A, .slice (some ⟨g, 0, none⟩) n n, .string sep, .string pat, .string ⟨#[]⟩, .string ⟨#[]⟩, .int .i64 0]) n1 n2 n3 l3 rfl)
    clear b0 b1 b2 b4 b5 b6 d0 d1 d2 d4 d5 d6
    go_wp2
    go_meet
    exact HY
  case rest =>
  have HX4 := hid hcut.out
  clear hcut HX3
  go_upto_region 6 with fail
  go_cut [] from 17 to 19 (fun wx => Hid (Bx w ss B1 B2 B3 g #[.int .i64 A, .slice a n c, .string sep, .string pat, .string tgt, .string val, .int .i64 md] #[.int .i64 A, .slice (some ⟨g, 0, none⟩) n n, .string sep, .string pat, .string tgt, .string ⟨#[]⟩, .int .i64 0] wx))
  case first =>
    obtain ⟨b0, b1, b2, b3, b4, b5, b6⟩ := cells7 HX4.out.one
    obtain ⟨d0, d1, d2, d3, d4, d5, d6⟩ := cells7 HX4.out.three
    have z3 := froz7 HX4.out.three 4
    have HY := hid (HX4.out.set (i := 4) (v := .string tgt) (o' := #[.int .i64 A, .slice (some ⟨g, 0, none⟩) n n, .string sep, .string pat, .string tgt, .string ⟨#[]⟩, .int .i64 0]) n1 n2 n3 l3 rfl)
    clear b0 b1 b2 b3 b5 b6 d0 d1 d2 d3 d5 d6
    go_wp2
    go_meet
    exact HY
  case rest =>
  have HX5 := hid hcut.out
  clear hcut HX4
  go_upto_region 7 with fail
  go_cut [] from 20 to 22 (fun wx => Hid (Bx w ss B1 B2 B3 g #[.int .i64 A, .slice a n c, .string sep, .string pat, .string tgt, .string val, .int .i64 md] #[.int .i64 A, .slice (some ⟨g, 0, none⟩) n n, .string sep, .string pat, .string tgt, .string val, .int .i64 0] wx))
  case first =>
    obtain ⟨b0, b1, b2, b3, b4, b5, b6⟩ := cells7 HX5.out.one
    obtain ⟨d0, d1, d2, d3, d4, d5, d6⟩ := cells7 HX5.out.three
    have z3 := froz7 HX5.out.three 5
    have HY := hid (HX5.out.set (i := 5) (v := .string val) (o' := #[.int .i64 A, .slice (some ⟨g, 0, none⟩) n n, .string sep, .string pat, .string tgt, .string val, .int .i64 0]) n1 n2 n3 l3 rfl)
    clear b0 b1 b2 b3 b4 b6 d0 d1 d2 d3 d4 d6
    go_wp2
    go_meet
    exact HY
  case rest =>
  have HX6 := hid hcut.out
  clear hcut HX5
  go_upto_region 8 with fail
  go_cut [] from 23 to 25 (fun wx => Hid (Bx w ss B1 B2 B3 g #[.int .i64 A, .slice a n c, .string sep, .string pat, .string tgt, .string val, .int .i64 md] #[.int .i64 A, .slice (some ⟨g, 0, none⟩) n n, .string sep, .string pat, .string tgt, .string val, .int .i64 md] wx))
  case first =>
    obtain ⟨b0, b1, b2, b3, b4, b5, b6⟩ := cells7 HX6.out.one
    obtain ⟨d0, d1, d2, d3, d4, d5, d6⟩ := cells7 HX6.out.three
    have z3 := froz7 HX6.out.three 6
    have HY := hid (HX6.out.set (i := 6) (v := .int .i64 md) (o' := #[.int .i64 A, .slice (some ⟨g, 0, none⟩) n n, .string sep, .string pat, .string tgt, .string val, .int .i64 md]) n1 n2 n3 l3 rfl)
    clear b0 b1 b2 b3 b4 b5 d0 d1 d2 d3 d4 d5
    go_wp2
    go_meet
    exact HY
  case rest =>
  have HX7 := hid hcut.out
  clear hcut HX6
  obtain ⟨d0, d1, d2, d3, d4, d5, d6⟩ := cells7 HX7.out.three
  obtain ⟨z0, z1, z2, z3, z4, z5, z6, h2⟩ := HX7.out.two
  obtain ⟨c0, c1, c2, c3, c4, c5, c6⟩ := cells7 h2
  have fz := froz7 h2
  have HC := hid (set_at (i := 6) (v := .int .i64 md) (set_at (i := 5) (v := .string val) (set_at (i := 4) (v := .string tgt) (set_at (i := 3) (v := .string pat) (set_at (i := 2) (v := .string sep) (set_at (i := 1) (v := .slice (some ⟨g, 0, none⟩) n n) (set_at (i := 0) (v := .int .i64 A) h2)))))))
  have np : ∀ x, (some ⟨g, 0, none⟩ : Option Addr) = some x → x.block ≠ B2 := by rintro x e; cases e; exact n4
  clear h2
  go_wp2
  have HF := hid (HasT.set (p := ⟨B2, 6, none⟩) (u := .int .i64 md) (HasT.set (p := ⟨B2, 5, none⟩) (u := .string val) (HasT.set (p := ⟨B2, 4, none⟩) (u := .string tgt) (HasT.set (p := ⟨B2, 3, none⟩) (u := .string pat) (HasT.set (p := ⟨B2, 2, none⟩) (u := .string sep) (HasT.set (p := ⟨B2, 1, none⟩) (u := .slice (some ⟨g, 0, none⟩) n n) (HasT.set (p := ⟨B2, 0, none⟩) (u := .int .i64 A) HX7.out.txt np) np) np) np) np) np) np)
  have HG := hid (Below.setCell (p := ⟨B2, 6, none⟩) (Below.setCell (p := ⟨B2, 5, none⟩) (Below.setCell (p := ⟨B2, 4, none⟩) (Below.setCell (p := ⟨B2, 3, none⟩) (Below.setCell (p := ⟨B2, 2, none⟩) (Below.setCell (p := ⟨B2, 1, none⟩) (Below.setCell (p := ⟨B2, 0, none⟩) HX7.out.bel l2 (.int .i64 A)) l2 (.slice (some ⟨g, 0, none⟩) n n)) l2 (.string sep)) l2 (.string pat)) l2 (.string tgt)) l2 (.string val)) l2 (.int .i64 md))
  clear c0 c1 c2 c3 c4 c5 c6 d0 d1 d2 d3 d4 d5 d6 fz HX7
  revert HC HF HG
  generalize World.setCell _ _ _ = wf
  intro HC HF HG
  obtain ⟨y0, y1, y2, y3, y4, y5, y6⟩ := cells7 (show wf.heap[B2]? = some (.cells #[.int .i64 A, .slice (some ⟨g, 0, none⟩) n n, .string sep, .string pat, .string tgt, .string val, .int .i64 md] 63) from HC.out)
  refine bodyPost_ret (v := .agg #[.int .i64 A, .slice (some ⟨g, 0, none⟩) n n, .string sep, .string pat, .string tgt, .string val, .int .i64 md]) ?_ rfl ⟨g, rfl, HGG.out, HF.out, HG.out⟩
  simp [results, Tryz.results37, go_sem, y0, y1, y2, y3, y4, y5, y6]
end Go.Proofs.YtcknlidbjnmbjaaGreatDoor.Rel
/- Rules: eqRelabel. -/
namespace Go.Proofs.YtcknlidbjnmbjaaGreatDoor.Rel
open Go.RowKit Go.Proofs.YtcknlidbjnmbjaaGreatDoor.Fil

theorem str_same (a : ByteArray) : (a.toList != a.toList) = false := by simp
theorem two_new (w : World) (x y : Obj) : ((w.alloc x).alloc y).heap[w.heap.size]? = some x ∧ ((w.alloc x).alloc y).heap[w.heap.size + 1]? = some y := by
  show ((w.heap.push x).push y)[w.heap.size]? = some x ∧ ((w.heap.push x).push y)[w.heap.size + 1]? = some y
  refine ⟨?_, ?_⟩
  · rw [Array.getElem?_push, if_neg (by simp), Array.getElem?_push, if_pos rfl]
  · rw [Array.getElem?_push, if_pos (by simp)]

/-- Two boxes with one rule. -/
structure By (w : World) (r : Rule) (B1 B2 n c c' : Nat) (a a' : Option Addr) (x : World) : Prop where
  one : x.heap[B1]? = some (.cells #[.int .i64 r.act, .slice a n c, .string r.sep, .string r.pat, .string r.tgt, .string r.val, .int .i64 r.md] 63)
  two : x.heap[B2]? = some (.cells #[.int .i64 r.act, .slice a' n c', .string r.sep, .string r.pat, .string r.tgt, .string r.val, .int .i64 r.md] 63)
  txt : HasT x a r.from'
  txt' : HasT x a' r.from'
  bel : Below w.heap.size w x
theorem By.below {w : World} {r : Rule} {B1 B2 n c c' : Nat} {a a' : Option Addr} {x y : World} (h : By w r B1 B2 n c c' a a' x) (hb : Below x.heap.size x y) : By w r B1 B2 n c c' a a' y :=
  ⟨kept_at h.one hb, kept_at h.two hb, h.txt.below hb, h.txt'.below hb, h.bel.trans (hb.mono h.bel.size)⟩

set_option maxHeartbeats 4000000 in
theorem f46 (r : Rule) (a a' : Option Addr) (n c c' : Nat) (w : World) (hn : r.from'.length = n) (hr : HasT w a r.from') (hr' : HasT w a' r.from') (hb : n ≤ 1048576) :
    Calls Tryz.prog 46 #[agR r a n c, agR r a' n c'] w fun e w' => e = .returned (.bool true) ∧ Below w.heap.size w w' := by
  have HN := hid hn
  have H0 : Hid (By w r w.heap.size (w.heap.size + 1) n c c' a a' ((w.alloc (.cells #[.int .i64 r.act, .slice a n c, .string r.sep, .string r.pat, .string r.tgt, .string r.val, .int .i64 r.md] 63)).alloc (.cells #[.int .i64 r.act, .slice a' n c', .string r.sep, .string r.pat, .string r.tgt, .string r.val, .int .i64 r.md] 63))) := by
    obtain ⟨k1, k2⟩ := two_new w (.cells #[.int .i64 r.act, .slice a n c, .string r.sep, .string r.pat, .string r.tgt, .string r.val, .int .i64 r.md] 63) (.cells #[.int .i64 r.act, .slice a' n c', .string r.sep, .string r.pat, .string r.tgt, .string r.val, .int .i64 r.md] 63)
    have hbl := ((Below.refl w.heap.size w).alloc (Nat.le_refl _) (.cells #[.int .i64 r.act, .slice a n c, .string r.sep, .string r.pat, .string r.tgt, .string r.val, .int .i64 r.md] 63)).alloc (by simp) (.cells #[.int .i64 r.act, .slice a' n c', .string r.sep, .string r.pat, .string r.tgt, .string r.val, .int .i64 r.md] 63)
    exact ⟨k1, k2, hr.below hbl, hr'.below hbl, hbl⟩
  clear hn hr hr'
  have s1 := str_same r.sep
  have s2 := str_same r.pat
  have s3 := str_same r.tgt
  have s4 := str_same r.val
  simp only [agR]
  go_enter Tryz.func46, Tryz.ntmps46
  go_wp2_with fail
  refine (f65 a a' n c c' r.from' _ HN.out hb H0.out.txt H0.out.txt').mono ?_
  rintro e w2 ⟨rfl, hb2⟩
  have H1 := hid (H0.out.below hb2)
  obtain ⟨b0, b1, b2, b3, b4, b5, b6⟩ := cells7 H1.out.one
  obtain ⟨c0, c1, c2, c3, c4, c5, c6⟩ := cells7 H1.out.two
  clear hb2 b0 b1 c0 c1 H0
  go_wp2
  go_ret
  exact ⟨rfl, H1.out.bel⟩
end Go.Proofs.YtcknlidbjnmbjaaGreatDoor.Rel
