/- Rules: toRelabel, its names owned. -/
import Derived.Test.YtcknlidbjnmbjaaGreatDoorRRA
import Derived.Deep.CutRange
import Derived.Test.YtcknlidbjnmbjaaGreatDoorRQH
import Derived.Test.YtcknlidbjnmbjaaGreatDoorRSK
import Derived.Laws.BytesArg
import Derived.Test.YtcknlidbjnmbjaaGreatDoorRSE
namespace Go.Proofs.YtcknlidbjnmbjaaGreatDoor.Row
open Go.RowKit Go.Proofs.YtcknlidbjnmbjaaGreatDoor.Fil Go.Proofs.YtcknlidbjnmbjaaGreatDoor.Rel

theorem own_base {w : World} {base base' e size n : Nat} {v : Value} {xs : List Value} (h : w.ownsRow base e size v n xs) (hb : base' ≤ base) : w.ownsRow base' e size v n xs := by
  refine ⟨h.1, ?_⟩
  rcases h.2 with h2 | ⟨g, cap, cur, h1, h2, h3⟩
  · exact .inl h2
  · exact .inr ⟨g, cap, cur, h1, by omega, h3⟩
theorem own_set {w : World} {base e size n c g : Nat} {xs : List Value} {p : Addr} (h : w.ownsRow base e size (.slice (some ⟨g, 0, none⟩) n c) n xs) (hp : g ≠ p.block) (u : Value) : (w.setCell p u).ownsRow base e size (.slice (some ⟨g, 0, none⟩) n c) n xs := by
  refine h.kept (row := some p.block) ⟨rfl, rfl, rfl, by simp, fun j hj hne => Below.heap_setCell w p u j (fun e => hne (by rw [e]))⟩ (.inr ?_)
  intro e
  exact hp (Option.some.inj e)
theorem f54o (a : Option Addr) (n c : Nat) (ss : List ByteArray) (w : World) (hn : ss.length = n) (hb : n ≤ 1048576) (hr : HasT w a ss) :
    Calls Tryz.prog 54 #[.slice a n c] w fun e w' => ∃ g, e = .returned (.slice (some ⟨g, 0, none⟩) n n) ∧ w.heap.size ≤ g ∧ w'.ownsRow w.heap.size 9 1 (.slice (some ⟨g, 0, none⟩) n n) n (ss.map Value.string) ∧ Below w.heap.size w w' :=
  (f54 a n c ss w hn hb hr).mono fun _ _ h => ⟨w.heap.size, h.1, Nat.le_refl _, h.2.1, h.2.2⟩

/-- The box, the rule that is being made, its place in the answer. -/
structure Bx (w : World) (ss : List ByteArray) (n B1 B2 B3 g : Nat) (b o : Array Value) (x : World) : Prop where
  one : x.heap[B1]? = some (.cells b 57)
  two : ∃ z0 z1 z2 z3 z4 z5 z6, x.heap[B2]? = some (.cells #[z0, z1, z2, z3, z4, z5, z6] 63)
  three : x.heap[B3]? = some (.cells o 63)
  txt : x.ownsRow w.heap.size 9 1 (.slice (some ⟨g, 0, none⟩) n n) n (ss.map Value.string)
  bel : Below w.heap.size w x
theorem Bx.set {w : World} {ss : List ByteArray} {n B1 B2 B3 g i : Nat} {b o o' : Array Value} {v : Value} {x : World} (h : Bx w ss n B1 B2 B3 g b o x) (n1 : B1 ≠ B3) (n2 : B2 ≠ B3) (n3 : g ≠ B3) (hB : w.heap.size ≤ B3) (ho : o.setIfInBounds i v = o') : Bx w ss n B1 B2 B3 g b o' (x.setCell ⟨B3, i, none⟩ v) := by
  obtain ⟨h1, ⟨z0, z1, z2, z3, z4, z5, z6, h2⟩, h3, h4, h5⟩ := h
  refine ⟨?_, ⟨z0, z1, z2, z3, z4, z5, z6, ?_⟩, ?_, own_set h4 n3 v, h5.setCell hB v⟩
  · rw [Below.heap_setCell _ _ _ _ n1]; exact h1
  · rw [Below.heap_setCell _ _ _ _ n2]; exact h2
  · rw [set_at h3, ho]

set_option maxHeartbeats 4000000 in
theorem f37o (r : Rule) (a : Option Addr) (n c : Nat) (w : World) (hn : r.from'.length = n) (hr : HasT w a r.from') (hb : n ≤ 1048576) :
    Calls Tryz.prog 37 #[agR r a n c] w fun e w' => ∃ g, e = .returned (agR r (some ⟨g, 0, none⟩) n n) ∧ w.heap.size ≤ g ∧ w'.ownsRow w.heap.size 9 1 (.slice (some ⟨g, 0, none⟩) n n) n (r.from'.map Value.string) ∧ Below w.heap.size w w' := by
  obtain ⟨A, ss, sep, pat, tgt, val, md⟩ := r
  simp only at hn hr
  have HN := hid hn
  have HR := hid hr
  have HB0 := hid ((((Below.refl w.heap.size w).alloc (Nat.le_refl _) (.cells #[.int .i64 A, .slice a n c, .string sep, .string pat, .string tgt, .string val, .int .i64 md] 57)).alloc (by simp) (.cells #[.int .i64 0, .slice none 0 0, .string ⟨#[]⟩, .string ⟨#[]⟩, .string ⟨#[]⟩, .string ⟨#[]⟩, .int .i64 0] 63)).alloc (by simp; omega) (.cells #[.int .i64 A, .slice none 0 0, .string ⟨#[]⟩, .string ⟨#[]⟩, .string ⟨#[]⟩, .string ⟨#[]⟩, .int .i64 0] 63))
  have HT0 := hid (three_new w (.cells #[.int .i64 A, .slice a n c, .string sep, .string pat, .string tgt, .string val, .int .i64 md] 57) (.cells #[.int .i64 0, .slice none 0 0, .string ⟨#[]⟩, .string ⟨#[]⟩, .string ⟨#[]⟩, .string ⟨#[]⟩, .int .i64 0] 63) (.cells #[.int .i64 A, .slice none 0 0, .string ⟨#[]⟩, .string ⟨#[]⟩, .string ⟨#[]⟩, .string ⟨#[]⟩, .int .i64 0] 63))
  clear hn hr
  obtain ⟨B1, e1⟩ : ∃ B, B = w.heap.size := ⟨_, rfl⟩
  obtain ⟨B2, e2⟩ : ∃ B, B = w.heap.size + 1 := ⟨_, rfl⟩
  obtain ⟨B3, e3⟩ : ∃ B, B = w.heap.size + 1 + 1 := ⟨_, rfl⟩
  have E1 := hid e1
  have E2 := hid e2
  have E3 := hid e3
  clear e1 e2 e3
  simp only [agR]
  go_enter Tryz.func37, Tryz.ntmps37
  go_upto_region 3 with fail
  go_cut [1, 2, 3] from 7 to 10 (fun s1 s2 s3 wx => s1 = .pointer (some ⟨B1, 0, none⟩) ∧ s2 = .pointer (some ⟨B2, 0, none⟩) ∧ s3 = .pointer (some ⟨B3, 0, none⟩) ∧ ∃ g, Hid (Bx w ss n B1 B2 B3 g #[.int .i64 A, .slice a n c, .string sep, .string pat, .string tgt, .string val, .int .i64 md] #[.int .i64 A, .slice (some ⟨g, 0, none⟩) n n, .string ⟨#[]⟩, .string ⟨#[]⟩, .string ⟨#[]⟩, .string ⟨#[]⟩, .int .i64 0] wx ∧ w.heap.size + 1 + 1 + 1 ≤ g))
  case first =>
    go_wp2_with fail
    refine (f54o a n c ss _ HN.out hb (HR.out.below HB0.out)).mono ?_
    rintro e w4 ⟨g, rfl, hg, ho4, hb4⟩
    have HX : Hid (Bx w ss n w.heap.size (w.heap.size + 1) (w.heap.size + 1 + 1) g #[.int .i64 A, .slice a n c, .string sep, .string pat, .string tgt, .string val, .int .i64 md] #[.int .i64 A, .slice none 0 0, .string ⟨#[]⟩, .string ⟨#[]⟩, .string ⟨#[]⟩, .string ⟨#[]⟩, .int .i64 0] w4) := by
      obtain ⟨k1, k2, k3⟩ := HT0.out
      exact ⟨kept_at k1 hb4, ⟨_, _, _, _, _, _, _, kept_at k2 hb4⟩, kept_at k3 hb4, own_base ho4 (by simp only [World.size_alloc]; omega), HB0.out.trans (hb4.mono HB0.out.size)⟩
    have hg' : w.heap.size + 1 + 1 + 1 ≤ g := by simpa using hg
    obtain ⟨d0, d1, d2, d3, d4, d5, d6⟩ := cells7 HX.out.three
    have z3 := froz7 HX.out.three
    have HY := hid (HX.out.set (i := 1) (v := .slice (some ⟨g, 0, none⟩) n n) (o' := #[.int .i64 A, .slice (some ⟨g, 0, none⟩) n n, .string ⟨#[]⟩, .string ⟨#[]⟩, .string ⟨#[]⟩, .string ⟨#[]⟩, .int .i64 0]) (by omega) (by omega) (by omega) (by omega) rfl)
    clear d0 d2 d3 d4 d5 d6 ho4 hb4 hg
    go_wp2
    go_meet
    refine ⟨by rw [E1.out], by rw [E2.out], by rw [E3.out], g, ?_⟩
    rw [E1.out, E2.out, E3.out]
    exact ⟨HY.out, hg'⟩
  case rest =>
  obtain ⟨rfl, rfl, rfl, g, HX0⟩ := hcut
  have n1 : B1 ≠ B3 := by have := E1.out; have := E3.out; omega
  have n2 : B2 ≠ B3 := by have := E2.out; have := E3.out; omega
  have n3 : g ≠ B3 := by have := HX0.out.2; have := E3.out; omega
  have n4 : g ≠ B2 := by have := HX0.out.2; have := E2.out; omega
  have l3 : w.heap.size ≤ B3 := by have := E3.out; omega
  have l2 : w.heap.size ≤ B2 := by have := E2.out; omega
  have HGG : Hid (w.heap.size ≤ g) := by have := HX0.out.2; unfold Hid; omega
  have HX2 := hid HX0.out.1
  clear HB0 HT0 HX0
  go_upto_region 4 with fail
  go_cut [] from 11 to 13 (fun wx => Hid (Bx w ss n B1 B2 B3 g #[.int .i64 A, .slice a n c, .string sep, .string pat, .string tgt, .string val, .int .i64 md] #[.int .i64 A, .slice (some ⟨g, 0, none⟩) n n, .string sep, .string ⟨#[]⟩, .string ⟨#[]⟩, .string ⟨#[]⟩, .int .i64 0] wx))
  case first =>
    obtain ⟨b0, b1, b2, b3, b4, b5, b6⟩ := cells7 HX2.out.one
    obtain ⟨d0, d1, d2, d3, d4, d5, d6⟩ := cells7 HX2.out.three
    have z3 := froz7 HX2.out.three 2
    have HY := hid (HX2.out.set (i := 2) (v := .string sep) (o' := #[.int .i64 A, .slice (some ⟨g, 0, none⟩) n n, .string sep, .string ⟨#[]⟩, .string ⟨#[]⟩, .string ⟨#[]⟩, .int .i64 0]) n1 n2 n3 l3 rfl)
    clear b0 b1 b3 b4 b5 b6 d0 d1 d3 d4 d5 d6
    go_wp2
    go_meet
    exact HY
  case rest =>
  have HX3 := hid hcut.out
  clear hcut HX2
  go_upto_region 5 with fail
  go_cut [] from 14 to 16 (fun wx => Hid (Bx w ss n B1 B2 B3 g #[.int .i64 A, .slice a n c, .string sep, .string pat, .string tgt, .string val, .int .i64 md] #[.int .i64 A, .slice (some ⟨g, 0, none⟩) n n, .string sep, .string pat, .string ⟨#[]⟩, .string ⟨#[]⟩, .int .i64 0] wx))
  case first =>
    obtain ⟨b0, b1, b2, b3, b4, b5, b6⟩ := cells7 HX3.out.one
    obtain ⟨d0, d1, d2, d3, d4, d5, d6⟩ := cells7 HX3.out.three
    have z3 := froz7 HX3.out.three 3
    have HY := hid (HX3.out.set (i := 3) (v := .string pat) (o' := #[.int .i64 A, .slice (some ⟨g, 0, none⟩) n n, .string sep, .string pat, .string ⟨#[]⟩, .string ⟨#[]⟩, .int .i64 0]) n1 n2 n3 l3 rfl)
    clear b0 b1 b2 b4 b5 b6 d0 d1 d2 d4 d5 d6
    go_wp2
    go_meet
    exact HY
  case rest =>
  have HX4 := hid hcut.out
  clear hcut HX3
  go_upto_region 6 with fail
  go_cut [] from 17 to 19 (fun wx => Hid (Bx w ss n B1 B2 B3 g #[.int .i64 A, .slice a n c, .string sep, .string pat, .string tgt, .string val, .int .i64 md] #[.int .i64 A, .slice (some ⟨g, 0, none⟩) n n, .string sep, .string pat, .string tgt, .string ⟨#[]⟩, .int .i64 0] wx))
  case first =>
    obtain ⟨b0, b1, b2, b3, b4, b5, b6⟩ := cells7 HX4.out.one
    obtain ⟨d0, d1, d2, d3, d4, d5, d6⟩ := cells7 HX4.out.three
    have z3 := froz7 HX4.out.three 4
    have HY := hid (HX4.out.set (i := 4) (v := .string tgt) (o' := #[.int .i64 A, .slice (some ⟨g, 0, none⟩) n n, .string sep, .string pat, .string tgt, .string ⟨#[]⟩, .int .i64 0]) n1 n2 n3 l3 rfl)
    clear b0 b1 b2 b3 b5 b6 d0 d1 d2 d3 d5 d6
    go_wp2
    go_meet
    exact HY
  case rest =>
  have HX5 := hid hcut.out
  clear hcut HX4
  go_upto_region 7 with fail
  go_cut [] from 20 to 22 (fun wx => Hid (Bx w ss n B1 B2 B3 g #[.int .i64 A, .slice a n c, .string sep, .string pat, .string tgt, .string val, .int .i64 md] #[.int .i64 A, .slice (some ⟨g, 0, none⟩) n n, .string sep, .string pat, .string tgt, .string val, .int .i64 0] wx))
  case first =>
    obtain ⟨b0, b1, b2, b3, b4, b5, b6⟩ := cells7 HX5.out.one
    obtain ⟨d0, d1, d2, d3, d4, d5, d6⟩ := cells7 HX5.out.three
    have z3 := froz7 HX5.out.three 5
    have HY := hid (HX5.out.set (i := 5) (v := .string val) (o' := #[.int .i64 A, .slice (some ⟨g, 0, none⟩) n n, .string sep, .string pat, .string tgt, .string val, .int .i64 0]) n1 n2 n3 l3 rfl)
    clear b0 b1 b2 b3 b4 b6 d0 d1 d2 d3 d4 d6
    go_wp2
    go_meet
    exact HY
  case rest =>
  have HX6 := hid hcut.out
  clear hcut HX5
  go_upto_region 8 with fail
  go_cut [] from 23 to 25 (fun wx => Hid (Bx w ss n B1 B2 B3 g #[.int .i64 A, .slice a n c, .string sep, .string pat, .string tgt, .string val, .int .i64 md] #[.int .i64 A, .slice (some ⟨g, 0, none⟩) n n, .string sep, .string pat, .string tgt, .string val, .int .i64 md] wx))
  case first =>
    obtain ⟨b0, b1, b2, b3, b4, b5, b6⟩ := cells7 HX6.out.one
    obtain ⟨d0, d1, d2, d3, d4, d5, d6⟩ := cells7 HX6.out.three
    have z3 := froz7 HX6.out.three 6
    have HY := hid (HX6.out.set (i := 6) (v := .int .i64 md) (o' := #[.int .i64 A, .slice (some ⟨g, 0, none⟩) n n, .string sep, .string pat, .string tgt, .string val, .int .i64 md]) n1 n2 n3 l3 rfl)
    clear b0 b1 b2 b3 b4 b5 d0 d1 d2 d3 d4 d5
    go_wp2
    go_meet
    exact HY
  case rest =>
  have HX7 := hid hcut.out
  clear hcut HX6
  obtain ⟨d0, d1, d2, d3, d4, d5, d6⟩ := cells7 HX7.out.three
  obtain ⟨z0, z1, z2, z3, z4, z5, z6, h2⟩ := HX7.out.two
  obtain ⟨c0, c1, c2, c3, c4, c5, c6⟩ := cells7 h2
  have fz := froz7 h2
  have HC := hid (set_at (i := 6) (v := .int .i64 md) (set_at (i := 5) (v := .string val) (set_at (i := 4) (v := .string tgt) (set_at (i := 3) (v := .string pat) (set_at (i := 2) (v := .string sep) (set_at (i := 1) (v := .slice (some ⟨g, 0, none⟩) n n) (set_at (i := 0) (v := .int .i64 A) h2)))))))
  clear h2
  go_wp2
  have HF := hid (own_set (p := ⟨B2, 6, none⟩) (own_set (p := ⟨B2, 5, none⟩) (own_set (p := ⟨B2, 4, none⟩) (own_set (p := ⟨B2, 3, none⟩) (own_set (p := ⟨B2, 2, none⟩) (own_set (p := ⟨B2, 1, none⟩) (own_set (p := ⟨B2, 0, none⟩) HX7.out.txt n4 (.int .i64 A)) n4 (.slice (some ⟨g, 0, none⟩) n n)) n4 (.string sep)) n4 (.string pat)) n4 (.string tgt)) n4 (.string val)) n4 (.int .i64 md))
  have HG := hid (Below.setCell (p := ⟨B2, 6, none⟩) (Below.setCell (p := ⟨B2, 5, none⟩) (Below.setCell (p := ⟨B2, 4, none⟩) (Below.setCell (p := ⟨B2, 3, none⟩) (Below.setCell (p := ⟨B2, 2, none⟩) (Below.setCell (p := ⟨B2, 1, none⟩) (Below.setCell (p := ⟨B2, 0, none⟩) HX7.out.bel l2 (.int .i64 A)) l2 (.slice (some ⟨g, 0, none⟩) n n)) l2 (.string sep)) l2 (.string pat)) l2 (.string tgt)) l2 (.string val)) l2 (.int .i64 md))
  clear c0 c1 c2 c3 c4 c5 c6 d0 d1 d2 d3 d4 d5 d6 fz HX7
  revert HC HF HG
  generalize World.setCell _ _ _ = wf
  intro HC HF HG
  obtain ⟨y0, y1, y2, y3, y4, y5, y6⟩ := cells7 (show wf.heap[B2]? = some (.cells #[.int .i64 A, .slice (some ⟨g, 0, none⟩) n n, .string sep, .string pat, .string tgt, .string val, .int .i64 md] 63) from HC.out)
  refine bodyPost_ret (v := .agg #[.int .i64 A, .slice (some ⟨g, 0, none⟩) n n, .string sep, .string pat, .string tgt, .string val, .int .i64 md]) ?_ rfl ⟨g, rfl, HGG.out, HF.out, HG.out⟩
  simp [results, Tryz.results37, go_sem, y0, y1, y2, y3, y4, y5, y6]
end Go.Proofs.YtcknlidbjnmbjaaGreatDoor.Row
/- Lists of rules: toRelabelS, all of it owned. -/
namespace Go.Proofs.YtcknlidbjnmbjaaGreatDoor.Rul
open Go.RowKit Go.Proofs.YtcknlidbjnmbjaaGreatDoor.Fil Go.Proofs.YtcknlidbjnmbjaaGreatDoor.Rel

theorem putN_own' {base e size n c g b : Nat} {xs : List Value} (hp : g ≠ b) : ∀ (vs : List Value) (w : World) (o : Nat), w.ownsRow base e size (.slice (some ⟨g, 0, none⟩) n c) n xs → (putN w b o vs).ownsRow base e size (.slice (some ⟨g, 0, none⟩) n c) n xs := by
  intro vs
  induction vs with
  | nil => intro w o h; exact h
  | cons v vs ih => intro w o h; exact ih _ _ (Row.own_set h hp v)
/-- A row of names of a rule. -/
abbrev nmR (X : Nat) (q : Q) (w : World) : Prop := w.ownsRow X 9 1 (.slice q.a q.r.from'.length q.c) q.r.from'.length (q.r.from'.map Value.string)
theorem own_blk {w : World} {base e size n c : Nat} {a : Option Addr} {xs : List Value} {x : Addr} (h : w.ownsRow base e size (.slice a n c) n xs) (e1 : a = some x) : (Value.slice (some x) n c).ownBlock = some x.block := by
  subst e1
  rcases h.2 with ⟨h1, _⟩ | ⟨g, cap, cur, h1, _⟩
  · cases h1
  · cases h1; rfl
theorem putN_nm {X b o : Nat} {q : Q} {w : World} (h : nmR X q w) (hp : ∀ x, q.a = some x → b < x.block) (vs : List Value) : nmR X q (putN w b o vs) := by
  unfold nmR at *
  cases ha : q.a with
  | none =>
    rw [ha] at h
    rcases h.2 with ⟨h1, h2⟩ | ⟨g, cap, cur, h1, _⟩
    · exact ⟨h.1, .inl ⟨h1, h2⟩⟩
    · cases h1
  | some x =>
    rw [ha] at h
    rcases h.2 with ⟨h1, _⟩ | ⟨g, cap, cur, h1, _⟩
    · cases h1
    · cases h1
      exact putN_own' (Nat.ne_of_gt (hp _ ha)) vs _ _ h
/-- The rules that are made by now, all of it owned. -/
structure DnO (qs : List Q) (B k : Nat) (d : List Q) (w : World) : Prop where
  len : d.length = k
  same : ∀ i, i < k → (d.getD i q0).r = (qs.getD i q0).r
  txt : ∀ i, i < k → nmR B (d.getD i q0) w
  off : ∀ i, i < k → ∀ x, (d.getD i q0).a = some x → B < x.block
  dis : ∀ i j, i < j → j < k → ∀ x y, (d.getD i q0).a = some x → (d.getD j q0).a = some y → x.block < y.block
theorem DnO.below {qs d : List Q} {B k : Nat} {w w' : World} (h : DnO qs B k d w) (hb : Below w.heap.size w w') : DnO qs B k d w' := ⟨h.len, h.same, fun i hi => own_below (h.txt i hi) hb, h.off, h.dis⟩
theorem DnO.put {qs d : List Q} {B k o : Nat} {w : World} (h : DnO qs B k d w) (vs : List Value) : DnO qs B k d (putN w B o vs) := ⟨h.len, h.same, fun i hi => putN_nm (h.txt i hi) (h.off i hi) vs, h.off, h.dis⟩
theorem DnO.snoc {qs d : List Q} {B k : Nat} {w : World} {q : Q} (h : DnO qs B k d w) (h1 : q.r = (qs.getD k q0).r) (h2 : nmR B q w) (h3 : ∀ x, q.a = some x → B < x.block) (h4 : ∀ i, i < k → ∀ x y, (d.getD i q0).a = some x → q.a = some y → x.block < y.block) : DnO qs B (k + 1) (d ++ [q]) w := by
  have hl := h.len
  refine ⟨by simp [hl], fun i hi => ?_, fun i hi => ?_, fun i hi => ?_, fun i j hij hj => ?_⟩
  · rw [getD_snoc]
    by_cases e : i = d.length
    · rw [if_pos e, e, hl]; exact h1
    · rw [if_neg e]; exact h.same i (by omega)
  · rw [getD_snoc]
    by_cases e : i = d.length
    · rw [if_pos e]; exact h2
    · rw [if_neg e]; exact h.txt i (by omega)
  · rw [getD_snoc]
    by_cases e : i = d.length
    · rw [if_pos e]; exact h3
    · rw [if_neg e]; exact h.off i (by omega)
  · rw [getD_snoc, getD_snoc, if_neg (show ¬ i = d.length by omega)]
    by_cases e : j = d.length
    · rw [if_pos e]; exact h4 i (by omega)
    · rw [if_neg e]; exact h.dis i j hij (by omega)
/-- Rules that lie at block g, they and their names in memory from X on. -/
structure OwnR (X g n : Nat) (qs : List Q) (w : World) : Prop where
  len : qs.length = n
  row : w.ownsRow X 63 7 (.slice (some ⟨g, 0, none⟩) n n) n (flat qs)
  txt : ∀ i, i < n → nmR X (qs.getD i q0) w
  off : ∀ i, i < n → ∀ x, (qs.getD i q0).a = some x → g < x.block
  dis : ∀ i j, i < j → j < n → ∀ x y, (qs.getD i q0).a = some x → (qs.getD j q0).a = some y → x.block < y.block
set_option maxHeartbeats 2000000 in
theorem f20o (a : Option Addr) (n c : Nat) (qs : List Q) (w : World) (hn : qs.length = n) (hb : n ≤ 1048576) (hr : HasR w a qs) (hz : SmlQ qs) :
    Calls Tryz.prog 20 #[.slice a n c] w fun e w' => ∃ qs' : List Q, e = .returned (.slice (some ⟨w.heap.size, 0, none⟩) n n) ∧ (∀ i, i < n → (qs'.getD i q0).r = (qs.getD i q0).r) ∧ OwnR w.heap.size w.heap.size n qs' w' ∧ Below w.heap.size w w' := by
  obtain ⟨i0, hi, hz0, hz1, hz2⟩ := info_parts info7
  have HN := hid hn
  have HR := hid hr
  have HZ := hid hz
  clear hn hr hz
  go_enter Tryz.func20, Tryz.ntmps20
  go_wp2_with (at_make; refine wpList_make_full _ rfl _ _ 31 rfl w.heap.size 63 i0 (.agg #[.int .i64 0, .slice none 0 0, .string ByteArray.empty, .string ByteArray.empty, .string ByteArray.empty, .string ByteArray.empty, .int .i64 0]) 7 Tryz.underlying31 hi hz0 hz1 _ _ _ _ n rfl rfl rfl rfl ?b2 ?b3 (Nat.le_refl _) ?_)
  case b2 => rw [hz2]; omega
  case b3 => unfold maxLen; omega
  intro w0 hown0 hgrow0
  have hown1 : Hid (w0.ownsRow w.heap.size 63 7 (.slice (some ⟨w.heap.size, 0, none⟩) n n) n (flat (List.replicate n q0))) := by
    rw [← made_seven]; exact hown0
  have hb0 := hid ((Below.refl w.heap.size w).grown hgrow0 (Nat.le_refl _) (fun k h => by cases h))
  clear hown0 hgrow0
  go_wp2
  go_loopw [4] (fun i wr => ∃ (k : Nat) (d : List Q), k ≤ n ∧ i = .int .i64 k ∧ Hid (DnO qs w.heap.size k d wr) ∧ Hid (wr.ownsRow w.heap.size 63 7 (.slice (some ⟨w.heap.size, 0, none⟩) n n) n (flat (d ++ List.replicate (n - k) q0))) ∧ Hid (Below w.heap.size w wr))
    (fun i _ => n - (intOf i).toNat)
  case atStart => exact ⟨0, [], Nat.zero_le _, rfl, ⟨rfl, fun i hi => by omega, fun i hi => by omega, fun i hi => by omega, fun i j h1 h2 => by omega⟩, by unfold Hid; simpa using hown1.out, hb0.out⟩
  case round =>
    obtain ⟨k, d, hk, rfl, HD, HO, HX⟩ := hrel
    by_cases hlt : k < n
    · obtain ⟨b, off, rfl, hbl, c0, c1, c2, c3, c4, c5, c6, hT⟩ := (HR.out).at7 k (by rw [HN.out]; exact hlt)
      have d0 := (HX.out.cell (p := ⟨b, off + k * 7, none⟩) hbl).trans c0
      have d1 := (HX.out.cell (p := ⟨b, off + k * 7 + 1, none⟩) hbl).trans c1
      have d2 := (HX.out.cell (p := ⟨b, off + k * 7 + 2, none⟩) hbl).trans c2
      have d3 := (HX.out.cell (p := ⟨b, off + k * 7 + 3, none⟩) hbl).trans c3
      have d4 := (HX.out.cell (p := ⟨b, off + k * 7 + 4, none⟩) hbl).trans c4
      have d5 := (HX.out.cell (p := ⟨b, off + k * 7 + 5, none⟩) hbl).trans c5
      have d6 := (HX.out.cell (p := ⟨b, off + k * 7 + 6, none⟩) hbl).trans c6
      have HT := hid (hT.below HX.out)
      have HS := hid ((HZ.out k (by rw [HN.out]; exact hlt)).n)
      obtain ⟨q, hq⟩ : ∃ q, q = qs.getD k q0 := ⟨_, rfl⟩
      have HQ := hid hq
      rw [← hq] at d0 d1 d2 d3 d4 d5 d6 HT HS
      clear c0 c1 c2 c3 c4 c5 c6 hT hbl hq
      obtain ⟨r, aq, cq⟩ := q
      go_wp2_with fail
      refine (Row.f37o r aq r.from'.length cq _ rfl HT.out HS.out).mono ?_
      rintro e w2 ⟨g, rfl, hg, hT2, hb2⟩
      have HD2 := hid (HD.out.below hb2)
      have HO2 := hid (own_below HO.out hb2)
      have HX2 := hid (HX.out.trans (hb2.mono HX.out.size))
      have HT2 := hid (Row.own_base hT2 HX.out.size)
      have HGE := hid hg
      have HGB : Hid (w.heap.size < g) := by
        have h1 := (HO.out.lt w.heap.size rfl).2
        unfold Hid; omega
      have HL : Hid ((d ++ List.replicate (n - k) q0).length = n) := by unfold Hid; have := HD.out.len; simp; omega
      have HZQ : Hid ((d ++ List.replicate (n - k) q0).getD k q0 = q0) := by
        unfold Hid
        rw [List.getD_eq_getElem?_getD, List.getElem?_append_right (by have := HD.out.len; omega), List.getElem?_replicate]
        split <;> rfl
      have fz := fun j => HO2.out.frozenAt (k * 7 + j)
      have cz : ∀ j, j < 7 → w2.cell? ⟨w.heap.size, k * 7 + j, none⟩ = (cl q0)[j]? := fun j hj => by
        rw [HO2.out.cellAt (k * 7 + j) (by omega), flat_get _ k j (by rw [HL.out]; exact hlt) hj, HZQ.out]
      have z0 : w2.cell? ⟨w.heap.size, k * 7, none⟩ = some (.int .i64 0) := cz 0 (by omega)
      have z1 : w2.cell? ⟨w.heap.size, k * 7 + 1, none⟩ = some (.slice none 0 0) := cz 1 (by omega)
      have z2 : w2.cell? ⟨w.heap.size, k * 7 + 2, none⟩ = some (.string ⟨#[]⟩) := cz 2 (by omega)
      have z3 : w2.cell? ⟨w.heap.size, k * 7 + 3, none⟩ = some (.string ⟨#[]⟩) := cz 3 (by omega)
      have z4 : w2.cell? ⟨w.heap.size, k * 7 + 4, none⟩ = some (.string ⟨#[]⟩) := cz 4 (by omega)
      have z5 : w2.cell? ⟨w.heap.size, k * 7 + 5, none⟩ = some (.string ⟨#[]⟩) := cz 5 (by omega)
      have z6 : w2.cell? ⟨w.heap.size, k * 7 + 6, none⟩ = some (.int .i64 0) := cz 6 (by omega)
      have f0 : w2.frozen? ⟨w.heap.size, k * 7, none⟩ = false := fz 0
      have f1 := fz 1
      have f2 := fz 2
      have f3 := fz 3
      have f4 := fz 4
      have f5 := fz 5
      have f6 := fz 6
      have HE : Hid (∀ wz, wz = putN w2 w.heap.size (k * 7) (cl ⟨r, some ⟨g, 0, none⟩, r.from'.length⟩) → DnO qs w.heap.size (k + 1) (d ++ [⟨r, some ⟨g, 0, none⟩, r.from'.length⟩]) wz ∧ wz.ownsRow w.heap.size 63 7 (.slice (some ⟨w.heap.size, 0, none⟩) n n) n (flat ((d ++ [⟨r, some ⟨g, 0, none⟩, r.from'.length⟩]) ++ List.replicate (n - (k + 1)) q0)) ∧ Below w.heap.size w wz) := by
        rintro wz rfl
        have hnb : ∀ x, (some ⟨g, 0, none⟩ : Option Addr) = some x → w.heap.size < x.block := by rintro x e; cases e; exact HGB.out
        refine ⟨(HD2.out.put _).snoc (by show r = _; rw [← HQ.out]) (putN_own' (Nat.ne_of_gt HGB.out) _ _ _ HT2.out) hnb (fun i hi x y e1 e2 => by
          cases e2
          have h1 := (HD.out.txt i hi).lt x.block (by rw [e1]; exact own_blk (HD.out.txt i hi) e1)
          have h2 := HGE.out
          simp only; omega), ?_, putN_below (Nat.le_refl _) _ _ _ HX2.out⟩
        rw [← step_set d n k _ HD2.out.len hlt, ← flat_set _ k _ (by rw [HL.out]; exact hlt)]
        exact putN_own _ _ _ _ HO2.out
      clear hT2 hb2 hg fz cz HO HT HO2 HD2 HX2 HT2 HX HD d0 d1 d2 d3 d4 d5 d6
      go_wp2
      go_roundw
      case rel =>
        obtain ⟨e1, e2, e3⟩ := HE.out _ rfl
        exact ⟨k + 1, _, by omega, by go_num, e1, e2, e3⟩
      case measure => simp [intOf]; omega
    · obtain rfl : k = n := by omega
      have HE : Hid (OwnR w.heap.size w.heap.size k d wr) := by
        have h := HO.out
        rw [Nat.sub_self, List.replicate_zero, List.append_nil] at h
        exact ⟨HD.out.len, h, HD.out.txt, HD.out.off, HD.out.dis⟩
      have HSM := hid HD.out.same
      go_wp2
      go_ret
      exact ⟨d, rfl, HSM.out, HE.out, HX.out⟩
end Go.Proofs.YtcknlidbjnmbjaaGreatDoor.Rul
/- Lists of texts marked; lists of rules marked: only their own memory changes. -/
namespace Go.Proofs.YtcknlidbjnmbjaaGreatDoor.Mrk
open Go.RowKit Go.Proofs.YtcknlidbjnmbjaaGreatDoor.Fil

theorem ret_str {a b : ByteArray} (h : a = b) : Ending.returned (.string a) = .returned (.string b) := by rw [h]
theorem one_new (w : World) (v : Value) (t : TypeId) : (w.alloc (.cells #[v] t)).cell? ⟨w.heap.size, 0, none⟩ = some v := by
  have h := heap_alloc_new w (.cells #[v] t)
  unfold World.cell?
  simp only [h]
  rfl

def dgs (k : Nat) (out : ByteArray) : ByteArray := if k = 0 then out else dgs (k / 10) (strOfNums [48 + (k : Int) % 10] ++ out)
termination_by k
decreasing_by omega
theorem dgs_zero (out : ByteArray) : dgs 0 out = out := by rw [dgs, if_pos rfl]
theorem dgs_pos (k : Nat) (out : ByteArray) (h : 0 < k) : dgs k out = dgs (k / 10) (strOfNums [48 + (k : Int) % 10] ++ out) := by rw [dgs, if_neg (by omega)]
def mkT (k : Nat) : ByteArray := if k = 0 then { data := #[109, 48] } else { data := #[109] } ++ dgs k ByteArray.empty

set_option maxHeartbeats 1000000 in
set_option maxRecDepth 100000 in
theorem f28 (k : Nat) (w : World) (hk : k ≤ 100000000) :
    Calls Tryz.prog 28 #[.int .i64 k] w fun e w' => e = .returned (.string (mkT k)) ∧ Below w.heap.size w w' := by
  by_cases h0 : k = 0
  · subst h0
    go_enter Tryz.func28, Tryz.ntmps28
    go_wp2
    go_ret
    exact ⟨ret_str (by unfold mkT; rw [if_pos rfl]), Below.refl _ _⟩
  have HE : Hid (mkT k = { data := #[109] } ++ dgs k ByteArray.empty) := by unfold Hid mkT; rw [if_neg h0]
  go_enter Tryz.func28, Tryz.ntmps28
  go_wp2
  go_loopw [0, 3] (fun sk so wr => ∃ (j : Nat) (out : ByteArray), out.size + j ≤ k ∧ sk = .int .i64 j ∧ so = .string out ∧ Hid (dgs j out = dgs k ByteArray.empty) ∧ Below w.heap.size w wr) (fun sk _ _ => (intOf sk).toNat)
  case atStart => exact ⟨k, ByteArray.empty, by simp, rfl, rfl, rfl, Below.refl _ _⟩
  case round =>
    obtain ⟨j, out, hj, rfl, rfl, hd, hnx⟩ := hrel
    have HX := hid hnx
    clear hnx
    by_cases hlt : 0 < j
    · have kc := run_convert_bytes_arg (P := Tryz.prog) (wr.alloc (.cells #[.int .u8 (48 + (j : Int) % 10)] 5)) 75 5 Tryz.underlying75 Tryz.underlying5 wr.heap.size 0 1 1 [48 + (j : Int) % 10] rfl (by
        intro i hi
        obtain rfl : i = 0 := by omega
        exact one_new wr _ 5) 9 Tryz.underlying9
      have HS : Hid ((strOfNums [48 + (j : Int) % 10]).size = 1) := rfl
      have hs2 : (strOfNums [48 + (j : Int) % 10]).size ≤ 1 := by rw [HS.out]; exact Nat.le_refl _
      have HD := hid (dgs_pos j out hlt)
      generalize strOfNums [48 + (j : Int) % 10] = u at *
      go_wp2
      go_roundw
      case rel =>
        refine ⟨j / 10, u ++ out, ?_, by go_num, rfl, by unfold Hid; rw [← HD.out]; exact hd.out, HX.out.alloc HX.out.size _⟩
        rw [ByteArray.size_append, HS.out]; omega
      case measure => simp [intOf]; omega
    · obtain rfl : j = 0 := by omega
      have hs : out.size ≤ 100000000 := by omega
      go_wp2
      go_ret
      exact ⟨ret_str (by rw [HE.out, ← hd.out, dgs_zero]), HX.out⟩

theorem grown_trans {a b c : World} {r : Option Nat} (h : a.grownBy b r) (k : b.grownBy c r) : a.grownBy c r :=
  ⟨k.os.trans h.os, k.tape.trans h.tape, k.output.trans h.output, Nat.le_trans h.size k.size, fun i hi hne => (k.block i (Nat.lt_of_lt_of_le hi h.size) hne).trans (h.block i hi hne)⟩
theorem grown_below {a b : World} (r : Option Nat) (h : Below a.heap.size a b) : a.grownBy b r := ⟨h.os, h.tape, h.output, h.size, fun i hi _ => h.block i hi⟩
def markT (k n : Nat) : List ByteArray := (List.range n).map fun i => mkT (k + i)
theorem markT_len (k n : Nat) : (markT k n).length = n := by simp [markT]
theorem markT_get (k n i : Nat) (h : i < n) : (markT k n).getD i ByteArray.empty = mkT (k + i) := by simp [markT, h]
def markU (k : Nat) (ss : List ByteArray) (i : Nat) : List ByteArray := markT k i ++ ss.drop i
theorem markU_set (k n i : Nat) (ss : List ByteArray) (h : ss.length = n) (hi : i < n) : (markU k ss i).set i (mkT (k + i)) = markU k ss (i + 1) := by
  unfold markU
  rw [List.set_append_right _ _ (by rw [markT_len]; exact Nat.le_refl _), markT_len, Nat.sub_self, List.drop_eq_getElem_cons (by omega), List.set_cons_zero]
  have : markT k (i + 1) = markT k i ++ [mkT (k + i)] := by simp [markT, List.range_succ]
  rw [this, List.append_assoc]
  rfl
theorem markU_len (k n i : Nat) (ss : List ByteArray) (h : ss.length = n) (hi : i ≤ n) : (markU k ss i).length = n := by simp [markU, markT_len]; omega
theorem markU_zero (k : Nat) (ss : List ByteArray) : markU k ss 0 = ss := by simp [markU, markT]
theorem markU_end (k n : Nat) (ss : List ByteArray) (h : ss.length = n) : markU k ss n = markT k n := by simp [markU, ← h]

set_option maxHeartbeats 2000000 in
theorem f47 (g n c base k : Nat) (ss : List ByteArray) (w : World) (hn : ss.length = n) (hk : k + n ≤ 100000000) (hown : w.ownsRow base 9 1 (.slice (some ⟨g, 0, none⟩) n c) n (ss.map Value.string)) :
    Calls Tryz.prog 47 #[.slice (some ⟨g, 0, none⟩) n c, .int .i64 k] w fun e w' => e = .returned (.int .i64 ((k + n : Nat) : Int)) ∧ w'.ownsRow base 9 1 (.slice (some ⟨g, 0, none⟩) n c) n ((markT k n).map Value.string) ∧ w.grownBy w' (some g) := by
  have HN := hid hn
  have HO0 := hid hown
  clear hn hown
  go_enter Tryz.func47, Tryz.ntmps47
  go_wp2
  go_loopw [1, 5] (fun sk si wr => ∃ (i m : Nat), i ≤ n ∧ si = .int .i64 i ∧ sk = .int .i64 (m : Int) ∧ Hid (m = k + i) ∧ wr.ownsRow base 9 1 (.slice (some ⟨g, 0, none⟩) n c) n ((markU k ss i).map Value.string) ∧ w.grownBy wr (some g)) (fun _ si _ => n - (intOf si).toNat)
  case atStart => exact ⟨0, k, Nat.zero_le _, rfl, rfl, rfl, by rw [markU_zero]; exact HO0.out, ⟨rfl, rfl, rfl, Nat.le_refl _, fun _ _ _ => rfl⟩⟩
  case round =>
    obtain ⟨i, m, hi, rfl, rfl, hm, hown, hgr⟩ := hrel
    have HO := hid hown
    have HG := hid hgr
    have HM := hid (markU_len k n i ss HN.out hi)
    clear hown hgr HO0
    by_cases hlt : i < n
    · have HS := hid (markU_set k n i ss HN.out hlt)
      have hm1 : m ≤ 99999999 := by have := hm.out; omega
      go_wp2_with fail
      refine (f28 m _ (by omega)).mono ?_
      rintro e w2 ⟨rfl, hb2⟩
      have HO2 := hid (own_below HO.out hb2)
      have HG2 := hid (grown_trans HG.out (grown_below (some g) hb2))
      have fz := HO2.out.frozenAt i
      have cz : w2.cell? ⟨g, i, none⟩ = some (.string ((markU k ss i).getD i ByteArray.empty)) := by
        have hl' : i < (markU k ss i).length := by rw [HM.out]; exact hlt
        rw [HO2.out.cellAt i (by omega), List.getElem?_map, List.getElem?_eq_getElem hl']
        simp [hl']
      have HST := hid (HO2.out.stored i (.string (mkT m)))
      have HG3 := hid (grown_trans HG2.out HST.out.2)
      have HO3 : Hid ((w2.setCell ⟨g, i, none⟩ (.string (mkT m))).ownsRow base 9 1 (.slice (some ⟨g, 0, none⟩) n c) n ((markU k ss (i + 1)).map Value.string)) := by
        unfold Hid; rw [← HS.out, ← hm.out, List.map_set]; exact HST.out.1
      clear hb2
      generalize (markU k ss i).getD i ByteArray.empty = u0 at *
      go_wp2
      go_roundw
      case rel => exact ⟨i + 1, m + 1, by omega, by go_num, by go_num, by have := hm.out; unfold Hid; omega, HO3.out, HG3.out⟩
      case measure => simp [intOf]; omega
    · obtain rfl : i = n := by omega
      go_wp2
      go_ret
      exact ⟨by rw [← hm.out]; rfl, by rw [← markU_end k i ss HN.out]; exact HO.out, HG.out⟩
theorem f47n (k : Nat) (w : World) : Calls Tryz.prog 47 #[.slice none 0 0, .int .i64 k] w fun e w' => e = .returned (.int .i64 k) ∧ w' = w := by
  go_enter Tryz.func47, Tryz.ntmps47
  go_wp2
  go_loop [1, 5] (fun sk i => sk = .int .i64 k ∧ i = .int .i64 0) (fun _ _ => 0)
  case atStart => exact ⟨rfl, rfl⟩
  case round =>
    obtain ⟨rfl, rfl⟩ := hrel
    go_wp2
    go_ret
    exact ⟨rfl, rfl⟩
theorem own_cases {w : World} {base e size n c : Nat} {a : Option Addr} {xs : List Value} (h : w.ownsRow base e size (.slice a n c) n xs) : (a = none ∧ n = 0 ∧ c = 0) ∨ ∃ g, a = some ⟨g, 0, none⟩ := by
  rcases h.2 with ⟨h1, _⟩ | ⟨g, cap, cur, h1, _⟩
  · simp only [Value.slice.injEq] at h1; exact .inl ⟨h1.1, h1.2.1, h1.2.2⟩
  · simp only [Value.slice.injEq] at h1; exact .inr ⟨g, h1.1⟩
theorem f47o (a : Option Addr) (n c base k : Nat) (ss : List ByteArray) (w : World) (hn : ss.length = n) (hk : k + n ≤ 100000000) (hown : w.ownsRow base 9 1 (.slice a n c) n (ss.map Value.string)) :
    Calls Tryz.prog 47 #[.slice a n c, .int .i64 k] w fun e w' => e = .returned (.int .i64 ((k + n : Nat) : Int)) ∧ w'.ownsRow base 9 1 (.slice a n c) n ((markT k n).map Value.string) ∧ w.grownBy w' (Value.slice a n c).ownBlock := by
  rcases own_cases hown with ⟨rfl, rfl, rfl⟩ | ⟨g, rfl⟩
  · refine (f47n k w).mono ?_
    rintro e w' ⟨rfl, rfl⟩
    exact ⟨rfl, World.ownsRow_nil _ _ _ _, ⟨rfl, rfl, rfl, Nat.le_refl _, fun _ _ _ => rfl⟩⟩
  · exact f47 g n c base k ss w hn hk hown
end Go.Proofs.YtcknlidbjnmbjaaGreatDoor.Mrk
namespace Go.Proofs.YtcknlidbjnmbjaaGreatDoor.Rul
open Go.RowKit Go.Proofs.YtcknlidbjnmbjaaGreatDoor.Fil Go.Proofs.YtcknlidbjnmbjaaGreatDoor.Rel

/-- What lies outside the blocks from X to Y is as it was. -/
structure Fr (X Y : Nat) (w x : World) : Prop where
  os : x.os = w.os
  tape : x.tape = w.tape
  output : x.output = w.output
  size : w.heap.size ≤ x.heap.size
  block : ∀ j, j < w.heap.size → j < X ∨ Y ≤ j → x.heap[j]? = w.heap[j]?
theorem Fr.refl (X Y : Nat) (w : World) : Fr X Y w w := ⟨rfl, rfl, rfl, Nat.le_refl _, fun _ _ _ => rfl⟩
theorem Fr.below {X Y : Nat} {w x y : World} (h : Fr X Y w x) (hb : Below x.heap.size x y) : Fr X Y w y :=
  ⟨hb.os.trans h.os, hb.tape.trans h.tape, hb.output.trans h.output, Nat.le_trans h.size hb.size, fun j hj hq => (hb.block j (Nat.lt_of_lt_of_le hj h.size)).trans (h.block j hj hq)⟩
theorem Fr.grown {X Y g : Nat} {w x y : World} (h : Fr X Y w x) (hg : x.grownBy y (some g)) (h1 : X ≤ g) (h2 : g < Y) : Fr X Y w y :=
  ⟨hg.os.trans h.os, hg.tape.trans h.tape, hg.output.trans h.output, Nat.le_trans h.size hg.size, fun j hj hq => (hg.block j (Nat.lt_of_lt_of_le hj h.size) (by simp; omega)).trans (h.block j hj hq)⟩
/-- Rules that are being marked. -/
structure Ms (X Y g n : Nat) (qs : List Q) (i : Nat) (w x : World) : Prop where
  row : ∃ xs, x.ownsRow X 63 7 (.slice (some ⟨g, 0, none⟩) n n) n xs ∧ ∀ k, k < n → xs[k * 7 + 1]? = some (.slice (qs.getD k q0).a (qs.getD k q0).r.from'.length (qs.getD k q0).c)
  txt : ∀ k, i ≤ k → k < n → nmR X (qs.getD k q0) x
  fr : Fr X Y w x
  lo : X ≤ g
  hi : g < Y
theorem Ms.below {X Y g n i : Nat} {qs : List Q} {w x y : World} (h : Ms X Y g n qs i w x) (hb : Below x.heap.size x y) : Ms X Y g n qs i w y := by
  obtain ⟨xs, h1, h2⟩ := h.row
  exact ⟨⟨xs, own_below h1 hb, h2⟩, fun k h3 h4 => own_below (h.txt k h3 h4) hb, h.fr.below hb, h.lo, h.hi⟩
theorem Ms.cell {X Y g n i : Nat} {qs : List Q} {w x : World} (h : Ms X Y g n qs i w x) (o : Nat) (ho : o < n * 7) : (∃ v, x.cell? ⟨g, o, none⟩ = some v) ∧ x.frozen? ⟨g, o, none⟩ = false := by
  obtain ⟨xs, h1, h2⟩ := h.row
  refine ⟨?_, h1.frozenAt o⟩
  have hl := h1.1
  rw [h1.cellAt o (by omega)]
  exact ⟨xs[o], List.getElem?_eq_getElem (by omega)⟩
theorem Ms.head {X Y g n i : Nat} {qs : List Q} {w x : World} (h : Ms X Y g n qs i w x) (k : Nat) (hk : k < n) : x.cell? ⟨g, k * 7 + 1, none⟩ = some (.slice (qs.getD k q0).a (qs.getD k q0).r.from'.length (qs.getD k q0).c) := by
  obtain ⟨xs, h1, h2⟩ := h.row
  have hl := h1.1
  rw [h1.cellAt _ (by omega)]
  exact h2 k hk
theorem Ms.set {X Y g n i o : Nat} {qs : List Q} {w x : World} (h : Ms X Y g n qs i w x) (ho : o % 7 ≠ 1) (hoff : ∀ k, i ≤ k → k < n → ∀ y, (qs.getD k q0).a = some y → g < y.block) (v : Value) : Ms X Y g n qs i w (x.setCell ⟨g, o, none⟩ v) := by
  obtain ⟨xs, h1, h2⟩ := h.row
  have hs := h1.stored o v
  refine ⟨⟨_, hs.1, fun k hk => ?_⟩, fun k h3 h4 => putN_nm (h.txt k h3 h4) (hoff k h3 h4) [v], h.fr.grown hs.2 h.lo h.hi, h.lo, h.hi⟩
  rw [List.getElem?_set_ne (by omega)]
  exact h2 k hk
end Go.Proofs.YtcknlidbjnmbjaaGreatDoor.Rul
/- Lists of rules marked: markRelabelS. -/
namespace Go.Proofs.YtcknlidbjnmbjaaGreatDoor.Rul
open Go.RowKit Go.Proofs.YtcknlidbjnmbjaaGreatDoor.Fil Go.Proofs.YtcknlidbjnmbjaaGreatDoor.Rel

theorem Ms.marked {X Y g n i : Nat} {qs : List Q} {w x y : World} (h : Ms X Y g n qs i w x) (hi : i < n) (hg : x.grownBy y (Value.slice (qs.getD i q0).a (qs.getD i q0).r.from'.length (qs.getD i q0).c).ownBlock)
    (hoff : ∀ k, k < n → ∀ z, (qs.getD k q0).a = some z → g < z.block) (hY : ∀ k, k < n → ∀ z, (qs.getD k q0).a = some z → z.block < Y) (hd : ∀ k, i < k → k < n → ∀ z z', (qs.getD i q0).a = some z → (qs.getD k q0).a = some z' → z.block < z'.block) : Ms X Y g n qs (i + 1) w y := by
  obtain ⟨xs, h1, h2⟩ := h.row
  have ht := h.txt i (Nat.le_refl _) hi
  have hlo := h.lo
  cases ha : (qs.getD i q0).a with
  | none =>
    have hb : (Value.slice (qs.getD i q0).a (qs.getD i q0).r.from'.length (qs.getD i q0).c).ownBlock = none := by
      rw [ha]; rfl
    rw [hb] at hg
    have hbl : Below x.heap.size x y := ⟨hg.os, hg.tape, hg.output, hg.size, fun j hj => hg.block j hj (by simp)⟩
    have h' := h.below hbl
    exact ⟨h'.row, fun k h3 h4 => h'.txt k (by omega) h4, h'.fr, h'.lo, h'.hi⟩
  | some z =>
    have hb : (Value.slice (qs.getD i q0).a (qs.getD i q0).r.from'.length (qs.getD i q0).c).ownBlock = some z.block := by
      rw [ha]; exact own_blk ht ha
    rw [hb] at hg
    have hz1 := hoff i hi z ha
    have hz2 := hY i hi z ha
    refine ⟨⟨xs, h1.kept hg (.inr (by simp only [Value.ownBlock]; intro e; have := Option.some.inj e; omega)), h2⟩, fun k h3 h4 => ?_, h.fr.grown hg (by omega) hz2, h.lo, h.hi⟩
    have hk := h.txt k (by omega) h4
    refine hk.kept hg ?_
    cases hq : (Value.slice (qs.getD k q0).a (qs.getD k q0).r.from'.length (qs.getD k q0).c).ownBlock with
    | none => exact .inl rfl
    | some b =>
      refine .inr ?_
      intro e
      have e2 := Option.some.inj e
      cases hak : (qs.getD k q0).a with
      | none => rw [hak] at hq; cases hq
      | some z' =>
        have h5 := own_blk hk hak
        rw [hak] at hq
        rw [hq] at h5
        have h6 := Option.some.inj h5
        have h7 := hd k (by omega) h4 z z' ha hak
        omega
theorem tot_step (qs : List Q) (k : Nat) : Tot.tot qs k ≤ Tot.tot qs (k + 1) := by
  by_cases h : k < qs.length
  · rw [Tot.tot_succ qs k h]; omega
  · unfold Tot.tot
    rw [List.take_of_length_le (by omega), List.take_of_length_le (by omega)]
    exact Nat.le_refl _
theorem tot_mono (qs : List Q) (i d : Nat) : Tot.tot qs i ≤ Tot.tot qs (i + d) := by
  induction d with
  | zero => exact Nat.le_refl _
  | succ d ih => exact Nat.le_trans ih (tot_step qs (i + d))
set_option maxRecDepth 100000 in
set_option maxHeartbeats 4000000 in
theorem f27 (X Y g n k : Nat) (qs : List Q) (w : World) (h : OwnR X g n qs w) (hY : g < Y) (hYn : ∀ i, i < n → ∀ x, (qs.getD i q0).a = some x → x.block < Y) (hk : k + 6 * n + Tot.tot qs n ≤ 50000000) :
    Calls Tryz.prog 27 #[.slice (some ⟨g, 0, none⟩) n n, .int .i64 k] w fun e w' => (∃ k' : Nat, k' ≤ 50000000 ∧ e = .returned (.int .i64 (k' : Int))) ∧ Fr X Y w w' := by
  have HO := hid h
  have HY := hid hYn
  have HM0 : Hid (Ms X Y g n qs 0 w w) := ⟨⟨flat qs, h.row, fun i hi => flat_get qs i 1 (by rw [h.len]; exact hi) (by omega)⟩, fun i _ hi => h.txt i hi, Fr.refl _ _ _, (h.row.lt g rfl).1, hY⟩
  have HTM : Hid (∀ i, i ≤ n → Tot.tot qs i ≤ Tot.tot qs n) := by
    intro i hi
    have := tot_mono qs i (n - i)
    rwa [show i + (n - i) = n from by omega] at this
  clear h hYn
  go_enter Tryz.func27, Tryz.ntmps27
  go_wp2
  go_loopw [1, 5] (fun sk si wr => ∃ (i m : Nat), i ≤ n ∧ si = .int .i64 i ∧ sk = .int .i64 (m : Int) ∧ Hid (m = k + 6 * i + Tot.tot qs i) ∧ Hid (Ms X Y g n qs i w wr)) (fun _ si _ => n - (intOf si).toNat)
  case atStart => exact ⟨0, k, Nat.zero_le _, rfl, rfl, by unfold Hid Tot.tot; simp, HM0⟩
  case round =>
    obtain ⟨i, m, hi, rfl, rfl, hm, HM⟩ := hrel
    by_cases hlt : i < n
    · have HTS := hid (Tot.tot_succ qs i (by rw [HO.out.len]; exact hlt))
      have hmb : m + 6 + (qs.getD i q0).r.from'.length ≤ 50000000 := by
        have h1 := hm.out; have h2 := HTS.out; have h3 := HTM.out (i + 1) hlt
        omega
      have HOF : Hid (∀ k, i ≤ k → k < n → ∀ y, (qs.getD k q0).a = some y → g < y.block) := fun k _ h2 y e => HO.out.off k h2 y e
      have HOF2 : Hid (∀ k, i + 1 ≤ k → k < n → ∀ y, (qs.getD k q0).a = some y → g < y.block) := fun k _ h2 y e => HO.out.off k h2 y e
      obtain ⟨⟨v0, c0⟩, f0⟩ := HM.out.cell (i * 7) (by omega)
      have hd := HM.out.head i hlt
      have HM1 := hid (HM.out.set (o := i * 7) (by omega) HOF.out (.int .i64 (m : Int)))
      have HTX := hid (HM1.out.txt i (Nat.le_refl _) hlt)
      have HMK := hid (fun y hg => HM1.out.marked (y := y) hlt hg HO.out.off HY.out (fun k h1 h2 => HO.out.dis i k h1 h2))
      have HTS2 := HTS
      generalize qs.getD i q0 = q at *
      obtain ⟨r, aq, cq⟩ := q
      have i1 : (i : Int) < (n : Int) := by omega
      have hm1 : m ≤ 50000000 := by omega
      clear HM
      go_wp2_with fail
      rw [show ((m : Int) + 1) = ((m + 1 : Nat) : Int) from by omega]
      refine (Mrk.f47o aq r.from'.length cq X (m + 1) r.from' _ rfl (by omega) HTX.out).mono ?_
      rintro e w2 ⟨rfl, _, hg2⟩
      have HM2 := hid (HMK.out _ hg2)
      obtain ⟨m2, hm2⟩ : ∃ m2, m2 = m + 1 + r.from'.length := ⟨_, rfl⟩
      have HE2 := hid hm2
      have hb2 : m2 + 5 ≤ 50000000 := by omega
      rw [← hm2]
      clear hg2 HM1 HTX HMK hm2 c0 f0 hd hmb
      go_wp2_with fail
      refine (Mrk.f28 (m2) _ (by omega)).mono ?_
      rintro e w3a ⟨rfl, hb3a⟩
      have HA3 := hid (HM2.out.below hb3a)
      obtain ⟨⟨v2, c2⟩, f2⟩ := HA3.out.cell (i * 7 + 2) (by omega)
      have HM3 := hid (HA3.out.set (o := i * 7 + 2) (by omega) HOF2.out (.string (Mrk.mkT (m2))))
      clear hb3a HM2 HA3
      go_wp2_with fail
      rw [show ((m2 : Int) + 1) = ((m2 + 1 : Nat) : Int) from by omega]
      refine (Mrk.f28 (m2 + 1) _ (by omega)).mono ?_
      rintro e w4a ⟨rfl, hb4a⟩
      have HA4 := hid (HM3.out.below hb4a)
      obtain ⟨⟨v3, c3⟩, f3⟩ := HA4.out.cell (i * 7 + 3) (by omega)
      have HM4 := hid (HA4.out.set (o := i * 7 + 3) (by omega) HOF2.out (.string (Mrk.mkT (m2 + 1))))
      clear hb4a HM3 HA4
      go_wp2_with fail
      rw [show ((m2 : Int) + 1 + 1) = ((m2 + 2 : Nat) : Int) from by omega]
      refine (Mrk.f28 (m2 + 2) _ (by omega)).mono ?_
      rintro e w5a ⟨rfl, hb5a⟩
      have HA5 := hid (HM4.out.below hb5a)
      obtain ⟨⟨v4, c4⟩, f4⟩ := HA5.out.cell (i * 7 + 4) (by omega)
      have HM5 := hid (HA5.out.set (o := i * 7 + 4) (by omega) HOF2.out (.string (Mrk.mkT (m2 + 2))))
      clear hb5a HM4 HA5
      go_wp2_with fail
      rw [show ((m2 : Int) + 2 + 1) = ((m2 + 3 : Nat) : Int) from by omega]
      refine (Mrk.f28 (m2 + 3) _ (by omega)).mono ?_
      rintro e w6a ⟨rfl, hb6a⟩
      have HA6 := hid (HM5.out.below hb6a)
      obtain ⟨⟨v5, c5⟩, f5⟩ := HA6.out.cell (i * 7 + 5) (by omega)
      have HM6 := hid (HA6.out.set (o := i * 7 + 5) (by omega) HOF2.out (.string (Mrk.mkT (m2 + 3))))
      clear hb6a HM5 HA6
      obtain ⟨⟨v6, c6⟩, f6⟩ := HM6.out.cell (i * 7 + 6) (by omega)
      have HM7 := hid (fun v => HM6.out.set (o := i * 7 + 6) (by omega) HOF2.out v)
      clear HM6
      go_wp2
      go_roundw
      case rel => exact ⟨i + 1, m2 + 5, by omega, by go_num, by go_num, by have h1 := hm.out; have h2 := HTS2.out; have h3 := HE2.out; unfold Hid; omega, HM7.out _⟩
      case measure => simp [intOf]; omega
    · go_wp2
      go_ret
      exact ⟨⟨m, by have h1 := hm.out; have h2 := HTM.out i hi; omega, rfl⟩, HM.out.fr⟩
end Go.Proofs.YtcknlidbjnmbjaaGreatDoor.Rul
/- Targets: toTarget, all of it owned; markTarget. -/
namespace Go.Proofs.YtcknlidbjnmbjaaGreatDoor.Rul
open Go.RowKit Go.Proofs.YtcknlidbjnmbjaaGreatDoor.Fil Go.Proofs.YtcknlidbjnmbjaaGreatDoor.Rel
theorem Fr.trans {X Y : Nat} {w x y : World} (h : Fr X Y w x) (h' : Fr X Y x y) : Fr X Y w y :=
  ⟨h'.os.trans h.os, h'.tape.trans h.tape, h'.output.trans h.output, Nat.le_trans h.size h'.size, fun j hj hq => (h'.block j (Nat.lt_of_lt_of_le hj h.size) hq).trans (h.block j hj hq)⟩
theorem nmR.has {X : Nat} {q : Q} {w : World} (h : nmR X q w) : HasT w q.a q.r.from' := by
  unfold nmR at h
  rcases h.2 with ⟨h1, h2⟩ | ⟨g, cap, cur, h1, _⟩
  · exact .inl (List.eq_nil_of_length_eq_zero h2)
  · simp only [Value.slice.injEq] at h1
    rw [h1.1] at h ⊢
    exact HasT.own h
theorem OwnR.has {X g n : Nat} {qs : List Q} {w : World} (h : OwnR X g n qs w) : HasR w (some ⟨g, 0, none⟩) qs := own_rows h.row (fun i hi => (h.txt i (by rw [← h.len]; exact hi)).has)
theorem OwnR.below {X g n : Nat} {qs : List Q} {w w' : World} (h : OwnR X g n qs w) (hb : Below w.heap.size w w') : OwnR X g n qs w' := ⟨h.len, own_below h.row hb, fun i hi => own_below (h.txt i hi) hb, h.off, h.dis⟩
theorem OwnR.put {X g n b o : Nat} {qs : List Q} {w : World} (h : OwnR X g n qs w) (hb : b < g) (vs : List Value) : OwnR X g n qs (putN w b o vs) :=
  ⟨h.len, putN_own' (Nat.ne_of_gt hb) vs _ _ h.row, fun i hi => putN_nm (h.txt i hi) (fun x e => Nat.lt_trans hb (h.off i hi x e)) vs, h.off, h.dis⟩
theorem OwnR.base {X X' g n : Nat} {qs : List Q} {w : World} (h : OwnR X g n qs w) (hb : X' ≤ X) : OwnR X' g n qs w := ⟨h.len, Row.own_base h.row hb, fun i hi => Row.own_base (h.txt i hi) hb, h.off, h.dis⟩
end Go.Proofs.YtcknlidbjnmbjaaGreatDoor.Rul
namespace Go.Proofs.YtcknlidbjnmbjaaGreatDoor.Tgt
open Go.RowKit Go.Proofs.YtcknlidbjnmbjaaGreatDoor.Fil Go.Proofs.YtcknlidbjnmbjaaGreatDoor.Rul
open Go.Proofs.YtcknlidbjnmbjaaGreatDoor.Lab (Lb HasL)

/-- A target that lies in memory of its own, from X on. -/
def OwnT (X : Nat) (t : Tg) (w : World) : Prop :=
  ∃ S, t.la = some ⟨S, 0, none⟩ ∧ w.ownsRow X 48 2 (.slice (some ⟨S, 0, none⟩) t.ls.length t.lc) t.ls.length (Lab.flat t.ls) ∧ ∃ g, t.ra = some ⟨g, 0, none⟩ ∧ t.rc = t.qs.length ∧ OwnR X g t.qs.length t.qs w ∧ S < g
set_option maxHeartbeats 4000000 in
theorem f7o (t : Tg) (w : World) (hr : Has w t) (hz : Sml t) :
    Calls Tryz.prog 7 #[agT t] w fun e w' => ∃ t' : Tg, e = .returned (agT t') ∧ Same t t' ∧ Has w' t' ∧ Below w.heap.size w w' ∧ OwnT w.heap.size t' w' := by
  obtain ⟨ls, la, lc, ev, lm, ho, qs, ra, rc⟩ := t
  have HR := hid hr
  have HZ := hid hz
  clear hr hz
  obtain ⟨W, hW⟩ : ∃ W, W = ((w.alloc (.cells (clT ⟨ls, la, lc, ev, lm, ho, qs, ra, rc⟩) 25)).alloc Z5).alloc Z5 := ⟨_, rfl⟩
  have HWb : Hid (Below w.heap.size w W ∧ W.heap[w.heap.size]? = some (.cells (clT ⟨ls, la, lc, ev, lm, ho, qs, ra, rc⟩) 25) ∧ W.heap[w.heap.size + 1]? = some Z5 ∧ W.heap[w.heap.size + 1 + 1]? = some Z5 ∧ W.heap.size = w.heap.size + 1 + 1 + 1) := by
    subst hW
    obtain ⟨k1, k2, k3⟩ := Rel.three_new w (.cells (clT ⟨ls, la, lc, ev, lm, ho, qs, ra, rc⟩) 25) Z5 Z5
    exact ⟨(((Below.refl w.heap.size w).alloc (Nat.le_refl _) _).alloc (by simp) _).alloc (by simp; omega) _, k1, k2, k3, by simp⟩
  go_enter Tryz.func7, Tryz.ntmps7
  go_wp2_with fail
  rw [← hW]
  refine (Lab.f8 la ls.length lc ls _ rfl HZ.out.ln (HR.out.lab.below HWb.out.1)).mono ?_
  rintro e w1 ⟨rfl, ho1, hb1⟩
  have HL1 := hid (Lab.HasL.own ho1)
  have HO1 := hid ho1
  have HB1 := hid (HWb.out.1.trans (hb1.mono HWb.out.1.size))
  have HA1 := hid (kept HWb.out.2.1 hb1)
  have HC1 := hid (kept HWb.out.2.2.2.1 hb1)
  have HD1 := hid (kept HWb.out.2.2.1 hb1)
  have HSZ := hid HWb.out.2.2.2.2
  clear ho1 hb1 hW HWb
  generalize hWS : W.heap.size = S at *
  clear hWS
  obtain ⟨b0, b1, b2, b3, b4⟩ := cells5 HA1.out
  obtain ⟨c0, c1, c2, c3, c4⟩ := cells5 HC1.out
  have rf0 := five_frz (o := 0) HC1.out
  have rf1 := five_frz (o := 1) HC1.out
  have rf2 := five_frz (o := 2) HC1.out
  have rf3 := five_frz (o := 3) HC1.out
  go_wp2_with fail
  have hsz := HSZ.out
  obtain ⟨w2, hw2⟩ : ∃ w2, w2 = putN w1 (w.heap.size + 1 + 1) 0 [.slice (some ⟨S, 0, none⟩) ls.length ls.length, .int .i64 ev, .int .i64 lm, .bool ho] := ⟨_, rfl⟩
  have HB2 : Hid (Below w.heap.size w w2) := by rw [hw2]; exact putN_below (by omega) _ _ _ HB1.out
  have HC2 : Hid (w2.heap[w.heap.size + 1 + 1]? = some (.cells #[.slice (some ⟨S, 0, none⟩) ls.length ls.length, .int .i64 ev, .int .i64 lm, .bool ho, .slice none 0 0] 33)) := by rw [hw2]; exact five4 HC1.out _ _ _ _
  have HD2 : Hid (w2.heap[w.heap.size + 1]? = some Z5) := by rw [hw2]; exact (putN_block (by omega) _ _ _).trans HD1.out
  have HO2 : Hid (w2.ownsRow S 48 2 (.slice (some ⟨S, 0, none⟩) ls.length ls.length) ls.length (Lab.flat ls)) := by rw [hw2]; exact putN_own' (by omega) _ _ _ HO1.out
  have HL2 : Hid (HasL w2 (some ⟨S, 0, none⟩) ls) := by rw [hw2]; exact putN_labels (by rintro x e; cases e; simp only; omega) _ _ _ HL1.out
  have hS2 : S < w2.heap.size := by rw [hw2, putN_size]; exact (HO1.out.lt S rfl).2
  show Calls Tryz.prog 20 _ (putN w1 (w.heap.size + 1 + 1) 0 [.slice (some ⟨S, 0, none⟩) ls.length ls.length, .int .i64 ev, .int .i64 lm, .bool ho]) _
  rw [← hw2]
  refine (Rul.f20o ra qs.length rc qs w2 rfl HZ.out.qn (HR.out.rul.below HB2.out) HZ.out.rul).mono ?_
  rintro e w3 ⟨qs', rfl, hs3, hown3, hb3⟩
  have HOR := hid hown3
  have hn3 := hown3.len
  have ha3 := hown3.off
  have hr3 := hown3.has
  have HO3 := hid (own_below HO2.out hb3)
  have HB3 := hid (HB2.out.trans (hb3.mono HB2.out.size))
  have HC3 := hid (kept HC2.out hb3)
  have HD3 := hid (kept HD2.out hb3)
  have HL3 := hid (HL2.out.below hb3)
  have HR3 := hid hr3
  have HS3 := hid hs3
  have HA3 := hid ha3
  have HN3 := hid hn3
  have hlt2 : w.heap.size + 1 + 1 < w2.heap.size := lt_at HC2.out
  clear hb3 hr3 hs3 ha3 hn3 hown3 HO1 HO2 HC2 HD2 HL2 HL1 HB1 HA1 HC1 HD1 b0 b1 b2 b3 b4 c0 c1 c2 c3 c4 rf0 rf1 rf2 rf3 hw2 HB2 hsz
  generalize hWS : w2.heap.size = S2 at *
  clear hWS
  obtain ⟨c0, c1, c2, c3, c4⟩ := cells5 HC3.out
  obtain ⟨z0, z1, z2, z3, z4⟩ := cells5 HD3.out
  have rf4 := five_frz (o := 4) HC3.out
  have rg0 := five_frz (o := 0) HD3.out
  have rg1 := five_frz (o := 1) HD3.out
  have rg2 := five_frz (o := 2) HD3.out
  have rg3 := five_frz (o := 3) HD3.out
  have rg4 := five_frz (o := 4) HD3.out
  have HE : Hid (∀ wf, wf = putN (w3.setCell ⟨w.heap.size + 1 + 1, 4, none⟩ (.slice (some ⟨S2, 0, none⟩) qs.length qs.length)) (w.heap.size + 1) 0 [.slice (some ⟨S, 0, none⟩) ls.length ls.length, .int .i64 ev, .int .i64 lm, .bool ho, .slice (some ⟨S2, 0, none⟩) qs.length qs.length] →
      wf.heap[w.heap.size + 1]? = some (.cells #[.slice (some ⟨S, 0, none⟩) ls.length ls.length, .int .i64 ev, .int .i64 lm, .bool ho, .slice (some ⟨S2, 0, none⟩) qs.length qs.length] 33) ∧ Has wf ⟨ls, some ⟨S, 0, none⟩, ls.length, ev, lm, ho, qs', some ⟨S2, 0, none⟩, qs.length⟩ ∧ Below w.heap.size w wf ∧ OwnT w.heap.size ⟨ls, some ⟨S, 0, none⟩, ls.length, ev, lm, ho, qs', some ⟨S2, 0, none⟩, qs.length⟩ wf) := by
    rintro wf rfl
    have hsz := HSZ.out
    have e4 : w3.setCell ⟨w.heap.size + 1 + 1, 4, none⟩ (.slice (some ⟨S2, 0, none⟩) qs.length qs.length) = putN w3 (w.heap.size + 1 + 1) 4 [.slice (some ⟨S2, 0, none⟩) qs.length qs.length] := rfl
    have hq1 : ∀ g, g ≤ w.heap.size + 1 + 1 → ∀ x, (some ⟨S2, 0, none⟩ : Option Addr) = some x → x.block ≠ g := by rintro g hg x e; cases e; simp only; omega
    have hq0 : ∀ g, g ≤ w.heap.size + 1 + 1 → ∀ x, (some ⟨S, 0, none⟩ : Option Addr) = some x → x.block ≠ g := by rintro g hg x e; cases e; simp only; omega
    have hq2 : ∀ g, g ≤ w.heap.size + 1 + 1 → ∀ i, i < qs'.length → ∀ x, (qs'.getD i q0).a = some x → x.block ≠ g := fun g hg i hi x e => by
      have := HA3.out i (by rw [← HN3.out]; exact hi) x e; omega
    refine ⟨?_, ⟨?_, ?_⟩, ?_, ?_⟩
    · refine five5 (x0 := .slice none 0 0) (x1 := .int .i64 0) (x2 := .int .i64 0) (x3 := .bool false) (x4 := .slice none 0 0) ?_ _ _ _ _ _
      rw [e4, putN_block (by omega)]; exact HD3.out
    · rw [e4]; exact putN_labels (hq0 _ (by omega)) _ _ _ (putN_labels (hq0 _ (by omega)) _ _ _ HL3.out)
    · rw [e4]; exact putN_rules (hq1 _ (by omega)) (hq2 _ (by omega)) _ _ _ (putN_rules (hq1 _ (by omega)) (hq2 _ (by omega)) _ _ _ HR3.out)
    · rw [e4]; exact putN_below (by omega) _ _ _ (putN_below (by omega) _ _ _ HB3.out)
    · rw [e4]
      have hl1 := putN_own' (b := w.heap.size + 1) (by omega) [.slice (some ⟨S, 0, none⟩) ls.length ls.length, .int .i64 ev, .int .i64 lm, .bool ho, .slice (some ⟨S2, 0, none⟩) qs.length qs.length] _ 0 (putN_own' (b := w.heap.size + 1 + 1) (by omega) [.slice (some ⟨S2, 0, none⟩) qs.length qs.length] _ 4 HO3.out)
      have hl2 := (HOR.out.put (b := w.heap.size + 1 + 1) (o := 4) (by omega) [.slice (some ⟨S2, 0, none⟩) qs.length qs.length]).put (b := w.heap.size + 1) (o := 0) (by omega) [.slice (some ⟨S, 0, none⟩) ls.length ls.length, .int .i64 ev, .int .i64 lm, .bool ho, .slice (some ⟨S2, 0, none⟩) qs.length qs.length]
      exact ⟨S, rfl, Row.own_base hl1 (by omega), S2, rfl, by rw [HN3.out], by simp only; rw [HN3.out]; exact ⟨hl2.base (by omega), hS2⟩⟩
  go_wp2
  clear c0 c1 c2 c3 c4 z0 z1 z2 z3 z4 rf4 rg0 rg1 rg2 rg3 rg4
  generalize hwf : World.setCell _ _ _ = wf
  obtain ⟨hy, hh, hbl, hot⟩ := HE.out wf hwf.symm
  obtain ⟨y0, y1, y2, y3, y4⟩ := cells5 hy
  have hsame : Same ⟨ls, la, lc, ev, lm, ho, qs, ra, rc⟩ ⟨ls, some ⟨S, 0, none⟩, ls.length, ev, lm, ho, qs', some ⟨S2, 0, none⟩, qs.length⟩ := ⟨rfl, rfl, rfl, rfl, HN3.out, HS3.out⟩
  refine bodyPost_ret (v := .agg #[.slice (some ⟨S, 0, none⟩) ls.length ls.length, .int .i64 ev, .int .i64 lm, .bool ho, .slice (some ⟨S2, 0, none⟩) qs.length qs.length]) ?_ rfl ⟨_, by rw [← HN3.out], hsame, hh, hbl, hot⟩
  simp [results, Tryz.results7, go_sem, y0, y1, y2, y3, y4]
/-- The blocks of the target lie ahead of Y. -/
structure LtT (Y : Nat) (t : Tg) : Prop where
  lab : ∀ x, t.la = some x → x.block < Y
  rul : ∀ x, t.ra = some x → x.block < Y
  txt : ∀ i, i < t.qs.length → ∀ x, (t.qs.getD i q0).a = some x → x.block < Y
theorem OwnT.lt {X : Nat} {t : Tg} {w : World} (h : OwnT X t w) : LtT w.heap.size t := by
  obtain ⟨S, h1, h2, g, h3, h4, h5, h6⟩ := h
  refine ⟨fun x e => ?_, fun x e => ?_, fun i hi x e => ?_⟩
  · rw [h1] at e; cases e; exact (h2.lt S rfl).2
  · rw [h3] at e; cases e; exact (h5.row.lt g rfl).2
  · have := h5.txt i hi
    exact (this.lt x.block (by rw [e]; exact own_blk this e)).2
theorem OwnT.below {X : Nat} {t : Tg} {w w' : World} (h : OwnT X t w) (hb : Below w.heap.size w w') : OwnT X t w' := by
  obtain ⟨S, h1, h2, g, h3, h4, h5, h6⟩ := h
  exact ⟨S, h1, own_below h2 hb, g, h3, h4, h5.below hb, h6⟩
theorem ownR_grown {X g n S : Nat} {qs : List Q} {w w' : World} (h : OwnR X g n qs w) (hS : S < g) (hg : w.grownBy w' (some S)) : OwnR X g n qs w' := by
  refine ⟨h.len, h.row.kept hg (.inr (by simp only [Value.ownBlock]; intro e; have := Option.some.inj e; omega)), fun i hi => ?_, h.off, h.dis⟩
  have ht := h.txt i hi
  refine ht.kept hg ?_
  cases hq : (Value.slice (qs.getD i q0).a (qs.getD i q0).r.from'.length (qs.getD i q0).c).ownBlock with
  | none => exact .inl rfl
  | some b =>
    refine .inr ?_
    intro e
    have e2 := Option.some.inj e
    cases hak : (qs.getD i q0).a with
    | none => rw [hak] at hq; cases hq
    | some z' =>
      have h5 := own_blk ht hak
      rw [hak] at hq
      rw [hq] at h5
      have h6 := Option.some.inj h5
      have h7 := h.off i hi z' hak
      omega
set_option maxHeartbeats 2000000 in
theorem f12 (t : Tg) (X Y : Nat) (w : World) (h : OwnT X t w) (hY : LtT Y t) (hYw : Y ≤ w.heap.size) (hz : Sml t) (ht : t.qs.length + Tot.tot t.qs t.qs.length ≤ 1048576) :
    Calls Tryz.prog 12 #[agT t, .int .i64 1] w fun e w' => (∃ k' : Nat, k' ≤ 50000000 ∧ e = .returned (.int .i64 (k' : Int))) ∧ Fr X Y w w' := by
  obtain ⟨ls, la, lc, ev, lm, ho, qs, ra, rc⟩ := t
  obtain ⟨S, h1, h2, g, h3, h4, h5, h6⟩ := h
  simp only at h1 h2 h3 h4 h5 ht
  subst h1 h3 h4
  have hln : ls.length ≤ 1048576 := hz.ln
  have hS1 : S < Y := hY.lab ⟨S, 0, none⟩ rfl
  have hg1 : g < Y := hY.rul ⟨g, 0, none⟩ rfl
  have HO := hid h2
  have HR := hid h5
  have HYN := hid hY.txt
  have HX := hid (h2.lt S rfl).1
  have HB0 := hid ((Below.refl w.heap.size w).alloc (Nat.le_refl _) (.cells #[.slice (some ⟨S, 0, none⟩) ls.length lc, .int .i64 ev, .int .i64 lm, .bool ho, .slice (some ⟨g, 0, none⟩) qs.length qs.length] 33))
  have HW0 := hid (heap_alloc_new w (.cells #[.slice (some ⟨S, 0, none⟩) ls.length lc, .int .i64 ev, .int .i64 lm, .bool ho, .slice (some ⟨g, 0, none⟩) qs.length qs.length] 33))
  clear h2 h5 hY hz
  go_enter Tryz.func12, Tryz.ntmps12
  go_wp2_with fail
  refine (Lab.f13 S ls.length lc X 1 ls _ rfl (by omega) (HO.out.alloc _)).mono ?_
  rintro e w1 ⟨rfl, _, hg2⟩
  have HF1 := hid (((Fr.refl X Y w).below HB0.out).grown hg2 HX.out hS1)
  have HR1 := hid (ownR_grown (HR.out.below HB0.out) h6 hg2)
  have HW1 : Hid (w1.heap[w.heap.size]? = some (.cells #[.slice (some ⟨S, 0, none⟩) ls.length lc, .int .i64 ev, .int .i64 lm, .bool ho, .slice (some ⟨g, 0, none⟩) qs.length qs.length] 33)) := by
    unfold Hid
    rw [hg2.block _ (by simp) (by simp; omega)]
    exact HW0.out
  clear hg2 HW0
  obtain ⟨b0, b1, b2, b3, b4⟩ := cells5 HW1.out
  go_wp2_with fail
  refine (Rul.f27 X Y g qs.length (1 + 2 * ls.length) qs _ HR1.out hg1 HYN.out (by omega)).mono ?_
  rintro e w2 ⟨⟨k', hk', rfl⟩, hf2⟩
  have HF2 := hid (HF1.out.trans hf2)
  clear hf2
  go_wp2
  go_ret
  exact ⟨⟨k', hk', rfl⟩, HF2.out⟩
end Go.Proofs.YtcknlidbjnmbjaaGreatDoor.Tgt
