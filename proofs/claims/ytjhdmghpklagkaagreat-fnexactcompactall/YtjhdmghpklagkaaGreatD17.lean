/- A heap of lanes of series: how it is made. -/
import Derived.Test.YtjhdmghpklagkaaGreatD16
import Derived.Maps.AppendAt
import Derived.OwnWalk
namespace Go.Proofs.YtjhdmghpklagkaaGreat.Hpl
open Go.RowKit
open Go.Proofs.YtjhdmghpklagkaaGreat.Stb
open Go.Proofs.YtjhdmghpklagkaaGreat.Lab (orC two0 two1)
open Go.Proofs.YtjhdmghpklagkaaGreat.Str (numC)
variable {α : Type}

theorem infoLn : (Tryz.prog.info? 156).map (fun i => (i.zero, i.size, i.bytes)) = some (some (.agg #[.int .i64 0, .slice none 0 0]), 2, 32) := by kernel_rfl
abbrev Sl := Option Addr × Nat × Nat
abbrev sl0 : Sl := (none, 0, 0)
def encs : Nat → List Sl → List (Value × Value)
  | _, [] => []
  | k, s :: ls => if 0 < s.2.1 then (.int .i64 k, .slice s.1 s.2.1 s.2.2) :: encs (k + 1) ls else encs (k + 1) ls
theorem encs_append : ∀ (A B : List Sl) (k : Nat), encs k (A ++ B) = encs k A ++ encs (k + A.length) B
  | [], B, k => by simp [encs]
  | s :: A, B, k => by
    have ih := encs_append A B (k + 1)
    have e : k + 1 + A.length = k + (s :: A).length := by simp; omega
    rw [List.cons_append]
    by_cases h : 0 < s.2.1
    · rw [encs, if_pos h, encs, if_pos h, ih, e]; rfl
    · rw [encs, if_neg h, encs, if_neg h, ih, e]
theorem encs_len : ∀ (A : List Sl) (k : Nat), (encs k A).length ≤ A.length
  | [], k => by simp [encs]
  | s :: A, k => by
    have ih := encs_len A (k + 1)
    by_cases h : 0 < s.2.1
    · rw [encs, if_pos h]; simp; omega
    · rw [encs, if_neg h]; simp; omega
theorem encs_next {ls : List Sl} {k : Nat} (hk : k < ls.length) : encs 0 (ls.take (k + 1)) = encs 0 (ls.take k) ++ encs k [ls.getD k sl0] := by
  have e : ls.take (k + 1) = ls.take k ++ [ls.getD k sl0] := by
    rw [List.take_add_one]; simp [hk]
  rw [e, encs_append]
  simp [Nat.min_eq_left (Nat.le_of_lt hk)]
def HasSl (w : World) (a : Option Addr) (ls : List Sl) : Prop := ls = [] ∨ ∃ b o, a = some ⟨b, o, none⟩ ∧ b < w.heap.size ∧ ∀ k, k < ls.length → w.cell? ⟨b, o + k, none⟩ = some (.slice (ls.getD k sl0).1 (ls.getD k sl0).2.1 (ls.getD k sl0).2.2)
theorem two_newL (w : World) (x y : Value) (t : TypeId) : ∀ j u, [x, y][j]? = some u → (w.alloc (.cells #[x, y] t)).cell? ((⟨w.heap.size, 0, none⟩ : Addr).add j) = some u := by
  intro j u hj
  have h := heap_alloc_new w (.cells #[x, y] t)
  match j, hj with
  | 0, hj => simp at hj; subst hj; exact two0 h
  | 1, hj => simp at hj; subst hj; exact two1 h
  | (n + 2), hj => simp at hj
theorem bset {w : World} {b : Nat} {t : TypeId} {u v x : Value} (h : w.heap[b]? = some (.cells #[u, v] t (0, 0))) : (w.setCell ⟨b, 0, none⟩ x).heap[b]? = some (.cells #[x, v] t (0, 0)) := by
  have hlt : b < w.heap.size := (Array.getElem?_eq_some_iff.1 h).1
  have h' : w.heap[b] = .cells #[u, v] t (0, 0) := by simpa [Array.getElem?_eq_getElem hlt] using h
  show (w.heap.modify b _)[b]? = _
  rw [Array.getElem?_eq_getElem (by simpa using hlt), Array.getElem_modify_self, h']
  rfl
theorem bfrz {w : World} {b : Nat} {t : TypeId} {cs : Array Value} (h : w.heap[b]? = some (.cells cs t (0, 0))) (o : Nat) : w.frozen? ⟨b, o, none⟩ = false := by simp [World.frozen?, h]
theorem set_gr (w : World) (b o : Nat) (v : Value) : w.grownBy (w.setCell ⟨b, o, none⟩ v) (some b) := gr_set (gr_refl w b) o v
abbrev Hbx (w : World) (hb : Nat) (a : Option Addr) (n c : Nat) : Prop := w.heap[hb]? = some (.cells #[.slice a n c, fvH] 154 (0, 0))
structure Lokb (Y : Lay α) (w0 : World) (D : List α) : Prop where
  pos : ∀ x ∈ D, 0 < Y.ln x
  cel : ∀ x ∈ D, w0.cell? ⟨Y.bl x, Y.ofs x, none⟩ = some (Y.h1 x) ∧ w0.cell? ⟨Y.bl x, Y.ofs x + 1, none⟩ = some (Y.h2 x)
  cmp : ∀ W x y, x ∈ D → y ∈ D → Below w0.heap.size w0 W → Calls Tryz.prog 92 #[.agg #[Y.h1 x, Y.h2 x], .agg #[Y.h1 y, Y.h2 y]] W fun e W' => e = .returned (.int .i64 (Y.cz x y)) ∧ Below W.heap.size W W'
theorem Lokb.lok {Y : Lay α} {w0 : World} {D : List α} (h : Lokb Y w0 D) {g : Nat} (hg : w0.heap.size ≤ g) : Lok Y w0 g D :=
  ⟨h.pos, h.cel, fun x hx e => by have l := World.block_lt_of_cell? w0 _ (h.cel x hx).1; simp only at l; omega,
   fun W x y hx hy hW => h.cmp W x y hx hy ⟨hW.os, hW.tape, hW.output, hW.size, fun k hk => hW.block k hk (by intro e; have := Option.some.inj e; omega)⟩⟩

theorem own_formL {w : World} {base e size n : Nat} {v : Value} {xs : List Value} (h : w.ownsRow base e size v n xs) : ∃ a c, v = .slice a n c := by
  rcases h.2 with ⟨h1, h2⟩ | ⟨g, cap, cur, h1, _⟩
  · exact ⟨none, 0, by rw [h1, h2]⟩
  · exact ⟨_, _, h1⟩
theorem own_some {w : World} {base e size n c : Nat} {a : Option Addr} {xs : List Value} (h : w.ownsRow base e size (.slice a n c) n xs) (hn : 0 < n) : ∃ g, a = some ⟨g, 0, none⟩ := by
  rcases h.2 with ⟨h1, h2⟩ | ⟨g, cap, cur, h1, _⟩
  · omega
  · exact ⟨g, by injection h1⟩
theorem Hbx.kept {w w' : World} {hb n c : Nat} {a : Option Addr} {row : Option Nat} (h : Hbx w hb a n c) (hg : w.grownBy w' row) (hne : row ≠ some hb) : Hbx w' hb a n c := by
  have hlt : hb < w.heap.size := (Array.getElem?_eq_some_iff.1 h).1
  exact (hg.block hb hlt (fun e => hne e.symm)).trans h
theorem flat2_id_snoc (X : List (Value × Value)) (u v : Value) : flat2 id (X ++ [(u, v)]) = flat2 id X ++ [u, v] := by rw [flat2_append]; rfl

set_option maxHeartbeats 4000000 in
set_option maxRecDepth 100000 in
theorem fHeads (Y : Lay α) (O : Ord Y.lt) (d : α) (a : Option Addr) (c : Nat) (ls : List Sl) (H : List α) (w : World) (hn : ls.length ≤ 1048576) (L : Lokb Y w H) (hH : H.map Y.enc = encs 0 ls) (hr : HasSl w a ls) :
    Calls Tryz.prog 91 #[.slice a ls.length c, fvH] w fun e w' => e = .returned (.pointer (some ⟨w.heap.size, 0, none⟩)) ∧ ∃ H' a' c', H'.Perm H ∧ Heap Y.lt d H' 0 ∧ Hbx w' w.heap.size a' H'.length c' ∧ w'.ownsRow (w.heap.size + 1) 156 2 (.slice a' H'.length c') H'.length (flat2 Y.enc H') ∧ Below w.heap.size w w' := by
  obtain ⟨i0, hi, hz0, hz1, hz2⟩ := info_parts infoLn
  have HR := hid hr
  have HH := hid hH
  have L := hid L
  have O := hid O
  generalize hN : ls.length = N at *
  have HN := hid hN
  clear hr hH hN
  have HA0 : Hid (Hbx (w.alloc (.cells #[.slice none 0 0, fvH] 154)) w.heap.size none 0 0) := heap_alloc_new _ _
  have HB0 : Hid (Below w.heap.size w (w.alloc (.cells #[.slice none 0 0, fvH] 154))) := (Below.refl w.heap.size w).alloc (Nat.le_refl _) _
  go_enter Tryz.func91, Tryz.ntmps91
  go_wp2
  go_loopw [14] (fun si wr => ∃ (k : Nat) (a' : Option Addr) (c' : Nat), k ≤ N ∧ si = .int .i64 k ∧ Hid (Hbx wr w.heap.size a' (encs 0 (ls.take k)).length c') ∧ Hid (wr.ownsRow (w.heap.size + 1) 156 2 (.slice a' (encs 0 (ls.take k)).length c') (encs 0 (ls.take k)).length (flat2 id (encs 0 (ls.take k)))) ∧ Hid (Below w.heap.size w wr)) (fun si _ => N - (intOf si).toNat)
  case atStart => exact ⟨0, none, 0, Nat.zero_le _, rfl, HA0.out, World.ownsRow_nil _ _ _ _, HB0.out⟩
  case round =>
    obtain ⟨k, a', c', hk, rfl, HX, HO, HB⟩ := hrel
    clear HA0 HB0
    by_cases hlt : k < N
    · rcases HR.out with h0 | ⟨b, o, rfl, hbl, hc⟩
      · exact absurd HN.out (by rw [h0]; simp; omega)
      have d0 := (HB.out.cell (p := ⟨b, o + k, none⟩) hbl).trans (hc k (by rw [HN.out]; exact hlt))
      have HE := hid (encs_next (ls := ls) (k := k) (by rw [HN.out]; exact hlt))
      have hml := encs_len (ls.take k) 0
      rw [List.length_take] at hml
      clear hc
      generalize ls.getD k sl0 = s at *
      obtain ⟨sa, sn, sc⟩ := s
      simp only at d0
      have x0 := two0 HX.out
      have x1 := two1 HX.out
      by_cases hs : 0 < sn
      · have HE2 : Hid (encs 0 (ls.take (k + 1)) = encs 0 (ls.take k) ++ [(.int .i64 k, .slice sa sn sc)]) := by
          unfold Hid; rw [HE.out]; simp [encs, hs]
        generalize encs 0 (ls.take k) = X at *
        go_wp2_with (at_builtin; refine wpList_append_own_at _ rfl (.tmp 26) (.tmp 30) 152 rfl (w.heap.size + 1) 156 i0 (.agg #[.int .i64 0, .slice none 0 0]) 2 32 Tryz.underlying152 hi hz0 hz1 hz2 rfl (by decide) _ _ _ rfl (World.ownsRow.alloc HO.out _) ⟨wr.heap.size, 0, none⟩ 1 1 [.int .i64 k, .slice sa sn sc] rfl rfl ?d1 ?d2 ?d3 ?d4 ?d5 ?_)
        case d1 => exact two_newL wr _ _ _
        case d2 => intro u hu; simp at hu; rcases hu with rfl | rfl <;> rfl
        case d3 => unfold maxLen; omega
        case d4 => omega
        case d5 => have := (Array.getElem?_eq_some_iff.1 HX.out).1; simp; omega
        intro v1 w3 hown1 hgr1 _ _
        obtain ⟨a1, c1, rfl⟩ := own_formL hown1
        have hXl : w.heap.size < wr.heap.size := (Array.getElem?_eq_some_iff.1 HX.out).1
        have HX3 : Hid (Hbx w3 w.heap.size a' X.length c') := Hbx.kept ((Below.heap_alloc wr (.cells #[.int .i64 k, .slice sa sn sc] 156) w.heap.size hXl).trans HX.out) hgr1 (fun e => by have := (World.ownsRow.lt HO.out _ e).1; omega)
        have y0 := two0 HX3.out
        have yf := bfrz HX3.out 0
        have HX4 := hid (bset (x := .slice a1 (X.length + 1) c1) HX3.out)
        have HO4 : Hid ((w3.setCell ⟨w.heap.size, 0, none⟩ (.slice a1 (X.length + 1) c1)).ownsRow (w.heap.size + 1) 156 2 (.slice a1 (X.length + 1) c1) (X.length + 1) (flat2 id (X ++ [(.int .i64 k, .slice sa sn sc)]))) := by
          unfold Hid; rw [flat2_id_snoc]
          exact World.ownsRow.kept hown1 (set_gr w3 w.heap.size 0 _) (.inr (fun e => by have := (World.ownsRow.lt hown1 _ e).1; omega))
        have HB3 : Hid (Below w.heap.size w (w3.setCell ⟨w.heap.size, 0, none⟩ (.slice a1 (X.length + 1) c1))) := ((HB.out.alloc HB.out.size (.cells #[.int .i64 k, .slice sa sn sc] 156)).grown hgr1 (by have := HB.out.size; simp; omega) (fun j hj => by have := (World.ownsRow.lt HO.out j hj).1; omega)).setCell (p := ⟨w.heap.size, 0, none⟩) (Nat.le_refl _) _
        clear hown1 hgr1 x0 x1
        go_wp2
        go_roundw
        case rel =>
          refine ⟨k + 1, a1, c1, by omega, by go_num, ?_, ?_, HB3.out⟩
          · rw [HE2.out, List.length_append]; exact HX4.out
          · rw [HE2.out, List.length_append]; exact HO4.out
        case measure => simp [intOf]; omega
      · have hs0 : sn = 0 := by omega
        have HE2 : Hid (encs 0 (ls.take (k + 1)) = encs 0 (ls.take k)) := by
          unfold Hid; rw [HE.out]; simp [encs, hs]
        subst hs0
        go_wp2
        go_roundw
        case rel => exact ⟨k + 1, a', c', by omega, by go_num, by rw [HE2.out]; exact HX.out, by rw [HE2.out]; exact HO.out, HB.out⟩
        case measure => simp [intOf]; omega
    · have hkN : k = N := by omega
      have HE : Hid (encs 0 (ls.take k) = H.map Y.enc) := by
        unfold Hid; rw [List.take_of_length_le (by rw [HN.out]; omega)]; exact HH.out.symm
      have hHl : (encs 0 (ls.take k)).length = H.length := by rw [HE.out, List.length_map]
      have hHn : H.length ≤ 1048576 := by have := encs_len (ls.take k) 0; rw [List.length_take] at this; omega
      have HFL : Hid (flat2 id (encs 0 (ls.take k)) = flat2 Y.enc H) := by
        unfold Hid; rw [HE.out]; simp [flat2, List.flatMap_map]
      rw [hHl, HFL.out] at HO
      rw [hHl] at HX
      clear HE hHl HFL HH
      subst hkN
      generalize wr = W1 at *
      have x0 := two0 HX.out
      generalize hn2 : H.length = n at *
      have HN2 := hid hn2
      clear hn2
      have hnN : n ≤ 1048576 := hHn
      go_wp2
      go_loopw [8] (fun si wr => ∃ (j : Nat) (H' : List α), j ≤ n ∧ si = .int .i64 ((j : Int) - 1) ∧ Hid (Heap Y.lt d H' j) ∧ Hid (H'.Perm H) ∧ Hid (Hbx wr w.heap.size a' n c') ∧ Hid (wr.ownsRow (w.heap.size + 1) 156 2 (.slice a' n c') n (flat2 Y.enc H')) ∧ Hid (Below w.heap.size w wr)) (fun si _ => (intOf si + 1).toNat)
      case atStart => exact ⟨n / 2, H, by omega, by go_num, Heap.high (by rw [HN2.out]; omega), List.Perm.refl _, HX.out, HO.out, HB.out⟩
      case round =>
        clear HX HO HB x0
        obtain ⟨j, H', hj, rfl, HHP, HPE, HX, HO, HB⟩ := hrel
        have x0 := two0 HX.out
        have hl' : H'.length = n := by rw [HPE.out.length_eq]; exact HN2.out
        have HL' := hid hl'
        clear hl'
        by_cases hj0 : j = 0
        · subst hj0
          go_wp2
          go_ret
          exact ⟨rfl, H', a', c', HPE.out, HHP.out, by rw [HL'.out]; exact HX.out, by rw [HL'.out]; exact HO.out, HB.out⟩
        · obtain ⟨i, rfl⟩ : ∃ i, j = i + 1 := ⟨j - 1, by omega⟩
          obtain ⟨g, rfl⟩ := own_some HO.out (by omega)
          have hgb := (World.ownsRow.lt HO.out g rfl).1
          have HC := hid (fSink Y O.out d (w.heap.size + 1) g c' n w.heap.size i i H' H w wr hnN (L.out.lok (by omega)) (fun x hx => HPE.out.mem_iff.1 hx) ⟨HB.out.os, HB.out.tape, HB.out.output, HB.out.size, fun k hk _ => HB.out.block k hk⟩ (by omega) (two0 HX.out) (two1 HX.out) HO.out (Heap.sft HHP.out) (Nat.le_refl _) (.inl (by omega)) (by omega))
          have e1 : ((i + 1 : Nat) : Int) - 1 = (i : Int) := by omega
          rw [e1]
          go_wp2_with (go_at_call 133; refine HC.out.mono ?_; rintro e w2 ⟨rfl, H2, hp2, hh2, hr2, hg2⟩; have HX2 := hid (Hbx.kept HX.out hg2 (by intro e; have := Option.some.inj e; omega)); have HB2 := hid (HB.out.grown hg2 HB.out.size (fun k hk => by have := Option.some.inj hk; omega)); have HO2 := hid hr2; have HP2 := hid (hp2.trans HPE.out); have HH2 := hid hh2; clear hp2 hh2 hr2 hg2)
          go_roundw
          case rel => exact ⟨i, H2, by omega, by go_num, HH2.out, HP2.out, HX2.out, HO2.out, HB2.out⟩
          case measure => simp [intOf]
end Go.Proofs.YtjhdmghpklagkaaGreat.Hpl
namespace Go.Proofs.YtjhdmghpklagkaaGreat.Hpl
open Go.Proofs.YtjhdmghpklagkaaGreat.Stb
open Go.Proofs.YtjhdmghpklagkaaGreat.Lab (orC)
open Go.Proofs.YtjhdmghpklagkaaGreat.Str (numC)
variable {α β : Type}

structure C3 (cb : β → β → Int) : Prop where
  neg : ∀ a b, cb b a = - cb a b
  trans : ∀ a b c, cb a b < 0 → cb b c < 0 → cb a c < 0
  cong : ∀ a b, cb a b = 0 → ∀ c, cb a c = cb b c
theorem num_neg {x y : Int} : numC x y < 0 ↔ x < y := by unfold numC; split <;> (try split) <;> omega
theorem or_neg {x y : Int} : orC x y < 0 ↔ x < 0 ∨ (x = 0 ∧ y < 0) := by unfold orC; split <;> omega
def ltI (cb : β → β → Int) (p q : Nat × β) : Bool := decide (orC (cb p.2 q.2) (numC p.1 q.1) < 0)
theorem ltI_iff {cb : β → β → Int} {p q : Nat × β} : ltI cb p q = true ↔ cb p.2 q.2 < 0 ∨ (cb p.2 q.2 = 0 ∧ p.1 < q.1) := by
  unfold ltI; rw [decide_eq_true_iff, or_neg, num_neg]; omega
theorem ltI_no {cb : β → β → Int} {p q : Nat × β} : ltI cb p q = false ↔ ¬ (cb p.2 q.2 < 0 ∨ (cb p.2 q.2 = 0 ∧ p.1 < q.1)) := by
  rw [← ltI_iff]; simp
theorem C3.cong' {cb : β → β → Int} (C : C3 cb) {a b : β} (h : cb a b = 0) (c : β) : cb c a = cb c b := by
  rw [C.neg a c, C.neg b c, C.cong a b h c]
theorem ordI {cb : β → β → Int} (C : C3 cb) : Ord (ltI cb) where
  asym p q h := by
    rw [ltI_iff] at h; rw [ltI_no]
    have := C.neg p.2 q.2; omega
  trans p q r h1 h2 := by
    rw [ltI_iff] at h1 h2 ⊢
    rcases h1 with h1 | ⟨h1, h1'⟩
    · rcases h2 with h2 | ⟨h2, h2'⟩
      · exact .inl (C.trans _ _ _ h1 h2)
      · exact .inl (by rw [← C.cong' h2]; exact h1)
    · rw [C.cong _ _ h1]
      rcases h2 with h2 | ⟨h2, h2'⟩
      · exact .inl h2
      · exact .inr ⟨h2, by omega⟩
  ntrans p q r h1 h2 := by
    rw [ltI_no] at h1 h2 ⊢
    intro h3
    have e1 := C.neg p.2 q.2
    have e2 := C.neg q.2 r.2
    by_cases z1 : cb p.2 q.2 = 0
    · rw [C.cong _ _ z1] at h3
      have : ¬ p.1 < q.1 := fun h => h1 (.inr ⟨z1, h⟩)
      rcases h3 with h3 | ⟨h3, h3'⟩
      · exact h2 (.inl h3)
      · exact h2 (.inr ⟨h3, by omega⟩)
    · have z2 : cb q.2 p.2 < 0 := by omega
      rcases h3 with h3 | ⟨h3, _⟩
      · exact h2 (.inl (C.trans _ _ _ z2 h3))
      · exact h2 (.inl (by rw [← C.cong' h3]; exact z2))
theorem isort_of_perm {lt : α → α → Bool} (O : Ord lt) {L K : List α} (h : L.Perm K) : (∀ x ∈ L, ∀ y ∈ L, lt x y = true ∨ lt y x = true ∨ x = y) → isort lt L = isort lt K := by
  induction h with
  | nil => intro _; rfl
  | cons x _ ih => intro ht; show ins lt x _ = ins lt x _; rw [ih (fun a ha b hb => ht a (List.mem_cons_of_mem _ ha) b (List.mem_cons_of_mem _ hb))]
  | swap x y L =>
    intro ht
    rcases ht x (by simp) y (by simp) with h | h | h
    · exact (isort_two O h [] L).symm
    · exact isort_two O h [] L
    · rw [h]
  | trans h1 _ ih1 ih2 =>
    intro ht
    rw [ih1 ht]
    exact ih2 (fun a ha b hb => ht a (h1.mem_iff.2 ha) b (h1.mem_iff.2 hb))
theorem isort_num {cb : β → β → Int} (C : C3 cb) : ∀ L : List (Nat × β), L.Pairwise (fun p q => p.1 ≤ q.1) → (isort (ltI cb) L).map Prod.snd = isort (fun a b => decide (cb a b < 0)) (L.map Prod.snd)
  | [], _ => rfl
  | p :: L, h => by
    rw [List.pairwise_cons] at h
    have ih := isort_num C L h.2
    show (ins (ltI cb) p (isort (ltI cb) L)).map Prod.snd = ins _ p.2 (isort _ (L.map Prod.snd))
    rw [← ih]
    have hall : ∀ q ∈ isort (ltI cb) L, p.1 ≤ q.1 := fun q hq => h.1 q ((isort_perm L).mem_iff.1 hq)
    clear ih
    generalize isort (ltI cb) L = S0 at hall ⊢
    revert hall
    induction S0 with
    | nil => intro _; rfl
    | cons q S ihS =>
      intro hall
      have hq := hall q (by simp)
      have e : ltI cb q p = decide (cb q.2 p.2 < 0) := by
        by_cases h1 : cb q.2 p.2 < 0
        · rw [decide_eq_true h1, ltI_iff]; exact .inl h1
        · rw [decide_eq_false h1, ltI_no]; omega
      by_cases h2 : ltI cb q p = true
      · have h2' := h2
        rw [e] at h2'
        rw [ins_lt h2, List.map_cons, List.map_cons, ins_lt (lt := fun a b => decide (cb a b < 0)) h2', ihS (fun q hq => hall q (by simp [hq]))]
      · have h2f : ltI cb q p = false := by simpa using h2
        have h2' := h2f
        rw [e] at h2'
        rw [ins_ge h2f, List.map_cons, List.map_cons, ins_ge (lt := fun a b => decide (cb a b < 0)) h2']
def exps (nu : α → Nat) (lst : α → List β) (H : List α) : List (Nat × β) := H.flatMap fun x => (lst x).map fun q => (nu x, q)
theorem exps_cons (nu : α → Nat) (lst : α → List β) (x : α) (H : List α) : exps nu lst (x :: H) = (lst x).map (fun q => (nu x, q)) ++ exps nu lst H := rfl
theorem exps_perm {nu : α → Nat} {lst : α → List β} {H K : List α} (h : H.Perm K) : (exps nu lst H).Perm (exps nu lst K) := h.flatMap_right _
theorem exps_mem {nu : α → Nat} {lst : α → List β} {H : List α} {p : Nat × β} : p ∈ exps nu lst H ↔ ∃ x ∈ H, ∃ q ∈ lst x, p = (nu x, q) := by
  simp only [exps, List.mem_flatMap, List.mem_map]
  constructor
  · rintro ⟨x, hx, q, hq, e⟩; exact ⟨x, hx, q, hq, e.symm⟩
  · rintro ⟨x, hx, q, hq, e⟩; exact ⟨x, hx, q, hq, e.symm⟩
structure Lanes (cb : β → β → Int) (nu : α → Nat) (lst : α → List β) (H : List α) : Prop where
  rise : ∀ x ∈ H, (lst x).Pairwise (fun a b => cb a b < 0)
  ne : ∀ x ∈ H, lst x ≠ []
  nums : H.Pairwise (fun x y => nu x ≠ nu y)
theorem Lanes.perm {cb : β → β → Int} {nu : α → Nat} {lst : α → List β} {H K : List α} (h : Lanes cb nu lst H) (p : H.Perm K) : Lanes cb nu lst K :=
  ⟨fun x hx => h.rise x (p.mem_iff.2 hx), fun x hx => h.ne x (p.mem_iff.2 hx), (p.pairwise_iff (fun h e => h e.symm)).1 h.nums⟩
theorem Lanes.total {cb : β → β → Int} (C : C3 cb) {nu : α → Nat} {lst : α → List β} {H : List α} (h : Lanes cb nu lst H) : ∀ p ∈ exps nu lst H, ∀ q ∈ exps nu lst H, ltI cb p q = true ∨ ltI cb q p = true ∨ p = q := by
  intro p hp q hq
  obtain ⟨x, hx, a, ha, rfl⟩ := exps_mem.1 hp
  obtain ⟨y, hy, b, hb, rfl⟩ := exps_mem.1 hq
  have en := C.neg a b
  simp only [ltI_iff]
  by_cases h0 : cb a b = 0
  · by_cases hn : nu x = nu y
    · have hxy : x = y := by
        apply Classical.byContradiction
        intro hne
        rcases List.pairwise_iff_getElem.1 h.nums with hnum
        obtain ⟨i, hi, rfl⟩ := List.getElem_of_mem hx
        obtain ⟨j, hj, rfl⟩ := List.getElem_of_mem hy
        rcases Nat.lt_trichotomy i j with e | e | e
        · exact hnum i j hi hj e hn
        · subst e; exact hne rfl
        · exact hnum j i hj hi e hn.symm
      subst hxy
      obtain ⟨i, hi, rfl⟩ := List.getElem_of_mem ha
      obtain ⟨j, hj, rfl⟩ := List.getElem_of_mem hb
      have hr := List.pairwise_iff_getElem.1 (h.rise x hx)
      rcases Nat.lt_trichotomy i j with e | e | e
      · have := hr i j hi hj e; omega
      · subst e; exact .inr (.inr rfl)
      · have := hr j i hj hi e; omega
    · rcases Nat.lt_or_gt_of_ne hn with e | e
      · exact .inl (.inr ⟨h0, e⟩)
      · exact .inr (.inl (.inr ⟨by omega, e⟩))
  · by_cases h1 : cb a b < 0
    · exact .inl (.inl h1)
    · exact .inr (.inl (.inl (by omega)))
theorem top_least {cb : β → β → Int} (C : C3 cb) {nu : α → Nat} {lst : α → List β} {q0 : β} {t : α} {R : List α} {q : β} {K : List β} (h : Lanes cb nu lst (t :: R)) (ht : lst t = q :: K)
    (hp : ∀ x ∈ R, ltI cb (nu x, (lst x).headD q0) (nu t, q) = false) : ∀ p ∈ K.map (fun a => (nu t, a)) ++ exps nu lst R, ltI cb p (nu t, q) = false := by
  intro p hpm
  rcases List.mem_append.1 hpm with hm | hm
  · obtain ⟨a, ha, rfl⟩ := List.mem_map.1 hm
    have hr := h.rise t (by simp)
    rw [ht, List.pairwise_cons] at hr
    have := hr.1 a ha
    have := C.neg q a
    rw [ltI_no]; simp only; omega
  · obtain ⟨x, hx, a, ha, rfl⟩ := exps_mem.1 hm
    have h1 := hp x hx
    have hr := h.rise x (by simp [hx])
    cases hl : lst x with
    | nil => rw [hl] at ha; simp at ha
    | cons b M =>
      rw [hl] at h1 hr ha
      simp only [List.headD_cons] at h1
      rcases List.mem_cons.1 ha with rfl | ha
      · exact h1
      · rw [List.pairwise_cons] at hr
        have hba := hr.1 a ha
        have e1 := C.neg b a
        exact (ordI C).ntrans _ (nu x, b) _ (by rw [ltI_no]; simp only; omega) h1
theorem take_one {cb : β → β → Int} (C : C3 cb) {nu : α → Nat} {lst : α → List β} {q0 : β} {t : α} {R H1 : List α} {q : β} {K : List β} (h : Lanes cb nu lst (t :: R)) (ht : lst t = q :: K)
    (hp : ∀ x ∈ R, ltI cb (nu x, (lst x).headD q0) (nu t, q) = false) (hE : (exps nu lst H1).Perm (K.map (fun a => (nu t, a)) ++ exps nu lst R)) : isort (ltI cb) (exps nu lst (t :: R)) = (nu t, q) :: isort (ltI cb) (exps nu lst H1) := by
  have e : exps nu lst (t :: R) = (nu t, q) :: (K.map (fun a => (nu t, a)) ++ exps nu lst R) := by rw [exps_cons, ht]; rfl
  have ht2 := h.total C
  rw [e] at ht2 ⊢
  have h1 := isort_pull (ordI C) [] (K.map (fun a => (nu t, a)) ++ exps nu lst R) (nu t, q) (by simp) (top_least C h ht hp)
  simp only [List.nil_append] at h1
  rw [h1, isort_of_perm (ordI C) hE.symm (fun a ha b hb => ht2 a (List.mem_cons_of_mem _ ha) b (List.mem_cons_of_mem _ hb))]
end Go.Proofs.YtjhdmghpklagkaaGreat.Hpl
