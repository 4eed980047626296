/- A heap of lanes of series: how it is made. -/
import Derived.Test.YtjhdmghpklagkaaGreatP15
import Derived.Maps.AppendAt
import Derived.OwnWalk
import Derived.Test.YtjhdmghpklagkaaGreatP04
import Derived.RangeFuncNested
import Derived.RangeFuncBound
import Derived.RangeFuncCalls
import Derived.RangeFuncLeaves
import Derived.RangeFuncRecord
import Derived.RangeFuncOwn
import Derived.RangeFuncBox
import Derived.Shelf.Abstract
import Derived.Shelf.RegionOpen
import Derived.WalkKit
import Derived.OwnWalkIn
import Derived.TacticsInMore
import Derived.LoopNIn
import Derived.LoopIn
import Derived.OrdersIn
import Derived.OrdersHeld
namespace Go.Proofs.YtjhdmghpklagkaaGreat.Hpl
open Go.RowKit
open Go.Proofs.YtjhdmghpklagkaaGreat.Stb
open Go.Proofs.YtjhdmghpklagkaaGreat.Lab (orC two0 two1)
open Go.Proofs.YtjhdmghpklagkaaGreat.Str (numC)
variable {α : Type}

theorem infoLn : (Tryz.prog.info? 156).map (fun i => (i.zero, i.size, i.bytes)) = some (some (.agg #[.int .i64 0, .slice none 0 0]), 2, 32) := by kernel_rfl
abbrev Sl := Option Addr × Nat × Nat
abbrev sl0 : Sl := (none, 0, 0)
def encs : Nat → List Sl → List (Value × Value)
  | _, [] => []
  | k, s :: ls => if 0 < s.2.1 then (.int .i64 k, .slice s.1 s.2.1 s.2.2) :: encs (k + 1) ls else encs (k + 1) ls
theorem encs_append : ∀ (A B : List Sl) (k : Nat), encs k (A ++ B) = encs k A ++ encs (k + A.length) B
  | [], B, k => by simp [encs]
  | s :: A, B, k => by
    have ih := encs_append A B (k + 1)
    have e : k + 1 + A.length = k + (s :: A).length := by simp; omega
    rw [List.cons_append]
    by_cases h : 0 < s.2.1
    · rw [encs, if_pos h, encs, if_pos h, ih, e]; rfl
    · rw [encs, if_neg h, encs, if_neg h, ih, e]
theorem encs_len : ∀ (A : List Sl) (k : Nat), (encs k A).length ≤ A.length
  | [], k => by simp [encs]
  | s :: A, k => by
    have ih := encs_len A (k + 1)
    by_cases h : 0 < s.2.1
    · rw [encs, if_pos h]; simp; omega
    · rw [encs, if_neg h]; simp; omega
theorem encs_next {ls : List Sl} {k : Nat} (hk : k < ls.length) : encs 0 (ls.take (k + 1)) = encs 0 (ls.take k) ++ encs k [ls.getD k sl0] := by
  have e : ls.take (k + 1) = ls.take k ++ [ls.getD k sl0] := by
    rw [List.take_add_one]; simp [hk]
  rw [e, encs_append]
  simp [Nat.min_eq_left (Nat.le_of_lt hk)]
def HasSl (w : World) (a : Option Addr) (ls : List Sl) : Prop := ls = [] ∨ ∃ b o, a = some ⟨b, o, none⟩ ∧ b < w.heap.size ∧ ∀ k, k < ls.length → w.cell? ⟨b, o + k, none⟩ = some (.slice (ls.getD k sl0).1 (ls.getD k sl0).2.1 (ls.getD k sl0).2.2)
theorem two_newL (w : World) (x y : Value) (t : TypeId) : ∀ j u, [x, y][j]? = some u → (w.alloc (.cells #[x, y] t)).cell? ((⟨w.heap.size, 0, none⟩ : Addr).add j) = some u := by
  intro j u hj
  have h := heap_alloc_new w (.cells #[x, y] t)
  match j, hj with
  | 0, hj => simp at hj; subst hj; exact two0 h
  | 1, hj => simp at hj; subst hj; exact two1 h
  | (n + 2), hj => simp at hj
theorem bset {w : World} {b : Nat} {t : TypeId} {u v x : Value} (h : w.heap[b]? = some (.cells #[u, v] t (0, 0))) : (w.setCell ⟨b, 0, none⟩ x).heap[b]? = some (.cells #[x, v] t (0, 0)) := by
  have hlt : b < w.heap.size := (Array.getElem?_eq_some_iff.1 h).1
  have h' : w.heap[b] = .cells #[u, v] t (0, 0) := by simpa [Array.getElem?_eq_getElem hlt] using h
  show (w.heap.modify b _)[b]? = _
  rw [Array.getElem?_eq_getElem (by simpa using hlt), Array.getElem_modify_self, h']
  rfl
theorem bfrz {w : World} {b : Nat} {t : TypeId} {cs : Array Value} (h : w.heap[b]? = some (.cells cs t (0, 0))) (o : Nat) : w.frozen? ⟨b, o, none⟩ = false := by simp [World.frozen?, h]
theorem set_gr (w : World) (b o : Nat) (v : Value) : w.grownBy (w.setCell ⟨b, o, none⟩ v) (some b) := gr_set (gr_refl w b) o v
abbrev Hbx (w : World) (hb : Nat) (a : Option Addr) (n c : Nat) : Prop := w.heap[hb]? = some (.cells #[.slice a n c, fvH] 154 (0, 0))
structure Lokb (Y : Lay α) (w0 : World) (D : List α) : Prop where
  pos : ∀ x ∈ D, 0 < Y.ln x
  cel : ∀ x ∈ D, w0.cell? ⟨Y.bl x, Y.ofs x, none⟩ = some (Y.h1 x) ∧ w0.cell? ⟨Y.bl x, Y.ofs x + 1, none⟩ = some (Y.h2 x)
  cmp : ∀ W x y, x ∈ D → y ∈ D → Below w0.heap.size w0 W → Calls Tryz.prog 92 #[.agg #[Y.h1 x, Y.h2 x], .agg #[Y.h1 y, Y.h2 y]] W fun e W' => e = .returned (.int .i64 (Y.cz x y)) ∧ Below W.heap.size W W'
theorem Lokb.lok {Y : Lay α} {w0 : World} {D : List α} (h : Lokb Y w0 D) {g : Nat} (hg : w0.heap.size ≤ g) : Lok Y w0 g D :=
  ⟨h.pos, h.cel, fun x hx e => by have l := World.block_lt_of_cell? w0 _ (h.cel x hx).1; simp only at l; omega,
   fun W x y hx hy hW => h.cmp W x y hx hy ⟨hW.os, hW.tape, hW.output, hW.size, fun k hk => hW.block k hk (by intro e; have := Option.some.inj e; omega)⟩⟩

theorem own_formL {w : World} {base e size n : Nat} {v : Value} {xs : List Value} (h : w.ownsRow base e size v n xs) : ∃ a c, v = .slice a n c := by
  rcases h.2 with ⟨h1, h2⟩ | ⟨g, cap, cur, h1, _⟩
  · exact ⟨none, 0, by rw [h1, h2]⟩
  · exact ⟨_, _, h1⟩
theorem own_some {w : World} {base e size n c : Nat} {a : Option Addr} {xs : List Value} (h : w.ownsRow base e size (.slice a n c) n xs) (hn : 0 < n) : ∃ g, a = some ⟨g, 0, none⟩ := by
  rcases h.2 with ⟨h1, h2⟩ | ⟨g, cap, cur, h1, _⟩
  · omega
  · exact ⟨g, by injection h1⟩
theorem Hbx.kept {w w' : World} {hb n c : Nat} {a : Option Addr} {row : Option Nat} (h : Hbx w hb a n c) (hg : w.grownBy w' row) (hne : row ≠ some hb) : Hbx w' hb a n c := by
  have hlt : hb < w.heap.size := (Array.getElem?_eq_some_iff.1 h).1
  exact (hg.block hb hlt (fun e => hne e.symm)).trans h
theorem flat2_id_snoc (X : List (Value × Value)) (u v : Value) : flat2 id (X ++ [(u, v)]) = flat2 id X ++ [u, v] := by rw [flat2_append]; rfl

set_option maxHeartbeats 4000000 in
set_option maxRecDepth 100000 in
theorem fHeads (Y : Lay α) (O : Ord Y.lt) (d : α) (a : Option Addr) (c : Nat) (ls : List Sl) (H : List α) (w : World) (hn : ls.length ≤ 1048576) (L : Lokb Y w H) (hH : H.map Y.enc = encs 0 ls) (hr : HasSl w a ls) :
    Calls Tryz.prog 91 #[.slice a ls.length c, fvH] w fun e w' => e = .returned (.pointer (some ⟨w.heap.size, 0, none⟩)) ∧ ∃ H' a' c', H'.Perm H ∧ Heap Y.lt d H' 0 ∧ Hbx w' w.heap.size a' H'.length c' ∧ w'.ownsRow (w.heap.size + 1) 156 2 (.slice a' H'.length c') H'.length (flat2 Y.enc H') ∧ Below w.heap.size w w' := by
  obtain ⟨i0, hi, hz0, hz1, hz2⟩ := info_parts infoLn
  have HR := hid hr
  have HH := hid hH
  have L := hid L
  have O := hid O
  generalize hN : ls.length = N at *
  have HN := hid hN
  clear hr hH hN
  have HA0 : Hid (Hbx (w.alloc (.cells #[.slice none 0 0, fvH] 154)) w.heap.size none 0 0) := heap_alloc_new _ _
  have HB0 : Hid (Below w.heap.size w (w.alloc (.cells #[.slice none 0 0, fvH] 154))) := (Below.refl w.heap.size w).alloc (Nat.le_refl _) _
  go_enter Tryz.func91, Tryz.ntmps91
  go_wp2
  go_loopw [14] (fun si wr => ∃ (k : Nat) (a' : Option Addr) (c' : Nat), k ≤ N ∧ si = .int .i64 k ∧ Hid (Hbx wr w.heap.size a' (encs 0 (ls.take k)).length c') ∧ Hid (wr.ownsRow (w.heap.size + 1) 156 2 (.slice a' (encs 0 (ls.take k)).length c') (encs 0 (ls.take k)).length (flat2 id (encs 0 (ls.take k)))) ∧ Hid (Below w.heap.size w wr)) (fun si _ => N - (intOf si).toNat)
  case atStart => exact ⟨0, none, 0, Nat.zero_le _, rfl, HA0.out, World.ownsRow_nil _ _ _ _, HB0.out⟩
  case round =>
    obtain ⟨k, a', c', hk, rfl, HX, HO, HB⟩ := hrel
    clear HA0 HB0
    by_cases hlt : k < N
    · rcases HR.out with h0 | ⟨b, o, rfl, hbl, hc⟩
      · exact absurd HN.out (by rw [h0]; simp; omega)
      have d0 := (HB.out.cell (p := ⟨b, o + k, none⟩) hbl).trans (hc k (by rw [HN.out]; exact hlt))
      have HE := hid (encs_next (ls := ls) (k := k) (by rw [HN.out]; exact hlt))
      have hml := encs_len (ls.take k) 0
      rw [List.length_take] at hml
      clear hc
      generalize ls.getD k sl0 = s at *
      obtain ⟨sa, sn, sc⟩ := s
      simp only at d0
      have x0 := two0 HX.out
      have x1 := two1 HX.out
      by_cases hs : 0 < sn
      · have HE2 : Hid (encs 0 (ls.take (k + 1)) = encs 0 (ls.take k) ++ [(.int .i64 k, .slice sa sn sc)]) := by
          unfold Hid; rw [HE.out]; simp [encs, hs]
        generalize encs 0 (ls.take k) = X at *
        go_wp2_with (at_builtin; refine wpList_append_own_at _ rfl (.tmp 26) (.tmp 30) 152 rfl (w.heap.size + 1) 156 i0 (.agg #[.int .i64 0, .slice none 0 0]) 2 32 Tryz.underlying152 hi hz0 hz1 hz2 rfl (by decide) _ _ _ rfl (World.ownsRow.alloc HO.out _) ⟨wr.heap.size, 0, none⟩ 1 1 [.int .i64 k, .slice sa sn sc] rfl rfl ?d1 ?d2 ?d3 ?d4 ?d5 ?_)
        case d1 => exact two_newL wr _ _ _
        case d2 => intro u hu; simp at hu; rcases hu with rfl | rfl <;> rfl
        case d3 => unfold maxLen; omega
        case d4 => omega
        case d5 => have := (Array.getElem?_eq_some_iff.1 HX.out).1; simp; omega
        intro v1 w3 hown1 hgr1 _ _
        obtain ⟨a1, c1, rfl⟩ := own_formL hown1
        have hXl : w.heap.size < wr.heap.size := (Array.getElem?_eq_some_iff.1 HX.out).1
        have HX3 : Hid (Hbx w3 w.heap.size a' X.length c') := Hbx.kept ((Below.heap_alloc wr (.cells #[.int .i64 k, .slice sa sn sc] 156) w.heap.size hXl).trans HX.out) hgr1 (fun e => by have := (World.ownsRow.lt HO.out _ e).1; omega)
        have y0 := two0 HX3.out
        have yf := bfrz HX3.out 0
        have HX4 := hid (bset (x := .slice a1 (X.length + 1) c1) HX3.out)
        have HO4 : Hid ((w3.setCell ⟨w.heap.size, 0, none⟩ (.slice a1 (X.length + 1) c1)).ownsRow (w.heap.size + 1) 156 2 (.slice a1 (X.length + 1) c1) (X.length + 1) (flat2 id (X ++ [(.int .i64 k, .slice sa sn sc)]))) := by
          unfold Hid; rw [flat2_id_snoc]
          exact World.ownsRow.kept hown1 (set_gr w3 w.heap.size 0 _) (.inr (fun e => by have := (World.ownsRow.lt hown1 _ e).1; omega))
        have HB3 : Hid (Below w.heap.size w (w3.setCell ⟨w.heap.size, 0, none⟩ (.slice a1 (X.length + 1) c1))) := ((HB.out.alloc HB.out.size (.cells #[.int .i64 k, .slice sa sn sc] 156)).grown hgr1 (by have := HB.out.size; simp; omega) (fun j hj => by have := (World.ownsRow.lt HO.out j hj).1; omega)).setCell (p := ⟨w.heap.size, 0, none⟩) (Nat.le_refl _) _
        clear hown1 hgr1 x0 x1
        go_wp2
        go_roundw
        case rel =>
          refine ⟨k + 1, a1, c1, by omega, by go_num, ?_, ?_, HB3.out⟩
          · rw [HE2.out, List.length_append]; exact HX4.out
          · rw [HE2.out, List.length_append]; exact HO4.out
        case measure => simp [intOf]; omega
      · have hs0 : sn = 0 := by omega
        have HE2 : Hid (encs 0 (ls.take (k + 1)) = encs 0 (ls.take k)) := by
          unfold Hid; rw [HE.out]; simp [encs, hs]
        subst hs0
        go_wp2
        go_roundw
        case rel => exact ⟨k + 1, a', c', by omega, by go_num, by rw [HE2.out]; exact HX.out, by rw [HE2.out]; exact HO.out, HB.out⟩
        case measure => simp [intOf]; omega
    · have hkN : k = N := by omega
      have HE : Hid (encs 0 (ls.take k) = H.map Y.enc) := by
        unfold Hid; rw [List.take_of_length_le (by rw [HN.out]; omega)]; exact HH.out.symm
      have hHl : (encs 0 (ls.take k)).length = H.length := by rw [HE.out, List.length_map]
      have hHn : H.length ≤ 1048576 := by have := encs_len (ls.take k) 0; rw [List.length_take] at this; omega
      have HFL : Hid (flat2 id (encs 0 (ls.take k)) = flat2 Y.enc H) := by
        unfold Hid; rw [HE.out]; simp [flat2, List.flatMap_map]
      rw [hHl, HFL.out] at HO
      rw [hHl] at HX
      clear HE hHl HFL HH
      subst hkN
      generalize wr = W1 at *
      have x0 := two0 HX.out
      generalize hn2 : H.length = n at *
      have HN2 := hid hn2
      clear hn2
      have hnN : n ≤ 1048576 := hHn
      go_wp2
      go_loopw [8] (fun si wr => ∃ (j : Nat) (H' : List α), j ≤ n ∧ si = .int .i64 ((j : Int) - 1) ∧ Hid (Heap Y.lt d H' j) ∧ Hid (H'.Perm H) ∧ Hid (Hbx wr w.heap.size a' n c') ∧ Hid (wr.ownsRow (w.heap.size + 1) 156 2 (.slice a' n c') n (flat2 Y.enc H')) ∧ Hid (Below w.heap.size w wr)) (fun si _ => (intOf si + 1).toNat)
      case atStart => exact ⟨n / 2, H, by omega, by go_num, Heap.high (by rw [HN2.out]; omega), List.Perm.refl _, HX.out, HO.out, HB.out⟩
      case round =>
        clear HX HO HB x0
        obtain ⟨j, H', hj, rfl, HHP, HPE, HX, HO, HB⟩ := hrel
        have x0 := two0 HX.out
        have hl' : H'.length = n := by rw [HPE.out.length_eq]; exact HN2.out
        have HL' := hid hl'
        clear hl'
        by_cases hj0 : j = 0
        · subst hj0
          go_wp2
          go_ret
          exact ⟨rfl, H', a', c', HPE.out, HHP.out, by rw [HL'.out]; exact HX.out, by rw [HL'.out]; exact HO.out, HB.out⟩
        · obtain ⟨i, rfl⟩ : ∃ i, j = i + 1 := ⟨j - 1, by omega⟩
          obtain ⟨g, rfl⟩ := own_some HO.out (by omega)
          have hgb := (World.ownsRow.lt HO.out g rfl).1
          have HC := hid (fSink Y O.out d (w.heap.size + 1) g c' n w.heap.size i i H' H w wr hnN (L.out.lok (by omega)) (fun x hx => HPE.out.mem_iff.1 hx) ⟨HB.out.os, HB.out.tape, HB.out.output, HB.out.size, fun k hk _ => HB.out.block k hk⟩ (by omega) (two0 HX.out) (two1 HX.out) HO.out (Heap.sft HHP.out) (Nat.le_refl _) (.inl (by omega)) (by omega))
          have e1 : ((i + 1 : Nat) : Int) - 1 = (i : Int) := by omega
          rw [e1]
          go_wp2_with (go_at_call 133; refine HC.out.mono ?_; rintro e w2 ⟨rfl, H2, hp2, hh2, hr2, hg2⟩; have HX2 := hid (Hbx.kept HX.out hg2 (by intro e; have := Option.some.inj e; omega)); have HB2 := hid (HB.out.grown hg2 HB.out.size (fun k hk => by have := Option.some.inj hk; omega)); have HO2 := hid hr2; have HP2 := hid (hp2.trans HPE.out); have HH2 := hid hh2; clear hp2 hh2 hr2 hg2)
          go_roundw
          case rel => exact ⟨i, H2, by omega, by go_num, HH2.out, HP2.out, HX2.out, HO2.out, HB2.out⟩
          case measure => simp [intOf]
end Go.Proofs.YtjhdmghpklagkaaGreat.Hpl
namespace Go.Proofs.YtjhdmghpklagkaaGreat.Hpl
open Go.Proofs.YtjhdmghpklagkaaGreat.Stb
open Go.Proofs.YtjhdmghpklagkaaGreat.Lab (orC)
open Go.Proofs.YtjhdmghpklagkaaGreat.Str (numC)
variable {α β : Type}

structure C3 (cb : β → β → Int) : Prop where
  neg : ∀ a b, cb b a = - cb a b
  trans : ∀ a b c, cb a b < 0 → cb b c < 0 → cb a c < 0
  cong : ∀ a b, cb a b = 0 → ∀ c, cb a c = cb b c
theorem num_neg {x y : Int} : numC x y < 0 ↔ x < y := by unfold numC; split <;> (try split) <;> omega
theorem or_neg {x y : Int} : orC x y < 0 ↔ x < 0 ∨ (x = 0 ∧ y < 0) := by unfold orC; split <;> omega
def ltI (cb : β → β → Int) (p q : Nat × β) : Bool := decide (orC (cb p.2 q.2) (numC p.1 q.1) < 0)
theorem ltI_iff {cb : β → β → Int} {p q : Nat × β} : ltI cb p q = true ↔ cb p.2 q.2 < 0 ∨ (cb p.2 q.2 = 0 ∧ p.1 < q.1) := by
  unfold ltI; rw [decide_eq_true_iff, or_neg, num_neg]; omega
theorem ltI_no {cb : β → β → Int} {p q : Nat × β} : ltI cb p q = false ↔ ¬ (cb p.2 q.2 < 0 ∨ (cb p.2 q.2 = 0 ∧ p.1 < q.1)) := by
  rw [← ltI_iff]; simp
theorem C3.cong' {cb : β → β → Int} (C : C3 cb) {a b : β} (h : cb a b = 0) (c : β) : cb c a = cb c b := by
  rw [C.neg a c, C.neg b c, C.cong a b h c]
theorem ordI {cb : β → β → Int} (C : C3 cb) : Ord (ltI cb) where
  asym p q h := by
    rw [ltI_iff] at h; rw [ltI_no]
    have := C.neg p.2 q.2; omega
  trans p q r h1 h2 := by
    rw [ltI_iff] at h1 h2 ⊢
    rcases h1 with h1 | ⟨h1, h1'⟩
    · rcases h2 with h2 | ⟨h2, h2'⟩
      · exact .inl (C.trans _ _ _ h1 h2)
      · exact .inl (by rw [← C.cong' h2]; exact h1)
    · rw [C.cong _ _ h1]
      rcases h2 with h2 | ⟨h2, h2'⟩
      · exact .inl h2
      · exact .inr ⟨h2, by omega⟩
  ntrans p q r h1 h2 := by
    rw [ltI_no] at h1 h2 ⊢
    intro h3
    have e1 := C.neg p.2 q.2
    have e2 := C.neg q.2 r.2
    by_cases z1 : cb p.2 q.2 = 0
    · rw [C.cong _ _ z1] at h3
      have : ¬ p.1 < q.1 := fun h => h1 (.inr ⟨z1, h⟩)
      rcases h3 with h3 | ⟨h3, h3'⟩
      · exact h2 (.inl h3)
      · exact h2 (.inr ⟨h3, by omega⟩)
    · have z2 : cb q.2 p.2 < 0 := by omega
      rcases h3 with h3 | ⟨h3, _⟩
      · exact h2 (.inl (C.trans _ _ _ z2 h3))
      · exact h2 (.inl (by rw [← C.cong' h3]; exact z2))
theorem isort_of_perm {lt : α → α → Bool} (O : Ord lt) {L K : List α} (h : L.Perm K) : (∀ x ∈ L, ∀ y ∈ L, lt x y = true ∨ lt y x = true ∨ x = y) → isort lt L = isort lt K := by
  induction h with
  | nil => intro _; rfl
  | cons x _ ih => intro ht; show ins lt x _ = ins lt x _; rw [ih (fun a ha b hb => ht a (List.mem_cons_of_mem _ ha) b (List.mem_cons_of_mem _ hb))]
  | swap x y L =>
    intro ht
    rcases ht x (by simp) y (by simp) with h | h | h
    · exact (isort_two O h [] L).symm
    · exact isort_two O h [] L
    · rw [h]
  | trans h1 _ ih1 ih2 =>
    intro ht
    rw [ih1 ht]
    exact ih2 (fun a ha b hb => ht a (h1.mem_iff.2 ha) b (h1.mem_iff.2 hb))
theorem isort_num {cb : β → β → Int} (C : C3 cb) : ∀ L : List (Nat × β), L.Pairwise (fun p q => p.1 ≤ q.1) → (isort (ltI cb) L).map Prod.snd = isort (fun a b => decide (cb a b < 0)) (L.map Prod.snd)
  | [], _ => rfl
  | p :: L, h => by
    rw [List.pairwise_cons] at h
    have ih := isort_num C L h.2
    show (ins (ltI cb) p (isort (ltI cb) L)).map Prod.snd = ins _ p.2 (isort _ (L.map Prod.snd))
    rw [← ih]
    have hall : ∀ q ∈ isort (ltI cb) L, p.1 ≤ q.1 := fun q hq => h.1 q ((isort_perm L).mem_iff.1 hq)
    clear ih
    generalize isort (ltI cb) L = S0 at hall ⊢
    revert hall
    induction S0 with
    | nil => intro _; rfl
    | cons q S ihS =>
      intro hall
      have hq := hall q (by simp)
      have e : ltI cb q p = decide (cb q.2 p.2 < 0) := by
        by_cases h1 : cb q.2 p.2 < 0
        · rw [decide_eq_true h1, ltI_iff]; exact .inl h1
        · rw [decide_eq_false h1, ltI_no]; omega
      by_cases h2 : ltI cb q p = true
      · have h2' := h2
        rw [e] at h2'
        rw [ins_lt h2, List.map_cons, List.map_cons, ins_lt (lt := fun a b => decide (cb a b < 0)) h2', ihS (fun q hq => hall q (by simp [hq]))]
      · have h2f : ltI cb q p = false := by simpa using h2
        have h2' := h2f
        rw [e] at h2'
        rw [ins_ge h2f, List.map_cons, List.map_cons, ins_ge (lt := fun a b => decide (cb a b < 0)) h2']
def exps (nu : α → Nat) (lst : α → List β) (H : List α) : List (Nat × β) := H.flatMap fun x => (lst x).map fun q => (nu x, q)
theorem exps_cons (nu : α → Nat) (lst : α → List β) (x : α) (H : List α) : exps nu lst (x :: H) = (lst x).map (fun q => (nu x, q)) ++ exps nu lst H := rfl
theorem exps_perm {nu : α → Nat} {lst : α → List β} {H K : List α} (h : H.Perm K) : (exps nu lst H).Perm (exps nu lst K) := h.flatMap_right _
theorem exps_mem {nu : α → Nat} {lst : α → List β} {H : List α} {p : Nat × β} : p ∈ exps nu lst H ↔ ∃ x ∈ H, ∃ q ∈ lst x, p = (nu x, q) := by
  simp only [exps, List.mem_flatMap, List.mem_map]
  constructor
  · rintro ⟨x, hx, q, hq, e⟩; exact ⟨x, hx, q, hq, e.symm⟩
  · rintro ⟨x, hx, q, hq, e⟩; exact ⟨x, hx, q, hq, e.symm⟩
structure Lanes (cb : β → β → Int) (nu : α → Nat) (lst : α → List β) (H : List α) : Prop where
  rise : ∀ x ∈ H, (lst x).Pairwise (fun a b => cb a b < 0)
  ne : ∀ x ∈ H, lst x ≠ []
  nums : H.Pairwise (fun x y => nu x ≠ nu y)
theorem Lanes.perm {cb : β → β → Int} {nu : α → Nat} {lst : α → List β} {H K : List α} (h : Lanes cb nu lst H) (p : H.Perm K) : Lanes cb nu lst K :=
  ⟨fun x hx => h.rise x (p.mem_iff.2 hx), fun x hx => h.ne x (p.mem_iff.2 hx), (p.pairwise_iff (fun h e => h e.symm)).1 h.nums⟩
theorem Lanes.total {cb : β → β → Int} (C : C3 cb) {nu : α → Nat} {lst : α → List β} {H : List α} (h : Lanes cb nu lst H) : ∀ p ∈ exps nu lst H, ∀ q ∈ exps nu lst H, ltI cb p q = true ∨ ltI cb q p = true ∨ p = q := by
  intro p hp q hq
  obtain ⟨x, hx, a, ha, rfl⟩ := exps_mem.1 hp
  obtain ⟨y, hy, b, hb, rfl⟩ := exps_mem.1 hq
  have en := C.neg a b
  simp only [ltI_iff]
  by_cases h0 : cb a b = 0
  · by_cases hn : nu x = nu y
    · have hxy : x = y := by
        apply Classical.byContradiction
        intro hne
        rcases List.pairwise_iff_getElem.1 h.nums with hnum
        obtain ⟨i, hi, rfl⟩ := List.getElem_of_mem hx
        obtain ⟨j, hj, rfl⟩ := List.getElem_of_mem hy
        rcases Nat.lt_trichotomy i j with e | e | e
        · exact hnum i j hi hj e hn
        · subst e; exact hne rfl
        · exact hnum j i hj hi e hn.symm
      subst hxy
      obtain ⟨i, hi, rfl⟩ := List.getElem_of_mem ha
      obtain ⟨j, hj, rfl⟩ := List.getElem_of_mem hb
      have hr := List.pairwise_iff_getElem.1 (h.rise x hx)
      rcases Nat.lt_trichotomy i j with e | e | e
      · have := hr i j hi hj e; omega
      · subst e; exact .inr (.inr rfl)
      · have := hr j i hj hi e; omega
    · rcases Nat.lt_or_gt_of_ne hn with e | e
      · exact .inl (.inr ⟨h0, e⟩)
      · exact .inr (.inl (.inr ⟨by omega, e⟩))
  · by_cases h1 : cb a b < 0
    · exact .inl (.inl h1)
    · exact .inr (.inl (.inl (by omega)))
theorem top_least {cb : β → β → Int} (C : C3 cb) {nu : α → Nat} {lst : α → List β} {q0 : β} {t : α} {R : List α} {q : β} {K : List β} (h : Lanes cb nu lst (t :: R)) (ht : lst t = q :: K)
    (hp : ∀ x ∈ R, ltI cb (nu x, (lst x).headD q0) (nu t, q) = false) : ∀ p ∈ K.map (fun a => (nu t, a)) ++ exps nu lst R, ltI cb p (nu t, q) = false := by
  intro p hpm
  rcases List.mem_append.1 hpm with hm | hm
  · obtain ⟨a, ha, rfl⟩ := List.mem_map.1 hm
    have hr := h.rise t (by simp)
    rw [ht, List.pairwise_cons] at hr
    have := hr.1 a ha
    have := C.neg q a
    rw [ltI_no]; simp only; omega
  · obtain ⟨x, hx, a, ha, rfl⟩ := exps_mem.1 hm
    have h1 := hp x hx
    have hr := h.rise x (by simp [hx])
    cases hl : lst x with
    | nil => rw [hl] at ha; simp at ha
    | cons b M =>
      rw [hl] at h1 hr ha
      simp only [List.headD_cons] at h1
      rcases List.mem_cons.1 ha with rfl | ha
      · exact h1
      · rw [List.pairwise_cons] at hr
        have hba := hr.1 a ha
        have e1 := C.neg b a
        exact (ordI C).ntrans _ (nu x, b) _ (by rw [ltI_no]; simp only; omega) h1
theorem take_one {cb : β → β → Int} (C : C3 cb) {nu : α → Nat} {lst : α → List β} {q0 : β} {t : α} {R H1 : List α} {q : β} {K : List β} (h : Lanes cb nu lst (t :: R)) (ht : lst t = q :: K)
    (hp : ∀ x ∈ R, ltI cb (nu x, (lst x).headD q0) (nu t, q) = false) (hE : (exps nu lst H1).Perm (K.map (fun a => (nu t, a)) ++ exps nu lst R)) : isort (ltI cb) (exps nu lst (t :: R)) = (nu t, q) :: isort (ltI cb) (exps nu lst H1) := by
  have e : exps nu lst (t :: R) = (nu t, q) :: (K.map (fun a => (nu t, a)) ++ exps nu lst R) := by rw [exps_cons, ht]; rfl
  have ht2 := h.total C
  rw [e] at ht2 ⊢
  have h1 := isort_pull (ordI C) [] (K.map (fun a => (nu t, a)) ++ exps nu lst R) (nu t, q) (by simp) (top_least C h ht hp)
  simp only [List.nil_append] at h1
  rw [h1, isort_of_perm (ordI C) hE.symm (fun a ha b hb => ht2 a (List.mem_cons_of_mem _ ha) b (List.mem_cons_of_mem _ hb))]
end Go.Proofs.YtjhdmghpklagkaaGreat.Hpl
namespace Go.Proofs.YtjhdmghpklagkaaGreat.Hpl
open Go.RowKit
open Go.Proofs.YtjhdmghpklagkaaGreat.Stb
open Go.Proofs.YtjhdmghpklagkaaGreat.Lab (orC two0 two1 cmpList)
open Go.Proofs.YtjhdmghpklagkaaGreat.Str (numC)
open Go.Proofs.YtjhdmghpklagkaaGreat.Srs (Q q0)

theorem op_wide {n : Nat} {P : Program} {ops : Array Oper} {Q : Exit → Act → World → Prop} {i : Nat} {K : Act → World → Prop} {a : Act} {w : World} (hno : ¬ LetsOut Q) (h : wpOp P ops Q i K a w) : wpOpIn Fence.wide n P ops Q i K a w := by
  unfold wpOp at h
  unfold wpOpIn
  cases ho : ops[i]? with
  | none => rw [ho] at h; exact h
  | some o =>
    rw [ho] at h
    simp only at h ⊢
    by_cases hw : Region.wanted o (yielded ops a.tmps) = true
    · rw [if_pos hw] at h ⊢
      have h := h.resolve_right (fun e => hno e.2)
      unfold Oper.wp at h
      refine ⟨fun f _ => trivial, ?_⟩
      show o.uponIn Fence.wide n P a K Q ((o.semAt none a.eval).run P w)
      show o.uponIn Fence.wide n P a K Q ((execOp a.eval o).run P w)
      generalize (execOp a.eval o).run P w = r at *
      cases r with
      | ok x w' =>
        cases x <;> first
          | exact h
          | exact ⟨by intro e; simp [Fence.wide] at e, callsIn_wide.2 h⟩
          | exact ⟨by intro e; simp [Fence.wide] at e, fun c cs _ => let ⟨v, w', r, s⟩ := h c cs; ⟨v, w', r, stepsIn_wide.2 s⟩⟩
          | exact h.elim
      | halt x w' => cases x <;> first | exact h | exact h.elim
    · rw [if_neg hw] at h ⊢
      exact ⟨fun f _ => trivial, h⟩
theorem any_wide {n : Nat} {P : Program} {md : Region.Mode} {ops : Array Oper} {Q : Exit → Act → World → Prop} (hno : ¬ LetsOut Q) : ∀ (fuel : Nat) (listed : Array Bool) (a : Act) (w : World), wpAny P md ops Q fuel listed a w → wpAnyIn Fence.wide n P md ops Q fuel listed a w
  | 0, _, _, _, h => h
  | fuel + 1, _, _, _, h => ⟨h.1, fun i hi => wpOpIn_mono (fun a' w' h' => any_wide hno fuel _ a' w' h') (op_wide hno (h.2 i hi))⟩
theorem region_wide {n id : Nat} {P : Program} {ops : Array Oper} {Q : Exit → Act → World → Prop} {S : World → Prop} {a : Act} {w : World} (hm : P.follows .mixedOrders = true) (hno : ¬ LetsOut Q) (hS : S w.drew)
    (h : S w.drew → wpAnyH P .any ops Q S ops.size (Array.replicate ops.size false) a w.drew) : (Code.region id ops true).wpIn Fence.wide n P Q a w :=
  wpIn_region_any hm (any_wide hno _ _ _ _ (wpAny_of_held _ _ _ _ (h hS)))

structure Ln where
  k : Nat
  b : Nat
  o : Nat
  c : Nat
  L : List Q
abbrev cbQ (p q : Q) : Int := cmpList p.l q.l
abbrev slH (q : Q) : (Option Addr × Nat × Nat) × (Option Addr × Nat × Nat) := ((q.a, q.l.length, q.c), (q.b, q.s.length, q.d))
abbrev YQ : Lay Ln where
  nu := Ln.k
  bl := Ln.b
  ofs := Ln.o
  ln x := x.L.length
  cp := Ln.c
  hs x := slH (x.L.headD q0)
  cz x y := cbQ (x.L.headD q0) (y.L.headD q0)
def Ln.tl (x : Ln) : Ln := ⟨x.k, x.b, x.o + 2, x.c - 1, x.L.tail⟩
theorem ordY (C : C3 cbQ) : Ord YQ.lt where
  asym x y := (ordI C).asym (x.k, x.L.headD q0) (y.k, y.L.headD q0)
  trans x y z := (ordI C).trans (x.k, x.L.headD q0) (y.k, y.L.headD q0) (z.k, z.L.headD q0)
  ntrans x y z := (ordI C).ntrans (x.k, x.L.headD q0) (y.k, y.L.headD q0) (z.k, z.L.headD q0)
abbrev all (H : List Ln) : List Q := (isort (ltI cbQ) (exps Ln.k Ln.L H)).map Prod.snd
theorem heap_least (C : C3 cbQ) {d t : Ln} {R : List Ln} (h : Heap YQ.lt d (t :: R) 0) : ∀ x ∈ R, ltI cbQ (x.k, x.L.headD q0) (t.k, t.L.headD q0) = false := by
  intro x hx
  obtain ⟨i, hi, rfl⟩ := List.getElem_of_mem hx
  have h1 := Heap.top (ordY C) h (i + 1) (by simp; omega)
  have e1 : (t :: R).getD (i + 1) d = R[i] := by simp [hi]
  have e2 : (t :: R).getD 0 d = t := rfl
  rw [e1, e2] at h1
  exact h1
theorem all_stay (C : C3 cbQ) {d t : Ln} {R : List Ln} {q q' : Q} {K : List Q} (h : Lanes cbQ Ln.k Ln.L (t :: R)) (hh : Heap YQ.lt d (t :: R) 0) (ht : t.L = q :: q' :: K) : all (t :: R) = q :: all (t.tl :: R) ∧ Lanes cbQ Ln.k Ln.L (t.tl :: R) := by
  have hl := heap_least C hh
  rw [ht] at hl
  have hm : t.tl.L = q' :: K := by unfold Ln.tl; rw [ht]; rfl
  refine ⟨?_, ?_, ?_, ?_⟩
  · unfold all
    rw [take_one C (q0 := q0) (H1 := t.tl :: R) h ht hl (by rw [exps_cons, hm]; exact List.Perm.refl _)]
    rfl
  · intro x hx
    rcases List.mem_cons.1 hx with rfl | hx
    · have := h.rise t (by simp); rw [ht] at this; rw [hm]; exact (List.pairwise_cons.1 this).2
    · exact h.rise x (by simp [hx])
  · intro x hx
    rcases List.mem_cons.1 hx with rfl | hx
    · rw [hm]; simp
    · exact h.ne x (by simp [hx])
  · have := List.pairwise_cons.1 h.nums
    exact List.pairwise_cons.2 ⟨this.1, this.2⟩
theorem last_perm {α : Type} (d t : α) (R : List α) (n : Nat) (hn : (t :: R).length = n + 1) : (((t :: R).set 0 ((t :: R).getD n d)).take n).Perm R := by
  cases R with
  | nil => simp at hn; subst hn; simp
  | cons y R =>
    have hn' : n = R.length + 1 := by simp at hn; omega
    subst hn'
    rw [List.set_cons_zero, List.take_succ_cons]
    have e1 : (t :: y :: R).getD (R.length + 1) d = (y :: R).getLast (by simp) := by
      rw [List.getLast_eq_getElem]; simp
    have e2 : (y :: R).take R.length = (y :: R).dropLast := by rw [List.dropLast_eq_take]; simp
    rw [e1, e2]
    have h3 := List.dropLast_concat_getLast (l := y :: R) (by simp)
    have h4 : ((y :: R).getLast (by simp) :: (y :: R).dropLast).Perm ((y :: R).dropLast ++ [(y :: R).getLast (by simp)]) := (List.perm_append_singleton _ _).symm
    rw [h3] at h4
    exact h4
theorem all_gone (C : C3 cbQ) {d t : Ln} {R : List Ln} {q : Q} {n : Nat} (h : Lanes cbQ Ln.k Ln.L (t :: R)) (hh : Heap YQ.lt d (t :: R) 0) (ht : t.L = [q]) (hn : (t :: R).length = n + 1) : all (t :: R) = q :: all (((t :: R).set 0 ((t :: R).getD n d)).take n) ∧ Lanes cbQ Ln.k Ln.L (((t :: R).set 0 ((t :: R).getD n d)).take n) := by
  have hl := heap_least C hh
  rw [ht] at hl
  have hp := last_perm d t R n hn
  refine ⟨?_, Lanes.perm ⟨fun x hx => h.rise x (by simp [hx]), fun x hx => h.ne x (by simp [hx]), (List.pairwise_cons.1 h.nums).2⟩ hp.symm⟩
  unfold all
  rw [take_one C (q0 := q0) (K := []) (H1 := ((t :: R).set 0 ((t :: R).getD n d)).take n) h ht hl (exps_perm hp)]
  rfl
def lenOf : Option Value → Nat
  | some (.slice _ n _) => n
  | _ => 0
def meas (hb g : Nat) (w : World) : Nat := ((List.range (lenOf (w.cell? ⟨hb, 0, none⟩))).map (fun i => lenOf (w.cell? ⟨g, i * 2 + 1, none⟩))).sum
theorem meas_eq {base hb g c n : Nat} {H : List Ln} {w : World} (h : RowL YQ base g c n H w) (hx : Hbx w hb (some ⟨g, 0, none⟩) n c) : meas hb g w = (exps Ln.k Ln.L H).length := by
  have hl := rowL_len h
  unfold meas
  rw [two0 hx]
  have e : (List.range n).map (fun i => lenOf (w.cell? ⟨g, i * 2 + 1, none⟩)) = H.map (fun x => x.L.length) := by
    apply List.ext_getElem
    · simp [hl]
    · intro i h1 h2
      simp at h1 h2
      have := (rowL_get ⟨0, 0, 0, 0, []⟩ h (i := i) h2).2
      simp only [List.getElem_map, List.getElem_range]
      rw [this]
      simp [lenOf, h2]
  show ((List.range n).map _).sum = _
  rw [e, exps, List.length_flatMap]
  simp
theorem own_same {w w' : World} {base e size n c g : Nat} {xs : List Value} (h : w.ownsRow base e size (.slice (some ⟨g, 0, none⟩) n c) n xs) (hg : w'.heap[g]? = w.heap[g]?) : w'.ownsRow base e size (.slice (some ⟨g, 0, none⟩) n c) n xs := by
  refine ⟨h.1, ?_⟩
  rcases h.2 with hn | ⟨g', cap, cur, e1, hb, hgg, rest⟩
  · exact .inl hn
  · refine .inr ⟨g', cap, cur, e1, hb, ?_, rest⟩
    have : g' = g := by injection e1 with e2; injection e2 with e3; injection e3 with e4; exact e4.symm
    subst this
    rw [hg]; exact hgg
theorem own_first {w : World} {base e size n c g k : Nat} {xs : List Value} (h : w.ownsRow base e size (.slice (some ⟨g, 0, none⟩) n c) n xs) (hk : k ≤ n) : w.ownsRow base e size (.slice (some ⟨g, 0, none⟩) k c) k (xs.take (k * size)) := by
  have hl := h.1
  have hm : k * size ≤ n * size := Nat.mul_le_mul_right _ hk
  refine ⟨by rw [List.length_take]; omega, ?_⟩
  rcases h.2 with ⟨h1, h2⟩ | ⟨g', cap, cur, h1, h2, h3, h4, h5, h6, h7⟩
  · simp at h1
  · simp only [Value.slice.injEq] at h1
    obtain ⟨e1, _, rfl⟩ := h1
    refine .inr ⟨g', c, cur, by rw [e1], h2, h3, by omega, h5, h6, ?_⟩
    rw [← h7, List.take_take, Nat.min_eq_left (by omega)]
end Go.Proofs.YtjhdmghpklagkaaGreat.Hpl
