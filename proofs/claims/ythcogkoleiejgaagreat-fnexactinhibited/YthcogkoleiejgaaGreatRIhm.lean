/- The program's inhibits, by what labels are to them: keys of labels, sides, areInhibited. -/
import Derived.Test.YthcogkoleiejgaaGreatRIhd
import Derived.Test.YthcogkoleiejgaaGreatRIhk
import Derived.Test.YthcogkoleiejgaaGreatRBld
import Derived.Shelf.Strings.BuilderK
import Derived.OrdersHeld
namespace Go.Proofs.YthcogkoleiejgaaGreat.Lab
open Go.RowKit Go.Proofs.YthcogkoleiejgaaGreat.Str

theorem own_lenK {w : World} {base n c : Nat} {a : Option Addr} {ls : List Lb} (h : w.ownsRow base 53 2 (.slice a n c) n (flat ls)) : ls.length = n := by
  have := h.1; rw [flat_len] at this; omega
theorem has_ownK {w : World} {base n c : Nat} {a : Option Addr} {ls : List Lb} (h : w.ownsRow base 53 2 (.slice a n c) n (flat ls)) : HasL w a ls := by
  have hl := own_lenK h
  rcases h.2 with ⟨_, h2⟩ | ⟨g, cap, cur, h1, _⟩
  · exact .inl (List.eq_nil_of_length_eq_zero (by omega))
  · simp only [Value.slice.injEq] at h1
    rw [h1.1] at h ⊢
    exact HasL.own h
theorem bcK (l m : List UInt8) : Lib.byteCells l ++ Lib.byteCells m = Lib.byteCells (l ++ m) := by simp [Lib.byteCells]
theorem scK (s : ByteArray) : Lib.strCells s = Lib.byteCells s.data.toList := by simp [Lib.byteCells, Lib.strCells]
theorem b0K : [Value.int .u8 0] = Lib.byteCells [0] := by simp [Lib.byteCells]
theorem blK (l : List UInt8) : (Lib.byteCells l).length = l.length := by simp [Lib.byteCells]
/-- The builder at block B holds these bytes. -/
abbrev KB (B : Nat) (l : List UInt8) (w : World) : Prop := Lib.IsBuilderF 96 5 B B (Lib.byteCells l) w
theorem KB.lt {B : Nat} {l : List UInt8} {w : World} (h : KB B l w) : B < w.heap.size := by rcases h with h | h <;> exact h.lt
theorem keptK {x y : World} {B b : Nat} {c : Array Value} {t : TypeId} (h : x.heap[b]? = some (.cells c t)) (hb : b ≠ B) (ht : t ≠ 5) (ho : Lib.OthersKept 5 (some B) x y) : y.heap[b]? = some (.cells c t) :=
  ho b _ h (by simpa using hb) (fun c' fz e => by simp only [Obj.cells.injEq] at e; exact ht e.2.1)

set_option maxHeartbeats 4000000 in
theorem f64 (a : Option Addr) (n c : Nat) (ls : List Lb) (w : World) (hn : ls.length = n) (h20 : n ≤ 20) (hs : Shrt ls) (hr : HasL w a ls) :
    Calls Tryz.prog 64 #[.slice a n c] w fun e w' => e = .returned (.string (mkK (keyL ls))) ∧ Below w.heap.size w w' := by
  have HN := hid hn
  have HS := hid hs
  have HR := hid hr
  have HLn := hid (keyL_len hs)
  clear hn hs hr
  go_enter Tryz.func64, Tryz.ntmps64
  go_wp2
  go_loopw [8] (fun si wr => ∃ k : Nat, k ≤ n ∧ si = .int .i64 k ∧ Hid (KB w.heap.size (keyL (ls.take k)) wr) ∧ Hid (Below w.heap.size w wr)) (fun si _ => n - (intOf si).toNat)
  case atStart => exact ⟨0, Nat.zero_le _, rfl, by unfold Hid KB; simpa [keyL, Lib.byteCells] using Lib.IsBuilderF.of (Lib.fresh_isBuilder 96 5 w), (Below.refl _ _).alloc (Nat.le_refl _) _⟩
  case round =>
    obtain ⟨k, hk, rfl, HI, HX⟩ := hrel
    by_cases hlt : k < n
    · have hkl : k < ls.length := by rw [HN.out]; exact hlt
      rcases HR.out.below HX.out with h0 | ⟨b, off, rfl, hbl, hc⟩
      · exact absurd HN.out (by rw [h0]; simp; omega)
      obtain ⟨d0, d1⟩ := hc k hkl
      have HSU := hid (keyL_succ hkl)
      have hl1 := HLn.out k (by omega)
      have hl2 := HS.out k hkl
      generalize hK : keyL (ls.take k) = K at *
      have i1 : (k : Int) < (n : Int) := by omega
      clear hc hK hkl hbl
      generalize ls.getD k e0 = p at *
      obtain ⟨s, t⟩ := p
      simp only at d0 d1 hl2
      have HB0 := hid (HX.out.alloc HX.out.size (.cells #[.string s, .string t] 53))
      have HQ0 := hid (heap_alloc_new wr (.cells #[.string s, .string t] 53))
      have HI0 := hid (Lib.IsBuilderF.alloc HI.out (.cells #[.string s, .string t] 53))
      obtain ⟨W0, hW⟩ : ∃ W, W = wr.alloc (.cells #[.string s, .string t] 53) := ⟨_, rfl⟩
      rw [← hW] at HB0 HQ0 HI0
      have HW := hid hW
      have hwb : w.heap.size < wr.heap.size := HI.out.lt
      clear hW
      go_upto_region 5 with fail
      rw [← HW.out]
      clear HW d0 d1 HX HI
      generalize hBq : wr.heap.size = Bq at *
      clear hBq
      have hne : Bq ≠ w.heap.size := by omega
      have q0 := two0 HQ0.out
      have q1 := two1 HQ0.out
      have hsz0 := HB0.out.size
      go_wp2_with fail
      refine (Any.Builder_WriteString_k Tryz.lays166 Tryz.Builder_Extra_166 w.heap.size w.heap.size _ s _ HI0.out (by rw [blK]; omega) hsz0).mono ?_
      rintro e w1 ⟨rfl, h1, hb1, ho1⟩
      have HI1 : Hid (KB w.heap.size (K ++ s.data.toList) w1) := by unfold Hid KB; rw [← bcK, ← scK]; exact .inr h1
      have HB1 := hid (HB0.out.trans hb1)
      have HQ1 := hid (keptK HQ0.out hne (by decide) ho1)
      clear h1 hb1 ho1 HI0 HB0 HQ0 q0 q1 hsz0
      have hsz1 := HB1.out.size
      go_wp2_with fail
      refine (Any.Builder_WriteByte_k Tryz.lays167 Tryz.Builder_Extra_167 w.heap.size w.heap.size _ 0 _ HI1.out (by rw [blK, List.length_append]; simp; omega) hsz1).mono ?_
      rintro e w2 ⟨rfl, h2, hb2, ho2⟩
      have HI2 : Hid (KB w.heap.size (K ++ s.data.toList ++ [0]) w2) := by unfold Hid KB; rw [← bcK, ← b0K]; exact .inr h2
      have HB2 := hid (HB1.out.trans hb2)
      have HQ2 := hid (keptK HQ1.out hne (by decide) ho2)
      clear h2 hb2 ho2 HI1 HB1 HQ1 hsz1
      have q0 := two0 HQ2.out
      have q1 := two1 HQ2.out
      have hsz2 := HB2.out.size
      go_wp2_with fail
      refine (Any.Builder_WriteString_k Tryz.lays166 Tryz.Builder_Extra_166 w.heap.size w.heap.size _ t _ HI2.out (by rw [blK, List.length_append, List.length_append]; simp; omega) hsz2).mono ?_
      rintro e w3 ⟨rfl, h3, hb3, ho3⟩
      have HI3 : Hid (KB w.heap.size (K ++ s.data.toList ++ [0] ++ t.data.toList) w3) := by unfold Hid KB; rw [← bcK, ← scK]; exact .inr h3
      have HB3 := hid (HB2.out.trans hb3)
      clear h3 hb3 ho3 HI2 HB2 HQ2 q0 q1 hsz2
      have hsz3 := HB3.out.size
      go_wp2_with fail
      refine (Any.Builder_WriteByte_k Tryz.lays167 Tryz.Builder_Extra_167 w.heap.size w.heap.size _ 0 _ HI3.out (by rw [blK, List.length_append, List.length_append, List.length_append]; simp; omega) hsz3).mono ?_
      rintro e w4 ⟨rfl, h4, hb4, ho4⟩
      have HI4 : Hid (KB w.heap.size (keyL (ls.take (k + 1))) w4) := by
        unfold Hid KB
        rw [HSU.out, show K ++ keyT (s, t) = K ++ s.data.toList ++ [0] ++ t.data.toList ++ [0] by simp [keyT], ← bcK, ← b0K]
        exact .inr h4
      have HB4 := hid (HB3.out.trans hb4)
      clear h4 hb4 ho4 HI3 HB3 hsz3
      go_wp2
      go_roundw
      case rel => exact ⟨k + 1, by omega, by go_num, HI4, HB4⟩
      case measure => simp [intOf]; omega
    · have hk2 : k = n := by omega
      subst hk2
      have HE : Hid (keyL (ls.take k) = keyL ls) := by unfold Hid; rw [List.take_of_length_le (by rw [HN.out]; exact Nat.le_refl _)]
      have i1 : ¬ (k : Int) < (k : Int) := by omega
      generalize keyL (ls.take k) = out at *
      go_wp2_with fail
      refine (Any.Builder_String_any_k Tryz.lays169 Tryz.Builder_Extra_169 w.heap.size w.heap.size out _ HI.out HX.out.size).mono ?_
      rintro e w5 ⟨rfl, _, hb5, _⟩
      go_wp2
      go_ret
      exact ⟨by have h := HE.out; subst h; rfl, HX.out.trans hb5⟩
end Go.Proofs.YthcogkoleiejgaaGreat.Lab
namespace Go.Proofs.YthcogkoleiejgaaGreat.Inh
open Go.RowKit
open Go.Proofs.YthcogkoleiejgaaGreat.Pat (Mt HasM FitM goodM allM)
open Go.Proofs.YthcogkoleiejgaaGreat.Lab (Lb HasL goodL GoodP OfV keyL selL mkK)
open Go.Proofs.YthcogkoleiejgaaGreat.Rwc

/-- What labels are to an inhibit: whether its Source and its Target fit, and what they say under its names. -/
abbrev sdA (b1 b2 : Bool) (K : List UInt8) : Array Value := #[.bool b1, .bool b2, .string (mkK K)]
noncomputable abbrev sidA (q : T) (l : List Lb) : Array Value := sdA (fit q.ms l) (fit q.rs l) (keyL (selL q.es true l))
/-- The call's own two boxes. -/
structure Sd (w : World) (q : T) (x : World) : Prop where
  arg : x.heap[w.heap.size]? = some (BX q)
  res : x.heap[w.heap.size + 1]? = some (.cells #[.bool false, .bool false, .string ⟨#[]⟩] 72)
  bel : Below w.heap.size w x
theorem Sd.mv {w : World} {q : T} {x y : World} (h : Sd w q x) (hb : Below x.heap.size x y) : Sd w q y := ⟨kept h.arg hb, kept h.res hb, h.bel.trans (hb.mono h.bel.size)⟩
theorem Sd.drew {w : World} {q : T} {x : World} (h : Sd w q x) : Sd w q x.drew := h.mv (Below.refl _ _).drew
abbrev SP (w : World) (q : T) (x : World) : Prop := x.cell? ⟨w.heap.size, 0, none⟩ = some (.slice q.ma q.ms.length q.mc) ∧ x.cell? ⟨w.heap.size, 1, none⟩ = some (.slice q.ra q.rs.length q.rc) ∧ x.cell? ⟨w.heap.size, 2, none⟩ = some (.slice q.ea q.es.length q.ec)
theorem Sd.sp {w : World} {q : T} {x : World} (h : Sd w q x) : SP w q x := cellsN h.arg
theorem cells3 {x : World} {b : Nat} {v0 v1 v2 : Value} {t : TypeId} (h : x.heap[b]? = some (.cells #[v0, v1, v2] t)) : x.cell? ⟨b, 0, none⟩ = some v0 ∧ x.cell? ⟨b, 1, none⟩ = some v1 ∧ x.cell? ⟨b, 2, none⟩ = some v2 := ⟨cell_at h 0, cell_at h 1, cell_at h 2⟩
theorem froz3 {x : World} {b : Nat} {v0 v1 v2 : Value} {t : TypeId} (h : x.heap[b]? = some (.cells #[v0, v1, v2] t)) : x.frozen? ⟨b, 0, none⟩ = false ∧ x.frozen? ⟨b, 1, none⟩ = false ∧ x.frozen? ⟨b, 2, none⟩ = false := ⟨froz_at h 0, froz_at h 1, froz_at h 2⟩
theorem set3 {x : World} {b : Nat} {v0 v1 v2 u0 u1 u2 : Value} {t : TypeId} (h : x.heap[b]? = some (.cells #[v0, v1, v2] t)) : (((x.setCell ⟨b, 0, none⟩ u0).setCell ⟨b, 1, none⟩ u1).setCell ⟨b, 2, none⟩ u2).heap[b]? = some (.cells #[u0, u1, u2] t) := by
  have h1 : (x.setCell ⟨b, 0, none⟩ u0).heap[b]? = some (.cells #[u0, v1, v2] t) := set_at h
  have h2 : ((x.setCell ⟨b, 0, none⟩ u0).setCell ⟨b, 1, none⟩ u1).heap[b]? = some (.cells #[u0, u1, v2] t) := set_at h1
  exact set_at h2
theorem below3 {w x : World} {b : Nat} {u0 u1 u2 : Value} (h : Below w.heap.size w x) (hb : w.heap.size ≤ b) : Below w.heap.size w (((x.setCell ⟨b, 0, none⟩ u0).setCell ⟨b, 1, none⟩ u1).setCell ⟨b, 2, none⟩ u2) := ((h.setCell hb _).setCell hb _).setCell hb _

set_option maxHeartbeats 8000000 in
theorem f44 (q : T) (la : Option Addr) (nl lc : Nat) (l : List Lb) (w : World) (hnl : l.length = nl) (hq : okX q = true) (hL : Lst w q) (gl : goodL l = true) (rl : HasL w la l) (he : q.es.length ≤ 1048576) :
    Calls Tryz.prog 44 #[agT q, .slice la nl lc] w fun e w' => e = .returned (.agg (sidA q l)) ∧ Below w.heap.size w w' := by
  have HL := hid hL
  have RL := hid rl
  have h20 : nl ≤ 20 := by have := (Lab.good_iff gl).1; omega
  obtain ⟨g1, g2⟩ := okX_parts hq
  obtain ⟨s1, s2, s3⟩ := Lab.sel_good (es := q.es) (Lab.good_iff gl)
  have hJ0 : Sd w q ((w.alloc (BX q)).alloc (.cells #[.bool false, .bool false, .string ⟨#[]⟩] 72)) := by
    have b1 := (Below.refl (w.alloc (BX q)).heap.size (w.alloc (BX q))).alloc (Nat.le_refl _) (.cells #[.bool false, .bool false, .string ⟨#[]⟩] 72)
    refine ⟨kept (heap_alloc_new w _) b1, ?_, ((Below.refl _ _).alloc (Nat.le_refl _) _).alloc (by simp) _⟩
    have := heap_alloc_new (w.alloc (BX q)) (.cells #[.bool false, .bool false, .string ⟨#[]⟩] 72)
    simpa using this
  have HC1 := fun x a b => hid (Pat.f63 q.ma la q.ms.length q.mc nl lc q.ms l (vl l) x rfl hnl g1 gl a b (vl_of l))
  have HC2 := fun x a b => hid (Pat.f63 q.ra la q.rs.length q.rc nl lc q.rs l (vl l) x rfl hnl g2 gl a b (vl_of l))
  have HC3 := fun x a b => hid (Lab.f65 la q.ea nl lc q.es.length q.ec true l q.es x hnl h20 a rfl he b)
  have HC4 := fun a m c x h1 h2 => hid (Lab.f64 a m c (selL q.es true l) x h1 (by omega) s3 h2)
  have HO : Hid (sidA q l = sdA (allM q.ms (vl l)) (allM q.rs (vl l)) (keyL (selL q.es true l))) := rfl
  generalize hA : (w.alloc (BX q)).alloc (.cells #[.bool false, .bool false, .string ⟨#[]⟩] 72) = W0 at hJ0
  have HW := hid hA
  clear hA g1 g2 hq hL rl gl hnl he s1
  generalize allM q.ms (vl l) = b1 at *
  generalize allM q.rs (vl l) = b2 at *
  generalize keyL (selL q.es true l) = K at *
  simp only [agT]
  go_enter Tryz.func44, Tryz.ntmps44
  go_upto_region 1 with fail
  rw [HW.out]
  clear HW
  have hJd := hJ0.drew
  refine wp_region_held_drew (S := fun x => SP w q x) rfl hJd.sp (fun hHeld => ?_)
  refine wpAnyH_take (i := 0) (oi := { dst := some 5, op := _, type := _, pos := _, after := _, guard := _ }) (v := .pointer (some ⟨w.heap.size, 0, none⟩)) rfl (by kernel_rfl) (by kernel_rfl) (by kernel_rfl) (fun _ _ _ h => h) (Or.inl ⟨by rfl, fun w hSw => by (try dsimp only at hSw); (try go_split_ands); go_simp⟩) (by first | trivial | assumption) ?_
  try simp only [Act.put, List.setIfInBounds_toArray, List.set_cons_zero, List.set_cons_succ]
  refine wpAnyH_take (i := 1) (oi := { dst := some 6, op := _, type := _, pos := _, after := _, guard := _ }) (v := .slice q.ma q.ms.length q.mc) rfl (by kernel_rfl) (by kernel_rfl) (by kernel_rfl) (fun _ _ _ h => h) (Or.inl ⟨by rfl, fun w hSw => by (try dsimp only at hSw); (try go_split_ands); go_simp⟩) (by first | trivial | assumption) ?_
  try simp only [Act.put, List.setIfInBounds_toArray, List.set_cons_zero, List.set_cons_succ]
  refine wpAnyH_take (i := 2) (oi := { dst := some 7, op := _, type := _, pos := _, after := _, guard := _ }) (v := .slice la nl lc) rfl (by kernel_rfl) (by kernel_rfl) (by kernel_rfl) (fun _ _ _ h => h) (Or.inl ⟨by rfl, fun w hSw => by (try dsimp only at hSw); (try go_split_ands); go_simp⟩) (by first | trivial | assumption) ?_
  try simp only [Act.put, List.setIfInBounds_toArray, List.set_cons_zero, List.set_cons_succ]
  refine wpAnyH_take (i := 4) (oi := { dst := some 9, op := _, type := _, pos := _, after := _, guard := _ }) (v := .pointer (some ⟨w.heap.size, 1, none⟩)) rfl (by kernel_rfl) (by kernel_rfl) (by kernel_rfl) (fun _ _ _ h => h) (Or.inl ⟨by rfl, fun w hSw => by (try dsimp only at hSw); (try go_split_ands); go_simp⟩) (by first | trivial | assumption) ?_
  try simp only [Act.put, List.setIfInBounds_toArray, List.set_cons_zero, List.set_cons_succ]
  refine wpAnyH_take (i := 5) (oi := { dst := some 10, op := _, type := _, pos := _, after := _, guard := _ }) (v := .slice q.ra q.rs.length q.rc) rfl (by kernel_rfl) (by kernel_rfl) (by kernel_rfl) (fun _ _ _ h => h) (Or.inl ⟨by rfl, fun w hSw => by (try dsimp only at hSw); (try go_split_ands); go_simp⟩) (by first | trivial | assumption) ?_
  try simp only [Act.put, List.setIfInBounds_toArray, List.set_cons_zero, List.set_cons_succ]
  refine wpAnyH_take (i := 6) (oi := { dst := some 11, op := _, type := _, pos := _, after := _, guard := _ }) (v := .slice la nl lc) rfl (by kernel_rfl) (by kernel_rfl) (by kernel_rfl) (fun _ _ _ h => h) (Or.inl ⟨by rfl, fun w hSw => by (try dsimp only at hSw); (try go_split_ands); go_simp⟩) (by first | trivial | assumption) ?_
  try simp only [Act.put, List.setIfInBounds_toArray, List.set_cons_zero, List.set_cons_succ]
  refine wpAnyH_take (i := 8) (oi := { dst := some 13, op := _, type := _, pos := _, after := _, guard := _ }) (v := .slice la nl lc) rfl (by kernel_rfl) (by kernel_rfl) (by kernel_rfl) (fun _ _ _ h => h) (Or.inl ⟨by rfl, fun w hSw => by (try dsimp only at hSw); (try go_split_ands); go_simp⟩) (by first | trivial | assumption) ?_
  try simp only [Act.put, List.setIfInBounds_toArray, List.set_cons_zero, List.set_cons_succ]
  refine wpAnyH_take (i := 9) (oi := { dst := some 14, op := _, type := _, pos := _, after := _, guard := _ }) (v := .pointer (some ⟨w.heap.size, 2, none⟩)) rfl (by kernel_rfl) (by kernel_rfl) (by kernel_rfl) (fun _ _ _ h => h) (Or.inl ⟨by rfl, fun w hSw => by (try dsimp only at hSw); (try go_split_ands); go_simp⟩) (by first | trivial | assumption) ?_
  try simp only [Act.put, List.setIfInBounds_toArray, List.set_cons_zero, List.set_cons_succ]
  refine wpAnyH_take (i := 10) (oi := { dst := some 15, op := _, type := _, pos := _, after := _, guard := _ }) (v := .slice q.ea q.es.length q.ec) rfl (by kernel_rfl) (by kernel_rfl) (by kernel_rfl) (fun _ _ _ h => h) (Or.inl ⟨by rfl, fun w hSw => by (try dsimp only at hSw); (try go_split_ands); go_simp⟩) (by first | trivial | assumption) ?_
  try simp only [Act.put, List.setIfInBounds_toArray, List.set_cons_zero, List.set_cons_succ]
  refine wpAnyH_ready (rs := [3]) (by kernel_rfl) (by simp) (AllReadyH.cons (o := { dst := some 8, op := _, type := _, pos := _, after := _, guard := _ }) rfl ?_ AllReadyH.nil)
  intro K1 hK1
  go_simp
  go_wp2_with (go_at_call 63; refine (HC1 _ (HL.out.m.below hJd.bel) (RL.out.below hJd.bel)).out.mono ?_; rintro e v1 ⟨rfl, hb⟩)
  have hJ1 := hJd.mv hb
  clear hb
  refine hK1.out _ _ hJ1.sp (fun _ => ?_)
  clear hK1 K1
  try simp only [Act.put, List.setIfInBounds_toArray, List.set_cons_zero, List.set_cons_succ]
  refine wpAnyH_ready (rs := [7]) (by kernel_rfl) (by simp) (AllReadyH.cons (o := { dst := some 12, op := _, type := _, pos := _, after := _, guard := _ }) rfl ?_ AllReadyH.nil)
  intro K2 hK2
  go_simp
  go_wp2_with (go_at_call 63; refine (HC2 _ (HL.out.r.below hJ1.bel) (RL.out.below hJ1.bel)).out.mono ?_; rintro e v2 ⟨rfl, hb⟩)
  have hJ2 := hJ1.mv hb
  clear hb
  refine hK2.out _ _ hJ2.sp (fun _ => ?_)
  clear hK2 K2
  try simp only [Act.put, List.setIfInBounds_toArray, List.set_cons_zero, List.set_cons_succ]
  refine wpAnyH_ready (rs := [11]) (by kernel_rfl) (by simp) (AllReadyH.cons (o := { dst := some 16, op := _, type := _, pos := _, after := _, guard := _ }) rfl ?_ AllReadyH.nil)
  intro K3 hK3
  go_simp
  go_wp2_with (go_at_call 65; refine (HC3 _ (RL.out.below hJ2.bel) (HL.out.e.below hJ2.bel)).out.mono ?_; rintro e v3 ⟨a', m, c', rfl, ho, hb⟩)
  have hJ3 := hJ2.mv hb
  have ho1 := Lab.own_lenK ho
  have ho2 := Lab.has_ownK ho
  clear hb ho
  refine hK3.out _ _ hJ3.sp (fun _ => ?_)
  clear hK3 K3
  try simp only [Act.put, List.setIfInBounds_toArray, List.set_cons_zero, List.set_cons_succ]
  refine wpAnyH_ready (rs := [12]) (by kernel_rfl) (by simp) (AllReadyH.cons (o := { dst := some 17, op := _, type := _, pos := _, after := _, guard := _ }) rfl ?_ AllReadyH.nil)
  intro K4 hK4
  go_simp
  go_wp2_with (go_at_call 64; refine (HC4 a' m c' _ ho1 ho2).out.mono ?_; rintro e v4 ⟨rfl, hb⟩)
  have hJ4 := hJ3.mv hb
  clear hb
  refine hK4.out _ _ hJ4.sp (fun _ => ?_)
  clear hK4 K4
  try simp only [Act.put, List.setIfInBounds_toArray, List.set_cons_zero, List.set_cons_succ]
  refine wpAnyH_take (i := 13) (oi := { dst := some 18, op := _, type := _, pos := _, after := _, guard := _ }) (v := .agg #[.bool b1, .bool b2, .string (mkK K)]) rfl (by kernel_rfl) (by kernel_rfl) (by kernel_rfl) (fun _ _ _ h => h) (Or.inl ⟨by rfl, fun w hSw => by (try dsimp only at hSw); (try go_split_ands); go_simp⟩) (by first | trivial | assumption) ?_
  try simp only [Act.put, List.setIfInBounds_toArray, List.set_cons_zero, List.set_cons_succ]
  obtain ⟨z0, z1, z2⟩ := cells3 hJ4.res
  obtain ⟨f0, f1, f2⟩ := froz3 hJ4.res
  obtain ⟨V, hV⟩ : ∃ V, V = (((v4.setCell ⟨w.heap.size + 1, 0, none⟩ (.bool b1)).setCell ⟨w.heap.size + 1, 1, none⟩ (.bool b2)).setCell ⟨w.heap.size + 1, 2, none⟩ (.string (mkK K))) := ⟨_, rfl⟩
  have HV := hid hV
  have hV1 : V.heap[w.heap.size]? = some (BX q) := by rw [hV]; exact set_else (set_else (set_else hJ4.arg (by simp)) (by simp)) (by simp)
  have hV2 := set3 (u0 := .bool b1) (u1 := .bool b2) (u2 := .string (mkK K)) hJ4.res
  have hV3 := below3 (u0 := .bool b1) (u1 := .bool b2) (u2 := .string (mkK K)) hJ4.bel (show w.heap.size ≤ w.heap.size + 1 by omega)
  rw [← hV] at hV2 hV3
  clear hV hJ0 hJd hJ1 hJ2 hJ3
  refine wpAnyH_ready (rs := [14]) (by kernel_rfl) (by simp) (AllReadyH.cons (o := { dst := none, op := _, type := _, pos := _, after := _, guard := _ }) rfl ?_ AllReadyH.nil)
  intro K5 hK5
  go_simp
  rw [← HV.out]
  refine hK5.out _ _ (cellsN hV1) (fun _ => ?_)
  clear hK5 K5 HV
  try simp only [Act.put, List.setIfInBounds_toArray, List.set_cons_zero, List.set_cons_succ]
  refine wpAnyH_done (by kernel_rfl) ?_ _
  obtain ⟨y0, y1, y2⟩ := cells3 hV2
  go_wp2
  refine bodyPost_ret (v := .agg #[.bool b1, .bool b2, .string (mkK K)]) (by simp [results, Tryz.results44, go_sem, y0, y1, y2]) rfl ⟨?_, hV3⟩
  rw [HO.out]

/-- Whether what fires keeps others from being told, by their sides. -/
def bites (s1 s2 o1 o2 : Bool) (K M : List UInt8) : Bool := s1 && o2 && decide (K = M) && !(s2 && o1)
abbrev BS (a b : Bool) (K : List UInt8) : Obj := .cells (sdA a b K) 72
theorem mk_inj {a b : List UInt8} : (mkK a = mkK b) ↔ a = b := by
  constructor
  · intro h
    have := congrArg (fun x => x.data.toList) h
    simpa [mkK] using this
  · rintro rfl; rfl
abbrev BT (a b : Bool) (s : ByteArray) : Obj := .cells #[.bool a, .bool b, .string s] 72
set_option maxHeartbeats 4000000 in
theorem f45g (s1 s2 o1 o2 : Bool) (s t : ByteArray) (w : World) :
    Calls Tryz.prog 45 #[.agg #[.bool s1, .bool s2, .string s], .agg #[.bool o1, .bool o2, .string t]] w fun e w' => e = .returned (.bool (s1 && o2 && decide (s = t) && !(s2 && o1))) ∧ Below w.heap.size w w' := by
  have HB := hid (((Below.refl w.heap.size w).alloc (Nat.le_refl _) (BT s1 s2 s)).alloc (by simp) (BT o1 o2 t))
  have HA : Hid (((w.alloc (BT s1 s2 s)).alloc (BT o1 o2 t)).heap[w.heap.size]? = some (BT s1 s2 s)) := kept (heap_alloc_new w _) ((Below.refl _ _).alloc (Nat.le_refl _) _)
  have HC : Hid (((w.alloc (BT s1 s2 s)).alloc (BT o1 o2 t)).heap[w.heap.size + 1]? = some (BT o1 o2 t)) := by
    have := heap_alloc_new (w.alloc (BT s1 s2 s)) (BT o1 o2 t)
    unfold Hid
    simpa using this
  obtain ⟨W0, hW⟩ : ∃ W, W = (w.alloc (BT s1 s2 s)).alloc (BT o1 o2 t) := ⟨_, rfl⟩
  rw [← hW] at HA HC HB
  have HW := hid hW
  clear hW
  go_enter Tryz.func45, Tryz.ntmps45
  go_upto_region 1 with fail
  rw [← HW.out]
  clear HW
  obtain ⟨x0, x1, x2⟩ := cells3 HA.out
  obtain ⟨y0, y1, y2⟩ := cells3 HC.out
  by_cases hk : s = t
  · have HK : Hid ((s1 && o2 && decide (s = t) && !(s2 && o1)) = (s1 && o2 && !(s2 && o1))) := by unfold Hid; rw [decide_eq_true hk, Bool.and_true]
    have hq := Lab.str_eq hk
    clear hk
    cases s1 <;> cases o2 <;> cases s2 <;> cases o1 <;> (go_wp2; go_ret; exact ⟨by rw [HK.out]; rfl, HB.out⟩)
  · have HK : Hid ((s1 && o2 && decide (s = t) && !(s2 && o1)) = false) := by unfold Hid; rw [decide_eq_false hk]; simp
    have hq := Lab.str_ne hk
    clear hk
    cases s1 <;> cases o2 <;> cases s2 <;> cases o1 <;> (go_wp2; go_ret; exact ⟨by rw [HK.out]; rfl, HB.out⟩)
theorem f45 (s1 s2 o1 o2 : Bool) (K M : List UInt8) (w : World) :
    Calls Tryz.prog 45 #[.agg (sdA s1 s2 K), .agg (sdA o1 o2 M)] w fun e w' => e = .returned (.bool (bites s1 s2 o1 o2 K M)) ∧ Below w.heap.size w w' := by
  refine (f45g s1 s2 o1 o2 (mkK K) (mkK M) w).mono ?_
  rintro e w' ⟨rfl, hb⟩
  refine ⟨?_, hb⟩
  unfold bites
  rw [decide_eq_decide.2 (mk_inj (a := K) (b := M))]
/-- By sides it is what was asked of the labels. -/
theorem hit_sides {q : T} {f l : List Lb} (hf : goodL f = true) (hl : goodL l = true) : bites (fit q.ms f) (fit q.rs f) (fit q.ms l) true (keyL (selL q.es true f)) (keyL (selL q.es true l)) = hit q f l := by
  unfold bites hit
  have e : decide (keyL (selL q.es true f) = keyL (selL q.es true l)) = says f l q.es := by
    unfold says
    by_cases h : SayP f l q.es q.es.length
    · rw [@decide_eq_true _ (_) h, decide_eq_true ((Lab.key_iff (Lab.good_iff hf) (Lab.good_iff hl) (vl_of f) (vl_of l)).2 h)]
    · rw [@decide_eq_false _ (_) h, decide_eq_false fun g => h ((Lab.key_iff (Lab.good_iff hf) (Lab.good_iff hl) (vl_of f) (vl_of l)).1 g)]
  rw [e]
  cases fit q.ms f <;> cases says f l q.es <;> cases fit q.rs f <;> cases fit q.ms l <;> rfl
end Go.Proofs.YthcogkoleiejgaaGreat.Inh
