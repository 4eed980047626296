/- The drawer of bits, a number and how many: what it draws. -/
import Derived.Test.YtdcnnlnhopjjfaaCur4
import Derived.Deep.CutRange
namespace Go.Proofs.Ytdcnnlnhopjjfaa.Cur
open Go.RowKit Go.Proofs.Ytdcnnlnhopjjfaa.Byt Go.Proofs.Ytdcnnlnhopjjfaa.Bts

theorem own_base {w : World} {B B' n : Nat} {v : Value} {xs : List Value} (h : w.ownsRow B 5 1 v n xs) (hb : B' ≤ B) : w.ownsRow B' 5 1 v n xs := by
  refine ⟨h.1, ?_⟩
  rcases h.2 with h0 | ⟨g, cap, cur, h1, h2, h3⟩
  · exact .inl h0
  · exact .inr ⟨g, cap, cur, h1, Nat.le_trans hb h2, h3⟩
theorem grown_below {w0 w w' : World} {B R : Nat} (h : Below B w0 w) (hg : w.grownBy w' (some R)) (hB : B ≤ w.heap.size) (hR : B ≤ R) : Below B w0 w' :=
  h.grown hg hB (by intro k hk; cases hk; exact hR)

/-- The cursor, the drawn bits at P, the answer's box still empty. -/
structure St (w : World) (ca : Option Addr) (cn cc lim P : Nat) (a5 : Option Addr) (n5 c5 : Nat) (s5 : Int) (zs : List Int) (w5 : World) : Prop where
  cu : Cu w.heap.size (w.heap.size + 1) ca cn cc lim w5
  p : w5.heap[P]? = some (.cells #[.slice a5 n5 c5, .int .i64 s5] 24 (0, 0))
  z : w5.heap[w.heap.size]? = some (.cells #[.slice none 0 0, .int .i64 0] 24 (0, 0))
  own : w5.ownsRow w.heap.size 5 1 (.slice a5 n5 c5) n5 (zs.map (Value.int .u8))
  below : Below w.heap.size w w5
  far : w.heap.size + 1 < P

section
variable {w w5 w6 : World} {ca a5 : Option Addr} {cn cc lim lim' P n5 c5 : Nat} {s5 : Int} {zs : List Int}
theorem St.grew (h : St w ca cn cc lim P a5 n5 c5 s5 zs w5) (hg : w5.grownBy w6 (some (w.heap.size + 1))) (hc : Cu w.heap.size (w.heap.size + 1) ca cn cc lim' w6) : St w ca cn cc lim' P a5 n5 c5 s5 zs w6 := by
  have hlt := h.cu.lt
  have hf := h.far
  refine ⟨hc, (hg.block _ (lt_of_block h.p) (by simp; omega)).trans h.p, (hg.block _ (by omega) (by simp)).trans h.z, h.own.kept hg (.inr ?_), grown_below h.below hg (by omega) (by omega), h.far⟩
  obtain ⟨t, seed, _, _, _, hb⟩ := h.cu.box
  exact own_ne' h.own hb (by decide)
theorem St.drew (h : St w ca cn cc lim P a5 n5 c5 s5 zs w5) : St w ca cn cc lim P a5 n5 c5 s5 zs w5.drew := ⟨h.cu.drew, h.p, h.z, h.own, h.below.drew, h.far⟩
theorem St.alloc (h : St w ca cn cc lim P a5 n5 c5 s5 zs w5) (o : Obj) : St w ca cn cc lim P a5 n5 c5 s5 zs (w5.alloc o) := by
  have hlt := h.cu.lt
  exact ⟨h.cu.alloc o, (Below.heap_alloc _ _ _ (lt_of_block h.p)).trans h.p, (Below.heap_alloc _ _ _ (by omega)).trans h.z, h.own.alloc o, h.below.alloc (by omega) o, h.far⟩

theorem St.done (h : St w ca cn cc lim P a5 n5 c5 s5 zs w5) (u v : Value) :
    ((w5.setCell ⟨w.heap.size, 0, none⟩ u).setCell ⟨w.heap.size, 1, none⟩ v).ownsRow w.heap.size 5 1 (.slice a5 n5 c5) n5 (zs.map (Value.int .u8)) ∧ Below w.heap.size w ((w5.setCell ⟨w.heap.size, 0, none⟩ u).setCell ⟨w.heap.size, 1, none⟩ v) :=
  ⟨ownsRow_setCell_other (ownsRow_setCell_other h.own (own_ne' h.own h.z (by decide)) _) (own_ne' h.own h.z (by decide)) _, (h.below.setCell (by simp) _).setCell (by simp) _⟩
theorem St.doneA (h : St w ca cn cc lim P a5 n5 c5 s5 zs w5) (u v : Value) (o : Obj) :
    (((w5.setCell ⟨w.heap.size, 0, none⟩ u).setCell ⟨w.heap.size, 1, none⟩ v).alloc o).ownsRow w.heap.size 5 1 (.slice a5 n5 c5) n5 (zs.map (Value.int .u8)) ∧ Below w.heap.size w (((w5.setCell ⟨w.heap.size, 0, none⟩ u).setCell ⟨w.heap.size, 1, none⟩ v).alloc o) := by
  have hlt := h.cu.lt
  exact ⟨(h.done u v).1.alloc o, (h.done u v).2.alloc (by simp; omega) o⟩
theorem St.readA (h : St w ca cn cc lim P a5 n5 c5 s5 zs w5) (u v : Value) (o : Obj) :
    (((w5.setCell ⟨w.heap.size, 0, none⟩ u).setCell ⟨w.heap.size, 1, none⟩ v).alloc o).cell? ⟨w.heap.size, 0, none⟩ = some u ∧ (((w5.setCell ⟨w.heap.size, 0, none⟩ u).setCell ⟨w.heap.size, 1, none⟩ v).alloc o).cell? ⟨w.heap.size, 1, none⟩ = some v := by
  have h2 := two_set1 (v' := v) (two_set0 (u' := u) h.z)
  have h3 := (Below.heap_alloc _ o _ (lt_of_block h2)).trans h2
  exact ⟨two0 h3, two1 h3⟩
end

theorem six (w : World) (y x : Int) (hy0 : 0 ≤ y) (hy1 : y ≤ 19) (hx0 : 0 ≤ x) (hx1 : x ≤ 5) : ∃ m : Int, -1 ≤ m ∧ m ≤ 65 ∧
    (w.alloc (.cells #[.int .i64 y, .int .i64 64, .int .i64 63, .int .i64 65, .int .i64 (-1), .int .i64 0] 3)).cell? ⟨w.heap.size, x.toNat, none⟩ = some (.int .i64 m) := by
  obtain ⟨k, rfl⟩ := Int.eq_ofNat_of_zero_le hx0
  have hn := heap_alloc_new w (.cells #[.int .i64 y, .int .i64 64, .int .i64 63, .int .i64 65, .int .i64 (-1), .int .i64 0] 3)
  simp only [Int.toNat_natCast, World.cell?, hn]
  have : k = 0 ∨ k = 1 ∨ k = 2 ∨ k = 3 ∨ k = 4 ∨ k = 5 := by omega
  rcases this with rfl | rfl | rfl | rfl | rfl | rfl
  · exact ⟨y, by omega, by omega, rfl⟩
  · exact ⟨64, by omega, by omega, rfl⟩
  · exact ⟨63, by omega, by omega, rfl⟩
  · exact ⟨65, by omega, by omega, rfl⟩
  · exact ⟨-1, by omega, by omega, rfl⟩
  · exact ⟨0, by omega, by omega, rfl⟩

/-- Bits that may be none that are good, a number, how many of its bits. -/
def Drawn (w : World) (e : Ending) (w' : World) : Prop :=
  ∃ (a' : Option Addr) (n' c' : Nat) (s' v m : Int) (zs : List Int), e = .returned (.tuple #[.agg #[.slice a' n' c', .int .i64 s'], .int .i64 v, .int .i64 m]) ∧ -8 ≤ s' ∧ s' ≤ 80002 ∧ n' ≤ 10001 ∧ (∀ z ∈ zs, 0 ≤ z ∧ z ≤ 255) ∧
    -9223372036854775808 ≤ v ∧ v ≤ 9223372036854775807 ∧ -1 ≤ m ∧ m ≤ 65 ∧ w'.ownsRow w.heap.size 5 1 (.slice a' n' c') n' (zs.map (Value.int .u8)) ∧ Below w.heap.size w w'

theorem St.read {w w5 : World} {ca a5 : Option Addr} {cn cc lim P n5 c5 : Nat} {s5 : Int} {zs : List Int} (h : St w ca cn cc lim P a5 n5 c5 s5 zs w5) (u v : Value) :
    ((w5.setCell ⟨w.heap.size, 0, none⟩ u).setCell ⟨w.heap.size, 1, none⟩ v).cell? ⟨w.heap.size, 0, none⟩ = some u ∧ ((w5.setCell ⟨w.heap.size, 0, none⟩ u).setCell ⟨w.heap.size, 1, none⟩ v).cell? ⟨w.heap.size, 1, none⟩ = some v := by
  have h2 := two_set1 (v' := v) (two_set0 (u' := u) h.z)
  exact ⟨two0 h2, two1 h2⟩

theorem leafP {w W : World} {a : Act} {a5 : Option Addr} {n5 c5 : Nat} {s5 v m : Int} {zs5 : List Int} (hd : a.defers = []) (h2 : a.tmps.getD 2 undef = .pointer (some ⟨w.heap.size, 0, none⟩)) (h3 : a.tmps.getD 3 undef = .int .i64 v) (h4 : a.tmps.getD 4 undef = .int .i64 m)
    (hc : W.cell? ⟨w.heap.size, 0, none⟩ = some (.slice a5 n5 c5) ∧ W.cell? ⟨w.heap.size, 1, none⟩ = some (.int .i64 s5))
    (hs50 : -8 ≤ s5) (hs51 : s5 ≤ 80002) (hn5 : n5 ≤ 10001) (hz : ∀ z ∈ zs5, 0 ≤ z ∧ z ≤ 255) (v0 : -9223372036854775808 ≤ v) (v1 : v ≤ 9223372036854775807) (m0 : -1 ≤ m) (m1 : m ≤ 65)
    (ho : W.ownsRow w.heap.size 5 1 (.slice a5 n5 c5) n5 (zs5.map (Value.int .u8)) ∧ Below w.heap.size w W) : bodyPost Try.prog Try.f13 (Drawn w) .ret a W := by
  refine bodyPost_ret (v := .tuple #[.agg #[.slice a5 n5 c5, .int .i64 s5], .int .i64 v, .int .i64 m]) ?_ hd ⟨a5, n5, c5, s5, v, m, zs5, rfl, hs50, hs51, hn5, hz, v0, v1, m0, m1, ho⟩
  obtain ⟨c0, c1⟩ := hc
  simp only [Array.getD_eq_getD_getElem?] at h2 h3 h4
  simp [results, Try.results13, go_sem, h2, h3, h4, c0, c1]
theorem St.mono {w w5 : World} {ca a5 : Option Addr} {cn cc lim lim' P n5 c5 : Nat} {s5 : Int} {zs : List Int} (h : St w ca cn cc lim P a5 n5 c5 s5 zs w5) (hl : lim ≤ lim') : St w ca cn cc lim' P a5 n5 c5 s5 zs w5 := ⟨h.cu.mono hl, h.p, h.z, h.own, h.below, h.far⟩

set_option maxHeartbeats 16000000 in
theorem f13 (ca : Option Addr) (cn cc : Nat) (w : World) (hn : cn ≤ 1048576) (hd : cn = 0 ∨ ∃ b off, ca = some ⟨b, off, none⟩ ∧ b < w.heap.size ∧ ∀ i, i < cn → ∃ z : Int, 0 ≤ z ∧ z ≤ 255 ∧ w.cell? ⟨b, off + i, none⟩ = some (.int .u8 z)) :
    Calls Try.prog 13 #[.slice ca cn cc] w (Drawn w) := by
  have hcu0 : Cu w.heap.size (w.heap.size + 1) ca cn cc 0 ((w.alloc (.cells #[.slice none 0 0, .int .i64 0] 24)).alloc (.cells #[.slice ca cn cc, .int .i64 0, .int .u64 0] 53)) := by
    refine ⟨⟨0, 0, by omega, by omega, by omega, ?_⟩, ?_, by omega⟩
    · have := heap_alloc_new (w.alloc (.cells #[.slice none 0 0, .int .i64 0] 24)) (.cells #[.slice ca cn cc, .int .i64 0, .int .u64 0] 53)
      simp only [World.size_alloc] at this
      exact this
    · rcases hd with h0 | ⟨b, off, h1, h2, h3⟩
      · exact .inl h0
      · refine .inr ⟨b, off, h1, h2, by simp; omega, fun i hi => ?_⟩
        obtain ⟨z, z0, z1, hz⟩ := h3 i hi
        exact ⟨z, z0, z1, ((((Below.refl w.heap.size w).alloc (Nat.le_refl _) _).alloc (by simp) _).cell (p := ⟨b, off + i, none⟩) h2).trans hz⟩
  have hz0 : ((w.alloc (.cells #[.slice none 0 0, .int .i64 0] 24)).alloc (.cells #[.slice ca cn cc, .int .i64 0, .int .u64 0] 53)).heap[w.heap.size]? = some (.cells #[.slice none 0 0, .int .i64 0] 24 (0, 0)) := by
    rw [Below.heap_alloc _ _ _ (by simp)]; exact heap_alloc_new w _
  have HC0 := Bts.hid hcu0
  have HZ0 := Bts.hid hz0
  clear hcu0 hz0 hd
  go_enter Try.func13, Try.ntmps13
  go_wp2_with fail
  refine (f42 w.heap.size (w.heap.size + 1) cn cc 0 ca _ HC0.out (by omega) hn).mono ?_
  rintro e w2 ⟨a2, n2, c2, s2, zs2, rfl, hs2, hG2, ho2, hc2, hg2⟩
  simp only [World.size_alloc] at ho2
  have HZ2 := Bts.hid ((hg2.block _ (by simp; omega) (by simp)).trans HZ0.out)
  have hn2 : n2 ≤ 100 := by
    have h1 := hG2.len
    have h2 := ho2.1
    rw [List.length_map, Nat.mul_one] at h2
    omega
  have hsz2 : w.heap.size + 1 + 1 ≤ w2.heap.size := by have := hg2.size; simpa using this
  have HC2 := Bts.hid hc2
  have HG2 := Bts.hid hg2
  have HO2 := Bts.hid ho2
  have HGG := Bts.hid hG2
  clear hc2 hg2 ho2 hG2 HC0 HZ0
  go_wp2_with fail
  refine (f41 w.heap.size (w.heap.size + 1) cn cc (0 + 40) (w.heap.size + 1 + 1) s2 n2 c2 ca a2 zs2 _ HC2.out (by omega) hn HO2.out HGG.out.byte hn2 (by omega) (by omega) hsz2).mono ?_
  rintro e w3 ⟨a3, n3, c3, s3, zs3, rfl, s30, s31, n31, hz3, ho3, hc3, hf3⟩
  have hg3 := hf3 _ (by simp) HG2.out
  have hsz3 : w.heap.size + 1 + 1 ≤ w3.heap.size := by have := hg3.size; simpa using this
  have hz03 : w3.heap[w.heap.size]? = some (.cells #[.slice none 0 0, .int .i64 0] 24 (0, 0)) := by
    rw [hg3.block _ (by simp; omega) (by simp), Below.heap_alloc _ _ _ (by simp)]; exact heap_alloc_new w _
  have hstA : St w ca cn cc 42 w3.heap.size a3 n3 c3 s3 zs3 (w3.alloc (.cells #[.slice a3 n3 c3, .int .i64 s3] 24)) :=
    ⟨hc3.alloc _, heap_alloc_new w3 _, (Below.heap_alloc _ _ _ (by omega)).trans hz03, (own_base ho3 (by omega)).alloc _, (grown_below (((Below.refl w.heap.size w).alloc (Nat.le_refl _) _).alloc (by simp) _) hg3 (by simp; omega) (by omega)).alloc (by omega) _, by omega⟩
  have HB3 := Bts.hid hz3
  have HSA := Bts.hid hstA
  clear hz3 ho3 hc3 hf3 hg3 hz03 hstA HC2 HG2 HO2 HGG HZ2
  go_wp2_with fail

  refine (f43 w.heap.size (w.heap.size + 1) cn cc _ ca 20 _ HSA.out.cu (by omega) hn (by omega) (by omega)).mono ?_
  rintro e w4 ⟨b, rfl, hc4, hg4⟩
  have HS4 := Bts.hid (HSA.out.grew hg4 hc4)
  clear hc4 hg4 HSA
  go_upto_if 15 with fail
  go_cut [6] from 16 to 17 (fun s6 wc => s6 = .pointer (some ⟨w3.heap.size, 0, none⟩) ∧ ∃ (a5 : Option Addr) (n5 c5 : Nat) (s5 : Int) (zs5 : List Int), -8 ≤ s5 ∧ s5 ≤ 80002 ∧ n5 ≤ 10001 ∧ Hid (∀ z ∈ zs5, 0 ≤ z ∧ z ≤ 255) ∧ St w ca cn cc 46 w3.heap.size a5 n5 c5 s5 zs5 wc)
  case first =>
    cases b
    · go_wp2
      go_meet
      case rel => exact ⟨rfl, a3, n3, c3, s3, zs3, s30, s31, n31, HB3, HS4.out.mono (by omega)⟩
    · go_wp2_with fail
      refine (f44 w.heap.size (w.heap.size + 1) cn cc _ ca _ HS4.out.cu (by omega) hn).mono ?_
      rintro e w5 ⟨a5, n5, c5, s5, zs5, rfl, s50, s51, n51, hz5, ho5, hc5, hg5⟩
      have HS5 := Bts.hid (HS4.out.grew hg5 hc5)
      have HO5 := Bts.hid (own_base (B' := w.heap.size) ho5 (by have := HS4.out.cu.lt; omega))
      have HB5 := Bts.hid hz5
      have q0 := two0 HS5.out.p
      have q1 := two1 HS5.out.p
      have qf0 := twof (o := 0) HS5.out.p
      have qf1 := twof (o := 1) HS5.out.p
      clear hz5 ho5 hc5 hg5
      go_wp2
      go_meet
      case rel =>
        refine ⟨rfl, a5, n5, c5, s5, zs5, by omega, s51, n51, HB5, ?_⟩
        have hf := HS5.out.far
        exact ⟨(HS5.out.cu.set_other (by simp; omega) _).set_other (by simp; omega) _, two_set1 (two_set0 HS5.out.p), heap_other _ (by simp; omega) (heap_other _ (by simp; omega) HS5.out.z), ownsRow_setCell_other (ownsRow_setCell_other HO5.out (own_ne' HO5.out HS5.out.p (by decide)) _) (own_ne' HO5.out HS5.out.p (by decide)) _, (HS5.out.below.setCell (by simp; omega) _).setCell (by simp; omega) _, hf⟩
  case rest =>
    obtain ⟨rfl, a5, n5, c5, s5, zs5, hs50, hs51, hn5, HB5, hst⟩ := hcut
    have lP := lt_of_block hst.p
    have hZP := hst.far
    clear HS4 HB3
    generalize w3.heap.size = P at *
    have p0 := two0 hst.p
    have p1 := two1 hst.p
    have HS := Bts.hid hst
    clear hst
    go_wp2_with fail
    rename_i KK hKK
    go_region_with (first | (go_at_call 45; refine (f45 w.heap.size (w.heap.size + 1) cn cc 46 ca _ ?_ (by decide) hn).mono ?_; (exact HS.out.cu.drew); rintro e w6 ⟨v, rfl, v0, v1, hc6, hg6'⟩; have HS6 := Bts.hid (HS.out.grew (grown_undrew1 hg6') hc6); clear hc6 hg6'; have a6p0 := two0 (HS6.out).p; have a6p1 := two1 (HS6.out).p) | (go_at_call 46; refine (f46 w.heap.size (w.heap.size + 1) cn cc (46 + 20) ca 20 _ HS6.out.cu (by decide) hn (by decide) (by decide)).mono ?_; rintro e w7 ⟨y, rfl, y0, y1, hc7, hg7⟩; have y19 : y ≤ 19 := (by omega); have HS7 := Bts.hid (HS6.out.grew hg7 hc7); clear hc7 hg7 y1; have a7p0 := two0 (HS7.out).p; have a7p1 := two1 (HS7.out).p; have b7p0 := two0 (HS7.out.alloc (.cells #[.int .i64 y, .int .i64 64, .int .i64 63, .int .i64 65, .int .i64 (-1), .int .i64 0] 3)).p; have b7p1 := two1 (HS7.out.alloc (.cells #[.int .i64 y, .int .i64 64, .int .i64 63, .int .i64 65, .int .i64 (-1), .int .i64 0] 3)).p) | (go_at_call 47; refine (f47 w.heap.size (w.heap.size + 1) cn cc (46 + 20 + 2) ca _ (HS7.out.cu.alloc _) (by decide) hn).mono ?_; rintro e w8 ⟨x, rfl, x0, x1, hc8, hg8⟩; have hne7 := HS7.out.cu.lt; have n7a : w7.heap.size ≠ w.heap.size := (by omega); have n7b : w.heap.size ≠ w7.heap.size := (by omega); obtain ⟨m, m0, m1, hm9⟩ := six w7 y x y0 y19 x0 x1; have hm := hg8.cell hm9 (by simp; omega); clear hm9; have HS8 := Bts.hid ((HS7.out.alloc _).grew hg8 hc8); clear hc8 hg8; have a8p0 := two0 (HS8.out).p; have a8p1 := two1 (HS8.out).p; have a8z0 := two0 (HS8.out).z; have a8z1 := two1 (HS8.out).z; have a8f0 := twof (o := 0) (HS8.out).z; have a8f1 := twof (o := 1) (HS8.out).z) | (go_at_call 47; refine (f47 w.heap.size (w.heap.size + 1) cn cc (46 + 20 + 2) ca _ HS7.out.cu (by decide) hn).mono ?_; rintro e w8 ⟨x, rfl, x0, x1, hc8, hg8⟩; have HS8 := Bts.hid (HS7.out.grew hg8 hc8); clear hc8 hg8; have hne8 := HS8.out.cu.lt; have n8a : w8.heap.size ≠ w.heap.size := (by omega); have n8b : w.heap.size ≠ w8.heap.size := (by omega); obtain ⟨m, m0, m1, hm⟩ := six w8 y x y0 y19 x0 x1; obtain ⟨m', m0', m1', hm'⟩ := six ((w8.setCell ⟨w.heap.size, 0, none⟩ (.slice a5 n5 c5)).setCell ⟨w.heap.size, 1, none⟩ (.int .i64 s5)) y x y0 y19 x0 x1; simp only [World.size_setCell] at hm'; have a8p0 := two0 (HS8.out).p; have a8p1 := two1 (HS8.out).p; have a8z0 := two0 (HS8.out).z; have a8z1 := two1 (HS8.out).z; have a8f0 := twof (o := 0) (HS8.out).z; have a8f1 := twof (o := 1) (HS8.out).z; have b8p0 := two0 (HS8.out.alloc (.cells #[.int .i64 y, .int .i64 64, .int .i64 63, .int .i64 65, .int .i64 (-1), .int .i64 0] 3)).p; have b8p1 := two1 (HS8.out.alloc (.cells #[.int .i64 y, .int .i64 64, .int .i64 63, .int .i64 65, .int .i64 (-1), .int .i64 0] 3)).p; have b8z0 := two0 (HS8.out.alloc (.cells #[.int .i64 y, .int .i64 64, .int .i64 63, .int .i64 65, .int .i64 (-1), .int .i64 0] 3)).z; have b8z1 := two1 (HS8.out.alloc (.cells #[.int .i64 y, .int .i64 64, .int .i64 63, .int .i64 65, .int .i64 (-1), .int .i64 0] 3)).z; have b8f0 := twof (o := 0) (HS8.out.alloc (.cells #[.int .i64 y, .int .i64 64, .int .i64 63, .int .i64 65, .int .i64 (-1), .int .i64 0] 3)).z; have b8f1 := twof (o := 1) (HS8.out.alloc (.cells #[.int .i64 y, .int .i64 64, .int .i64 63, .int .i64 65, .int .i64 (-1), .int .i64 0] 3)).z))
    all_goals
      refine hKK _ _ (wp_ret ?_)
      first
        | (with_reducible refine leafP (v := v) (m := m) ?_ ?_ ?_ ?_ (HS8.out.read _ _) hs50 hs51 hn5 HB5.out v0 v1 m0 m1 (HS8.out.done _ _))
        | (with_reducible refine leafP (v := v) (m := m) ?_ ?_ ?_ ?_ ((HS8.out.alloc _).read _ _) hs50 hs51 hn5 HB5.out v0 v1 m0 m1 ((HS8.out.alloc _).done _ _))
        | (with_reducible refine leafP (v := v) (m := m') ?_ ?_ ?_ ?_ (HS8.out.readA _ _ _) hs50 hs51 hn5 HB5.out v0 v1 m0' m1' (HS8.out.doneA _ _ _))
      all_goals rfl
end Go.Proofs.Ytdcnnlnhopjjfaa.Cur
