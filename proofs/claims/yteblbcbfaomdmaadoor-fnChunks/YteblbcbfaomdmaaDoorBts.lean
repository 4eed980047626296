/- Bits as a struct: what szByteS, szBits, toBits and eqBits come to. -/
import Derived.Test.YteblbcbfaomdmaaDoorByt
import Derived.Test.YteblbcbfaomdmaaDoorWord
import Derived.WalkSmall
namespace Go.Proofs.YteblbcbfaomdmaaDoor.Bts
open Go.RowKit Go.Proofs.YteblbcbfaomdmaaDoor.Byt
theorem ret_int {k : IntKind} {a b : Int} (h : a = b) : Ending.returned (.int k a) = .returned (.int k b) := by rw [h]
theorem hid {p : Prop} (h : p) : Hid p := h

/-- A value of type Bits. -/
def bv (a : Option Addr) (n c : Nat) (s : Int) : Value := .agg #[.slice a n c, .int .i64 s]

theorem f27 (a : Option Addr) (n c : Nat) (s : Int) (w : World) (hb : n ≤ 9223372036854775807) :
    Calls Tryd.prog 27 #[.agg #[.slice a n c, .int .i64 s], .int .i64 1048576] w fun e w' => e = .returned (.int .i64 (if n ≤ 1048576 then 1048576 - (n : Int) else -1)) ∧ Below w.heap.size w w' := by
  by_cases h : n ≤ 1048576
  · rw [if_pos h]
    go_enter Tryd.func27, Tryd.ntmps27
    go_wp2
    go_ret
    exact ⟨rfl, (Below.refl _ _).alloc (Nat.le_refl _) _⟩
  · rw [if_neg h]
    go_enter Tryd.func27, Tryd.ntmps27
    go_wp2
    go_ret
    exact ⟨rfl, (Below.refl _ _).alloc (Nat.le_refl _) _⟩

theorem bcell {W w1 : World} (hb : Below W.heap.size W w1) : (∀ b o, b < W.heap.size → w1.cell? ⟨b, o, none⟩ = W.cell? ⟨b, o, none⟩) ∧ (∀ b o, b < W.heap.size → w1.frozen? ⟨b, o, none⟩ = W.frozen? ⟨b, o, none⟩) :=
  ⟨fun b o h => hb.cell (p := ⟨b, o, none⟩) h, fun b o h => hb.frozen (p := ⟨b, o, none⟩) h⟩
theorem has_alloc {w : World} {a : Option Addr} {zs : List Int} (h : Has w a zs) (o : Obj) : Has (w.alloc o) a zs :=
  h.below ((Below.refl _ _).alloc (Nat.le_refl _) o)
theorem has_below {w w' : World} {a : Option Addr} {zs : List Int} (h : Has w a zs) (hb : Below w.heap.size w w') : Has w' a zs := h.below hb

theorem own_base {w : World} {base base' e size n : Nat} {v : Value} {xs : List Value} (h : w.ownsRow base e size v n xs) (hb : base' ≤ base) : w.ownsRow base' e size v n xs := by
  refine ⟨h.1, ?_⟩
  rcases h.2 with h | ⟨g, cap, cur, h1, h2, h3⟩
  · exact .inl h
  · exact .inr ⟨g, cap, cur, h1, Nat.le_trans hb h2, h3⟩

theorem f29 (a : Option Addr) (n c : Nat) (s : Int) (zs : List Int) (w : World) (hn : zs.length = n) (hb : n ≤ 140737488351232) (hr : Has w a zs) :
    Calls Tryd.prog 29 #[.agg #[.slice a n c, .int .i64 s]] w fun e w' => ∃ g, e = .returned (.agg #[.slice (some ⟨g, 0, none⟩) n n, .int .i64 s]) ∧ w.heap.size ≤ g ∧
      w'.ownsRow w.heap.size 5 1 (.slice (some ⟨g, 0, none⟩) n n) n (zs.map (Value.int .u8)) ∧ Below w.heap.size w w' := by
  have HN := hid hn
  clear hn
  go_enter Tryd.func29, Tryd.ntmps29
  go_wp2_with fail
  refine (f57 _ _ _ zs _ HN.out hb (has_alloc (has_alloc (has_alloc hr _) _) _)).mono ?_
  rintro e w1 ⟨rfl, ho1, hb1⟩
  have hsz := hb1.size
  obtain ⟨hcl, hfz⟩ := bcell hb1
  simp only [World.size_alloc] at hsz hcl hfz ho1 hb1 ⊢
  have HO := hid ho1
  have HB := hid hb1
  clear ho1 hb1
  go_wp2
  refine bodyPost_ret (v := .agg #[.slice (some ⟨w.heap.size + 1 + 1 + 1, 0, none⟩) n n, .int .i64 s]) (by simp [results, Tryd.results29, go_sem, hcl]) rfl ⟨w.heap.size + 1 + 1 + 1, rfl, by omega, ?_, ?_⟩
  · exact own_base (ownsRow_setCell_below (ownsRow_setCell_below (ownsRow_setCell_below (ownsRow_setCell_below HO.out (by simp) _) (by simp) _) (by simp) _) (by simp) _) (by omega)
  · have h0 := HB.out
    have h1 : Below w.heap.size w w1 := ((((Below.refl _ _).alloc (Nat.le_refl _) _).alloc (by simp) _).alloc (by simp; omega) _).trans (h0.mono (by omega))
    exact (((h1.setCell (by simp; omega) _).setCell (by simp; omega) _).setCell (by simp) _).setCell (by simp) _

theorem f22 (a a' : Option Addr) (n c c' : Nat) (s : Int) (zs : List Int) (w : World) (hn : zs.length = n) (hb : n ≤ 140737488351232) (hr : Has w a zs) (hr' : Has w a' zs) :
    Calls Tryd.prog 22 #[.agg #[.slice a n c, .int .i64 s], .agg #[.slice a' n c', .int .i64 s]] w fun e w' => e = .returned (.bool true) ∧ Below w.heap.size w w' := by
  have HN := hid hn
  clear hn
  have hd : (s != s) = false := by simp
  go_enter Tryd.func22, Tryd.ntmps22
  go_wp2_with fail
  refine (f49 _ _ _ _ _ _ zs _ HN.out rfl hb (has_alloc (has_alloc hr _) _) (has_alloc (has_alloc hr' _) _)).mono ?_
  rintro e w1 ⟨rfl, q, rfl⟩
  go_wp2
  go_ret
  exact ⟨rfl, below_drewN (((Below.refl _ _).alloc (Nat.le_refl _) _).alloc (by simp) _) q⟩

/-- Bit number k. -/
def bitOf (zs : List Int) (k : Nat) : Int := zs.getD (k / 8) 0 / 2 ^ (7 - k % 8) % 2

theorem f69 (a : Option Addr) (n c : Nat) (s : Int) (k : Nat) (zs : List Int) (w : World) (hn : zs.length = n) (hb : n ≤ 140737488351232) (hr : Has w a zs) (hk : k / 8 < n) (h255 : ∀ j, 0 ≤ zs.getD j 0 ∧ zs.getD j 0 ≤ 255) :
    Calls Tryd.prog 69 #[.agg #[.slice a n c, .int .i64 s], .int .i64 k] w fun e w' => e = .returned (.int .i64 (bitOf zs k)) ∧ Below w.heap.size w w' := by
  rcases hr with hr | ⟨b, off, rfl, hbl, hc⟩
  · exact absurd hn (by rw [hr]; simp; omega)
  have hcx := hc (k / 8) (by omega)
  obtain ⟨z0, z1⟩ := h255 (k / 8)
  obtain ⟨z, hz⟩ : ∃ z, z = zs.getD (k / 8) 0 := ⟨_, rfl⟩
  rw [← hz] at hcx z0 z1
  have HZ := hid hz
  clear hz hc hn h255
  have HV : Hid (bits .and .i64 (wrap64 (z / 2 ^ (7 - k % 8))) 1 = bitOf zs k) := by
    unfold Hid bitOf
    rw [Word.and_one, ← HZ.out]
    unfold wrap64; omega
  go_enter Tryd.func69, Tryd.ntmps69
  go_wp2
  go_ret
  exact ⟨ret_int HV.out, (Below.refl _ _).alloc (Nat.le_refl _) _⟩

theorem mask_val (k : Nat) (hk : k ≤ 8) : IntKind.u64.wrap (IntKind.u64.wrap (2 ^ k) - 1) % 256 = 2 ^ k - 1 := by
  rw [IntKind.wrap_u64, IntKind.wrap_u64]
  match k, hk with
  | 0, _ => rfl
  | 1, _ => rfl
  | 2, _ => rfl
  | 3, _ => rfl
  | 4, _ => rfl
  | 5, _ => rfl
  | 6, _ => rfl
  | 7, _ => rfl
  | 8, _ => rfl
theorem f47 (k : Nat) (w : World) (hk : k ≤ 8) :
    Calls Tryd.prog 47 #[.int .i64 k] w fun e w' => e = .returned (.int .u8 (2 ^ k - 1)) ∧ w' = w := by
  have HV := hid (mask_val k hk)
  go_enter Tryd.func47, Tryd.ntmps47
  go_wp2
  go_ret
  exact ⟨ret_int HV.out, rfl⟩
end Go.Proofs.YteblbcbfaomdmaaDoor.Bts
