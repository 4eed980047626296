/- A heap of lanes of series: which lane is ahead. -/
import Derived.Test.YtjhdmghpklagkaaGreatD14
import Derived.Test.YtjhdmghpklagkaaGreatD03
namespace Go.Proofs.YtjhdmghpklagkaaGreat.Hpl
open Go.RowKit
open Go.Proofs.YtjhdmghpklagkaaGreat.Stb
open Go.Proofs.YtjhdmghpklagkaaGreat.Lab (orC two0 two1)
open Go.Proofs.YtjhdmghpklagkaaGreat.Str (numC)
variable {α : Type}

structure Lay (α : Type) where
  nu : α → Nat
  bl : α → Nat
  ofs : α → Nat
  ln : α → Nat
  cp : α → Nat
  hs : α → (Option Addr × Nat × Nat) × (Option Addr × Nat × Nat)
  cz : α → α → Int
abbrev Lay.enc (Y : Lay α) (x : α) : Value × Value := (.int .i64 (Y.nu x), .slice (some ⟨Y.bl x, Y.ofs x, none⟩) (Y.ln x) (Y.cp x))
abbrev Lay.h1 (Y : Lay α) (x : α) : Value := .slice (Y.hs x).1.1 (Y.hs x).1.2.1 (Y.hs x).1.2.2
abbrev Lay.h2 (Y : Lay α) (x : α) : Value := .slice (Y.hs x).2.1 (Y.hs x).2.2.1 (Y.hs x).2.2.2
def Lay.lt (Y : Lay α) (x y : α) : Bool := decide (orC (Y.cz x y) (numC (Y.nu x) (Y.nu y)) < 0)
abbrev fvH : Value := .func (.func 92) #[] #[]
structure Lok (Y : Lay α) (w0 : World) (g : Nat) (D : List α) : Prop where
  pos : ∀ x ∈ D, 0 < Y.ln x
  cel : ∀ x ∈ D, w0.cell? ⟨Y.bl x, Y.ofs x, none⟩ = some (Y.h1 x) ∧ w0.cell? ⟨Y.bl x, Y.ofs x + 1, none⟩ = some (Y.h2 x)
  apt : ∀ x ∈ D, Y.bl x ≠ g
  cmp : ∀ W x y, x ∈ D → y ∈ D → w0.grownBy W (some g) → Calls Tryz.prog 92 #[.agg #[Y.h1 x, Y.h2 x], .agg #[Y.h1 y, Y.h2 y]] W fun e W' => e = .returned (.int .i64 (Y.cz x y)) ∧ Below W.heap.size W W'
theorem cell_gr {w W : World} {g b o : Nat} {v : Value} (hg : w.grownBy W (some g)) (hb : b ≠ g) (h : w.cell? ⟨b, o, none⟩ = some v) : W.cell? ⟨b, o, none⟩ = some v := by
  have l := World.block_lt_of_cell? w _ h
  have e := hg.block b l (by intro e; exact hb (Option.some.inj e))
  rw [← h]
  simp only [World.cell?, e]
theorem Lok.cells {Y : Lay α} {w0 W : World} {g : Nat} {D : List α} (L : Lok Y w0 g D) (hg : w0.grownBy W (some g)) {x : α} (hx : x ∈ D) : W.cell? ⟨Y.bl x, Y.ofs x, none⟩ = some (Y.h1 x) ∧ W.cell? ⟨Y.bl x, Y.ofs x + 1, none⟩ = some (Y.h2 x) :=
  ⟨cell_gr hg (L.apt x hx) (L.cel x hx).1, cell_gr hg (L.apt x hx) (L.cel x hx).2⟩
abbrev SA (Y : Lay α) (hb : Nat) (w : World) (x y : α) (W : World) : Prop :=
  W.cell? ⟨w.heap.size, 0, none⟩ = some (.int .i64 (Y.nu x)) ∧ W.cell? ⟨w.heap.size, 1, none⟩ = some (.slice (some ⟨Y.bl x, Y.ofs x, none⟩) (Y.ln x) (Y.cp x)) ∧
  W.cell? ⟨w.heap.size + 1, 0, none⟩ = some (.int .i64 (Y.nu y)) ∧ W.cell? ⟨w.heap.size + 1, 1, none⟩ = some (.slice (some ⟨Y.bl y, Y.ofs y, none⟩) (Y.ln y) (Y.cp y)) ∧
  W.cell? ⟨hb, 1, none⟩ = some fvH ∧ W.cell? ⟨Y.bl x, Y.ofs x, none⟩ = some (Y.h1 x) ∧ W.cell? ⟨Y.bl x, Y.ofs x + 1, none⟩ = some (Y.h2 x) ∧
  W.cell? ⟨Y.bl y, Y.ofs y, none⟩ = some (Y.h1 y) ∧ W.cell? ⟨Y.bl y, Y.ofs y + 1, none⟩ = some (Y.h2 y) ∧ Below w.heap.size w W
theorem cell_below {W W' : World} {a : Addr} {v : Value} (hb : Below W.heap.size W W') (h : W.cell? a = some v) : W'.cell? a = some v :=
  (hb.cell (World.block_lt_of_cell? W _ h)).trans h
theorem SA.below {Y : Lay α} {hb : Nat} {w W W' : World} {x y : α} (h : SA Y hb w x y W) (k : Below W.heap.size W W') : SA Y hb w x y W' := by
  obtain ⟨a1, a2, a3, a4, a5, a6, a7, a8, a9, a10⟩ := h
  exact ⟨cell_below k a1, cell_below k a2, cell_below k a3, cell_below k a4, cell_below k a5, cell_below k a6, cell_below k a7, cell_below k a8, cell_below k a9, a10.trans (k.mono a10.size)⟩
theorem SA.alloc {Y : Lay α} {hb : Nat} {w W : World} {x y : α} (h : SA Y hb w x y W) (o : Obj) : SA Y hb w x y (W.alloc o) := h.below ((Below.refl _ _).alloc (Nat.le_refl _) o)
theorem SA.drew {Y : Lay α} {hb : Nat} {w W : World} {x y : α} (h : SA Y hb w x y W) : SA Y hb w x y W.drew := h.below (Below.refl _ W).drew
theorem SA.bel {Y : Lay α} {hb : Nat} {w W : World} {x y : α} (h : SA Y hb w x y W) : Below w.heap.size w W := h.2.2.2.2.2.2.2.2.2
abbrev boxL (Y : Lay α) (x : α) : Obj := .cells #[.int .i64 (Y.nu x), .slice (some ⟨Y.bl x, Y.ofs x, none⟩) (Y.ln x) (Y.cp x)] 156
theorem SA.new {Y : Lay α} {hb : Nat} {w : World} {x y : α} (hc : w.cell? ⟨hb, 1, none⟩ = some fvH) (x1 : w.cell? ⟨Y.bl x, Y.ofs x, none⟩ = some (Y.h1 x)) (x2 : w.cell? ⟨Y.bl x, Y.ofs x + 1, none⟩ = some (Y.h2 x)) (y1 : w.cell? ⟨Y.bl y, Y.ofs y, none⟩ = some (Y.h1 y)) (y2 : w.cell? ⟨Y.bl y, Y.ofs y + 1, none⟩ = some (Y.h2 y)) : SA Y hb w x y ((w.alloc (boxL Y x)).alloc (boxL Y y)) := by
  have A1 := (Below.heap_alloc (w.alloc (boxL Y x)) (boxL Y y) w.heap.size (by simp)).trans (heap_alloc_new w (boxL Y x))
  have B1 := heap_alloc_new (w.alloc (boxL Y x)) (boxL Y y)
  simp only [World.size_alloc] at B1
  have hB : Below w.heap.size w ((w.alloc (boxL Y x)).alloc (boxL Y y)) := ((Below.refl w.heap.size w).alloc (Nat.le_refl _) _).alloc (by simp) _
  exact ⟨two0 A1, two1 A1, two0 B1, two1 B1, cell_below hB hc, cell_below hB x1, cell_below hB x2, cell_below hB y1, cell_below hB y2, hB⟩

set_option maxHeartbeats 2000000 in
theorem fAhead (Y : Lay α) (w0 w : World) (g hb : Nat) (D : List α) (x y : α) (L : Lok Y w0 g D) (hx : x ∈ D) (hy : y ∈ D) (hg : w0.grownBy w (some g)) (hc : w.cell? ⟨hb, 1, none⟩ = some fvH) :
    Calls Tryz.prog 161 #[.pointer (some ⟨hb, 0, none⟩), .agg #[.int .i64 (Y.nu x), .slice (some ⟨Y.bl x, Y.ofs x, none⟩) (Y.ln x) (Y.cp x)], .agg #[.int .i64 (Y.nu y), .slice (some ⟨Y.bl y, Y.ofs y, none⟩) (Y.ln y) (Y.cp y)]] w fun e w' => e = .returned (.bool (Y.lt x y)) ∧ Below w.heap.size w w' := by
  have HS : Hid (SA Y hb w x y ((w.alloc (boxL Y x)).alloc (boxL Y y))) := hid (SA.new hc (L.cells hg hx).1 (L.cells hg hx).2 (L.cells hg hy).1 (L.cells hg hy).2)
  have p1 := L.pos x hx
  have p2 := L.pos y hy
  have HC : Hid (∀ W, Below w.heap.size w W → Calls Tryz.prog 92 #[.agg #[Y.h1 x, Y.h2 x], .agg #[Y.h1 y, Y.h2 y]] W fun e W' => e = .returned (.int .i64 (Y.cz x y)) ∧ Below W.heap.size W W') := fun W h => L.cmp W x y hx hy (gr_below hg h)
  have HE : Hid (Y.lt x y = decide (orC (Y.cz x y) (numC (Y.nu x) (Y.nu y)) < 0)) := rfl
  clear L hx hy hg hc
  generalize Y.lt x y = r at *
  generalize Y.cz x y = z at *
  go_enter Tryz.func161, Tryz.ntmps161
  go_wp2_with fail
  go_region_held3 (fun w' => SA Y hb w x y w') (first | exact HS.out.drew | assumption | exact SA.alloc (by assumption) _) (first | (go_at_call 92; refine (HC.out _ (SA.bel (by assumption))).mono ?_; rintro e w2 ⟨rfl, hb2⟩; have hs2 := SA.below (by assumption) hb2; clear hb2) | (go_at_call 174; refine (Lab.f174 _ _ _).mono ?_; rintro e w' ⟨rfl, rfl⟩) | (go_at_call 173; refine (Lab.f173 _ z (numC (Y.nu x) (Y.nu y)) _ ?_ ?_).mono ?_; (exact two0 (heap_alloc_new _ _)); (exact two1 (heap_alloc_new _ _)); rintro e w' ⟨rfl, rfl⟩))
  go_wp2
  go_ret
  exact ⟨by rw [HE.out]; rfl, (SA.alloc hs2 _).bel⟩
end Go.Proofs.YtjhdmghpklagkaaGreat.Hpl
