/- What is selected of a head: the model's l7Select. -/
import Derived.Test.YtaekngadfajcaaaGreatRGb
import Derived.Test.YtaekngadfajcaaaGreatRXe
import Derived.Test.YtaekngadfajcaaaGreatRFI
namespace Go.Proofs.YtaekngadfajcaaaGreat.Srs
open Go.RowKit
open Go.Proofs.YtaekngadfajcaaaGreat.Lab (Lb HasL OfV GoodP)
open Go.Proofs.YtaekngadfajcaaaGreat.Smp (Sm HasS cut)
open Go.Proofs.YtaekngadfajcaaaGreat.Pat (Mt HasM goodM allM FitM)

abbrev Vf := List Lb → ByteArray → ByteArray
/-- What is selected of one series. -/
def hit (val : Vf) (ms : List Mt) (x y : Int) (p : Pl) : List Pl := if cut p.2 x y = [] then [] else if allM ms (val p.1) = true then [(p.1, cut p.2 x y)] else []
/-- What is selected of the first k. -/
def sl (val : Vf) (ms : List Mt) (qs : List Q) (x y : Int) : Nat → List Pl
  | 0 => []
  | k + 1 => sl val ms qs x y k ++ hit val ms x y (pl (qs.getD k q0))
theorem hit_len (val : Vf) (ms : List Mt) (x y : Int) (p : Pl) : (hit val ms x y p).length ≤ 1 := by
  unfold hit
  split
  · simp
  · split <;> simp
theorem hit_no {val : Vf} {ms : List Mt} {x y : Int} {q : Q} (hc : cut q.s x y = []) : hit val ms x y (pl q) = [] := if_pos hc
theorem hit_yes {val : Vf} {ms : List Mt} {x y : Int} {q : Q} (hc : ¬ cut q.s x y = []) : hit val ms x y (pl q) = if allM ms (val q.l) = true then [(q.l, cut q.s x y)] else [] := if_neg hc
theorem sl_len (val : Vf) (ms : List Mt) (qs : List Q) (x y : Int) : ∀ k, (sl val ms qs x y k).length ≤ k := by
  intro k
  induction k with
  | zero => exact Nat.le_refl _
  | succ k ih => rw [sl, List.length_append]; have := hit_len val ms x y (pl (qs.getD k q0)); omega
theorem infoQ' : (Tryz.prog.info? 53).map (fun i => (i.zero, i.size, i.bytes)) = some (some (.agg #[.slice none 0 0, .slice none 0 0]), 2, 48) := by kernel_rfl
theorem two_new (w : World) (x y : Value) (t : TypeId) : ∀ j u, [x, y][j]? = some u → (w.alloc (.cells #[x, y] t)).cell? ((⟨w.heap.size, 0, none⟩ : Addr).add j) = some u := Smp.two_new w x y t
theorem own_form' {w : World} {base e size n : Nat} {v : Value} {xs : List Value} (h : w.ownsRow base e size v n xs) (hp : 0 < n) : ∃ g c, v = .slice (some ⟨g, 0, none⟩) n c := by
  rcases h.2 with ⟨_, h2⟩ | ⟨g, cap, cur, h1, _⟩
  · omega
  · exact ⟨g, cap, h1⟩
theorem sel_len {R : List Q} {L : List Pl} (h : R.map pl = L) : R.length = L.length := by rw [← h]; simp
theorem named_ne {ls : List Lb} (h : Named ls) : ls ≠ [] := by
  rintro rfl
  exact h.2 (.inr ⟨fun k hk => by simp at hk, rfl⟩)
end Go.Proofs.YtaekngadfajcaaaGreat.Srs
