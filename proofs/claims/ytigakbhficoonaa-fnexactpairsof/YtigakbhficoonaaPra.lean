/- Lines cut at blanks, but not within quotes: plain. -/
import Derived.Test.YtigakbhficoonaaVj
import Derived.Lib.OthersKept
namespace Go.Proofs.Ytigakbhficoonaa.Prs
open Go.RowKit
open Go.Proofs.Ytigakbhficoonaa.Rdd
open Go.Proofs.Ytigakbhficoonaa.Pat (hid)

/-- The pieces of a text: whether in quotes, whether the next byte is taken with a backslash, the piece as far as it is read, what is left. -/
def pcs : Bool → Bool → List UInt8 → List UInt8 → List (List UInt8)
  | _, _, now, [] => [now]
  | q, true, now, c :: r => pcs q false (now ++ [c]) r
  | q, false, now, c :: r => if c = 34 then pcs (!q) false (now ++ [c]) r else if q = true then pcs q (decide (c = 92)) (now ++ [c]) r else if c = 32 then now :: pcs q false [] r else pcs q false (now ++ [c]) r
abbrev bys (d : ByteArray) : List UInt8 := d.data.toList
/-- What is read up to k is these pieces, and the one begun. -/
def Cs (s : ByteArray) (ds : List ByteArray) (q t : Bool) (now : List UInt8) (k : Nat) : Prop := pcs false false [] (by' s) = ds.map bys ++ pcs q t now ((by' s).drop k)
theorem Cs.zero (s : ByteArray) : Cs s [] false false [] 0 := by unfold Cs; simp
theorem drop_at {s : ByteArray} {k : Nat} (h : k < s.size) : (by' s).drop k = s[k] :: (by' s).drop (k + 1) := drop_cons (at_byte s k h)
theorem Cs.taken {s : ByteArray} {ds : List ByteArray} {q : Bool} {now : List UInt8} {k : Nat} (h : Cs s ds q true now k) (hk : k < s.size) : Cs s ds q false (now ++ [s[k]]) (k + 1) := by
  unfold Cs at *; rw [h, drop_at hk, pcs]
theorem Cs.quote {s : ByteArray} {ds : List ByteArray} {q : Bool} {now : List UInt8} {k : Nat} (h : Cs s ds q false now k) (hk : k < s.size) (hc : s[k] = 34) : Cs s ds (!q) false (now ++ [s[k]]) (k + 1) := by
  unfold Cs at *; rw [h, drop_at hk, pcs, if_pos hc]
theorem Cs.within {s : ByteArray} {ds : List ByteArray} {now : List UInt8} {k : Nat} (h : Cs s ds true false now k) (hk : k < s.size) (hc : s[k] ≠ 34) : Cs s ds true (decide (s[k] = 92)) (now ++ [s[k]]) (k + 1) := by
  unfold Cs at *; rw [h, drop_at hk, pcs, if_neg hc, if_pos rfl]
theorem Cs.cut {s : ByteArray} {ds : List ByteArray} {now : List UInt8} {k : Nat} {d : ByteArray} (h : Cs s ds false false now k) (hk : k < s.size) (hc : s[k] = 32) (hd : bys d = now) : Cs s (ds ++ [d]) false false [] (k + 1) := by
  unfold Cs at *
  rw [h, drop_at hk, pcs, if_neg (by rw [hc]; decide), if_neg (by decide), if_pos hc]
  simp [hd]
theorem Cs.other {s : ByteArray} {ds : List ByteArray} {now : List UInt8} {k : Nat} (h : Cs s ds false false now k) (hk : k < s.size) (h1 : s[k] ≠ 34) (h2 : s[k] ≠ 32) : Cs s ds false false (now ++ [s[k]]) (k + 1) := by
  unfold Cs at *; rw [h, drop_at hk, pcs, if_neg h1, if_neg (by decide), if_neg h2]
theorem Cs.done {s : ByteArray} {ds : List ByteArray} {q t : Bool} {now : List UInt8} {k : Nat} (h : Cs s ds q t now k) (hk : s.size ≤ k) {d : ByteArray} (hd : bys d = now) : (ds ++ [d]).map bys = pcs false false [] (by' s) := by
  unfold Cs at h
  rw [List.drop_eq_nil_of_le (by simpa using hk)] at h
  rw [h]
  cases t <;> simp [pcs, hd]
/-- The bytes from f on and ahead of k. -/
def sl (s : ByteArray) (f k : Nat) : List UInt8 := ((by' s).drop f).take (k - f)
theorem sl_ext (s : ByteArray) (f k : Nat) : bys (s.extract f k) = sl s f k := Lib.extract_data s f k
theorem sl_nil (s : ByteArray) (f : Nat) : sl s f f = [] := by unfold sl; simp
theorem sl_snoc {s : ByteArray} {f k : Nat} (h : f ≤ k) (hk : k < s.size) : sl s f k ++ [s[k]] = sl s f (k + 1) := by
  unfold sl
  rw [show k + 1 - f = (k - f) + 1 by omega, List.take_succ_eq_append_getElem (by simp; omega)]
  congr 2
  have := at_byte s k hk
  rw [List.getElem_drop]
  rw [List.getElem?_eq_getElem (by simpa using hk)] at this
  have h2 := Option.some.inj this
  simp only [show f + (k - f) = k by omega]
  exact h2.symm
theorem one_row (w : World) (x : Value) (t : TypeId) : ∀ j u, [x][j]? = some u → (w.alloc (.cells #[x] t)).cell? ((⟨w.heap.size, 0, none⟩ : Addr).add j) = some u := by
  intro j u hj
  have h := heap_alloc_new w (.cells #[x] t)
  match j, hj with
  | 0, hj =>
    simp at hj; subst hj
    have : (⟨w.heap.size, 0, none⟩ : Addr).add 0 = ⟨w.heap.size, 0, none⟩ := by simp [Addr.add]
    rw [this]
    unfold World.cell?
    simp only [h]
    rfl
  | j + 1, hj => simp at hj
theorem own_form' {w : World} {base e size n : Nat} {v : Value} {xs : List Value} (h : w.ownsRow base e size v n xs) : ∃ a c, v = .slice a n c := by
  rcases h.2 with ⟨h1, h2⟩ | ⟨g, cap, cur, h1, _⟩
  · subst h2; exact ⟨none, 0, h1⟩
  · exact ⟨_, _, h1⟩
theorem own_down {w : World} {base base' e size n : Nat} {v : Value} {xs : List Value} (h : w.ownsRow base e size v n xs) (hb : base' ≤ base) : w.ownsRow base' e size v n xs := by
  refine ⟨h.1, ?_⟩
  rcases h.2 with h2 | ⟨g, cap, cur, h1, h2, h3⟩
  · exact .inl h2
  · exact .inr ⟨g, cap, cur, h1, by omega, h3⟩
theorem own_bel {w w' : World} {base e size n : Nat} {v : Value} {xs : List Value} (h : w.ownsRow base e size v n xs) (hb : Below w.heap.size w w') : w'.ownsRow base e size v n xs :=
  h.kept (row := none) ⟨hb.os, hb.tape, hb.output, hb.size, fun k hk _ => hb.block k hk⟩ (by cases hv : v.ownBlock <;> simp)
theorem own_blk {w : World} {base e size n : Nat} {v : Value} {xs : List Value} {g : Nat} (h : w.ownsRow base e size v n xs) (hg : v.ownBlock = some g) : base ≤ g ∧ g < w.heap.size := by
  rcases h.2 with ⟨h1, _⟩ | ⟨g', cap, cur, h1, h2, h3, _⟩
  · rw [h1] at hg; simp [Value.ownBlock] at hg
  · rw [h1] at hg; simp [Value.ownBlock] at hg; subst hg
    exact ⟨h2, (Array.getElem?_eq_some_iff.1 h3).1⟩
end Go.Proofs.Ytigakbhficoonaa.Prs
