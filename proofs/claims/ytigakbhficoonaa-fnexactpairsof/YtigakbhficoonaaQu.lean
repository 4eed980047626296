/- Quoted texts: what the program's quoted and the model's l2Quoted come to. -/
import Derived.Test.YtigakbhficoonaaBld
import Derived.Test.YtigakbhficoonaaLab
import Derived.Lib.SlBytesRow
namespace Go.Proofs.Ytigakbhficoonaa.Str
open Go.RowKit

def esc (c : UInt8) : List UInt8 := if c = 34 ∨ c = 92 then [92, c] else [c]
def quoP (l : List UInt8) : List UInt8 := 34 :: l.flatMap esc
def quoB (l : List UInt8) : List UInt8 := quoP l ++ [34]

theorem bc_snoc (l : List UInt8) (c : UInt8) : Lib.byteCells l ++ [.int .u8 c.toNat] = Lib.byteCells (l ++ [c]) := by simp [Lib.byteCells]
theorem quoP_yes (s : ByteArray) (k : Nat) (h : k < s.size) (he : s[k].toNat = 34 ∨ s[k].toNat = 92) : quoP (s.data.toList.take (k + 1)) = quoP (s.data.toList.take k) ++ [92] ++ [s[k]] := by
  have e : esc s[k] = [92, s[k]] := by
    unfold esc; rw [if_pos]
    rcases he with he | he
    · exact .inl (UInt8.toNat_inj.1 he)
    · exact .inr (UInt8.toNat_inj.1 he)
  unfold quoP
  rw [List.take_succ_eq_append_getElem (by simpa using h), List.flatMap_append]
  have : s.data.toList[k]'(by simpa using h) = s[k] := rfl
  rw [this]; simp [e]
theorem quoP_no (s : ByteArray) (k : Nat) (h : k < s.size) (h1 : s[k].toNat ≠ 34) (h2 : s[k].toNat ≠ 92) : quoP (s.data.toList.take (k + 1)) = quoP (s.data.toList.take k) ++ [s[k]] := by
  have e : esc s[k] = [s[k]] := by
    unfold esc; rw [if_neg]
    rintro (he | he)
    · exact h1 (by rw [he]; rfl)
    · exact h2 (by rw [he]; rfl)
  unfold quoP
  rw [List.take_succ_eq_append_getElem (by simpa using h), List.flatMap_append]
  have : s.data.toList[k]'(by simpa using h) = s[k] := rfl
  rw [this]; simp [e]
theorem quoP_len (l : List UInt8) : (quoP l).length ≤ 2 * l.length + 1 := by
  unfold quoP
  simp only [List.length_cons]
  induction l with
  | nil => simp
  | cons c r ih =>
    simp only [List.flatMap_cons, List.length_append, List.length_cons]
    have : (esc c).length ≤ 2 := by unfold esc; split <;> simp
    omega
theorem quoP_lens (s : ByteArray) (k : Nat) (h : k ≤ s.size) : (Lib.byteCells (quoP (s.data.toList.take k))).length ≤ 2 * k + 1 := by
  rw [Lib.byteCells_length]
  refine Nat.le_trans (quoP_len _) ?_
  simp; omega
theorem quoB_all (s : ByteArray) (k : Nat) (h : s.size ≤ k) : quoP (s.data.toList.take k) ++ [34] = quoB s.data.toList := by
  rw [List.take_of_length_le (by simpa using h)]; rfl

theorem one_nw (w : World) (x : Value) (t : TypeId) : ∀ j u, [x][j]? = some u → (w.alloc (.cells #[x] t)).cell? ((⟨w.heap.size, 0, none⟩ : Addr).add j) = some u := by
  intro j u hj
  match j, hj with
  | 0, hj => simp at hj; subst hj; simp [Addr.add]
  | j + 1, hj => simp at hj
theorem info5 : (Try.prog.info? 5).map (fun i => (i.zero, i.size, i.bytes)) = some (some (.int .u8 0), 1, 1) := by kernel_rfl
theorem own_form1 {w : World} {base e size n : Nat} {v : Value} {xs : List Value} (h : w.ownsRow base e size v n xs) (hn : 0 < n) : ∃ g c, v = .slice (some ⟨g, 0, none⟩) n c := by
  rcases h.2 with ⟨_, h2⟩ | ⟨g, cap, cur, h1, _⟩
  · omega
  · exact ⟨g, cap, h1⟩
theorem bytes_own {w : World} {B g n c : Nat} {l : List UInt8} (h : w.ownsRow B 5 1 (.slice (some ⟨g, 0, none⟩) n c) n (Lib.byteCells l)) : Lib.Bytes w g 0 ⟨l.toArray⟩ := by
  intro i hi
  have hi' : i < l.length := by simpa [ByteArray.size] using hi
  have := h.cells (g := g) rfl i (.int .u8 (l[i]).toNat) (by simp [Lib.byteCells, hi'])
  have e : (⟨g, 0, none⟩ : Addr).add i = ⟨g, 0 + i, none⟩ := by unfold Addr.add; split <;> simp_all
  rw [e] at this
  exact this
theorem conv_own {w : World} {B g n c : Nat} {l : List UInt8} (h : w.ownsRow B 5 1 (.slice (some ⟨g, 0, none⟩) n c) n (Lib.byteCells l)) (hn : l.length = n) :
    (convert 56 9 (.slice (some ⟨g, 0, none⟩) n c)).run Try.prog w = .ok (.string ⟨l.toArray⟩) w := by
  have := Lib.run_convert_whole (P := Try.prog) w 56 5 9 Try.underlying56 Try.underlying5 Try.underlying9 g 0 ⟨l.toArray⟩ (bytes_own h) c
  have e : (⟨l.toArray⟩ : ByteArray).size = n := by simp [ByteArray.size, hn]
  rw [e] at this
  exact this

end Go.Proofs.Ytigakbhficoonaa.Str
