/- Quoted texts: what the program's quoted and the model's l2Quoted come to. -/
import Derived.Test.YtbijhkbmgljjiaaGreatDoorBld
import Derived.Test.YtbijhkbmgljjiaaGreatDoorTx
import Derived.Lib.SlBytesRow
namespace Go.Proofs.YtbijhkbmgljjiaaGreatDoor.Fil
open Go.RowKit

def esc (c : UInt8) : List UInt8 := if c = 34 ∨ c = 92 then [92, c] else [c]
def quoP (l : List UInt8) : List UInt8 := 34 :: l.flatMap esc
def quoB (l : List UInt8) : List UInt8 := quoP l ++ [34]

theorem bc_snoc (l : List UInt8) (c : UInt8) : Lib.byteCells l ++ [.int .u8 c.toNat] = Lib.byteCells (l ++ [c]) := by simp [Lib.byteCells]
theorem quoP_yes (s : ByteArray) (k : Nat) (h : k < s.size) (he : s[k].toNat = 34 ∨ s[k].toNat = 92) : quoP (s.data.toList.take (k + 1)) = quoP (s.data.toList.take k) ++ [92] ++ [s[k]] := by
  have e : esc s[k] = [92, s[k]] := by
    unfold esc; rw [if_pos]
    rcases he with he | he
    · exact .inl (UInt8.toNat_inj.1 he)
    · exact .inr (UInt8.toNat_inj.1 he)
  unfold quoP
  rw [List.take_succ_eq_append_getElem (by simpa using h), List.flatMap_append]
  have : s.data.toList[k]'(by simpa using h) = s[k] := rfl
  rw [this]; simp [e]
theorem quoP_no (s : ByteArray) (k : Nat) (h : k < s.size) (h1 : s[k].toNat ≠ 34) (h2 : s[k].toNat ≠ 92) : quoP (s.data.toList.take (k + 1)) = quoP (s.data.toList.take k) ++ [s[k]] := by
  have e : esc s[k] = [s[k]] := by
    unfold esc; rw [if_neg]
    rintro (he | he)
    · exact h1 (by rw [he]; rfl)
    · exact h2 (by rw [he]; rfl)
  unfold quoP
  rw [List.take_succ_eq_append_getElem (by simpa using h), List.flatMap_append]
  have : s.data.toList[k]'(by simpa using h) = s[k] := rfl
  rw [this]; simp [e]
theorem quoP_len (l : List UInt8) : (quoP l).length ≤ 2 * l.length + 1 := by
  unfold quoP
  simp only [List.length_cons]
  induction l with
  | nil => simp
  | cons c r ih =>
    simp only [List.flatMap_cons, List.length_append, List.length_cons]
    have : (esc c).length ≤ 2 := by unfold esc; split <;> simp
    omega
theorem quoP_lens (s : ByteArray) (k : Nat) (h : k ≤ s.size) : (Lib.byteCells (quoP (s.data.toList.take k))).length ≤ 2 * k + 1 := by
  rw [Lib.byteCells_length]
  refine Nat.le_trans (quoP_len _) ?_
  simp; omega
theorem quoB_all (s : ByteArray) (k : Nat) (h : s.size ≤ k) : quoP (s.data.toList.take k) ++ [34] = quoB s.data.toList := by
  rw [List.take_of_length_le (by simpa using h)]; rfl

set_option maxHeartbeats 1000000 in
theorem f44 (s : ByteArray) (w : World) (hs : s.size ≤ 1048576) : Calls Tryz.prog 44 #[.string s] w fun e w' => e = .returned (.string ⟨(quoB s.data.toList).toArray⟩) ∧ Below w.heap.size w w' := by
  go_enter Tryz.func44, Tryz.ntmps44
  go_wp2_with fail
  refine (Tryz.Builder_WriteByte w.heap.size w.heap.size [] 34 _ (Lib.fresh_isBuilder 76 5 w) (by simp) (by simp)).mono ?_
  rintro e w1 ⟨rfl, h1, hb1⟩
  have HI1 : Hid (Lib.IsBuilder 76 5 w.heap.size w.heap.size (Lib.byteCells (quoP (s.data.toList.take 0))) w1) := by
    have : Lib.byteCells (quoP (s.data.toList.take 0)) = [] ++ [.int .u8 34] := by simp [Lib.byteCells, quoP]
    unfold Hid; rw [this]; exact .inr h1
  have HB1 := hid (((Below.refl w.heap.size w).alloc (Nat.le_refl _) (.cells #[.pointer none, .slice none 0 0] 76)).trans hb1)
  clear h1 hb1
  go_wp2
  go_loopw [8] (fun i wr => ∃ k : Nat, k ≤ s.size ∧ i = .int .i64 k ∧ Hid (Lib.IsBuilder 76 5 w.heap.size w.heap.size (Lib.byteCells (quoP (s.data.toList.take k))) wr) ∧ Hid (Below w.heap.size w wr)) (fun i _ => s.size - (intOf i).toNat)
  case atStart => exact ⟨0, Nat.zero_le _, rfl, HI1, HB1⟩
  case round =>
    obtain ⟨k, hk, rfl, HI, HB⟩ := hrel
    have hl := quoP_lens s k hk
    by_cases hlt : k < s.size
    · by_cases he : (s[k].toNat : Int) = 34 ∨ (s[k].toNat : Int) = 92
      · have HQ := hid (quoP_yes s k hlt (by omega))
        have hc : (((s[k].toNat : Int) == 34) = true) ∨ (((s[k].toNat : Int) == 34) = false ∧ ((s[k].toNat : Int) == 92) = true) := by
          rcases he with he | he
          · left; simpa using he
          · right; simp [he]
        clear he
        rcases hc with h1 | ⟨h1, h2⟩
        all_goals
          go_wp2_with fail
          refine (Tryz.Builder_WriteByte w.heap.size w.heap.size _ 92 _ HI.out (by omega) HB.out.size).mono ?_
          rintro e w2 ⟨rfl, h3, hb2⟩
          have HB2 := hid (HB.out.trans hb2)
          have HI2 : Hid (Lib.IsBuilder 76 5 w.heap.size w.heap.size _ w2) := .inr h3
          clear h3 hb2
          go_wp2_with fail
          refine (Tryz.Builder_WriteByte w.heap.size w.heap.size _ _ _ HI2.out (by simp; omega) HB2.out.size).mono ?_
          rintro e w3 ⟨rfl, h3, hb3⟩
          have HB3 := hid (HB2.out.trans hb3)
          have HI3 : Hid (Lib.IsBuilder 76 5 w.heap.size w.heap.size (Lib.byteCells (quoP (s.data.toList.take (k + 1)))) w3) := by
            unfold Hid; rw [HQ.out, ← bc_snoc, ← bc_snoc]; exact .inr h3
          clear h3 hb3
          go_wp2
          go_roundw
          case rel => exact ⟨k + 1, by omega, by go_num, HI3, HB3⟩
          case measure => simp [intOf]; omega
      · have h1 : ((s[k].toNat : Int) == 34) = false := by simp; omega
        have h2 : ((s[k].toNat : Int) == 92) = false := by simp; omega
        have HQ := hid (quoP_no s k hlt (by omega) (by omega))
        clear he
        go_wp2_with fail
        refine (Tryz.Builder_WriteByte w.heap.size w.heap.size _ _ _ HI.out (by omega) HB.out.size).mono ?_
        rintro e w2 ⟨rfl, h3, hb2⟩
        have HB2 := hid (HB.out.trans hb2)
        have HI2 : Hid (Lib.IsBuilder 76 5 w.heap.size w.heap.size (Lib.byteCells (quoP (s.data.toList.take (k + 1)))) w2) := by
          unfold Hid; rw [HQ.out, ← bc_snoc]; exact .inr h3
        clear h3 hb2
        go_wp2
        go_roundw
        case rel => exact ⟨k + 1, by omega, by go_num, HI2, HB2⟩
        case measure => simp [intOf]; omega
    · have HQ := hid (quoB_all s k (by omega))
      go_wp2_with fail
      refine (Tryz.Builder_WriteByte w.heap.size w.heap.size _ 34 _ HI.out (by omega) HB.out.size).mono ?_
      rintro e w2 ⟨rfl, h2, hb2⟩
      have HI2 : Hid (Lib.IsBuilder 76 5 w.heap.size w.heap.size (Lib.byteCells (quoB s.data.toList)) w2) := by
        have := bc_snoc (quoP (s.data.toList.take k)) 34
        rw [HQ.out] at this
        unfold Hid; rw [← this]; exact .inr h2
      have HB2 := hid (HB.out.trans hb2)
      clear h2 hb2
      go_wp2_with fail
      refine (Tryz.Builder_String_any w.heap.size w.heap.size _ _ HI2.out HB2.out.size).mono ?_
      rintro e w3 ⟨rfl, hb3⟩
      have HB3 := hid (HB2.out.trans hb3)
      go_wp2
      go_ret
      exact ⟨rfl, HB3.out⟩

theorem one_nw (w : World) (x : Value) (t : TypeId) : ∀ j u, [x][j]? = some u → (w.alloc (.cells #[x] t)).cell? ((⟨w.heap.size, 0, none⟩ : Addr).add j) = some u := by
  intro j u hj
  match j, hj with
  | 0, hj => simp at hj; subst hj; simp [Addr.add]
  | j + 1, hj => simp at hj
theorem info5 : (Tryz.prog.info? 5).map (fun i => (i.zero, i.size, i.bytes)) = some (some (.int .u8 0), 1, 1) := by kernel_rfl
theorem own_form1 {w : World} {base e size n : Nat} {v : Value} {xs : List Value} (h : w.ownsRow base e size v n xs) (hn : 0 < n) : ∃ g c, v = .slice (some ⟨g, 0, none⟩) n c := by
  rcases h.2 with ⟨_, h2⟩ | ⟨g, cap, cur, h1, _⟩
  · omega
  · exact ⟨g, cap, h1⟩
theorem bytes_own {w : World} {B g n c : Nat} {l : List UInt8} (h : w.ownsRow B 5 1 (.slice (some ⟨g, 0, none⟩) n c) n (Lib.byteCells l)) : Lib.Bytes w g 0 ⟨l.toArray⟩ := by
  intro i hi
  have hi' : i < l.length := by simpa [ByteArray.size] using hi
  have := h.cells (g := g) rfl i (.int .u8 (l[i]).toNat) (by simp [Lib.byteCells, hi'])
  have e : (⟨g, 0, none⟩ : Addr).add i = ⟨g, 0 + i, none⟩ := by unfold Addr.add; split <;> simp_all
  rw [e] at this
  exact this
theorem conv_own {w : World} {B g n c : Nat} {l : List UInt8} (h : w.ownsRow B 5 1 (.slice (some ⟨g, 0, none⟩) n c) n (Lib.byteCells l)) (hn : l.length = n) :
    (convert 61 9 (.slice (some ⟨g, 0, none⟩) n c)).run Tryz.prog w = .ok (.string ⟨l.toArray⟩) w := by
  have := Lib.run_convert_whole (P := Tryz.prog) w 61 5 9 Tryz.underlying61 Tryz.underlying5 Tryz.underlying9 g 0 ⟨l.toArray⟩ (bytes_own h) c
  have e : (⟨l.toArray⟩ : ByteArray).size = n := by simp [ByteArray.size, hn]
  rw [e] at this
  exact this

set_option maxHeartbeats 1000000 in
theorem f32 (s : ByteArray) (w : World) (hs : s.size ≤ 1048576) : Calls Tryz.prog 32 #[.string s] w fun e w' => e = .returned (.string ⟨(quoB s.data.toList).toArray⟩) ∧ Below w.heap.size w w' := by
  obtain ⟨i0, hi, hz0, hz1, hz2⟩ := info_parts info5
  go_enter Tryz.func32, Tryz.ntmps32
  go_wp2
  go_loopw [3, 4] (fun so i wr => ∃ (k m g c : Nat), k ≤ s.size ∧ i = .int .i64 k ∧ so = .slice (some ⟨g, 0, none⟩) m c ∧ m ≤ 2 * k + 1 ∧ Hid (wr.ownsRow w.heap.size 5 1 (.slice (some ⟨g, 0, none⟩) m c) m (Lib.byteCells (quoP (s.data.toList.take k)))) ∧ Hid (Below w.heap.size w wr)) (fun _ i _ => s.size - (intOf i).toNat)
  case atStart =>
    refine ⟨0, 1, w.heap.size, 1, Nat.zero_le _, rfl, rfl, by omega, ?_, (Below.refl _ _).alloc (Nat.le_refl _) _⟩
    have := World.ownsRow_lit (base := w.heap.size) (e := 5) (size := 1) w #[.int .u8 34] 1 (Nat.le_refl _) (by unfold maxLen; omega) rfl
    unfold Hid
    simpa [quoP, Lib.byteCells] using this
  case round =>
    obtain ⟨k, m, g, c, hk, rfl, rfl, hm, HO, HB⟩ := hrel
    by_cases hlt : k < s.size
    · by_cases he : (s[k].toNat : Int) = 34 ∨ (s[k].toNat : Int) = 92
      · have HQ := hid (quoP_yes s k hlt (by omega))
        have hc : (((s[k].toNat : Int) == 34) = true) ∨ (((s[k].toNat : Int) == 34) = false ∧ ((s[k].toNat : Int) == 92) = true) := by
          rcases he with he | he
          · left; simpa using he
          · right; simp [he]
        clear he
        rcases hc with h1 | ⟨h1, h2⟩
        all_goals
          go_wp2_with (at_builtin; refine wpList_append_own _ rfl (.tmp 22) (.tmp 23) 61 rfl w.heap.size 5 i0 (.int .u8 0) 1 1 Tryz.underlying61 hi hz0 hz1 hz2 rfl (by decide) _ _ _ rfl (HO.out.alloc _) ⟨wr.heap.size, 0, none⟩ 1 1 [.int .u8 92] rfl rfl ?d1 ?d2 ?d3 ?d4 ?d5 ?_)
          case d1 => exact one_nw _ _ _
          case d2 => intro u hu; simp at hu; subst hu; rfl
          case d3 => unfold maxLen; omega
          case d4 => omega
          case d5 => have := HB.out.size; simp; omega
          intro v1 w3 hown1 hgr1 _
          obtain ⟨g1, c1, rfl⟩ := own_form1 hown1 (by omega)
          have HB1 := hid ((HB.out.alloc HB.out.size (.cells #[.int .u8 92] 5)).grown hgr1 (by have := HB.out.size; simp; omega) (fun k hk => (HO.out.lt k hk).1))
          have HO1 := hid hown1
          clear hown1 hgr1
          go_wp2_with (at_builtin; refine wpList_append_own _ rfl (.tmp 25) (.tmp 29) 61 rfl w.heap.size 5 i0 (.int .u8 0) 1 1 Tryz.underlying61 hi hz0 hz1 hz2 rfl (by decide) _ _ _ rfl (HO1.out.alloc _) ⟨w3.heap.size, 0, none⟩ 1 1 [.int .u8 s[k].toNat] rfl rfl ?d1 ?d2 ?d3 ?d4 ?d5 ?_)
          case d1 => exact one_nw _ _ _
          case d2 => intro u hu; simp at hu; subst hu; rfl
          case d3 => unfold maxLen; omega
          case d4 => omega
          case d5 => have := HB1.out.size; simp; omega
          intro v2 w4 hown2 hgr2 _
          obtain ⟨g2, c2, rfl⟩ := own_form1 hown2 (by omega)
          have HB2 := hid ((HB1.out.alloc HB1.out.size (.cells #[.int .u8 s[k].toNat] 5)).grown hgr2 (by have := HB1.out.size; simp; omega) (fun k hk => (HO1.out.lt k hk).1))
          have HO2 : Hid (w4.ownsRow w.heap.size 5 1 (.slice (some ⟨g2, 0, none⟩) (m + 1 + 1) c2) (m + 1 + 1) (Lib.byteCells (quoP (s.data.toList.take (k + 1))))) := by
            unfold Hid; rw [HQ.out, ← bc_snoc, ← bc_snoc, List.append_assoc]; exact hown2
          clear hown2 hgr2
          go_wp2
          go_roundw
          case rel => exact ⟨k + 1, m + 1 + 1, g2, c2, by omega, by go_num, rfl, by omega, HO2, HB2⟩
          case measure => simp [intOf]; omega
      · have h1 : ((s[k].toNat : Int) == 34) = false := by simp; omega
        have h2 : ((s[k].toNat : Int) == 92) = false := by simp; omega
        have HQ := hid (quoP_no s k hlt (by omega) (by omega))
        clear he
        go_wp2_with (at_builtin; refine wpList_append_own _ rfl (.tmp 25) (.tmp 29) 61 rfl w.heap.size 5 i0 (.int .u8 0) 1 1 Tryz.underlying61 hi hz0 hz1 hz2 rfl (by decide) _ _ _ rfl (HO.out.alloc _) ⟨wr.heap.size, 0, none⟩ 1 1 [.int .u8 s[k].toNat] rfl rfl ?d1 ?d2 ?d3 ?d4 ?d5 ?_)
        case d1 => exact one_nw _ _ _
        case d2 => intro u hu; simp at hu; subst hu; rfl
        case d3 => unfold maxLen; omega
        case d4 => omega
        case d5 => have := HB.out.size; simp; omega
        intro v2 w4 hown2 hgr2 _
        obtain ⟨g2, c2, rfl⟩ := own_form1 hown2 (by omega)
        have HB2 := hid ((HB.out.alloc HB.out.size (.cells #[.int .u8 s[k].toNat] 5)).grown hgr2 (by have := HB.out.size; simp; omega) (fun k hk => (HO.out.lt k hk).1))
        have HO2 : Hid (w4.ownsRow w.heap.size 5 1 (.slice (some ⟨g2, 0, none⟩) (m + 1) c2) (m + 1) (Lib.byteCells (quoP (s.data.toList.take (k + 1))))) := by
          unfold Hid; rw [HQ.out, ← bc_snoc]; exact hown2
        clear hown2 hgr2
        go_wp2
        go_roundw
        case rel => exact ⟨k + 1, m + 1, g2, c2, by omega, by go_num, rfl, by omega, HO2, HB2⟩
        case measure => simp [intOf]; omega
    · have HQ := hid (quoB_all s k (by omega))
      go_wp2_with (at_builtin; refine wpList_append_own _ rfl (.tmp 31) (.tmp 32) 61 rfl w.heap.size 5 i0 (.int .u8 0) 1 1 Tryz.underlying61 hi hz0 hz1 hz2 rfl (by decide) _ _ _ rfl (HO.out.alloc _) ⟨wr.heap.size, 0, none⟩ 1 1 [.int .u8 34] rfl rfl ?d1 ?d2 ?d3 ?d4 ?d5 ?_)
      case d1 => exact one_nw _ _ _
      case d2 => intro u hu; simp at hu; subst hu; rfl
      case d3 => unfold maxLen; omega
      case d4 => omega
      case d5 => have := HB.out.size; simp; omega
      intro v1 w3 hown1 hgr1 _
      obtain ⟨g1, c1, rfl⟩ := own_form1 hown1 (by omega)
      have HB1 := hid ((HB.out.alloc HB.out.size (.cells #[.int .u8 34] 5)).grown hgr1 (by have := HB.out.size; simp; omega) (fun k hk => (HO.out.lt k hk).1))
      have hcv : (convert 61 9 (.slice (some ⟨g1, 0, none⟩) (m + 1) c1)).run Tryz.prog w3 = .ok (.string ⟨(quoB s.data.toList).toArray⟩) w3 := by
        have hsn := bc_snoc (quoP (s.data.toList.take k)) 34
        rw [HQ.out] at hsn
        have ho : w3.ownsRow w.heap.size 5 1 (.slice (some ⟨g1, 0, none⟩) (m + 1) c1) (m + 1) (Lib.byteCells (quoB s.data.toList)) := by rw [← hsn]; exact hown1
        refine conv_own ho ?_
        have := ho.1
        rw [Lib.byteCells_length] at this
        omega
      clear hown1 hgr1
      go_wp2
      go_ret
      exact ⟨rfl, HB1.out⟩
end Go.Proofs.YtbijhkbmgljjiaaGreatDoor.Fil
