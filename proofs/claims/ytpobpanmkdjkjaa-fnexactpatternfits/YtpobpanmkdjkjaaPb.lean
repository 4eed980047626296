/- The program's runs asked about a text: the tests that closures are, begins, find. -/
import Derived.Test.YtpobpanmkdjkjaaPm
import Derived.Test.YtpobpanmkdjkjaaPai
import Derived.Deep.RegionHeld3
import Derived.Lib.Strings
import Derived.Lib.BufferOwn
namespace Go.Proofs.Ytpobpanmkdjkjaa.Pat
open Go.RowKit

abbrev Blk := Nat → Prop
/-- A test for an item; the box that it holds is one of S. -/
def ItW (S : Blk) (w : World) (v : Value) (x : Int) : Prop :=
  (x = -2 ∧ v = .func (.func 70) #[] #[]) ∨ ∃ (b : Nat) (c : UInt8), S b ∧ x = (c.toNat : Int) ∧ v = .func (.func 72) #[] #[.pointer (some ⟨b, 0, none⟩)] ∧ w.heap[b]? = some (.cells #[.int .u8 (c.toNat : Int)] 5)
/-- A row of tests for the items of a run; all of it is in S. -/
def RunW (S : Blk) (w : World) (v : Value) (r : List Int) : Prop :=
  ∃ vs, w.ownsRow 0 82 1 v r.length vs ∧ (∀ g, v.ownBlock = some g → S g) ∧ ∀ (i : Nat) (x : Int), r[i]? = some x → ∃ u, vs[i]? = some u ∧ ItW S w u x
/-- A row of runs. -/
def AltW (S : Blk) (w : World) (v : Value) (a : List (List Int)) : Prop :=
  ∃ vs, w.ownsRow 0 96 1 v a.length vs ∧ (∀ g, v.ownBlock = some g → S g) ∧ ∀ (i : Nat) (r : List Int), a[i]? = some r → ∃ u, vs[i]? = some u ∧ RunW S w u r
/-- A row of alternatives. -/
def AllW (S : Blk) (w : World) (v : Value) (A : List (List (List Int))) : Prop :=
  ∃ vs, w.ownsRow 0 79 1 v A.length vs ∧ (∀ g, v.ownBlock = some g → S g) ∧ ∀ (i : Nat) (a : List (List Int)), A[i]? = some a → ∃ u, vs[i]? = some u ∧ AltW S w u a
/-- What is in S is as it was. -/
def Agree (S : Blk) (w w' : World) : Prop := ∀ k, S k → w'.heap[k]? = w.heap[k]?
theorem own_agree {w w' : World} {base e size n : Nat} {v : Value} {xs : List Value} (h : w.ownsRow base e size v n xs) (hg : ∀ g, v.ownBlock = some g → w'.heap[g]? = w.heap[g]?) : w'.ownsRow base e size v n xs := by
  refine ⟨h.1, ?_⟩
  rcases h.2 with h1 | ⟨g, cap, cur, rfl, h2, h3, h4⟩
  · exact .inl h1
  · exact .inr ⟨g, cap, cur, rfl, h2, (hg g rfl).trans h3, h4⟩
theorem ItW.agree {S : Blk} {w w' : World} {v : Value} {x : Int} (h : ItW S w v x) (ha : Agree S w w') : ItW S w' v x := by
  rcases h with h | ⟨b, c, h1, h2, h3, h4⟩
  · exact .inl h
  · exact .inr ⟨b, c, h1, h2, h3, (ha b h1).trans h4⟩
theorem RunW.agree {S : Blk} {w w' : World} {v : Value} {r : List Int} (h : RunW S w v r) (ha : Agree S w w') : RunW S w' v r := by
  obtain ⟨vs, h1, h2, h3⟩ := h
  exact ⟨vs, own_agree h1 (fun g hg => ha g (h2 g hg)), h2, fun i x hi => by obtain ⟨u, hu, hx⟩ := h3 i x hi; exact ⟨u, hu, hx.agree ha⟩⟩
theorem AltW.agree {S : Blk} {w w' : World} {v : Value} {a : List (List Int)} (h : AltW S w v a) (ha : Agree S w w') : AltW S w' v a := by
  obtain ⟨vs, h1, h2, h3⟩ := h
  exact ⟨vs, own_agree h1 (fun g hg => ha g (h2 g hg)), h2, fun i x hi => by obtain ⟨u, hu, hx⟩ := h3 i x hi; exact ⟨u, hu, hx.agree ha⟩⟩
theorem AllW.agree {S : Blk} {w w' : World} {v : Value} {a : List (List (List Int))} (h : AllW S w v a) (ha : Agree S w w') : AllW S w' v a := by
  obtain ⟨vs, h1, h2, h3⟩ := h
  exact ⟨vs, own_agree h1 (fun g hg => ha g (h2 g hg)), h2, fun i x hi => by obtain ⟨u, hu, hx⟩ := h3 i x hi; exact ⟨u, hu, hx.agree ha⟩⟩
theorem Agree.below {S : Blk} {w w' : World} (hS : ∀ k, S k → k < w.heap.size) (hb : Below w.heap.size w w') : Agree S w w' := fun k hk => hb.block k (hS k hk)
theorem ItW.mono {S S' : Blk} {w : World} {v : Value} {x : Int} (h : ItW S w v x) (hs : ∀ k, S k → S' k) : ItW S' w v x := by
  rcases h with h | ⟨b, c, h1, h2, h3, h4⟩
  · exact .inl h
  · exact .inr ⟨b, c, hs b h1, h2, h3, h4⟩
theorem RunW.mono {S S' : Blk} {w : World} {v : Value} {r : List Int} (h : RunW S w v r) (hs : ∀ k, S k → S' k) : RunW S' w v r := by
  obtain ⟨vs, h1, h2, h3⟩ := h
  exact ⟨vs, h1, fun g hg => hs g (h2 g hg), fun i x hi => by obtain ⟨u, hu, hx⟩ := h3 i x hi; exact ⟨u, hu, hx.mono hs⟩⟩
theorem AltW.mono {S S' : Blk} {w : World} {v : Value} {a : List (List Int)} (h : AltW S w v a) (hs : ∀ k, S k → S' k) : AltW S' w v a := by
  obtain ⟨vs, h1, h2, h3⟩ := h
  exact ⟨vs, h1, fun g hg => hs g (h2 g hg), fun i x hi => by obtain ⟨u, hu, hx⟩ := h3 i x hi; exact ⟨u, hu, hx.mono hs⟩⟩

theorem one_cell {w : World} {b : Nat} {u : Value} {t : TypeId} (h : w.heap[b]? = some (.cells #[u] t)) : w.cell? ⟨b, 0, none⟩ = some u := by
  unfold World.cell?; simp only [h]; rfl
theorem f70 (z : Int) (w : World) : Calls Try.prog 70 #[.int .u8 z] w fun e w' => e = .returned (.bool true) ∧ w' = w := by
  go_enter Try.func70, Try.ntmps70
  go_wp2
  go_ret
  exact ⟨rfl, rfl⟩
theorem f72 (z : Int) (b : Nat) (c : UInt8) (w : World) (h : w.heap[b]? = some (.cells #[.int .u8 (c.toNat : Int)] 5)) : Calls Try.prog 72 #[.int .u8 z, .pointer (some ⟨b, 0, none⟩)] w fun e w' => e = .returned (.bool (z == (c.toNat : Int))) ∧ w' = w := by
  have c0 := one_cell h
  go_enter Try.func72, Try.ntmps72
  go_wp2
  go_ret
  exact ⟨rfl, rfl⟩

theorem pre_step {r : List Int} {l : List UInt8} {k : Nat} {x : Int} {c : UInt8} (h1 : r[k]? = some x) (h2 : l[k]? = some c) : pre (r.drop k) (l.drop k) = (fitI x c && pre (r.drop (k + 1)) (l.drop (k + 1))) := by
  obtain ⟨hk1, rfl⟩ := List.getElem?_eq_some_iff.1 h1
  obtain ⟨hk2, rfl⟩ := List.getElem?_eq_some_iff.1 h2
  rw [List.drop_eq_getElem_cons hk1, List.drop_eq_getElem_cons hk2]
  rfl
theorem str_at (s : ByteArray) (k : Nat) (h : k < s.size) : s.data.toList[k]? = some s[k] := by
  have h' : k < s.data.toList.length := by simpa using h
  rw [List.getElem?_eq_getElem h']; rfl

set_option maxHeartbeats 2000000 in
theorem f83 (S : Blk) (v : Value) (r : List Int) (s : ByteArray) (w : World) (h : RunW S w v r) (_hr : r.length ≤ 1000) (hs : s.size ≤ maxLen) :
    Calls Try.prog 83 #[v, .string s] w fun e w' => e = .returned (.bool (pre r s.data.toList)) ∧ w' = w := by
  unfold maxLen at hs
  obtain ⟨vs, h1, h2, h3⟩ := h
  obtain ⟨a, cp, rfl⟩ := own_form h1
  have HO := hid h1
  have HI := hid h3
  obtain ⟨n, hn⟩ : ∃ n, n = r.length := ⟨_, rfl⟩
  have HN := hid hn
  rw [← hn] at HO _hr ⊢
  clear hn h1 h2 h3
  by_cases hlt0 : s.size < n
  · have HP : Hid (pre r s.data.toList = false) := by
      unfold Hid
      cases hp : pre r s.data.toList with
      | false => rfl
      | true => have := pre_len _ _ hp; rw [← HN.out] at this; simp at this; omega
    go_enter Try.func83, Try.ntmps83
    go_wp2
    go_ret
    exact ⟨by rw [HP.out]; rfl, rfl⟩
  · go_enter Try.func83, Try.ntmps83
    go_wp2
    go_loop [14] (fun i => ∃ k : Nat, k ≤ n ∧ i = .int .i64 k ∧ Hid (pre r s.data.toList = pre (r.drop k) (s.data.toList.drop k))) (fun i => n - (intOf i).toNat)
    case atStart => exact ⟨0, Nat.zero_le _, rfl, rfl⟩
    case round =>
      obtain ⟨k, hk, rfl, HP⟩ := hrel
      by_cases hlt : k < n
      · have hks : k < s.size := by omega
        have hx : r[k]? = some (r[k]'(by rw [← HN.out]; exact hlt)) := List.getElem?_eq_getElem _
        generalize (r[k]'(by rw [← HN.out]; exact hlt)) = x at hx
        obtain ⟨u, hu, hit⟩ := HI.out k x hx
        have HST := hid (pre_step hx (str_at s k hks))
        rcases HO.out.2 with ⟨_, h0⟩ | ⟨g, cap, cur, hv, _⟩
        · omega
        simp only [Value.slice.injEq] at hv
        obtain ⟨rfl, -, rfl⟩ := hv
        have c0 := (HO.out.cellAt k (by omega)).trans (show vs[k]? = some u from hu)
        have i1 : (k : Int) < (n : Int) := by omega
        rcases hit with ⟨hx2, rfl⟩ | ⟨b, c, _, hxc, rfl, hb⟩
        · have HP2 : Hid (pre r s.data.toList = pre (r.drop (k + 1)) (s.data.toList.drop (k + 1))) := by
            unfold Hid; rw [HP.out, HST.out, hx2]; simp [fitI]
          clear hx2 hx hu HST
          go_wp2_with (go_at_call 70; refine (f70 _ _).mono ?_; rintro e w' ⟨rfl, hw⟩; have hw2 := hw.symm; clear hw; subst hw2)
          go_round
          case rel => exact ⟨k + 1, by omega, by go_num, HP2⟩
          case measure => simp [intOf]; omega
        · by_cases he : s[k] = c
          · have HP2 : Hid (pre r s.data.toList = pre (r.drop (k + 1)) (s.data.toList.drop (k + 1))) := by
              unfold Hid; rw [HP.out, HST.out, hxc, he]; simp [fitI]
            have e1 : ((s[k].toNat : Int) == (c.toNat : Int)) = true := by rw [he]; simp
            have HB := hid hb
            clear hx hu HST he hxc hb
            go_wp2_with (go_at_call 72; refine (f72 _ b c _ HB.out).mono ?_; rintro e w' ⟨rfl, hw⟩; have hw2 := hw.symm; clear hw; subst hw2)
            go_round
            case rel => exact ⟨k + 1, by omega, by go_num, HP2⟩
            case measure => simp [intOf]; omega
          · have hne : ¬ (s[k].toNat : Int) = (c.toNat : Int) := fun h => he (UInt8.toNat_inj.1 (by omega))
            have HP2 : Hid (pre r s.data.toList = false) := by
              unfold Hid; rw [HP.out, HST.out, hxc]
              have e2 : ((c.toNat : Int) == (s[k].toNat : Int)) = false := by rw [beq_eq_false_iff_ne]; exact fun h => hne h.symm
              have e3 : ((c.toNat : Int) == -2) = false := by rw [beq_eq_false_iff_ne]; omega
              simp [fitI, e2, e3]
            have e1 : ((s[k].toNat : Int) == (c.toNat : Int)) = false := by rw [beq_eq_false_iff_ne]; exact hne
            have HB := hid hb
            clear hx hu HST he hxc hb hne
            go_wp2_with (go_at_call 72; refine (f72 _ b c _ HB.out).mono ?_; rintro e w' ⟨rfl, hw⟩; have hw2 := hw.symm; clear hw; subst hw2)
            go_ret
            exact ⟨by rw [HP2.out]; rfl, rfl⟩
      · have HP2 : Hid (pre r s.data.toList = true) := by
          unfold Hid; rw [HP.out, List.drop_eq_nil_of_le (by rw [← HN.out]; omega)]; simp [pre]
        go_wp2
        go_ret
        exact ⟨by rw [HP2.out]; rfl, rfl⟩

/-- The first place from at on where the run stands in the text. -/
def FindR (r : List Int) (l : List UInt8) (t : Nat) : Option Nat → Prop
  | none => ∀ e, t ≤ e → e + r.length ≤ l.length → pre r (l.drop e) = false
  | some k => t ≤ k ∧ k + r.length ≤ l.length ∧ pre r (l.drop k) = true ∧ ∀ e, t ≤ e → e < k → pre r (l.drop e) = false
def optI : Option Nat → Int
  | none => -1
  | some k => (k : Int)
theorem ext_list (s : ByteArray) (t : Nat) : (s.extract t s.size).data.toList = s.data.toList.drop t := by
  rw [Lib.extract_data, List.take_of_length_le (by simp)]
theorem ext_le (s : ByteArray) (t : Nat) (hs : s.size ≤ 1000) : (s.extract t s.size).size ≤ maxLen := by
  unfold maxLen; rw [ByteArray.size_extract]; omega
set_option maxHeartbeats 2000000 in
theorem f84 (S : Blk) (v : Value) (r : List Int) (s : ByteArray) (t : Nat) (w : World) (h : RunW S w v r) (hr : r.length ≤ 1000) (hs : s.size ≤ 1000) (ht : t ≤ 1000) :
    Calls Try.prog 84 #[v, .string s, .int .i64 t] w fun e w' => (∃ k, e = .returned (.int .i64 (optI k)) ∧ FindR r s.data.toList t k) ∧ w' = w := by
  obtain ⟨a, cp, rfl⟩ : ∃ a cp, v = .slice a r.length cp := by obtain ⟨vs, h1, _⟩ := h; exact own_form h1
  have HR := hid (fun (k : Nat) => f83 S _ r (s.extract k s.size) w h hr (ext_le s k hs))
  have HL : Hid (s.data.toList.length = s.size) := by unfold Hid; simp
  obtain ⟨n, hn⟩ : ∃ n, n = r.length := ⟨_, rfl⟩
  have HN := hid hn
  rw [← hn] at HR hr ⊢
  clear hn h
  go_enter Try.func84, Try.ntmps84
  go_wp2
  go_loop [2] (fun i => ∃ k : Nat, t ≤ k ∧ k ≤ s.size + 1 + t ∧ i = .int .i64 k ∧ Hid (∀ e, t ≤ e → e < k → pre r (s.data.toList.drop e) = false)) (fun i => s.size + 1 + t - (intOf i).toNat)
  case atStart => exact ⟨t, Nat.le_refl _, by omega, rfl, fun e h1 h2 => by omega⟩
  case round =>
    obtain ⟨k, hk1, hk2, rfl, HA⟩ := hrel
    by_cases hlt : k + n ≤ s.size
    · have i0 : (k : Int) ≤ (s.size : Int) := by omega
      have i1 : (0 : Int) ≤ (k : Int) := by omega
      have HC := hid (HR.out k)
      by_cases hp : pre r (s.data.toList.drop k) = true
      · have HF : Hid (FindR r s.data.toList t (some k)) := ⟨hk1, by rw [HL.out, ← HN.out]; exact hlt, hp, HA.out⟩
        have HP := hid hp
        clear hp
        go_wp2_with (go_at_call 83; refine HC.out.mono ?_; rintro e w' ⟨rfl, hw⟩; have hw2 := hw.symm; clear hw; subst hw2; rw [ext_list, HP.out])
        go_ret
        exact ⟨⟨some k, rfl, HF.out⟩, rfl⟩
      · have hp' : pre r (s.data.toList.drop k) = false := by simpa using hp
        have HP := hid hp'
        have HA2 : Hid (∀ e, t ≤ e → e < k + 1 → pre r (s.data.toList.drop e) = false) := by
          intro e h1 h2
          by_cases he : e = k
          · subst he; exact HP.out
          · exact HA.out e h1 (by omega)
        clear hp hp'
        go_wp2_with (go_at_call 83; refine HC.out.mono ?_; rintro e w' ⟨rfl, hw⟩; have hw2 := hw.symm; clear hw; subst hw2; rw [ext_list, HP.out])
        go_round
        case rel => exact ⟨k + 1, by omega, by omega, by go_num, HA2⟩
        case measure => simp [intOf]; omega
    · have HF : Hid (FindR r s.data.toList t none) := by
        intro e h1 h2
        rw [HL.out, ← HN.out] at h2
        exact HA.out e h1 (by omega)
      go_wp2
      go_ret
      exact ⟨⟨none, rfl, HF.out⟩, rfl⟩
end Go.Proofs.Ytpobpanmkdjkjaa.Pat
