/- The program's runs asked about a text: the tests that closures are, begins, find. -/
import Derived.Test.YthcogkoleiejgaaGreatRPm
import Derived.Test.YthcogkoleiejgaaGreatRPai
import Derived.Deep.RegionHeld3
import Derived.Lib.Strings
import Derived.Lib.BufferOwn
namespace Go.Proofs.YthcogkoleiejgaaGreat.Pat
open Go.RowKit

abbrev Blk := Nat → Prop
/-- A test for an item; the box that it holds is one of S. -/
def ItW (S : Blk) (w : World) (v : Value) (x : Int) : Prop :=
  (x = -2 ∧ v = .func (.func 98) #[] #[]) ∨ ∃ (b : Nat) (c : UInt8), S b ∧ x = (c.toNat : Int) ∧ v = .func (.func 100) #[] #[.pointer (some ⟨b, 0, none⟩)] ∧ w.heap[b]? = some (.cells #[.int .u8 (c.toNat : Int)] 5)
/-- A row of tests for the items of a run; all of it is in S. -/
def RunW (S : Blk) (w : World) (v : Value) (r : List Int) : Prop :=
  ∃ vs, w.ownsRow 0 125 1 v r.length vs ∧ (∀ g, v.ownBlock = some g → S g) ∧ ∀ (i : Nat) (x : Int), r[i]? = some x → ∃ u, vs[i]? = some u ∧ ItW S w u x
/-- A row of runs. -/
def AltW (S : Blk) (w : World) (v : Value) (a : List (List Int)) : Prop :=
  ∃ vs, w.ownsRow 0 131 1 v a.length vs ∧ (∀ g, v.ownBlock = some g → S g) ∧ ∀ (i : Nat) (r : List Int), a[i]? = some r → ∃ u, vs[i]? = some u ∧ RunW S w u r
/-- A row of alternatives. -/
def AllW (S : Blk) (w : World) (v : Value) (A : List (List (List Int))) : Prop :=
  ∃ vs, w.ownsRow 0 123 1 v A.length vs ∧ (∀ g, v.ownBlock = some g → S g) ∧ ∀ (i : Nat) (a : List (List Int)), A[i]? = some a → ∃ u, vs[i]? = some u ∧ AltW S w u a
/-- What is in S is as it was. -/
def Agree (S : Blk) (w w' : World) : Prop := ∀ k, S k → w'.heap[k]? = w.heap[k]?
theorem own_agree {w w' : World} {base e size n : Nat} {v : Value} {xs : List Value} (h : w.ownsRow base e size v n xs) (hg : ∀ g, v.ownBlock = some g → w'.heap[g]? = w.heap[g]?) : w'.ownsRow base e size v n xs := by
  refine ⟨h.1, ?_⟩
  rcases h.2 with h1 | ⟨g, cap, cur, rfl, h2, h3, h4⟩
  · exact .inl h1
  · exact .inr ⟨g, cap, cur, rfl, h2, (hg g rfl).trans h3, h4⟩
theorem ItW.agree {S : Blk} {w w' : World} {v : Value} {x : Int} (h : ItW S w v x) (ha : Agree S w w') : ItW S w' v x := by
  rcases h with h | ⟨b, c, h1, h2, h3, h4⟩
  · exact .inl h
  · exact .inr ⟨b, c, h1, h2, h3, (ha b h1).trans h4⟩
theorem RunW.agree {S : Blk} {w w' : World} {v : Value} {r : List Int} (h : RunW S w v r) (ha : Agree S w w') : RunW S w' v r := by
  obtain ⟨vs, h1, h2, h3⟩ := h
  exact ⟨vs, own_agree h1 (fun g hg => ha g (h2 g hg)), h2, fun i x hi => by obtain ⟨u, hu, hx⟩ := h3 i x hi; exact ⟨u, hu, hx.agree ha⟩⟩
theorem AltW.agree {S : Blk} {w w' : World} {v : Value} {a : List (List Int)} (h : AltW S w v a) (ha : Agree S w w') : AltW S w' v a := by
  obtain ⟨vs, h1, h2, h3⟩ := h
  exact ⟨vs, own_agree h1 (fun g hg => ha g (h2 g hg)), h2, fun i x hi => by obtain ⟨u, hu, hx⟩ := h3 i x hi; exact ⟨u, hu, hx.agree ha⟩⟩
theorem AllW.agree {S : Blk} {w w' : World} {v : Value} {a : List (List (List Int))} (h : AllW S w v a) (ha : Agree S w w') : AllW S w' v a := by
  obtain ⟨vs, h1, h2, h3⟩ := h
  exact ⟨vs, own_agree h1 (fun g hg => ha g (h2 g hg)), h2, fun i x hi => by obtain ⟨u, hu, hx⟩ := h3 i x hi; exact ⟨u, hu, hx.agree ha⟩⟩
theorem Agree.below {S : Blk} {w w' : World} (hS : ∀ k, S k → k < w.heap.size) (hb : Below w.heap.size w w') : Agree S w w' := fun k hk => hb.block k (hS k hk)
theorem ItW.mono {S S' : Blk} {w : World} {v : Value} {x : Int} (h : ItW S w v x) (hs : ∀ k, S k → S' k) : ItW S' w v x := by
  rcases h with h | ⟨b, c, h1, h2, h3, h4⟩
  · exact .inl h
  · exact .inr ⟨b, c, hs b h1, h2, h3, h4⟩
theorem RunW.mono {S S' : Blk} {w : World} {v : Value} {r : List Int} (h : RunW S w v r) (hs : ∀ k, S k → S' k) : RunW S' w v r := by
  obtain ⟨vs, h1, h2, h3⟩ := h
  exact ⟨vs, h1, fun g hg => hs g (h2 g hg), fun i x hi => by obtain ⟨u, hu, hx⟩ := h3 i x hi; exact ⟨u, hu, hx.mono hs⟩⟩
theorem AltW.mono {S S' : Blk} {w : World} {v : Value} {a : List (List Int)} (h : AltW S w v a) (hs : ∀ k, S k → S' k) : AltW S' w v a := by
  obtain ⟨vs, h1, h2, h3⟩ := h
  exact ⟨vs, h1, fun g hg => hs g (h2 g hg), fun i x hi => by obtain ⟨u, hu, hx⟩ := h3 i x hi; exact ⟨u, hu, hx.mono hs⟩⟩

theorem one_cell {w : World} {b : Nat} {u : Value} {t : TypeId} (h : w.heap[b]? = some (.cells #[u] t)) : w.cell? ⟨b, 0, none⟩ = some u := by
  unfold World.cell?; simp only [h]; rfl
theorem f98 (z : Int) (w : World) : Calls Tryz.prog 98 #[.int .u8 z] w fun e w' => e = .returned (.bool true) ∧ w' = w := by
  go_enter Tryz.func98, Tryz.ntmps98
  go_wp2
  go_ret
  exact ⟨rfl, rfl⟩
theorem f100 (z : Int) (b : Nat) (c : UInt8) (w : World) (h : w.heap[b]? = some (.cells #[.int .u8 (c.toNat : Int)] 5)) : Calls Tryz.prog 100 #[.int .u8 z, .pointer (some ⟨b, 0, none⟩)] w fun e w' => e = .returned (.bool (z == (c.toNat : Int))) ∧ w' = w := by
  have c0 := one_cell h
  go_enter Tryz.func100, Tryz.ntmps100
  go_wp2
  go_ret
  exact ⟨rfl, rfl⟩

theorem pre_step {r : List Int} {l : List UInt8} {k : Nat} {x : Int} {c : UInt8} (h1 : r[k]? = some x) (h2 : l[k]? = some c) : pre (r.drop k) (l.drop k) = (fitI x c && pre (r.drop (k + 1)) (l.drop (k + 1))) := by
  obtain ⟨hk1, rfl⟩ := List.getElem?_eq_some_iff.1 h1
  obtain ⟨hk2, rfl⟩ := List.getElem?_eq_some_iff.1 h2
  rw [List.drop_eq_getElem_cons hk1, List.drop_eq_getElem_cons hk2]
  rfl
theorem str_at (s : ByteArray) (k : Nat) (h : k < s.size) : s.data.toList[k]? = some s[k] := by
  have h' : k < s.data.toList.length := by simpa using h
  rw [List.getElem?_eq_getElem h']; rfl

set_option maxHeartbeats 2000000 in
theorem f101 (S : Blk) (v : Value) (r : List Int) (s : ByteArray) (w : World) (h : RunW S w v r) (_hr : r.length ≤ 1000) (hs : s.size ≤ maxLen) :
    Calls Tryz.prog 101 #[v, .string s] w fun e w' => e = .returned (.bool (pre r s.data.toList)) ∧ w' = w := by
  unfold maxLen at hs
  obtain ⟨vs, h1, h2, h3⟩ := h
  obtain ⟨a, cp, rfl⟩ := own_form h1
  have HO := hid h1
  have HI := hid h3
  obtain ⟨n, hn⟩ : ∃ n, n = r.length := ⟨_, rfl⟩
  have HN := hid hn
  rw [← hn] at HO _hr ⊢
  clear hn h1 h2 h3
  by_cases hlt0 : s.size < n
  · have HP : Hid (pre r s.data.toList = false) := by
      unfold Hid
      cases hp : pre r s.data.toList with
      | false => rfl
      | true => have := pre_len _ _ hp; rw [← HN.out] at this; simp at this; omega
    go_enter Tryz.func101, Tryz.ntmps101
    go_wp2
    go_ret
    exact ⟨by rw [HP.out]; rfl, rfl⟩
  · go_enter Tryz.func101, Tryz.ntmps101
    go_wp2
    go_loop [14] (fun i => ∃ k : Nat, k ≤ n ∧ i = .int .i64 k ∧ Hid (pre r s.data.toList = pre (r.drop k) (s.data.toList.drop k))) (fun i => n - (intOf i).toNat)
    case atStart => exact ⟨0, Nat.zero_le _, rfl, rfl⟩
    case round =>
      obtain ⟨k, hk, rfl, HP⟩ := hrel
      by_cases hlt : k < n
      · have hks : k < s.size := by omega
        have hx : r[k]? = some (r[k]'(by rw [← HN.out]; exact hlt)) := List.getElem?_eq_getElem _
        generalize (r[k]'(by rw [← HN.out]; exact hlt)) = x at hx
        obtain ⟨u, hu, hit⟩ := HI.out k x hx
        have HST := hid (pre_step hx (str_at s k hks))
        rcases HO.out.2 with ⟨_, h0⟩ | ⟨g, cap, cur, hv, _⟩
        · omega
        simp only [Value.slice.injEq] at hv
        obtain ⟨rfl, -, rfl⟩ := hv
        have c0 := (HO.out.cellAt k (by omega)).trans (show vs[k]? = some u from hu)
        have i1 : (k : Int) < (n : Int) := by omega
        rcases hit with ⟨hx2, rfl⟩ | ⟨b, c, _, hxc, rfl, hb⟩
        · have HP2 : Hid (pre r s.data.toList = pre (r.drop (k + 1)) (s.data.toList.drop (k + 1))) := by
            unfold Hid; rw [HP.out, HST.out, hx2]; simp [fitI]
          clear hx2 hx hu HST
          go_wp2_with (go_at_call 98; refine (f98 _ _).mono ?_; rintro e w' ⟨rfl, hw⟩; have hw2 := hw.symm; clear hw; subst hw2)
          go_round
          case rel => exact ⟨k + 1, by omega, by go_num, HP2⟩
          case measure => simp [intOf]; omega
        · by_cases he : s[k] = c
          · have HP2 : Hid (pre r s.data.toList = pre (r.drop (k + 1)) (s.data.toList.drop (k + 1))) := by
              unfold Hid; rw [HP.out, HST.out, hxc, he]; simp [fitI]
            have e1 : ((s[k].toNat : Int) == (c.toNat : Int)) = true := by rw [he]; simp
            have HB := hid hb
            clear hx hu HST he hxc hb
            go_wp2_with (go_at_call 100; refine (f100 _ b c _ HB.out).mono ?_; rintro e w' ⟨rfl, hw⟩; have hw2 := hw.symm; clear hw; subst hw2)
            go_round
            case rel => exact ⟨k + 1, by omega, by go_num, HP2⟩
            case measure => simp [intOf]; omega
          · have hne : ¬ (s[k].toNat : Int) = (c.toNat : Int) := fun h => he (UInt8.toNat_inj.1 (by omega))
            have HP2 : Hid (pre r s.data.toList = false) := by
              unfold Hid; rw [HP.out, HST.out, hxc]
              have e2 : ((c.toNat : Int) == (s[k].toNat : Int)) = false := by rw [beq_eq_false_iff_ne]; exact fun h => hne h.symm
              have e3 : ((c.toNat : Int) == -2) = false := by rw [beq_eq_false_iff_ne]; omega
              simp [fitI, e2, e3]
            have e1 : ((s[k].toNat : Int) == (c.toNat : Int)) = false := by rw [beq_eq_false_iff_ne]; exact hne
            have HB := hid hb
            clear hx hu HST he hxc hb hne
            go_wp2_with (go_at_call 100; refine (f100 _ b c _ HB.out).mono ?_; rintro e w' ⟨rfl, hw⟩; have hw2 := hw.symm; clear hw; subst hw2)
            go_ret
            exact ⟨by rw [HP2.out]; rfl, rfl⟩
      · have HP2 : Hid (pre r s.data.toList = true) := by
          unfold Hid; rw [HP.out, List.drop_eq_nil_of_le (by rw [← HN.out]; omega)]; simp [pre]
        go_wp2
        go_ret
        exact ⟨by rw [HP2.out]; rfl, rfl⟩

/-- The first place from at on where the run stands in the text. -/
def FindR (r : List Int) (l : List UInt8) (t : Nat) : Option Nat → Prop
  | none => ∀ e, t ≤ e → e + r.length ≤ l.length → pre r (l.drop e) = false
  | some k => t ≤ k ∧ k + r.length ≤ l.length ∧ pre r (l.drop k) = true ∧ ∀ e, t ≤ e → e < k → pre r (l.drop e) = false
def optI : Option Nat → Int
  | none => -1
  | some k => (k : Int)
theorem ext_list (s : ByteArray) (t : Nat) : (s.extract t s.size).data.toList = s.data.toList.drop t := by
  rw [Lib.extract_data, List.take_of_length_le (by simp)]
theorem ext_le (s : ByteArray) (t : Nat) (hs : s.size ≤ 1000) : (s.extract t s.size).size ≤ maxLen := by
  unfold maxLen; rw [ByteArray.size_extract]; omega
set_option maxHeartbeats 2000000 in
theorem f102 (S : Blk) (v : Value) (r : List Int) (s : ByteArray) (t : Nat) (w : World) (h : RunW S w v r) (hr : r.length ≤ 1000) (hs : s.size ≤ 1000) (ht : t ≤ 1000) :
    Calls Tryz.prog 102 #[v, .string s, .int .i64 t] w fun e w' => (∃ k, e = .returned (.int .i64 (optI k)) ∧ FindR r s.data.toList t k) ∧ w' = w := by
  obtain ⟨a, cp, rfl⟩ : ∃ a cp, v = .slice a r.length cp := by obtain ⟨vs, h1, _⟩ := h; exact own_form h1
  have HR := hid (fun (k : Nat) => f101 S _ r (s.extract k s.size) w h hr (ext_le s k hs))
  have HL : Hid (s.data.toList.length = s.size) := by unfold Hid; simp
  obtain ⟨n, hn⟩ : ∃ n, n = r.length := ⟨_, rfl⟩
  have HN := hid hn
  rw [← hn] at HR hr ⊢
  clear hn h
  go_enter Tryz.func102, Tryz.ntmps102
  go_wp2
  go_loop [2] (fun i => ∃ k : Nat, t ≤ k ∧ k ≤ s.size + 1 + t ∧ i = .int .i64 k ∧ Hid (∀ e, t ≤ e → e < k → pre r (s.data.toList.drop e) = false)) (fun i => s.size + 1 + t - (intOf i).toNat)
  case atStart => exact ⟨t, Nat.le_refl _, by omega, rfl, fun e h1 h2 => by omega⟩
  case round =>
    obtain ⟨k, hk1, hk2, rfl, HA⟩ := hrel
    by_cases hlt : k + n ≤ s.size
    · have i0 : (k : Int) ≤ (s.size : Int) := by omega
      have i1 : (0 : Int) ≤ (k : Int) := by omega
      have HC := hid (HR.out k)
      by_cases hp : pre r (s.data.toList.drop k) = true
      · have HF : Hid (FindR r s.data.toList t (some k)) := ⟨hk1, by rw [HL.out, ← HN.out]; exact hlt, hp, HA.out⟩
        have HP := hid hp
        clear hp
        go_wp2_with (go_at_call 101; refine HC.out.mono ?_; rintro e w' ⟨rfl, hw⟩; have hw2 := hw.symm; clear hw; subst hw2; rw [ext_list, HP.out])
        go_ret
        exact ⟨⟨some k, rfl, HF.out⟩, rfl⟩
      · have hp' : pre r (s.data.toList.drop k) = false := by simpa using hp
        have HP := hid hp'
        have HA2 : Hid (∀ e, t ≤ e → e < k + 1 → pre r (s.data.toList.drop e) = false) := by
          intro e h1 h2
          by_cases he : e = k
          · subst he; exact HP.out
          · exact HA.out e h1 (by omega)
        clear hp hp'
        go_wp2_with (go_at_call 101; refine HC.out.mono ?_; rintro e w' ⟨rfl, hw⟩; have hw2 := hw.symm; clear hw; subst hw2; rw [ext_list, HP.out])
        go_round
        case rel => exact ⟨k + 1, by omega, by omega, by go_num, HA2⟩
        case measure => simp [intOf]; omega
    · have HF : Hid (FindR r s.data.toList t none) := by
        intro e h1 h2
        rw [HL.out, ← HN.out] at h2
        exact HA.out e h1 (by omega)
      go_wp2
      go_ret
      exact ⟨⟨none, rfl, HF.out⟩, rfl⟩
end Go.Proofs.YthcogkoleiejgaaGreat.Pat
/- An alternative asked about a text: what its parts come to (plain facts; one run). -/
namespace Go.Proofs.YthcogkoleiejgaaGreat.Pat
open Go.RowKit

theorem pre_take : ∀ (r : List Int) (l : List UInt8) (m : Nat), r.length ≤ m → pre r (l.take m) = pre r l
  | [], _, _, _ => by simp [pre]
  | x :: r, [], m, _ => by simp
  | x :: r, c :: l, 0, h => by simp at h
  | x :: r, c :: l, m + 1, h => by
    simp only [List.take_succ_cons, pre]
    rw [pre_take r l m (by simp at h; omega)]
theorem findE_is {f : Nat → Bool} {n k : Nat} (hk : k < n) (hf : f k = true) (hm : ∀ j, j < k → f j = false) : findE f n 0 = some k := by
  cases h : findE f n 0 with
  | none => have := findE_none f n 0 h k (by omega) (by omega); rw [hf] at this; cases this
  | some j =>
    obtain ⟨_, h2, h3, h4⟩ := findE_some f n 0 j h
    by_cases h5 : j < k
    · rw [hm j h5] at h3; cases h3
    · by_cases h6 : k < j
      · have := h4 k (by omega) h6; rw [hf] at this; cases this
      · have : j = k := by omega
        rw [this]
theorem pre_in {r : List Int} {L : List UInt8} {m e : Nat} (h : e + r.length ≤ m) : pre r ((L.take m).drop e) = pre r (L.drop e) := by
  rw [List.drop_take, pre_take _ _ _ (by omega)]
theorem goM_none {r l : List Int} {ms : List (List Int)} {L : List UInt8} {t : Nat} (ht : t + l.length ≤ L.length) (h : FindR r (L.take (L.length - l.length)) t none) : goM (r :: ms) l (L.drop t) = none := by
  have : findE (standsAt r l (L.drop t)) ((L.drop t).length + 1) 0 = none := by
    cases hf : findE (standsAt r l (L.drop t)) ((L.drop t).length + 1) 0 with
    | none => rfl
    | some e =>
      obtain ⟨_, _, h3, _⟩ := findE_some _ _ _ _ hf
      unfold standsAt at h3
      simp only [Bool.and_eq_true, decide_eq_true_eq, List.length_drop, List.drop_drop] at h3
      have := h (t + e) (by omega) (by simp; omega)
      rw [pre_in (by omega), h3.2] at this
      cases this
  simp only [goM, this]
theorem goM_some {r l : List Int} {ms : List (List Int)} {L : List UInt8} {t k : Nat} (ht : t + l.length ≤ L.length) (h : FindR r (L.take (L.length - l.length)) t (some k)) : goM (r :: ms) l (L.drop t) = (goM ms l (L.drop (k + r.length))).map fun q => (L.drop t).take (k - t) :: q := by
  obtain ⟨h1, h2, h3, h4⟩ := h
  simp only [List.length_take] at h2
  rw [pre_in (by omega)] at h3
  have : findE (standsAt r l (L.drop t)) ((L.drop t).length + 1) 0 = some (k - t) := by
    refine findE_is (by simp; omega) ?_ (fun j hj => ?_)
    · unfold standsAt
      rw [List.drop_drop, show t + (k - t) = k from by omega, h3]
      simp; omega
    · unfold standsAt
      by_cases hr : j + r.length + l.length ≤ (L.drop t).length
      · have := h4 (t + j) (by omega) (by omega)
        simp only [List.length_drop] at hr
        rw [pre_in (by omega)] at this
        rw [List.drop_drop, this]; simp
      · simp at hr ⊢; intro h; omega
  simp only [goM, this]
  rw [List.drop_drop, show t + (k - t + r.length) = k + r.length from by omega]
abbrev mkS (l : List UInt8) : ByteArray := ⟨l.toArray⟩
theorem ext_mkS (s : ByteArray) (a b : Nat) : s.extract a b = mkS ((s.data.toList.drop a).take (b - a)) := by
  apply ByteArray.ext
  apply Array.toList_inj.1
  rw [Lib.extract_data]
def txts (ps : List (List UInt8)) : List Value := ps.map fun q => .string (mkS q)
theorem txts_snoc (ps : List (List UInt8)) (q : List UInt8) : txts (ps ++ [q]) = txts ps ++ [.string (mkS q)] := by simp [txts]
theorem txts_len (ps : List (List UInt8)) : (txts ps).length = ps.length := by simp [txts]
/-- What a call of parts leaves. -/
def PartsR (o : Option (List (List UInt8))) (w : World) (e : Ending) (w' : World) : Prop :=
  Below w.heap.size w w' ∧ ((o = none ∧ e = .returned (.tuple #[.slice none 0 0, .bool false])) ∨ ∃ ps a c, o = some ps ∧ e = .returned (.tuple #[.slice a ps.length c, .bool true]) ∧ w'.ownsRow w.heap.size 9 1 (.slice a ps.length c) ps.length (txts ps))

/-- Two cells of a row that are read, in a world that came from w. -/
abbrev CC (w : World) (g i j : Nat) (u v : Value) (w' : World) : Prop := w'.cell? ⟨g, i, none⟩ = some u ∧ w'.cell? ⟨g, j, none⟩ = some v ∧ Below w.heap.size w w' ∧ Agree (fun _ => True) w w'
theorem CC.drew {w w' : World} {g i j : Nat} {u v : Value} (h : CC w g i j u v w') : CC w g i j u v w'.drew := ⟨h.1, h.2.1, h.2.2.1.drew, h.2.2.2⟩

set_option maxHeartbeats 2000000 in
theorem f97a (S : Blk) (v : Value) (r : List Int) (s : ByteArray) (w : World) (h : AltW S w v [r]) (hrun : Run r) (hr : r.length ≤ 1000) (hs : s.size ≤ 1000) :
    Calls Tryz.prog 97 #[v, .string s] w (PartsR (partsI [r] s.data.toList) w) := by
  obtain ⟨vs, h1, h2, h3⟩ := h
  obtain ⟨u, hu, hR⟩ := h3 0 r rfl
  obtain ⟨ar, cr, rfl⟩ : ∃ a c, u = .slice a r.length c := by obtain ⟨_, h1, _⟩ := hR; exact own_form h1
  rcases h1.2 with ⟨_, h0⟩ | ⟨g, cap, cur, hv, _⟩
  · simp at h0
  simp only [List.length_singleton] at hv h1
  subst hv
  have c0 := (h1.cellAt 0 (by omega)).trans (show vs[0]? = some _ from hu)
  have HC : Hid (CC w g 0 0 (.slice ar r.length cr) (.slice ar r.length cr) w) := ⟨c0, c0, Below.refl _ _, fun _ _ => rfl⟩
  have HP := hid (partsI_one r s.data.toList hrun)
  have HF := hid (f101 S _ r s w.drew (hR.agree (fun _ _ => rfl)) hr (by unfold maxLen; omega))
  have HL : Hid (s.data.toList.length = s.size) := by unfold Hid; simp
  obtain ⟨n, hn⟩ : ∃ n, n = r.length := ⟨_, rfl⟩
  have HN := hid hn
  rw [← hn] at HC HF hr
  have q1 : IntKind.i64.wrap (((1 : Nat) : Int) - 1) = 0 := by decide
  have q2 : IntKind.i64.wrap ((1 : Int) - 1) = 0 := by decide
  have q3 : IntKind.i64.wrap (0 : Int) = 0 := by decide
  clear h1 h2 h3 hu hR c0 hn
  by_cases hsz : s.size = n
  · have e1 : ((s.size : Int) == (n : Int)) = true := by simp; omega
    have HZ := hid hsz
    clear hsz
    go_enter Tryz.func97, Tryz.ntmps97
    go_wp2_with fail
    go_region_held3 (fun w' => CC w g 0 0 (.slice ar n cr) (.slice ar n cr) w') (first | exact HC.out.drew | exact CC.drew (by assumption) | assumption) (first | fail)
    have HB := hid (HC.out.drew.2.2.1)
    go_wp2_with fail
    refine HF.out.mono ?_
    rintro e w' ⟨rfl, hw⟩
    have hw2 := hw.symm
    subst hw2
    by_cases hp : pre r s.data.toList = true
    · have HPP : Hid (partsI [r] s.data.toList = some []) := by unfold Hid; rw [HP.out, if_pos ⟨by rw [HL.out, ← HN.out]; exact HZ.out, hp⟩]
      rw [hp]
      clear hp hw
      go_wp2
      go_ret2
      exact ⟨HB.out, .inr ⟨[], none, 0, HPP.out, rfl, World.ownsRow_nil _ _ _ _⟩⟩
    · have HPP : Hid (partsI [r] s.data.toList = none) := by unfold Hid; rw [HP.out, if_neg (fun h => hp h.2)]
      have hp' : pre r s.data.toList = false := by simpa using hp
      rw [hp']
      clear hp hp' hw
      go_wp2
      go_ret2
      exact ⟨HB.out, .inl ⟨HPP.out, rfl⟩⟩
  · have e1 : ((s.size : Int) == (n : Int)) = false := by simp; omega
    have HPP : Hid (partsI [r] s.data.toList = none) := by unfold Hid; rw [HP.out, if_neg (fun h => hsz (by have := h.1; rw [HL.out, ← HN.out] at this; exact this))]
    clear hsz
    go_enter Tryz.func97, Tryz.ntmps97
    go_wp2_with fail
    go_region_held3 (fun w' => CC w g 0 0 (.slice ar n cr) (.slice ar n cr) w') (first | exact HC.out.drew | exact CC.drew (by assumption) | assumption) (first | fail)
    have HB := hid (HC.out.drew.2.2.1)
    go_wp2
    go_ret2
    exact ⟨HB.out, .inl ⟨HPP.out, rfl⟩⟩
end Go.Proofs.YthcogkoleiejgaaGreat.Pat
/- An alternative of more than one run asked about a text. -/
namespace Go.Proofs.YthcogkoleiejgaaGreat.Pat
open Go.RowKit

theorem wr64 {n : Int} (h1 : -9223372036854775808 ≤ n) (h2 : n ≤ 9223372036854775807) : IntKind.i64.wrap n = n := by rw [IntKind.wrap_i64]; omega
theorem info9 : (Tryz.prog.info? 9).map (fun i => (i.zero, i.size, i.bytes)) = some (some (.string ByteArray.empty), 1, 16) := by kernel_rfl
theorem map_app {o : Option (List (List UInt8))} {ps : List (List UInt8)} {q : List UInt8} : ((o.map fun t => q :: t).map fun t => ps ++ t) = o.map fun t => (ps ++ [q]) ++ t := by
  cases o <;> simp
theorem ext_take (s : ByteArray) (E : Nat) : (s.extract 0 E).data.toList = s.data.toList.take E := by
  rw [Lib.extract_data]; simp
theorem ext_size_le (s : ByteArray) (a b : Nat) (h : s.size ≤ 1000) : (s.extract a b).size ≤ 1000 := by rw [ByteArray.size_extract]; omega

set_option maxRecDepth 100000 in
set_option maxHeartbeats 4000000 in
theorem f97b (S : Blk) (v : Value) (r l : List Int) (ms : List (List Int)) (s : ByteArray) (w : World) (h : AltW S w v (r :: (ms ++ [l]))) (hS : ∀ k, S k → k < w.heap.size) (hrun : ∀ x ∈ r :: (ms ++ [l]), Run x) (hr : ∀ x ∈ r :: (ms ++ [l]), x.length ≤ 1000) (hm : ms.length ≤ 1000) (hs : s.size ≤ 1000) :
    Calls Tryz.prog 97 #[v, .string s] w (PartsR (partsI (r :: (ms ++ [l])) s.data.toList) w) := by
  obtain ⟨i0, hi, hz0, hz1, hz2⟩ := info_parts info9
  have RR : Run r := hrun r (by simp)
  have RM : Hid (∀ x ∈ ms, Run x) := fun x hx => hrun x (by simp [hx])
  have RL : Run l := hrun l (by simp)
  have LM : Hid (∀ x ∈ ms, x.length ≤ 1000) := fun x hx => hr x (by simp [hx])
  obtain ⟨vs, h1, h2, h3⟩ := h
  obtain ⟨u, hu, hR⟩ := h3 0 r rfl
  obtain ⟨ul, hul, hRl⟩ := h3 (ms.length + 1) l (by simp)
  obtain ⟨ar, cr, rfl⟩ : ∃ a c, u = .slice a r.length c := by obtain ⟨_, h1, _⟩ := hR; exact own_form h1
  obtain ⟨al, cl, rfl⟩ : ∃ a c, ul = .slice a l.length c := by obtain ⟨_, h1, _⟩ := hRl; exact own_form h1
  have HM : Hid (∀ (i : Nat) (q : List Int), ms[i]? = some q → ∃ u, vs[i + 1]? = some u ∧ RunW S w u q) := by
    intro i q hq
    refine h3 (i + 1) q ?_
    have hlt := (List.getElem?_eq_some_iff.1 hq).1
    rw [List.getElem?_cons_succ, List.getElem?_append_left hlt]; exact hq
  obtain ⟨k, hk⟩ : ∃ k, k = ms.length + 1 := ⟨_, rfl⟩
  have hlen : (r :: (ms ++ [l])).length = k + 1 := by simp; omega
  rw [hlen] at h1
  rcases h1.2 with ⟨_, h0⟩ | ⟨g, cap, cur, hv, _, _, hcap, _⟩
  · omega
  subst hv
  have c0 := (h1.cellAt 0 (by omega)).trans (show vs[0]? = some _ from hu)
  have c1 := (h1.cellAt k (by omega)).trans (show vs[k]? = some _ from by rw [hk]; exact hul)
  have HC : Hid (CC w g 0 k (.slice ar r.length cr) (.slice al l.length cl) w) := ⟨c0, c1, Below.refl _ _, fun _ _ => rfl⟩
  have HO := hid h1
  have HF := hid (f101 S _ r s w.drew (hR.agree (fun _ _ => rfl)) (hr r (by simp)) (by unfold maxLen; omega))
  have HG := hid (fun (E : Nat) => f101 S _ l (s.extract E s.size) w.drew (hRl.agree (fun _ _ => rfl)) (hr l (by simp)) (ext_le s E hs))
  have HL : Hid (s.data.toList.length = s.size) := by unfold Hid; simp
  have HNO := hid (partsI_no (ms := ms) (s := s.data.toList) RR RM.out RL)
  have HYES := hid (partsI_yes (ms := ms) (s := s.data.toList) RR RM.out RL)
  have hr0 := hr r (by simp)
  have hl0 := hr l (by simp)
  obtain ⟨n, hn⟩ : ∃ n, n = r.length := ⟨_, rfl⟩
  obtain ⟨nl, hnl⟩ : ∃ nl, nl = l.length := ⟨_, rfl⟩
  have HN := hid hn
  have HNL := hid hnl
  have HK := hid hk
  have HSS := hid hS
  rw [← hn] at HC HF hr0
  rw [← hnl] at HC HG hl0
  have hk1 : 1 ≤ k := by omega
  have hk2 : k ≤ 1001 := by omega
  clear h1 h2 h3 hu hul hR hRl c0 c1 hn hnl hk hlen hr hrun hS RR RL
  have q1 : IntKind.i64.wrap (((k + 1 : Nat) : Int) - 1) = (k : Int) := by rw [show ((k + 1 : Nat) : Int) - 1 = (k : Int) from by omega]; exact wr64 (by omega) (by omega)
  have q2 : IntKind.i64.wrap ((k : Int) + 1 - 1) = (k : Int) := by rw [show (k : Int) + 1 - 1 = (k : Int) from by omega]; exact wr64 (by omega) (by omega)
  have q3 : IntKind.i64.wrap (k : Int) = (k : Int) := wr64 (by omega) (by omega)
  have j1 : (0 : Int) ≤ (k : Int) := by omega
  have j2 : (k : Int) < (k : Int) + 1 := by omega
  by_cases hroom : n + nl ≤ s.size
  · obtain ⟨E, hE⟩ : ∃ E, E + nl = s.size := ⟨s.size - nl, by omega⟩
    have hE1 : (s.size : Int) - (nl : Int) = (E : Int) := by omega
    have hE2 : IntKind.i64.wrap ((s.size : Int) - (nl : Int)) = (E : Int) := by rw [hE1]; exact wr64 (by omega) (by omega)
    have hE3 : n ≤ E := by omega
    have hE4 : (E : Int) ≤ (s.size : Int) := by omega
    have hE5 : (0 : Int) ≤ (E : Int) := by omega
    have hE6 : ¬ (E : Int) < (n : Int) := by omega
    have HE : Hid (s.data.toList.length - l.length = E) := by unfold Hid; rw [HL.out, ← HNL.out]; omega
    have hEs : E ≤ s.size := by omega
    have HE0 := hid hE
    clear hE
    go_enter Tryz.func97, Tryz.ntmps97
    go_wp2_with fail
    go_region_held3 (fun w' => CC w g 0 k (.slice ar n cr) (.slice al nl cl) w') (first | exact HC.out.drew | exact CC.drew (by assumption) | assumption) (first | fail)
    have HB := hid (HC.out.drew.2.2.1)
    have HAg := hid (HC.out.drew.2.2.2)
    clear q1 q2
    go_wp2_with fail
    refine HF.out.mono ?_
    rintro e w' ⟨rfl, hw⟩
    have hw2 := hw.symm
    subst hw2
    clear hw
    by_cases hp : pre r s.data.toList = true
    · rw [hp]
      have HP := hid hp
      clear hp
      go_wp2_with fail
      refine (HG.out E).mono ?_
      rintro e w' ⟨rfl, hw⟩
      have hw2 := hw.symm
      subst hw2
      clear hw
      rw [ext_list]
      by_cases hpl : pre l (s.data.toList.drop E) = true
      · rw [hpl]
        have HY : Hid (partsI (r :: (ms ++ [l])) s.data.toList = goM ms l (s.data.toList.drop n)) := by
          unfold Hid
          rw [HN.out]
          exact HYES.out (by rw [HL.out, ← HN.out, ← HNL.out]; exact hroom) HP.out (by rw [HE.out]; exact hpl)
        clear hpl
        go_wp2_with (at_make; refine wpList_make_own _ rfl _ _ 41 rfl w.heap.size 9 i0 (.string ByteArray.empty) 1 Tryz.underlying41 hi hz0 hz1 _ _ _ k rfl rfl rfl ?b2 ?b3 ?b4 ?_)
        case b2 => rw [hz2]; omega
        case b3 => unfold maxLen; omega
        case b4 => exact HB.out.size
        intro w2 hown2 hgrow2
        have HX2 := hid (HB.out.grown hgrow2 HB.out.size (fun k h => by cases h))
        have HO2 := hid hown2
        clear hown2 hgrow2
        go_wp2
        have HLT : Hid (g < w.heap.size) := (HO.out.lt g rfl).2
        go_loopw [8, 10, 70] (fun sa sp si wr => ∃ (i t : Nat) (ps : List (List UInt8)) (a : Option Addr) (c : Nat), sa = .int .i64 t ∧ sp = .slice a ps.length c ∧ si = .int .i64 i ∧ i ≤ k - 1 ∧ ps.length ≤ i ∧ t ≤ E ∧ Hid (partsI (r :: (ms ++ [l])) s.data.toList = (goM (ms.drop i) l (s.data.toList.drop t)).map fun q => ps ++ q) ∧ Hid (wr.ownsRow w.heap.size 9 1 (.slice a ps.length c) ps.length (txts ps)) ∧ Hid (Below w.heap.size w wr)) (fun _ _ si _ => k - (intOf si).toNat)
        case atStart => exact ⟨0, n, [], _, k, rfl, rfl, rfl, Nat.zero_le _, Nat.le_refl _, hE3, by unfold Hid; rw [HY.out]; simp, HO2, HX2⟩
        case round =>
          obtain ⟨i, t, ps, a, c, rfl, rfl, rfl, hi1, hps, htE, HT, HPS, HBr⟩ := hrel
          have HTL : Hid (t + l.length ≤ s.data.toList.length) := by unfold Hid; rw [HL.out, ← HNL.out]; have := HE0.out; omega
          by_cases hlt : i < k - 1
          · have hq : ms[i]? = some (ms[i]'(by have := HK.out; omega)) := List.getElem?_eq_getElem _
            have hql : (ms[i]'(by have := HK.out; omega)).length ≤ 1000 := LM.out _ (List.getElem_mem _)
            have HD : Hid (ms.drop i = (ms[i]'(by have := HK.out; omega)) :: ms.drop (i + 1)) := List.drop_eq_getElem_cons _
            generalize (ms[i]'(by have := HK.out; omega)) = q at hq hql HD
            obtain ⟨u, hu, hU⟩ := HM.out i q hq
            obtain ⟨au, cu, rfl⟩ : ∃ a c, u = .slice a q.length c := by obtain ⟨_, h1, _⟩ := hU; exact own_form h1
            have cc : wr.cell? ⟨g, 1 + i, none⟩ = some (.slice au q.length cu) := (HBr.out.cell (p := ⟨g, 1 + i, none⟩) HLT.out).trans ((HO.out.cellAt (1 + i) (by omega)).trans (by rw [Nat.add_comm]; exact hu))
            have HF2 := hid (f102 S _ q (s.extract 0 E) t wr (hU.agree (Agree.below HSS.out HBr.out)) hql (ext_size_le s 0 E hs) (by omega))
            have i1 : (i : Int) < ((k - 1 : Nat) : Int) := by omega
            have i2 : (0 : Int) ≤ (t : Int) := by omega
            obtain ⟨nq, hnq⟩ : ∃ nq, nq = q.length := ⟨_, rfl⟩
            have HNQ := hid hnq
            rw [← hnq] at cc hql HF2
            clear hq hu hU hnq
            go_wp2_with fail
            refine HF2.out.mono ?_
            rintro e w' ⟨⟨kk, rfl, hfind⟩, hw⟩
            have hw2 := hw.symm
            subst hw2
            clear hw
            rw [ext_take, ← HE.out] at hfind
            cases kk with
            | none =>
              have HR0 : Hid (partsI (r :: (ms ++ [l])) s.data.toList = none) := by unfold Hid; rw [HT.out, HD.out, goM_none HTL.out hfind]; rfl
              clear hfind
              simp only [optI]
              go_wp2
              go_ret2
              exact ⟨HBr.out, .inl ⟨HR0.out, rfl⟩⟩
            | some e0 =>
              have hb1 := hfind.1
              have hb2 := hfind.2.1
              have HR0 : Hid (partsI (r :: (ms ++ [l])) s.data.toList = (goM (ms.drop (i + 1)) l (s.data.toList.drop (e0 + nq))).map fun t' => (ps ++ [(s.data.toList.drop t).take (e0 - t)]) ++ t') := by
                unfold Hid; rw [HT.out, HD.out, goM_some HTL.out hfind, map_app, ← HNQ.out]
              have hb3 : e0 + nq ≤ E := by
                rw [HE.out, ← HNQ.out] at hb2
                simp only [List.length_take] at hb2
                omega
              clear hfind hb2
              simp only [optI]
              have j3 : (t : Int) ≤ (e0 : Int) := by omega
              have j4 : (e0 : Int) ≤ (s.size : Int) := by omega
              have HX := hid (ext_mkS s t e0)
              go_wp2_with (at_builtin; refine wpList_append_own _ rfl (.tmp 82) (.tmp 87) 41 rfl w.heap.size 9 i0 (.string ByteArray.empty) 1 16 Tryz.underlying41 hi hz0 hz1 hz2 rfl (by decide) _ _ _ rfl (HPS.out.alloc _) ⟨wr.heap.size, 0, none⟩ 1 1 [.string (s.extract t e0)] rfl rfl ?d1 ?d2 ?d3 ?d4 ?d5 ?_)
              case d1 => exact one_row _ _ _
              case d2 => intro u hu; simp at hu; subst hu; rfl
              case d3 => unfold maxLen; omega
              case d4 => omega
              case d5 => have := HBr.out.size; simp; omega
              intro v3 w3 hown3 hgr3 _
              obtain ⟨a3, c3, rfl⟩ := own_form hown3
              have HB3 := hid ((HBr.out.alloc HBr.out.size (.cells #[.string (s.extract t e0)] 9)).grown hgr3 (by have := HBr.out.size; simp; omega) (fun k hk => (HPS.out.lt k hk).1))
              have HO3 : Hid (w3.ownsRow w.heap.size 9 1 (.slice a3 (ps ++ [(s.data.toList.drop t).take (e0 - t)]).length c3) (ps ++ [(s.data.toList.drop t).take (e0 - t)]).length (txts (ps ++ [(s.data.toList.drop t).take (e0 - t)]))) := by
                unfold Hid; rw [txts_snoc, ← HX.out, List.length_append]; exact hown3
              clear hown3 hgr3
              go_wp2
              go_roundw
              case rel => exact ⟨i + 1, e0 + nq, _, a3, c3, by go_num, by simp, by go_num, by omega, by simp; omega, hb3, HR0, HO3, HB3⟩
              case measure => simp [intOf]; omega
          · have hik : i = k - 1 := by omega
            have HD : Hid (ms.drop i = []) := by
              unfold Hid
              rw [List.drop_eq_nil_of_le (by have := HK.out; omega)]
            have HR0 : Hid (partsI (r :: (ms ++ [l])) s.data.toList = some (ps ++ [(s.data.toList.drop t).take (E - t)])) := by
              unfold Hid
              rw [HT.out, HD.out]
              simp only [goM, Option.map_some]
              rw [List.length_drop, show s.data.toList.length - t - l.length = E - t from by have := HE.out; have := HTL.out; omega]
            have j3 : (t : Int) ≤ (E : Int) := by omega
            have i2 : (0 : Int) ≤ (t : Int) := by omega
            have i1 : ¬ (i : Int) < ((k - 1 : Nat) : Int) := by omega
            have HX := hid (ext_mkS s t E)
            clear hik
            go_wp2_with (at_builtin; refine wpList_append_own _ rfl (.tmp 94) (.tmp 99) 41 rfl w.heap.size 9 i0 (.string ByteArray.empty) 1 16 Tryz.underlying41 hi hz0 hz1 hz2 rfl (by decide) _ _ _ rfl (HPS.out.alloc _) ⟨wr.heap.size, 0, none⟩ 1 1 [.string (s.extract t E)] rfl rfl ?d1 ?d2 ?d3 ?d4 ?d5 ?_)
            case d2 => rfl
            case d3 => unfold maxLen; omega
            case d4 => omega
            case d5 => have := HBr.out.size; simp; omega
            intro v3 w3 hown3 hgr3 _
            obtain ⟨a3, c3, rfl⟩ := own_form hown3
            have HB3 := hid ((HBr.out.alloc HBr.out.size (.cells #[.string (s.extract t E)] 9)).grown hgr3 (by have := HBr.out.size; simp; omega) (fun k hk => (HPS.out.lt k hk).1))
            have HO3 : Hid (w3.ownsRow w.heap.size 9 1 (.slice a3 (ps ++ [(s.data.toList.drop t).take (E - t)]).length c3) (ps ++ [(s.data.toList.drop t).take (E - t)]).length (txts (ps ++ [(s.data.toList.drop t).take (E - t)]))) := by
              unfold Hid; rw [txts_snoc, ← HX.out, List.length_append]; exact hown3
            clear hown3 hgr3
            go_wp2
            go_ret2
            exact ⟨HB3.out, .inr ⟨_, a3, c3, HR0.out, by simp, HO3.out⟩⟩
      · have HN0 := hid (HNO.out (fun h => hpl (by have := h.2.2; rw [HE.out] at this; exact this)))
        have hpl' : pre l (s.data.toList.drop E) = false := by simpa using hpl
        rw [hpl']
        clear hpl hpl'
        go_wp2
        go_ret2
        exact ⟨HB.out, .inl ⟨HN0.out, rfl⟩⟩
    · have HN0 := hid (HNO.out (fun h => hp h.2.1))
      have hp' : pre r s.data.toList = false := by simpa using hp
      rw [hp']
      clear hp hp'
      go_wp2
      go_ret2
      exact ⟨HB.out, .inl ⟨HN0.out, rfl⟩⟩
  · have HN0 := hid (HNO.out (fun h => hroom (by have := h.1; rw [HL.out, ← HN.out, ← HNL.out] at this; exact this)))
    have hE2 : IntKind.i64.wrap ((s.size : Int) - (nl : Int)) = (s.size : Int) - (nl : Int) := wr64 (by omega) (by omega)
    have hE3 : (s.size : Int) - (nl : Int) < (n : Int) := by omega
    go_enter Tryz.func97, Tryz.ntmps97
    go_wp2_with fail
    go_region_held3 (fun w' => CC w g 0 k (.slice ar n cr) (.slice al nl cl) w') (first | exact HC.out.drew | exact CC.drew (by assumption) | assumption) (first | fail)
    have HB := hid (HC.out.drew.2.2.1)
    go_wp2
    go_ret2
    exact ⟨HB.out, .inl ⟨HN0.out, rfl⟩⟩
end Go.Proofs.YthcogkoleiejgaaGreat.Pat
