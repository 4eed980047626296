/- strconv.Itoa and strconv.Atoi at this program, where the table of powers of ten reads as Go's text lays it and the two errors are there; readDigits. -/
import Derived.Test.YtbijhkbmgljjiaaGreatDoorAt
import Derived.Lib.LaidTab
import Derived.WalkSmall
import Derived.Lib.AppendIntMem
import Derived.Lib.AtoiTie
import Derived.Lib.AtoiErrMem
import Derived.Test.YtbijhkbmgljjiaaGreatDoorNu
namespace Go.Proofs.YtbijhkbmgljjiaaGreatDoor.Rel
open Go.RowKit Go.Proofs.YtbijhkbmgljjiaaGreatDoor.Fil
theorem gPow : Tryz.prog.globalNamed "internal/strconv.uint64pow10" = some 4 := by kernel_rfl
/-- The table of powers of ten, as it is laid. -/
def Pow (w : World) : Prop := 4 < w.heap.size ∧ Lib.TabIs Tryz.prog w "internal/strconv.uint64pow10" .u64 Lib.pow10Tab
theorem Pow.below {w w' : World} (h : Pow w) (hb : Below w.heap.size w w') : Pow w' := ⟨Nat.lt_of_lt_of_le h.1 hb.size, var?_below hb gPow h.1 h.2⟩
theorem itoa (n : Int) (w : World) (h0 : -9223372036854775808 ≤ n) (h1 : n ≤ 9223372036854775807) (hp : Pow w) : Calls Tryz.prog 45 #[.int .i64 n] w fun e w' => e = .returned (.string (mkS (Lib.itoa n))) ∧ Below w.heap.size w w' := by
  refine (Tryz.strconv_Itoa n h0 h1 w hp.2).mono ?_
  rintro e w' ⟨rfl, k, os, rfl⟩
  exact ⟨rfl, Lib.below_grow _ _ (Nat.le_refl _) _ _⟩
/-- The errors of strconv, as they are laid. -/
def Ers (w : World) : Prop := 2 < w.heap.size ∧ (∃ te pe, w.cell? ⟨1, 0, none⟩ = some (.iface te pe)) ∧ ∃ te pe, w.cell? ⟨2, 0, none⟩ = some (.iface te pe)
theorem Ers.below {w w' : World} (h : Ers w) (hb : Below w.heap.size w w') : Ers w' := by
  obtain ⟨h0, ⟨a, b, h1⟩, c, d, h2⟩ := h
  exact ⟨Nat.lt_of_lt_of_le h0 hb.size, ⟨a, b, (hb.cell (p := ⟨1, 0, none⟩) (show 1 < w.heap.size by omega)).trans h1⟩, c, d, (hb.cell (p := ⟨2, 0, none⟩) h0).trans h2⟩
theorem atoi_ends (s : ByteArray) (w : World) (hs : s.size ≤ 1048576) (he : Ers w) : Calls Tryz.prog 51 #[.string s] w fun e w' => Below w.heap.size w w' ∧ ((∃ v, Lib.atoiAll s.data.toList = .ok v ∧ e = .returned (.tuple #[.int .i64 v, .nilIface])) ∨ ((∀ v, Lib.atoiAll s.data.toList ≠ .ok v) ∧ ∃ v t p, e = .returned (.tuple #[.int .i64 v, .iface t p]))) := by
  obtain ⟨h0, ⟨a, b, h1⟩, c, d, h2⟩ := he
  cases h : Lib.atoiAll s.data.toList with
  | ok v =>
    refine (Tryz.strconv_Atoi_ok s (by omega) v h w).mono ?_
    rintro e w' ⟨rfl, h3⟩
    refine ⟨?_, .inl ⟨v, rfl, rfl⟩⟩
    rcases h3 with rfl | ⟨t, rfl⟩
    · exact Below.refl _ _
    · exact Lib.bytesWorld_below _ _ _
  | «syntax» =>
    refine (Tryz.strconv_Atoi_syntax s (by omega) h _ w h1 (.inr ⟨_, _, rfl⟩)).mono ?_
    rintro e w' ⟨N, rfl, _, _, hb⟩
    exact ⟨hb, .inr ⟨by simp, _, _, _, rfl⟩⟩
  | range =>
    refine (Tryz.strconv_Atoi_range s (by omega) h _ w h2 (.inr ⟨_, _, rfl⟩)).mono ?_
    rintro e w' ⟨N, rfl, _, _, hb⟩
    exact ⟨hb, .inr ⟨by simp, _, _, _, rfl⟩⟩
theorem decFrom_app (b : UInt8) (d : Nat) (hd : Lib.digitVal b = some d) : ∀ (l : List UInt8) (acc n : Nat), Lib.decFrom acc l = some n → Lib.decFrom acc (l ++ [b]) = some (n * 10 + d)
  | [], acc, n, h => by
    simp only [Lib.decFrom] at h
    cases h
    simp [Lib.decFrom, hd]
  | c :: r, acc, n, h => by
    simp only [List.cons_append, Lib.decFrom] at h ⊢
    cases e : Lib.digitVal c with
    | none => rw [e] at h; cases h
    | some k => rw [e] at h; exact decFrom_app b d hd r _ n h
theorem digit_val {k : Nat} (h : k < 10) : Lib.digitVal (UInt8.ofNat (48 + k)) = some k := by
  unfold Lib.digitVal
  have : (UInt8.ofNat (48 + k)).toNat = 48 + k := by simp; omega
  rw [this, if_pos (by omega)]
  congr 1; omega
theorem dec_back (u : Nat) : Lib.decFrom 0 (Lib.decDigits u) = some u := by
  induction u using Nat.strongRecOn with
  | _ u ih =>
    rw [Lib.decDigits]
    split
    · rename_i h
      unfold Lib.decFrom
      rw [digit_val h]
      show Lib.decFrom (0 * 10 + u) [] = some u
      simp [Lib.decFrom]
    · rename_i h
      rw [decFrom_app _ _ (digit_val (Nat.mod_lt u (by omega))) _ _ _ (ih (u / 10) (by omega))]
      congr 1; omega
theorem nd4 (u : Nat) (h : u ≤ 1000) : Lib.nDigits u ≤ 4 := by
  have e := fun x (hx : x < 10) => Lib.nDigits_small hx
  by_cases h1 : u < 10
  · rw [e u h1]; omega
  rw [Lib.nDigits_big h1]
  by_cases h2 : u / 10 < 10
  · rw [e _ h2]; omega
  rw [Lib.nDigits_big h2]
  by_cases h3 : u / 10 / 10 < 10
  · rw [e _ h3]; omega
  rw [Lib.nDigits_big h3, e (u / 10 / 10 / 10) (by omega)]; omega
theorem atoi_itoa (N : Int) (h0 : 1 ≤ N) (h1 : N ≤ 1000) : Lib.atoiAll (Lib.itoa N) = .ok N := by
  have e : Lib.itoa N = Lib.decDigits N.toNat := by unfold Lib.itoa; rw [if_neg (by omega)]
  rw [e]
  have hl : (Lib.decDigits N.toNat).length ≤ 4 := by rw [Lib.decDigits_length]; exact nd4 _ (by omega)
  have hd := dec_back N.toNat
  cases hc : Lib.decDigits N.toNat with
  | nil =>
    have := Lib.decDigits_length N.toNat
    rw [hc] at this
    have := Lib.nDigits_pos N.toNat
    simp at *; omega
  | cons c r =>
    rw [hc] at hl hd
    have hdc : ∃ d, Lib.digitVal c = some d := Lib.digit_of_decFrom _ _ _ hd 0 c rfl
    obtain ⟨d, hdc⟩ := hdc
    have hv := Lib.digitVal_eq hdc
    rw [Lib.atoiAll_plain c r (by omega) (by omega), Lib.signless_short (by omega)]
    have : Lib.decNat (c :: r) = some N.toNat := by unfold Lib.decNat; rw [if_neg (by simp)]; exact hd
    rw [this]
    show Lib.NumEnd.ok ((N.toNat : Nat) : Int) = _
    congr 1; omega

/-- What the call of readDigits leaves. -/
def DgR (s : ByteArray) (w : World) (e : Ending) (w' : World) : Prop :=
  Below w.heap.size w w' ∧ ∃ (n : Int) (ok : Bool), e = .returned (.tuple #[.int .i64 n, .bool ok]) ∧ -9223372036854775808 ≤ n ∧ n ≤ 9223372036854775807 ∧ ∀ N : Int, 1 ≤ N → N ≤ 1000 → s.data.toList = Lib.itoa N → n = N ∧ ok = true
theorem f38 (s : ByteArray) (w : World) (hs : s.size ≤ 1048576) (hp : Pow w) (he : Ers w) : Calls Tryz.prog 38 #[.string s] w (DgR s w) := by
  have HP := hid hp
  have HE := hid he
  clear hp he
  go_enter Tryz.func38, Tryz.ntmps38
  go_wp2_with fail
  refine (atoi_ends s _ hs HE.out).mono ?_
  rintro e w1 ⟨hb1, h1⟩
  have HB1 := hid hb1
  have HP1 := hid (HP.out.below hb1)
  clear hb1
  rcases h1 with ⟨v, hv, rfl⟩ | ⟨hn, v, t, p, rfl⟩
  · have HV := hid hv
    have hvb := Lib.atoiAll_bounds hv
    obtain ⟨hv0, hv1⟩ := hvb
    clear hv
    by_cases hq : s.data.toList = Lib.itoa v
    · have heq : (Lib.itoa v == s.toList) = true := by rw [ByteArray.toList_eq, hq]; exact beq_self_eq_true _
      go_wp2_with (first | (go_at_call 45; refine (itoa v _ hv0 hv1 HP1.out).mono ?_; rintro e w2 ⟨rfl, hb2⟩; have HB2 := hid (HB1.out.trans (hb2.mono HB1.out.size)); clear hb2))
      go_ret2
      refine ⟨HB2.out, v, true, rfl, hv0, hv1, fun N hN0 hN1 hN => ⟨?_, rfl⟩⟩
      have := atoi_itoa N hN0 hN1
      rw [← hN, HV.out] at this
      exact Lib.NumEnd.ok.inj this
    · have hne : (Lib.itoa v == s.toList) = false := by
        rw [beq_eq_false_iff_ne]
        intro h
        rw [ByteArray.toList_eq] at h
        exact hq h.symm
      go_wp2_with (first | (go_at_call 45; refine (itoa v _ hv0 hv1 HP1.out).mono ?_; rintro e w2 ⟨rfl, hb2⟩; have HB2 := hid (HB1.out.trans (hb2.mono HB1.out.size)); clear hb2))
      go_ret2
      refine ⟨HB2.out, 0, false, rfl, by omega, by omega, fun N hN0 hN1 hN => ?_⟩
      have := atoi_itoa N hN0 hN1
      rw [← hN, HV.out] at this
      exact absurd (hN.trans (by rw [Lib.NumEnd.ok.inj this])) hq
  · have HN := hid hn
    clear hn
    go_wp2
    go_ret2
    exact ⟨HB1.out, 0, false, rfl, by omega, by omega, fun N hN0 hN1 hN => absurd (by rw [hN]; exact atoi_itoa N hN0 hN1) (HN.out N)⟩
end Go.Proofs.YtbijhkbmgljjiaaGreatDoor.Rel
