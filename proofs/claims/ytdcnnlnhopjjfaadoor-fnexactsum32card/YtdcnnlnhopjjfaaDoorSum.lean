/- What Sum32 comes to, in the program (by a table of four bits) and in its model (bit by bit): one plain fold over the bytes. -/
import Derived.Test.YtdcnnlnhopjjfaaDoorByt
import Derived.Laws.BitsAllLaws
namespace Go.Proofs.YtdcnnlnhopjjfaaDoor.Sum
open Go.RowKit Go.Proofs.YtdcnnlnhopjjfaaDoor.Byt

theorem hid {p : Prop} (h : p) : Hid p := h
theorem ret_int {k : IntKind} {a b : Int} (h : a = b) : Ending.returned (.int k a) = .returned (.int k b) := by rw [h]

def s1 (r : Nat) : Nat := if r % 2 = 1 then (r / 2) ^^^ 3988292384 else r / 2
def tab : List Nat := [0, 498536548, 997073096, 651767980, 1994146192, 1802195444, 1303535960, 1342533948, 3988292384, 4027552580, 3604390888, 3412177804, 2607071920, 2262029012, 2685067896, 3183342108]
def s4 (r : Nat) : Nat := s1 (s1 (s1 (s1 r)))
def step (r z : Nat) : Nat := s4 (s4 (r ^^^ z))

theorem s1_odd (r : Nat) (h : r % 2 = 1) : s1 r = (r / 2) ^^^ 3988292384 := by unfold s1; rw [if_pos h]
theorem s1_even (r : Nat) (h : ¬ r % 2 = 1) : s1 r = r / 2 := by unfold s1; rw [if_neg h]
theorem s1_lt (r : Nat) (h : r < 4294967296) : s1 r < 4294967296 := by
  unfold s1; split
  · exact Nat.xor_lt_two_pow (n := 32) (by omega) (by decide)
  · omega
theorem xor_mod2 (a y : Nat) (h : a % 2 = 0) : (a ^^^ y) % 2 = y % 2 := by
  have := Nat.xor_mod_two_pow (a := a) (b := y) (n := 1)
  rw [Nat.pow_one] at this
  rw [this, h, Nat.zero_xor]
theorem s1_xor (a y : Nat) : s1 ((2 * a) ^^^ y) = a ^^^ s1 y := by
  have e1 : ((2 * a) ^^^ y) % 2 = y % 2 := xor_mod2 _ _ (by omega)
  have e2 : ((2 * a) ^^^ y) / 2 = a ^^^ (y / 2) := by rw [Nat.xor_div_two]; congr 1; omega
  unfold s1
  rw [e1, e2]
  split
  · rw [Nat.xor_assoc]
  · rfl
theorem join_xor : ∀ (k h l : Nat), l < 2 ^ k → (2 ^ k * h) ^^^ l = 2 ^ k * h + l := by
  intro k
  induction k with
  | zero => intro h l hl; have : l = 0 := by simpa using hl
            subst this; simp
  | succ k ih =>
    intro h l hl
    have e1 : (2 ^ (k + 1) * h ^^^ l) / 2 = 2 ^ k * h + l / 2 := by
      rw [Nat.xor_div_two]
      have : 2 ^ (k + 1) * h / 2 = 2 ^ k * h := by rw [Nat.pow_succ, Nat.mul_right_comm, Nat.mul_div_cancel _ (by decide)]
      rw [this]
      exact ih h (l / 2) (by rw [Nat.pow_succ] at hl; omega)
    have e2 : (2 ^ (k + 1) * h ^^^ l) % 2 = l % 2 := by
      have : 2 ^ (k + 1) * h = 2 * (2 ^ k * h) := by rw [Nat.pow_succ, Nat.mul_comm (2 ^ k) 2, Nat.mul_assoc]
      exact xor_mod2 _ _ (by omega)
    have e3 : 2 ^ (k + 1) * h = 2 * (2 ^ k * h) := by rw [Nat.pow_succ, Nat.mul_comm (2 ^ k) 2, Nat.mul_assoc]
    omega
theorem tab16 : ∀ l : Fin 16, s4 l.val = tab.getD l.val 0 := by decide +kernel
theorem s4_tab (r : Nat) : s4 r = tab.getD (r % 16) 0 ^^^ (r / 16) := by
  have e : r = (2 * (2 * (2 * (2 * (r / 16))))) ^^^ (r % 16) := by
    have h := join_xor 4 (r / 16) (r % 16) (by omega)
    rw [show 2 * (2 * (2 * (2 * (r / 16)))) = 2 ^ 4 * (r / 16) from by omega, h]
    omega
  conv => lhs; rw [e]
  unfold s4
  rw [s1_xor, s1_xor, s1_xor, s1_xor]
  rw [Nat.xor_comm]
  congr 1
  exact tab16 ⟨r % 16, by omega⟩
theorem s4_lt (r : Nat) (h : r < 4294967296) : s4 r < 4294967296 := s1_lt _ (s1_lt _ (s1_lt _ (s1_lt _ h)))
theorem xor_lt (a b : Nat) (ha : a < 4294967296) (hb : b < 4294967296) : a ^^^ b < 4294967296 := Nat.xor_lt_two_pow (n := 32) ha hb
theorem step_lt (r z : Nat) (h : r < 4294967296) (hz : z < 256) : step r z < 4294967296 := s4_lt _ (s4_lt _ (xor_lt _ _ h (by omega)))
theorem tab_lt (l : Nat) : tab.getD l 0 < 4294967296 := by
  by_cases h : l < 16
  · have : ∀ l : Fin 16, tab.getD l.val 0 < 4294967296 := by decide +kernel
    exact this ⟨l, h⟩
  · rw [List.getD_eq_getElem?_getD, List.getElem?_eq_none (by simp [tab]; omega)]; decide

def upto (zs : List Int) (k : Nat) : Nat := (zs.take k).foldl (fun r z => step r z.toNat) 4294967295
def sum (zs : List Int) : Int := ((upto zs zs.length ^^^ 4294967295 : Nat) : Int)
theorem upto_succ (zs : List Int) (k : Nat) (h : k < zs.length) : upto zs (k + 1) = step (upto zs k) (zs.getD k 0).toNat := by
  unfold upto; rw [List.take_succ_eq_append_getElem h, List.foldl_append]; simp [h]
theorem upto_lt (zs : List Int) (h255 : ∀ j, 0 ≤ zs.getD j 0 ∧ zs.getD j 0 ≤ 255) (k : Nat) (hk : k ≤ zs.length) : upto zs k < 4294967296 := by
  induction k with
  | zero => simp [upto]
  | succ k ih => rw [upto_succ zs k hk]; exact step_lt _ _ (ih (by omega)) (by have := h255 k; omega)

theorem f6 (a : Option Addr) (n c : Nat) (zs : List Int) (w : World) (hn : zs.length = n) (hb : n ≤ 140737488351232) (hr : Has w a zs) (h255 : ∀ j, 0 ≤ zs.getD j 0 ∧ zs.getD j 0 ≤ 255)
    (htab : ∀ l, l < 16 → w.cell? ⟨0, l, none⟩ = some (.int .u32 (tab.getD l 0 : Nat))) :
    Calls Tryd.prog 6 #[.slice a n c] w fun e w' => e = .returned (.int .i64 (sum zs)) ∧ w' = w := by
  have HN := hid hn
  have HF := hid h255
  have HT := hid htab
  clear hn h255 htab
  go_enter Tryd.func6, Tryd.ntmps6
  go_wp2
  go_loop [3, 8] (fun h i => ∃ (k R : Nat), k ≤ n ∧ i = .int .i64 k ∧ h = .int .u32 (R : Int) ∧ R ≤ 4294967295 ∧ Hid (R = upto zs k)) (fun _ i => n - (intOf i).toNat)
  case atStart => exact ⟨0, 4294967295, Nat.zero_le _, rfl, rfl, by omega, rfl⟩
  case round =>
    obtain ⟨k, R, hk, rfl, rfl, hR, HR⟩ := hrel
    by_cases hlt : k < n
    · rcases hr with hr | ⟨b, off, rfl, hbl, hc⟩
      · exact absurd HN.out (by rw [hr]; simp; omega)
      · have hcx := hc k (by rw [HN.out]; exact hlt)
        clear hc
        obtain ⟨zi0, zi1⟩ := HF.out k
        obtain ⟨z, hz⟩ := Int.eq_ofNat_of_zero_le zi0
        have HZ := hid hz
        rw [hz] at hcx zi1
        clear hz zi0
        have hz1 : z ≤ 255 := by omega
        clear zi1
        have q1 : bits .xor .u32 (R : Int) (z : Int) = ((R ^^^ z : Nat) : Int) := u32_xor_nat R z (by omega) (by omega)
        obtain ⟨A, hA⟩ : ∃ A, A = R ^^^ z := ⟨_, rfl⟩
        rw [← hA] at q1
        have hA1 : A ≤ 4294967295 := by have := xor_lt R z (by omega) (by omega); omega
        have q2 : bits .and .u32 (A : Int) 15 = ((A % 16 : Nat) : Int) := by
          have := u32_and_nat A 15 (by omega) (by omega)
          rw [nat_mask4] at this; exact this
        have t1 := HT.out (A % 16) (by omega)
        have q3 : bits .xor .u32 ((tab.getD (A % 16) 0 : Nat) : Int) ((A : Int) / 16) = ((s4 A : Nat) : Int) := by
          have := u32_xor_nat (tab.getD (A % 16) 0) (A / 16) (tab_lt _) (by omega)
          rw [s4_tab]; rw [← this]; congr 1
        obtain ⟨B, hB⟩ : ∃ B, B = s4 A := ⟨_, rfl⟩
        rw [← hB] at q3
        have hB1 : B ≤ 4294967295 := by have := s4_lt A (by omega); omega
        have q4 : bits .and .u32 (B : Int) 15 = ((B % 16 : Nat) : Int) := by
          have := u32_and_nat B 15 (by omega) (by omega)
          rw [nat_mask4] at this; exact this
        have t2 := HT.out (B % 16) (by omega)
        have q5 : bits .xor .u32 ((tab.getD (B % 16) 0 : Nat) : Int) ((B : Int) / 16) = ((s4 B : Nat) : Int) := by
          have := u32_xor_nat (tab.getD (B % 16) 0) (B / 16) (tab_lt _) (by omega)
          rw [s4_tab]; rw [← this]; congr 1
        have hC1 : s4 B ≤ 4294967295 := by have := s4_lt B (by omega); omega
        have HE : Hid (s4 B = upto zs (k + 1)) := by
          unfold Hid
          rw [upto_succ zs k (by rw [HN.out]; exact hlt), ← HR.out, HZ.out, Int.toNat_natCast, hB, hA]; rfl
        generalize hT1 : tab.getD (A % 16) 0 = T1 at *
        generalize hT2 : tab.getD (B % 16) 0 = T2 at *
        generalize s4 B = C at *
        clear hA hB hT1 hT2
        go_wp2
        go_round
        case rel => exact ⟨k + 1, C, by omega, by go_num, rfl, hC1, HE⟩
        case measure => simp [intOf]; omega
    · have q1 : bits .xor .u32 (R : Int) 4294967295 = ((R ^^^ 4294967295 : Nat) : Int) := u32_xor_nat R 4294967295 (by omega) (by omega)
      have q2 : (R ^^^ 4294967295) ≤ 4294967295 := by have := xor_lt R 4294967295 (by omega) (by omega); omega
      have HE : Hid (((R ^^^ 4294967295 : Nat) : Int) = sum zs) := by
        unfold Hid sum
        rw [HN.out, show n = k from by omega, ← HR.out]
      generalize R ^^^ 4294967295 = C at *
      go_wp2
      go_ret
      exact ⟨ret_int HE.out, rfl⟩

/-- j steps of one bit. -/
def many : Nat → Nat → Nat
  | 0, r => r
  | j + 1, r => s1 (many j r)
theorem many_lt (j r : Nat) (h : r < 4294967296) : many j r < 4294967296 := by
  induction j with
  | zero => exact h
  | succ j ih => exact s1_lt _ ih
theorem many8 (r : Nat) : many 8 r = s4 (s4 r) := rfl

set_option maxHeartbeats 1000000 in
theorem f4 (a : Option Addr) (n c : Nat) (zs : List Int) (w : World) (hn : zs.length = n) (hb : n ≤ 140737488351232) (hr : Has w a zs) (h255 : ∀ j, 0 ≤ zs.getD j 0 ∧ zs.getD j 0 ≤ 255) :
    Calls Tryd.prog 4 #[.slice a n c] w fun e w' => e = .returned (.int .i64 (sum zs)) ∧ w' = w := by
  have HN := hid hn
  have HF := hid h255
  clear hn h255
  go_enter Tryd.func4, Tryd.ntmps4
  go_wp2
  go_loop [3, 10] (fun h i => ∃ (k R : Nat), k ≤ n ∧ i = .int .i64 k ∧ h = .int .u32 (R : Int) ∧ R ≤ 4294967295 ∧ Hid (R = upto zs k)) (fun _ i => n - (intOf i).toNat)
  case atStart => exact ⟨0, 4294967295, Nat.zero_le _, rfl, rfl, by omega, rfl⟩
  case round =>
    obtain ⟨k, R, hk, rfl, rfl, hR, HR⟩ := hrel
    by_cases hlt : k < n
    · rcases hr with hr | ⟨b, off, rfl, hbl, hc⟩
      · exact absurd HN.out (by rw [hr]; simp; omega)
      · have hcx := hc k (by rw [HN.out]; exact hlt)
        clear hc
        obtain ⟨zi0, zi1⟩ := HF.out k
        obtain ⟨z, hz⟩ := Int.eq_ofNat_of_zero_le zi0
        have HZ := hid hz
        rw [hz] at hcx zi1
        clear hz zi0
        have hz1 : z ≤ 255 := by omega
        clear zi1
        have q1 : bits .xor .u32 (R : Int) (z : Int) = ((R ^^^ z : Nat) : Int) := u32_xor_nat R z (by omega) (by omega)
        obtain ⟨A, hA⟩ : ∃ A, A = R ^^^ z := ⟨_, rfl⟩
        rw [← hA] at q1
        have hA1 : A < 4294967296 := by have := xor_lt R z (by omega) (by omega); omega
        have HE : Hid (many 8 A = upto zs (k + 1)) := by
          unfold Hid
          rw [upto_succ zs k (by rw [HN.out]; exact hlt), ← HR.out, HZ.out, Int.toNat_natCast, hA]; rfl
        clear hA
        go_wp2
        go_loop [3, 6] (fun h i => ∃ (j M : Nat), j ≤ 8 ∧ i = .int .i64 j ∧ h = .int .u32 (M : Int) ∧ M ≤ 4294967295 ∧ Hid (M = many j A)) (fun _ i => 8 - (intOf i).toNat)
        case atStart => exact ⟨0, A, by omega, rfl, rfl, by omega, rfl⟩
        case round =>
          obtain ⟨j, M, hj, rfl, rfl, hM, HM⟩ := hrel
          by_cases hj8 : j < 8
          · by_cases hodd : M % 2 = 1
            · have ho : ((M : Int) % 2 == 1) = true := by simp; omega
              have q2 : bits .xor .u32 ((M : Int) / 2) 3988292384 = ((s1 M : Nat) : Int) := by
                have := u32_xor_nat (M / 2) 3988292384 (by omega) (by omega)
                rw [s1_odd M hodd, ← this]; congr 1
              have q3 : s1 M ≤ 4294967295 := by have := s1_lt M (by omega); omega
              have HS : Hid (s1 M = many (j + 1) A) := by unfold Hid; rw [many, ← HM.out]
              generalize s1 M = S at *
              clear hodd
              go_wp2
              go_round
              case rel => exact ⟨j + 1, S, by omega, by go_num, rfl, q3, HS⟩
              case measure => simp [intOf]; omega
            · have ho : ((M : Int) % 2 == 1) = false := by simp; omega
              have HS : Hid (M / 2 = many (j + 1) A) := by unfold Hid; rw [many, ← HM.out, s1_even M hodd]
              clear hodd
              go_wp2
              go_round
              case rel => exact ⟨j + 1, M / 2, by omega, by go_num, by go_num, by omega, HS⟩
              case measure => simp [intOf]; omega
          · go_wp2
            go_round
            case rel => exact ⟨k + 1, M, by omega, by go_num, rfl, hM, by rw [HM.out, show j = 8 from by omega]; exact HE.out⟩
            case measure => simp [intOf]; omega
    · have q1 : bits .xor .u32 (R : Int) 4294967295 = ((R ^^^ 4294967295 : Nat) : Int) := u32_xor_nat R 4294967295 (by omega) (by omega)
      have q2 : (R ^^^ 4294967295) ≤ 4294967295 := by have := xor_lt R 4294967295 (by omega) (by omega); omega
      have HE : Hid (((R ^^^ 4294967295 : Nat) : Int) = sum zs) := by
        unfold Hid sum
        rw [HN.out, show n = k from by omega, ← HR.out]
      generalize R ^^^ 4294967295 = C at *
      go_wp2
      go_ret
      exact ⟨ret_int HE.out, rfl⟩
end Go.Proofs.YtdcnnlnhopjjfaaDoor.Sum
