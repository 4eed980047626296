/- What PutVar comes to, in the program and in its model: one plain list of bytes. -/
import Derived.Test.YtdcnnlnhopjjfaaVarp
namespace Go.Proofs.Ytdcnnlnhopjjfaa.Put
open Go.RowKit Go.Proofs.Ytdcnnlnhopjjfaa.Byt
theorem hid {p : Prop} (h : p) : Hid p := h

def pieces : Nat → Int → List Int
  | 0, x => [x]
  | f + 1, x => if x < 128 then [x] else (x % 128 + 128) :: pieces f (x / 128)
def put (n : Int) : List Int := pieces 9 (IntKind.u64.wrap n)

/-- A number that f pieces and a last one of one bit can hold. -/
def Fits (f : Nat) (x : Int) : Prop := x < 2 * 128 ^ f
theorem fits_top (n : Int) : Fits 9 (IntKind.u64.wrap n) := by unfold Fits; rw [IntKind.wrap_u64]; omega
theorem fits_down (f : Nat) (x : Int) (h : Fits (f + 1) x) : Fits f (x / 128) := by
  unfold Fits at *; rw [Int.pow_succ] at h; omega
theorem fits_zero (x : Int) (h : Fits 0 x) : x < 128 := by unfold Fits at h; omega
theorem pieces_end (f : Nat) (x : Int) (h : x < 128) : pieces f x = [x] := by
  cases f with
  | zero => rfl
  | succ f => rw [pieces, if_pos h]
theorem pieces_on (f : Nat) (x : Int) (h : ¬ x < 128) : pieces (f + 1) x = (x % 128 + 128) :: pieces f (x / 128) := by
  rw [pieces, if_neg h]
theorem pieces_len (f : Nat) (x : Int) : (pieces f x).length ≤ f + 1 := by
  induction f generalizing x with
  | zero => simp [pieces]
  | succ f ih => rw [pieces]; split
                 · simp
                 · have := ih (x / 128); simp; omega
theorem pieces_pos (f : Nat) (x : Int) : 1 ≤ (pieces f x).length := by
  cases f with
  | zero => simp [pieces]
  | succ f => rw [pieces]; split <;> simp
theorem put_len (n : Int) : 1 ≤ (put n).length ∧ (put n).length ≤ 10 := ⟨pieces_pos _ _, pieces_len _ _⟩

theorem one_new (w : World) (x : Value) (t : TypeId) : ∀ j u, [x][j]? = some u → (w.alloc (.cells #[x] t)).cell? ((⟨w.heap.size, 0, none⟩ : Addr).add j) = some u := by
  intro j u hj
  match j, hj with
  | 0, hj => simp at hj; subst hj; simp [Addr.add]

theorem or_128 (x : Int) (h0 : 0 ≤ x) : bits .or .u8 (x % 256) 128 = x % 128 + 128 := by
  rw [u8_or (x % 256) 128 (by omega) (by omega) (by omega) (by omega)]
  obtain ⟨m, rfl⟩ := Int.eq_ofNat_of_zero_le h0
  rw [show ((m : Int) % 256).toNat = m % 256 from by omega, show (128 : Int).toNat = 128 from rfl]
  have h3 : m % 256 = (m % 256 / 128) * 128 + m % 128 := by omega
  have h4 : m % 256 / 128 = 0 ∨ m % 256 / 128 = 1 := by omega
  have h5 : m % 256 ||| 128 = m % 128 + 128 := by
    have h6 : ∀ y : Fin 256, y.val ||| 128 = y.val % 128 + 128 := by decide +kernel
    have := h6 ⟨m % 256, by omega⟩
    simp only at this
    omega
  rw [h5]
  omega

/-- What an append of one byte does to what is gathered. -/
theorem step_own {w wr w1 : World} {out v' : Value} {xs : List Int} {x : Int} (hown : wr.ownsRow w.heap.size 5 1 out xs.length (xs.map (Value.int .u8))) (hbel : Below w.heap.size w wr)
    (hown' : w1.ownsRow w.heap.size 5 1 v' (xs.length + 1) (xs.map (Value.int .u8) ++ [Value.int .u8 x])) (hgrow : (wr.alloc (.cells #[.int .u8 x] 5)).grownBy w1 out.ownBlock) :
    w1.ownsRow w.heap.size 5 1 v' (xs ++ [x]).length ((xs ++ [x]).map (Value.int .u8)) ∧ Below w.heap.size w w1 := by
  refine ⟨by simpa using hown', ?_⟩
  refine (hbel.alloc hbel.size _).grown hgrow ?_ ?_
  · have := hbel.size; simp; omega
  · intro k hk; exact (hown.lt k hk).1

set_option maxHeartbeats 1000000 in
theorem f33 (n : Int) (w : World) :
    Calls Try.prog 33 #[.int .i64 n] w fun e w' => ∃ v, e = .returned v ∧ w'.ownsRow w.heap.size 5 1 v (put n).length ((put n).map (Value.int .u8)) ∧ Below w.heap.size w w' := by
  obtain ⟨i0, hi, hz0, hz1, hz2⟩ := info_parts info5
  obtain ⟨X, hX⟩ : ∃ X, X = IntKind.u64.wrap n := ⟨_, rfl⟩
  have hX0 : 0 ≤ X := by rw [hX, IntKind.wrap_u64]; omega
  have hX1 : X ≤ 18446744073709551615 := by rw [hX, IntKind.wrap_u64]; omega
  have HP : Hid (put n = pieces 9 X) := by rw [hX]; rfl
  have HF : Hid (Fits 9 X) := by rw [hX]; exact fits_top n
  have hX' := hX.symm
  clear hX
  go_enter Try.func33, Try.ntmps33
  go_wp2
  go_loopw [3, 4] (fun sx out wr => ∃ (f : Nat) (x : Int) (xs : List Int), sx = .int .u64 x ∧ 0 ≤ x ∧ x ≤ 18446744073709551615 ∧ f + xs.length = 9 ∧ Hid (Fits f x) ∧ Hid (xs ++ pieces f x = put n) ∧
      wr.ownsRow w.heap.size 5 1 out xs.length (xs.map (Value.int .u8)) ∧ Below w.heap.size w wr)
    (fun sx _ _ => (intOf sx).toNat)
  case atStart => exact ⟨9, X, [], rfl, hX0, hX1, rfl, HF, HP.out.symm, World.ownsRow_nil _ _ _ _, Below.refl _ _⟩
  case round =>
    obtain ⟨f, x, xs, rfl, hx0, hx1, hlen, HFx, HX, hown, hbel⟩ := hrel
    by_cases hx : x < 128
    · have hw8 : IntKind.u8.wrap x = x := by rw [IntKind.wrap_u8]; omega
      go_wp2_with (at_builtin; refine wpList_append_own _ rfl _ _ 22 rfl w.heap.size 5 i0 (.int .u8 0) 1 1 Try.underlying22 hi hz0 hz1 hz2 rfl (by decide) _ _ _ rfl (hown.alloc _) ⟨wr.heap.size, 0, none⟩ 1 1 [.int .u8 x] rfl rfl ?c1 ?c2 ?c3 ?c4 ?c5 ?_)
      case c1 => exact one_new _ _ _
      case c2 => first | rfl | (intro u hu; simp at hu; subst hu; rfl)
      case c3 => unfold maxLen; omega
      case c4 => omega
      case c5 => have := hbel.size; simp; omega
      · intro v' w1 hown' hgrow _
        have R := step_own hown hbel hown' hgrow
        have HE := hid (pieces_end f x hx)
        clear hown' hgrow
        go_wp2
        go_ret
        have e : xs ++ [x] = put n := by rw [← HX.out, HE.out]
        rw [e] at R
        exact ⟨v', rfl, R⟩
    · have h1 : 128 ≤ x := by omega
      obtain ⟨f', rfl⟩ : ∃ f', f = f' + 1 := by
        cases f with
        | zero => have := fits_zero x HFx.out; omega
        | succ f' => exact ⟨f', rfl⟩
      go_wp2_with (at_builtin; refine wpList_append_own _ rfl _ _ 22 rfl w.heap.size 5 i0 (.int .u8 0) 1 1 Try.underlying22 hi hz0 hz1 hz2 rfl (by decide) _ _ _ rfl (hown.alloc _) ⟨wr.heap.size, 0, none⟩ 1 1 [.int .u8 (x % 128 + 128)] rfl rfl ?d1 ?d2 ?d3 ?d4 ?d5 ?_)
      case d2 => first | rfl | (intro u hu; simp at hu; subst hu; rfl)
      case d3 => unfold maxLen; omega
      case d4 => omega
      case d5 => have := hbel.size; simp; omega
      · intro v' w1 hown' hgrow _
        have R := step_own hown hbel hown' hgrow
        have HE := hid (pieces_on f' x (by omega))
        have HD := hid (fits_down f' x HFx.out)
        clear hown' hgrow
        go_wp2
        go_roundw
        case rel => exact ⟨f', x / 128, xs ++ [x % 128 + 128], rfl, by omega, by omega, by simp; omega, HD, by rw [← HX.out, HE.out]; simp [Hid], R.1, R.2⟩
        case measure => simp [intOf]; omega

set_option maxHeartbeats 1000000 in
theorem f21 (n : Int) (w : World) :
    Calls Try.prog 21 #[.int .i64 n] w fun e w' => ∃ v, e = .returned v ∧ w'.ownsRow w.heap.size 5 1 v (put n).length ((put n).map (Value.int .u8)) ∧ Below w.heap.size w w' := by
  obtain ⟨i0, hi, hz0, hz1, hz2⟩ := info_parts info5
  obtain ⟨X, hX⟩ : ∃ X, X = IntKind.u64.wrap n := ⟨_, rfl⟩
  have hX0 : 0 ≤ X := by rw [hX, IntKind.wrap_u64]; omega
  have hX1 : X ≤ 18446744073709551615 := by rw [hX, IntKind.wrap_u64]; omega
  have HP : Hid (put n = pieces 9 X) := by rw [hX]; rfl
  have HF : Hid (Fits 9 X) := by rw [hX]; exact fits_top n
  have hX' := hX.symm
  clear hX
  go_enter Try.func21, Try.ntmps21
  go_wp2_with (at_make; refine wpList_make_own _ rfl _ _ 22 rfl w.heap.size 5 i0 (.int .u8 0) 1 Try.underlying22 hi hz0 hz1 _ _ _ 10 rfl rfl rfl ?b2 ?b3 (Nat.le_refl _) ?_)
  case b2 => rw [hz2]; omega
  case b3 => unfold maxLen; omega
  intro w0 hown0 hgrow0
  go_wp2
  go_loopw [3, 4] (fun sx out wr => ∃ (f : Nat) (x : Int) (xs : List Int), sx = .int .u64 x ∧ 0 ≤ x ∧ x ≤ 18446744073709551615 ∧ f + xs.length = 9 ∧ Hid (Fits f x) ∧ Hid (xs ++ pieces f x = put n) ∧
      wr.ownsRow w.heap.size 5 1 out xs.length (xs.map (Value.int .u8)) ∧ Below w.heap.size w wr)
    (fun sx _ _ => (intOf sx).toNat)
  case atStart => exact ⟨9, X, [], rfl, hX0, hX1, rfl, HF, HP.out.symm, hown0, (Below.refl _ _).grown hgrow0 (Nat.le_refl _) (fun k h => by cases h)⟩
  case round =>
    obtain ⟨f, x, xs, rfl, hx0, hx1, hlen, HFx, HX, hown, hbel⟩ := hrel
    by_cases hx : x < 128
    · have hw8 : IntKind.u8.wrap x = x := by rw [IntKind.wrap_u8]; omega
      go_wp2_with (at_builtin; refine wpList_append_own _ rfl _ _ 22 rfl w.heap.size 5 i0 (.int .u8 0) 1 1 Try.underlying22 hi hz0 hz1 hz2 rfl (by decide) _ _ _ rfl (hown.alloc _) ⟨wr.heap.size, 0, none⟩ 1 1 [.int .u8 x] rfl rfl ?c1 ?c2 ?c3 ?c4 ?c5 ?_)
      case c1 => exact one_new _ _ _
      case c2 => first | rfl | (intro u hu; simp at hu; subst hu; rfl)
      case c3 => unfold maxLen; omega
      case c4 => omega
      case c5 => have := hbel.size; simp; omega
      · intro v' w1 hown' hgrow _
        have R := step_own hown hbel hown' hgrow
        have HE := hid (pieces_end f x hx)
        clear hown' hgrow
        go_wp2
        go_ret
        have e : xs ++ [x] = put n := by rw [← HX.out, HE.out]
        rw [e] at R
        exact ⟨v', rfl, R⟩
    · have h1 : 128 ≤ x := by omega
      obtain ⟨f', rfl⟩ : ∃ f', f = f' + 1 := by
        cases f with
        | zero => have := fits_zero x HFx.out; omega
        | succ f' => exact ⟨f', rfl⟩
      have hor := or_128 x hx0
      go_wp2_with (at_builtin; refine wpList_append_own _ rfl _ _ 22 rfl w.heap.size 5 i0 (.int .u8 0) 1 1 Try.underlying22 hi hz0 hz1 hz2 rfl (by decide) _ _ _ rfl (hown.alloc _) ⟨wr.heap.size, 0, none⟩ 1 1 [.int .u8 (x % 128 + 128)] rfl rfl ?d1 ?d2 ?d3 ?d4 ?d5 ?_)
      case d2 => first | rfl | (intro u hu; simp at hu; subst hu; rfl)
      case d3 => unfold maxLen; omega
      case d4 => omega
      case d5 => have := hbel.size; simp; omega
      · intro v' w1 hown' hgrow _
        have R := step_own hown hbel hown' hgrow
        have HE := hid (pieces_on f' x (by omega))
        have HD := hid (fits_down f' x HFx.out)
        clear hown' hgrow
        go_wp2
        go_roundw
        case rel => exact ⟨f', x / 128, xs ++ [x % 128 + 128], rfl, by omega, by omega, by simp; omega, HD, by rw [← HX.out, HE.out]; simp [Hid], R.1, R.2⟩
        case measure => simp [intOf]; omega
end Go.Proofs.Ytdcnnlnhopjjfaa.Put
