/- The model's reading of names and quoted texts: what l2NameAt and l2Unquote come to. -/
import Derived.Test.YtbjlnaaheahhnaaDoorRb
namespace Go.Proofs.YtbjlnaaheahhnaaDoor.Lab
open Go.RowKit Go.Proofs.YtbjlnaaheahhnaaDoor.Str

set_option maxHeartbeats 1000000 in
theorem f34 (s : ByteArray) (t : Nat) (w : World) (hs : s.size ≤ 1048576) (ht : t ≤ s.size) : Calls Tryd.prog 34 #[.string s, .int .i64 t] w fun e w' => e = .returned (.int .i64 (nmE (by' s) t)) ∧ w' = w := by
  go_enter Tryd.func34, Tryd.ntmps34
  go_wp2
  go_loop [1] (fun i => ∃ k : Nat, k ≤ s.size ∧ i = .int .i64 k ∧ Hid (nmE (by' s) t = nmE (by' s) k)) (fun i => s.size - (intOf i).toNat)
  case atStart => exact ⟨t, ht, rfl, rfl⟩
  case round =>
    obtain ⟨k, hk, rfl, HN⟩ := hrel
    by_cases hlt : k < s.size
    · have HA := hid (at_byte s k hlt)
      by_cases h1 : letB (s[k].toNat : Int) = true
      · have HE := hid (nmE_step HA.out (by simp [nbC, nbB, h1]))
        go_wp2_with (first | (go_at_call 42; refine (f42 _ _).mono ?_; rintro e w' ⟨rfl, rfl⟩) | (go_at_call 41; refine (f41 _ _).mono ?_; rintro e w' ⟨rfl, rfl⟩))
        go_round
        case rel => exact ⟨k + 1, by omega, by go_num, by unfold Hid; rw [HN.out, HE.out]⟩
        case measure => simp [intOf]; omega
      · have h1' : letB (s[k].toNat : Int) = false := by simpa using h1
        by_cases h2 : digB (s[k].toNat : Int) = true
        · have HE := hid (nmE_step HA.out (by simp [nbC, nbB, h2]))
          go_wp2_with (first | (go_at_call 42; refine (f42 _ _).mono ?_; rintro e w' ⟨rfl, rfl⟩) | (go_at_call 41; refine (f41 _ _).mono ?_; rintro e w' ⟨rfl, rfl⟩))
          go_round
          case rel => exact ⟨k + 1, by omega, by go_num, by unfold Hid; rw [HN.out, HE.out]⟩
          case measure => simp [intOf]; omega
        · have h2' : digB (s[k].toNat : Int) = false := by simpa using h2
          by_cases h3 : (s[k].toNat : Int) = 95
          · have HE := hid (nmE_step HA.out (by unfold nbC nbB; rw [h3]; simp))
            have h3' : ((s[k].toNat : Int) == 95) = true := by simp [h3]
            clear h3
            go_wp2_with (first | (go_at_call 42; refine (f42 _ _).mono ?_; rintro e w' ⟨rfl, rfl⟩) | (go_at_call 41; refine (f41 _ _).mono ?_; rintro e w' ⟨rfl, rfl⟩))
            go_round
            case rel => exact ⟨k + 1, by omega, by go_num, by unfold Hid; rw [HN.out, HE.out]⟩
            case measure => simp [intOf]; omega
          · have HE := hid (nmE_stop HA.out (by unfold nbC nbB; rw [h1', h2']; simpa using h3))
            have h3' : ((s[k].toNat : Int) == 95) = false := by simp [h3]
            clear h3
            go_wp2_with (first | (go_at_call 42; refine (f42 _ _).mono ?_; rintro e w' ⟨rfl, rfl⟩) | (go_at_call 41; refine (f41 _ _).mono ?_; rintro e w' ⟨rfl, rfl⟩))
            go_ret
            exact ⟨by rw [HN.out, HE.out]; rfl, rfl⟩
    · have HE := hid (nmE_end (l := by' s) (i := k) (by simp; omega))
      go_wp2
      go_ret
      exact ⟨by rw [HN.out, HE.out]; rfl, rfl⟩

theorem byte_eq {c d : UInt8} (h : c = d) : ((c.toNat : Int) == (d.toNat : Int)) = true := by rw [h]; simp
theorem byte_neq {c d : UInt8} (h : c ≠ d) : ((c.toNat : Int) == (d.toNat : Int)) = false := by
  rw [beq_eq_false_iff_ne]
  intro e
  exact h (UInt8.toNat_inj.1 (by omega))
theorem none_at {s : ByteArray} {t : Nat} (h : s.size ≤ t) : (by' s)[t]? = none := List.getElem?_eq_none (by simpa using h)
/-- What the call of l2Unquote leaves. -/
def UnqR (s : ByteArray) (t : Nat) (w : World) (e : Ending) (w' : World) : Prop :=
  Below w.heap.size w w' ∧ ((quo s t = none ∧ e = .returned (.tuple #[.string ⟨#[]⟩, .int .i64 (-1)])) ∨ ∃ v k, quo s t = some (v, k) ∧ e = .returned (.tuple #[.string (mkS v), .int .i64 ((k : Nat) : Int)]))

theorem own_form2 {w : World} {base e size n : Nat} {v : Value} {xs : List Value} (h : w.ownsRow base e size v n xs) : (v = .slice none 0 0 ∧ n = 0) ∨ ∃ g c, v = .slice (some ⟨g, 0, none⟩) n c := by
  rcases h.2 with ⟨h1, h2⟩ | ⟨g, cap, cur, h1, _⟩
  · exact .inl ⟨h1, h2⟩
  · exact .inr ⟨g, cap, h1⟩
theorem conv_row {w : World} {B c : Nat} {a : Option Addr} {l : List UInt8} (h : w.ownsRow B 5 1 (.slice a l.length c) l.length (Lib.byteCells l)) :
    (convert 64 9 (.slice a l.length c)).run Tryd.prog w = .ok (.string (mkS l)) w := by
  rcases own_form2 h with ⟨h1, h2⟩ | ⟨g, c', h1⟩
  · simp only [Value.slice.injEq] at h1
    obtain ⟨rfl, h3, rfl⟩ := h1
    have hl := List.eq_nil_of_length_eq_zero h2
    subst hl
    exact run_convert_bytes_nil (P := Tryd.prog) w 64 5 Tryd.underlying64 Tryd.underlying5 0 0 9 Tryd.underlying9
  · simp only [Value.slice.injEq] at h1
    obtain ⟨rfl, _, rfl⟩ := h1
    exact conv_own h rfl
end Go.Proofs.YtbjlnaaheahhnaaDoor.Lab
