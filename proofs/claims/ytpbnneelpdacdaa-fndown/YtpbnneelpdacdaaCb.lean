/- The model's l11Real. -/
import Derived.Test.YtpbnneelpdacdaaCa
namespace Go.Proofs.Ytpbnneelpdacdaa.Smp
open Go.RowKit

set_option maxHeartbeats 2000000 in
theorem f43 (a : Option Addr) (c : Nat) (ls : List Sm) (w : World) (h20 : ls.length ≤ 1048576) (hr : HasS w a ls) :
    Calls Try.prog 43 #[.slice a ls.length c] w fun e w' => ∃ v, e = .returned v ∧ Own w' w.heap.size v (Agl.real ls) ∧ Below w.heap.size w w' := by
  obtain ⟨i0, hi, hz0, hz1, hz2⟩ := info_parts infoS
  generalize hn : ls.length = n at *
  have HN := hid hn
  clear hn
  go_enter Try.func43, Try.ntmps43
  go_wp2
  go_loopw [3, 8] (fun so si wr => ∃ (k : Nat), k ≤ n ∧ si = .int .i64 k ∧ Own wr w.heap.size so (Agl.real (ls.take k)) ∧ Below w.heap.size w wr) (fun _ si _ => n - (intOf si).toNat)
  case atStart => exact ⟨0, Nat.zero_le _, rfl, Own.nil _ _, Below.refl _ _⟩
  case round =>
    obtain ⟨k, hk, rfl, hown, hnx⟩ := hrel
    have HX := hid hnx
    have HO := hid hown
    obtain ⟨ao, co, rfl⟩ := own_form hown
    have hcl : (Agl.real (ls.take k)).length ≤ k := Nat.le_trans (List.length_filter_le _ _) (by simp; omega)
    by_cases hlt : k < n
    · rcases hr with hr | ⟨bb, off, rfl, hbl, hc⟩
      · exact absurd HN.out (by rw [hr]; simp; omega)
      obtain ⟨c0, c1'⟩ := hc k (by rw [HN.out]; exact hlt)
      have d0 := (hnx.cell (p := ⟨bb, off + k * 2, none⟩) hbl).trans c0
      have d1 := (hnx.cell (p := ⟨bb, off + k * 2 + 1, none⟩) hbl).trans c1'
      have HY := hid (Agl.real_hit (k := k) (by rw [HN.out]; exact hlt))
      have HZ := hid (Agl.real_miss (k := k) (by rw [HN.out]; exact hlt))
      clear hc c0 c1' hnx hown
      have HP : Hid (ls.getD k e0 = ((ls.getD k e0).1, (ls.getD k e0).2)) := rfl
      generalize hp : ls.getD k e0 = p at *
      obtain ⟨s, t⟩ := p
      clear hp HP
      simp only at d0 d1 HY HZ
      by_cases h1 : t = -9223372036854775808
      · have HM := hid (HZ.out (by rw [h1]; rfl))
        subst h1
        go_wp2
        go_roundw
        case rel => exact ⟨k + 1, by omega, by go_num, by rw [HM.out]; exact World.ownsRow.alloc HO.out _, HX.out.alloc HX.out.size _⟩
        case measure => simp [intOf]; omega
      · have h1' : (t != -9223372036854775808) = true := by rw [bne_iff_ne]; exact h1
        have HY := hid (HY.out h1')
        clear h1 HZ
        generalize Agl.real (ls.take k) = K at *
        go_wp2_with (at_builtin; refine wpList_append_own _ rfl (.tmp 15) (.tmp 17) 24 rfl w.heap.size 58 i0 (.agg #[.int .i64 0, .int .i64 0]) 2 16 Try.underlying24 hi hz0 hz1 hz2 rfl (by decide) _ _ _ rfl ((World.ownsRow.alloc HO.out _).alloc _) ⟨wr.heap.size + 1, 0, none⟩ 1 1 [.int .i64 s, .int .i64 t] rfl rfl ?d1 ?d2 ?d3 ?d4 ?d5 ?_)
        case d1 =>
          have := two_new (wr.alloc (.cells #[.int .i64 s, .int .i64 t] 58)) (.int .i64 s) (.int .i64 t) 58
          simp only [World.size_alloc] at this
          exact this
        case d2 => intro u hu; simp at hu; rcases hu with rfl | rfl <;> rfl
        case d3 => unfold maxLen; omega
        case d4 => omega
        case d5 => have := HX.out.size; simp; omega
        intro v1 w3 hown1 hgr1 _
        have HO2 : Hid (Own w3 w.heap.size v1 (Agl.real (ls.take (k + 1)))) := by unfold Hid Own; rw [HY.out, flat_append, List.length_append]; exact hown1
        have HX2 := hid ((((HX.out.alloc HX.out.size (.cells #[.int .i64 s, .int .i64 t] 58)).alloc (by have := HX.out.size; simp; omega) (.cells #[.int .i64 s, .int .i64 t] 58))).grown hgr1 (by have := HX.out.size; simp; omega) (fun k hk => (World.ownsRow.lt HO.out k hk).1))
        clear hown1 hgr1
        go_wp2
        go_roundw
        case rel => exact ⟨k + 1, by omega, by go_num, HO2.out, HX2.out⟩
        case measure => simp [intOf]; omega
    · go_wp2
      go_ret
      exact ⟨_, rfl, by rw [show Agl.real ls = Agl.real (ls.take k) by rw [List.take_of_length_le (by rw [HN.out]; omega)]]; exact HO.out, HX.out⟩
end Go.Proofs.Ytpbnneelpdacdaa.Smp
