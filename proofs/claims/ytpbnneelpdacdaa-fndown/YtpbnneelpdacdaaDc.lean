/- The program's DownSamples. -/
import Derived.Test.YtpbnneelpdacdaaDa
import Derived.Test.YtpbnneelpdacdaaDb
import Derived.Test.YtpbnneelpdacdaaTh
namespace Go.Proofs.Ytpbnneelpdacdaa.Agl
open Go.RowKit Go.Shelf
open Go.Proofs.Ytpbnneelpdacdaa.Smp (Sm HasS goodS)

theorem spanW (t W : Int) (w : World) (h : W ≠ 0) : Calls Try.prog 60 #[.int .i64 t, .int .i64 W] w fun e w' => e = .returned (.int .i64 (wrap64 (t - t.tmod W))) ∧ w' = w := by
  go_enter Try.func60, Try.ntmps60
  go_wp2
  go_ret
  exact ⟨rfl, rfl⟩
theorem f59 (t res : Int) (Br : Nat) (w : World) (h : res ≠ 0) (hc : w.cell? ⟨Br, 0, none⟩ = some (.int .i64 res)) : Calls Try.prog 59 (#[.int .i64 t] ++ #[.pointer (some ⟨Br, 0, none⟩)]) w fun e w' => e = .returned (.int .i64 (winOf res t)) ∧ w' = w := by
  show Calls Try.prog 59 #[.int .i64 t, .pointer (some ⟨Br, 0, none⟩)] w _
  have HS := fun x => hid (spanW (wrap64 (wrap64 (t + res) - 1)) res x h)
  go_enter Try.func59, Try.ntmps59
  go_wp2_with fail
  refine (HS _).out.mono ?_
  rintro e w2 ⟨rfl, rfl⟩
  go_wp2
  go_ret
  exact ⟨rfl, rfl⟩
theorem f33 (res : Int) (w : World) : Calls Try.prog 33 #[.int .i64 res] w fun e w' => e = .returned (.func (.func 59) #[] #[.pointer (some ⟨w.heap.size, 0, none⟩)]) ∧ w' = w.alloc (.cells #[.int .i64 res] 3) := by
  go_enter Try.func33, Try.ntmps33
  go_wp2
  go_ret
  exact ⟨rfl, rfl⟩
theorem win_box {w w' : World} {res : Int} (hw : w' = w.alloc (.cells #[.int .i64 res] 3)) : Below w.heap.size w w' ∧ w'.cell? ⟨w.heap.size, 0, none⟩ = some (.int .i64 res) ∧ w.heap.size < w'.heap.size := by
  subst hw
  refine ⟨(Below.refl _ _).alloc (Nat.le_refl _) _, ?_, by simp⟩
  go_simp
/-- What DownSamples comes to. -/
def dwn (res : Int) (ls : List Sm) : List Ag := if goodS ls = true ∧ ResP res then fw (winOf res) (ones ls) else []
/-- An answer that owns its memory from 'base' on. -/
def OwnA (w : World) (base : Nat) (v : Value) (L : List Ag) : Prop := w.ownsRow base 33 8 v L.length (flat L)
theorem OwnA.nil (w : World) (base : Nat) : OwnA w base (.slice none 0 0) [] := World.ownsRow_nil w base 33 8
theorem stops_below {gf : Nat} {lb : Array Value} {xs : List Ag} {w w' : World} (h : SeqStopsK Fence.wide 2 Try.prog gf lb (fun p : Ag => #[valA p]) (Below w.heap.size) (fun ys => ys = xs) (fun pre => pre <+: xs) xs.length w) (hb : Below w.heap.size w w') : SeqStopsK Fence.wide 2 Try.prog gf lb (fun p : Ag => #[valA p]) (Below w'.heap.size) (fun ys => ys = xs) (fun pre => pre <+: xs) xs.length w' :=
  fun l J Jx W hW hJ hJx hY h0 => h l J Jx W (hb.trans (hW.mono hb.size)) hJ hJx (fun pre x W1 hj hl => by
    obtain ⟨fn, tmps, assign, body, hy, hR⟩ := hY pre x W1 hj hl
    refine ⟨fn, tmps, assign, body, hy, hR.mono fun e W2 he => ?_⟩
    rcases he with ⟨e1, e2, e3⟩ | e3
    · exact .inl ⟨e1, e2, e3.mono hb.size⟩
    · exact .inr e3) h0

set_option maxRecDepth 100000 in
set_option maxHeartbeats 4000000 in
theorem f9 (a : Option Addr) (c : Nat) (res : Int) (ls : List Sm) (w : World) (hmax : ls.length ≤ 1048576) (hr : HasS w a ls) :
    Calls Try.prog 9 #[.slice a ls.length c, .int .i64 res] w fun e w' => ∃ v, e = .returned v ∧ OwnA w' w.heap.size v (dwn res ls) ∧ Below w.heap.size w w' := by
  have HGd := hid (Smp.f29 a c ls w (by unfold maxLen; omega) hr)
  have HR := hid hr
  clear hr
  by_cases hg : goodS ls = true
  rotate_left
  · have hg' : goodS ls = false := by simpa using hg
    have HA : Hid (dwn res ls = []) := if_neg fun h => hg h.1
    rw [hg'] at HGd
    go_enter Try.func9, Try.ntmps9
    go_wp2_with (go_at_call 29; refine HGd.out.mono ?_; rintro e w2 ⟨rfl, hb2⟩)
    go_ret
    exact ⟨_, rfl, by rw [HA.out]; exact OwnA.nil _ _, hb2⟩
  have HGood := hid hg
  rw [hg] at HGd
  clear hg
  by_cases hs : ResP res
  rotate_left
  · have HSp := hid (decide_eq_false hs)
    have HA : Hid (dwn res ls = []) := if_neg fun h => hs h.2
    clear hs
    go_enter Try.func9, Try.ntmps9
    go_wp2_with (first | (go_at_call 29; refine HGd.out.mono ?_; rintro e w2 ⟨rfl, hb2⟩) | (go_at_call 30; refine (f30 res _).mono ?_; rw [HSp.out]; rintro e w3 ⟨rfl, rfl⟩))
    go_ret
    exact ⟨_, rfl, by rw [HA.out]; exact OwnA.nil _ _, hb2⟩
  have HSp := hid (decide_eq_true hs)
  have HA : Hid (dwn res ls = fw (winOf res) (ones ls)) := if_pos ⟨HGood.out, hs⟩
  have hres : res ≠ 0 := by have := hs.1; omega
  have HLn : Hid ((ones ls).length ≤ 1048576) := Nat.le_trans (ones_len _) hmax
  clear hs
  go_enter Try.func9, Try.ntmps9
  go_wp2_with (first | (go_at_call 29; refine HGd.out.mono ?_; rintro e w2 ⟨rfl, hb2⟩) | (go_at_call 30; refine (f30 res _).mono ?_; rw [HSp.out]; rintro e w3 ⟨rfl, rfl⟩) | (go_at_call 32; refine (f32 _ _ _ _).mono ?_; rintro e w5 ⟨rfl, hw5⟩; obtain ⟨hb5, hseq⟩ := ones_stops hmax (HR.out.below hb2) hw5; have HSq := hid hseq; clear hw5 hseq) | (go_at_call 33; refine (f33 _ _).mono ?_; rintro e w6 ⟨rfl, hw6⟩; obtain ⟨hb6, hc6, hl6⟩ := win_box hw6; have HC6 := hid (And.intro hc6 hl6); clear hw6 hc6 hl6) | (go_at_call 31; refine (foldW (winOf res) w5.heap.size (ones ls) w6 HLn.out (fun t W hW => f59 t res _ W hres ((hW.cell (p := ⟨w5.heap.size, 0, none⟩) HC6.out.2).trans HC6.out.1)) (enters_of Try.func57 (by kernel_rfl) rfl) (stops_below HSq.out hb6)).mono ?_; rintro e w7 ⟨v7, rfl, ho7, hn7, hb7⟩))
  have HB7 := hid (hb2.trans ((hb5.trans ((hb6.trans (hb7.mono hb6.size)).mono hb5.size)).mono hb2.size))
  have HO7 := hid (ho7.mono (Nat.le_trans hb2.size (Nat.le_trans hb5.size hb6.size)))
  clear hn7
  go_wp2
  go_ret
  exact ⟨_, rfl, by rw [HA.out]; exact HO7.out, HB7.out⟩
end Go.Proofs.Ytpbnneelpdacdaa.Agl
